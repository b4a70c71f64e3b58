/- Part 5 of the evaluator and of the contracts that the claim uses. -/
import Derived.MapKept
import Derived.Carry
import Derived.WideKeyRuns
import Derived.Test.YtnaikfcmegkdpaaStacksCheckLAA
import Derived.Test.YtnaikfcmegkdpaaStacksCheckLAB
import Derived.Test.YtnaikfcmegkdpaaStacksCheckLAC
import Derived.Test.YtnaikfcmegkdpaaStacksCheckLAD
set_option linter.unusedVariables false
set_option linter.unusedSimpArgs false
set_option linter.constructorNameAsVariable false

section
namespace Go.Lf
open Go Go.RowKit
structure Hand where
  w : World
  S : Nat → Prop
  l : Nat
  J : Nat → (Nat → Prop) → World → Prop
  Jx : Nat → World → Prop
  xss : List (List AV)
structure Hand.Ok (P : Program) (p : Hand) : Prop where
  hS : ∀ b, p.S b → b < p.w.heap.size
  hJ : ∀ k X W W', p.J k X W → Below W.heap.size W W' → p.J k X W'
  hJx : ∀ k W W', p.Jx k W → Below W.heap.size W W' → p.Jx k W'
  hJS : ∀ k X W, p.J k X W → p.w.heap.size ≤ W.heap.size ∧ (∀ b, p.S b → W.heap[b]? = p.w.heap[b]? ∧ ¬ X b) ∧ ∀ b, X b → b < W.heap.size
  hY : ∀ k X W xs vs S' m, p.J k X W → p.xss[k]? = some xs → (∀ b, S' b → (p.S b ∨ p.w.heap.size ≤ b) ∧ b < W.heap.size ∧ ¬ X b) → (∀ B1, Rc (Rv P B1 W S' m) vs xs (fun _ => 0)) →
      YieldAt (Fi none) 0 P p.l vs.toArray W fun e W' => (e = .returned (.bool true) ∧ ∃ X', p.J (k + 1) X' W' ∧ Grew X W W' ∧ ∀ b, X' b → X b ∨ W.heap.size ≤ b) ∨ (e = .returned (.bool false) ∧ p.Jx k W')
def ItS (P : Program) (cx : Cx) (p : Hand) (env : Env) (X : Nat → Prop) (a : Act) (W : World) : Prop :=
  a.defers = [] ∧ a.tmps.size = cx.N ∧ ∃ (n : Nat) (S' : Nat → Prop), 0 < n ∧ (∀ b, S' b → (p.S b ∨ p.w.heap.size ≤ b) ∧ b < W.heap.size ∧ ¬ X b) ∧
    ∀ t x, lk env t = some x → ∃ v, a.tmps[t]? = some v ∧ ∀ B1, Rv P B1 W S' n v x (fun _ => 0)
def Itr (P : Program) (cx : Cx) (p : Hand) (c : Code) (env : Env) (k : Nat) (ex : Ex) (env' : Env) (k' : Nat) : Prop :=
  ∀ (a : Act) (X : Nat → Prop) (W : World) (Q : Exit → Act → World → Prop), ItS P cx p env X a W → p.J k X W → (∀ a' X' W', ItS P cx p env' X' a' W' → p.J k' X' W' → Q ex.out a' W') →
    (∀ (a' : Act) j W', j < p.xss.length → a'.defers = [] → p.Jx j W' → Q .ret a' W') → c.wpIn (Fi none) 0 P Q a W
def ItR (P : Program) (cx : Cx) (p : Hand) (c : Code) (n : Nat) (env : Env) (k : Nat) (ex : Ex) (env' : Env) (k' : Nat) : Prop :=
  ∀ (a : Act) (X : Nat → Prop) (W : World) (Q : Exit → Act → World → Prop), ItS P cx p env X a W → p.J k X W → (∀ a' X' W', ItS P cx p env' X' a' W' → p.J k' X' W' → Q ex.out a' W') →
    (∀ (a' : Act) j W', j < p.xss.length → a'.defers = [] → p.Jx j W' → Q .ret a' W') → Code.roundsIn (Fi none) 0 P c Q n a W
def Tri0 (P : Program) (cx : Cx) (c : Code) (env : Env) (ex : Ex) (env' : Env) : Prop :=
  ∀ (F : Frm) (B0 : Nat) (w0 : World) (S0 : Nat → Prop) (ds : List Deferred) (a : Act) (w : World) (Q : Exit → Act → World → Prop), Agree P F B0 w0 S0 cx ds env a w →
    (∀ a' w', Agree P F B0 w0 S0 cx ds env' a' w' → Q ex.out a' w') → c.wpIn (Fi none) 0 P Q a w
def viewed (x : AV) : Prop := freeA x = true ∧ remode (fun _ => .any) 12 x = x
def EnvV (env : Env) : Prop := ∀ q ∈ env, viewed q.2
def EnvSub (env2 env : Env) : Prop := ∀ t x, lk env2 t = some x → lk env t = some x
section
variable {P : Program} {cx : Cx} {p : Hand} {H : Hints}
theorem EnvV.lk {env : Env} (h : EnvV env) {t : Nat} {x : AV} (hx : lk env t = some x) : viewed x := h _ (lk_mem hx)
def findReg (id : Nat) : Code → Option Code
  | .region i ops d => if i = id then some (.region i ops d) else none
  | .seq a b => (findReg id a).orElse fun _ => findReg id b
  | .cond _ a b => (findReg id a).orElse fun _ => findReg id b
  | .block _ a => findReg id a
  | .loop a => findReg id a
  | .rangeFunc _ _ a b => (findReg id a).orElse fun _ => findReg id b
  | _ => none
def regAt (fn : Func) (id : Nat) : Code := match fn.body with
  | some c => (findReg id c).getD .skip
  | none => .skip
def opsAt (fn : Func) (id : Nat) : Array Oper := match regAt fn id with
  | .region _ ops _ => ops
  | _ => #[]
def isReg : Code → Bool
  | .region .. => true
  | _ => false
theorem evA_ok0 (hcx : CxBase P cx) (hK : ∀ f xs, cx.K f xs = none) (hM : ∀ f x, x ≠ .bad → cx.KM f x = none) {c : Code} (hc : isReg c = true) {env env' : Env} {ex : Ex} {ans ans' : List Ans} {ps : List Prop}
    (h : evA P cx H c env ans = some ((ex, env'), ans', ps)) (hp : ∀ q ∈ ps, q) : Tri0 P cx c env ex env' := by
  cases c with
  | region id ops draw =>
    intro F B0 w0 S0 ds a w Q hag hQ
    simp only [evA] at h
    split at h
    · rename_i env2 as2 ps2 hr
      injection h with h; injection h with h1 h2; injection h1 with h1 h3; injection h2 with h2 h4; subst h1 h2 h3 h4
      exact evRegionA_ok none hcx hK hM hr hp hag fun a' w' ha => hQ a' w' ha.keep
    · cases h
  | _ => cases hc
theorem ItS.agree (hlo : cx.lo = 0) {env : Env} {X : Nat → Prop} {a : Act} {W : World} (h : ItS P cx p env X a W) :
    ∃ S', (∀ b, S' b → (p.S b ∨ p.w.heap.size ≤ b) ∧ b < W.heap.size ∧ ¬ X b) ∧ Agree P ⟨fun _ => False, 0, #[]⟩ W.heap.size W S' cx [] env a W := by
  obtain ⟨hd, hN, n, S', hn, hS', hrel⟩ := h
  refine ⟨S', hS', hd, ⟨hN, hlo.symm⟩, n, S', fun _ _ => 0, hn, .refl _ _, Below.refl _ _, Nat.le_refl _, fun b hb => (hS' b hb).2.1, fun _ _ _ => rfl, fun _ _ => Nat.zero_le _, fun _ _ _ _ => .inl rfl, ?_, fun _ _ _ => rfl, ?_, fun _ h => h.elim, fun _ h => absurd h (Nat.not_lt_zero _)⟩
  · intro t x hx
    obtain ⟨v, hv, hr⟩ := hrel t x hx
    exact ⟨v, hv, .inr (hr _)⟩
  · intro t x r hx hr
    obtain ⟨v, hv, hrv⟩ := hrel t x hx
    rw [(hrv 0).noLeaf] at hr; cases hr
theorem ItS.back (hp : p.Ok P) {k : Nat} {env env2 : Env} {X : Nat → Prop} {a' : Act} {W W' : World} {S' : Nat → Prop} (hJ : p.J k X W) (hS' : ∀ b, S' b → (p.S b ∨ p.w.heap.size ≤ b) ∧ b < W.heap.size ∧ ¬ X b)
    (hag : Agree P ⟨fun _ => False, 0, #[]⟩ W.heap.size W S' cx [] env a' W') (hv : EnvV env2) (hs : EnvSub env2 env) : ItS P cx p env2 X a' W' ∧ Below W.heap.size W W' ∧ p.J k X W' := by
  obtain ⟨hd, hN, n, S1, Os, hn, hgr, hst⟩ := hag
  refine ⟨⟨hd, hN.1, n, S1, hn, fun b hb => ?_, fun t x hx => ?_⟩, hst.below, hp.hJ _ _ _ _ hJ hst.below⟩
  · have hz := (hp.hJS k X W hJ).1
    rcases hgr.2 b hb with h | h
    · exact ⟨(hS' b h).1, hst.sLt b hb, (hS' b h).2.2⟩
    · exact ⟨.inr (by omega), hst.sLt b hb, fun hx => by have := (hp.hJS k X W hJ).2.2 b hx; omega⟩
  · obtain ⟨v, hv1, hs1⟩ := hst.rel t x (hs t x hx)
    obtain ⟨h1, h2⟩ := hv.lk hx
    have hr := hs1.rv (freeA_leaf h1)
    refine ⟨v, hv1, fun B1 => ?_⟩
    have := Rv.viewed (B1 := B1) (fun b hb => hb) n 12 v x (Os t) (fun b hb => by have := freeA_zero hr h1 b; omega) hr
    rwa [h2] at this
theorem Itr.seg (hp : p.Ok P) (hlo : cx.lo = 0) {c : Code} {env env' env2 : Env} {ex : Ex} {k : Nat} (h : Tri0 P cx c env ex env') (hv : EnvV env2) (hs : EnvSub env2 env') : Itr P cx p c env k ex env2 k := by
  intro a X W Q hi hJ hQ hX
  obtain ⟨S', hS', hag⟩ := hi.agree hlo
  refine h _ _ _ _ _ _ _ _ hag fun a' W' ha => ?_
  obtain ⟨h1, _, h3⟩ := ItS.back hp hJ hS' ha hv hs
  exact hQ a' X W' h1 h3
theorem Itr.seq {c d : Code} {env env1 env' : Env} {ex : Ex} {k k1 k' : Nat} (h1 : Itr P cx p c env k .normal env1 k1) (h2 : Itr P cx p d env1 k1 ex env' k') : Itr P cx p (.seq c d) env k ex env' k' := by
  intro a X W Q hi hJ hQ hX
  exact wpIn_seq (h1 a X W _ hi hJ (fun a' X' W' hi' hJ' => h2 a' X' W' Q hi' hJ' hQ hX) hX)
theorem Itr.seqX {c d : Code} {env env' : Env} {ex : Ex} {k k' : Nat} (h1 : Itr P cx p c env k ex env' k') (hne : ex ≠ .normal) : Itr P cx p (.seq c d) env k ex env' k' := by
  intro a X W Q hi hJ hQ hX
  refine wpIn_seq (h1 a X W _ hi hJ (fun a' X' W' hi' hJ' => ?_) hX)
  cases ex with
  | normal => exact absurd rfl hne
  | exit id => exact hQ a' X' W' hi' hJ'
  | ret => exact hQ a' X' W' hi' hJ'
theorem Itr.block {id : Nat} {c : Code} {env env' : Env} {k k' : Nat} {ex ex' : Ex} (h : Itr P cx p c env k ex env' k') (he : (ex = .exit id ∧ ex' = .normal) ∨ (ex ≠ .exit id ∧ ex' = ex)) : Itr P cx p (.block id c) env k ex' env' k' := by
  intro a X W Q hi hJ hQ hX
  refine wpIn_block (h a X W _ hi hJ (fun a' X' W' hi' hJ' => ?_) hX)
  rcases he with ⟨rfl, rfl⟩ | ⟨hne, rfl⟩
  · simp only [Ex.out, Exit.inBlock, if_true]; exact hQ a' X' W' hi' hJ'
  · cases ex' with
    | normal => exact hQ a' X' W' hi' hJ'
    | ret => exact hQ a' X' W' hi' hJ'
    | exit id' =>
      have : id' ≠ id := fun e => hne (e ▸ rfl)
      simp only [Ex.out, Exit.inBlock, this, if_false]; exact hQ a' X' W' hi' hJ'
theorem ItS.bool {env : Env} {X : Nat → Prop} {a : Act} {W : World} (h : ItS P cx p env X a W) {t : Nat} {b : Bool} (hl : lk env t = some (.atom (.bool b))) : a.eval (.tmp t) = .bool b := by
  obtain ⟨_, _, n, S', hn, _, hrel⟩ := h
  obtain ⟨v, hv, hr⟩ := hrel t _ hl
  obtain ⟨m, rfl⟩ : ∃ m, n = m + 1 := ⟨n - 1, by omega⟩
  have := (hr 0).1
  subst this
  simp [Act.eval, Array.getD_eq_getD_getElem?, hv]
theorem Itr.cond {t : Nat} {b : Bool} {c d : Code} {env env' : Env} {ex : Ex} {k k' : Nat} (hl : lk env t = some (.atom (.bool b))) (h : Itr P cx p (if b = true then c else d) env k ex env' k') : Itr P cx p (.cond (.tmp t) c d) env k ex env' k' := by
  intro a X W Q hi hJ hQ hX
  have hb := hi.bool hl
  cases b with
  | true => exact wpIn_cond_true hb (h a X W Q hi hJ hQ hX)
  | false => exact wpIn_cond_false hb (h a X W Q hi hJ hQ hX)
theorem ItS.sub {env env2 : Env} {X : Nat → Prop} {a : Act} {W : World} (h : ItS P cx p env X a W) (hs : EnvSub env2 env) : ItS P cx p env2 X a W := by
  obtain ⟨hd, hN, n, S', hn, hS', hrel⟩ := h
  exact ⟨hd, hN, n, S', hn, hS', fun t x hx => hrel t x (hs t x hx)⟩
theorem Itr.skip {env env2 : Env} {k : Nat} (hs : EnvSub env2 env) : Itr P cx p .skip env k .normal env2 k := fun _ _ _ _ hi hJ hQ _ => wpIn_skip (hQ _ _ _ (hi.sub hs) hJ)
theorem Itr.exit {id : Nat} {env env2 : Env} {k : Nat} (hs : EnvSub env2 env) : Itr P cx p (.exit id) env k (.exit id) env2 k := fun _ _ _ _ hi hJ hQ _ => wpIn_exit (hQ _ _ _ (hi.sub hs) hJ)
theorem Itr.ret {env env2 : Env} {k : Nat} (hs : EnvSub env2 env) : Itr P cx p .ret env k .ret env2 k := fun _ _ _ _ hi hJ hQ _ => wpIn_ret (hQ _ _ _ (hi.sub hs) hJ)
theorem ItR.step {c : Code} {n : Nat} {env env1 env' : Env} {ex : Ex} {k k1 k' : Nat} (h : Itr P cx p c env k .normal env1 k1) (h2 : ItR P cx p c n env1 k1 ex env' k') : ItR P cx p c (n + 1) env k ex env' k' := by
  intro a X W Q hi hJ hQ hX
  rw [roundsIn_succ]
  exact h a X W _ hi hJ (fun a' X' W' hi' hJ' => h2 a' X' W' Q hi' hJ' hQ hX) hX
theorem ItR.exit {c : Code} {n : Nat} {env env' : Env} {ex : Ex} {k k' : Nat} (h : Itr P cx p c env k ex env' k') (hne : ex ≠ .normal) : ItR P cx p c (n + 1) env k ex env' k' := by
  intro a X W Q hi hJ hQ hX
  rw [roundsIn_succ]
  refine h a X W _ hi hJ (fun a' X' W' hi' hJ' => ?_) hX
  cases ex with
  | normal => exact absurd rfl hne
  | exit id => exact hQ a' X' W' hi' hJ'
  | ret => exact hQ a' X' W' hi' hJ'
theorem ItR.loop {c : Code} {n : Nat} {env env' : Env} {ex : Ex} {k k' : Nat} (h : ItR P cx p c n env k ex env' k') : Itr P cx p (.loop c) env k ex env' k' :=
  fun a X W Q hi hJ hQ hX => wpIn_loop_rounds n (h a X W Q hi hJ hQ hX)
variable {F : Frm} {B0 : Nat} {w0 : World} {S0 : Nat → Prop} {ds : List Deferred} {Q : Exit → Act → World → Prop}
theorem evOpsA_pre {ρ : Option Nat} {ops : Array Oper} (rest : List Oper) : ∀ (os : List Oper) {env : Env} {es : List (List Nat × Eff)} {a : Act} {w : World}, es.length = os.length →
    (∀ i o, os[i]? = some o → ∃ x cxi, es[i]? = some x ∧ CxOk P cxi ∧ cxi.N = cx.N ∧ cxi.lo = cx.lo ∧ (stepP cxi ops o).run (atE es i env) = some x) → Agree P F B0 w0 S0 cx ds env a w →
    (∀ a' w', Agree P F B0 w0 S0 cx ds (es.foldl (fun env x => applyEff x.2 env) env) a' w' → wpListIn (Fi ρ) 0 P ops Q rest a' w') → wpListIn (Fi ρ) 0 P ops Q (os ++ rest) a w
  | [], env, es, a, w, hl, _, hag, hQ => by
    have : es = [] := List.eq_nil_of_length_eq_zero hl
    subst this
    exact hQ a w hag
  | o :: os, env, [], a, w, hl, _, _, _ => by simp at hl
  | o :: os, env, x :: es, a, w, hl, hstep, hag, hQ => by
    obtain ⟨hd, hN, n, S, Os, hn, hgr, hst⟩ := hag
    obtain ⟨x', cxi, hx, hci, hcN, hcl, hrun⟩ := hstep 0 o rfl
    have : x' = x := by simpa using hx.symm
    subst this
    have hrun' : (stepP cxi ops o).run env = some (x'.1, x'.2) := hrun
    have key := fun Q' => stepP_okI ρ (Q := Q') hci hst hn (by rw [hcN, hcl]; exact hN) hrun'
    have next : ∀ a' w', Post P F B0 w0 S cxi env x'.2 a a' w' → wpListIn (Fi ρ) 0 P ops Q (os ++ rest) a' w' := by
      intro a' w' ⟨h1, h2, n', S', Os', k1, k2, k3⟩
      rw [hcN, hcl] at h2
      exact evOpsA_pre rest os (by simpa using hl) (fun i o h => by
        obtain ⟨y, cxj, g1, g2⟩ := hstep (i + 1) o (by simpa using h)
        exact ⟨y, cxj, by simpa using g1, g2⟩) ⟨h1.trans hd, h2, n', S', Os', k1, hgr.trans k2, k3⟩ hQ
    show wpListIn (Fi ρ) 0 P ops Q (o :: (os ++ rest)) a w
    unfold wpListIn
    have k1 := key Q
    split
    · rename_i hw
      rw [if_pos hw] at k1
      exact Oper.wpIn_mono next k1
    · rename_i hw
      rw [if_neg hw] at k1
      exact ⟨fun _ _ => trivial, next _ _ k1⟩
def opsEnv (P : Program) (cx : Cx) (ops : Array Oper) (os : List Oper) (env : Env) (an : List Ans) : Option (Env × List Prop) :=
  match evOpsA P cx ops os env an with
  | some ((_, env'), _, ps) => some (env', ps)
  | none => none
theorem opsEnv_ok {ops : Array Oper} {os : List Oper} {env env' : Env} {an : List Ans} {ps : List Prop} (h : opsEnv P cx ops os env an = some (env', ps)) : ∃ ls as', evOpsA P cx ops os env an = some ((ls, env'), as', ps) := by
  unfold opsEnv at h
  split at h
  · rename_i ls e as' qs he
    injection h with h; injection h with h1 h2; subst h1 h2
    exact ⟨ls, as', he⟩
  · cases h
def argT (env : Env) : List Operand → Option (List AV)
  | [] => some []
  | .tmp t :: l => match lk env t, argT env l with
    | some x, some xs => some (x :: xs)
    | _, _ => none
  | _ => none
theorem Itr.yield (hp : p.Ok P) (hcx : CxBase P cx) (hlo : cx.lo = 0) (hK : ∀ f xs, cx.K f xs = none) (hM : ∀ f x, x ≠ .bad → cx.KM f x = none) {id : Nat} {ops : Array Oper} {pre post : List Oper} {y : Oper} {g d b : Nat} {args : Array Operand} {ats : Array TypeId}
    (hops : ops.toList = pre ++ y :: post) (hy : y.op = .call { callee := .value (.tmp g), args := args, argTypes := ats }) (hyg : y.guard = none) (hyd : y.dst = some d) (hdN : d < cx.N)
    {env env1 env1v env2 env2v env3 : Env} {as1 as2 as3 : List Ans} {ps1 ps2 ps3 : List Prop} {k : Nat} {xs : List AV}
    (hpre : opsEnv P cx ops pre env as1 = some (env1, ps1)) (hp1 : ∀ q ∈ ps1, q) (hv1 : EnvV env1v) (hs1 : EnvSub env1v env1) 
    (hg : lk env1v g = some (.atom (.func (.yield p.l) #[] #[]))) (harg : argT env1v args.toList = some xs) (hxs : p.xss[k]? = some xs)
    (hpt : opsEnv P cx ops post ((d, .atom (.bool true)) :: env1v) as2 = some (env2, ps2)) (hp2 : ∀ q ∈ ps2, q) (hbt : lk env2 b = some (.atom (.bool false))) (hv2 : EnvV env2v) (hs2 : EnvSub env2v env2)
    (hpf : opsEnv P cx ops post [(d, .atom (.bool false))] as3 = some (env3, ps3)) (hp3 : ∀ q ∈ ps3, q) (hbf : lk env3 b = some (.atom (.bool true))) :
    Itr P cx p (.seq (.region id ops false) (.cond (.tmp b) .ret .skip)) env k .normal env2v (k + 1) := by
  intro a X W Q hi hJ hQ hX
  obtain ⟨ls1, as1', hpre⟩ := opsEnv_ok hpre
  obtain ⟨ls2, as2', hpt⟩ := opsEnv_ok hpt
  obtain ⟨ls3, as3', hpf⟩ := opsEnv_ok hpf
  refine wpIn_seq (wpIn_region_list ?_)
  rw [hops]
  obtain ⟨S', hS', hag⟩ := hi.agree hlo
  obtain ⟨es, e1, _, _, rfl, e4⟩ := evOpsA_split hcx hK hM hpre hp1
  refine evOpsA_pre (y :: post) pre e1 e4 hag fun a1 W1 hag1 => ?_
  obtain ⟨hi1, hB1, hJ1⟩ := ItS.back hp hJ hS' hag1 hv1 hs1
  unfold wpListIn
  have hw : Region.wanted y (yielded ops a1.tmps) = true := by unfold Region.wanted; rw [hyg]
  rw [if_pos hw]
  -- what follows, whatever the answer
  have after : ∀ (q : Bool) (e4 env4 : Env) (as4 as4' : List Ans) (ls4 : List Log) (ps4 : List Prop), evOpsA P cx ops post ((d, .atom (.bool q)) :: e4) as4 = some ((ls4, env4), as4', ps4) → (∀ r ∈ ps4, r) →
      ∀ (a2 : Act) (W2 : World) (S2 : Nat → Prop), Agree P ⟨fun _ => False, 0, #[]⟩ W2.heap.size W2 S2 cx [] ((d, .atom (.bool q)) :: e4) a2 W2 → ∀ Q2 : Exit → Act → World → Prop,
      (∀ a3 W3, Agree P ⟨fun _ => False, 0, #[]⟩ W2.heap.size W2 S2 cx [] env4 a3 W3 → Q2 .normal a3 W3) → wpListIn (Fi none) 0 P ops Q2 post a2 W2 := by
    intro q e4 env4 as4 as4' ls4 ps4 h4 hp4 a2 W2 S2 hag2 Q2 hQ2
    obtain ⟨es4, f1, _, _, rfl, f4⟩ := evOpsA_split hcx hK hM h4 hp4
    exact evOpsA_ok none post f1 f4 hag2 hQ2
  -- the call
  obtain ⟨hd1', hN1, n1, S1, hn1, hS1, hrel1⟩ := (show ItS P cx p env1v X a1 W1 from hi1)
  obtain ⟨vs, hvs, hrc⟩ : ∃ vs : List Value, args.toList.map a1.eval = vs ∧ ∀ B1, Rc (Rv P B1 W1 S1 n1) vs xs (fun _ => 0) := by
    refine ⟨_, rfl, ?_⟩
    clear hy hxs
    generalize args.toList = al at harg
    induction al generalizing xs with
    | nil => injection harg with harg; subst harg; exact fun _ => .nil fun _ => rfl
    | cons o al ih =>
      cases o with
      | tmp t =>
        simp only [argT] at harg
        cases hl : lk env1v t with
        | none => rw [hl] at harg; cases harg
        | some x =>
          cases hr : argT env1v al with
          | none => rw [hl, hr] at harg; cases harg
          | some ys =>
            rw [hl, hr] at harg
            injection harg with harg; subst harg
            obtain ⟨v, hv, hrv⟩ := hrel1 t x hl
            intro B1
            have he : a1.eval (.tmp t) = v := by simp [Act.eval, Array.getD_eq_getD_getElem?, hv]
            rw [List.map_cons, he]
            exact .cons (hrv B1) (ih hr B1) fun _ => rfl
      | _ => cases harg
  have hgv : a1.eval (.tmp g) = .func (.yield p.l) #[] #[] := by
    obtain ⟨v, hv, hr⟩ := hrel1 g _ hg
    obtain ⟨m, rfl⟩ : ∃ m, n1 = m + 1 := ⟨n1 - 1, by omega⟩
    have := (hr 0).1
    subst this
    simp [Act.eval, Array.getD_eq_getD_getElem?, hv]
  obtain ⟨fn, tm, as', bo, hyy, hround⟩ := hp.hY k X W1 xs vs S1 n1 hJ1 hxs hS1 hrc
  have hargs : args.map a1.eval = vs.toArray := by rw [← hvs, ← Array.toList_map, Array.toArray_toList]
  have hrun : (execOp a1.eval y).run P W1 = .ok (.round p.l fn tm as' bo) W1 := by
    rw [execOp, hy]
    simp [resolve, hgv, hargs, Deferred.ofValue, invoke, hyy]
  refine ⟨fun _ _ => trivial, ?_⟩
  rw [show (Fi none).round = none from rfl, Oper.semAt_eq _ _ _ (by rw [hy]; intro c h; cases h), hrun, Oper.uponIn_round]
  refine ⟨(fun h => nomatch h), hround.mono ?_⟩
  have hdT : d < a1.tmps.size := by rw [hN1]; exact hdN
  -- the slots behind the call
  have slots : ∀ (q : Bool) (W2 : World) (X2 : Nat → Prop), (∀ b, S1 b → W2.heap[b]? = W1.heap[b]? ∧ ¬ X2 b) → W1.heap.size ≤ W2.heap.size → ItS P cx p ((d, .atom (.bool q)) :: env1v) X2 (a1.put y.dst (.bool q)) W2 := by
    intro q W2 X2 hW2 hsz
    refine ⟨by rw [hyd]; exact hd1', by rw [hyd]; simpa [Act.put] using hN1, n1, S1, hn1, fun b hb => ⟨(hS1 b hb).1, Nat.lt_of_lt_of_le (hS1 b hb).2.1 hsz, (hW2 b hb).2⟩, fun t x hx => ?_⟩
    rw [hyd]
    simp only [lk] at hx
    split at hx
    · rename_i e; subst e
      injection hx with hx; subst hx
      refine ⟨.bool q, by simp [Act.put, hdT], fun B1 => ?_⟩
      obtain ⟨m, rfl⟩ : ∃ m, n1 = m + 1 := ⟨n1 - 1, by omega⟩
      exact ⟨rfl, fun _ => rfl⟩
    · rename_i e
      obtain ⟨v, hv, hr⟩ := hrel1 t x hx
      refine ⟨v, by simp [Act.put, Array.getElem?_setIfInBounds_ne e, hv], fun B1 => Rv.frame (fun _ h => h) (fun b hb => (hW2 b hb).1) _ _ _ _ (fun b hb => absurd hb (by simp)) (hr B1)⟩
  rintro e W2 (⟨rfl, X2, hJ2, hgw, hX2⟩ | ⟨rfl, hJ2⟩)
  · have hi2 := slots true W2 X2 (fun b hb => ⟨hgw.block b (hS1 b hb).2.1 (hS1 b hb).2.2, fun hx => by
      rcases hX2 b hx with h | h
      · exact (hS1 b hb).2.2 h
      · have := (hS1 b hb).2.1; omega⟩) hgw.size
    obtain ⟨S2, hS2, hag2⟩ := hi2.agree hlo
    refine after true _ _ _ _ _ _ hpt hp2 _ _ _ hag2 _ fun a3 W3 hag3 => ?_
    obtain ⟨hi3, _, hJ3⟩ := ItS.back hp hJ2 hS2 hag3 hv2 hs2
    exact wpIn_cond_false (hag3.bool hbt) (wpIn_skip (hQ _ _ _ hi3 hJ3))
  · have hi2 : ItS P cx p [(d, .atom (.bool false))] (fun _ => False) (a1.put y.dst (.bool false)) W2 := by
      refine ⟨by rw [hyd]; exact hd1', by rw [hyd]; simpa [Act.put] using hN1, 1, fun _ => False, Nat.one_pos, fun b hb => hb.elim, fun t x hx => ?_⟩
      rw [hyd]
      simp only [lk] at hx
      split at hx
      · rename_i e; subst e
        injection hx with hx; subst hx
        exact ⟨.bool false, by simp [Act.put, hdT], fun B1 => ⟨rfl, fun _ => rfl⟩⟩
      · cases hx
    obtain ⟨S2, hS2, hag2⟩ := hi2.agree hlo
    refine after false _ _ _ _ _ _ hpf hp3 _ _ _ hag2 _ fun a3 W3 hag3 => ?_
    obtain ⟨hd3, _, n3, S3, Os3, _, _, hst3⟩ := (show Agree P _ _ _ _ _ _ _ _ _ from hag3)
    exact wpIn_cond_true (hag3.bool hbf) (wpIn_ret (hX a3 k W3 (List.getElem?_eq_some_iff.1 hxs).1 hd3 (hp.hJx _ _ _ hJ2 hst3.below)))
end
end Go.Lf
end

section
namespace Go.Lf
open Go Go.RowKit
section
variable {P : Program} {cx : Cx}
theorem seqT {f : FuncId} {fn : Func} {c : Code} {cs : List AV} {xss : List (List AV)} {ex : Ex} (hf : P.funcs[f]? = some fn) (hname : (fn.name == "runtime.NumGoroutine") = false) (hb : fn.body = some c) (hN : fn.ntmps = cx.N) (hres : fn.results = #[]) (hlen : cs.length + 1 ≤ cx.N)
    (hcs : ∀ x ∈ cs, viewed x) (h : ∀ p : Hand, p.Ok P → p.xss = xss → ∃ env', Itr P cx p c (envOf (.atom (.func (.yield p.l) #[] #[]) :: cs)) 0 ex env' xss.length) (hex : ex = .normal ∨ ex = .ret) : SeqC P f cs xss := by
  refine ⟨?_, ?_⟩
  · intro args w
    have hn' : ¬ (fn.name = "runtime.NumGoroutine") := by simpa using hname
    simp [callFunc, hf, hn', hb]
  · intro w S n lb l J Jx hS hrc hJ hJx hJS hY X hJ0
    obtain ⟨env', hit⟩ := h ⟨w, S, l, J, Jx, xss⟩ ⟨hS, hJ, hJx, hJS, hY⟩ rfl
    refine calls_of_wp hf hb ?_
    refine (wpIn_wide (n := 0)).1 ?_
    have hll := hrc.length
    have hsz : ((Value.func (.yield l) #[] #[] :: lb).toArray).size ≤ cx.N := by simp; omega
    have hlt : ∀ (t : Nat) (v : Value), (Value.func (.yield l) #[] #[] :: lb)[t]? = some v → ((Value.func (.yield l) #[] #[] :: lb).toArray ++ Array.replicate (fn.ntmps - (Value.func (.yield l) #[] #[] :: lb).toArray.size) undef)[t]? = some v := by
      intro t v hv
      have htl : t < (Value.func (.yield l) #[] #[] :: lb).length := (List.getElem?_eq_some_iff.1 hv).1
      rw [Array.getElem?_append_left (by simpa using htl)]
      simpa using hv
    have hi : ItS P cx ⟨w, S, l, J, Jx, xss⟩ (envOf (.atom (.func (.yield l) #[] #[]) :: cs)) X { tmps := (Value.func (.yield l) #[] #[] :: lb).toArray ++ Array.replicate (fn.ntmps - (Value.func (.yield l) #[] #[] :: lb).toArray.size) undef, defers := [] } w := by
      refine ⟨rfl, by rw [Array.size_append, Array.size_replicate, hN]; omega, n + 1, S, Nat.succ_pos n, fun b hb => ⟨.inl hb, hS b hb, ((hJS 0 X w hJ0).2.1 b hb).2⟩, fun t x hx => ?_⟩
      rw [lk_envOf] at hx
      cases t with
      | zero =>
        injection hx with hx; subst hx
        exact ⟨_, hlt 0 _ rfl, fun B1 => ⟨rfl, fun _ => rfl⟩⟩
      | succ t =>
        have hx' : cs[t]? = some x := by simpa using hx
        obtain ⟨v, O1, hv, hr, hO⟩ := hrc.get hx'
        refine ⟨v, hlt (t + 1) v (by simpa using hv), fun B1 => ?_⟩
        obtain ⟨_, h2⟩ := hcs x (List.mem_of_getElem? hx')
        have := Rv.viewed (B1 := B1) (fun b hb => hb) n 12 v x O1 (fun b hb => by have := hO b; simp at this; omega) hr
        rw [h2] at this
        exact this.le (Nat.le_succ n)
    have hret : ∀ (a' : Act) (W' : World), (results fn a'.tmps).run P W' = .ok (.tuple #[]) W' := by
      intro a' W'
      simp [results, hres]
    refine hit _ X w _ hi hJ0 (fun a' X' W' hi' hJ' => ?_) fun a' j W' hj hd hx => ⟨hd, _, hret a' W', ⟨_, rfl⟩, .inr ⟨j, hj, hx⟩⟩
    rcases hex with rfl | rfl
    · exact ⟨hi'.1, _, hret a' W', ⟨_, rfl⟩, .inl ⟨X', hJ'⟩⟩
    · exact ⟨hi'.1, _, hret a' W', ⟨_, rfl⟩, .inl ⟨X', hJ'⟩⟩
end
end Go.Lf
end

section
open Go Go.Lf Go.Proofs
namespace Tst
set_option maxHeartbeats 0
abbrev yv (l : Nat) : AV := .atom (.func (.yield l) #[] #[])
abbrev hbx (cf : Option Nat) (F : List Stk) (cb : Option Nat) (B : List Stk) : AV := .vadr [bsl cf F, bsl cb B] 0
abbrev bdl : AV := .agg [ub 0, ub 1]
theorem hd0_0 (l : Nat) (cf cb : Option Nat) (F B : List Stk) : Tri0 Try.prog (cxN 32 0) (regAt Try.f69 0) ([(0, yv l), (1, hbx cf F cb B)] ) (Ex.normal) ([(0, AV.atom (Value.func (Fn.yield l) #[] #[])), (1, AV.vadr [bsl cf F, bsl cb B] 0), (7, AV.agg [ub (0 : Int), ub (1 : Int)]), (8, it (0 : Int))]) :=
  evA_ok0 (H := h69) (ans := [Ans.c, Ans.c]) (ps := []) (ans' := []) (base 32 0) cxA_K.1 cxA_K.2 (by kernel_rfl) (by kernel_rfl)  allp_nil
theorem hd1_0 (l : Nat) (cf cb : Option Nat) (F B : List Stk) (j : Int) : Tri0 Try.prog (cxN 32 0) (regAt Try.f69 1) ([(0, yv l), (1, hbx cf F cb B), (7, bdl), (8, it j)] ) (Ex.normal) ([(0, AV.atom (Value.func (Fn.yield l) #[] #[])), (1, AV.vadr [bsl cf F, bsl cb B] 0), (7, AV.agg [ub (0 : Int), ub (1 : Int)]), (8, it j), (9, bb (decide (j < (2 : Int))))]) :=
  evA_ok0 (H := h69) (ans := [Ans.c]) (ps := []) (ans' := []) (base 32 0) cxA_K.1 cxA_K.2 (by kernel_rfl) (by kernel_rfl)  allp_nil
theorem hd2a_0 (l : Nat) (cf cb : Option Nat) (F B : List Stk) : Tri0 Try.prog (cxN 32 0) (regAt Try.f69 2) ([(0, yv l), (1, hbx cf F cb B), (7, bdl), (8, it 0)] ) (Ex.normal) ([(0, AV.atom (Value.func (Fn.yield l) #[] #[])), (1, AV.vadr [bsl cf F, bsl cb B] 0), (4, ub (0 : Int)), (7, AV.agg [ub (0 : Int), ub (1 : Int)]), (8, it (0 : Int))]) :=
  evA_ok0 (H := h69) (ans := [Ans.c, Ans.c, Ans.c, Ans.c]) (ps := []) (ans' := []) (base 32 0) cxA_K.1 cxA_K.2 (by kernel_rfl) (by kernel_rfl)  allp_nil
theorem hd2b_0 (l : Nat) (cf cb : Option Nat) (F B : List Stk) : Tri0 Try.prog (cxN 32 0) (regAt Try.f69 2) ([(0, yv l), (1, hbx cf F cb B), (7, bdl), (8, it 1)] ) (Ex.normal) ([(0, AV.atom (Value.func (Fn.yield l) #[] #[])), (1, AV.vadr [bsl cf F, bsl cb B] 0), (4, ub (1 : Int)), (7, AV.agg [ub (0 : Int), ub (1 : Int)]), (8, it (1 : Int))]) :=
  evA_ok0 (H := h69) (ans := [Ans.c, Ans.c, Ans.c, Ans.c]) (ps := []) (ans' := []) (base 32 0) cxA_K.1 cxA_K.2 (by kernel_rfl) (by kernel_rfl)  allp_nil
theorem hd3a_0 (l : Nat) (cf cb : Option Nat) (F B : List Stk) : Tri0 Try.prog (cxN 32 0) (regAt Try.f69 3) ([(0, yv l), (1, hbx cf F cb B), (4, ub 0), (7, bdl), (8, it 0)] ) (Ex.normal) ([(0, AV.atom (Value.func (Fn.yield l) #[] #[])), (1, AV.vadr [bsl cf F, bsl cb B] 0), (4, ub (0 : Int)), (7, AV.agg [ub (0 : Int), ub (1 : Int)]), (8, it (0 : Int)), (13, AV.sl Mode.any 62 (if ((0 : Int) == (0 : Int)) = true then cf else cb) (List.map Stk.enc (if ((0 : Int) == (0 : Int)) = true then F else B))), (14, it (↑(List.length (List.map Stk.enc (if ((0 : Int) == (0 : Int)) = true then F else B))) : Int)), (15, it (0 : Int))]) :=
  evA_ok0 (H := h69) (ans := [Ans.c, Ans.c, Ans.r (AV.sl Mode.any 62 (if ((0 : Int) == (0 : Int)) = true then cf else cb) (List.map Stk.enc (if ((0 : Int) == (0 : Int)) = true then F else B))), Ans.c, Ans.c, Ans.c, Ans.c]) (ps := [PureC Try.prog 59 [view (AV.agg [bsl cf F, bsl cb B]), ub (0 : Int)] (AV.sl Mode.any 62 (if ((0 : Int) == (0 : Int)) = true then cf else cb) (List.map Stk.enc (if ((0 : Int) == (0 : Int)) = true then F else B)))]) (ans' := []) (base 32 0) cxA_K.1 cxA_K.2 (by kernel_rfl) (by kernel_rfl)  (allp (by (first | rw [view_yn] | rw [view_two] | rw [view_twoI] | rw [view_beds] | skip); first | (apply bdo_c <;> (first | assumption | rfl | (simp at * <;> omega)))) allp_nil)
theorem hd3b_0 (l : Nat) (cf cb : Option Nat) (F B : List Stk) : Tri0 Try.prog (cxN 32 0) (regAt Try.f69 3) ([(0, yv l), (1, hbx cf F cb B), (4, ub 1), (7, bdl), (8, it 1)] ) (Ex.normal) ([(0, AV.atom (Value.func (Fn.yield l) #[] #[])), (1, AV.vadr [bsl cf F, bsl cb B] 0), (4, ub (1 : Int)), (7, AV.agg [ub (0 : Int), ub (1 : Int)]), (8, it (1 : Int)), (13, AV.sl Mode.any 62 (if ((1 : Int) == (0 : Int)) = true then cf else cb) (List.map Stk.enc (if ((1 : Int) == (0 : Int)) = true then F else B))), (14, it (↑(List.length (List.map Stk.enc (if ((1 : Int) == (0 : Int)) = true then F else B))) : Int)), (15, it (0 : Int))]) :=
  evA_ok0 (H := h69) (ans := [Ans.c, Ans.c, Ans.r (AV.sl Mode.any 62 (if ((1 : Int) == (0 : Int)) = true then cf else cb) (List.map Stk.enc (if ((1 : Int) == (0 : Int)) = true then F else B))), Ans.c, Ans.c, Ans.c, Ans.c]) (ps := [PureC Try.prog 59 [view (AV.agg [bsl cf F, bsl cb B]), ub (1 : Int)] (AV.sl Mode.any 62 (if ((1 : Int) == (0 : Int)) = true then cf else cb) (List.map Stk.enc (if ((1 : Int) == (0 : Int)) = true then F else B)))]) (ans' := []) (base 32 0) cxA_K.1 cxA_K.2 (by kernel_rfl) (by kernel_rfl)  (allp (by (first | rw [view_yn] | rw [view_two] | rw [view_twoI] | rw [view_beds] | skip); first | (apply bdo_c <;> (first | assumption | rfl | (simp at * <;> omega)))) allp_nil)
theorem hd4_0 (l : Nat) (cf cb c : Option Nat) (F B L : List Stk) (i j d m : Int) : Tri0 Try.prog (cxN 32 0) (regAt Try.f69 4) ([(0, yv l), (1, hbx cf F cb B), (4, ub d), (7, bdl), (8, it j), (13, bsl c L), (14, it m), (15, it i)] ) (Ex.normal) ([(0, AV.atom (Value.func (Fn.yield l) #[] #[])), (1, AV.vadr [bsl cf F, bsl cb B] 0), (4, ub d), (7, AV.agg [ub (0 : Int), ub (1 : Int)]), (8, it j), (13, bsl c L), (14, it m), (15, it i), (16, bb (decide (i < m)))]) :=
  evA_ok0 (H := h69) (ans := [Ans.c]) (ps := []) (ans' := []) (base 32 0) cxA_K.1 cxA_K.2 (by kernel_rfl) (by kernel_rfl)  allp_nil
theorem hd5_0 (l : Nat) (cf cb c : Option Nat) (F B L : List Stk) (i j d m : Int) (g0 : decide ((0 : Int) ≤ i ∧ i < (↑(List.length (List.map Stk.enc L)) : Int)) = true) (g1 : List.getD (List.map Stk.enc L) (Int.toNat i) AV.bad = Stk.enc (List.getD L (Int.toNat i) default)) : Tri0 Try.prog (cxN 32 0) (regAt Try.f69 5) ([(0, yv l), (1, hbx cf F cb B), (4, ub d), (7, bdl), (8, it j), (13, bsl c L), (14, it m), (15, it i)] ) (Ex.normal) ([(0, AV.atom (Value.func (Fn.yield l) #[] #[])), (1, AV.vadr [bsl cf F, bsl cb B] 0), (4, ub d), (5, it i), (6, AV.sl Mode.any 30 (Stk.c (List.getD L (Int.toNat i) default)) (List.map Idd.enc (Stk.l (List.getD L (Int.toNat i) default)))), (7, AV.agg [ub (0 : Int), ub (1 : Int)]), (8, it j), (13, bsl c L), (14, it m), (15, it i)]) :=
  evA_ok0 (H := h69) (ans := [Ans.c, Ans.b true, Ans.r (Stk.enc (List.getD L (Int.toNat i) default)), Ans.c, Ans.c, Ans.c, Ans.c]) (ps := [decide ((0 : Int) ≤ i ∧ i < (↑(List.length (List.map Stk.enc L)) : Int)) = true, List.getD (List.map Stk.enc L) (Int.toNat i) AV.bad = Stk.enc (List.getD L (Int.toNat i) default)]) (ans' := []) (base 32 0) cxA_K.1 cxA_K.2 (by kernel_rfl) (by kernel_rfl)  (allp g0 (allp g1 allp_nil))
theorem hd6_0 (l : Nat) (cf cb c : Option Nat) (F B L : List Stk) (s : Stk) (i j d m : Int) : Tri0 Try.prog (cxN 32 0) (regAt Try.f69 6) ([(0, yv l), (1, hbx cf F cb B), (4, ub d), (5, it i), (6, .sl .any 30 s.c (s.l.map Idd.enc)), (7, bdl), (8, it j), (13, bsl c L), (14, it m), (15, it i)] ) (Ex.normal) ([(0, AV.atom (Value.func (Fn.yield l) #[] #[])), (1, AV.vadr [bsl cf F, bsl cb B] 0), (4, ub d), (5, it i), (6, AV.sl Mode.any 30 (Stk.c s) (List.map Idd.enc (Stk.l s))), (7, AV.agg [ub (0 : Int), ub (1 : Int)]), (8, it j), (13, bsl c L), (14, it m), (15, it i), (21, bb (i == (40 : Int)))]) :=
  evA_ok0 (H := h69) (ans := [Ans.c, Ans.c]) (ps := []) (ans' := []) (base 32 0) cxA_K.1 cxA_K.2 (by kernel_rfl) (by kernel_rfl)  allp_nil
theorem hd8_0 (l : Nat) (cf cb c : Option Nat) (F B L : List Stk) (i j d m : Int) : Tri0 Try.prog (cxN 32 0) (regAt Try.f69 8) ([(0, yv l), (1, hbx cf F cb B), (4, ub d), (7, bdl), (8, it j), (13, bsl c L), (14, it m), (15, it i)] ) (Ex.normal) ([(0, AV.atom (Value.func (Fn.yield l) #[] #[])), (1, AV.vadr [bsl cf F, bsl cb B] 0), (4, ub d), (7, AV.agg [ub (0 : Int), ub (1 : Int)]), (8, it j), (13, bsl c L), (14, it m), (15, it (IntKind.wrap IntKind.i64 (i + (1 : Int))))]) :=
  evA_ok0 (H := h69) (ans := [Ans.c, Ans.c]) (ps := []) (ans' := []) (base 32 0) cxA_K.1 cxA_K.2 (by kernel_rfl) (by kernel_rfl)  allp_nil
theorem hd9_0 (l : Nat) (cf cb : Option Nat) (F B : List Stk) (j : Int) : Tri0 Try.prog (cxN 32 0) (regAt Try.f69 9) ([(0, yv l), (1, hbx cf F cb B), (7, bdl), (8, it j)] ) (Ex.normal) ([(0, AV.atom (Value.func (Fn.yield l) #[] #[])), (1, AV.vadr [bsl cf F, bsl cb B] 0), (7, AV.agg [ub (0 : Int), ub (1 : Int)]), (8, it (IntKind.wrap IntKind.i64 (j + (1 : Int))))]) :=
  evA_ok0 (H := h69) (ans := [Ans.c, Ans.c]) (ps := []) (ans' := []) (base 32 0) cxA_K.1 cxA_K.2 (by kernel_rfl) (by kernel_rfl)  allp_nil
end Tst
end

section
open Go Go.Lf Go.Proofs
namespace Tst
theorem EnvSub.nil {env : Env} : EnvSub [] env := fun t x h => by simp [lk] at h
theorem EnvSub.cons {env l : Env} {t : Nat} {x : AV} (h : lk env t = some x) (hs : EnvSub l env) : EnvSub ((t, x) :: l) env := by
  intro t' y hy
  simp only [lk] at hy
  split at hy
  · rename_i e; subst e; injection hy with hy; subst hy; exact h
  · exact hs t' y hy
theorem EnvV.nil : EnvV [] := fun q h => by simp at h
theorem EnvV.cons {l : Env} {t : Nat} {x : AV} (h : viewed x) (hs : EnvV l) : EnvV ((t, x) :: l) := by
  intro q hq
  rcases List.mem_cons.1 hq with rfl | hq
  · exact h
  · exact hs q hq
theorem vd_atom (v : Value) : viewed (.atom v) := ⟨rfl, rfl⟩
theorem vd_bsl (c : Option Nat) (l : List Stk) : viewed (bsl c l) := ⟨rfl, view_stk .any c l⟩
theorem vd_isl (c : Option Nat) (l : List Idd) : viewed (.sl .any 30 c (l.map Idd.enc)) := ⟨rfl, view_id .any c l⟩
theorem vd_hbx (cf : Option Nat) (F : List Stk) (cb : Option Nat) (B : List Stk) : viewed (hbx cf F cb B) := by
  refine ⟨rfl, ?_⟩
  show AV.vadr [.sl .any 62 cf ((F.map Stk.enc).map (mapE (remode (fun _ => .any) 10))), .sl .any 62 cb ((B.map Stk.enc).map (mapE (remode (fun _ => .any) 10)))] 0 = _
  rw [map_stk, map_stk]
theorem vd_bdl : viewed bdl := ⟨rfl, rfl⟩
theorem vd_ndl (d i : Int) : viewed (ndl d i) := ⟨rfl, rfl⟩
abbrev eL (l : Nat) (cf : Option Nat) (F : List Stk) (cb : Option Nat) (B : List Stk) (d j : Int) (c : Option Nat) (L : List Stk) (i : Int) : Env :=
  [(0, yv l), (1, hbx cf F cb B), (4, ub d), (7, bdl), (8, it j), (13, bsl c L), (14, it ((L.map Stk.enc).length : Nat)), (15, it i)]
abbrev eS (l : Nat) (cf : Option Nat) (F : List Stk) (cb : Option Nat) (B : List Stk) (d j : Int) (c : Option Nat) (L : List Stk) (i : Int) (s : Stk) : Env :=
  [(0, yv l), (1, hbx cf F cb B), (4, ub d), (5, it i), (6, .sl .any 30 s.c (s.l.map Idd.enc)), (7, bdl), (8, it j), (13, bsl c L), (14, it ((L.map Stk.enc).length : Nat)), (15, it i)]
abbrev eO (l : Nat) (cf : Option Nat) (F : List Stk) (cb : Option Nat) (B : List Stk) (j : Int) : Env := [(0, yv l), (1, hbx cf F cb B), (7, bdl), (8, it j)]
def hdL (d : Int) (L : List Stk) : List (List AV) := (L.take 40).zipIdx.map fun q => [ndl d ((q.2 : Int) + 1), q.1.enc]
theorem inner_code : loopBody Try.f69 1 = .seq (regAt Try.f69 4) (.seq (.cond (.tmp 16) .skip (.exit 2)) (.seq (.block 3 (.seq (regAt Try.f69 5) (.seq (.seq (regAt Try.f69 6) (.cond (.tmp 21) (.exit 2) .skip)) (.seq (.region 7 (opsAt Try.f69 7) false) (.cond (.tmp 29) .ret .skip))))) (regAt Try.f69 8))) := by kernel_rfl
theorem outer_code : loopBody Try.f69 0 = .seq (regAt Try.f69 1) (.seq (.cond (.tmp 9) .skip (.exit 0)) (.seq (.block 1 (.seq (regAt Try.f69 2) (.seq (regAt Try.f69 3) (.block 2 (.loop (loopBody Try.f69 1)))))) (regAt Try.f69 9))) := by kernel_rfl
theorem body_code : Try.f69.body = some (.seq (regAt Try.f69 0) (.block 0 (.loop (loopBody Try.f69 0)))) := by kernel_rfl
section
variable {p : Hand} (hp : p.Ok Try.prog) (cf cb c : Option Nat) (F B L : List Stk)
include hp
theorem inner_end (d j : Int) (i : Nat) (k : Nat) (hi : i = L.length) : Itr Try.prog (cxN 32 0) p (loopBody Try.f69 1) (eL p.l cf F cb B d j c L i) k (.exit 2) (eO p.l cf F cb B j) k := by
  rw [inner_code]
  refine .seq (.seg hp rfl (hd4_0 p.l cf cb c F B L i j d ((L.map Stk.enc).length : Nat)) (env2 := (16, bb false) :: eL p.l cf F cb B d j c L i) (by repeat (first | exact EnvV.nil | refine EnvV.cons (by first | exact vd_atom _ | exact vd_bsl _ _ | exact vd_isl _ _ | exact vd_hbx _ _ _ _ | exact vd_bdl | exact vd_ndl _ _) ?_)) ?_) ?_
  · refine EnvSub.cons ?_ (by repeat (first | exact EnvSub.nil | refine EnvSub.cons rfl ?_))
    show some (AV.atom (.bool (decide ((i : Int) < ((L.map Stk.enc).length : Nat))))) = _
    rw [decide_eq_false (by simp; omega)]
  · exact .seqX (.cond (b := false) rfl (.exit (by repeat (first | exact EnvSub.nil | refine EnvSub.cons rfl ?_)))) (by simp)
theorem inner_40 (d j : Int) (k : Nat) (hi : 40 < L.length) : Itr Try.prog (cxN 32 0) p (loopBody Try.f69 1) (eL p.l cf F cb B d j c L 40) k (.exit 2) (eO p.l cf F cb B j) k := by
  rw [inner_code]
  refine .seq (.seg hp rfl (hd4_0 p.l cf cb c F B L 40 j d ((L.map Stk.enc).length : Nat)) (env2 := (16, bb true) :: eL p.l cf F cb B d j c L 40) (by repeat (first | exact EnvV.nil | refine EnvV.cons (by first | exact vd_atom _ | exact vd_bsl _ _ | exact vd_isl _ _ | exact vd_hbx _ _ _ _ | exact vd_bdl | exact vd_ndl _ _) ?_)) ?_) ?_
  · refine EnvSub.cons ?_ (by repeat (first | exact EnvSub.nil | refine EnvSub.cons rfl ?_))
    show some (AV.atom (.bool (decide ((40 : Int) < ((L.map Stk.enc).length : Nat))))) = _
    rw [decide_eq_true (by simp; omega)]
  refine .seq (.cond (b := true) rfl (.skip (env2 := eL p.l cf F cb B d j c L 40) (by repeat (first | exact EnvSub.nil | refine EnvSub.cons rfl ?_)))) (.seqX (.block (ex := .exit 2) ?_ (.inr ⟨by simp, rfl⟩)) (by simp))
  have g1 : List.getD (List.map Stk.enc L) (Int.toNat 40) AV.bad = Stk.enc (List.getD L (Int.toNat 40) default) := by
    simp only [List.getD_eq_getElem?_getD, List.getElem?_map]
    rw [List.getElem?_eq_getElem (by simpa using hi)]; rfl
  refine .seq (.seg hp rfl (hd5_0 p.l cf cb c F B L 40 j d ((L.map Stk.enc).length : Nat) (by simp; omega) g1) (env2 := eS p.l cf F cb B d j c L 40 (L.getD (Int.toNat 40) default)) (by repeat (first | exact EnvV.nil | refine EnvV.cons (by first | exact vd_atom _ | exact vd_bsl _ _ | exact vd_isl _ _ | exact vd_hbx _ _ _ _ | exact vd_bdl | exact vd_ndl _ _) ?_)) (by repeat (first | exact EnvSub.nil | refine EnvSub.cons rfl ?_))) ?_
  refine .seqX (.seq (.seg hp rfl (hd6_0 p.l cf cb c F B L _ 40 j d ((L.map Stk.enc).length : Nat)) (env2 := (21, bb true) :: eL p.l cf F cb B d j c L 40) (by repeat (first | exact EnvV.nil | refine EnvV.cons (by first | exact vd_atom _ | exact vd_bsl _ _ | exact vd_isl _ _ | exact vd_hbx _ _ _ _ | exact vd_bdl | exact vd_ndl _ _) ?_)) (by repeat (first | exact EnvSub.nil | refine EnvSub.cons rfl ?_))) ?_) (by simp)
  exact .cond (b := true) rfl (.exit (by repeat (first | exact EnvSub.nil | refine EnvSub.cons rfl ?_)))
theorem inner_step (d j : Int) (i : Nat) (k : Nat) (hi : i < L.length) (h40 : i < 40) (hx : p.xss[k]? = some [ndl d ((i : Int) + 1), (L.getD i default).enc]) : Itr Try.prog (cxN 32 0) p (loopBody Try.f69 1) (eL p.l cf F cb B d j c L i) k .normal (eL p.l cf F cb B d j c L (i + 1)) (k + 1) := by
  have hw : IntKind.i64.wrap ((i : Int) + 1) = (i : Int) + 1 := wrap_id' (by omega) (by omega)
  rw [inner_code]
  refine .seq (.seg hp rfl (hd4_0 p.l cf cb c F B L i j d ((L.map Stk.enc).length : Nat)) (env2 := (16, bb true) :: eL p.l cf F cb B d j c L i) (by repeat (first | exact EnvV.nil | refine EnvV.cons (by first | exact vd_atom _ | exact vd_bsl _ _ | exact vd_isl _ _ | exact vd_hbx _ _ _ _ | exact vd_bdl | exact vd_ndl _ _) ?_)) ?_) ?_
  · refine EnvSub.cons ?_ (by repeat (first | exact EnvSub.nil | refine EnvSub.cons rfl ?_))
    show some (AV.atom (.bool (decide ((i : Int) < ((L.map Stk.enc).length : Nat))))) = _
    rw [decide_eq_true (by simp; omega)]
  refine .seq (.cond (b := true) rfl (.skip (env2 := eL p.l cf F cb B d j c L i) (by repeat (first | exact EnvSub.nil | refine EnvSub.cons rfl ?_)))) (.seq (env1 := eL p.l cf F cb B d j c L i) (k1 := k + 1) (.block (ex := .normal) ?_ (.inr ⟨by simp, rfl⟩)) ?_)
  rotate_left
  · refine .seg hp rfl (hd8_0 p.l cf cb c F B L i j d ((L.map Stk.enc).length : Nat)) (by repeat (first | exact EnvV.nil | refine EnvV.cons (by first | exact vd_atom _ | exact vd_bsl _ _ | exact vd_isl _ _ | exact vd_hbx _ _ _ _ | exact vd_bdl | exact vd_ndl _ _) ?_)) ?_
    repeat (first | exact EnvSub.nil | refine EnvSub.cons rfl ?_ | refine EnvSub.cons (by show some (AV.atom (.int .i64 _)) = _; rw [hw]) ?_)
  have g1 : List.getD (List.map Stk.enc L) (Int.toNat i) AV.bad = Stk.enc (List.getD L (Int.toNat i) default) := by
    simp only [List.getD_eq_getElem?_getD, List.getElem?_map]
    rw [List.getElem?_eq_getElem (by simpa using hi)]; rfl
  refine .seq (.seg hp rfl (hd5_0 p.l cf cb c F B L i j d ((L.map Stk.enc).length : Nat) (by simp; omega) g1) (env2 := eS p.l cf F cb B d j c L i (L.getD (Int.toNat i) default)) (by repeat (first | exact EnvV.nil | refine EnvV.cons (by first | exact vd_atom _ | exact vd_bsl _ _ | exact vd_isl _ _ | exact vd_hbx _ _ _ _ | exact vd_bdl | exact vd_ndl _ _) ?_)) (by repeat (first | exact EnvSub.nil | refine EnvSub.cons rfl ?_))) ?_
  refine .seq (.seq (.seg hp rfl (hd6_0 p.l cf cb c F B L _ i j d ((L.map Stk.enc).length : Nat)) (env2 := (21, bb false) :: eS p.l cf F cb B d j c L i (L.getD (Int.toNat i) default)) (by repeat (first | exact EnvV.nil | refine EnvV.cons (by first | exact vd_atom _ | exact vd_bsl _ _ | exact vd_isl _ _ | exact vd_hbx _ _ _ _ | exact vd_bdl | exact vd_ndl _ _) ?_)) ?_) (.cond (b := false) rfl (.skip (env2 := eS p.l cf F cb B d j c L i (L.getD (Int.toNat i) default)) (by repeat (first | exact EnvSub.nil | refine EnvSub.cons rfl ?_))))) ?_
  · refine EnvSub.cons ?_ (by repeat (first | exact EnvSub.nil | refine EnvSub.cons rfl ?_))
    show some (AV.atom (.bool ((i : Int) == 40))) = _
    rw [show ((i : Int) == 40) = false by simp; omega]
  refine Itr.yield hp (base 32 0) rfl cxA_K.1 cxA_K.2 (ops := opsAt Try.f69 7) (pre := (opsAt Try.f69 7).toList.take 6) (y := (opsAt Try.f69 7).toList.getD 6 default) (post := (opsAt Try.f69 7).toList.drop 7) (g := 22) (d := 28) (b := 29) (args := #[.tmp 26, .tmp 27]) (ats := #[61, 62])
    (by kernel_rfl) (by kernel_rfl) (by kernel_rfl) (by kernel_rfl) (by decide)
    (env1 := (27, .sl .any 30 (Stk.c (List.getD L (Int.toNat i) default)) (List.map Idd.enc (Stk.l (List.getD L (Int.toNat i) default)))) :: (26, ndl d (IntKind.i64.wrap ((i : Int) + 1))) :: (25, it (IntKind.i64.wrap ((i : Int) + 1))) :: (24, it i) :: (23, ub d) :: (22, yv p.l) :: eS p.l cf F cb B d j c L i (L.getD (Int.toNat i) default))
    (as1 := [.c, .c, .c, .c, .c, .c]) (ps1 := []) (as2 := [.c]) (as3 := [.c]) (ps2 := []) (ps3 := [])
    (by kernel_rfl) allp_nil (env1v := (27, .sl .any 30 (Stk.c (List.getD L (Int.toNat i) default)) (List.map Idd.enc (Stk.l (List.getD L (Int.toNat i) default)))) :: (26, ndl d (IntKind.i64.wrap ((i : Int) + 1))) :: (22, yv p.l) :: eL p.l cf F cb B d j c L i) (by repeat (first | exact EnvV.nil | refine EnvV.cons (by first | exact vd_atom _ | exact vd_bsl _ _ | exact vd_isl _ _ | exact vd_hbx _ _ _ _ | exact vd_bdl | exact vd_ndl _ _) ?_)) (by repeat (first | exact EnvSub.nil | refine EnvSub.cons rfl ?_)) rfl (xs := [ndl d ((i : Int) + 1), (L.getD i default).enc]) (by refine (show some [ndl d (IntKind.i64.wrap ((i : Int) + 1)), (L.getD i default).enc] = _ from ?_); rw [hw]) hx
    (env2 := (29, bb false) :: (28, bb true) :: (27, .sl .any 30 (Stk.c (List.getD L (Int.toNat i) default)) (List.map Idd.enc (Stk.l (List.getD L (Int.toNat i) default)))) :: (26, ndl d (IntKind.i64.wrap ((i : Int) + 1))) :: (22, yv p.l) :: eL p.l cf F cb B d j c L i) (by kernel_rfl) allp_nil rfl (by repeat (first | exact EnvV.nil | refine EnvV.cons (by first | exact vd_atom _ | exact vd_bsl _ _ | exact vd_isl _ _ | exact vd_hbx _ _ _ _ | exact vd_bdl | exact vd_ndl _ _) ?_)) (by repeat (first | exact EnvSub.nil | refine EnvSub.cons rfl ?_))
    (env3 := [(29, bb true), (28, bb false)]) (by kernel_rfl) allp_nil rfl
theorem inner_loop (d j : Int) : ∀ (n i k : Nat), i + n = min L.length 40 → (∀ q, q < n → p.xss[k + q]? = some [ndl d (((i + q : Nat) : Int) + 1), (L.getD (i + q) default).enc]) →
    ItR Try.prog (cxN 32 0) p (loopBody Try.f69 1) (n + 1) (eL p.l cf F cb B d j c L i) k (.exit 2) (eO p.l cf F cb B j) (k + n)
  | 0, i, k, h, _ => by
    by_cases hl : i = L.length
    · exact .exit (inner_end hp cf cb c F B L d j i k hl) (by simp)
    · have : i = 40 := by omega
      subst this
      exact .exit (inner_40 hp cf cb c F B L d j k (by omega)) (by simp)
  | n + 1, i, k, h, hx => by
    have h1 := inner_step hp cf cb c F B L d j i k (by omega) (by omega) (by simpa using hx 0 (by omega))
    have h2 := inner_loop d j n (i + 1) (k + 1) (by omega) fun q hq => by
      have := hx (q + 1) (by omega)
      rw [show k + (q + 1) = k + 1 + q by omega, show i + (q + 1) = i + 1 + q by omega] at this
      exact this
    rw [show k + 1 + n = k + (n + 1) by omega] at h2
    exact .step h1 h2
end
end Tst
end

section
open Go Go.Lf Go.Proofs
namespace Tst
theorem hdL_length (d : Int) (L : List Stk) : (hdL d L).length = min L.length 40 := by simp [hdL, Nat.min_comm]
theorem hdL_get (d : Int) (L : List Stk) (q : Nat) (h : q < min L.length 40) : (hdL d L)[q]? = some [ndl d ((q : Int) + 1), (L.getD q default).enc] := by
  have h1 : q < L.length := by omega
  have h2 : q < 40 := by omega
  simp [hdL, List.getElem?_zipIdx, List.getElem?_take, h1, h2, List.getD_eq_getElem?_getD]
section
variable {p : Hand} (hp : p.Ok Try.prog) (cf cb : Option Nat) (F B : List Stk)
include hp
theorem outer_0 (hx : ∀ q, q < min F.length 40 → p.xss[0 + q]? = some [ndl 0 (((0 + q : Nat) : Int) + 1), (F.getD (0 + q) default).enc]) :
    Itr Try.prog (cxN 32 0) p (loopBody Try.f69 0) (eO p.l cf F cb B 0) 0 .normal (eO p.l cf F cb B 1) (0 + min F.length 40) := by
  rw [outer_code]
  refine .seq (.seg hp rfl (hd1_0 p.l cf cb F B 0) (env2 := (9, bb true) :: eO p.l cf F cb B 0) (by repeat (first | exact EnvV.nil | refine EnvV.cons (by first | exact vd_atom _ | exact vd_bsl _ _ | exact vd_isl _ _ | exact vd_hbx _ _ _ _ | exact vd_bdl | exact vd_ndl _ _) ?_)) (by repeat (first | exact EnvSub.nil | refine EnvSub.cons rfl ?_))) ?_
  refine .seq (.cond (b := true) rfl (.skip (env2 := eO p.l cf F cb B 0) (by repeat (first | exact EnvSub.nil | refine EnvSub.cons rfl ?_)))) ?_
  refine .seq (env1 := eO p.l cf F cb B 0) (.block (ex := .normal) ?_ (.inr ⟨by simp, rfl⟩)) (.seg hp rfl (hd9_0 p.l cf cb F B 0) (by repeat (first | exact EnvV.nil | refine EnvV.cons (by first | exact vd_atom _ | exact vd_bsl _ _ | exact vd_isl _ _ | exact vd_hbx _ _ _ _ | exact vd_bdl | exact vd_ndl _ _) ?_)) (by repeat (first | exact EnvSub.nil | refine EnvSub.cons rfl ?_)))
  refine .seq (.seg hp rfl (hd2a_0 p.l cf cb F B) (env2 := [(0, yv p.l), (1, hbx cf F cb B), (4, ub 0), (7, bdl), (8, it 0)]) (by repeat (first | exact EnvV.nil | refine EnvV.cons (by first | exact vd_atom _ | exact vd_bsl _ _ | exact vd_isl _ _ | exact vd_hbx _ _ _ _ | exact vd_bdl | exact vd_ndl _ _) ?_)) (by repeat (first | exact EnvSub.nil | refine EnvSub.cons rfl ?_))) ?_
  refine .seq (.seg hp rfl (hd3a_0 p.l cf cb F B) (env2 := eL p.l cf F cb B 0 0 cf F 0) (by repeat (first | exact EnvV.nil | refine EnvV.cons (by first | exact vd_atom _ | exact vd_bsl _ _ | exact vd_isl _ _ | exact vd_hbx _ _ _ _ | exact vd_bdl | exact vd_ndl _ _) ?_)) (by repeat (first | exact EnvSub.nil | refine EnvSub.cons rfl ?_))) ?_
  exact .block (ex := .exit 2) (inner_loop hp cf cb cf F B F 0 0 (min F.length 40) 0 0 (by omega) hx).loop (.inl ⟨rfl, rfl⟩)
theorem outer_1 (k : Nat) (hx : ∀ q, q < min B.length 40 → p.xss[k + q]? = some [ndl 1 (((0 + q : Nat) : Int) + 1), (B.getD (0 + q) default).enc]) :
    Itr Try.prog (cxN 32 0) p (loopBody Try.f69 0) (eO p.l cf F cb B 1) k .normal (eO p.l cf F cb B 2) (k + min B.length 40) := by
  rw [outer_code]
  refine .seq (.seg hp rfl (hd1_0 p.l cf cb F B 1) (env2 := (9, bb true) :: eO p.l cf F cb B 1) (by repeat (first | exact EnvV.nil | refine EnvV.cons (by first | exact vd_atom _ | exact vd_bsl _ _ | exact vd_isl _ _ | exact vd_hbx _ _ _ _ | exact vd_bdl | exact vd_ndl _ _) ?_)) (by repeat (first | exact EnvSub.nil | refine EnvSub.cons rfl ?_))) ?_
  refine .seq (.cond (b := true) rfl (.skip (env2 := eO p.l cf F cb B 1) (by repeat (first | exact EnvSub.nil | refine EnvSub.cons rfl ?_)))) ?_
  refine .seq (env1 := eO p.l cf F cb B 1) (.block (ex := .normal) ?_ (.inr ⟨by simp, rfl⟩)) (.seg hp rfl (hd9_0 p.l cf cb F B 1) (by repeat (first | exact EnvV.nil | refine EnvV.cons (by first | exact vd_atom _ | exact vd_bsl _ _ | exact vd_isl _ _ | exact vd_hbx _ _ _ _ | exact vd_bdl | exact vd_ndl _ _) ?_)) (by repeat (first | exact EnvSub.nil | refine EnvSub.cons rfl ?_)))
  refine .seq (.seg hp rfl (hd2b_0 p.l cf cb F B) (env2 := [(0, yv p.l), (1, hbx cf F cb B), (4, ub 1), (7, bdl), (8, it 1)]) (by repeat (first | exact EnvV.nil | refine EnvV.cons (by first | exact vd_atom _ | exact vd_bsl _ _ | exact vd_isl _ _ | exact vd_hbx _ _ _ _ | exact vd_bdl | exact vd_ndl _ _) ?_)) (by repeat (first | exact EnvSub.nil | refine EnvSub.cons rfl ?_))) ?_
  refine .seq (.seg hp rfl (hd3b_0 p.l cf cb F B) (env2 := eL p.l cf F cb B 1 1 cb B 0) (by repeat (first | exact EnvV.nil | refine EnvV.cons (by first | exact vd_atom _ | exact vd_bsl _ _ | exact vd_isl _ _ | exact vd_hbx _ _ _ _ | exact vd_bdl | exact vd_ndl _ _) ?_)) (by repeat (first | exact EnvSub.nil | refine EnvSub.cons rfl ?_))) ?_
  exact .block (ex := .exit 2) (inner_loop hp cf cb cb F B B 1 1 (min B.length 40) 0 k (by omega) hx).loop (.inl ⟨rfl, rfl⟩)
theorem outer_2 (k : Nat) : Itr Try.prog (cxN 32 0) p (loopBody Try.f69 0) (eO p.l cf F cb B 2) k (.exit 0) [] k := by
  rw [outer_code]
  refine .seq (.seg hp rfl (hd1_0 p.l cf cb F B 2) (env2 := (9, bb false) :: eO p.l cf F cb B 2) (by repeat (first | exact EnvV.nil | refine EnvV.cons (by first | exact vd_atom _ | exact vd_bsl _ _ | exact vd_isl _ _ | exact vd_hbx _ _ _ _ | exact vd_bdl | exact vd_ndl _ _) ?_)) (by repeat (first | exact EnvSub.nil | refine EnvSub.cons rfl ?_))) ?_
  exact .seqX (.cond (b := false) rfl (.exit (by repeat (first | exact EnvSub.nil | refine EnvSub.cons rfl ?_)))) (by simp)
end
theorem held_s (cf cb : Option Nat) (F B : List Stk) : SeqC Try.prog 69 [hbx cf F cb B] (hdL 0 F ++ hdL 1 B) := by
  refine seqT (cx := cxN 32 0) Try.func69 rfl body_code rfl rfl (by show 1 + 1 ≤ 32; omega) (fun x hx => by rw [List.mem_singleton.1 hx]; exact vd_hbx cf F cb B) (fun p hp hxs => ⟨[], ?_⟩) (.inl rfl)
  have hl : (hdL 0 F ++ hdL 1 B).length = 0 + min F.length 40 + min B.length 40 := by rw [List.length_append, hdL_length, hdL_length]; omega
  rw [hl]
  refine .seq (.seg hp rfl (hd0_0 p.l cf cb F B) (env2 := eO p.l cf F cb B 0) (by repeat (first | exact EnvV.nil | refine EnvV.cons (by first | exact vd_atom _ | exact vd_bsl _ _ | exact vd_isl _ _ | exact vd_hbx _ _ _ _ | exact vd_bdl | exact vd_ndl _ _) ?_)) (by repeat (first | exact EnvSub.nil | refine EnvSub.cons rfl ?_))) (.block (ex := .exit 0) (ItR.loop (n := 3) ?_) (.inl ⟨rfl, rfl⟩))
  refine .step (outer_0 hp cf cb F B fun q hq => ?_) (.step (outer_1 hp cf cb F B _ fun q hq => ?_) (.exit (outer_2 hp cf cb F B _) (by simp)))
  · rw [hxs, Nat.zero_add, List.getElem?_append_left (by rw [hdL_length]; exact hq)]
    exact hdL_get 0 F q hq
  · rw [hxs, Nat.zero_add, Nat.zero_add, List.getElem?_append_right (by rw [hdL_length]; omega), hdL_length, show min F.length 40 + q - min F.length 40 = q by omega]
    exact hdL_get 1 B q hq
end Tst
end

section
open Go Go.Lf Go.Proofs
namespace Tst
set_option maxHeartbeats 0
theorem hlb_0 (cf cb : Option Nat) (F B : List Stk) : Tri Try.prog (cxN 4 0) (codeAt Try.f60 1) ([(1, hbx cf F cb B)] ) (Ex.normal) ([(2, AV.fn 69 [AV.vadr [bsl cf F, bsl cb B] 0])]) :=
  evA_ok (H := h60) (ans := [.c, .c]) (ps := []) (ans' := []) (base 4 0) cxA_K.1 cxA_K.2 _ (by kernel_rfl)  allp_nil
theorem hlB (cf cb : Option Nat) (F B : List Stk) : Tri Try.prog (cxN 4 0) (codeAt Try.f60 1) [(1, .box [bsl cf F, bsl cb B])] .normal [(2, .fn 69 [hbx cf F cb B])] :=
  Tri.shr (r := 1) (cs := [bsl cf F, bsl cb B]) rfl rfl (fun t y h => by simp only [lk] at h; split at h <;> simp at h; subst h; simp [leafRoot]) (Tri.weak [(1, .keep)] (Tri.after [(2, .keep)] (hlb_0 cf cb F B)))
end Tst
end

section
open Go Go.Lf Go.Proofs
namespace Tst
set_option maxHeartbeats 0
theorem hl_0 (cf cb : Option Nat) (F B : List Stk) : PureC Try.prog 60 [beds (bsl cf F) (bsl cb B)]  (AV.fn 69 [AV.vadr [bsl cf F, bsl cb B] 0]) :=
  funA_ok (H := h60) (n := 4) (ans := [.c, .c, .cut Ex.normal [(2, AV.fn 69 [AV.vadr [bsl cf F, bsl cb B] 0])]]) (ps := [Tri Try.prog (cxN (4 : Nat) (0 : Nat)) (codeAt Try.f60 (1 : Nat)) [(1, AV.box [bsl cf F, bsl cb B])] Ex.normal [(2, AV.fn 69 [AV.vadr [bsl cf F, bsl cb B] 0])]]) (base 4 0) Try.func60 rfl (by simp) rfl (by kernel_rfl)  (allp (by first | (apply hlB <;> (first | assumption | rfl | (simp at * <;> omega))) | (refine Tri.weak [(1, .keep)] ?_; apply hlB <;> (first | assumption | rfl | (simp at * <;> omega)))) allp_nil)
end Tst
end

section
open Go Go.Lf Go.Proofs
namespace Tst
set_option maxHeartbeats 0
theorem cna_0 (c : Option Nat) (l : List Idd) (d i n : Int) : Tri Try.prog (cxN 15 4) (rfAssign Try.f36 0) ([(8, ndl d i), (9, isl c l), (3, .box [it n])] ) (Ex.normal) ([(3, AV.box [it n]), (5, AV.sl Mode.any 30 c (List.map Idd.enc l))]) :=
  evA_ok (H := h36) (ans := [Ans.c]) (ps := []) (ans' := []) (base 15 4) cxA_K.1 cxA_K.2 _ (by kernel_rfl)  allp_nil
theorem cnb_0 (c : Option Nat) (l : List Idd) (n : Int) : Tri Try.prog (cxN 15 4) (rfBody Try.f36 0) ([(3, .box [it n]), (5, isl c l)] ) (Ex.normal) ([(3, AV.box [it (IntKind.wrap IntKind.i64 (n + (↑(List.length (List.map Idd.enc l)) : Int)))])]) :=
  evA_ok (H := h36) (ans := [Ans.c, Ans.c, Ans.c, Ans.c, Ans.c, Ans.c, Ans.c]) (ps := []) (ans' := []) (base 15 4) cxA_K.1 cxA_K.2 _ (by kernel_rfl)  allp_nil
theorem fia_0 (c : Option Nat) (l : List Idd) (d i : Int) (p : Idd) : Tri Try.prog (cxN 17 6) (rfAssign Try.f35 0) ([(10, ndl d i), (11, isl c l), (3, .box [ub p.y, it p.n]), (4, .box [ub 0, it 0]), (5, .box [it 0])] ) (Ex.normal) ([(3, AV.box [ub (Idd.y p), it (Idd.n p)]), (4, AV.box [ub (0 : Int), it (0 : Int)]), (5, AV.box [it (0 : Int)]), (6, AV.box [ub d, it i]), (7, AV.sl Mode.any 30 c (List.map Idd.enc l))]) :=
  evA_ok (H := h35) (ans := [Ans.c, Ans.c, Ans.c]) (ps := []) (ans' := []) (base 17 6) cxA_K.1 cxA_K.2 _ (by kernel_rfl)  allp_nil
theorem fib_0 (c : Option Nat) (l : List Idd) (d i : Int) (p : Idd) (hA : l.length < 2 ^ 62) (g0 : decide (p ∈ l) = true) : Tri Try.prog (cxN 17 6) (rfBody Try.f35 0) ([(3, .box [ub p.y, it p.n]), (4, .box [ub 0, it 0]), (5, .box [it 0]), (6, .box [ub d, it i]), (7, isl c l)] ) (Ex.ret) ([(4, AV.box [ub d, it i]), (5, AV.box [it (0 : Int)])]) :=
  evA_ok (H := h35) (ans := [Ans.c, Ans.c, Ans.r (AV.sl Mode.any 30 c (List.map Idd.enc l)), Ans.r (bb (decide (p ∈ l))), Ans.c, Ans.c, Ans.b true, Ans.c, Ans.c, Ans.c, Ans.c, Ans.c]) (ps := [view (AV.sl Mode.any 30 c (List.map Idd.enc l)) = AV.sl Mode.any 30 c (List.map Idd.enc l), PureC Try.prog 61 [AV.sl Mode.any 30 c (List.map Idd.enc l), AV.agg [ub (Idd.y p), it (Idd.n p)]] (bb (decide (p ∈ l))), decide (p ∈ l) = true]) (ans' := []) (base 17 6) cxA_K.1 cxA_K.2 _ (by kernel_rfl)  (allp (by first | exact view_ps _ _ _ | exact view_u8 _ _ _ | rfl | exact view_yn _ _ _ _ _ _ _ | exact view_id _ _ _ | exact view_stk _ _ _ | exact view_beds _ _ _ _ _ _ | exact view_pt _ _ _) (allp (by first | (apply cnt_c <;> (first | assumption | rfl | (simp at * <;> omega)))) (allp g0 allp_nil)))
theorem fib_1 (c : Option Nat) (l : List Idd) (d i : Int) (p : Idd) (hA : l.length < 2 ^ 62) (g0 : decide (p ∈ l) = false) : Tri Try.prog (cxN 17 6) (rfBody Try.f35 0) ([(3, .box [ub p.y, it p.n]), (4, .box [ub 0, it 0]), (5, .box [it 0]), (6, .box [ub d, it i]), (7, isl c l)] ) (Ex.normal) ([(3, AV.box [ub (Idd.y p), it (Idd.n p)]), (4, AV.box [ub (0 : Int), it (0 : Int)]), (5, AV.box [it (0 : Int)]), (6, AV.box [ub d, it i]), (14, bb (decide (p ∈ l)))]) :=
  evA_ok (H := h35) (ans := [Ans.c, Ans.c, Ans.r (AV.sl Mode.any 30 c (List.map Idd.enc l)), Ans.r (bb (decide (p ∈ l))), Ans.c, Ans.c, Ans.b false]) (ps := [view (AV.sl Mode.any 30 c (List.map Idd.enc l)) = AV.sl Mode.any 30 c (List.map Idd.enc l), PureC Try.prog 61 [AV.sl Mode.any 30 c (List.map Idd.enc l), AV.agg [ub (Idd.y p), it (Idd.n p)]] (bb (decide (p ∈ l))), decide (p ∈ l) = false]) (ans' := []) (base 17 6) cxA_K.1 cxA_K.2 _ (by kernel_rfl)  (allp (by first | exact view_ps _ _ _ | exact view_u8 _ _ _ | rfl | exact view_yn _ _ _ _ _ _ _ | exact view_id _ _ _ | exact view_stk _ _ _ | exact view_beds _ _ _ _ _ _ | exact view_pt _ _ _) (allp (by first | (apply cnt_c <;> (first | assumption | rfl | (simp at * <;> omega)))) (allp g0 allp_nil)))
theorem ova_0 (c : Option Nat) (l : List Idd) (d i : Int) : Tri Try.prog (cxN 22 3) (rfAssign Try.f53 0) ([(17, ndl d i), (18, isl c l), (2, .box [bb false])] ) (Ex.normal) ([(2, AV.box [bb false]), (4, AV.sl Mode.any 30 c (List.map Idd.enc l))]) :=
  evA_ok (H := h53) (ans := [Ans.c]) (ps := []) (ans' := []) (base 22 3) cxA_K.1 cxA_K.2 _ (by kernel_rfl)  allp_nil
theorem ovb_0 (c : Option Nat) (l : List Idd) (g0 : decide ((4 : Int) < (↑(List.length (List.map Idd.enc l)) : Int)) = true) : Tri Try.prog (cxN 22 3) (rfBody Try.f53 0) ([(2, .box [bb false]), (4, isl c l)] ) (Ex.ret) ([(2, AV.box [bb true])]) :=
  evA_ok (H := h53) (ans := [Ans.c, Ans.c, Ans.c, Ans.b true, Ans.c, Ans.c, Ans.c]) (ps := [decide ((4 : Int) < (↑(List.length (List.map Idd.enc l)) : Int)) = true]) (ans' := []) (base 22 3) cxA_K.1 cxA_K.2 _ (by kernel_rfl)  (allp g0 allp_nil)
theorem ovb_1 (c : Option Nat) (l : List Idd) (g0 : decide ((4 : Int) < (↑(List.length (List.map Idd.enc l)) : Int)) = false) : Tri Try.prog (cxN 22 3) (rfBody Try.f53 0) ([(2, .box [bb false]), (4, isl c l)] ) (Ex.normal) ([(2, AV.box [bb false]), (21, bb (decide ((4 : Int) < (↑(List.length (List.map Idd.enc l)) : Int))))]) :=
  evA_ok (H := h53) (ans := [Ans.c, Ans.c, Ans.c, Ans.b false]) (ps := [decide ((4 : Int) < (↑(List.length (List.map Idd.enc l)) : Int)) = false]) (ans' := []) (base 22 3) cxA_K.1 cxA_K.2 _ (by kernel_rfl)  (allp g0 allp_nil)
theorem naa_0 (c : Option Nat) (l : List Idd) (d i : Int) : Tri Try.prog (cxN 12 3) (rfAssign Try.f54 0) ([(7, ndl d i), (8, isl c l), (2, .box [bb false])] ) (Ex.normal) ([(2, AV.box [bb false]), (4, AV.sl Mode.any 30 c (List.map Idd.enc l))]) :=
  evA_ok (H := h54) (ans := [Ans.c]) (ps := []) (ans' := []) (base 12 3) cxA_K.1 cxA_K.2 _ (by kernel_rfl)  allp_nil
theorem nab_0 (c : Option Nat) (l : List Idd) (hA : l.length < 2 ^ 62) (g0 : (!List.all l nmI) = true) : Tri Try.prog (cxN 12 3) (rfBody Try.f54 0) ([(2, .box [bb false]), (4, isl c l)] ) (Ex.ret) ([(2, AV.box [bb false])]) :=
  evA_ok (H := h54) (ans := [Ans.c, Ans.r (AV.sl Mode.any 30 c (List.map Idd.enc l)), Ans.r (bb (List.all l nmI)), Ans.c, Ans.c, Ans.c, Ans.b true, Ans.c, Ans.c, Ans.c]) (ps := [view (AV.sl Mode.any 30 c (List.map Idd.enc l)) = AV.sl Mode.any 30 c (List.map Idd.enc l), PureC Try.prog 62 [AV.sl Mode.any 30 c (List.map Idd.enc l)] (bb (List.all l nmI)), (!List.all l nmI) = true]) (ans' := []) (base 12 3) cxA_K.1 cxA_K.2 _ (by kernel_rfl)  (allp (by first | exact view_ps _ _ _ | exact view_u8 _ _ _ | rfl | exact view_yn _ _ _ _ _ _ _ | exact view_id _ _ _ | exact view_stk _ _ _ | exact view_beds _ _ _ _ _ _ | exact view_pt _ _ _) (allp (by first | (apply nml_c <;> (first | assumption | rfl | (simp at * <;> omega)))) (allp g0 allp_nil)))
theorem nab_1 (c : Option Nat) (l : List Idd) (hA : l.length < 2 ^ 62) (g0 : (!List.all l nmI) = false) : Tri Try.prog (cxN 12 3) (rfBody Try.f54 0) ([(2, .box [bb false]), (4, isl c l)] ) (Ex.normal) ([(2, AV.box [bb false]), (11, bb !List.all l nmI)]) :=
  evA_ok (H := h54) (ans := [Ans.c, Ans.r (AV.sl Mode.any 30 c (List.map Idd.enc l)), Ans.r (bb (List.all l nmI)), Ans.c, Ans.c, Ans.c, Ans.b false]) (ps := [view (AV.sl Mode.any 30 c (List.map Idd.enc l)) = AV.sl Mode.any 30 c (List.map Idd.enc l), PureC Try.prog 62 [AV.sl Mode.any 30 c (List.map Idd.enc l)] (bb (List.all l nmI)), (!List.all l nmI) = false]) (ans' := []) (base 12 3) cxA_K.1 cxA_K.2 _ (by kernel_rfl)  (allp (by first | exact view_ps _ _ _ | exact view_u8 _ _ _ | rfl | exact view_yn _ _ _ _ _ _ _ | exact view_id _ _ _ | exact view_stk _ _ _ | exact view_beds _ _ _ _ _ _ | exact view_pt _ _ _) (allp (by first | (apply nml_c <;> (first | assumption | rfl | (simp at * <;> omega)))) (allp g0 allp_nil)))
end Tst
end

section
namespace Go.Lf
open Go Go.RowKit
theorem EnvB.nil {lo : Nat} : EnvB lo [] := fun t x h => by simp [lk] at h
theorem EnvB.cons {lo t : Nat} {x : AV} {l : Env} (h1 : t < lo) (h2 : leafRoot x = none) (h : EnvB lo l) : EnvB lo ((t, x) :: l) := by
  intro t' y hy
  simp only [lk] at hy
  split at hy
  · rename_i e; subst e; injection hy with hy; subst hy; exact ⟨h1, h2⟩
  · exact h t' y hy
theorem EnvF.nil : EnvF [] := fun t x h => by simp [lk] at h
theorem lk_nil {α : Prop} {t : Nat} {x : AV} (h : lk [] t = some x) : α := by simp [lk] at h
section
variable {P : Program} {cx : Cx} {α : Type}
theorem Tri.rangeAll (hlo0 : cx.lo = 0) {t : Nat} {ps : Array Tmp} {c1 c2 : Code} {env0 : Env} (ks : List (Nat × Wk)) {f : FuncId} {cs : List AV} (hg : lk env0 t = some (.fn f cs)) (hv : cs.map (remode (fun _ => .any) 12) = cs) (xs : List α) (enc : α → List AV) (hseq : SeqC P f cs (xs.map enc))
    (lo : Nat) (hlo : 0 < lo) (hps : ps.toList.Nodup ∧ ∀ p ∈ ps.toList, lo ≤ p ∧ p < cx.N) (hlen : ∀ x, (enc x).length = ps.size)
    (E : List α → Env) (rest : Env) (hE0 : keepE ks env0 = E [] ++ rest) (hE : ∀ pre, EnvB lo (E pre)) (hd : ∀ pre t x, lk rest t = some x → lk (E pre) t = none) (hrest : EnvF rest)
    (hr : ∀ pre x post, xs = pre ++ x :: post → ∃ E1, Tri P { cx with lo := lo } c1 (ps.toList.zip (enc x) ++ E pre) .normal E1 ∧ Tri P { cx with lo := lo } c2 E1 .normal (E (pre ++ [x]))) :
    Tri P cx (.rangeFunc (.tmp t) ps c1 c2) env0 .normal (E xs ++ rest) := by
  refine Tri.range hlo0 ks rfl hg hv hseq lo hlo hps (fun ys hy => ?_) (fun k => E (xs.take k)) rest xs.length (by simpa using hE0) (fun k _ => ⟨hE _, hd _⟩) hrest (fun k ys hk hy => ?_) (Ex' := E xs) (.inl ⟨by simp, rfl, by simp⟩)
  · obtain ⟨x, _, rfl⟩ := List.mem_map.1 hy
    exact hlen x
  · have hx : xs[k]? = some xs[k] := List.getElem?_eq_getElem hk
    rw [List.getElem?_map, hx] at hy
    injection hy with hy; subst hy
    have := hr (xs.take k) xs[k] (xs.drop (k + 1)) (by rw [← List.drop_eq_getElem_cons hk, List.take_append_drop])
    rw [List.take_append_getElem] at this
    exact this
theorem Tri.rangeStop (hlo0 : cx.lo = 0) {t : Nat} {ps : Array Tmp} {c1 c2 : Code} {env0 : Env} (ks : List (Nat × Wk)) {f : FuncId} {cs : List AV} (hg : lk env0 t = some (.fn f cs)) (hv : cs.map (remode (fun _ => .any) 12) = cs) (xs : List α) (enc : α → List AV) (hseq : SeqC P f cs (xs.map enc))
    (lo : Nat) (hlo : 0 < lo) (hps : ps.toList.Nodup ∧ ∀ p ∈ ps.toList, lo ≤ p ∧ p < cx.N) (hlen : ∀ x, (enc x).length = ps.size)
    (E : List α → Env) (rest : Env) (hE0 : keepE ks env0 = E [] ++ rest) (hE : ∀ pre, EnvB lo (E pre)) (hd : ∀ pre t x, lk rest t = some x → lk (E pre) t = none) (hrest : EnvF rest)
    (pre0 : List α) (x0 : α) (post0 : List α) (hxs : xs = pre0 ++ x0 :: post0)
    (hr : ∀ pre x post, pre0 = pre ++ x :: post → ∃ E1, Tri P { cx with lo := lo } c1 (ps.toList.zip (enc x) ++ E pre) .normal E1 ∧ Tri P { cx with lo := lo } c2 E1 .normal (E (pre ++ [x])))
    {ex : Ex} {Ex' : Env} (hne : ex ≠ .normal) (hEx : EnvB lo Ex') (hl : ∃ E1, Tri P { cx with lo := lo } c1 (ps.toList.zip (enc x0) ++ E pre0) .normal E1 ∧ Tri P { cx with lo := lo } c2 E1 ex Ex') :
    Tri P cx (.rangeFunc (.tmp t) ps c1 c2) env0 ex (Ex' ++ rest) := by
  have h0 : xs.take pre0.length = pre0 := by rw [hxs, List.take_left]
  have hx0 : xs[pre0.length]? = some x0 := by rw [hxs, List.getElem?_append_right (Nat.le_refl _)]; simp
  refine Tri.range hlo0 ks rfl hg hv hseq lo hlo hps (fun ys hy => ?_) (fun k => E (xs.take k)) rest pre0.length (by simpa using hE0) (fun k _ => ⟨hE _, hd _⟩) hrest (fun k ys hk hy => ?_) (Ex' := Ex') (.inr ⟨hne, hEx, enc x0, ?_⟩)
  · obtain ⟨x, _, rfl⟩ := List.mem_map.1 hy
    exact hlen x
  · have hk' : k < xs.length := by rw [hxs]; simp; omega
    have hx : xs[k]? = some xs[k] := List.getElem?_eq_getElem hk'
    have hp : xs[k] = pre0[k] := by simp only [hxs]; rw [List.getElem_append_left hk]
    rw [List.getElem?_map, hx] at hy
    injection hy with hy; subst hy
    have ht : xs.take k = pre0.take k := by rw [hxs, List.take_append_of_le_length (by omega)]
    have ht1 : xs.take (k + 1) = pre0.take k ++ [pre0[k]] := by rw [hxs, List.take_append_of_le_length (by omega), List.take_append_getElem]
    have := hr (pre0.take k) pre0[k] (pre0.drop (k + 1)) (by rw [← List.drop_eq_getElem_cons hk, List.take_append_drop])
    show ∃ E1, Tri P { cx with lo := lo } c1 (ps.toList.zip (enc xs[k]) ++ E (xs.take k)) .normal E1 ∧ Tri P { cx with lo := lo } c2 E1 .normal (E (xs.take (k + 1)))
    rw [ht, ht1, hp]
    exact this
  · obtain ⟨E1, h1, h2⟩ := hl
    refine ⟨E1, by rw [List.getElem?_map, hx0]; rfl, ?_, h2⟩
    show Tri P { cx with lo := lo } c1 (ps.toList.zip (enc x0) ++ E (xs.take pre0.length)) .normal E1
    rw [h0]; exact h1
end
end Go.Lf
end

section
open Go Go.Lf Go.Proofs
namespace Tst
def itms (F B : List Stk) : List (Int × Int × Stk) := ((F.take 40).zipIdx.map fun q => ((0 : Int), ((q.2 : Int) + 1), q.1)) ++ ((B.take 40).zipIdx.map fun q => ((1 : Int), ((q.2 : Int) + 1), q.1))
def itE (t : Int × Int × Stk) : List AV := [ndl t.1 t.2.1, t.2.2.enc]
theorem hdL_itms (F B : List Stk) : hdL 0 F ++ hdL 1 B = (itms F B).map itE := by
  unfold itms hdL
  rw [List.map_append, List.map_map, List.map_map]
  rfl
theorem held_i (cf cb : Option Nat) (F B : List Stk) : SeqC Try.prog 69 [hbx cf F cb B] ((itms F B).map itE) := by rw [← hdL_itms]; exact held_s cf cb F B
theorem hbx_view (cf cb : Option Nat) (F B : List Stk) : [hbx cf F cb B].map (remode (fun _ => .any) 12) = [hbx cf F cb B] := by
  show [remode (fun _ => .any) 12 (hbx cf F cb B)] = _
  rw [(vd_hbx cf F cb B).2]
def total (l : List (Int × Int × Stk)) : Int := (l.map fun t => ((t.2.2.l.length : Nat) : Int)).sum
theorem total_nn (l : List (Int × Int × Stk)) : 0 ≤ total l := by
  unfold total
  induction l with
  | nil => simp
  | cons t l ih => rw [List.map_cons, List.sum_cons]; omega
theorem total_app (a b : List (Int × Int × Stk)) : total (a ++ b) = total a + total b := by unfold total; rw [List.map_append, List.sum_append]
theorem total_one (x : Int × Int × Stk) : total [x] = (x.2.2.l.length : Nat) := by unfold total; simp
theorem count_code : rfCode Try.f36 0 = .rangeFunc (.tmp 7) #[8, 9] (rfAssign Try.f36 0) (rfBody Try.f36 0) := by kernel_rfl
theorem count_r (cf cb : Option Nat) (F B : List Stk) (hA : total (itms F B) < 2 ^ 62) : Tri Try.prog (cxN 15 0) (rfCode Try.f36 0) [(3, .box [it 0]), (7, .fn 69 [hbx cf F cb B])] .normal [(3, .box [it (total (itms F B))])] := by
  rw [count_code]
  have h := Tri.rangeAll (P := Try.prog) (cx := cxN 15 0) rfl (t := 7) (ps := #[8, 9]) (c1 := rfAssign Try.f36 0) (c2 := rfBody Try.f36 0) (env0 := [(3, .box [it 0]), (7, .fn 69 [hbx cf F cb B])]) [(3, .keep)] rfl (hbx_view cf cb F B) (itms F B) itE (held_i cf cb F B) 4 (by omega)
    ⟨by decide, by decide⟩ (fun x => rfl) (fun pre => [(3, .box [it (total pre)])]) [] rfl (fun pre => .cons (by omega) rfl .nil) (fun pre t x h => lk_nil h) .nil ?_
  · exact h
  · intro pre x post hx
    have hs : total pre + (x.2.2.l.length : Nat) + total post = total (itms F B) := by rw [hx, total_app, show x :: post = [x] ++ post from rfl, total_app, total_one]; omega
    have hw : IntKind.i64.wrap (total pre + ((x.2.2.l.map Idd.enc).length : Nat)) = total (pre ++ [x]) := by
      rw [wrap_id' (by have := total_nn pre; omega) (by have := total_nn post; simp; omega), total_app, total_one, List.length_map]
    refine ⟨_, cna_0 x.2.2.c x.2.2.l x.1 x.2.1 (total pre), ?_⟩
    have := cnb_0 x.2.2.c x.2.2.l (total pre)
    rw [hw] at this
    exact this
end Tst
end

section
open Go Go.Lf Go.Proofs
namespace Tst
theorem find_code : rfCode Try.f35 0 = .rangeFunc (.tmp 9) #[10, 11] (rfAssign Try.f35 0) (rfBody Try.f35 0) := by kernel_rfl
abbrev fdE (p : Idd) : Env := [(3, .box [ub p.y, it p.n]), (4, .box [ub 0, it 0]), (5, .box [it 0])]
theorem find_round (p : Idd) (x : Int × Int × Stk) (hA : x.2.2.l.length < 2 ^ 62) (h : decide (p ∈ x.2.2.l) = false) : ∃ E1, Tri Try.prog (cxN 17 6) (rfAssign Try.f35 0) ((#[10, 11] : Array Tmp).toList.zip (itE x) ++ fdE p) .normal E1 ∧ Tri Try.prog (cxN 17 6) (rfBody Try.f35 0) E1 .normal (fdE p) :=
  ⟨_, fia_0 x.2.2.c x.2.2.l x.1 x.2.1 p, Tri.after [(3, .keep), (4, .keep), (5, .keep)] (fib_1 x.2.2.c x.2.2.l x.1 x.2.1 p hA h)⟩
theorem find_yes (cf cb : Option Nat) (F B : List Stk) (p : Idd) (hA : ∀ t ∈ itms F B, t.2.2.l.length < 2 ^ 62) (pre : List (Int × Int × Stk)) (x : Int × Int × Stk) (post : List (Int × Int × Stk)) (hx : itms F B = pre ++ x :: post) (hn : ∀ t ∈ pre, decide (p ∈ t.2.2.l) = false) (hy : decide (p ∈ x.2.2.l) = true) :
    Tri Try.prog (cxN 17 0) (rfCode Try.f35 0) [(3, .box [ub p.y, it p.n]), (4, .box [ub 0, it 0]), (5, .box [it 0]), (9, .fn 69 [hbx cf F cb B])] .ret [(4, .box [ub x.1, it x.2.1]), (5, .box [it 0])] := by
  rw [find_code]
  exact Tri.rangeStop (P := Try.prog) (cx := cxN 17 0) rfl (t := 9) (ps := #[10, 11]) (c1 := rfAssign Try.f35 0) (c2 := rfBody Try.f35 0) [(3, .keep), (4, .keep), (5, .keep)] rfl (hbx_view cf cb F B) (itms F B) itE (held_i cf cb F B) 6 (by omega)
    ⟨by decide, by decide⟩ (fun x => rfl) (fun pre => fdE p) [] rfl (fun pre => .cons (by omega) rfl (.cons (by omega) rfl (.cons (by omega) rfl .nil))) (fun pre t x h => lk_nil h) .nil pre x post hx
    (fun pre' y post' he => find_round p y (hA y (by rw [hx, he]; simp)) (hn y (by rw [he]; simp))) (by simp) (.cons (by omega) rfl (.cons (by omega) rfl .nil))
    ⟨_, fia_0 x.2.2.c x.2.2.l x.1 x.2.1 p, fib_0 x.2.2.c x.2.2.l x.1 x.2.1 p (hA x (by rw [hx]; simp)) hy⟩
theorem over_code : rfCode Try.f53 0 = .rangeFunc (.tmp 16) #[17, 18] (rfAssign Try.f53 0) (rfBody Try.f53 0) := by kernel_rfl
abbrev fE : Env := [(2, .box [bb false])]
theorem over_round (x : Int × Int × Stk) (h : decide ((4 : Int) < ((x.2.2.l.map Idd.enc).length : Nat)) = false) : ∃ E1, Tri Try.prog (cxN 22 3) (rfAssign Try.f53 0) ((#[17, 18] : Array Tmp).toList.zip (itE x) ++ fE) .normal E1 ∧ Tri Try.prog (cxN 22 3) (rfBody Try.f53 0) E1 .normal fE :=
  ⟨_, ova_0 x.2.2.c x.2.2.l x.1 x.2.1, Tri.after [(2, .keep)] (ovb_1 x.2.2.c x.2.2.l h)⟩
theorem over_no (cf cb : Option Nat) (F B : List Stk) (hn : ∀ t ∈ itms F B, decide ((4 : Int) < ((t.2.2.l.map Idd.enc).length : Nat)) = false) : Tri Try.prog (cxN 22 0) (rfCode Try.f53 0) [(2, .box [bb false]), (16, .fn 69 [hbx cf F cb B])] .normal fE := by
  rw [over_code]
  exact Tri.rangeAll (P := Try.prog) (cx := cxN 22 0) rfl (t := 16) (ps := #[17, 18]) (c1 := rfAssign Try.f53 0) (c2 := rfBody Try.f53 0) [(2, .keep)] rfl (hbx_view cf cb F B) (itms F B) itE (held_i cf cb F B) 3 (by omega)
    ⟨by decide, by decide⟩ (fun x => rfl) (fun pre => fE) [] rfl (fun pre => .cons (by omega) rfl .nil) (fun pre t x h => lk_nil h) .nil (fun pre x post hx => over_round x (hn x (by rw [hx]; simp)))
theorem over_yes (cf cb : Option Nat) (F B : List Stk) (pre : List (Int × Int × Stk)) (x : Int × Int × Stk) (post : List (Int × Int × Stk)) (hx : itms F B = pre ++ x :: post) (hn : ∀ t ∈ pre, decide ((4 : Int) < ((t.2.2.l.map Idd.enc).length : Nat)) = false) (hy : decide ((4 : Int) < ((x.2.2.l.map Idd.enc).length : Nat)) = true) :
    Tri Try.prog (cxN 22 0) (rfCode Try.f53 0) [(2, .box [bb false]), (16, .fn 69 [hbx cf F cb B])] .ret [(2, .box [bb true])] := by
  rw [over_code]
  exact Tri.rangeStop (P := Try.prog) (cx := cxN 22 0) rfl (t := 16) (ps := #[17, 18]) (c1 := rfAssign Try.f53 0) (c2 := rfBody Try.f53 0) [(2, .keep)] rfl (hbx_view cf cb F B) (itms F B) itE (held_i cf cb F B) 3 (by omega)
    ⟨by decide, by decide⟩ (fun x => rfl) (fun pre => fE) [] rfl (fun pre => .cons (by omega) rfl .nil) (fun pre t x h => lk_nil h) .nil pre x post hx
    (fun pre' y post' he => over_round y (hn y (by rw [he]; simp))) (by simp) (.cons (by omega) rfl .nil) ⟨_, ova_0 x.2.2.c x.2.2.l x.1 x.2.1, ovb_0 x.2.2.c x.2.2.l hy⟩
theorem named_code : rfCode Try.f54 0 = .rangeFunc (.tmp 6) #[7, 8] (rfAssign Try.f54 0) (rfBody Try.f54 0) := by kernel_rfl
theorem named_round (x : Int × Int × Stk) (hA : x.2.2.l.length < 2 ^ 62) (h : (!x.2.2.l.all nmI) = false) : ∃ E1, Tri Try.prog (cxN 12 3) (rfAssign Try.f54 0) ((#[7, 8] : Array Tmp).toList.zip (itE x) ++ fE) .normal E1 ∧ Tri Try.prog (cxN 12 3) (rfBody Try.f54 0) E1 .normal fE :=
  ⟨_, naa_0 x.2.2.c x.2.2.l x.1 x.2.1, Tri.after [(2, .keep)] (nab_1 x.2.2.c x.2.2.l hA h)⟩
theorem named_no (cf cb : Option Nat) (F B : List Stk) (hA : ∀ t ∈ itms F B, t.2.2.l.length < 2 ^ 62) (hn : ∀ t ∈ itms F B, (!t.2.2.l.all nmI) = false) : Tri Try.prog (cxN 12 0) (rfCode Try.f54 0) [(2, .box [bb false]), (6, .fn 69 [hbx cf F cb B])] .normal fE := by
  rw [named_code]
  exact Tri.rangeAll (P := Try.prog) (cx := cxN 12 0) rfl (t := 6) (ps := #[7, 8]) (c1 := rfAssign Try.f54 0) (c2 := rfBody Try.f54 0) [(2, .keep)] rfl (hbx_view cf cb F B) (itms F B) itE (held_i cf cb F B) 3 (by omega)
    ⟨by decide, by decide⟩ (fun x => rfl) (fun pre => fE) [] rfl (fun pre => .cons (by omega) rfl .nil) (fun pre t x h => lk_nil h) .nil (fun pre x post hx => named_round x (hA x (by rw [hx]; simp)) (hn x (by rw [hx]; simp)))
theorem named_yes (cf cb : Option Nat) (F B : List Stk) (hA : ∀ t ∈ itms F B, t.2.2.l.length < 2 ^ 62) (pre : List (Int × Int × Stk)) (x : Int × Int × Stk) (post : List (Int × Int × Stk)) (hx : itms F B = pre ++ x :: post) (hn : ∀ t ∈ pre, (!t.2.2.l.all nmI) = false) (hy : (!x.2.2.l.all nmI) = true) :
    Tri Try.prog (cxN 12 0) (rfCode Try.f54 0) [(2, .box [bb false]), (6, .fn 69 [hbx cf F cb B])] .ret [(2, .box [bb false])] := by
  rw [named_code]
  exact Tri.rangeStop (P := Try.prog) (cx := cxN 12 0) rfl (t := 6) (ps := #[7, 8]) (c1 := rfAssign Try.f54 0) (c2 := rfBody Try.f54 0) [(2, .keep)] rfl (hbx_view cf cb F B) (itms F B) itE (held_i cf cb F B) 3 (by omega)
    ⟨by decide, by decide⟩ (fun x => rfl) (fun pre => fE) [] rfl (fun pre => .cons (by omega) rfl .nil) (fun pre t x h => lk_nil h) .nil pre x post hx
    (fun pre' y post' he => named_round y (hA y (by rw [hx, he]; simp)) (hn y (by rw [he]; simp))) (by simp) (.cons (by omega) rfl .nil) ⟨_, naa_0 x.2.2.c x.2.2.l x.1 x.2.1, nab_0 x.2.2.c x.2.2.l (hA x (by rw [hx]; simp)) hy⟩
theorem split_first {α : Type} (b : α → Bool) : ∀ (l : List α), (∀ x ∈ l, b x = false) ∨ ∃ pre x post, l = pre ++ x :: post ∧ (∀ y ∈ pre, b y = false) ∧ b x = true
  | [] => .inl fun x h => by simp at h
  | x :: l => by
    cases hb : b x with
    | true => exact .inr ⟨[], x, l, rfl, fun y h => by simp at h, hb⟩
    | false =>
      rcases split_first b l with h | ⟨pre, y, post, h1, h2, h3⟩
      · exact .inl fun y hy => by
          rcases List.mem_cons.1 hy with rfl | hy
          · exact hb
          · exact h y hy
      · exact .inr ⟨x :: pre, y, post, by rw [h1]; rfl, fun z hz => by
          rcases List.mem_cons.1 hz with rfl | hz
          · exact hb
          · exact h2 z hz, h3⟩
end Tst
end

section
open Go Go.Lf Go.Proofs
namespace Tst
set_option maxHeartbeats 0
theorem cn_0 (cf cb : Option Nat) (F B : List Stk) (hA : total (itms F B) < 2 ^ 62) : PureC Try.prog 36 [beds (bsl cf F) (bsl cb B)]  (it (total (itms F B))) :=
  funA_ok (H := h36) (n := 15) (ans := [.c, .c, .c, .c, .c, .c, .c, .r (AV.fn 69 [AV.vadr [bsl cf F, bsl cb B] 0]), .c, .c, .lp Ex.normal [(3, AV.box [it (total (itms F B))])], .c, .c]) (ps := [PureC Try.prog 60 [view (AV.agg [bsl cf F, bsl cb B])] (AV.fn 69 [AV.vadr [bsl cf F, bsl cb B] 0]), Tri Try.prog (cxN (15 : Nat) (0 : Nat)) (rfCode Try.f36 (0 : Nat)) [(3, AV.box [it 0]), (7, AV.fn 69 [AV.vadr [bsl cf F, bsl cb B] 0])] Ex.normal [(3, AV.box [it (total (itms F B))])]]) (base 15 0) Try.func36 rfl (by simp) rfl (by kernel_rfl)  (allp (by (first | rw [view_yn] | rw [view_two] | rw [view_twoI] | rw [view_beds] | skip); apply hl_0 <;> (first | assumption | rfl | (simp at * <;> omega))) (allp (by first | (apply hl_0 <;> (first | assumption | rfl | (simp at * <;> omega))) | (apply count_r <;> (first | assumption | rfl | (simp at * <;> omega))) | (refine Tri.weak [(3, .keep), (7, .keep)] ?_; apply count_r <;> (first | assumption | rfl | (simp at * <;> omega)))) allp_nil))
theorem fdy_0 (cf cb : Option Nat) (F B : List Stk) (p : Idd) (hA : ∀ t ∈ itms F B, t.2.2.l.length < 2 ^ 62) (pre : List (Int × Int × Stk)) (x : Int × Int × Stk) (post : List (Int × Int × Stk)) (hx : itms F B = pre ++ x :: post) (hn : ∀ t ∈ pre, decide (p ∈ t.2.2.l) = false) (hy : decide (p ∈ x.2.2.l) = true) : PureC Try.prog 35 [beds (bsl cf F) (bsl cb B), p.enc]  (AV.tup [AV.agg [ub (Prod.fst x), it (Prod.fst (Prod.snd x))], it 0]) :=
  funA_ok (H := h35) (n := 17) (ans := [.c, .c, .c, .c, .c, .r (AV.fn 69 [AV.vadr [bsl cf F, bsl cb B] 0]), .c, .c, .lp Ex.ret [(4, AV.box [ub (Prod.fst x), it (Prod.fst (Prod.snd x))]), (5, AV.box [it 0])]]) (ps := [PureC Try.prog 60 [view (AV.agg [bsl cf F, bsl cb B])] (AV.fn 69 [AV.vadr [bsl cf F, bsl cb B] 0]), Tri Try.prog (cxN (17 : Nat) (0 : Nat)) (rfCode Try.f35 (0 : Nat)) [(3, AV.box [ub (Idd.y p), it (Idd.n p)]), (4, AV.box [ub 0, it 0]), (5, AV.box [it 0]), (9, AV.fn 69 [AV.vadr [bsl cf F, bsl cb B] 0])] Ex.ret [(4, AV.box [ub (Prod.fst x), it (Prod.fst (Prod.snd x))]), (5, AV.box [it 0])]]) (base 17 0) Try.func35 rfl (by simp) rfl (by kernel_rfl)  (allp (by (first | rw [view_yn] | rw [view_two] | rw [view_twoI] | rw [view_beds] | skip); apply hl_0 <;> (first | assumption | rfl | (simp at * <;> omega))) (allp (by first | (apply hl_0 <;> (first | assumption | rfl | (simp at * <;> omega))) | (apply find_yes <;> (first | assumption | rfl | (simp at * <;> omega))) | (refine Tri.weak [(3, .keep), (4, .keep), (5, .keep), (9, .keep)] ?_; apply find_yes <;> (first | assumption | rfl | (simp at * <;> omega)))) allp_nil))
theorem ovn_0 (cf cb : Option Nat) (F B : List Stk) (hn : ∀ t ∈ itms F B, decide ((4 : Int) < ((t.2.2.l.map Idd.enc).length : Nat)) = false) (g0 : decide ((40 : Int) < (↑(List.length (List.map Stk.enc F)) : Int)) = true) : PureC Try.prog 53 [beds (bsl cf F) (bsl cb B)]  (bb true) :=
  funA_ok (H := h53) (n := 22) (ans := [.c, .c, .c, .c, .c, .c, .c, .c, .c, .b true, .c, .b true, .c, .b true, .c, .b true, .c, .b true, .c, .c, .c, .c, .c]) (ps := [decide ((40 : Int) < (↑(List.length (List.map Stk.enc F)) : Int)) = true, decide ((40 : Int) < (↑(List.length (List.map Stk.enc F)) : Int)) = true, decide ((40 : Int) < (↑(List.length (List.map Stk.enc F)) : Int)) = true, decide ((40 : Int) < (↑(List.length (List.map Stk.enc F)) : Int)) = true, decide ((40 : Int) < (↑(List.length (List.map Stk.enc F)) : Int)) = true]) (base 22 0) Try.func53 rfl (by simp) rfl (by kernel_rfl)  (allp g0 (allp g0 (allp g0 (allp g0 (allp g0 allp_nil)))))
theorem ovn_1 (cf cb : Option Nat) (F B : List Stk) (hn : ∀ t ∈ itms F B, decide ((4 : Int) < ((t.2.2.l.map Idd.enc).length : Nat)) = false) (g0 : decide ((40 : Int) < (↑(List.length (List.map Stk.enc F)) : Int)) = false) (g1 : decide ((40 : Int) < (↑(List.length (List.map Stk.enc B)) : Int)) = true) : PureC Try.prog 53 [beds (bsl cf F) (bsl cb B)]  (bb true) :=
  funA_ok (H := h53) (n := 22) (ans := [.c, .c, .c, .c, .c, .c, .c, .c, .c, .b false, .c, .b false, .c, .c, .c, .b false, .c, .b false, .c, .b false, .c, .b true, .c, .c, .c]) (ps := [decide ((40 : Int) < (↑(List.length (List.map Stk.enc F)) : Int)) = false, decide ((40 : Int) < (↑(List.length (List.map Stk.enc F)) : Int)) = false, decide ((40 : Int) < (↑(List.length (List.map Stk.enc F)) : Int)) = false, decide ((40 : Int) < (↑(List.length (List.map Stk.enc F)) : Int)) = false, decide ((40 : Int) < (↑(List.length (List.map Stk.enc F)) : Int)) = false, decide ((40 : Int) < (↑(List.length (List.map Stk.enc B)) : Int)) = true]) (base 22 0) Try.func53 rfl (by simp) rfl (by kernel_rfl)  (allp g0 (allp g0 (allp g0 (allp g0 (allp g0 (allp g1 allp_nil))))))
theorem ovn_2 (cf cb : Option Nat) (F B : List Stk) (hn : ∀ t ∈ itms F B, decide ((4 : Int) < ((t.2.2.l.map Idd.enc).length : Nat)) = false) (g0 : decide ((40 : Int) < (↑(List.length (List.map Stk.enc F)) : Int)) = false) (g1 : decide ((40 : Int) < (↑(List.length (List.map Stk.enc B)) : Int)) = false) : PureC Try.prog 53 [beds (bsl cf F) (bsl cb B)]  (bb false) :=
  funA_ok (H := h53) (n := 22) (ans := [.c, .c, .c, .c, .c, .c, .c, .c, .c, .b false, .c, .b false, .c, .c, .c, .b false, .c, .b false, .c, .b false, .c, .b false, .c, .r (AV.fn 69 [AV.vadr [bsl cf F, bsl cb B] 0]), .c, .c, .lp Ex.normal [(2, AV.box [bb false])], .c, .c, .c]) (ps := [decide ((40 : Int) < (↑(List.length (List.map Stk.enc F)) : Int)) = false, decide ((40 : Int) < (↑(List.length (List.map Stk.enc F)) : Int)) = false, decide ((40 : Int) < (↑(List.length (List.map Stk.enc F)) : Int)) = false, decide ((40 : Int) < (↑(List.length (List.map Stk.enc F)) : Int)) = false, decide ((40 : Int) < (↑(List.length (List.map Stk.enc F)) : Int)) = false, decide ((40 : Int) < (↑(List.length (List.map Stk.enc B)) : Int)) = false, PureC Try.prog 60 [view (AV.agg [bsl cf F, bsl cb B])] (AV.fn 69 [AV.vadr [bsl cf F, bsl cb B] 0]), Tri Try.prog (cxN (22 : Nat) (0 : Nat)) (rfCode Try.f53 (0 : Nat)) [(2, AV.box [bb false]), (16, AV.fn 69 [AV.vadr [bsl cf F, bsl cb B] 0])] Ex.normal [(2, AV.box [bb false])]]) (base 22 0) Try.func53 rfl (by simp) rfl (by kernel_rfl)  (allp g0 (allp g0 (allp g0 (allp g0 (allp g0 (allp g1 (allp (by (first | rw [view_yn] | rw [view_two] | rw [view_twoI] | rw [view_beds] | skip); apply hl_0 <;> (first | assumption | rfl | (simp at * <;> omega))) (allp (by first | (apply hl_0 <;> (first | assumption | rfl | (simp at * <;> omega))) | (apply over_no <;> (first | assumption | rfl | (simp at * <;> omega))) | (refine Tri.weak [(2, .keep), (16, .keep)] ?_; apply over_no <;> (first | assumption | rfl | (simp at * <;> omega)))) allp_nil))))))))
theorem ovy_0 (cf cb : Option Nat) (F B : List Stk) (pre : List (Int × Int × Stk)) (x : Int × Int × Stk) (post : List (Int × Int × Stk)) (hx : itms F B = pre ++ x :: post) (hn : ∀ t ∈ pre, decide ((4 : Int) < ((t.2.2.l.map Idd.enc).length : Nat)) = false) (hy : decide ((4 : Int) < ((x.2.2.l.map Idd.enc).length : Nat)) = true) (g0 : decide ((40 : Int) < (↑(List.length (List.map Stk.enc F)) : Int)) = true) : PureC Try.prog 53 [beds (bsl cf F) (bsl cb B)]  (bb true) :=
  funA_ok (H := h53) (n := 22) (ans := [.c, .c, .c, .c, .c, .c, .c, .c, .c, .b true, .c, .b true, .c, .b true, .c, .b true, .c, .b true, .c, .c, .c, .c, .c]) (ps := [decide ((40 : Int) < (↑(List.length (List.map Stk.enc F)) : Int)) = true, decide ((40 : Int) < (↑(List.length (List.map Stk.enc F)) : Int)) = true, decide ((40 : Int) < (↑(List.length (List.map Stk.enc F)) : Int)) = true, decide ((40 : Int) < (↑(List.length (List.map Stk.enc F)) : Int)) = true, decide ((40 : Int) < (↑(List.length (List.map Stk.enc F)) : Int)) = true]) (base 22 0) Try.func53 rfl (by simp) rfl (by kernel_rfl)  (allp g0 (allp g0 (allp g0 (allp g0 (allp g0 allp_nil)))))
theorem ovy_1 (cf cb : Option Nat) (F B : List Stk) (pre : List (Int × Int × Stk)) (x : Int × Int × Stk) (post : List (Int × Int × Stk)) (hx : itms F B = pre ++ x :: post) (hn : ∀ t ∈ pre, decide ((4 : Int) < ((t.2.2.l.map Idd.enc).length : Nat)) = false) (hy : decide ((4 : Int) < ((x.2.2.l.map Idd.enc).length : Nat)) = true) (g0 : decide ((40 : Int) < (↑(List.length (List.map Stk.enc F)) : Int)) = false) (g1 : decide ((40 : Int) < (↑(List.length (List.map Stk.enc B)) : Int)) = true) : PureC Try.prog 53 [beds (bsl cf F) (bsl cb B)]  (bb true) :=
  funA_ok (H := h53) (n := 22) (ans := [.c, .c, .c, .c, .c, .c, .c, .c, .c, .b false, .c, .b false, .c, .c, .c, .b false, .c, .b false, .c, .b false, .c, .b true, .c, .c, .c]) (ps := [decide ((40 : Int) < (↑(List.length (List.map Stk.enc F)) : Int)) = false, decide ((40 : Int) < (↑(List.length (List.map Stk.enc F)) : Int)) = false, decide ((40 : Int) < (↑(List.length (List.map Stk.enc F)) : Int)) = false, decide ((40 : Int) < (↑(List.length (List.map Stk.enc F)) : Int)) = false, decide ((40 : Int) < (↑(List.length (List.map Stk.enc F)) : Int)) = false, decide ((40 : Int) < (↑(List.length (List.map Stk.enc B)) : Int)) = true]) (base 22 0) Try.func53 rfl (by simp) rfl (by kernel_rfl)  (allp g0 (allp g0 (allp g0 (allp g0 (allp g0 (allp g1 allp_nil))))))
theorem ovy_2 (cf cb : Option Nat) (F B : List Stk) (pre : List (Int × Int × Stk)) (x : Int × Int × Stk) (post : List (Int × Int × Stk)) (hx : itms F B = pre ++ x :: post) (hn : ∀ t ∈ pre, decide ((4 : Int) < ((t.2.2.l.map Idd.enc).length : Nat)) = false) (hy : decide ((4 : Int) < ((x.2.2.l.map Idd.enc).length : Nat)) = true) (g0 : decide ((40 : Int) < (↑(List.length (List.map Stk.enc F)) : Int)) = false) (g1 : decide ((40 : Int) < (↑(List.length (List.map Stk.enc B)) : Int)) = false) : PureC Try.prog 53 [beds (bsl cf F) (bsl cb B)]  (bb true) :=
  funA_ok (H := h53) (n := 22) (ans := [.c, .c, .c, .c, .c, .c, .c, .c, .c, .b false, .c, .b false, .c, .c, .c, .b false, .c, .b false, .c, .b false, .c, .b false, .c, .r (AV.fn 69 [AV.vadr [bsl cf F, bsl cb B] 0]), .c, .c, .lp Ex.ret [(2, AV.box [bb true])]]) (ps := [decide ((40 : Int) < (↑(List.length (List.map Stk.enc F)) : Int)) = false, decide ((40 : Int) < (↑(List.length (List.map Stk.enc F)) : Int)) = false, decide ((40 : Int) < (↑(List.length (List.map Stk.enc F)) : Int)) = false, decide ((40 : Int) < (↑(List.length (List.map Stk.enc F)) : Int)) = false, decide ((40 : Int) < (↑(List.length (List.map Stk.enc F)) : Int)) = false, decide ((40 : Int) < (↑(List.length (List.map Stk.enc B)) : Int)) = false, PureC Try.prog 60 [view (AV.agg [bsl cf F, bsl cb B])] (AV.fn 69 [AV.vadr [bsl cf F, bsl cb B] 0]), Tri Try.prog (cxN (22 : Nat) (0 : Nat)) (rfCode Try.f53 (0 : Nat)) [(2, AV.box [bb false]), (16, AV.fn 69 [AV.vadr [bsl cf F, bsl cb B] 0])] Ex.ret [(2, AV.box [bb true])]]) (base 22 0) Try.func53 rfl (by simp) rfl (by kernel_rfl)  (allp g0 (allp g0 (allp g0 (allp g0 (allp g0 (allp g1 (allp (by (first | rw [view_yn] | rw [view_two] | rw [view_twoI] | rw [view_beds] | skip); apply hl_0 <;> (first | assumption | rfl | (simp at * <;> omega))) (allp (by first | (apply hl_0 <;> (first | assumption | rfl | (simp at * <;> omega))) | (apply over_yes <;> (first | assumption | rfl | (simp at * <;> omega))) | (refine Tri.weak [(2, .keep), (16, .keep)] ?_; apply over_yes <;> (first | assumption | rfl | (simp at * <;> omega)))) allp_nil))))))))
theorem nan_0 (cf cb : Option Nat) (F B : List Stk) (hA : ∀ t ∈ itms F B, t.2.2.l.length < 2 ^ 62) (hn : ∀ t ∈ itms F B, (!t.2.2.l.all nmI) = false) : PureC Try.prog 54 [beds (bsl cf F) (bsl cb B)]  (bb true) :=
  funA_ok (H := h54) (n := 12) (ans := [.c, .c, .c, .r (AV.fn 69 [AV.vadr [bsl cf F, bsl cb B] 0]), .c, .c, .lp Ex.normal [(2, AV.box [bb false])], .c, .c, .c]) (ps := [PureC Try.prog 60 [view (AV.agg [bsl cf F, bsl cb B])] (AV.fn 69 [AV.vadr [bsl cf F, bsl cb B] 0]), Tri Try.prog (cxN (12 : Nat) (0 : Nat)) (rfCode Try.f54 (0 : Nat)) [(2, AV.box [bb false]), (6, AV.fn 69 [AV.vadr [bsl cf F, bsl cb B] 0])] Ex.normal [(2, AV.box [bb false])]]) (base 12 0) Try.func54 rfl (by simp) rfl (by kernel_rfl)  (allp (by (first | rw [view_yn] | rw [view_two] | rw [view_twoI] | rw [view_beds] | skip); apply hl_0 <;> (first | assumption | rfl | (simp at * <;> omega))) (allp (by first | (apply hl_0 <;> (first | assumption | rfl | (simp at * <;> omega))) | (apply named_no <;> (first | assumption | rfl | (simp at * <;> omega))) | (refine Tri.weak [(2, .keep), (6, .keep)] ?_; apply named_no <;> (first | assumption | rfl | (simp at * <;> omega)))) allp_nil))
theorem nay_0 (cf cb : Option Nat) (F B : List Stk) (hA : ∀ t ∈ itms F B, t.2.2.l.length < 2 ^ 62) (pre : List (Int × Int × Stk)) (x : Int × Int × Stk) (post : List (Int × Int × Stk)) (hx : itms F B = pre ++ x :: post) (hn : ∀ t ∈ pre, (!t.2.2.l.all nmI) = false) (hy : (!x.2.2.l.all nmI) = true) : PureC Try.prog 54 [beds (bsl cf F) (bsl cb B)]  (bb false) :=
  funA_ok (H := h54) (n := 12) (ans := [.c, .c, .c, .r (AV.fn 69 [AV.vadr [bsl cf F, bsl cb B] 0]), .c, .c, .lp Ex.ret [(2, AV.box [bb false])]]) (ps := [PureC Try.prog 60 [view (AV.agg [bsl cf F, bsl cb B])] (AV.fn 69 [AV.vadr [bsl cf F, bsl cb B] 0]), Tri Try.prog (cxN (12 : Nat) (0 : Nat)) (rfCode Try.f54 (0 : Nat)) [(2, AV.box [bb false]), (6, AV.fn 69 [AV.vadr [bsl cf F, bsl cb B] 0])] Ex.ret [(2, AV.box [bb false])]]) (base 12 0) Try.func54 rfl (by simp) rfl (by kernel_rfl)  (allp (by (first | rw [view_yn] | rw [view_two] | rw [view_twoI] | rw [view_beds] | skip); apply hl_0 <;> (first | assumption | rfl | (simp at * <;> omega))) (allp (by first | (apply hl_0 <;> (first | assumption | rfl | (simp at * <;> omega))) | (apply named_yes <;> (first | assumption | rfl | (simp at * <;> omega))) | (refine Tri.weak [(2, .keep), (6, .keep)] ?_; apply named_yes <;> (first | assumption | rfl | (simp at * <;> omega)))) allp_nil))
end Tst
end

section
namespace Go.Lf
open Go Go.RowKit
structure MapT (P : Program) (t : TypeId) (κ : Type) [DecidableEq κ] where
  k : TypeId
  e : TypeId
  enc : κ → Value
  z : Value
  und : P.underlying t = some (.map k e)
  chk : ∀ em x w, (Instr.checkKey em 10000 k (enc x)).run P w = .ok () w
  eq : ∀ x y w, (Op.equal k (enc x) (enc y)).run P w = .ok (decide (x = y)) w
  wide : ∀ x es w, (Instr.findKey k (enc x) es).run P w = (Instr.findAsking k (enc x) es 0).run P w
  zero : ∀ w, (zeroValue e).run P w = .ok z w
  bits : ∀ x, Instr.sameBits 10000 (enc x) (enc x) = true
section
variable {P : Program} {t : TypeId} {κ : Type} [DecidableEq κ]
def MapT.ents (M : MapT P t κ) (l : List (κ × Value)) : List (Value × Value) := l.map fun q => (M.enc q.1, q.2)
def getM (l : List (κ × Value)) (x : κ) (z : Value) : Value := match l with
  | [] => z
  | q :: l => if x = q.1 then q.2 else getM l x z
def setM (l : List (κ × Value)) (x : κ) (v : Value) : List (κ × Value) := match l with
  | [] => [(x, v)]
  | q :: l => if x = q.1 then (x, v) :: l else q :: setM l x v
theorem MapT.find (M : MapT P t κ) (x : κ) (w : World) : ∀ (l : List (κ × Value)) (es : List MapEntry) (i : Nat), es.map (fun e => (e.key, e.val)) = M.ents l →
    ((∀ q ∈ l, x ≠ q.1) ∧ (Instr.findAsking M.k (M.enc x) es i).run P w = .ok none w) ∨
    ∃ j q, l[j]? = some q ∧ q.1 = x ∧ (∀ j' q', j' < j → l[j']? = some q' → x ≠ q'.1) ∧ (Instr.findAsking M.k (M.enc x) es i).run P w = .ok (some (i + j, q.2)) w
  | [], es, i, h => by
    have : es = [] := by simpa [MapT.ents] using h
    subst this
    exact .inl ⟨fun q hq => by simp at hq, by simp [Instr.findAsking]⟩
  | q :: l, [], i, h => by simp [MapT.ents] at h
  | q :: l, e :: es, i, h => by
    simp only [MapT.ents, List.map_cons, List.cons.injEq, Prod.mk.injEq] at h
    obtain ⟨⟨h1, h2⟩, h3⟩ := h
    have heq := M.eq x q.1 w
    by_cases hx : x = q.1
    · rw [decide_eq_true hx] at heq
      refine .inr ⟨0, q, rfl, hx.symm, fun j' _ hj => absurd hj (Nat.not_lt_zero _), ?_⟩
      simp only [Instr.findAsking, Sem.run_bind, h1, heq, Result.andThen_ok]
      simp [h2]
    · rw [decide_eq_false hx] at heq
      have hrun : (Instr.findAsking M.k (M.enc x) (e :: es) i).run P w = (Instr.findAsking M.k (M.enc x) es (i + 1)).run P w := by
        simp only [Instr.findAsking, Sem.run_bind, h1, heq, Result.andThen_ok]
        simp
      rcases M.find x w l es (i + 1) h3 with ⟨g1, g2⟩ | ⟨j, q', g1, g2, g3, g4⟩
      · refine .inl ⟨fun q' hq' => ?_, hrun.trans g2⟩
        rcases List.mem_cons.1 hq' with rfl | hq'
        · exact hx
        · exact g1 q' hq'
      · refine .inr ⟨j + 1, q', g1, g2, fun j' q2 hj hq2 => ?_, by rw [hrun, g4]; congr 3; omega⟩
        cases j' with
        | zero => injection hq2 with hq2; subst hq2; exact hx
        | succ j' => exact g3 j' q2 (by omega) hq2
theorem getM_none {l : List (κ × Value)} {x : κ} {z : Value} (h : ∀ q ∈ l, x ≠ q.1) : getM l x z = z := by
  induction l with
  | nil => rfl
  | cons q l ih => rw [getM, if_neg (h q (by simp)), ih fun q' hq => h q' (by simp [hq])]
theorem getM_some : ∀ {l : List (κ × Value)} {x : κ} {z : Value} {j : Nat} {q : κ × Value}, l[j]? = some q → q.1 = x → (∀ j' q', j' < j → l[j']? = some q' → x ≠ q'.1) → getM l x z = q.2
  | [], _, _, j, q, h, _, _ => by simp at h
  | p :: l, x, z, 0, q, h, hx, _ => by
    injection h with h; subst h
    rw [getM, if_pos hx.symm]
  | p :: l, x, z, j + 1, q, h, hx, hn => by
    rw [getM, if_neg (hn 0 p (by omega) rfl)]
    exact getM_some (by simpa using h) hx fun j' q' hj hq' => hn (j' + 1) q' (by omega) (by simpa using hq')
theorem setM_none {l : List (κ × Value)} {x : κ} {v : Value} (h : ∀ q ∈ l, x ≠ q.1) : setM l x v = l ++ [(x, v)] := by
  induction l with
  | nil => rfl
  | cons q l ih => rw [setM, if_neg (h q (by simp)), ih fun q' hq => h q' (by simp [hq])]; rfl
theorem setM_some : ∀ {l : List (κ × Value)} {x : κ} {v : Value} {j : Nat} {q : κ × Value}, l[j]? = some q → q.1 = x → (∀ j' q', j' < j → l[j']? = some q' → x ≠ q'.1) → setM l x v = l.set j (x, v)
  | [], _, _, j, q, h, _, _ => by simp at h
  | p :: l, x, v, 0, q, h, hx, _ => by
    injection h with h; subst h
    rw [setM, if_pos hx.symm]; rfl
  | p :: l, x, v, j + 1, q, h, hx, hn => by
    rw [setM, if_neg (hn 0 p (by omega) rfl), setM_some (by simpa using h) hx fun j' q' hj hq' => hn (j' + 1) q' (by omega) (by simpa using hq')]
    rfl
theorem MapT.lookup (M : MapT P t κ) {w : World} {g : Nat} {es : Array MapEntry} {clock : Nat} {l : List (κ × Value)} (hb : w.heap[g]? = some (.map es clock)) (he : es.toList.map (fun e => (e.key, e.val)) = M.ents l) (x : κ) :
    (Instr.lookup t (.map (some g)) (M.enc x) false).run P w = .ok (getM l x M.z) w := by
  rcases M.find x w l es.toList 0 he with ⟨g1, g2⟩ | ⟨j, q, g1, g2, g3, g4⟩
  · rw [getM_none g1]
    simp [Instr.lookup, run_underlying M.und, MapKept.run_getObj_map hb, M.chk, M.wide, g2, M.zero, Result.andThen]
  · rw [getM_some g1 g2 g3]
    simp [Instr.lookup, run_underlying M.und, MapKept.run_getObj_map hb, M.chk, M.wide, g4, Result.andThen]
theorem MapT.update (M : MapT P t κ) {w : World} {g : Nat} {es : Array MapEntry} {clock : Nat} {l : List (κ × Value)} (hb : w.heap[g]? = some (.map es clock)) (he : es.toList.map (fun e => (e.key, e.val)) = M.ents l) (x : κ) (v : Value) :
    ∃ es' clock', (Instr.mapUpdate t (.map (some g)) (M.enc x) v).run P w = .ok () (w.putObj g (.map es' clock')) ∧ es'.toList.map (fun e => (e.key, e.val)) = M.ents (setM l x v) := by
  rcases M.find x w l es.toList 0 he with ⟨g1, g2⟩ | ⟨j, q, g1, g2, g3, g4⟩
  · refine ⟨es.push ⟨M.enc x, v, clock⟩, clock + 1, ?_, ?_⟩
    · simp [Instr.mapUpdate, run_underlying M.und, MapKept.run_getObj_map hb, M.chk, M.wide, g2, MapKept.run_setObj_map _ hb, Result.andThen, World.putObj]
    · rw [setM_none g1]
      simp [MapT.ents] at he ⊢
      exact he
  · have hlen : es.toList.length = l.length := by have := congrArg List.length he; simpa [MapT.ents] using this
    have hjl : j < l.length := (List.getElem?_eq_some_iff.1 g1).1
    have hje : j < es.size := by rw [← Array.length_toList]; omega
    have hkey : es[j].key = M.enc x := by
      have h1 := congrArg (fun L : List (Value × Value) => L[j]?) he
      simp only [MapT.ents, List.getElem?_map, g1, Option.map_some] at h1
      rw [Array.getElem?_toList, Array.getElem?_eq_getElem hje] at h1
      simp only [Option.map_some, Option.some.injEq, Prod.mk.injEq] at h1
      rw [h1.1, g2]
    refine ⟨es.modify j (fun e => { e with key := M.enc x, val := v }), clock, ?_, ?_⟩
    · simp [Instr.mapUpdate, run_underlying M.und, MapKept.run_getObj_map hb, M.chk, M.wide, g4, hje, hkey, Instr.keyThatStays, M.bits, MapKept.run_setObj_map _ hb, Result.andThen, World.putObj]
    · rw [setM_some g1 g2 g3]
      apply List.ext_getElem?
      intro i
      have h1 := congrArg (fun L : List (Value × Value) => L[i]?) he
      simp only [MapT.ents, List.getElem?_map] at h1 ⊢
      rw [List.getElem?_set, Array.getElem?_toList] at *
      rw [Array.getElem?_modify]
      by_cases hij : j = i
      · subst hij
        simp [hje, hjl]
      · simp only [if_neg hij]
        exact h1
end
end Go.Lf
end

section
namespace Go.Lf
open Go Go.RowKit
def OpsR (P : Program) (cx : Cx) (ops : Array Oper) (os : List Oper) (env : Env) (R : Env → Prop) : Prop :=
  ∀ (ρ : Option Nat) (F : Frm) (B0 : Nat) (w0 : World) (S0 : Nat → Prop) (ds : List Deferred) (a : Act) (w : World) (Q : Exit → Act → World → Prop) (rest : List Oper), Agree P F B0 w0 S0 cx ds env a w →
    (∀ env', R env' → ∀ a' w', Agree P F B0 w0 S0 cx ds env' a' w' → wpListIn (Fi ρ) 0 P ops Q rest a' w') → wpListIn (Fi ρ) 0 P ops Q (os ++ rest) a w
def TriR (P : Program) (cx : Cx) (c : Code) (env : Env) (ex : Ex) (R : Env → Prop) : Prop :=
  ∀ (ρ : Option Nat), (cx.lo = 0 → ρ = none) → ∀ (F : Frm) (B0 : Nat) (w0 : World) (S0 : Nat → Prop) (ds : List Deferred) (a : Act) (w : World) (Q : Exit → Act → World → Prop), Agree P F B0 w0 S0 cx ds env a w →
    (∀ env', R env' → ∀ a' w', AgM P F B0 w0 S0 cx ds env' a' w' → Q ex.out a' w') → c.wpIn (Fi ρ) 0 P Q a w
section
variable {P : Program} {cx : Cx} {ops : Array Oper}
theorem OpsR.ev (hcx : CxBase P cx) (hK : ∀ f xs, cx.K f xs = none) (hM : ∀ f x, x ≠ .bad → cx.KM f x = none) {os : List Oper} {env env' : Env} {ans : List Ans} {ps : List Prop} (h : opsEnv P cx ops os env ans = some (env', ps)) (hp : ∀ q ∈ ps, q) : OpsR P cx ops os env (· = env') := by
  intro ρ F B0 w0 S0 ds a w Q rest hag hQ
  obtain ⟨ls, as', h⟩ := opsEnv_ok h
  obtain ⟨es, e1, _, _, rfl, e4⟩ := evOpsA_split hcx hK hM h hp
  exact evOpsA_pre rest os e1 e4 hag fun a' w' ha => hQ _ rfl a' w' ha
theorem OpsR.seq {os1 os2 : List Oper} {env : Env} {R1 R2 : Env → Prop} (h1 : OpsR P cx ops os1 env R1) (h2 : ∀ env1, R1 env1 → OpsR P cx ops os2 env1 R2) : OpsR P cx ops (os1 ++ os2) env R2 := by
  intro ρ F B0 w0 S0 ds a w Q rest hag hQ
  rw [List.append_assoc]
  exact h1 ρ F B0 w0 S0 ds a w Q _ hag fun env1 hr a' w' ha => h2 env1 hr ρ F B0 w0 S0 ds a' w' Q rest ha hQ
theorem TriR.region {id : Nat} {env : Env} {R : Env → Prop} (h : OpsR P cx ops ops.toList env R) : TriR P cx (.region id ops false) env .normal R := by
  intro ρ hρ F B0 w0 S0 ds a w Q hag hQ
  refine wpIn_region_list ?_
  have := h ρ F B0 w0 S0 ds a w Q [] hag fun env' hr a' w' ha => hQ env' hr a' w' ha.m
  rwa [List.append_nil] at this
theorem Tri.seqR {c d : Code} {env env' : Env} {ex : Ex} {R : Env → Prop} (h1 : TriR P cx c env .normal R) (h2 : ∀ env1, R env1 → Tri P cx d env1 ex env') : Tri P cx (.seq c d) env ex env' := by
  intro ρ hρ F B0 w0 S0 ds a w Q hag hQ
  exact wpIn_seq (h1 ρ hρ F B0 w0 S0 ds a w _ hag fun env1 hr a' w' ha => (h2 env1 hr).go hρ ha hQ)
theorem Tri.ofR {c : Code} {env env' : Env} {ex : Ex} {R : Env → Prop} (h : TriR P cx c env ex R) (hr : ∀ e, R e → e = env') : Tri P cx c env ex env' :=
  fun ρ hρ F B0 w0 S0 ds a w Q hag hQ => h ρ hρ F B0 w0 S0 ds a w Q hag fun e he a' w' ha => hQ a' w' (hr e he ▸ ha)
theorem Tri.seq {c d : Code} {env env1 env' : Env} {ex : Ex} (h1 : Tri P cx c env .normal env1) (h2 : Tri P cx d env1 ex env') : Tri P cx (.seq c d) env ex env' := by
  intro ρ hρ F B0 w0 S0 ds a w Q hag hQ
  exact wpIn_seq (h1 ρ hρ F B0 w0 S0 ds a w _ hag fun a' w' ha => h2.go hρ ha hQ)
theorem Tri.seqX {c d : Code} {env env' : Env} {ex : Ex} (h1 : Tri P cx c env ex env') (hne : ex ≠ .normal) : Tri P cx (.seq c d) env ex env' := by
  intro ρ hρ F B0 w0 S0 ds a w Q hag hQ
  refine wpIn_seq (h1 ρ hρ F B0 w0 S0 ds a w _ hag fun a' w' ha => ?_)
  cases ex with
  | normal => exact absurd rfl hne
  | exit id => exact hQ a' w' ha
  | ret => exact hQ a' w' ha
theorem Tri.block {id : Nat} {c : Code} {env env' : Env} {ex ex' : Ex} (h : Tri P cx c env ex env') (he : (ex = .exit id ∧ ex' = .normal) ∨ (ex ≠ .exit id ∧ ex' = ex)) : Tri P cx (.block id c) env ex' env' := by
  intro ρ hρ F B0 w0 S0 ds a w Q hag hQ
  refine wpIn_block (h ρ hρ F B0 w0 S0 ds a w _ hag fun a' w' ha => ?_)
  rcases he with ⟨rfl, rfl⟩ | ⟨hne, rfl⟩
  · simp only [Ex.out, Exit.inBlock, if_true]; exact hQ a' w' ha
  · cases ex' with
    | normal => exact hQ a' w' ha
    | ret => exact hQ a' w' ha
    | exit id' =>
      have : id' ≠ id := fun e => hne (e ▸ rfl)
      simp only [Ex.out, Exit.inBlock, this, if_false]; exact hQ a' w' ha
theorem Tri.cond {t : Nat} {b : Bool} {c d : Code} {env env' : Env} {ex : Ex} (hl : lk env t = some (.atom (.bool b))) (h : Tri P cx (if b = true then c else d) env ex env') : Tri P cx (.cond (.tmp t) c d) env ex env' := by
  intro ρ hρ F B0 w0 S0 ds a w Q hag hQ
  have hb := hag.bool hl
  cases b with
  | true => exact wpIn_cond_true hb (h ρ hρ F B0 w0 S0 ds a w Q hag hQ)
  | false => exact wpIn_cond_false hb (h ρ hρ F B0 w0 S0 ds a w Q hag hQ)
theorem Tri.skip {env : Env} : Tri P cx .skip env .normal env := fun _ _ _ _ _ _ _ _ _ _ hag hQ => wpIn_skip (hQ _ _ hag.m)
theorem Tri.exit {id : Nat} {env : Env} : Tri P cx (.exit id) env (.exit id) env := fun _ _ _ _ _ _ _ _ _ _ hag hQ => wpIn_exit (hQ _ _ hag.m)
theorem Tri.ret {env : Env} : Tri P cx .ret env .ret env := fun _ _ _ _ _ _ _ _ _ _ hag hQ => wpIn_ret (hQ _ _ hag.m)
def valOf : AV → Option Value
  | .atom v => some v
  | .agg cs => (atoms cs).map fun us => .agg us.toArray
  | _ => none
theorem rc_atoms {R : Value → AV → Own → Prop} (hR : ∀ v u O, R v (.atom u) O → v = u) {vs : List Value} {cs : List AV} {O : Own} (h : Rc R vs cs O) : ∀ {us : List Value}, atoms cs = some us → vs = us := by
  induction h with
  | nil _ => intro us h; injection h
  | @cons v x vs xs O1 O2 O h1 _ _ ih =>
    intro us h
    cases x with
    | atom u =>
      simp only [atoms] at h
      cases ha : atoms xs with
      | none => rw [ha] at h; cases h
      | some ws =>
        rw [ha] at h
        injection h with h; subst h
        rw [ih ha, hR v u O1 h1]
    | _ => cases h
theorem Rv.valOf {B0 : Nat} {w : World} {S : Nat → Prop} {n : Nat} {v u : Value} {x : AV} {O : Own} (h : Rv P B0 w S n v x O) (hx : Lf.valOf x = some u) : v = u := by
  obtain ⟨m, rfl⟩ := h.pos
  cases x with
  | atom u' => injection hx with hx; subst hx; exact h.1
  | agg cs =>
    obtain ⟨vs, rfl, hrc⟩ := h
    simp only [Lf.valOf] at hx
    cases ha : atoms cs with
    | none => rw [ha] at hx; cases hx
    | some us =>
      rw [ha] at hx
      injection hx with hx; subst hx
      have := rc_atoms (fun v u O hr => by
        cases m with
        | zero => exact hr.elim
        | succ m => exact hr.1) hrc ha
      rw [← this]
  | _ => cases hx
theorem Agree.valOf {F : Frm} {B0 : Nat} {w0 : World} {S0 : Nat → Prop} {ds : List Deferred} {env : Env} {a : Act} {w : World} (h : Agree P F B0 w0 S0 cx ds env a w) {t : Nat} {x : AV} {u : Value} (hl : lk env t = some x) (hx : Lf.valOf x = some u) : a.eval (.tmp t) = u := by
  obtain ⟨_, _, n, S, Os, hn, _, hst⟩ := h
  obtain ⟨v, hv, hs⟩ := hst.rel t x hl
  have hr := hs.rv (by cases x <;> first | rfl | cases hx)
  rw [← hr.valOf hx]
  simp [Act.eval, Array.getD_eq_getD_getElem?, hv]
variable {t : TypeId} {κ : Type} [DecidableEq κ]
theorem OpsR.one {y : Oper} {env : Env} {R : Env → Prop} (hg : y.guard = none)
    (h : ∀ (ρ : Option Nat) (F : Frm) (B0 : Nat) (w0 : World) (S0 : Nat → Prop) (ds : List Deferred) (a : Act) (w : World) (Q : Exit → Act → World → Prop) (K : Act → World → Prop), Agree P F B0 w0 S0 cx ds env a w → (∀ env', R env' → ∀ a' w', Agree P F B0 w0 S0 cx ds env' a' w' → K a' w') → y.wpIn (Fi ρ) 0 P a w K Q) :
    OpsR P cx ops [y] env R := by
  intro ρ F B0 w0 S0 ds a w Q rest hag hQ
  show wpListIn (Fi ρ) 0 P ops Q (y :: rest) a w
  unfold wpListIn
  have hw : Region.wanted y (yielded ops a.tmps) = true := by unfold Region.wanted; rw [hg]
  rw [if_pos hw]
  exact h ρ F B0 w0 S0 ds a w Q _ hag hQ
theorem OpsR.lookup (M : MapT P t κ) {y : Oper} {tx tk r g : Nat} {env : Env} {l : List (κ × Value)} {x : κ} {kt : AV} {ls : List Nat} {eff : Eff} (hg : y.guard = none) (ho : y.op = .lookup t (.tmp tx) (.tmp tk) false)
    (h1 : lk env tx = some (.atom (.map (some g)))) (h2 : lk env tk = some kt) (h3 : valOf kt = some (M.enc x)) (h4 : lk env r = some (.mp g (M.ents l))) (hout : (outP cx y.dst (.atom (getM l x M.z)) [] []).run env = some (ls, eff)) :
    OpsR P cx ops [y] env (· = applyEff eff env) := by
  refine .one hg fun ρ F B0 w0 S0 ds a w Q K hag hK => ?_
  have e1 := hag.valOf h1 rfl
  have e2 := hag.valOf h2 h3
  obtain ⟨hd, hN, n, S, Os, hn, hgr, hst⟩ := hag
  obtain ⟨v, hv, hs⟩ := hst.rel r _ h4
  have hr := hs.rv rfl
  obtain ⟨m, rfl⟩ := hr.pos
  obtain ⟨_, ⟨es, clock, hb, he⟩, _⟩ := hr
  have hrun : (execOp a.eval y).run P w = .ok (.value (getM l x M.z)) w := by
    rw [execOp, ho]
    simp [e1, e2, M.lookup hb he x]
  refine opIn (by intro c hc; rw [ho] at hc; cases hc) (Oper.wp_mono (fun a' w' hp => ?_) (op_atom (Q := Q) hst hn hN hout hrun))
  obtain ⟨p1, p2, n', S', Os', q1, q2, q3⟩ := hp
  exact hK _ rfl a' w' ⟨p1.trans hd, p2, n', S', Os', q1, hgr.trans q2, q3⟩
theorem OpsR.update (M : MapT P t κ) {y : Oper} {tx tk r g : Nat} {vo : Operand} {env : Env} {l : List (κ × Value)} {x : κ} {u : Value} {kt : AV} (hg : y.guard = none) (ho : y.op = .mapUpdate t (.tmp tx) (.tmp tk) vo) (hd : y.dst = none)
    (h1 : lk env tx = some (.atom (.map (some g)))) (h2 : lk env tk = some kt) (h3 : valOf kt = some (M.enc x)) (h4 : lk env r = some (.mp g (M.ents l))) (hv : vo = .const u ∨ ∃ tv, vo = .tmp tv ∧ lk env tv = some (.atom u)) :
    OpsR P cx ops [y] env (· = (r, .mp g (M.ents (setM l x u))) :: env) := by
  refine .one hg fun ρ F B0 w0 S0 ds a w Q K hag hK => ?_
  have e1 := hag.valOf h1 rfl
  have e2 := hag.valOf h2 h3
  have e3 : a.eval vo = u := by
    rcases hv with rfl | ⟨tv, rfl, h5⟩
    · rfl
    · exact hag.valOf h5 rfl
  obtain ⟨hd', hN, n, S, Os, hn, hgr, hst⟩ := hag
  obtain ⟨v, hvr, hs⟩ := hst.rel r _ h4
  have hr := hs.rv rfl
  obtain ⟨m, rfl⟩ := hr.pos
  obtain ⟨hB, ⟨es, clock, hb, he⟩, hO⟩ := hr
  obtain ⟨es', clock', hrun, he'⟩ := M.update hb he x u
  have hgl : g < w.heap.size := (Array.getElem?_eq_some_iff.1 hb).1
  have hown : 0 < Os r g := by have := hO g; simp [ind] at this; omega
  have hrl : r < a.tmps.size := (Array.getElem?_eq_some_iff.1 hvr).1
  have hother : ∀ b, b ≠ g → (w.putObj g (.map es' clock')).heap[b]? = w.heap[b]? := fun b hb => World.putObj_heap_other hb
  have key := hst.set (Nat.le_refl _) r (v := v) (x := .mp g (M.ents (setM l x u))) (O := ind (some g)) (S' := S) (w' := w.putObj g (.map es' clock')) ⟨hrl, .inr hvr⟩ (putObj_below hB) (fun b hb => hb)
    (fun b hb => by rw [World.putObj_size]; exact hst.sLt b hb) (fun b t _ hb => hst.excl b t hb)
    (fun b hb => by
      have := hst.excl b r hb
      rw [hO b] at this; exact this)
    (fun b hbb => hother b fun e => by
      rw [e] at hbb
      rcases hbb with hbb | ⟨t, ht, hbb⟩
      · have := hst.excl g r hbb; omega
      · rcases hst.dis r t g (Ne.symm ht) with h | h <;> omega)
    (fun b => by unfold ind; split <;> omega)
    (fun b t ht hb => by
      unfold ind at hb
      split at hb
      · rename_i e; injection e with e; subst e
        rcases hst.dis r t g (Ne.symm ht) with h | h
        · omega
        · exact h
      · omega)
    (.inr ⟨hB, ⟨es', clock', World.putObj_heap_same hgl, he'⟩, fun _ => rfl⟩)
    (fun t y' _ _ hy hyr => by
      obtain ⟨z, hz, hzr⟩ := hst.leaf t y' r hy hyr
      rw [h4] at hz; injection hz with hz; subst hz; cases hzr)
  rw [setSame a.tmps r _ hvr] at key
  have hrun2 : (execOp a.eval y).run P w = .ok .skip (w.putObj g (.map es' clock')) := by
    rw [execOp, ho]
    simp [e1, e2, e3, hrun]
  refine opIn (by intro c hc; rw [ho] at hc; cases hc) (wp_skip' hrun2 ?_)
  rw [hd]
  exact hK _ rfl a _ ⟨hd', hN, m + 1, S, _, hn, hgr, key⟩
theorem OpsR.make {y : Oper} {d r : Nat} {env : Env} (hg : y.guard = none) (ho : y.op = .makeMap t none) (hd : y.dst = some d) (hdN : cx.lo ≤ d ∧ d < cx.N) (hrN : r < cx.N) (hr : lk env r = none) (hdn : lk env d = none) :
    OpsR P cx ops [y] env fun env' => ∃ g, env' = (d, .atom (.map (some g))) :: (r, .mp g []) :: env := by
  refine .one hg fun ρ F B0 w0 S0 ds a w Q K hag hK => ?_
  obtain ⟨hd', hN, n, S, Os, hn, hgr, hst⟩ := hag
  obtain ⟨m, rfl⟩ : ∃ m, n = m + 1 := ⟨n - 1, by omega⟩
  have hrl : r < a.tmps.size := by rw [hN.1]; exact hrN
  obtain ⟨v, hvr⟩ : ∃ v, a.tmps[r]? = some v := ⟨_, Array.getElem?_eq_getElem hrl⟩
  obtain ⟨w1, hw1⟩ : ∃ w1, w.alloc (.map #[] 0) = w1 := ⟨_, rfl⟩
  have hB1 : Below w.heap.size w w1 := by rw [← hw1]; exact (Below.refl _ w).alloc (Nat.le_refl _) _
  have hnew : w1.heap[w.heap.size]? = some (.map #[] 0) := by rw [← hw1]; exact World.alloc_heap_new w _
  have hlt : ∀ t b, 0 < Os t b → b < w.heap.size := fun t b hb => (St.lt (a := a) hst t b hb).2
  have noLeaf : ∀ q : Nat, lk env q = none → ∀ t y', lk env t = some y' → leafRoot y' ≠ some q := by
    intro q hq t y' hy hyr
    obtain ⟨z, hz, _⟩ := hst.leaf t y' q hy hyr
    rw [hq] at hz; cases hz
  have k1 := hst.set (Nat.le_refl _) r (v := v) (x := .mp w.heap.size []) (O := ind (some w.heap.size)) (S' := S) (w' := w1) ⟨hrl, .inr hvr⟩ (hB1.mono hst.b0) (fun b hb => hb)
    (fun b hb => Nat.lt_of_lt_of_le (hst.sLt b hb) hB1.size) (fun b t _ hb => hst.excl b t hb)
    (fun b hb => by
      unfold ind
      rw [if_neg]
      intro e; injection e with e; subst e
      have := hst.sLt _ hb; omega)
    (fun b hb => hB1.block b (by
      rcases hb with hb | ⟨t, _, hb⟩
      · exact hst.sLt b hb
      · exact hlt t b hb))
    (fun b => by unfold ind; split <;> omega)
    (fun b t _ hb => by
      unfold ind at hb
      split at hb
      · rename_i e; injection e with e; subst e
        rcases Nat.eq_zero_or_pos (Os t w.heap.size) with h | h
        · exact h
        · have := hlt t _ h; omega
      · omega)
    (.inr ⟨hst.b0, ⟨#[], 0, hnew, rfl⟩, fun _ => rfl⟩)
    (fun t y' _ _ hy hyr => absurd hyr (noLeaf r hr t y' hy))
  rw [setSame a.tmps r _ hvr] at k1
  have hdl : d < a.tmps.size := by rw [hN.1]; exact hdN.2
  have noLeaf2 : ∀ t y', lk ((r, .mp w.heap.size []) :: env) t = some y' → leafRoot y' ≠ some d := by
    intro t y' hy
    simp only [lk] at hy
    split at hy
    · injection hy with hy; subst hy; intro h; cases h
    · exact noLeaf d hdn t y' hy
  have k2 := k1.set (Nat.le_refl _) d (v := .map (some w.heap.size)) (x := .atom (.map (some w.heap.size))) (O := fun _ => 0) (S' := S) (w' := w1) ⟨hdl, .inl (by rw [hN.2]; exact hdN.1)⟩ (Below.refl _ _) (fun b hb => hb)
    k1.sLt (fun b t _ hb => k1.excl b t hb) (fun _ _ => rfl) (fun _ _ => rfl) (fun _ => Nat.zero_le _) (fun b t _ hb => absurd hb (by simp)) (.inr ⟨rfl, fun _ => rfl⟩)
    (fun t y' _ _ hy hyr => absurd hyr (noLeaf2 t y' hy))
  have hrun : (execOp a.eval y).run P w = .ok (.value (.map (some w.heap.size))) w1 := by
    rw [execOp, ho, ← hw1]
    simp [run_makeMap]
  refine opIn (by intro c hc; rw [ho] at hc; cases hc) (wp_val hrun ?_)
  rw [hd]
  exact hK _ ⟨w.heap.size, rfl⟩ _ _ ⟨hd', by simpa [Act.put] using hN, m + 1, S, _, hn, hgr, k2⟩
end
end Go.Lf
end

section
open Go Go.Lf Go.Proofs
namespace Tst
def idV (p : Idd) : Value := .agg #[.int .u8 p.y, .int .i64 p.n]
theorem part30a (y n : Int) (w : World) : (part 5 #[.int .u8 y, .int .i64 n] 0).run Try.prog w = .ok (.int .u8 y) w := by simp [part, isAgg, run_underlying Try.underlying5]
theorem part30b (y n : Int) (w : World) : (part 3 #[.int .u8 y, .int .i64 n] 1).run Try.prog w = .ok (.int .i64 n) w := by simp [part, isAgg, run_underlying Try.underlying3]
theorem chk30 (em : Bool) (p : Idd) (w : World) : (Instr.checkKey em 10000 30 (idV p)).run Try.prog w = .ok () w := by
  have g5 : ∀ k y w, (Instr.checkKey em (k + 1) 5 (.int .u8 y)).run Try.prog w = .ok () w := fun k y w => by simp [Instr.checkKey, run_underlying Try.underlying5]
  have g3 : ∀ k y w, (Instr.checkKey em (k + 1) 3 (.int .i64 y)).run Try.prog w = .ok () w := fun k y w => by simp [Instr.checkKey, run_underlying Try.underlying3]
  have g30 : ∀ k w, (Instr.checkKey em (k + 1 + 1) 30 (idV p)).run Try.prog w = .ok () w := fun k w => by
    unfold idV
    rw [Instr.checkKey]
    simp [run_underlying Try.underlying30, part30a, part30b, g5, g3, Result.andThen]
  exact g30 9998 w
noncomputable def mapT112 : MapT Try.prog 112 Idd where
  k := 30
  e := 4
  enc := idV
  z := .bool false
  und := Try.underlying112
  chk := chk30
  eq := fun x y w => by
    show (Op.equalIn (9998 + 2) 30 (idV x) (idV y)).run Try.prog w = _
    unfold idV
    rw [eqIn30 9998 w]
    congr 1
    cases x; cases y
    rw [Bool.eq_iff_iff]
    simp [Bool.and_eq_true]
  wide := fun x es w => run_findKey_eq (w := w) (by rw [Try.underlying30]) (idV x) es
  zero := fun w => Try.zeroValue4 w
  bits := fun x => by simp [Instr.sameBits, idV]
end Tst
end

section
open Go Go.Lf Go.Proofs
namespace Tst
set_option maxHeartbeats 0
noncomputable abbrev mpS (g : Nat) (s : List Idd) : AV := .mp g (mapT112.ents (s.map fun p => (p, Value.bool true)))
abbrev rfM (g : Nat) : AV := .atom (.map (some g))
theorem twa_0 (g : Nat) (s : List Idd) (c : Option Nat) (l : List Idd) (d i : Int) : Tri Try.prog (cxN 25 5) (rfAssign Try.f55 0) ([(11, ndl d i), (12, isl c l), (0, mpS g s), (2, .box [bb false]), (3, .box [rfM g])] ) (Ex.normal) ([(0, AV.mp g (MapT.ents mapT112 (List.map (fun p => (p, Value.bool true)) s))), (2, AV.box [bb false]), (3, AV.box [AV.atom (Value.map (some g))]), (5, AV.sl Mode.any 30 c (List.map Idd.enc l))]) :=
  evA_ok (H := h55) (ans := [.c]) (ps := []) (ans' := []) (base 25 5) cxA_K.1 cxA_K.2 _ (by kernel_rfl)  allp_nil
theorem tw4_0 (g : Nat) (s : List Idd) (c : Option Nat) (l : List Idd) : Tri Try.prog (cxN 25 5) (regAt Try.f55 4) ([(0, mpS g s), (2, .box [bb false]), (3, .box [rfM g]), (5, isl c l)] ) (Ex.normal) ([(0, AV.mp g (MapT.ents mapT112 (List.map (fun p => (p, Value.bool true)) s))), (2, AV.box [bb false]), (3, AV.box [AV.atom (Value.map (some g))]), (5, AV.sl Mode.any 30 c (List.map Idd.enc l)), (13, AV.sl Mode.any 30 c (List.map Idd.enc l)), (14, it (↑(List.length (List.map Idd.enc l)) : Int)), (15, it 0)]) :=
  evA_ok (H := h55) (ans := [.c, .c, .c]) (ps := []) (ans' := []) (base 25 5) cxA_K.1 cxA_K.2 _ (by kernel_rfl)  allp_nil
theorem tw5_0 (g : Nat) (s : List Idd) (c : Option Nat) (l : List Idd) (m i : Int) : Tri Try.prog (cxN 25 5) (regAt Try.f55 5) ([(0, mpS g s), (2, .box [bb false]), (3, .box [rfM g]), (5, isl c l), (13, isl c l), (14, it m), (15, it i)] ) (Ex.normal) ([(0, AV.mp g (MapT.ents mapT112 (List.map (fun p => (p, Value.bool true)) s))), (2, AV.box [bb false]), (3, AV.box [AV.atom (Value.map (some g))]), (5, AV.sl Mode.any 30 c (List.map Idd.enc l)), (13, AV.sl Mode.any 30 c (List.map Idd.enc l)), (14, it m), (15, it i), (16, bb (decide (i < m)))]) :=
  evA_ok (H := h55) (ans := [.c]) (ps := []) (ans' := []) (base 25 5) cxA_K.1 cxA_K.2 _ (by kernel_rfl)  allp_nil
theorem tw6_0 (g : Nat) (s : List Idd) (c : Option Nat) (l : List Idd) (m i : Int) (g0 : decide ((0 : Int) ≤ i ∧ i < (↑(List.length (List.map Idd.enc l)) : Int)) = true) (g1 : List.getD (List.map Idd.enc l) (Int.toNat i) AV.bad = Idd.enc (List.getD l (Int.toNat i) default)) : Tri Try.prog (cxN 25 5) (regAt Try.f55 6) ([(0, mpS g s), (2, .box [bb false]), (3, .box [rfM g]), (5, isl c l), (13, isl c l), (14, it m), (15, it i)] ) (Ex.normal) ([(0, AV.mp g (MapT.ents mapT112 (List.map (fun p => (p, Value.bool true)) s))), (2, AV.box [bb false]), (3, AV.box [AV.atom (Value.map (some g))]), (5, AV.sl Mode.any 30 c (List.map Idd.enc l)), (7, AV.box [ub (Idd.y (List.getD l (Int.toNat i) default)), it (Idd.n (List.getD l (Int.toNat i) default))]), (13, AV.sl Mode.any 30 c (List.map Idd.enc l)), (14, it m), (15, it i)]) :=
  evA_ok (H := h55) (ans := [.b true, .r (Idd.enc (List.getD l (Int.toNat i) default)), .c, .c, .c, .c]) (ps := [decide ((0 : Int) ≤ i ∧ i < (↑(List.length (List.map Idd.enc l)) : Int)) = true, List.getD (List.map Idd.enc l) (Int.toNat i) AV.bad = Idd.enc (List.getD l (Int.toNat i) default)]) (ans' := []) (base 25 5) cxA_K.1 cxA_K.2 _ (by kernel_rfl)  (allp g0 (allp g1 allp_nil))
theorem tw8_0 (g : Nat) (s : List Idd) : Tri Try.prog (cxN 25 5) (regAt Try.f55 8) ([(0, mpS g s), (2, .box [bb false])] ) (Ex.normal) ([(0, AV.mp g (MapT.ents mapT112 (List.map (fun p => (p, Value.bool true)) s))), (2, AV.box [bb true])]) :=
  evA_ok (H := h55) (ans := [.c, .c, .c]) (ps := []) (ans' := []) (base 25 5) cxA_K.1 cxA_K.2 _ (by kernel_rfl)  allp_nil
theorem tw10_0 (g : Nat) (s : List Idd) (c : Option Nat) (l : List Idd) (m i : Int) : Tri Try.prog (cxN 25 5) (regAt Try.f55 10) ([(0, mpS g s), (2, .box [bb false]), (3, .box [rfM g]), (5, isl c l), (13, isl c l), (14, it m), (15, it i)] ) (Ex.normal) ([(0, AV.mp g (MapT.ents mapT112 (List.map (fun p => (p, Value.bool true)) s))), (2, AV.box [bb false]), (3, AV.box [AV.atom (Value.map (some g))]), (5, AV.sl Mode.any 30 c (List.map Idd.enc l)), (13, AV.sl Mode.any 30 c (List.map Idd.enc l)), (14, it m), (15, it (IntKind.wrap IntKind.i64 (i + (1 : Int))))]) :=
  evA_ok (H := h55) (ans := [.c, .c]) (ps := []) (ans' := []) (base 25 5) cxA_K.1 cxA_K.2 _ (by kernel_rfl)  allp_nil
theorem tw0_0 (cf cb : Option Nat) (F B : List Stk) : Tri Try.prog (cxN 25 0) (regAt Try.f55 0) ([(0, beds (bsl cf F) (bsl cb B))] ) (Ex.normal) ([(1, AV.box [bsl cf F, bsl cb B]), (2, AV.box [bb false])]) :=
  evA_ok (H := h55) (ans := [.c, .c]) (ps := []) (ans' := []) (base 25 0) cxA_K.1 cxA_K.2 _ (by kernel_rfl)  allp_nil
theorem tw2_0 (g : Nat) (cf cb : Option Nat) (F B : List Stk) : Tri Try.prog (cxN 25 0) (regAt Try.f55 2) ([(0, mpS g []), (1, .box [bsl cf F, bsl cb B]), (2, .box [bb false]), (3, .box [rfM g])] ) (Ex.normal) ([(0, AV.mp g []), (2, AV.box [bb false]), (3, AV.box [AV.atom (Value.map (some g))]), (10, AV.fn 69 [AV.vadr [bsl cf F, bsl cb B] 0])]) :=
  evA_ok (H := h55) (ans := [.c, .r (AV.fn 69 [AV.vadr [bsl cf F, bsl cb B] 0]), .c, .c]) (ps := [PureC Try.prog 60 [view (AV.agg [bsl cf F, bsl cb B])] (AV.fn 69 [AV.vadr [bsl cf F, bsl cb B] 0])]) (ans' := []) (base 25 0) cxA_K.1 cxA_K.2 _ (by kernel_rfl)  (allp (by (first | rw [view_yn] | rw [view_two] | rw [view_twoI] | rw [view_beds] | skip); apply hl_0 <;> (first | assumption | rfl | (simp at * <;> omega))) allp_nil)
theorem tw11_0 (x : AV) : Tri Try.prog (cxN 25 0) (regAt Try.f55 11) ([(2, .box [bb false])] ) (Ex.normal) ([(2, AV.box [bb false])]) :=
  evA_ok (H := h55) (ans := [.c, .c, .c]) (ps := []) (ans' := []) (base 25 0) cxA_K.1 cxA_K.2 _ (by kernel_rfl)  allp_nil
end Tst
end

section
open Go Go.Lf Go.Proofs
namespace Tst
theorem getM_seen (s : List Idd) (p : Idd) : getM (s.map fun p => (p, Value.bool true)) p (.bool false) = .bool (decide (p ∈ s)) := by
  induction s with
  | nil => simp [getM]
  | cons q s ih =>
    rw [List.map_cons, getM]
    by_cases h : p = q
    · simp [h]
    · rw [if_neg h, ih]; simp [h]
theorem setM_seen (s : List Idd) (p : Idd) (h : p ∉ s) : setM (s.map fun p => (p, Value.bool true)) p (.bool true) = (s ++ [p]).map fun p => (p, Value.bool true) := by
  rw [setM_none fun q hq e => by
    obtain ⟨r, hr, rfl⟩ := List.mem_map.1 hq
    exact h (e ▸ hr)]
  simp
noncomputable abbrev eT (g : Nat) (s : List Idd) (c : Option Nat) (l : List Idd) (m i : Int) : Env := [(0, mpS g s), (2, .box [bb false]), (3, .box [rfM g]), (5, isl c l), (13, isl c l), (14, it m), (15, it i)]
noncomputable abbrev eK (g : Nat) (s : List Idd) (c : Option Nat) (l : List Idd) (m i : Int) (p : Idd) : Env := [(0, mpS g s), (2, .box [bb false]), (3, .box [rfM g]), (5, isl c l), (7, .box [ub p.y, it p.n]), (13, isl c l), (14, it m), (15, it i)]
theorem tw7 (g : Nat) (s : List Idd) (c : Option Nat) (l : List Idd) (m i : Int) (p : Idd) : Tri Try.prog (cxN 25 5) (.region 7 (opsAt Try.f55 7) false) (eK g s c l m i p) .normal ((21, bb (decide (p ∈ s))) :: (20, .agg [ub p.y, it p.n]) :: (19, rfM g) :: eK g s c l m i p) := by
  refine Tri.ofR (.region (R := (· = (21, bb (decide (p ∈ s))) :: (20, .agg [ub p.y, it p.n]) :: (19, rfM g) :: eK g s c l m i p)) ?_) fun e h => h
  rw [show (opsAt Try.f55 7).toList = (opsAt Try.f55 7).toList.take 2 ++ [(opsAt Try.f55 7).toList.getD 2 default] by kernel_rfl]
  refine .seq (OpsR.ev (base 25 5) cxA_K.1 cxA_K.2 (ans := [.c, .c]) (ps := []) (env' := (20, .agg [ub p.y, it p.n]) :: (19, rfM g) :: eK g s c l m i p) (by kernel_rfl) allp_nil) ?_
  rintro _ rfl
  have h := OpsR.lookup (P := Try.prog) (cx := cxN 25 5) (ops := opsAt Try.f55 7) mapT112 (y := (opsAt Try.f55 7).toList.getD 2 default) (tx := 19) (tk := 20) (r := 0) (g := g) (env := (20, .agg [ub p.y, it p.n]) :: (19, rfM g) :: eK g s c l m i p) (l := s.map fun p => (p, Value.bool true)) (x := p) (ls := [42]) (eff := ⟨[(21, .atom (getM (s.map fun p => (p, Value.bool true)) p mapT112.z))], []⟩) (by kernel_rfl) (by kernel_rfl) rfl rfl rfl rfl (by kernel_rfl)
  have e : applyEff ⟨[(21, .atom (getM (s.map fun p => (p, Value.bool true)) p mapT112.z))], []⟩ ((20, AV.agg [ub p.y, it p.n]) :: (19, rfM g) :: eK g s c l m i p) = (21, bb (decide (p ∈ s))) :: (20, .agg [ub p.y, it p.n]) :: (19, rfM g) :: eK g s c l m i p := by
    show (21, AV.atom (getM (s.map fun p => (p, Value.bool true)) p (.bool false))) :: _ = _
    rw [getM_seen]; rfl
  rw [e] at h
  exact h
theorem tw9 (g : Nat) (s : List Idd) (c : Option Nat) (l : List Idd) (m i : Int) (p : Idd) (hp : p ∉ s) : Tri Try.prog (cxN 25 5) (.region 9 (opsAt Try.f55 9) false) (eK g s c l m i p) .normal ((0, mpS g (s ++ [p])) :: (23, .agg [ub p.y, it p.n]) :: (22, rfM g) :: eK g s c l m i p) := by
  refine Tri.ofR (.region (R := (· = (0, mpS g (s ++ [p])) :: (23, .agg [ub p.y, it p.n]) :: (22, rfM g) :: eK g s c l m i p)) ?_) fun e h => h
  rw [show (opsAt Try.f55 9).toList = (opsAt Try.f55 9).toList.take 2 ++ [(opsAt Try.f55 9).toList.getD 2 default] by kernel_rfl]
  refine .seq (OpsR.ev (base 25 5) cxA_K.1 cxA_K.2 (ans := [.c, .c]) (ps := []) (env' := (23, .agg [ub p.y, it p.n]) :: (22, rfM g) :: eK g s c l m i p) (by kernel_rfl) allp_nil) ?_
  rintro _ rfl
  have h := OpsR.update (P := Try.prog) (cx := cxN 25 5) (ops := opsAt Try.f55 9) mapT112 (y := (opsAt Try.f55 9).toList.getD 2 default) (tx := 22) (tk := 23) (r := 0) (g := g) (vo := .const (.bool true)) (env := (23, .agg [ub p.y, it p.n]) :: (22, rfM g) :: eK g s c l m i p) (l := s.map fun p => (p, Value.bool true)) (x := p) (u := .bool true) (by kernel_rfl) (by kernel_rfl) (by kernel_rfl) rfl rfl rfl rfl (.inl rfl)
  rw [setM_seen s p hp] at h
  exact h
theorem twl_code : loopBody Try.f55 0 = .seq (regAt Try.f55 5) (.seq (.cond (.tmp 16) .skip (.exit 2)) (.seq (.block 3 (.seq (regAt Try.f55 6) (.seq (.seq (.region 7 (opsAt Try.f55 7) false) (.cond (.tmp 21) (.seq (regAt Try.f55 8) .ret) .skip)) (.region 9 (opsAt Try.f55 9) false)))) (regAt Try.f55 10))) := by kernel_rfl
theorem twb_code : rfBody Try.f55 0 = .block 1 (.seq (regAt Try.f55 4) (.block 2 (.loop (loopBody Try.f55 0)))) := by kernel_rfl
theorem tw_end (g : Nat) (s : List Idd) (c : Option Nat) (l : List Idd) (i : Nat) (hi : i = l.length) : Tri Try.prog (cxN 25 5) (loopBody Try.f55 0) (eT g s c l ((l.map Idd.enc).length : Nat) i) (.exit 2) [(0, mpS g s), (2, .box [bb false]), (3, .box [rfM g])] := by
  rw [twl_code]
  have h := tw5_0 g s c l ((l.map Idd.enc).length : Nat) i
  rw [show decide ((i : Int) < ((l.map Idd.enc).length : Nat)) = false by rw [decide_eq_false (by simp; omega)]] at h
  exact .seq (.after [(0, .keep), (2, .keep), (3, .keep), (16, .keep)] h) (.seqX (.cond (b := false) rfl (.after [(0, .keep), (2, .keep), (3, .keep)] .exit)) (by simp))
theorem g1_id {l : List Idd} {i : Nat} (h : i < l.length) : List.getD (List.map Idd.enc l) (Int.toNat i) AV.bad = Idd.enc (List.getD l (Int.toNat i) default) := by
  simp only [List.getD_eq_getElem?_getD, List.getElem?_map]
  rw [List.getElem?_eq_getElem (by simpa using h)]; rfl
theorem tw_step (g : Nat) (s : List Idd) (c : Option Nat) (l : List Idd) (i : Nat) (hi : i < l.length) (hA : l.length < 2 ^ 62) (hn : l.getD i default ∉ s) : Tri Try.prog (cxN 25 5) (loopBody Try.f55 0) (eT g s c l ((l.map Idd.enc).length : Nat) i) .normal (eT g (s ++ [l.getD i default]) c l ((l.map Idd.enc).length : Nat) ((i + 1 : Nat) : Int)) := by
  rw [twl_code]
  have h := tw5_0 g s c l ((l.map Idd.enc).length : Nat) i
  rw [show decide ((i : Int) < ((l.map Idd.enc).length : Nat)) = true by rw [decide_eq_true (by simp; omega)]] at h
  have hw : IntKind.i64.wrap ((i : Int) + 1) = ((i + 1 : Nat) : Int) := by rw [wrap_id' (by omega) (by omega)]; omega
  have h10 := tw10_0 g (s ++ [l.getD i default]) c l ((l.map Idd.enc).length : Nat) i
  rw [hw] at h10
  refine .seq h (.seq (.cond (b := true) rfl .skip) (.seq (env1 := (0, mpS g (s ++ [l.getD i default])) :: (23, .agg [ub (l.getD i default).y, it (l.getD i default).n]) :: (22, rfM g) :: eK g s c l ((l.map Idd.enc).length : Nat) i (l.getD i default)) (.block (ex := .normal) ?_ (.inr ⟨by simp, rfl⟩)) (.weak [(0, .keep), (2, .keep), (3, .keep), (5, .keep), (13, .keep), (14, .keep), (15, .keep)] ?_)))
  rotate_left
  · exact h10
  refine .weak [(0, .keep), (2, .keep), (3, .keep), (5, .keep), (13, .keep), (14, .keep), (15, .keep)] (.seq (tw6_0 g s c l ((l.map Idd.enc).length : Nat) i (by simp; omega) (g1_id hi)) (.seq (.seq (tw7 g s c l ((l.map Idd.enc).length : Nat) i (l.getD i default)) (.cond (b := false) ?_ (.after [(0, .keep), (2, .keep), (3, .keep), (5, .keep), (7, .keep), (13, .keep), (14, .keep), (15, .keep)] .skip))) (tw9 g s c l ((l.map Idd.enc).length : Nat) i (l.getD i default) hn)))
  show some (bb (decide (l.getD i default ∈ s))) = _
  rw [decide_eq_false hn]
theorem tw_hit (g : Nat) (s : List Idd) (c : Option Nat) (l : List Idd) (i : Nat) (hi : i < l.length) (hn : l.getD i default ∈ s) : Tri Try.prog (cxN 25 5) (loopBody Try.f55 0) (eT g s c l ((l.map Idd.enc).length : Nat) i) .ret [(2, .box [bb true])] := by
  rw [twl_code]
  have h := tw5_0 g s c l ((l.map Idd.enc).length : Nat) i
  rw [show decide ((i : Int) < ((l.map Idd.enc).length : Nat)) = true by rw [decide_eq_true (by simp; omega)]] at h
  refine .seq h (.seq (.cond (b := true) rfl .skip) (.seqX (.block (ex := .ret) ?_ (.inr ⟨by simp, rfl⟩)) (by simp)))
  refine .weak [(0, .keep), (2, .keep), (3, .keep), (5, .keep), (13, .keep), (14, .keep), (15, .keep)] (.seq (tw6_0 g s c l ((l.map Idd.enc).length : Nat) i (by simp; omega) (g1_id hi)) (.seqX (.seq (tw7 g s c l ((l.map Idd.enc).length : Nat) i (l.getD i default)) (.cond (b := true) ?_ ?_)) (by simp)))
  · show some (bb (decide (l.getD i default ∈ s))) = _
    rw [decide_eq_true hn]
  · exact .seq (.weak [(0, .keep), (2, .keep)] (.after [(2, .keep)] (tw8_0 g s))) .ret
theorem tw_all (g : Nat) (c : Option Nat) (l : List Idd) (hA : l.length < 2 ^ 62) : ∀ (k i : Nat) (s : List Idd), i + k = l.length → (s ++ l.drop i).Nodup → Rnd Try.prog (cxN 25 5) (loopBody Try.f55 0) (k + 1) (eT g s c l ((l.map Idd.enc).length : Nat) i) (.exit 2) [(0, mpS g (s ++ l.drop i)), (2, .box [bb false]), (3, .box [rfM g])]
  | 0, i, s, h, _ => by
    rw [List.drop_of_length_le (by omega), List.append_nil]
    exact .exit (tw_end g s c l i (by omega)) (by simp)
  | k + 1, i, s, h, hn => by
    have hi : i < l.length := by omega
    have hd : l.drop i = l.getD i default :: l.drop (i + 1) := by rw [List.drop_eq_getElem_cons hi, List.getD_eq_getElem?_getD, List.getElem?_eq_getElem hi]; rfl
    rw [hd] at hn ⊢
    have h2 := tw_all g c l hA k (i + 1) (s ++ [l.getD i default]) (by omega) (by rw [List.append_assoc]; exact hn)
    rw [List.append_assoc] at h2
    refine .step (tw_step g s c l i hi hA fun hm => ?_) h2
    exact (List.nodup_append.1 hn).2.2 _ hm _ (by simp) rfl
theorem tw_some (g : Nat) (c : Option Nat) (l : List Idd) (hA : l.length < 2 ^ 62) : ∀ (k i : Nat) (s : List Idd), i + k = l.length → s.Nodup → ¬ (s ++ l.drop i).Nodup → Rnd Try.prog (cxN 25 5) (loopBody Try.f55 0) (k + 1) (eT g s c l ((l.map Idd.enc).length : Nat) i) .ret [(2, .box [bb true])]
  | 0, i, s, h, hs, hn => by
    rw [List.drop_of_length_le (by omega), List.append_nil] at hn
    exact absurd hs hn
  | k + 1, i, s, h, hs, hn => by
    have hi : i < l.length := by omega
    have hd : l.drop i = l.getD i default :: l.drop (i + 1) := by rw [List.drop_eq_getElem_cons hi, List.getD_eq_getElem?_getD, List.getElem?_eq_getElem hi]; rfl
    by_cases hm : l.getD i default ∈ s
    · exact .exit (tw_hit g s c l i hi hm) (by simp)
    · rw [hd] at hn
      refine .step (tw_step g s c l i hi hA hm) (tw_some g c l hA k (i + 1) (s ++ [l.getD i default]) (by omega) ?_ (by rw [List.append_assoc]; exact hn))
      refine List.nodup_append.2 ⟨hs, by simp, fun x hx y hy e => ?_⟩
      rw [List.mem_singleton] at hy
      subst hy e
      exact hm hx
theorem twb_all (g : Nat) (c : Option Nat) (l : List Idd) (hA : l.length < 2 ^ 62) (s : List Idd) (hn : (s ++ l).Nodup) : Tri Try.prog (cxN 25 5) (rfBody Try.f55 0) [(0, mpS g s), (2, .box [bb false]), (3, .box [rfM g]), (5, isl c l)] .normal [(0, mpS g (s ++ l)), (2, .box [bb false]), (3, .box [rfM g])] := by
  rw [twb_code]
  have := tw_all g c l hA l.length 0 s (by omega) (by simpa using hn)
  rw [List.drop_zero] at this
  exact .block (ex := .normal) (.seq (tw4_0 g s c l) (.block (ex := .exit 2) this.loop (.inl ⟨rfl, rfl⟩))) (.inr ⟨by simp, rfl⟩)
theorem twb_some (g : Nat) (c : Option Nat) (l : List Idd) (hA : l.length < 2 ^ 62) (s : List Idd) (hs : s.Nodup) (hn : ¬ (s ++ l).Nodup) : Tri Try.prog (cxN 25 5) (rfBody Try.f55 0) [(0, mpS g s), (2, .box [bb false]), (3, .box [rfM g]), (5, isl c l)] .ret [(2, .box [bb true])] := by
  rw [twb_code]
  have := tw_some g c l hA l.length 0 s (by omega) hs (by simpa using hn)
  exact .block (ex := .ret) (.seq (tw4_0 g s c l) (.block (ex := .ret) this.loop (.inr ⟨by simp, rfl⟩))) (.inr ⟨by simp, rfl⟩)
end Tst
end

section
open Go Go.Lf Go.Proofs
namespace Tst
def allI (l : List (Int × Int × Stk)) : List Idd := l.flatMap fun t => t.2.2.l
theorem allI_snoc (pre : List (Int × Int × Stk)) (x : Int × Int × Stk) : allI (pre ++ [x]) = allI pre ++ x.2.2.l := by simp [allI]
theorem allI_app (a b : List (Int × Int × Stk)) : allI (a ++ b) = allI a ++ allI b := by simp [allI]
theorem tw_code : rfCode Try.f55 0 = .rangeFunc (.tmp 10) #[11, 12] (rfAssign Try.f55 0) (rfBody Try.f55 0) := by kernel_rfl
noncomputable abbrev twE (g : Nat) (pre : List (Int × Int × Stk)) : Env := [(0, mpS g (allI pre)), (2, .box [bb false]), (3, .box [rfM g])]
theorem tw_round (g : Nat) (pre : List (Int × Int × Stk)) (x : Int × Int × Stk) (hA : x.2.2.l.length < 2 ^ 62) (hn : (allI (pre ++ [x])).Nodup) : ∃ E1, Tri Try.prog (cxN 25 5) (rfAssign Try.f55 0) ((#[11, 12] : Array Tmp).toList.zip (itE x) ++ twE g pre) .normal E1 ∧ Tri Try.prog (cxN 25 5) (rfBody Try.f55 0) E1 .normal (twE g (pre ++ [x])) := by
  rw [allI_snoc] at hn
  have := twb_all g x.2.2.c x.2.2.l hA (allI pre) hn
  rw [← allI_snoc] at this
  exact ⟨_, twa_0 g (allI pre) x.2.2.c x.2.2.l x.1 x.2.1, this⟩
theorem nodup_sub {a b : List Idd} (h : (a ++ b).Nodup) : a.Nodup := (List.nodup_append.1 h).1
theorem twr_no (g : Nat) (cf cb : Option Nat) (F B : List Stk) (hA : ∀ t ∈ itms F B, t.2.2.l.length < 2 ^ 62) (hn : (allI (itms F B)).Nodup) : Tri Try.prog (cxN 25 0) (rfCode Try.f55 0) [(0, mpS g []), (2, .box [bb false]), (3, .box [rfM g]), (10, .fn 69 [hbx cf F cb B])] .normal (twE g (itms F B)) := by
  rw [tw_code]
  exact Tri.rangeAll (P := Try.prog) (cx := cxN 25 0) rfl (t := 10) (ps := #[11, 12]) (c1 := rfAssign Try.f55 0) (c2 := rfBody Try.f55 0) [(0, .keep), (2, .keep), (3, .keep)] rfl (hbx_view cf cb F B) (itms F B) itE (held_i cf cb F B) 5 (by omega)
    ⟨by decide, by decide⟩ (fun x => rfl) (fun pre => twE g pre) [] rfl (fun pre => .cons (by omega) rfl (.cons (by omega) rfl (.cons (by omega) rfl .nil))) (fun pre t x h => lk_nil h) .nil
    (fun pre x post hx => tw_round g pre x (hA x (by rw [hx]; simp)) (by rw [hx, show pre ++ x :: post = (pre ++ [x]) ++ post by simp, allI_app] at hn; exact nodup_sub hn))
theorem first_dup : ∀ (l pre : List (Int × Int × Stk)), (allI pre).Nodup → ¬ (allI (pre ++ l)).Nodup → ∃ p x q, l = p ++ x :: q ∧ (allI (pre ++ p)).Nodup ∧ ¬ (allI (pre ++ p ++ [x])).Nodup
  | [], pre, h, hn => by rw [List.append_nil] at hn; exact absurd h hn
  | y :: l, pre, h, hn => by
    by_cases hy : (allI (pre ++ [y])).Nodup
    · obtain ⟨p, x, q, h1, h2, h3⟩ := first_dup l (pre ++ [y]) hy (by simpa using hn)
      exact ⟨y :: p, x, q, by rw [h1]; rfl, by simpa using h2, by simpa using h3⟩
    · exact ⟨[], y, l, rfl, by simpa using h, by simpa using hy⟩
theorem twr_yes (g : Nat) (cf cb : Option Nat) (F B : List Stk) (hA : ∀ t ∈ itms F B, t.2.2.l.length < 2 ^ 62) (hn : ¬ (allI (itms F B)).Nodup) : Tri Try.prog (cxN 25 0) (rfCode Try.f55 0) [(0, mpS g []), (2, .box [bb false]), (3, .box [rfM g]), (10, .fn 69 [hbx cf F cb B])] .ret [(2, .box [bb true])] := by
  obtain ⟨p, x, q, h1, h2, h3⟩ := first_dup (itms F B) [] (by simp [allI]) hn
  rw [List.nil_append] at h2 h3
  rw [tw_code]
  rw [allI_snoc] at h3
  exact Tri.rangeStop (P := Try.prog) (cx := cxN 25 0) rfl (t := 10) (ps := #[11, 12]) (c1 := rfAssign Try.f55 0) (c2 := rfBody Try.f55 0) [(0, .keep), (2, .keep), (3, .keep)] rfl (hbx_view cf cb F B) (itms F B) itE (held_i cf cb F B) 5 (by omega)
    ⟨by decide, by decide⟩ (fun x => rfl) (fun pre => twE g pre) [] rfl (fun pre => .cons (by omega) rfl (.cons (by omega) rfl (.cons (by omega) rfl .nil))) (fun pre t x h => lk_nil h) .nil p x q h1
    (fun pre y post hy => tw_round g pre y (hA y (by rw [h1, hy]; simp)) (by rw [hy, show pre ++ y :: post = (pre ++ [y]) ++ post by simp, allI_app] at h2; exact nodup_sub h2)) (by simp) (.cons (by omega) rfl .nil)
    ⟨_, twa_0 g (allI p) x.2.2.c x.2.2.l x.1 x.2.1, twb_some g x.2.2.c x.2.2.l (hA x (by rw [h1]; simp)) (allI p) h2 h3⟩
theorem twice_code : Try.f55.body = some (.seq (regAt Try.f55 0) (.seq (.region 1 (opsAt Try.f55 1) false) (.seq (.seq (regAt Try.f55 2) (.block 0 (rfCode Try.f55 0))) (.seq (regAt Try.f55 11) .ret)))) := by kernel_rfl
theorem tw1 (cf cb : Option Nat) (F B : List Stk) : TriR Try.prog (cxN 25 0) (.region 1 (opsAt Try.f55 1) false) [(1, .box [bsl cf F, bsl cb B]), (2, .box [bb false])] .normal fun e => ∃ g, e = (3, .box [rfM g]) :: (3, .box [.atom (.map none)]) :: (8, rfM g) :: (0, mpS g []) :: [(1, .box [bsl cf F, bsl cb B]), (2, .box [bb false])] := by
  refine .region ?_
  rw [show (opsAt Try.f55 1).toList = [(opsAt Try.f55 1).toList.getD 0 default] ++ (opsAt Try.f55 1).toList.drop 1 by kernel_rfl]
  refine .seq (OpsR.make (t := 112) (d := 8) (r := 0) (by kernel_rfl) (by kernel_rfl) (by kernel_rfl) (by decide) (by decide) rfl rfl) ?_
  rintro _ ⟨g, rfl⟩
  intro ρ F1 B0 w0 S0 ds a w Q rest hag hQ
  exact OpsR.ev (base 25 0) cxA_K.1 cxA_K.2 (ops := opsAt Try.f55 1) (os := (opsAt Try.f55 1).toList.drop 1) (env := (8, rfM g) :: (0, .mp g []) :: [(1, .box [bsl cf F, bsl cb B]), (2, .box [bb false])]) (ans := [.c, .c, .c, .c, .c, .c, .c, .c]) (ps := []) (env' := (3, .box [rfM g]) :: (3, .box [.atom (.map none)]) :: (8, rfM g) :: (0, .mp g []) :: [(1, .box [bsl cf F, bsl cb B]), (2, .box [bb false])]) (by kernel_rfl) allp_nil ρ F1 B0 w0 S0 ds a w Q rest hag fun e he a' w' ha => hQ e ⟨g, he⟩ a' w' ha
theorem twice_no (cf cb : Option Nat) (F B : List Stk) (hA : ∀ t ∈ itms F B, t.2.2.l.length < 2 ^ 62) (hn : (allI (itms F B)).Nodup) : PureC Try.prog 55 [beds (bsl cf F) (bsl cb B)] (bb false) := by
  refine pureT ((base 25 0).ok cxA_K.1 cxA_K.2) Try.func55 rfl (by show 1 ≤ 25; omega) rfl twice_code rfl (ex := .ret) (env' := [(2, .box [bb false])]) ?_ (by kernel_rfl)
  refine .seq (tw0_0 cf cb F B) (.seqR (tw1 cf cb F B) ?_)
  rintro _ ⟨g, rfl⟩
  refine .weak [(0, .keep), (1, .keep), (2, .keep), (3, .keep)] (.seq (.seq (tw2_0 g cf cb F B) (.block (ex := .normal) (twr_no g cf cb F B hA hn) (.inr ⟨by simp, rfl⟩))) (.weak [(2, .keep)] (.seq (tw11_0 .bad) .ret)))
theorem twice_yes (cf cb : Option Nat) (F B : List Stk) (hA : ∀ t ∈ itms F B, t.2.2.l.length < 2 ^ 62) (hn : ¬ (allI (itms F B)).Nodup) : PureC Try.prog 55 [beds (bsl cf F) (bsl cb B)] (bb true) := by
  refine pureT ((base 25 0).ok cxA_K.1 cxA_K.2) Try.func55 rfl (by show 1 ≤ 25; omega) rfl twice_code rfl (ex := .ret) (env' := [(2, .box [bb true])]) ?_ (by kernel_rfl)
  refine .seq (tw0_0 cf cb F B) (.seqR (tw1 cf cb F B) ?_)
  rintro _ ⟨g, rfl⟩
  refine .weak [(0, .keep), (1, .keep), (2, .keep), (3, .keep)] (.seqX (.seq (tw2_0 g cf cb F B) (.block (ex := .ret) (twr_yes g cf cb F B hA hn) (.inr ⟨by simp, rfl⟩))) (by simp))
theorem twice_c (cf cb : Option Nat) (F B : List Stk) (hA : ∀ t ∈ itms F B, t.2.2.l.length < 2 ^ 62) : PureC Try.prog 55 [beds (bsl cf F) (bsl cb B)] (bb (!decide (allI (itms F B)).Nodup)) := by
  by_cases hn : (allI (itms F B)).Nodup
  · rw [decide_eq_true hn]; exact twice_no cf cb F B hA hn
  · rw [decide_eq_false hn]; exact twice_yes cf cb F B hA hn
end Tst
end

section
open Go Go.Lf Go.Proofs
namespace Tst
set_option maxHeartbeats 0
theorem wtA_0 (c : Option Nat) (tb : List (List Idd)) (l : List Idd) (d i : Int) (ys : List AV) (hd : d = 0 ∨ d = 1) (g0 : decide ((0 : Int) ≤ d ∧ d < (↑(2 : Nat) : Int) ∧ (0 : Nat) < (40 : Nat)) = true) (g1 : decide ((0 : Int) ≤ IntKind.wrap IntKind.i64 (i - (1 : Int)) ∧ IntKind.wrap IntKind.i64 (i - (1 : Int)) < (↑(40 : Nat) : Int) ∧ (0 : Nat) < (1 : Nat)) = true) (g2 : decide ((0 : Nat) = (0 : Nat) ∧ Int.toNat d * (40 : Nat) + Int.toNat (IntKind.wrap IntKind.i64 (i - (1 : Int))) * (1 : Nat) < List.length (List.map SH tb)) = true) (g3 : List.getD (List.map SH tb) (Int.toNat d * (40 : Nat) + Int.toNat (IntKind.wrap IntKind.i64 (i - (1 : Int))) * (1 : Nat)) AV.bad = SH (List.getD tb (Int.toNat d * (40 : Nat) + Int.toNat (IntKind.wrap IntKind.i64 (i - (1 : Int))) * (1 : Nat)) default)) (g4 : List.all (List.take (Int.toNat d * (40 : Nat) + Int.toNat (IntKind.wrap IntKind.i64 (i - (1 : Int))) * (1 : Nat)) (List.map SH tb) ++ [AV.sl Mode.any (30 : TypeId) none (List.map Idd.enc l)] ++ List.drop (Int.toNat d * (40 : Nat) + Int.toNat (IntKind.wrap IntKind.i64 (i - (1 : Int))) * (1 : Nat) + (1 : Nat)) (List.map SH tb)) flatC = true) : Tri Try.prog (cxN 37 0) (codeAt Try.f63 6) ([(2, .sl .any 30 none (l.map Idd.enc)), (4, .box [ub d, it i]), (6, .box ys), (7, .box (tb.map SH))] ) (Ex.normal) ([(6, AV.box ys), (7, AV.box (List.take (Int.toNat d * (40 : Nat) + Int.toNat (IntKind.wrap IntKind.i64 (i - (1 : Int))) * (1 : Nat)) (List.map SH tb) ++ [AV.sl Mode.any (30 : TypeId) none (List.map Idd.enc l)] ++ List.drop (Int.toNat d * (40 : Nat) + Int.toNat (IntKind.wrap IntKind.i64 (i - (1 : Int))) * (1 : Nat) + (1 : Nat)) (List.map SH tb)))]) :=
  evA_ok (H := h63) (ans := [Ans.c, Ans.c, Ans.c, Ans.c, Ans.c, Ans.c, Ans.c, Ans.c, Ans.c, Ans.c, Ans.b true, Ans.c, Ans.b true, Ans.c, Ans.b true, Ans.r (SH (List.getD tb (Int.toNat d * (40 : Nat) + Int.toNat (IntKind.wrap IntKind.i64 (i - (1 : Int))) * (1 : Nat)) default)), Ans.c, Ans.b true]) (ps := [decide ((0 : Int) ≤ d ∧ d < (↑(2 : Nat) : Int) ∧ (0 : Nat) < (40 : Nat)) = true, decide ((0 : Int) ≤ IntKind.wrap IntKind.i64 (i - (1 : Int)) ∧ IntKind.wrap IntKind.i64 (i - (1 : Int)) < (↑(40 : Nat) : Int) ∧ (0 : Nat) < (1 : Nat)) = true, decide ((0 : Nat) = (0 : Nat) ∧ Int.toNat d * (40 : Nat) + Int.toNat (IntKind.wrap IntKind.i64 (i - (1 : Int))) * (1 : Nat) < List.length (List.map SH tb)) = true, List.getD (List.map SH tb) (Int.toNat d * (40 : Nat) + Int.toNat (IntKind.wrap IntKind.i64 (i - (1 : Int))) * (1 : Nat)) AV.bad = SH (List.getD tb (Int.toNat d * (40 : Nat) + Int.toNat (IntKind.wrap IntKind.i64 (i - (1 : Int))) * (1 : Nat)) default), List.all (List.take (Int.toNat d * (40 : Nat) + Int.toNat (IntKind.wrap IntKind.i64 (i - (1 : Int))) * (1 : Nat)) (List.map SH tb) ++ [AV.sl Mode.any (30 : TypeId) none (List.map Idd.enc l)] ++ List.drop (Int.toNat d * (40 : Nat) + Int.toNat (IntKind.wrap IntKind.i64 (i - (1 : Int))) * (1 : Nat) + (1 : Nat)) (List.map SH tb)) flatC = true]) (ans' := []) (base 37 0) cxA_K.1 cxA_K.2 _ (by kernel_rfl)  (allp g0 (allp g1 (allp g2 (allp g3 (allp g4 allp_nil)))))
end Tst
end

section
open Go Go.Lf Go.Proofs
namespace Tst
set_option maxHeartbeats 0
theorem wra_0 (c : Option Nat) (tb : List (List Idd)) (l l2 : List Idd) (d i d0 i0 : Int) (ys : List AV) : Tri Try.prog (cxN 37 8) (rfAssign Try.f63 0) ([(12, ndl d i), (13, isl c l2), (2, .sl .any 30 none (l.map Idd.enc)), (4, .box [ub d0, it i0]), (6, .box ys), (7, .box (tb.map SH))] ) (Ex.normal) ([(2, AV.sl Mode.any 30 none (List.map Idd.enc l)), (4, AV.box [ub d0, it i0]), (6, AV.box ys), (7, AV.box (List.map SH tb)), (8, AV.box [ub d, it i]), (9, AV.sl Mode.any 30 c (List.map Idd.enc l2))]) :=
  evA_ok (H := h63) (ans := [.c, .c, .c]) (ps := []) (ans' := []) (base 37 8) cxA_K.1 cxA_K.2 _ (by kernel_rfl)  allp_nil
theorem wrb_0 (tb : List (List Idd)) (l l2 : List Idd) (d i d0 i0 : Int) (ys : List AV) (hd : d = 0 ∨ d = 1) (g0 : decide ((0 : Int) ≤ d ∧ d < (↑(2 : Nat) : Int) ∧ (0 : Nat) < (40 : Nat)) = true) (g1 : decide ((0 : Int) ≤ IntKind.wrap IntKind.i64 (i - (1 : Int)) ∧ IntKind.wrap IntKind.i64 (i - (1 : Int)) < (↑(40 : Nat) : Int) ∧ (0 : Nat) < (1 : Nat)) = true) (g2 : decide ((0 : Nat) = (0 : Nat) ∧ Int.toNat d * (40 : Nat) + Int.toNat (IntKind.wrap IntKind.i64 (i - (1 : Int))) * (1 : Nat) < List.length (List.map SH tb)) = true) (g3 : List.getD (List.map SH tb) (Int.toNat d * (40 : Nat) + Int.toNat (IntKind.wrap IntKind.i64 (i - (1 : Int))) * (1 : Nat)) AV.bad = SH (List.getD tb (Int.toNat d * (40 : Nat) + Int.toNat (IntKind.wrap IntKind.i64 (i - (1 : Int))) * (1 : Nat)) default)) (g4 : List.all (List.take (Int.toNat d * (40 : Nat) + Int.toNat (IntKind.wrap IntKind.i64 (i - (1 : Int))) * (1 : Nat)) (List.map SH tb) ++ [AV.sl Mode.any (30 : TypeId) none (List.map Idd.enc l2)] ++ List.drop (Int.toNat d * (40 : Nat) + Int.toNat (IntKind.wrap IntKind.i64 (i - (1 : Int))) * (1 : Nat) + (1 : Nat)) (List.map SH tb)) flatC = true) : Tri Try.prog (cxN 37 8) (rfBody Try.f63 0) ([(2, .sl .any 30 none (l.map Idd.enc)), (4, .box [ub d0, it i0]), (6, .box ys), (7, .box (tb.map SH)), (8, .box [ub d, it i]), (9, .sl .any 30 none (l2.map Idd.enc))] ) (Ex.normal) ([(2, AV.sl Mode.any 30 none (List.map Idd.enc l)), (4, AV.box [ub d0, it i0]), (6, AV.box ys), (7, AV.box (List.take (Int.toNat d * (40 : Nat) + Int.toNat (IntKind.wrap IntKind.i64 (i - (1 : Int))) * (1 : Nat)) (List.map SH tb) ++ [AV.sl Mode.any (30 : TypeId) none (List.map Idd.enc l2)] ++ List.drop (Int.toNat d * (40 : Nat) + Int.toNat (IntKind.wrap IntKind.i64 (i - (1 : Int))) * (1 : Nat) + (1 : Nat)) (List.map SH tb)))]) :=
  evA_ok (H := h63) (ans := [.c, .c, .c, .c, .c, .c, .c, .c, .c, .c, .b true, .c, .b true, .c, .b true, .r (SH (List.getD tb (Int.toNat d * (40 : Nat) + Int.toNat (IntKind.wrap IntKind.i64 (i - (1 : Int))) * (1 : Nat)) default)), .c, .b true]) (ps := [decide ((0 : Int) ≤ d ∧ d < (↑(2 : Nat) : Int) ∧ (0 : Nat) < (40 : Nat)) = true, decide ((0 : Int) ≤ IntKind.wrap IntKind.i64 (i - (1 : Int)) ∧ IntKind.wrap IntKind.i64 (i - (1 : Int)) < (↑(40 : Nat) : Int) ∧ (0 : Nat) < (1 : Nat)) = true, decide ((0 : Nat) = (0 : Nat) ∧ Int.toNat d * (40 : Nat) + Int.toNat (IntKind.wrap IntKind.i64 (i - (1 : Int))) * (1 : Nat) < List.length (List.map SH tb)) = true, List.getD (List.map SH tb) (Int.toNat d * (40 : Nat) + Int.toNat (IntKind.wrap IntKind.i64 (i - (1 : Int))) * (1 : Nat)) AV.bad = SH (List.getD tb (Int.toNat d * (40 : Nat) + Int.toNat (IntKind.wrap IntKind.i64 (i - (1 : Int))) * (1 : Nat)) default), List.all (List.take (Int.toNat d * (40 : Nat) + Int.toNat (IntKind.wrap IntKind.i64 (i - (1 : Int))) * (1 : Nat)) (List.map SH tb) ++ [AV.sl Mode.any (30 : TypeId) none (List.map Idd.enc l2)] ++ List.drop (Int.toNat d * (40 : Nat) + Int.toNat (IntKind.wrap IntKind.i64 (i - (1 : Int))) * (1 : Nat) + (1 : Nat)) (List.map SH tb)) flatC = true]) (ans' := []) (base 37 8) cxA_K.1 cxA_K.2 _ (by kernel_rfl)  (allp g0 (allp g1 (allp g2 (allp g3 (allp g4 allp_nil)))))
end Tst
end

section
namespace Go.Lf
open Go Go.RowKit
variable {P : Program}
theorem PureC.share {f : FuncId} {xs : List AV} {r : AV} (h : PureC P f xs r) : PureC P f xs (Lf.share r) := by
  refine ⟨h.1, fun w S args n hS ha => (h.2 w S args n hS ha).mono ?_⟩
  rintro e w' ⟨v, n', S', O, he, hB, hrv, h1, h2, h3, h4⟩
  have hown := Rv.owned n' v r O hrv
  refine ⟨v, n', fun b => S' b ∨ 0 < O b, fun _ => 0, he, hB, Rv.remode shareM (fun m => by cases m <;> simp [shareM]) (fun m h => by cases m <;> simp [shareM] at h ⊢) (fun b hb => .inl hb) n' 12 v r O (fun b hb => .inr hb) hrv, fun _ => Nat.zero_le _, ?_, fun _ _ => rfl, fun b hb => .inl (h4 b hb)⟩
  intro b hb
  rcases hb with hb | hb
  · exact h2 b hb
  · exact ⟨.inr (hown b hb).1, (hown b hb).2⟩
end Go.Lf
end

section
open Go Go.Lf Go.Proofs
namespace Tst
set_option maxHeartbeats 0
def FW (l : List Idd) : AV := .sl .fresh 30 (some l.length) (l.map Idd.enc)
def frW (x : List (List Idd)) : AV := .sl .fresh 62 (some x.length) (x.map FW)
def shT (l : List Stk) : List (List Idd) := (l.take (trimL l l.length)).map Stk.l
theorem trimL_len (l : List Stk) : (shT l).length = trimL l l.length := by
  unfold shT
  rw [List.length_map, List.length_take, Nat.min_eq_left (trimL_le l l.length)]
def swV (x : List (List Idd)) : AV := .sl .own 62 (some x.length) (x.map OW)
theorem shortT (c : Option Nat) (l : List Stk) (hA : l.length ≤ 4294967296) (hl : ∀ s ∈ l, s.l.length ≤ 4294967296) : PureC Try.prog 71 [bsl c l] (swV (shT l)) := by
  refine (short_c c l hA hl).res ?_
  unfold shV swV
  rw [trimL_len]
  by_cases h : trimL l l.length = 0
  · rw [if_pos h, h]
    have : shT l = [] := List.eq_nil_of_length_eq_zero (by rw [trimL_len]; exact h)
    rw [this]
    exact Le.nilOwn 62
  · rw [if_neg h]; exact Le.refl _
theorem share_swV (x : List (List Idd)) : share (swV x) = frW x := by
  show AV.sl .fresh 62 (some x.length) ((x.map OW).map (mapE (remode shareM 11))) = _
  unfold frW
  rw [List.map_map]
  congr 1
  refine List.map_congr_left fun l _ => ?_
  show AV.sl .fresh 30 (some l.length) ((l.map Idd.enc).map (mapE (remode shareM 10))) = _
  rw [map_re]; rfl
theorem shortU (c : Option Nat) (l : List Stk) (hA : l.length ≤ 4294967296) (hl : ∀ s ∈ l, s.l.length ≤ 4294967296) : PureC Try.prog 71 [bsl c l] (.sl .fresh 62 (some (shT l).length) ((shT l).map FW)) := by
  have := (shortT c l hA hl).share
  rw [share_swV] at this
  exact this
theorem shortK (c : Option Nat) (k : Nat) (L : List Stk) (hl : ∀ s ∈ L, s.l.length ≤ 4294967296) : PureC Try.prog 71 [bsl c (List.take 40 (List.drop k L))] (.sl .fresh 62 (some (shT (List.take 40 (List.drop k L))).length) ((shT (List.take 40 (List.drop k L))).map FW)) :=
  shortU c _ (by simp; omega) fun s hs => hl s (List.mem_of_mem_drop (List.mem_of_mem_take hs))
theorem wt7_0 (L : List Stk) (hl : ∀ s ∈ L, s.l.length ≤ 4294967296) (g0 : decide (List.all (List.map Stk.enc L) plainA = true ∧ (0 : Nat) + Int.toNat (0 : Int) * (40 : Nat) + (40 : Nat) ≤ List.length (List.map Stk.enc L)) = true) (g1 : AV.sl Mode.any 62 (some 40) (List.take (40 : Nat) (List.drop ((0 : Nat) + Int.toNat (0 : Int) * (40 : Nat)) (List.map Stk.enc L))) = AV.sl Mode.any 62 (some (40 : Nat)) (List.map Stk.enc (List.take (40 : Nat) (List.drop ((0 : Nat) + Int.toNat (0 : Int) * (40 : Nat)) L)))) (g2 : decide ((0 : Int) ≤ (1 : Int) ∧ (1 : Int) < (↑(2 : Nat) : Int) ∧ (0 : Nat) < (40 : Nat) ∧ (0 : Nat) + Int.toNat (1 : Int) * (40 : Nat) ≤ List.length (List.map Stk.enc L)) = true) (g3 : decide (List.all (List.map Stk.enc L) plainA = true ∧ (0 : Nat) + Int.toNat (1 : Int) * (40 : Nat) + (40 : Nat) ≤ List.length (List.map Stk.enc L)) = true) (g4 : AV.sl Mode.any 62 (some 40) (List.take (40 : Nat) (List.drop ((0 : Nat) + Int.toNat (1 : Int) * (40 : Nat)) (List.map Stk.enc L))) = AV.sl Mode.any 62 (some (40 : Nat)) (List.map Stk.enc (List.take (40 : Nat) (List.drop ((0 : Nat) + Int.toNat (1 : Int) * (40 : Nat)) L)))) : Tri Try.prog (cxN 37 0) (regAt Try.f63 7) ([(6, .box [niln, niln]), (7, .vadr (L.map Stk.enc) 0)] ) (Ex.normal) ([(6, AV.box [AV.sl Mode.fresh 62 (some (List.length (shT (List.take (40 : Nat) (List.drop ((0 : Nat) + Int.toNat (0 : Int) * (40 : Nat)) L))))) (List.map FW (shT (List.take (40 : Nat) (List.drop ((0 : Nat) + Int.toNat (0 : Int) * (40 : Nat)) L)))), AV.sl Mode.fresh 62 (some (List.length (shT (List.take (40 : Nat) (List.drop ((0 : Nat) + Int.toNat (1 : Int) * (40 : Nat)) L))))) (List.map FW (shT (List.take (40 : Nat) (List.drop ((0 : Nat) + Int.toNat (1 : Int) * (40 : Nat)) L))))])]) :=
  evA_ok (H := h63) (ans := [.c, .c, .b true, .r (AV.sl Mode.any 62 (some (40 : Nat)) (List.map Stk.enc (List.take (40 : Nat) (List.drop ((0 : Nat) + Int.toNat (0 : Int) * (40 : Nat)) L)))), .c, .r (AV.sl Mode.any 62 (some (40 : Nat)) (List.map Stk.enc (List.take (40 : Nat) (List.drop ((0 : Nat) + Int.toNat (0 : Int) * (40 : Nat)) L)))), .r (AV.sl Mode.fresh 62 (some (List.length (shT (List.take (40 : Nat) (List.drop ((0 : Nat) + Int.toNat (0 : Int) * (40 : Nat)) L))))) (List.map FW (shT (List.take (40 : Nat) (List.drop ((0 : Nat) + Int.toNat (0 : Int) * (40 : Nat)) L))))), .c, .c, .b true, .c, .b true, .r (AV.sl Mode.any 62 (some (40 : Nat)) (List.map Stk.enc (List.take (40 : Nat) (List.drop ((0 : Nat) + Int.toNat (1 : Int) * (40 : Nat)) L)))), .c, .r (AV.sl Mode.any 62 (some (40 : Nat)) (List.map Stk.enc (List.take (40 : Nat) (List.drop ((0 : Nat) + Int.toNat (1 : Int) * (40 : Nat)) L)))), .r (AV.sl Mode.fresh 62 (some (List.length (shT (List.take (40 : Nat) (List.drop ((0 : Nat) + Int.toNat (1 : Int) * (40 : Nat)) L))))) (List.map FW (shT (List.take (40 : Nat) (List.drop ((0 : Nat) + Int.toNat (1 : Int) * (40 : Nat)) L))))), .c, .c, .c, .c, .c]) (ps := [decide (List.all (List.map Stk.enc L) plainA = true ∧ (0 : Nat) + Int.toNat (0 : Int) * (40 : Nat) + (40 : Nat) ≤ List.length (List.map Stk.enc L)) = true, AV.sl Mode.any 62 (some 40) (List.take (40 : Nat) (List.drop ((0 : Nat) + Int.toNat (0 : Int) * (40 : Nat)) (List.map Stk.enc L))) = AV.sl Mode.any 62 (some (40 : Nat)) (List.map Stk.enc (List.take (40 : Nat) (List.drop ((0 : Nat) + Int.toNat (0 : Int) * (40 : Nat)) L))), view (AV.sl Mode.any 62 (some 40) (List.map Stk.enc (List.take (40 : Nat) (List.drop ((0 : Nat) + Int.toNat (0 : Int) * (40 : Nat)) L)))) = AV.sl Mode.any 62 (some 40) (List.map Stk.enc (List.take (40 : Nat) (List.drop ((0 : Nat) + Int.toNat (0 : Int) * (40 : Nat)) L))), PureC Try.prog 71 [AV.sl Mode.any 62 (some 40) (List.map Stk.enc (List.take (40 : Nat) (List.drop ((0 : Nat) + Int.toNat (0 : Int) * (40 : Nat)) L)))] (AV.sl Mode.fresh 62 (some (List.length (shT (List.take (40 : Nat) (List.drop ((0 : Nat) + Int.toNat (0 : Int) * (40 : Nat)) L))))) (List.map FW (shT (List.take (40 : Nat) (List.drop ((0 : Nat) + Int.toNat (0 : Int) * (40 : Nat)) L))))), decide ((0 : Int) ≤ (1 : Int) ∧ (1 : Int) < (↑(2 : Nat) : Int) ∧ (0 : Nat) < (40 : Nat) ∧ (0 : Nat) + Int.toNat (1 : Int) * (40 : Nat) ≤ List.length (List.map Stk.enc L)) = true, decide (List.all (List.map Stk.enc L) plainA = true ∧ (0 : Nat) + Int.toNat (1 : Int) * (40 : Nat) + (40 : Nat) ≤ List.length (List.map Stk.enc L)) = true, AV.sl Mode.any 62 (some 40) (List.take (40 : Nat) (List.drop ((0 : Nat) + Int.toNat (1 : Int) * (40 : Nat)) (List.map Stk.enc L))) = AV.sl Mode.any 62 (some (40 : Nat)) (List.map Stk.enc (List.take (40 : Nat) (List.drop ((0 : Nat) + Int.toNat (1 : Int) * (40 : Nat)) L))), view (AV.sl Mode.any 62 (some 40) (List.map Stk.enc (List.take (40 : Nat) (List.drop ((0 : Nat) + Int.toNat (1 : Int) * (40 : Nat)) L)))) = AV.sl Mode.any 62 (some 40) (List.map Stk.enc (List.take (40 : Nat) (List.drop ((0 : Nat) + Int.toNat (1 : Int) * (40 : Nat)) L))), PureC Try.prog 71 [AV.sl Mode.any 62 (some 40) (List.map Stk.enc (List.take (40 : Nat) (List.drop ((0 : Nat) + Int.toNat (1 : Int) * (40 : Nat)) L)))] (AV.sl Mode.fresh 62 (some (List.length (shT (List.take (40 : Nat) (List.drop ((0 : Nat) + Int.toNat (1 : Int) * (40 : Nat)) L))))) (List.map FW (shT (List.take (40 : Nat) (List.drop ((0 : Nat) + Int.toNat (1 : Int) * (40 : Nat)) L)))))]) (ans' := []) (base 37 0) cxA_K.1 cxA_K.2 _ (by kernel_rfl)  (allp g0 (allp g1 (allp (by first | exact view_ps _ _ _ | exact view_u8 _ _ _ | rfl | exact view_yn _ _ _ _ _ _ _ | exact view_id _ _ _ | exact view_stk _ _ _ | exact view_beds _ _ _ _ _ _ | exact view_pt _ _ _) (allp (by apply shortK <;> (first | assumption | rfl | (simp at * <;> omega))) (allp g2 (allp g3 (allp g4 (allp (by first | exact view_ps _ _ _ | exact view_u8 _ _ _ | rfl | exact view_yn _ _ _ _ _ _ _ | exact view_id _ _ _ | exact view_stk _ _ _ | exact view_beds _ _ _ _ _ _ | exact view_pt _ _ _) (allp (by apply shortK <;> (first | assumption | rfl | (simp at * <;> omega))) allp_nil)))))))))
end Tst
end

section
open Go Go.Lf Go.Proofs
namespace Tst
set_option maxHeartbeats 0
theorem wt0_0 (cf cb c : Option Nat) (F B : List Stk) (d i : Int) (l : List Idd) : Tri Try.prog (cxN 37 0) (regAt Try.f63 0) ([(0, beds (bsl cf F) (bsl cb B)), (1, ndl d i), (2, isl c l)] ) (Ex.normal) ([(2, AV.sl Mode.any 30 c (List.map Idd.enc l)), (3, AV.box [bsl cf F, bsl cb B]), (4, AV.box [ub d, it i]), (6, AV.box [niln, niln])]) :=
  evA_ok (H := h63) (ans := [.c, .c, .c]) (ps := []) (ans' := []) (base 37 0) cxA_K.1 cxA_K.2 _ (by kernel_rfl)  allp_nil
theorem wt2_0 (cf cb c : Option Nat) (F B : List Stk) (d i : Int) (l : List Idd) (ys : List AV) : Tri Try.prog (cxN 37 0) (regAt Try.f63 2) ([(2, isl c l), (3, .box [bsl cf F, bsl cb B]), (4, .box [ub d, it i]), (6, .box [niln, niln]), (7, .box ys)] ) (Ex.normal) ([(2, AV.sl Mode.any 30 c (List.map Idd.enc l)), (4, AV.box [ub d, it i]), (6, AV.box [niln, niln]), (7, AV.box ys), (11, AV.fn 69 [AV.vadr [bsl cf F, bsl cb B] 0])]) :=
  evA_ok (H := h63) (ans := [.c, .r (AV.fn 69 [AV.vadr [bsl cf F, bsl cb B] 0]), .c, .c]) (ps := [PureC Try.prog 60 [view (AV.agg [bsl cf F, bsl cb B])] (AV.fn 69 [AV.vadr [bsl cf F, bsl cb B] 0])]) (ans' := []) (base 37 0) cxA_K.1 cxA_K.2 _ (by kernel_rfl)  (allp (by (first | rw [view_yn] | rw [view_two] | rw [view_twoI] | rw [view_beds] | skip); apply hl_0 <;> (first | assumption | rfl | (simp at * <;> omega))) allp_nil)
end Tst
end

section
open Go Go.Lf Go.Proofs
namespace Tst
set_option maxHeartbeats 0
theorem wt1_0 (cf cb c : Option Nat) (F B : List Stk) (d i : Int) (l : List Idd) : Tri Try.prog (cxN 37 0) (regAt Try.f63 1) [(2, isl c l), (3, .box [bsl cf F, bsl cb B]), (4, .box [ub d, it i]), (6, .box [niln, niln])] .normal
    [(2, isl c l), (3, .box [bsl cf F, bsl cb B]), (4, .box [ub d, it i]), (6, .box [niln, niln]), (7, .box (List.replicate 80 (.atom (.slice none 0 0))))] :=
  evA_ok (H := h63) (ans := [.c]) (ps := []) (ans' := []) (base 37 0) cxA_K.1 cxA_K.2 _ (by kernel_rfl) allp_nil
def putT (tb : List (List Idd)) (t : Int × Int × Stk) : List (List Idd) := tb.set (t.1.toNat * 40 + (t.2.1 - 1).toNat) t.2.2.l
def tbOf (pre : List (Int × Int × Stk)) : List (List Idd) := pre.foldl putT (List.replicate 80 [])
theorem tbOf_snoc (pre : List (Int × Int × Stk)) (x : Int × Int × Stk) : tbOf (pre ++ [x]) = putT (tbOf pre) x := by simp [tbOf]
theorem tbOf_len (pre : List (Int × Int × Stk)) : (tbOf pre).length = 80 := by
  unfold tbOf
  suffices ∀ (l : List (Int × Int × Stk)) (tb : List (List Idd)), (l.foldl putT tb).length = tb.length by rw [this]; simp
  intro l
  induction l with
  | nil => intro tb; rfl
  | cons x l ih => intro tb; rw [List.foldl_cons, ih]; simp [putT]
theorem itms_ok {F B : List Stk} {t : Int × Int × Stk} (h : t ∈ itms F B) : (t.1 = 0 ∨ t.1 = 1) ∧ 1 ≤ t.2.1 ∧ t.2.1 ≤ 40 ∧ (t.2.2 ∈ F ∨ t.2.2 ∈ B) := by
  unfold itms at h
  rcases List.mem_append.1 h with h | h
  · obtain ⟨q, hq, rfl⟩ := List.mem_map.1 h
    have h1 := List.mem_zipIdx hq
    have h2 := h1.2.1
    simp at h2
    refine ⟨.inl rfl, by simp; omega, by simp; omega, .inl ?_⟩
    have := h1.2.2
    show q.1 ∈ F
    rw [this]
    exact List.mem_of_mem_take (List.getElem_mem _)
  · obtain ⟨q, hq, rfl⟩ := List.mem_map.1 h
    have h1 := List.mem_zipIdx hq
    have h2 := h1.2.1
    simp at h2
    refine ⟨.inr rfl, by simp; omega, by simp; omega, .inr ?_⟩
    have := h1.2.2
    show q.1 ∈ B
    rw [this]
    exact List.mem_of_mem_take (List.getElem_mem _)
theorem set_SH {tb : List (List Idd)} {k : Nat} (l : List Idd) (hk : k < tb.length) : List.take k (List.map SH tb) ++ [AV.sl Mode.any (30 : TypeId) none (List.map Idd.enc l)] ++ List.drop (k + 1) (List.map SH tb) = (tb.set k l).map SH := by
  rw [List.set_eq_take_append_cons_drop, if_pos hk, List.map_append, List.map_cons, List.map_take, List.map_drop]
  simp [SH]
theorem flat_SH (x : List (List Idd)) : (x.map SH).all flatC = true := by rw [List.all_map, List.all_eq_true]; intro l _; rfl
theorem getD_SHd {tb : List (List Idd)} {k : Nat} (hk : k < tb.length) : (tb.map SH).getD k AV.bad = SH (tb.getD k default) := by
  rw [List.getD_eq_getElem?_getD, List.getElem?_map, List.getD_eq_getElem?_getD, List.getElem?_eq_getElem hk]; rfl
abbrev nn : List AV := [niln, niln]
abbrev wE (l : List Idd) (d0 i0 : Int) (tb : List (List Idd)) : Env := [(2, .sl .any 30 none (l.map Idd.enc)), (4, .box [ub d0, it i0]), (6, .box nn), (7, .box (tb.map SH))]
theorem wt_round (l : List Idd) (d0 i0 : Int) (tb : List (List Idd)) (x : Int × Int × Stk) (hd : x.1 = 0 ∨ x.1 = 1) (h1 : 1 ≤ x.2.1) (h2 : x.2.1 ≤ 40) (ht : tb.length = 80) :
    ∃ E1, Tri Try.prog (cxN 37 8) (rfAssign Try.f63 0) ((#[12, 13] : Array Tmp).toList.zip (itE x) ++ wE l d0 i0 tb) .normal E1 ∧ Tri Try.prog (cxN 37 8) (rfBody Try.f63 0) E1 .normal (wE l d0 i0 (putT tb x)) := by
  refine ⟨_, wra_0 x.2.2.c tb l x.2.2.l x.1 x.2.1 d0 i0 nn, ?_⟩
  have hw : IntKind.i64.wrap (x.2.1 - 1) = x.2.1 - 1 := wrap_id' (by omega) (by omega)
  have hk : x.1.toNat * 40 + (IntKind.i64.wrap (x.2.1 - 1)).toNat * 1 < tb.length := by rw [hw]; rcases hd with h | h <;> rw [h] <;> simp <;> omega
  have h := wrb_0 tb l x.2.2.l x.1 x.2.1 d0 i0 nn hd (by simp; omega) (by rw [hw]; simp; omega) (by rw [List.length_map]; simpa using hk) (getD_SHd hk) (by rw [set_SH x.2.2.l hk]; exact flat_SH _)
  rw [set_SH x.2.2.l hk, hw, Nat.mul_one] at h
  refine Tri.more h (.cons ⟨rfl, rfl, Le.refl _⟩ (.cons ⟨rfl, rfl, Le.refl _⟩ (.cons ⟨rfl, rfl, Le.refl _⟩ (.cons ⟨rfl, rfl, Le.refl _⟩ (.cons ⟨rfl, rfl, Le.refl _⟩ (.cons ⟨rfl, rfl, Le.cap⟩ .nil))))))
theorem wt_code : rfCode Try.f63 0 = .rangeFunc (.tmp 11) #[12, 13] (rfAssign Try.f63 0) (rfBody Try.f63 0) := by kernel_rfl
theorem wt_range (cf cb : Option Nat) (F B : List Stk) (l : List Idd) (d0 i0 : Int) : Tri Try.prog (cxN 37 0) (rfCode Try.f63 0) (wE l d0 i0 (List.replicate 80 []) ++ [(11, .fn 69 [hbx cf F cb B])]) .normal (wE l d0 i0 (tbOf (itms F B))) := by
  rw [wt_code]
  exact Tri.rangeAll (P := Try.prog) (cx := cxN 37 0) rfl (t := 11) (ps := #[12, 13]) (c1 := rfAssign Try.f63 0) (c2 := rfBody Try.f63 0) [(2, .keep), (4, .keep), (6, .keep), (7, .keep)] rfl (hbx_view cf cb F B) (itms F B) itE (held_i cf cb F B) 8 (by omega)
    ⟨by decide, by decide⟩ (fun x => rfl) (fun pre => wE l d0 i0 (tbOf pre)) [] rfl (fun pre => .cons (by omega) rfl (.cons (by omega) rfl (.cons (by omega) rfl (.cons (by omega) rfl .nil)))) (fun pre t x h => lk_nil h) .nil
    (fun pre x post hx => by
      have ho := itms_ok (F := F) (B := B) (t := x) (by rw [hx]; simp)
      rw [tbOf_snoc]
      exact wt_round l d0 i0 (tbOf pre) x ho.1 ho.2.1 ho.2.2.1 (tbOf_len pre))
theorem share_frW (x : List (List Idd)) : share (frW x) = frW x := by
  show AV.sl .fresh 62 (some x.length) ((x.map FW).map (mapE (remode shareM 11))) = _
  unfold frW
  rw [List.map_map]
  congr 1
  refine List.map_congr_left fun l _ => ?_
  show AV.sl .fresh 30 (some l.length) ((l.map Idd.enc).map (mapE (remode shareM 10))) = _
  rw [map_re]; rfl
def halfT (tb : List (List Idd)) (k : Nat) : List (List Idd) := shT (List.take 40 (List.drop k (tb.map fun l => (⟨none, l⟩ : Stk))))
theorem wt_last (tb : List (List Idd)) (ht : tb.length = 80) (hl : ∀ l ∈ tb, l.length ≤ 4294967296) : Tri Try.prog (cxN 37 0) (regAt Try.f63 7) [(6, .box nn), (7, .box (tb.map SH))] .normal [(6, .box [frW (halfT tb 0), frW (halfT tb 40)])] := by
  obtain ⟨L, hL⟩ : ∃ L : List Stk, L = tb.map fun l => (⟨none, l⟩ : Stk) := ⟨_, rfl⟩
  have hLe : tb.map SH = L.map Stk.enc := by rw [hL, List.map_map]; rfl
  have hLl : L.length = 80 := by rw [hL, List.length_map]; exact ht
  have hp : List.all (List.map Stk.enc L) plainA = true := by rw [List.all_map, List.all_eq_true]; intro x _; rfl
  have h := wt7_0 L (fun s hs => by rw [hL] at hs; obtain ⟨l, hl', rfl⟩ := List.mem_map.1 hs; exact hl l hl') (by rw [hp, List.length_map, hLl]; decide) (by rw [List.map_take, List.map_drop]) (by rw [List.length_map, hLl]; decide) (by rw [hp, List.length_map, hLl]; decide) (by rw [List.map_take, List.map_drop])
  have e : ([(6, .box nn), (7, .box (tb.map SH))] : Env) = [(6, .box nn), (7, .box (L.map Stk.enc))] := by rw [hLe]
  rw [e]
  have h2 : Tri Try.prog (cxN 37 0) (regAt Try.f63 7) [(6, .box [niln, niln]), (7, .vadr (L.map Stk.enc) 0)] .normal [(6, .box [frW (halfT tb 0), frW (halfT tb 40)])] := by
    unfold halfT frW
    rw [← hL]
    exact h
  refine Tri.shr (r := 7) (cs := L.map Stk.enc) rfl hp (fun t y hy => ?_) (Tri.weak [(6, .keep), (7, .keep)] h2)
  simp only [lk] at hy
  split at hy
  · injection hy with hy; subst hy; simp [leafRoot]
  · split at hy
    · injection hy with hy; subst hy; simp [leafRoot]
    · cases hy
theorem with_code : Try.f63.body = some (.seq (regAt Try.f63 0) (.seq (regAt Try.f63 1) (.seq (.seq (regAt Try.f63 2) (.block 0 (rfCode Try.f63 0))) (.seq (codeAt Try.f63 6) (.seq (regAt Try.f63 7) .ret))))) := by kernel_rfl
def withT (F B : List Stk) (d i : Int) (l : List Idd) : List (List Idd) := (tbOf (itms F B)).set (d.toNat * 40 + (i - 1).toNat) l
theorem withT_len (F B : List Stk) (d i : Int) (l : List Idd) : (withT F B d i l).length = 80 := by unfold withT; rw [List.length_set, tbOf_len]
theorem tbOf_mem : ∀ (pre : List (Int × Int × Stk)) (x : List Idd), x ∈ tbOf pre → x = [] ∨ ∃ t ∈ pre, x = t.2.2.l := by
  intro pre
  suffices ∀ (pre : List (Int × Int × Stk)) (tb : List (List Idd)) (x : List Idd), x ∈ pre.foldl putT tb → x ∈ tb ∨ ∃ t ∈ pre, x = t.2.2.l by
    intro x hx
    rcases this pre _ x hx with h | h
    · exact .inl (List.mem_replicate.1 h).2
    · exact .inr h
  intro pre
  induction pre with
  | nil => intro tb x h; exact .inl h
  | cons t pre ih =>
    intro tb x h
    rw [List.foldl_cons] at h
    rcases ih _ _ h with h | ⟨u, hu, he⟩
    · rcases List.mem_or_eq_of_mem_set h with h | h
      · exact .inl h
      · exact .inr ⟨t, by simp, h⟩
    · exact .inr ⟨u, by simp [hu], he⟩
theorem with_c (cf cb c : Option Nat) (F B : List Stk) (d i : Int) (l : List Idd) (hd : d = 0 ∨ d = 1) (h1 : 1 ≤ i) (h2 : i ≤ 40) (hl : l.length ≤ 4294967296) (hA : ∀ t ∈ itms F B, t.2.2.l.length ≤ 4294967296) :
    PureC Try.prog 63 [beds (bsl cf F) (bsl cb B), ndl d i, isl c l] (.agg [frW (halfT (withT F B d i l) 0), frW (halfT (withT F B d i l) 40)]) := by
  refine pureT ((base 37 0).ok cxA_K.1 cxA_K.2) Try.func63 rfl (by show 3 ≤ 37; omega) rfl with_code rfl (ex := .ret) (env' := [(6, .box [frW (halfT (withT F B d i l) 0), frW (halfT (withT F B d i l) 40)])]) ?_ ?_
  · refine .seq (wt0_0 cf cb c F B d i l) (.seq (wt1_0 cf cb c F B d i l) ?_)
    have hw : IntKind.i64.wrap (i - 1) = i - 1 := wrap_id' (by omega) (by omega)
    have htb := tbOf_len (itms F B)
    have hk : d.toNat * 40 + (IntKind.i64.wrap (i - 1)).toNat * 1 < (tbOf (itms F B)).length := by rw [hw, htb]; rcases hd with h | h <;> rw [h] <;> simp <;> omega
    have h6 := wtA_0 none (tbOf (itms F B)) l d i nn hd (by simp; omega) (by rw [hw]; simp; omega) (by rw [List.length_map]; simpa using hk) (getD_SHd hk) (by rw [set_SH l hk]; exact flat_SH _)
    rw [set_SH l hk, hw, Nat.mul_one] at h6
    have hlast := wt_last (withT F B d i l) (withT_len F B d i l) fun x hx => by
      rcases List.mem_or_eq_of_mem_set hx with hx | rfl
      · rcases tbOf_mem _ _ hx with rfl | ⟨t, ht, rfl⟩
        · simp
        · exact hA t ht
      · exact hl
    refine .seq (.seq (wt2_0 cf cb c F B d i l _) (.block (ex := .normal) (Tri.more (wt_range cf cb F B l d i) ?_) (.inr ⟨by simp, rfl⟩))) (.seq h6 (.seq hlast .ret))
    refine .cons ⟨rfl, rfl, Le.cap⟩ (.cons ⟨rfl, rfl, Le.refl _⟩ (.cons ⟨rfl, rfl, Le.refl _⟩ (.cons ⟨rfl, rfl, ?_⟩ (.cons ⟨rfl, rfl, Le.refl _⟩ .nil))))
    refine Le.box ?_
    rw [List.map_replicate]
    exact F2.rep (x := AV.atom (.slice none 0 0)) (y := SH []) (fun B0 w S n v O h => Le.cap _ _ _ _ _ _ (Le.nil 30 _ _ _ _ _ _ h)) 80
  · show some (AV.agg [share (frW (halfT (withT F B d i l) 0)), share (frW (halfT (withT F B d i l) 40))]) = _
    rw [share_frW, share_frW]
end Tst
end

section
open Go Go.Lf Go.Proofs
namespace Tst
def stkW (x : List (List Idd)) : List Stk := x.map fun l => ⟨some l.length, l⟩
def stkF (x : List (List Idd)) : List Stk := x.map fun l => ⟨none, l⟩
theorem vmap_FW (x : List (List Idd)) : (x.map FW).map (mapE (remode (fun _ => .any) 10)) = (stkW x).map Stk.enc := by
  unfold stkW
  rw [List.map_map, List.map_map]
  refine List.map_congr_left fun l _ => ?_
  show AV.sl .any 30 (some l.length) ((l.map Idd.enc).map (mapE (remode (fun _ => .any) 9))) = _
  rw [map_idd]; rfl
theorem vmap_FN (x : List (List Idd)) : (x.map FN).map (mapE (remode (fun _ => .any) 10)) = (stkF x).map Stk.enc := by
  unfold stkF
  rw [List.map_map, List.map_map]
  refine List.map_congr_left fun l _ => ?_
  show AV.sl .any 30 none ((l.map Idd.enc).map (mapE (remode (fun _ => .any) 9))) = _
  rw [map_idd]; rfl
theorem view_frW (c c' : Option Nat) (x y : List (List Idd)) : view (.agg [.sl .fresh 62 c (x.map FW), .sl .fresh 62 c' (y.map FW)]) = beds (bsl c (stkW x)) (bsl c' (stkW y)) := by
  show AV.agg [.sl .any 62 c ((x.map FW).map (mapE (remode (fun _ => .any) 10))), .sl .any 62 c' ((y.map FW).map (mapE (remode (fun _ => .any) 10)))] = _
  rw [vmap_FW, vmap_FW]
theorem view_frN (c c' : Option Nat) (x y : List (List Idd)) : view (.agg [.sl .fresh 62 c (x.map FN), .sl .fresh 62 c' (y.map FN)]) = beds (bsl c (stkF x)) (bsl c' (stkF y)) := by
  show AV.agg [.sl .any 62 c ((x.map FN).map (mapE (remode (fun _ => .any) 10))), .sl .any 62 c' ((y.map FN).map (mapE (remode (fun _ => .any) 10)))] = _
  rw [vmap_FN, vmap_FN]
def ovV (F B : List Stk) : Bool := decide (40 < F.length) || decide (40 < B.length) || (itms F B).any fun t => decide (4 < t.2.2.l.length)
theorem over_c (cf cb : Option Nat) (F B : List Stk) : PureC Try.prog 53 [beds (bsl cf F) (bsl cb B)] (bb (ovV F B)) := by
  have e : ∀ t : Int × Int × Stk, decide ((4 : Int) < ((t.2.2.l.map Idd.enc).length : Nat)) = decide (4 < t.2.2.l.length) := fun t => by
    rw [List.length_map]
    exact decide_eq_decide.2 (by omega)
  have hF : decide ((40 : Int) < ((F.map Stk.enc).length : Nat)) = decide (40 < F.length) := by rw [List.length_map]; exact decide_eq_decide.2 (by omega)
  have hB : decide ((40 : Int) < ((B.map Stk.enc).length : Nat)) = decide (40 < B.length) := by rw [List.length_map]; exact decide_eq_decide.2 (by omega)
  unfold ovV
  rcases split_first (fun t : Int × Int × Stk => decide (4 < t.2.2.l.length)) (itms F B) with h | ⟨pre, x, post, h1, h2, h3⟩
  · have hn : ∀ t ∈ itms F B, decide ((4 : Int) < ((t.2.2.l.map Idd.enc).length : Nat)) = false := fun t ht => by rw [e]; exact h t ht
    have ha : ((itms F B).any fun t => decide (4 < t.2.2.l.length)) = false := by rw [List.any_eq_false]; intro t ht; rw [h t ht]; simp
    rw [ha]
    cases g0 : decide (40 < F.length) with
    | true => exact ovn_0 cf cb F B hn (by rw [hF]; exact g0)
    | false =>
      cases g1 : decide (40 < B.length) with
      | true => exact ovn_1 cf cb F B hn (by rw [hF]; exact g0) (by rw [hB]; exact g1)
      | false => exact ovn_2 cf cb F B hn (by rw [hF]; exact g0) (by rw [hB]; exact g1)
  · have hn : ∀ t ∈ pre, decide ((4 : Int) < ((t.2.2.l.map Idd.enc).length : Nat)) = false := fun t ht => by rw [e]; exact h2 t ht
    have hy : decide ((4 : Int) < ((x.2.2.l.map Idd.enc).length : Nat)) = true := by rw [e]; exact h3
    have ha : ((itms F B).any fun t => decide (4 < t.2.2.l.length)) = true := by rw [List.any_eq_true]; exact ⟨x, by rw [h1]; simp, h3⟩
    rw [ha]
    cases g0 : decide (40 < F.length) with
    | true => exact ovy_0 cf cb F B pre x post h1 hn hy (by rw [hF]; exact g0)
    | false =>
      cases g1 : decide (40 < B.length) with
      | true => exact ovy_1 cf cb F B pre x post h1 hn hy (by rw [hF]; exact g0) (by rw [hB]; exact g1)
      | false => exact ovy_2 cf cb F B pre x post h1 hn hy (by rw [hF]; exact g0) (by rw [hB]; exact g1)
def nmV (F B : List Stk) : Bool := (itms F B).all fun t => t.2.2.l.all nmI
theorem named_v (cf cb : Option Nat) (F B : List Stk) (hA : ∀ t ∈ itms F B, t.2.2.l.length < 2 ^ 62) : PureC Try.prog 54 [beds (bsl cf F) (bsl cb B)] (bb (nmV F B)) := by
  unfold nmV
  rcases split_first (fun t : Int × Int × Stk => !t.2.2.l.all nmI) (itms F B) with h | ⟨pre, x, post, h1, h2, h3⟩
  · have ha : ((itms F B).all fun t => t.2.2.l.all nmI) = true := by rw [List.all_eq_true]; intro t ht; simpa using h t ht
    rw [ha]
    exact nan_0 cf cb F B hA h
  · have ha : ((itms F B).all fun t => t.2.2.l.all nmI) = false := by rw [List.all_eq_false]; exact ⟨x, by rw [h1]; simp, by simpa using h3⟩
    rw [ha]
    exact nay_0 cf cb F B hA pre x post h1 h2 h3
def twV (F B : List Stk) : Bool := !decide (allI (itms F B)).Nodup
theorem twice_v (cf cb : Option Nat) (F B : List Stk) (hA : ∀ t ∈ itms F B, t.2.2.l.length < 2 ^ 62) : PureC Try.prog 55 [beds (bsl cf F) (bsl cb B)] (bb (twV F B)) := twice_c cf cb F B hA
def chkV (F B : List Stk) : Int := if ovV F B then 9 else if !nmV F B then 1 else if twV F B then 8 else 0
theorem ov_short {F B : List Stk} (h : ovV F B = false) : F.length ≤ 40 ∧ B.length ≤ 40 ∧ ∀ t ∈ itms F B, t.2.2.l.length ≤ 4 := by
  unfold ovV at h
  simp only [Bool.or_eq_false_iff, decide_eq_false_iff_not, List.any_eq_false, decide_eq_true_eq] at h
  exact ⟨by omega, by omega, fun t ht => by have := h.2 t ht; omega⟩
end Tst
end

section
open Go Go.Lf Go.Proofs
namespace Tst
set_option maxHeartbeats 0
theorem ckA_0 (cf cb : Option Nat) (F B : List Stk) (ho : ovV F B = true) (g0 : ovV F B = true) : PureC Try.prog 31 [beds (bsl cf F) (bsl cb B)]  (it 9) :=
  funA_ok (H := h31) (n := 13) (ans := [.c, .c, .c, .r (bb (ovV F B)), .c, .c, .c, .b true, .c]) (ps := [PureC Try.prog 53 [view (AV.agg [bsl cf F, bsl cb B])] (bb (ovV F B)), ovV F B = true]) (base 13 0) Try.func31 rfl (by simp) rfl (by kernel_rfl)  (allp (by (first | rw [view_yn] | rw [view_two] | rw [view_twoI] | rw [view_beds] | rw [view_frW] | rw [view_frN] | skip); apply over_c <;> (first | assumption | rfl | (simp at * <;> omega))) (allp g0 allp_nil))
theorem ckB_0 (cf cb : Option Nat) (F B : List Stk) (hA : ∀ t ∈ itms F B, t.2.2.l.length < 2 ^ 62) (ho : ovV F B = false) (g0 : ovV F B = false) (g1 : (!nmV F B) = true) : PureC Try.prog 31 [beds (bsl cf F) (bsl cb B)]  (it 1) :=
  funA_ok (H := h31) (n := 13) (ans := [.c, .c, .c, .r (bb (ovV F B)), .c, .c, .c, .b false, .c, .r (bb (nmV F B)), .c, .c, .c, .c, .b true, .c]) (ps := [PureC Try.prog 53 [view (AV.agg [bsl cf F, bsl cb B])] (bb (ovV F B)), ovV F B = false, PureC Try.prog 54 [view (AV.agg [bsl cf F, bsl cb B])] (bb (nmV F B)), (!nmV F B) = true]) (base 13 0) Try.func31 rfl (by simp) rfl (by kernel_rfl)  (allp (by (first | rw [view_yn] | rw [view_two] | rw [view_twoI] | rw [view_beds] | rw [view_frW] | rw [view_frN] | skip); apply over_c <;> (first | assumption | rfl | (simp at * <;> omega))) (allp g0 (allp (by (first | rw [view_yn] | rw [view_two] | rw [view_twoI] | rw [view_beds] | rw [view_frW] | rw [view_frN] | skip); apply named_v <;> (first | assumption | rfl | (simp at * <;> omega))) (allp g1 allp_nil))))
theorem ckB_1 (cf cb : Option Nat) (F B : List Stk) (hA : ∀ t ∈ itms F B, t.2.2.l.length < 2 ^ 62) (ho : ovV F B = false) (g0 : ovV F B = false) (g1 : (!nmV F B) = false) (g2 : twV F B = true) : PureC Try.prog 31 [beds (bsl cf F) (bsl cb B)]  (it 8) :=
  funA_ok (H := h31) (n := 13) (ans := [.c, .c, .c, .r (bb (ovV F B)), .c, .c, .c, .b false, .c, .r (bb (nmV F B)), .c, .c, .c, .c, .b false, .c, .r (bb (twV F B)), .c, .c, .c, .b true, .c]) (ps := [PureC Try.prog 53 [view (AV.agg [bsl cf F, bsl cb B])] (bb (ovV F B)), ovV F B = false, PureC Try.prog 54 [view (AV.agg [bsl cf F, bsl cb B])] (bb (nmV F B)), (!nmV F B) = false, PureC Try.prog 55 [view (AV.agg [bsl cf F, bsl cb B])] (bb (twV F B)), twV F B = true]) (base 13 0) Try.func31 rfl (by simp) rfl (by kernel_rfl)  (allp (by (first | rw [view_yn] | rw [view_two] | rw [view_twoI] | rw [view_beds] | rw [view_frW] | rw [view_frN] | skip); apply over_c <;> (first | assumption | rfl | (simp at * <;> omega))) (allp g0 (allp (by (first | rw [view_yn] | rw [view_two] | rw [view_twoI] | rw [view_beds] | rw [view_frW] | rw [view_frN] | skip); apply named_v <;> (first | assumption | rfl | (simp at * <;> omega))) (allp g1 (allp (by (first | rw [view_yn] | rw [view_two] | rw [view_twoI] | rw [view_beds] | rw [view_frW] | rw [view_frN] | skip); apply twice_v <;> (first | assumption | rfl | (simp at * <;> omega))) (allp g2 allp_nil))))))
theorem ckB_2 (cf cb : Option Nat) (F B : List Stk) (hA : ∀ t ∈ itms F B, t.2.2.l.length < 2 ^ 62) (ho : ovV F B = false) (g0 : ovV F B = false) (g1 : (!nmV F B) = false) (g2 : twV F B = false) : PureC Try.prog 31 [beds (bsl cf F) (bsl cb B)]  (it 0) :=
  funA_ok (H := h31) (n := 13) (ans := [.c, .c, .c, .r (bb (ovV F B)), .c, .c, .c, .b false, .c, .r (bb (nmV F B)), .c, .c, .c, .c, .b false, .c, .r (bb (twV F B)), .c, .c, .c, .b false, .c]) (ps := [PureC Try.prog 53 [view (AV.agg [bsl cf F, bsl cb B])] (bb (ovV F B)), ovV F B = false, PureC Try.prog 54 [view (AV.agg [bsl cf F, bsl cb B])] (bb (nmV F B)), (!nmV F B) = false, PureC Try.prog 55 [view (AV.agg [bsl cf F, bsl cb B])] (bb (twV F B)), twV F B = false]) (base 13 0) Try.func31 rfl (by simp) rfl (by kernel_rfl)  (allp (by (first | rw [view_yn] | rw [view_two] | rw [view_twoI] | rw [view_beds] | rw [view_frW] | rw [view_frN] | skip); apply over_c <;> (first | assumption | rfl | (simp at * <;> omega))) (allp g0 (allp (by (first | rw [view_yn] | rw [view_two] | rw [view_twoI] | rw [view_beds] | rw [view_frW] | rw [view_frN] | skip); apply named_v <;> (first | assumption | rfl | (simp at * <;> omega))) (allp g1 (allp (by (first | rw [view_yn] | rw [view_two] | rw [view_twoI] | rw [view_beds] | rw [view_frW] | rw [view_frN] | skip); apply twice_v <;> (first | assumption | rfl | (simp at * <;> omega))) (allp g2 allp_nil))))))
end Tst
end

section
open Go Go.Lf Go.Proofs
namespace Tst
theorem ov_len {F B : List Stk} (h : ovV F B = false) : ∀ t ∈ itms F B, t.2.2.l.length < 2 ^ 62 := fun t ht => by have := (ov_short h).2.2 t ht; omega
theorem chk_c (cf cb : Option Nat) (F B : List Stk) : PureC Try.prog 31 [beds (bsl cf F) (bsl cb B)] (it (chkV F B)) := by
  unfold chkV
  cases ho : ovV F B with
  | true => exact ckA_0 cf cb F B ho ho
  | false =>
    have hA := ov_len ho
    cases hn : nmV F B with
    | false => exact ckB_0 cf cb F B hA ho ho (by rw [hn]; rfl)
    | true =>
      cases ht : twV F B with
      | true => exact ckB_1 cf cb F B hA ho ho (by rw [hn]; rfl) ht
      | false => exact ckB_2 cf cb F B hA ho ho (by rw [hn]; rfl) ht
end Tst
end

section
open Go Go.Lf Go.Proofs
namespace Tst
set_option maxHeartbeats 0
theorem with_v (cf cb c : Option Nat) (F B : List Stk) (d i : Int) (l : List Idd) (hd : d = 0 ∨ d = 1) (h1 : 1 ≤ i) (h2 : i ≤ 40) (hl : l.length ≤ 4294967296) (hA : ∀ t ∈ itms F B, t.2.2.l.length ≤ 4294967296) :
    PureC Try.prog 63 [beds (bsl cf F) (bsl cb B), ndl d i, isl c l] (.agg [.sl .fresh 62 (some (halfT (withT F B d i l) 0).length) ((halfT (withT F B d i l) 0).map FW), .sl .fresh 62 (some (halfT (withT F B d i l) 40).length) ((halfT (withT F B d i l) 40).map FW)]) := with_c cf cb c F B d i l hd h1 h2 hl hA
theorem stA_0 (cf cb c : Option Nat) (F B : List Stk) (d i : Int) (l : List Idd) (hc : (chkV F B != (0 : Int)) = true) (g0 : (chkV F B != (0 : Int)) = true) : PureC Try.prog 38 [beds (bsl cf F) (bsl cb B), ndl d i, isl c l]  (AV.tup [AV.agg [niln, niln], it (chkV F B)]) :=
  funA_ok (H := h38) (n := 37) (ans := [.c, .c, .c, .c, .c, .r (it (chkV F B)), .c, .c, .c, .c, .c, .b true, .c, .c, .c, .c]) (ps := [PureC Try.prog 31 [view (AV.agg [bsl cf F, bsl cb B])] (it (chkV F B)), (chkV F B != (0 : Int)) = true]) (base 37 0) Try.func38 rfl (by simp) rfl (by kernel_rfl)  (allp (by (first | rw [view_yn] | rw [view_two] | rw [view_twoI] | rw [view_beds] | rw [view_frW] | rw [view_frN] | skip); apply chk_c <;> (first | assumption | rfl | (simp at * <;> omega))) (allp g0 allp_nil))
theorem stB_0 (cf cb c : Option Nat) (F B : List Stk) (d i : Int) (l : List Idd) (hc : (chkV F B != (0 : Int)) = false) (hn : ((if ndV d i = true then (0 : Int) else (1 : Int)) != (0 : Int)) = true) (g0 : (chkV F B != (0 : Int)) = false) (g1 : ((if ndV d i = true then (0 : Int) else (1 : Int)) != (0 : Int)) = true) : PureC Try.prog 38 [beds (bsl cf F) (bsl cb B), ndl d i, isl c l]  (AV.tup [AV.agg [niln, niln], it 1]) :=
  funA_ok (H := h38) (n := 37) (ans := [.c, .c, .c, .c, .c, .r (it (chkV F B)), .c, .c, .c, .c, .c, .b false, .c, .r (it (if ndV d i = true then (0 : Int) else (1 : Int))), .c, .c, .c, .c, .b true, .c, .b true, .c, .b true, .c, .b true, .c, .c, .c, .c, .c]) (ps := [PureC Try.prog 31 [view (AV.agg [bsl cf F, bsl cb B])] (it (chkV F B)), (chkV F B != (0 : Int)) = false, PureC Try.prog 56 [AV.agg [ub d, it i]] (it (if ndV d i = true then (0 : Int) else (1 : Int))), ((if ndV d i = true then (0 : Int) else (1 : Int)) != (0 : Int)) = true, ((if ndV d i = true then (0 : Int) else (1 : Int)) != (0 : Int)) = true, ((if ndV d i = true then (0 : Int) else (1 : Int)) != (0 : Int)) = true, ((if ndV d i = true then (0 : Int) else (1 : Int)) != (0 : Int)) = true]) (base 37 0) Try.func38 rfl (by simp) rfl (by kernel_rfl)  (allp (by (first | rw [view_yn] | rw [view_two] | rw [view_twoI] | rw [view_beds] | rw [view_frW] | rw [view_frN] | skip); apply chk_c <;> (first | assumption | rfl | (simp at * <;> omega))) (allp g0 (allp (by apply nck_c <;> (first | assumption | rfl | (simp at * <;> omega))) (allp g1 (allp g1 (allp g1 (allp g1 allp_nil)))))))
theorem stC_0 (cf cb c : Option Nat) (F B : List Stk) (d i : Int) (l : List Idd) (hA : l.length < 2 ^ 62) (hc : (chkV F B != (0 : Int)) = false) (hn : ((if ndV d i = true then (0 : Int) else (1 : Int)) != (0 : Int)) = false) (hm : (!List.all l nmI) = true) (g0 : (chkV F B != (0 : Int)) = false) (g1 : ((if ndV d i = true then (0 : Int) else (1 : Int)) != (0 : Int)) = false) (g2 : (!List.all l nmI) = true) : PureC Try.prog 38 [beds (bsl cf F) (bsl cb B), ndl d i, isl c l]  (AV.tup [AV.agg [niln, niln], it 1]) :=
  funA_ok (H := h38) (n := 37) (ans := [.c, .c, .c, .c, .c, .r (it (chkV F B)), .c, .c, .c, .c, .c, .b false, .c, .r (it (if ndV d i = true then (0 : Int) else (1 : Int))), .c, .c, .c, .c, .b false, .c, .b false, .r (AV.sl Mode.any 30 c (List.map Idd.enc l)), .r (bb (List.all l nmI)), .c, .c, .b false, .c, .b false, .c, .b true, .c, .c, .c]) (ps := [PureC Try.prog 31 [view (AV.agg [bsl cf F, bsl cb B])] (it (chkV F B)), (chkV F B != (0 : Int)) = false, PureC Try.prog 56 [AV.agg [ub d, it i]] (it (if ndV d i = true then (0 : Int) else (1 : Int))), ((if ndV d i = true then (0 : Int) else (1 : Int)) != (0 : Int)) = false, ((if ndV d i = true then (0 : Int) else (1 : Int)) != (0 : Int)) = false, view (AV.sl Mode.any 30 c (List.map Idd.enc l)) = AV.sl Mode.any 30 c (List.map Idd.enc l), PureC Try.prog 62 [AV.sl Mode.any 30 c (List.map Idd.enc l)] (bb (List.all l nmI)), ((if ndV d i = true then (0 : Int) else (1 : Int)) != (0 : Int)) = false, ((if ndV d i = true then (0 : Int) else (1 : Int)) != (0 : Int)) = false, (!List.all l nmI) = true]) (base 37 0) Try.func38 rfl (by simp) rfl (by kernel_rfl)  (allp (by (first | rw [view_yn] | rw [view_two] | rw [view_twoI] | rw [view_beds] | rw [view_frW] | rw [view_frN] | skip); apply chk_c <;> (first | assumption | rfl | (simp at * <;> omega))) (allp g0 (allp (by apply nck_c <;> (first | assumption | rfl | (simp at * <;> omega))) (allp g1 (allp g1 (allp (by first | exact view_ps _ _ _ | exact view_u8 _ _ _ | rfl | exact view_yn _ _ _ _ _ _ _ | exact view_id _ _ _ | exact view_stk _ _ _ | exact view_beds _ _ _ _ _ _ | exact view_pt _ _ _) (allp (by apply nml_c <;> (first | assumption | rfl | (simp at * <;> omega))) (allp g1 (allp g1 (allp g2 allp_nil))))))))))
theorem stD_0 (cf cb c : Option Nat) (F B : List Stk) (d i : Int) (l : List Idd) (hA : l.length < 2 ^ 62) (hc : (chkV F B != (0 : Int)) = false) (hn : ((if ndV d i = true then (0 : Int) else (1 : Int)) != (0 : Int)) = false) (hm : (!List.all l nmI) = false) (h4 : decide ((4 : Int) < (((l.map Idd.enc).length : Nat) : Int)) = true) (g0 : (chkV F B != (0 : Int)) = false) (g1 : ((if ndV d i = true then (0 : Int) else (1 : Int)) != (0 : Int)) = false) (g2 : (!List.all l nmI) = false) (g3 : decide ((4 : Int) < (↑(List.length (List.map Idd.enc l)) : Int)) = true) : PureC Try.prog 38 [beds (bsl cf F) (bsl cb B), ndl d i, isl c l]  (AV.tup [AV.agg [niln, niln], it 9]) :=
  funA_ok (H := h38) (n := 37) (ans := [.c, .c, .c, .c, .c, .r (it (chkV F B)), .c, .c, .c, .c, .c, .b false, .c, .r (it (if ndV d i = true then (0 : Int) else (1 : Int))), .c, .c, .c, .c, .b false, .c, .b false, .r (AV.sl Mode.any 30 c (List.map Idd.enc l)), .r (bb (List.all l nmI)), .c, .c, .b false, .c, .b false, .c, .b false, .c, .c, .c, .b true, .c, .c, .c]) (ps := [PureC Try.prog 31 [view (AV.agg [bsl cf F, bsl cb B])] (it (chkV F B)), (chkV F B != (0 : Int)) = false, PureC Try.prog 56 [AV.agg [ub d, it i]] (it (if ndV d i = true then (0 : Int) else (1 : Int))), ((if ndV d i = true then (0 : Int) else (1 : Int)) != (0 : Int)) = false, ((if ndV d i = true then (0 : Int) else (1 : Int)) != (0 : Int)) = false, view (AV.sl Mode.any 30 c (List.map Idd.enc l)) = AV.sl Mode.any 30 c (List.map Idd.enc l), PureC Try.prog 62 [AV.sl Mode.any 30 c (List.map Idd.enc l)] (bb (List.all l nmI)), ((if ndV d i = true then (0 : Int) else (1 : Int)) != (0 : Int)) = false, ((if ndV d i = true then (0 : Int) else (1 : Int)) != (0 : Int)) = false, (!List.all l nmI) = false, decide ((4 : Int) < (↑(List.length (List.map Idd.enc l)) : Int)) = true]) (base 37 0) Try.func38 rfl (by simp) rfl (by kernel_rfl)  (allp (by (first | rw [view_yn] | rw [view_two] | rw [view_twoI] | rw [view_beds] | rw [view_frW] | rw [view_frN] | skip); apply chk_c <;> (first | assumption | rfl | (simp at * <;> omega))) (allp g0 (allp (by apply nck_c <;> (first | assumption | rfl | (simp at * <;> omega))) (allp g1 (allp g1 (allp (by first | exact view_ps _ _ _ | exact view_u8 _ _ _ | rfl | exact view_yn _ _ _ _ _ _ _ | exact view_id _ _ _ | exact view_stk _ _ _ | exact view_beds _ _ _ _ _ _ | exact view_pt _ _ _) (allp (by apply nml_c <;> (first | assumption | rfl | (simp at * <;> omega))) (allp g1 (allp g1 (allp g2 (allp g3 allp_nil)))))))))))
theorem stE_0 (cf cb c : Option Nat) (F B : List Stk) (d i : Int) (l : List Idd) (hl : l.length < 2 ^ 62) (hl2 : l.length ≤ 4294967296) (hA : ∀ t ∈ itms F B, t.2.2.l.length ≤ 4294967296) (hd : d = 0 ∨ d = 1) (h1 : 1 ≤ i) (h2 : i ≤ 40) (hW : ∀ t ∈ itms (stkW (halfT (withT F B d i l) 0)) (stkW (halfT (withT F B d i l) 40)), t.2.2.l.length < 2 ^ 62) (hc : (chkV F B != (0 : Int)) = false) (hn : ((if ndV d i = true then (0 : Int) else (1 : Int)) != (0 : Int)) = false) (hm : (!List.all l nmI) = false) (h4 : decide ((4 : Int) < (((l.map Idd.enc).length : Nat) : Int)) = false) (g0 : (chkV F B != (0 : Int)) = false) (g1 : ((if ndV d i = true then (0 : Int) else (1 : Int)) != (0 : Int)) = false) (g2 : (!List.all l nmI) = false) (g3 : decide ((4 : Int) < (↑(List.length (List.map Idd.enc l)) : Int)) = false) (g4 : AV.agg [AV.sl Mode.fresh 62 (some (List.length (halfT (withT F B d i l) (0 : Nat)))) (List.map (mapE (remode shareM (10 : Nat))) (List.map FW (halfT (withT F B d i l) (0 : Nat)))), AV.sl Mode.fresh 62 (some (List.length (halfT (withT F B d i l) (40 : Nat)))) (List.map (mapE (remode shareM (10 : Nat))) (List.map FW (halfT (withT F B d i l) (40 : Nat))))] = AV.agg [AV.sl Mode.fresh 62 (some (List.length (halfT (withT F B d i l) (0 : Nat)))) (List.map FW (halfT (withT F B d i l) (0 : Nat))), AV.sl Mode.fresh 62 (some (List.length (halfT (withT F B d i l) (40 : Nat)))) (List.map FW (halfT (withT F B d i l) (40 : Nat)))]) (g5 : twV (stkW (halfT (withT F B d i l) (0 : Nat))) (stkW (halfT (withT F B d i l) (40 : Nat))) = true) : PureC Try.prog 38 [beds (bsl cf F) (bsl cb B), ndl d i, isl c l]  (AV.tup [AV.agg [niln, niln], it 8]) :=
  funA_ok (H := h38) (n := 37) (ans := [.c, .c, .c, .c, .c, .r (it (chkV F B)), .c, .c, .c, .c, .c, .b false, .c, .r (it (if ndV d i = true then (0 : Int) else (1 : Int))), .c, .c, .c, .c, .b false, .c, .b false, .r (AV.sl Mode.any 30 c (List.map Idd.enc l)), .r (bb (List.all l nmI)), .c, .c, .b false, .c, .b false, .c, .b false, .c, .c, .c, .b false, .c, .c, .c, .r (AV.sl Mode.any 30 c (List.map Idd.enc l)), .r (AV.agg [AV.sl Mode.fresh 62 (some (List.length (halfT (withT F B d i l) (0 : Nat)))) (List.map FW (halfT (withT F B d i l) (0 : Nat))), AV.sl Mode.fresh 62 (some (List.length (halfT (withT F B d i l) (40 : Nat)))) (List.map FW (halfT (withT F B d i l) (40 : Nat)))]), .c, .r (AV.agg [AV.sl Mode.fresh 62 (some (List.length (halfT (withT F B d i l) (0 : Nat)))) (List.map FW (halfT (withT F B d i l) (0 : Nat))), AV.sl Mode.fresh 62 (some (List.length (halfT (withT F B d i l) (40 : Nat)))) (List.map FW (halfT (withT F B d i l) (40 : Nat)))]), .c, .c, .c, .r (bb (twV (stkW (halfT (withT F B d i l) (0 : Nat))) (stkW (halfT (withT F B d i l) (40 : Nat))))), .c, .c, .b true, .c, .c, .c]) (ps := [PureC Try.prog 31 [view (AV.agg [bsl cf F, bsl cb B])] (it (chkV F B)), (chkV F B != (0 : Int)) = false, PureC Try.prog 56 [AV.agg [ub d, it i]] (it (if ndV d i = true then (0 : Int) else (1 : Int))), ((if ndV d i = true then (0 : Int) else (1 : Int)) != (0 : Int)) = false, ((if ndV d i = true then (0 : Int) else (1 : Int)) != (0 : Int)) = false, view (AV.sl Mode.any 30 c (List.map Idd.enc l)) = AV.sl Mode.any 30 c (List.map Idd.enc l), PureC Try.prog 62 [AV.sl Mode.any 30 c (List.map Idd.enc l)] (bb (List.all l nmI)), ((if ndV d i = true then (0 : Int) else (1 : Int)) != (0 : Int)) = false, ((if ndV d i = true then (0 : Int) else (1 : Int)) != (0 : Int)) = false, (!List.all l nmI) = false, decide ((4 : Int) < (↑(List.length (List.map Idd.enc l)) : Int)) = false, view (AV.sl Mode.any 30 c (List.map Idd.enc l)) = AV.sl Mode.any 30 c (List.map Idd.enc l), PureC Try.prog 63 [view (AV.agg [bsl cf F, bsl cb B]), AV.agg [ub d, it i], AV.sl Mode.any 30 c (List.map Idd.enc l)] (AV.agg [AV.sl Mode.fresh 62 (some (List.length (halfT (withT F B d i l) (0 : Nat)))) (List.map FW (halfT (withT F B d i l) (0 : Nat))), AV.sl Mode.fresh 62 (some (List.length (halfT (withT F B d i l) (40 : Nat)))) (List.map FW (halfT (withT F B d i l) (40 : Nat)))]), AV.agg [AV.sl Mode.fresh 62 (some (List.length (halfT (withT F B d i l) (0 : Nat)))) (List.map (mapE (remode shareM (10 : Nat))) (List.map FW (halfT (withT F B d i l) (0 : Nat)))), AV.sl Mode.fresh 62 (some (List.length (halfT (withT F B d i l) (40 : Nat)))) (List.map (mapE (remode shareM (10 : Nat))) (List.map FW (halfT (withT F B d i l) (40 : Nat))))] = AV.agg [AV.sl Mode.fresh 62 (some (List.length (halfT (withT F B d i l) (0 : Nat)))) (List.map FW (halfT (withT F B d i l) (0 : Nat))), AV.sl Mode.fresh 62 (some (List.length (halfT (withT F B d i l) (40 : Nat)))) (List.map FW (halfT (withT F B d i l) (40 : Nat)))], PureC Try.prog 55 [view (AV.agg [AV.sl Mode.fresh 62 (some (List.length (halfT (withT F B d i l) (0 : Nat)))) (List.map FW (halfT (withT F B d i l) (0 : Nat))), AV.sl Mode.fresh 62 (some (List.length (halfT (withT F B d i l) (40 : Nat)))) (List.map FW (halfT (withT F B d i l) (40 : Nat)))])] (bb (twV (stkW (halfT (withT F B d i l) (0 : Nat))) (stkW (halfT (withT F B d i l) (40 : Nat))))), twV (stkW (halfT (withT F B d i l) (0 : Nat))) (stkW (halfT (withT F B d i l) (40 : Nat))) = true]) (base 37 0) Try.func38 rfl (by simp) rfl (by kernel_rfl)  (allp (by (first | rw [view_yn] | rw [view_two] | rw [view_twoI] | rw [view_beds] | rw [view_frW] | rw [view_frN] | skip); apply chk_c <;> (first | assumption | rfl | (simp at * <;> omega))) (allp g0 (allp (by apply nck_c <;> (first | assumption | rfl | (simp at * <;> omega))) (allp g1 (allp g1 (allp (by first | exact view_ps _ _ _ | exact view_u8 _ _ _ | rfl | exact view_yn _ _ _ _ _ _ _ | exact view_id _ _ _ | exact view_stk _ _ _ | exact view_beds _ _ _ _ _ _ | exact view_pt _ _ _) (allp (by apply nml_c <;> (first | assumption | rfl | (simp at * <;> omega))) (allp g1 (allp g1 (allp g2 (allp g3 (allp (by first | exact view_ps _ _ _ | exact view_u8 _ _ _ | rfl | exact view_yn _ _ _ _ _ _ _ | exact view_id _ _ _ | exact view_stk _ _ _ | exact view_beds _ _ _ _ _ _ | exact view_pt _ _ _) (allp (by (first | rw [view_yn] | rw [view_two] | rw [view_twoI] | rw [view_beds] | rw [view_frW] | rw [view_frN] | skip); apply with_v <;> (first | assumption | rfl | (simp at * <;> omega))) (allp g4 (allp (by (first | rw [view_yn] | rw [view_two] | rw [view_twoI] | rw [view_beds] | rw [view_frW] | rw [view_frN] | skip); apply twice_v <;> (first | assumption | rfl | (simp at * <;> omega))) (allp g5 allp_nil))))))))))))))))
theorem stE_1 (cf cb c : Option Nat) (F B : List Stk) (d i : Int) (l : List Idd) (hl : l.length < 2 ^ 62) (hl2 : l.length ≤ 4294967296) (hA : ∀ t ∈ itms F B, t.2.2.l.length ≤ 4294967296) (hd : d = 0 ∨ d = 1) (h1 : 1 ≤ i) (h2 : i ≤ 40) (hW : ∀ t ∈ itms (stkW (halfT (withT F B d i l) 0)) (stkW (halfT (withT F B d i l) 40)), t.2.2.l.length < 2 ^ 62) (hc : (chkV F B != (0 : Int)) = false) (hn : ((if ndV d i = true then (0 : Int) else (1 : Int)) != (0 : Int)) = false) (hm : (!List.all l nmI) = false) (h4 : decide ((4 : Int) < (((l.map Idd.enc).length : Nat) : Int)) = false) (g0 : (chkV F B != (0 : Int)) = false) (g1 : ((if ndV d i = true then (0 : Int) else (1 : Int)) != (0 : Int)) = false) (g2 : (!List.all l nmI) = false) (g3 : decide ((4 : Int) < (↑(List.length (List.map Idd.enc l)) : Int)) = false) (g4 : AV.agg [AV.sl Mode.fresh 62 (some (List.length (halfT (withT F B d i l) (0 : Nat)))) (List.map (mapE (remode shareM (10 : Nat))) (List.map FW (halfT (withT F B d i l) (0 : Nat)))), AV.sl Mode.fresh 62 (some (List.length (halfT (withT F B d i l) (40 : Nat)))) (List.map (mapE (remode shareM (10 : Nat))) (List.map FW (halfT (withT F B d i l) (40 : Nat))))] = AV.agg [AV.sl Mode.fresh 62 (some (List.length (halfT (withT F B d i l) (0 : Nat)))) (List.map FW (halfT (withT F B d i l) (0 : Nat))), AV.sl Mode.fresh 62 (some (List.length (halfT (withT F B d i l) (40 : Nat)))) (List.map FW (halfT (withT F B d i l) (40 : Nat)))]) (g5 : twV (stkW (halfT (withT F B d i l) (0 : Nat))) (stkW (halfT (withT F B d i l) (40 : Nat))) = false) : PureC Try.prog 38 [beds (bsl cf F) (bsl cb B), ndl d i, isl c l]  (AV.tup [AV.agg [AV.sl Mode.fresh 62 (some (List.length (halfT (withT F B d i l) (0 : Nat)))) (List.map (mapE (remode shareM (11 : Nat))) (List.map FW (halfT (withT F B d i l) (0 : Nat)))), AV.sl Mode.fresh 62 (some (List.length (halfT (withT F B d i l) (40 : Nat)))) (List.map (mapE (remode shareM (11 : Nat))) (List.map FW (halfT (withT F B d i l) (40 : Nat))))], it 0]) :=
  funA_ok (H := h38) (n := 37) (ans := [.c, .c, .c, .c, .c, .r (it (chkV F B)), .c, .c, .c, .c, .c, .b false, .c, .r (it (if ndV d i = true then (0 : Int) else (1 : Int))), .c, .c, .c, .c, .b false, .c, .b false, .r (AV.sl Mode.any 30 c (List.map Idd.enc l)), .r (bb (List.all l nmI)), .c, .c, .b false, .c, .b false, .c, .b false, .c, .c, .c, .b false, .c, .c, .c, .r (AV.sl Mode.any 30 c (List.map Idd.enc l)), .r (AV.agg [AV.sl Mode.fresh 62 (some (List.length (halfT (withT F B d i l) (0 : Nat)))) (List.map FW (halfT (withT F B d i l) (0 : Nat))), AV.sl Mode.fresh 62 (some (List.length (halfT (withT F B d i l) (40 : Nat)))) (List.map FW (halfT (withT F B d i l) (40 : Nat)))]), .c, .r (AV.agg [AV.sl Mode.fresh 62 (some (List.length (halfT (withT F B d i l) (0 : Nat)))) (List.map FW (halfT (withT F B d i l) (0 : Nat))), AV.sl Mode.fresh 62 (some (List.length (halfT (withT F B d i l) (40 : Nat)))) (List.map FW (halfT (withT F B d i l) (40 : Nat)))]), .c, .c, .c, .r (bb (twV (stkW (halfT (withT F B d i l) (0 : Nat))) (stkW (halfT (withT F B d i l) (40 : Nat))))), .c, .c, .b false, .c, .c, .c]) (ps := [PureC Try.prog 31 [view (AV.agg [bsl cf F, bsl cb B])] (it (chkV F B)), (chkV F B != (0 : Int)) = false, PureC Try.prog 56 [AV.agg [ub d, it i]] (it (if ndV d i = true then (0 : Int) else (1 : Int))), ((if ndV d i = true then (0 : Int) else (1 : Int)) != (0 : Int)) = false, ((if ndV d i = true then (0 : Int) else (1 : Int)) != (0 : Int)) = false, view (AV.sl Mode.any 30 c (List.map Idd.enc l)) = AV.sl Mode.any 30 c (List.map Idd.enc l), PureC Try.prog 62 [AV.sl Mode.any 30 c (List.map Idd.enc l)] (bb (List.all l nmI)), ((if ndV d i = true then (0 : Int) else (1 : Int)) != (0 : Int)) = false, ((if ndV d i = true then (0 : Int) else (1 : Int)) != (0 : Int)) = false, (!List.all l nmI) = false, decide ((4 : Int) < (↑(List.length (List.map Idd.enc l)) : Int)) = false, view (AV.sl Mode.any 30 c (List.map Idd.enc l)) = AV.sl Mode.any 30 c (List.map Idd.enc l), PureC Try.prog 63 [view (AV.agg [bsl cf F, bsl cb B]), AV.agg [ub d, it i], AV.sl Mode.any 30 c (List.map Idd.enc l)] (AV.agg [AV.sl Mode.fresh 62 (some (List.length (halfT (withT F B d i l) (0 : Nat)))) (List.map FW (halfT (withT F B d i l) (0 : Nat))), AV.sl Mode.fresh 62 (some (List.length (halfT (withT F B d i l) (40 : Nat)))) (List.map FW (halfT (withT F B d i l) (40 : Nat)))]), AV.agg [AV.sl Mode.fresh 62 (some (List.length (halfT (withT F B d i l) (0 : Nat)))) (List.map (mapE (remode shareM (10 : Nat))) (List.map FW (halfT (withT F B d i l) (0 : Nat)))), AV.sl Mode.fresh 62 (some (List.length (halfT (withT F B d i l) (40 : Nat)))) (List.map (mapE (remode shareM (10 : Nat))) (List.map FW (halfT (withT F B d i l) (40 : Nat))))] = AV.agg [AV.sl Mode.fresh 62 (some (List.length (halfT (withT F B d i l) (0 : Nat)))) (List.map FW (halfT (withT F B d i l) (0 : Nat))), AV.sl Mode.fresh 62 (some (List.length (halfT (withT F B d i l) (40 : Nat)))) (List.map FW (halfT (withT F B d i l) (40 : Nat)))], PureC Try.prog 55 [view (AV.agg [AV.sl Mode.fresh 62 (some (List.length (halfT (withT F B d i l) (0 : Nat)))) (List.map FW (halfT (withT F B d i l) (0 : Nat))), AV.sl Mode.fresh 62 (some (List.length (halfT (withT F B d i l) (40 : Nat)))) (List.map FW (halfT (withT F B d i l) (40 : Nat)))])] (bb (twV (stkW (halfT (withT F B d i l) (0 : Nat))) (stkW (halfT (withT F B d i l) (40 : Nat))))), twV (stkW (halfT (withT F B d i l) (0 : Nat))) (stkW (halfT (withT F B d i l) (40 : Nat))) = false]) (base 37 0) Try.func38 rfl (by simp) rfl (by kernel_rfl)  (allp (by (first | rw [view_yn] | rw [view_two] | rw [view_twoI] | rw [view_beds] | rw [view_frW] | rw [view_frN] | skip); apply chk_c <;> (first | assumption | rfl | (simp at * <;> omega))) (allp g0 (allp (by apply nck_c <;> (first | assumption | rfl | (simp at * <;> omega))) (allp g1 (allp g1 (allp (by first | exact view_ps _ _ _ | exact view_u8 _ _ _ | rfl | exact view_yn _ _ _ _ _ _ _ | exact view_id _ _ _ | exact view_stk _ _ _ | exact view_beds _ _ _ _ _ _ | exact view_pt _ _ _) (allp (by apply nml_c <;> (first | assumption | rfl | (simp at * <;> omega))) (allp g1 (allp g1 (allp g2 (allp g3 (allp (by first | exact view_ps _ _ _ | exact view_u8 _ _ _ | rfl | exact view_yn _ _ _ _ _ _ _ | exact view_id _ _ _ | exact view_stk _ _ _ | exact view_beds _ _ _ _ _ _ | exact view_pt _ _ _) (allp (by (first | rw [view_yn] | rw [view_two] | rw [view_twoI] | rw [view_beds] | rw [view_frW] | rw [view_frN] | skip); apply with_v <;> (first | assumption | rfl | (simp at * <;> omega))) (allp g4 (allp (by (first | rw [view_yn] | rw [view_two] | rw [view_twoI] | rw [view_beds] | rw [view_frW] | rw [view_frN] | skip); apply twice_v <;> (first | assumption | rfl | (simp at * <;> omega))) (allp g5 allp_nil))))))))))))))))
end Tst
end
