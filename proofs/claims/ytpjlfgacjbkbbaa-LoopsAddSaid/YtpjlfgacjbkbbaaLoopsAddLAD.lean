/- Part 4 of the evaluator and of the contracts that the claim uses. -/
import Derived.RangeFuncLeaves
import Derived.RangeFuncRecord
import Derived.Deep.Slices
import Derived.DeepKeys2
import Derived.ChangeArms
import Derived.OpenShut
import Derived.WideShapes
import Derived.Carry
import Derived.Laws.Cover2
import Derived.Test.YtpjlfgacjbkbbaaLoopsAddLAA
import Derived.Test.YtpjlfgacjbkbbaaLoopsAddLAB
import Derived.Test.YtpjlfgacjbkbbaaLoopsAddLAC
set_option linter.unusedVariables false
set_option linter.unusedSimpArgs false
set_option linter.constructorNameAsVariable false
set_option linter.unusedSectionVars false
open Go.IntKind (i64 u8)

section
namespace Go.Lf
open Go Go.RowKit
def yb4 : Code → List Code
 | .seq a b => yb4 a ++ yb4 b
 | .cond _ a b => yb4 a ++ yb4 b
 | .block _ a => yb4 a
 | .scope a => yb4 a
 | .loop a => a :: yb4 a
 | .rangeFunc _ _ _ a => yb4 a
 | _ => []
def yc6 : Code → Option Nat
 | .region id _ _ => some id
 | .seq a _ => yc6 a
 | .block _ c => yc6 c
 | .loop c => yc6 c
 | .rangeFunc _ _ c _ => yc6 c
 | _ => none
def ycw (id : Nat) : Code → Option Code
 | .seq x y => if yc6 x = some id then some x else (ycw id x).orElse fun _ => ycw id y
 | .cond _ a b => (ycw id a).orElse fun _ => ycw id b
 | .block _ c => ycw id c
 | .scope c => ycw id c
 | .loop c => ycw id c
 | .rangeFunc _ _ a c => if yc6 a = some id then some a else (ycw id a).orElse fun _ => if yc6 c = some id then some c else ycw id c
 | _ => none
def yga (fn : Func) (id : Nat) : Code := match fn.body with
 | some c => (ycw id c).getD .skip
 | none => .skip
def ya1 : Code → List (Operand × Array Tmp × Code × Code)
 | .seq a b => ya1 a ++ ya1 b
 | .cond _ a b => ya1 a ++ ya1 b
 | .block _ a => ya1 a
 | .scope a => ya1 a
 | .loop a => ya1 a
 | .rangeFunc g ps a c => (g, ps, a, c) :: ya1 c
 | _ => []
def zqo (fn : Func) (k : Nat) : Code := match fn.body with
 | some c => ((ya1 c).map (·.2.2.1)).getD k .skip
 | none => .skip
def zrf (fn : Func) (k : Nat) : Code := match fn.body with
 | some c => ((ya1 c).map (·.2.2.2)).getD k .skip
 | none => .skip
def yah (fn : Func) (k : Nat) : Code := match fn.body with
 | some c => ((ya1 c).map fun q => Code.rangeFunc q.1 q.2.1 q.2.2.1 q.2.2.2).getD k .skip
 | none => .skip
def zqc (fn : Func) (k : Nat) : Code := match fn.body with
 | some c => (yb4 c).getD k .skip
 | none => .skip
theorem zqa : ∀ q ∈ ([] : List Prop), q := fun _ h => nomatch h
theorem allp {p : Prop} {ps : List Prop} (h : p) (hs : ∀ q ∈ ps, q) : ∀ q ∈ p :: ps, q := List.forall_mem_cons.2 ⟨h, hs⟩
def yeb (P : Program) (cx : Cx) (ops : Array Oper) : List Oper → Env → List Ans → Option ((List Log × Env) × List Ans × List Prop)
 | [], env, as => some (([], env), as, [])
 | o :: l, env, as => match ysr P cx ops env o as with
  | some ((rs, e), as, ps) => match yeb P cx ops l (zqi e env) as with
   | some ((ls, env'), as, qs) => some ((yaw env rs e :: ls, env'), as, ps ++ qs)
   | none => none
  | none => none
def yff (P : Program) (cx : Cx) (ops : Array Oper) (draw : Bool) (env : Env) (as : List Ans) : Option (Env × List Ans × List Prop) :=
 match yeb P { cx with dr := draw } ops ops.toList env as with
 | some ((ls, env'), as, ps) => if draw then (if ycr (ycq ops.toList) ls && yd3 ops.toList then some (env', as, ps) else none) else some (env', as, ps)
 | none => none
def mark (D : Nat) : Deferred := { target := .collected D, args := #[] }
def AgM (P : Program) (F : Frm) (B0 : Nat) (w0 : World) (S0 : Nat → Prop) (cx : Cx) (ds : List Deferred) (env : Env) (a : Act) (w : World) : Prop :=
 ∃ (Ds : List Nat) (n : Nat) (S : Nat → Prop) (Os : Nat → Own), Ds.Nodup ∧ (∀ D ∈ Ds, w0.heap.size ≤ D ∧ S D ∧ w.heap[D]? = some (.deferred (some []))) ∧
  a.defers = Ds.map mark ++ ds ∧ (a.tmps.size = cx.N ∧ F.lo = cx.lo) ∧ 0 < n ∧ Grow B0 S0 S ∧ St P F B0 w0 n env a.tmps w S Os
def Tri (P : Program) (cx : Cx) (c : Code) (env : Env) (ex : Ex) (env' : Env) : Prop :=
 ∀ (ρ : Option Nat), (cx.lo = 0 → ρ = none) → ∀ (F : Frm) (B0 : Nat) (w0 : World) (S0 : Nat → Prop) (ds : List Deferred) (a : Act) (w : World) (Q : Exit → Act → World → Prop), Agree P F B0 w0 S0 cx ds env a w →
  (∀ a' w', AgM P F B0 w0 S0 cx ds env' a' w' → Q ex.out a' w') → c.wpIn (Fi ρ) 0 P Q a w
def evA (P : Program) (cx : Cx) (H : Hints) : Code → Env → List Ans → Option ((Ex × Env) × List Ans × List Prop)
 | .skip, env, as => some ((.normal, env), as, [])
 | .label _, env, as => some ((.normal, env), as, [])
 | .region id ops draw, env, as => match yff P cx ops draw env as with
  | some (env', as, ps) => some ((.normal, keepE ((H.live id).map fun t => (t, .keep)) env'), as, ps)
  | none => none
 | .seq x y, env, as => match (match as with | .cut ex env' :: as => some ((ex, env'), as, [Tri P cx x env ex env']) | as => evA P cx H x env as) with
  | some ((.normal, env'), as, ps) => match evA P cx H y env' as with
   | some (r, as, qs) => some (r, as, ps ++ qs)
   | none => none
  | r => r
 | .cond (.tmp t) x y, env, as => match lk env t with
  | some (.atom (.bool b)) => match as with
   | .c :: as => if b = true then evA P cx H x env as else evA P cx H y env as
   | .b v :: as => match (if v = true then evA P cx H x env as else evA P cx H y env as) with
    | some (r, as, ps) => some (r, as, (b = v) :: ps)
    | none => none
   | _ => none
  | _ => none
 | .block id c, env, as => match evA P cx H c env as with
  | some ((.exit id', env'), as, ps) => if id' = id then some ((.normal, env'), as, ps) else some ((.exit id', env'), as, ps)
  | r => r
 | .loop c, env, as => match as with
  | .lp ex env' :: as => some ((ex, env'), as, [Tri P cx (.loop c) env ex env'])
  | _ => none
 | .rangeFunc g ps c1 c2, env, as => match as with
  | .lp ex env' :: as => some ((ex, env'), as, [Tri P cx (.rangeFunc g ps c1 c2) env ex env'])
  | _ => none
 | .exit id, env, as => some ((.exit id, env), as, [])
 | .ret, env, as => some ((.ret, env), as, [])
 | _, _, _ => none
section
variable {P : Program} {cx : Cx}
theorem zrl (hcx : CxBase P cx) (hK : ∀ f xs, cx.K f xs = none) (hM : ∀ f x, x ≠ .bad → cx.KM f x = none) {ops : Array Oper} : ∀ {os : List Oper} {env env' : Env} {ls : List Log} {as as' : List Ans} {ps : List Prop}, yeb P cx ops os env as = some ((ls, env'), as', ps) → (∀ q ∈ ps, q) →
  ∃ es : List (List Nat × Eff), es.length = os.length ∧ ls.length = es.length ∧ (∀ i x, es[i]? = some x → ls[i]? = some (yaw (atE es i env) x.1 x.2)) ∧ env' = es.foldl (fun env x => zqi x.2 env) env ∧
   ∀ i o, os[i]? = some o → ∃ x cxi, es[i]? = some x ∧ CxOk P cxi ∧ cxi.N = cx.N ∧ cxi.lo = cx.lo ∧ (ybk cxi ops o).run (atE es i env) = some x
 | [], env, env', ls, as, as', ps, h, _ => by
  injection h with h; injection h with h1 h2; injection h1 with h1 h3; subst h1 h3
  exact ⟨[], rfl, rfl, fun i x h => by simp at h, rfl, fun i o h => by simp at h⟩
 | o :: os, env, env', ls, as, as', ps, h, hp => by
  simp only [yeb] at h
  split at h
  ·rename_i rs e as2 ps2 hs
   split at h
   ·rename_i ls' env2 as3 qs hr
    injection h with h; injection h with h1 h2; injection h1 with h1 h3; injection h2 with h2 h4; subst h1 h2 h3 h4
    obtain ⟨cxi, c1, c2, c3, c4⟩ := ypk hcx hK hM hs fun q hq => hp q (by simp [hq])
    obtain ⟨es, e1, e0, e2, e3, e4⟩ := zrl hcx hK hM hr fun q hq => hp q (by simp [hq])
    refine ⟨(rs, e) :: es, by simp [e1], by simp [e0], fun i x hx => ?_, by simpa using e3, fun i o' hi => ?_⟩
    ·cases i with
     | zero =>
      have : (rs, e) = x := by simpa using hx
      subst this
      rfl
     | succ i => exact e2 i x (by simpa using hx)
    ·cases i with
     | zero =>
      have : o = o' := by simpa using hi
      subst this
      exact ⟨(rs, e), cxi, rfl, c1, c2, c3, c4⟩
     | succ i => exact e4 i o' (by simpa using hi)
   ·cases h
  ·cases h
variable {F : Frm} {B0 : Nat} {w0 : World} {S0 : Nat → Prop} {ds : List Deferred} {Q : Exit → Act → World → Prop}
theorem ydp (ρ : Option Nat) {ops : Array Oper} : ∀ (os : List Oper) {env : Env} {es : List (List Nat × Eff)} {a : Act} {w : World}, es.length = os.length →
  (∀ i o, os[i]? = some o → ∃ x cxi, es[i]? = some x ∧ CxOk P cxi ∧ cxi.N = cx.N ∧ cxi.lo = cx.lo ∧ (ybk cxi ops o).run (atE es i env) = some x) → Agree P F B0 w0 S0 cx ds env a w →
  (∀ a' w', Agree P F B0 w0 S0 cx ds (es.foldl (fun env x => zqi x.2 env) env) a' w' → Q .normal a' w') → wpListIn (Fi ρ) 0 P ops Q os a w
 | [], env, es, a, w, hl, _, hag, hQ => by
  have : es = [] := zli hl
  subst this
  exact hQ a w hag
 | o :: os, env, [], a, w, hl, _, _, _ => by simp at hl
 | o :: os, env, x :: es, a, w, hl, hstep, hag, hQ => by
  obtain ⟨hd, hN, n, S, Os, hn, hgr, hst⟩ := hag
  obtain ⟨x', cxi, hx, hci, hcN, hcl, hrun⟩ := hstep 0 o rfl
  have : x' = x := by simpa using hx.symm
  subst this
  have hrun' : (ybk cxi ops o).run env = some (x'.1, x'.2) := hrun
  have key := fun Q' => ydd ρ (Q := Q') hci hst hn (by rw [hcN, hcl]; exact hN) hrun'
  have next : ∀ a' w', Post P F B0 w0 S cxi env x'.2 a a' w' → wpListIn (Fi ρ) 0 P ops Q os a' w' := by
   intro a' w' ⟨h1, h2, n', S', Os', k1, k2, k3⟩
   rw [hcN, hcl] at h2
   exact ydp ρ os (by simpa using hl) (fun i o h => by
    obtain ⟨y, cxj, g1, g2⟩ := hstep (i + 1) o (by simpa using h)
    exact ⟨y, cxj, by simpa using g1, g2⟩) ⟨h1.trans hd, h2, n', S', Os', k1, hgr.trans k2, k3⟩ hQ
  unfold wpListIn
  have k1 := key Q
  split
  ·rename_i hw
   rw [if_pos hw] at k1
   exact Oper.wpIn_mono next k1
  ·rename_i hw
   rw [if_neg hw] at k1
   exact ⟨fun _ _ => trivial, next _ _ k1⟩
theorem yea (ρ : Option Nat) (hcx : CxBase P cx) (hK : ∀ f xs, cx.K f xs = none) (hM : ∀ f x, x ≠ .bad → cx.KM f x = none) {id : Nat} {ops : Array Oper} {draw : Bool} {env env' : Env} {as as' : List Ans} {ps : List Prop} (h : yff P cx ops draw env as = some (env', as', ps)) (hp : ∀ q ∈ ps, q) {a : Act} {w : World}
  (hag : Agree P F B0 w0 S0 cx ds env a w) (hQ : ∀ a' w', Agree P F B0 w0 S0 cx ds env' a' w' → Q .normal a' w') : (Code.region id ops draw).wpIn (Fi ρ) 0 P Q a w := by
 unfold yff at h
 have hcx' : CxBase P { cx with dr := draw } := ⟨hcx.ty, hcx.eq, hcx.mixed⟩
 split at h
 ·rename_i ls env2 as2 ps2 he
  cases draw with
  | false =>
   simp only [Bool.false_eq_true, if_false] at h
   injection h with h; injection h with h1 h2; injection h2 with h2 h3; subst h1 h2 h3
   obtain ⟨es, e1, e0, e2, rfl, e4⟩ := zrl hcx' hK hM he hp
   exact wpIn_region_list (ydp ρ (cx := { cx with dr := false }) ops.toList e1 e4 hag hQ)
  | true =>
   simp only [if_true] at h
   split at h
   ·rename_i hap
    injection h with h; injection h with h1 h2; injection h2 with h2 h3; subst h1 h2 h3
    simp only [zlo, yfl] at hap
    obtain ⟨es, e1, e0, e2, rfl, e4⟩ := zrl hcx' hK hM he hp
    refine wpIn_region_any hcx.mixed (yvb ρ (cx := { cx with dr := true }) (by simpa using e1) e4 e0 e2 hap.1 hap.2 hQ ops.size _ a _ (by simp) ?_ ?_ ⟨env, ?_, hag.drawn _⟩)
    ·simp
    ·intro j hj
     by_cases hjs : j < ops.size
     ·simp [Array.getD, hjs] at hj
     ·simp [Array.getD, hjs] at hj
    ·intro t
     rw [yco]
     intro j _
     by_cases hjs : j < ops.size
     ·simp [Array.getD, hjs]
     ·simp [Array.getD, hjs]
   ·cases h
 ·cases h
theorem Agree.keep {ks : List (Nat × Wk)} {env : Env} {a : Act} {w : World} (h : Agree P F B0 w0 S0 cx ds env a w) : Agree P F B0 w0 S0 cx ds (Lf.keepE ks env) a w := by
 obtain ⟨h1, h2, n, S, Os, hn, hgr, hst⟩ := h
 obtain ⟨Os', hst'⟩ := hst.keepE hn ks
 exact ⟨h1, h2, n, S, Os', hn, hgr, hst'⟩
theorem AgM.keep {ks : List (Nat × Wk)} {env : Env} {a : Act} {w : World} (h : AgM P F B0 w0 S0 cx ds env a w) : AgM P F B0 w0 S0 cx ds (Lf.keepE ks env) a w := by
 obtain ⟨Ds, n, S, Os, hnd, hD, h1, h2, hn, hgr, hst⟩ := h
 obtain ⟨Os', hst'⟩ := hst.keepE hn ks
 exact ⟨Ds, n, S, Os', hnd, hD, h1, h2, hn, hgr, hst'⟩
theorem Agree.m {env : Env} {a : Act} {w : World} (h : Agree P F B0 w0 S0 cx ds env a w) : AgM P F B0 w0 S0 cx ds env a w := by
 obtain ⟨h1, h2, n, S, Os, hn, hgr, hst⟩ := h
 exact ⟨[], n, S, Os, .nil, fun _ h => absurd h (by simp), h1, h2, hn, hgr, hst⟩
theorem St.reroot {F' : Frm} {n : Nat} {env : Env} {tmps : Array Value} {w : World} {S : Nat → Prop} {Os : Nat → Own} (h : St P F B0 w0 n env tmps w S Os) (hF : ∀ b, F'.b b → S b) (hlo : F'.lo = F.lo) (hts : F'.ts = F.ts) : St P F' B0 w n env tmps w S Os :=
 ⟨Below.refl _ _, h.b0, h.sLt, h.excl, h.one, h.dis, h.rel, h.abs, h.leaf, fun b hb => ⟨hF b hb, rfl⟩, fun t ht => by rw [hts]; exact h.pin t (hlo ▸ ht)⟩
theorem St.unroot {F' : Frm} {n : Nat} {env : Env} {tmps : Array Value} {w w' : World} {S : Nat → Prop} {Os : Nat → Own} (h : St P F' B0 w n env tmps w' S Os) (hF : ∀ b, F.b b → F'.b b) (hk : ∀ b, F.b b → w.heap[b]? = w0.heap[b]?) (hB : Below B0 w0 w)
  (hlo : F'.lo = F.lo) (hts : F'.ts = F.ts) : St P F B0 w0 n env tmps w' S Os :=
 ⟨hB.trans h.below, h.b0, h.sLt, h.excl, h.one, h.dis, h.rel, h.abs, h.leaf, fun b hb => ⟨(h.keep b (hF b hb)).1, (h.keep b (hF b hb)).2.trans (hk b hb)⟩, fun t ht => by rw [← hts]; exact h.pin t (hlo ▸ ht)⟩
theorem AgM.split {env : Env} {a : Act} {w : World} (h : AgM P F B0 w0 S0 cx ds env a w) : ∃ (F' : Frm) (S' : Nat → Prop) (ds' : List Deferred), Agree P F' B0 w S' cx ds' env a w ∧
  ∀ env' a' w', AgM P F' B0 w S' cx ds' env' a' w' → AgM P F B0 w0 S0 cx ds env' a' w' := by
 obtain ⟨Ds, n, S, Os, hnd, hD, h1, h2, hn, hgr, hst⟩ := h
 refine ⟨⟨fun b => F.b b ∨ b ∈ Ds, F.lo, F.ts⟩, S, Ds.map mark ++ ds, ⟨h1, h2, n, S, Os, hn, .refl _ _, hst.reroot ?_ rfl rfl⟩, ?_⟩
 ·intro b hb
  rcases hb with hb | hb
  ·exact (hst.keep b hb).1
  ·exact (hD b hb).2.1
 ·intro env' a' w' ⟨Ds', n', S', Os', hnd', hD', h1', h2', hn', hgr', hst'⟩
  have hlt : ∀ D ∈ Ds, D < w.heap.size := fun D h => hst.sLt D (hD D h).2.1
  refine ⟨Ds' ++ Ds, n', S', Os', ?_, ?_, ?_, h2', hn', hgr.trans hgr', hst'.unroot (fun b hb => .inl hb) (fun b hb => (hst.keep b hb).2) hst.below rfl rfl⟩
  ·refine List.nodup_append.2 ⟨hnd', hnd, fun x hx y hy e => ?_⟩
   subst e
   have := (hD' x hx).1; have := hlt x hy; omega
  ·intro D hd
   rcases List.mem_append.1 hd with hd | hd
   ·exact ⟨Nat.le_trans hst.below.size (hD' D hd).1, (hD' D hd).2⟩
   ·have := hst'.keep D (.inr hd)
    exact ⟨(hD D hd).1, this.1, this.2.trans (hD D hd).2.2⟩
  ·rw [h1', zlq, zlp]
end
section
variable {P : Program} {cx : Cx} {H : Hints}
theorem Tri.go {c : Code} {env env' : Env} {ex : Ex} (h : Tri P cx c env ex env') {ρ : Option Nat} (hρ : cx.lo = 0 → ρ = none) {F : Frm} {B0 : Nat} {w0 : World} {S0 : Nat → Prop} {ds : List Deferred} {a : Act} {w : World} {Q : Exit → Act → World → Prop} (hag : AgM P F B0 w0 S0 cx ds env a w)
  (hQ : ∀ a' w', AgM P F B0 w0 S0 cx ds env' a' w' → Q ex.out a' w') : c.wpIn (Fi ρ) 0 P Q a w := by
 obtain ⟨F', S', ds', h1, h2⟩ := hag.split
 exact h ρ hρ F' B0 w S' ds' a w Q h1 fun a' w' ha => hQ a' w' (h2 _ _ _ ha)
theorem Tri.weak {c : Code} {env env' : Env} {ex : Ex} (ks : List (Nat × Wk)) (h : Tri P cx c (keepE ks env) ex env') : Tri P cx c env ex env' :=
 fun ρ hρ F B0 w0 S0 ds a w Q hag hQ => h ρ hρ F B0 w0 S0 ds a w Q hag.keep hQ
theorem Tri.after {c : Code} {env env' : Env} {ex : Ex} (ks : List (Nat × Wk)) (h : Tri P cx c env ex env') : Tri P cx c env ex (keepE ks env') :=
 fun ρ hρ F B0 w0 S0 ds a w Q hag hQ => h ρ hρ F B0 w0 S0 ds a w Q hag fun a' w' ha => hQ a' w' ha.keep
theorem zqe (hcx : CxBase P cx) (hK : ∀ f xs, cx.K f xs = none) (hM : ∀ f x, x ≠ .bad → cx.KM f x = none) : ∀ (c : Code) {env env' : Env} {ex : Ex} {ans ans' : List Ans} {ps : List Prop}, evA P cx H c env ans = some ((ex, env'), ans', ps) → (∀ q ∈ ps, q) → Tri P cx c env ex env' := by
 intro c
 induction c with
 | skip =>
  intro env env' ex as as' ps h hp ρ hρ F B0 w0 S0 ds a w Q hag hQ
  injection h with h; injection h with h _; injection h with h1 h2; subst h1 h2
  exact wpIn_skip (hQ a w hag.m)
 | label lb =>
  intro env env' ex as as' ps h hp ρ hρ F B0 w0 S0 ds a w Q hag hQ
  injection h with h; injection h with h _; injection h with h1 h2; subst h1 h2
  exact wpIn_label (hQ a w hag.m)
 | exit id =>
  intro env env' ex as as' ps h hp ρ hρ F B0 w0 S0 ds a w Q hag hQ
  injection h with h; injection h with h _; injection h with h1 h2; subst h1 h2
  exact wpIn_exit (hQ a w hag.m)
 | ret =>
  intro env env' ex as as' ps h hp ρ hρ F B0 w0 S0 ds a w Q hag hQ
  injection h with h; injection h with h _; injection h with h1 h2; subst h1 h2
  exact wpIn_ret (hQ a w hag.m)
 | region id ops draw =>
  intro env env' ex as as' ps h hp ρ hρ F B0 w0 S0 ds a w Q hag hQ
  simp only [evA] at h
  split at h
  ·rename_i env2 as2 ps2 hr
   injection h with h; injection h with h1 h2; injection h1 with h1 h3; injection h2 with h2 h4; subst h1 h2 h3 h4
   exact yea ρ hcx hK hM hr hp hag fun a' w' ha => hQ a' w' ha.keep.m
  ·cases h
 | seq x y ihx ihy =>
  intro env env' ex as as' ps h hp ρ hρ F B0 w0 S0 ds a w Q hag hQ
  have ihx : ∀ {env env' : Env} {ex : Ex} {ans ans' : List Ans} {ps : List Prop}, (match ans with | .cut ex env' :: as => some ((ex, env'), as, [Tri P cx x env ex env']) | as => evA P cx H x env as) = some ((ex, env'), ans', ps) → (∀ q ∈ ps, q) → Tri P cx x env ex env' := by
   intro env env' ex ans ans' ps h hp
   split at h
   ·injection h with h; injection h with h1 h2; injection h1 with h1 h3; injection h2 with h2 h4; subst h1 h2 h3 h4
    exact hp _ List.mem_cons_self
   ·exact ihx h hp
  simp only [evA] at h
  split at h
  ·rename_i env2 as2 ps2 hx
   split at h
   ·rename_i r as3 qs hy
    obtain ⟨ex2, env3⟩ := r
    injection h with h; injection h with h1 h2; injection h1 with h1 h3; injection h2 with h2 h4; subst h1 h2 h3 h4
    refine wpIn_seq (ihx hx (fun q hq => hp q (by simp [hq])) ρ hρ F B0 w0 S0 ds a w _ hag fun a' w' ha => ?_)
    exact (ihy hy (fun q hq => hp q (by simp [hq]))).go hρ ha hQ
   ·cases h
  ·rename_i hne
   refine wpIn_seq (ihx h hp ρ hρ F B0 w0 S0 ds a w _ hag fun a' w' ha => ?_)
   cases ex with
   | normal => exact absurd h (hne _ _ _)
   | exit id => exact hQ a' w' ha
   | ret => exact hQ a' w' ha
 | cond o x y ihx ihy =>
  intro env env' ex as as' ps h hp ρ hρ F B0 w0 S0 ds a w Q hag hQ
  cases o with
  | tmp t =>
   simp only [evA] at h
   split at h
   ·rename_i b hl
    have hb := hag.bool hl
    split at h
    ·split at h
     ·rename_i hbt; subst hbt
      exact wpIn_cond_true hb (ihx h hp ρ hρ F B0 w0 S0 ds a w Q hag hQ)
     ·rename_i hbt
      have : b = false := by simpa using hbt
      subst this
      exact wpIn_cond_false hb (ihy h hp ρ hρ F B0 w0 S0 ds a w Q hag hQ)
    ·rename_i v as2
     split at h
     ·rename_i r as3 ps2 hr
      obtain ⟨ex2, env3⟩ := r
      injection h with h; injection h with h1 h2; injection h1 with h1 h3; injection h2 with h2 h4; subst h1 h2 h3 h4
      have hbv : b = v := hp _ List.mem_cons_self
      subst hbv
      split at hr
      ·rename_i hbt; subst hbt
       exact wpIn_cond_true hb (ihx hr (fun q hq => hp q (List.mem_cons_of_mem _ hq)) ρ hρ F B0 w0 S0 ds a w Q hag hQ)
      ·rename_i hbt
       have : b = false := by simpa using hbt
       subst this
       exact wpIn_cond_false hb (ihy hr (fun q hq => hp q (List.mem_cons_of_mem _ hq)) ρ hρ F B0 w0 S0 ds a w Q hag hQ)
     ·cases h
    ·cases h
   ·cases h
  | _ => cases h
 | block id c ih =>
  intro env env' ex as as' ps h hp ρ hρ F B0 w0 S0 ds a w Q hag hQ
  simp only [evA] at h
  split at h
  ·rename_i id' env2 as2 ps2 hc
   split at h
   ·rename_i he
    subst he
    injection h with h; injection h with h1 h2; injection h1 with h1 h3; injection h2 with h2 h4; subst h1 h2 h3 h4
    refine wpIn_block (ih hc hp ρ hρ F B0 w0 S0 ds a w _ hag fun a' w' ha => ?_)
    simp only [Ex.out, Exit.inBlock, if_true]
    exact hQ a' w' ha
   ·rename_i he
    injection h with h; injection h with h1 h2; injection h1 with h1 h3; injection h2 with h2 h4; subst h1 h2 h3 h4
    refine wpIn_block (ih hc hp ρ hρ F B0 w0 S0 ds a w _ hag fun a' w' ha => ?_)
    simp only [Ex.out, Exit.inBlock, he, if_false]
    exact hQ a' w' ha
  ·rename_i hne
   refine wpIn_block (ih h hp ρ hρ F B0 w0 S0 ds a w _ hag fun a' w' ha => ?_)
   cases ex with
   | normal => exact hQ a' w' ha
   | exit id' => exact absurd h (hne _ _ _ _)
   | ret => exact hQ a' w' ha
 | loop c ih =>
  intro env env' ex as as' ps h hp
  simp only [evA] at h
  split at h
  ·injection h with h; injection h with h1 h2; injection h1 with h1 h3; injection h2 with h2 h4; subst h1 h2 h3 h4
   exact hp _ List.mem_cons_self
  ·cases h
 | rangeFunc g ps c1 c2 _ _ =>
  intro env env' ex as as' ps h hp
  simp only [evA] at h
  split at h
  ·injection h with h; injection h with h1 h2; injection h1 with h1 h3; injection h2 with h2 h4; subst h1 h2 h3 h4
   exact hp _ List.mem_cons_self
  ·cases h
 | _ => intro env env' ex as as' ps h; cases h
theorem CxBase.ok (hcx : CxBase P cx) (hK : ∀ f xs, cx.K f xs = none) (hM : ∀ f x, x ≠ .bad → cx.KM f x = none) : CxOk P cx :=
 ⟨hcx.ty, hcx.eq, fun f xs r h => (by rw [hK] at h; cases h), fun f x r h hx => (by rw [hM f x hx] at h; cases h), hcx.mixed⟩
def Rnd (P : Program) (cx : Cx) (c : Code) (n : Nat) (env : Env) (ex : Ex) (env' : Env) : Prop :=
 ∀ (ρ : Option Nat), (cx.lo = 0 → ρ = none) → ∀ (F : Frm) (B0 : Nat) (w0 : World) (S0 : Nat → Prop) (ds : List Deferred) (a : Act) (w : World) (Q : Exit → Act → World → Prop), Agree P F B0 w0 S0 cx ds env a w →
  (∀ a' w', AgM P F B0 w0 S0 cx ds env' a' w' → Q ex.out a' w') → Code.roundsIn (Fi ρ) 0 P c Q n a w
theorem Rnd.go {c : Code} {n : Nat} {env env' : Env} {ex : Ex} (h : Rnd P cx c n env ex env') {ρ : Option Nat} (hρ : cx.lo = 0 → ρ = none) {F : Frm} {B0 : Nat} {w0 : World} {S0 : Nat → Prop} {ds : List Deferred} {a : Act} {w : World} {Q : Exit → Act → World → Prop} (hag : AgM P F B0 w0 S0 cx ds env a w)
  (hQ : ∀ a' w', AgM P F B0 w0 S0 cx ds env' a' w' → Q ex.out a' w') : Code.roundsIn (Fi ρ) 0 P c Q n a w := by
 obtain ⟨F', S', ds', h1, h2⟩ := hag.split
 exact h ρ hρ F' B0 w S' ds' a w Q h1 fun a' w' ha => hQ a' w' (h2 _ _ _ ha)
theorem Rnd.step {c : Code} {n : Nat} {env env1 env' : Env} {ex : Ex} (h : Tri P cx c env .normal env1) (h2 : Rnd P cx c n env1 ex env') : Rnd P cx c (n + 1) env ex env' :=
 fun ρ hρ F B0 w0 S0 ds a w Q hag hQ => by
  rw [roundsIn_succ]
  exact h ρ hρ F B0 w0 S0 ds a w _ hag fun a' w' ha => h2.go hρ ha hQ
theorem Rnd.exit {c : Code} {n : Nat} {env env' : Env} {ex : Ex} (h : Tri P cx c env ex env') (hne : ex ≠ .normal) : Rnd P cx c (n + 1) env ex env' :=
 fun ρ hρ F B0 w0 S0 ds a w Q hag hQ => by
  rw [roundsIn_succ]
  refine h ρ hρ F B0 w0 S0 ds a w _ hag fun a' w' ha => ?_
  cases ex with
  | normal => exact absurd rfl hne
  | exit id => exact hQ a' w' ha
  | ret => exact hQ a' w' ha
theorem Rnd.weak {c : Code} {n : Nat} {env env' : Env} {ex : Ex} (ks : List (Nat × Wk)) (h : Rnd P cx c n (keepE ks env) ex env') : Rnd P cx c n env ex env' :=
 fun ρ hρ F B0 w0 S0 ds a w Q hag hQ => h ρ hρ F B0 w0 S0 ds a w Q hag.keep hQ
theorem Rnd.loop {c : Code} {n : Nat} {env env' : Env} {ex : Ex} (h : Rnd P cx c n env ex env') : Tri P cx (.loop c) env ex env' :=
 fun ρ hρ F B0 w0 S0 ds a w Q hag hQ => wpIn_loop_rounds n (h ρ hρ F B0 w0 S0 ds a w Q hag hQ)
theorem St.other {F : Frm} {B0 : Nat} {w0 w w' : World} {n : Nat} {env : Env} {tmps : Array Value} {S : Nat → Prop} {Os : Nat → Own} (h : St P F B0 w0 n env tmps w S Os) (hB : Below B0 w w') (hF : ∀ b, F.b b → w'.heap[b]? = w.heap[b]?)
  (hw : ∀ (b : Nat) (o : Obj), w.heap[b]? = some o → isD o = true → w'.heap[b]? = w.heap[b]?) : St P F B0 w0 n env tmps w' S Os := by
 have lv : ∀ (p : Path) (v : Value) (x : AV) (u : Value), LV P w v x p = some u → LV P w' v x p = some u := by
  intro p
  induction p with
  | nil => intro v x u h; exact h
  | cons ic p ih =>
   obtain ⟨i, c⟩ := ic
   intro v x u hl
   unfold LV at hl ⊢
   cases hs : seg x i c 1 with
   | none => rw [hs] at hl; simp at hl
   | some ms =>
    rw [hs] at hl
    match ms, hl with
    | [], hl => simp at hl
    | z :: rest, hl =>
     cases hc : ya8 P w x i c v with
     | none => rw [hc] at hl; simp at hl
     | some u1 =>
      rw [hc] at hl
      have cell : ∀ (q : Addr) (y : Value), w.cell? q = some y → w'.cell? q = some y := by
       intro q y hy
       cases ho : w.heap[q.block]? with
       | none => rw [World.cell?] at hy; rw [ho] at hy; cases hy
       | some ob =>
        cases ob with
        | cells C T fr => rw [World.cell?, hw _ _ ho rfl, ← World.cell?]; exact hy
        | _ => rw [World.cell?] at hy; rw [ho] at hy; cases hy
      have : ya8 P w' x i c v = some u1 := by
       unfold ya8 at hc ⊢
       split at hc
       ·exact cell _ _ hc
       ·exact cell _ _ hc
       ·exact hc
       ·cases hc
      rw [this]; exact ih u1 z u hl
 refine ⟨h.below.trans hB, Nat.le_trans h.b0 hB.size, fun b hb => Nat.lt_of_lt_of_le (h.sLt b hb) hB.size, h.excl, h.one, h.dis, ?_, h.abs, h.leaf, fun b hb => ⟨(h.keep b hb).1, (hF b hb).trans (h.keep b hb).2⟩, h.pin⟩
 intro t x hx
 obtain ⟨v, hv, hs⟩ := h.rel t x hx
 refine ⟨v, hv, ?_⟩
 rcases hs with ⟨k1, k2, k3⟩ | hr
 ·refine .inl ⟨k1, ?_, k3⟩
  cases hr : zqf x with
  | none => exact absurd hr k1
  | some r => exact k2.keep hr rfl rfl fun xr vr p u _ _ hl => lv p vr xr u hl
 ·exact .inr (Rv.frameC (fun _ h => h) (fun b C T fr _ hg => hw b _ hg rfl) n v x (Os t) (fun b o _ hg hd => hw b o hg hd) hr)
theorem ydc {fn : Func} {tmps : Array Value} {R : Ending → World → Prop} : ∀ (Ds : List Nat) {w : World}, Ds.Nodup → (∀ D ∈ Ds, w.heap[D]? = some (.deferred (some []))) →
  (∀ w' : World, w'.os = w.os → w'.tape = w.tape → w'.output = w.output → w'.heap.size = w.heap.size → (∀ b, b ∉ Ds → w'.heap[b]? = w.heap[b]?) → ∃ v, (results fn tmps).run P w' = .ok v w' ∧ R (.returned v) w') →
  LeavesInM (Fi none) 0 P fn tmps R (Ds.map mark ++ []) .returning w
 | [], w, _, _, h => h w rfl rfl rfl rfl fun _ _ => rfl
 | D :: Ds, w, hn, hD, h => by
  have hk := hD D (by simp)
  have hlt : D < w.heap.size := (zlj.1 hk).1
  obtain ⟨hn1, hn2⟩ := List.nodup_cons.1 hn
  refine ⟨by simp, .inl ⟨D, _, rfl, run_takeDeferred hk, ydc Ds hn2 (fun D' hD' => ?_) fun w' h1 h2 h3 h4 h5 => ?_⟩⟩
  ·have hne : D' ≠ D := fun e => hn1 (e ▸ hD')
   rw [World.putObj_heap_other hne]; exact hD D' (by simp [hD'])
  ·refine h w' h1 h2 h3 (h4.trans World.putObj_size) fun b hb => ?_
   rw [h5 b fun hb' => hb (by simp [hb'])]
   exact World.putObj_heap_other fun e => hb (by simp [e])
variable {r : AV}
theorem ycc (hcx : CxOk P cx) {c : Code} {ex : Ex} {env' : Env} {f : FuncId} {fn : Func} {xs : List AV} {r : AV} (hf : P.funcs[f]? = some fn) (hname : (fn.name == "runtime.NumGoroutine") = false) (hlen : xs.length ≤ cx.N) (hlo : cx.lo = 0)
  (hb : fn.body = some c) (hN : fn.ntmps = cx.N) (htri : Tri P cx c (yc8 xs) ex env') (h : finK cx fn.results.toList ex env' = some r) : PureC P f xs r := by
  ·refine ⟨?_, ?_⟩
   ·intro args w
    have hn' : ¬ (fn.name = "runtime.NumGoroutine") := by simpa using hname
    simp [callFunc, hf, hn', hb]
   ·intro w S args n hS hargs
    have hal : args.length = xs.length := hargs.length
    have hargs' : Rc (Rv P w.heap.size w S (n + 1)) args xs (fun _ => 0) := hargs.le (Nat.le_succ n)
    refine (callsIn_wide (n := 0)).1 (callsIn_of_wp_marks (F := Fi none) (n := 0) hf hb trivial ?_ rfl)
    have hst := St.enter hS hargs' (k := fn.ntmps - args.toArray.size)
    have hag : Agree P ⟨fun _ => False, 0, #[]⟩ w.heap.size w S cx [] (yc8 xs) { tmps := args.toArray ++ Array.replicate (fn.ntmps - args.toArray.size) undef, defers := [] } w := by
     refine ⟨rfl, ⟨?_, hlo.symm⟩, n + 1, S, _, Nat.succ_pos n, .refl _ _, hst⟩
     simp; omega
    ·have fin : ∀ (a' : Act) w' n1 S1 Os1, 0 < n1 → Grow w.heap.size S S1 → St P ⟨fun _ => False, 0, #[]⟩ w.heap.size w n1 env' a'.tmps w' S1 Os1 → (ydu cx fn.results.toList env').map tupR = some r → ∃ v, (results fn a'.tmps).run P w' = .ok v w' ∧
       ∃ v' n' S' O, Ending.returned v = .returned v' ∧ Below w.heap.size w w' ∧ Rv P w.heap.size w' S' n' v' r O ∧ (∀ b, O b ≤ 1) ∧
        (∀ b, S' b → (S b ∨ w.heap.size ≤ b) ∧ b < w'.heap.size) ∧ (∀ b, S' b → O b = 0) ∧ (∀ b, S b → S' b) := by
      intro a' w' n1 S1 Os1 hn1 hgr hst1 ht
      cases hq : ydu cx fn.results.toList env' with
      | none => rw [hq] at ht; cases ht
      | some ys =>
       rw [hq] at ht
       injection ht with ht
       obtain ⟨vs, n2, S2, O, hrun, hrc, h1, h2, h3, h4, h5⟩ := ygp hcx _ hst1 hn1 hq
       have hres : (results fn a'.tmps).run P w' = .ok (if h : vs.toArray.size = 1 then vs.toArray[0] else .tuple vs.toArray) w' := by
        have e2 : (fn.results.mapM (ybq a'.tmps)).run P w' = .ok vs.toArray w' := by
         rw [Array.mapM_eq_mapM_toList, Sem.run_map, hrun]
         simp
        have e4 : results fn a'.tmps = (do let vs ← fn.results.mapM (ybq a'.tmps); pure (if h : vs.size = 1 then vs[0] else .tuple vs)) := by
         unfold results
         congr 1
        rw [e4, Sem.run_bind, e2]
        simp
       refine ⟨_, hres, _, n2 + 1, S2, O, rfl, hst1.below, ?_, h1, ?_, h2, fun b hb => h3 b (hgr.1 b hb)⟩
       ·match ys, hrc, ht with
        | [y], hrc, ht =>
         obtain ⟨v, rfl, hv⟩ := hrc.one
         have : r = y := ht.symm
         subst this
         exact hv.le (Nat.le_succ n2)
        | [], hrc, ht =>
         have : r = .tup [] := ht.symm
         subst this
         have hl := hrc.length
         have hvs : vs = [] := zli hl
         subst hvs
         exact ⟨#[], rfl, hrc⟩
        | y1 :: y2 :: ys, hrc, ht =>
         have : r = .tup (y1 :: y2 :: ys) := ht.symm
         subst this
         have hl := hrc.length
         simp only [List.length_cons] at hl
         rw [dif_neg (by simp; omega)]
         exact ⟨vs.toArray, rfl, hrc⟩
       ·intro b hb
        rcases h4 b hb with h | ⟨t, ht⟩
        ·exact ⟨hgr.2 b h, hst1.sLt b h⟩
        ·have := hst1.lt t b ht
         exact ⟨.inr this.1, this.2⟩
     refine htri none (fun _ => rfl) _ _ _ _ _ _ _ _ hag fun a' w' ⟨Ds, n1, S1, Os1, hnd, hD, hd, _, hn1, hgr, hst1⟩ => ?_
     have out : (ydu cx fn.results.toList env').map tupR = some r → LeavesInM (Fi none) 0 P fn a'.tmps (fun e w' => ∃ v' n' S' O, e = .returned v' ∧ Below w.heap.size w w' ∧ Rv P w.heap.size w' S' n' v' r O ∧ (∀ b, O b ≤ 1) ∧
        (∀ b, S' b → (S b ∨ w.heap.size ≤ b) ∧ b < w'.heap.size) ∧ (∀ b, S' b → O b = 0) ∧ (∀ b, S b → S' b)) a'.defers .returning w' := by
      intro ht
      rw [hd]
      refine ydc Ds hnd (fun D h => (hD D h).2.2) fun w2 h1 h2 h3 h4 h5 => ?_
      refine fin a' w2 n1 S1 Os1 hn1 hgr (hst1.other ⟨h1, h2, h3, by omega, fun k hk => h5 k fun hm => by have := (hD k hm).1; omega⟩ (fun _ h => h.elim) fun b o hg hd => h5 b fun hm => by rw [(hD b hm).2.2] at hg; injection hg with hg; subst hg; cases hd) ht
     cases ex with
     | normal => exact out h
     | ret => exact out h
     | exit id => simp [finK] at h
def funA (P : Program) (cx : Cx) (H : Hints) (fn : Func) (xs : List AV) (as : List Ans) : Option (AV × List Prop) :=
 match fn.body with
 | some c => match evA P cx H c (yc8 xs) as with
  | some ((ex, env), _, ps) => match finK cx fn.results.toList ex env with
   | some r => some (r, ps)
   | none => none
  | none => none
 | none => none
def cxA (T : yft) (eqT : TypeId → List Value → List Value → Option Bool) (muts : FuncId → Bool) (n lo : Nat) : Cx :=
 ⟨T, fun _ _ => none, fun f x => match x with | .bad => if muts f = true then some .bad else none | _ => none, eqT, n, lo, false⟩
theorem zqb {T : yft} {eqT : TypeId → List Value → List Value → Option Bool} {muts : FuncId → Bool} {n lo : Nat} : (∀ f xs, (cxA T eqT muts n lo).K f xs = none) ∧ ∀ f x, x ≠ .bad → (cxA T eqT muts n lo).KM f x = none :=
 ⟨fun _ _ => rfl, fun f x hx => by cases x <;> first | rfl | exact absurd rfl hx⟩
theorem zqj {T : yft} {eqT : TypeId → List Value → List Value → Option Bool} {muts : FuncId → Bool} {n : Nat} (hb : CxBase P (cxA T eqT muts n 0)) {f : FuncId} {fn : Func} {xs : List AV} {ans : List Ans} {ps : List Prop} (hf : P.funcs[f]? = some fn) (hname : (fn.name == "runtime.NumGoroutine") = false)
  (hlen : xs.length ≤ n) (hN : fn.ntmps = n) (h : funA P (cxA T eqT muts n 0) H fn xs ans = some (r, ps)) (hp : ∀ q ∈ ps, q) : PureC P f xs r := by
 unfold funA at h
 split at h
 ·rename_i c hc
  split at h
  ·rename_i ex env as2 ps2 he
   split at h
   ·rename_i r2 hr
    injection h with h; injection h with h1 h2; subst h1 h2
    exact ycc (hb.ok zqb.1 zqb.2) hf hname hlen rfl hc hN (zqe hb zqb.1 zqb.2 c he hp) hr
   ·cases h
  ·cases h
 ·cases h
end
end Go.Lf
end

section
namespace Go.Lf
open Go Go.RowKit Go.ChangeShapes Go.WideShapes Go.Deep
def aggT (P : Program) (t : TypeId) : Bool := match P.underlying t with
 | some d => yir d
 | none => false
def elOf (P : Program) (e : TypeId) (cs : List AV) : AV := if aggT P e = true then .agg cs else cs.headD .bad
def Sup (P : Program) : Nat → TypeId → Bool
 | 0, _ => false
 | m + 1, t => match P.underlying t with
  | some .bool | some (.int _) | some .string => P.cellsOf t == 1
  | some (.slice e) => P.cellsOf t == 1 && decide (0 < P.cellsOf e) && (aggT P e || P.cellsOf e == 1) && Sup P m e
  | some (.array n e) => P.cellsOf t == n * P.cellsOf e && Sup P m e
  | some (.struct fs) => P.runs 0 fs.toList == some (P.cellsOf t) && fs.toList.all fun f => Sup P m f.type
  | _ => false
def ya5 (P : Program) : Nat → TypeId → List AV → Prop
 | 0, _, _ => False
 | m + 1, t, ys => match P.underlying t with
  | some .bool => ∃ b, ys = [.atom (.bool b)]
  | some (.int k) => ∃ i, ys = [.atom (.int k i)] ∧ (Lit.int k i).wf = true
  | some .string => ∃ s, ys = [.atom (.string s)] ∧ s.size ≤ maxLen
  | some (.slice e) => ∃ xs, ys = [.sl .any e none xs] ∧ xs.length ≤ maxLen ∧ ∀ x ∈ xs, ∃ cs, x = elOf P e cs ∧ cs.length = P.cellsOf e ∧ ya5 P m e cs
  | some (.array n e) => ∃ yss : List (List AV), ys = yss.flatten ∧ yss.length = n ∧ ∀ cs ∈ yss, ya5 P m e cs
  | some (.struct fs) => ∃ yss : List (List AV), ys = yss.flatten ∧ F2 (fun f cs => ya5 P m f.type cs) fs.toList yss
  | _ => False
section
variable {H : Type} {enc : TypeId × Value → H} {P : Program} {w : World} {base B0 : Nat} {spare : Nat → Bool} {held : Bool} {S : Nat → Prop}
theorem Rc.flatten {R : Value → AV → Own → Prop} : ∀ {css : List (List Value)} {yss : List (List AV)}, F2 (fun cs ys => Rc R cs ys (fun _ => 0)) css yss → Rc R css.flatten yss.flatten (fun _ => 0)
 | [], [], _ => .nil fun _ => rfl
 | _ :: _, _ :: _, .cons h t => h.app (Rc.flatten t) fun _ => rfl
theorem F2.ofFn {α β γ : Type} {R : β → γ → Prop} (f : α → β) : ∀ (l : List α), (∀ x ∈ l, ∃ y, R (f x) y) → ∃ ys, F2 R (l.map f) ys
 | [], _ => ⟨[], .nil⟩
 | x :: l, h => by
  obtain ⟨y, hy⟩ := h x (by simp)
  obtain ⟨ys, hys⟩ := F2.ofFn f l fun z hz => h z (by simp [hz])
  exact ⟨y :: ys, .cons hy hys⟩
theorem F2.len {α β : Type} {R : α → β → Prop} : ∀ {l : List α} {m : List β}, F2 R l m → l.length = m.length
 | [], [], _ => rfl
 | _ :: _, _ :: _, .cons _ t => by simp [F2.len t]
theorem F2.imp {α β : Type} {R R' : α → β → Prop} (h : ∀ a b, R a b → R' a b) : ∀ {l : List α} {m : List β}, F2 R l m → F2 R' l m
 | [], [], _ => .nil
 | _ :: _, _ :: _, .cons hr t => .cons (h _ _ hr) (F2.imp h t)
theorem F2.unmap {α β γ : Type} {R : β → γ → Prop} {f : α → β} : ∀ {l : List α} {m : List γ}, F2 R (l.map f) m → F2 (fun a c => R (f a) c) l m
 | [], [], _ => .nil
 | _ :: _, _ :: _, .cons hr t => .cons hr (F2.unmap t)
theorem F2.mem_right {α β : Type} {R : α → β → Prop} : ∀ {l : List α} {m : List β}, F2 R l m → ∀ b ∈ m, ∃ a ∈ l, R a b
 | [], [], _, b, hb => by simp at hb
 | a :: _, _ :: _, .cons hr t, b, hb => by
  rcases List.mem_cons.1 hb with rfl | hb
  ·exact ⟨a, by simp, hr⟩
  ·obtain ⟨a', ha, h⟩ := F2.mem_right t b hb
   exact ⟨a', by simp [ha], h⟩
theorem yio {a : Addr} {n : Nat} {cs : List Value} (h : w.cells? base a n = some cs) (hn : 0 < n) : a.spot = none ∧ ∃ C T fr, w.heap[a.block]? = some (.cells C T fr) ∧ a.off + n ≤ C.size ∧ cs = (C.toList.drop a.off).take n := by
 obtain ⟨_, hl, hc⟩ := World.cells?_some h
 have hs : ∀ i, (a.add i).spot.isSome = true → a.spot.isSome = true ∨ True := fun _ _ => .inr trivial
 have key : ∀ i, i < n → ∃ v, w.cell? (a.add i) = some v := fun i hi => ⟨cs[i]'(by omega), by rw [hc i hi]; exact zle (by omega)⟩
 obtain ⟨v0, h0⟩ := key 0 hn
 have hsp : a.spot = none := by
  cases hq : a.spot with
  | none => rfl
  | some q =>
   exfalso
   unfold World.cell? at h0
   split at h0
   ·rw [if_pos (by simp [Addr.add, hq])] at h0
    cases h0
   ·cases h0
 have hadd : ∀ i, a.add i = ⟨a.block, a.off + i, none⟩ := fun i => by
  obtain ⟨b, o, s⟩ := a
  simp only at hsp
  subst hsp
  exact zrh b o i
 refine ⟨hsp, ?_⟩
 rw [hadd] at h0
 cases hb : w.heap[a.block]? with
 | none => simp [World.cell?, hb] at h0
 | some ob =>
  cases ob with
  | cells C T fr =>
   have cell : ∀ i, w.cell? (a.add i) = C[a.off + i]? := fun i => by rw [hadd]; simp [World.cell?, hb]
   refine ⟨C, T, fr, rfl, ?_, ?_⟩
   ·obtain ⟨v, hv⟩ := key (n - 1) (by omega)
    rw [cell] at hv
    have := (zlj.1 hv).1
    omega
   ·apply List.ext_getElem?
    intro i
    rw [List.getElem?_take]
    split
    ·rename_i hi
     rw [← hc i hi, cell, List.getElem?_drop]
     simp
    ·rename_i hi
     exact List.getElem?_eq_none (by omega)
  | _ => simp [World.cell?, hb] at h0
theorem ylq {e : TypeId} {cs : List AV} (h : aggT P e = true ∨ cs.length = 1) (h1 : aggT P e = false → ∀ c ∈ cs, c.ecells = [c]) : (elOf P e cs).ecells = cs := by
 unfold elOf
 cases ha : aggT P e with
 | true => rfl
 | false =>
  rcases h with h | h
  ·rw [ha] at h; cases h
  ·obtain ⟨c, rfl⟩ := List.length_eq_one_iff.1 h
   simpa using h1 ha c (by simp)
theorem ymi : ∀ {m : Nat} {t : TypeId} {ys : List AV}, aggT P t = false → ya5 P m t ys → ∀ c ∈ ys, c.ecells = [c] := by
 intro m t ys ha h c hc
 cases m with
 | zero => exact h.elim
 | succ m =>
  unfold ya5 at h
  unfold aggT at ha
  split at h
  ·obtain ⟨b, rfl⟩ := h; simp at hc; subst hc; rfl
  ·obtain ⟨i, rfl, _⟩ := h; simp at hc; subst hc; rfl
  ·obtain ⟨s, rfl, _⟩ := h; simp at hc; subst hc; rfl
  ·obtain ⟨xs, rfl, _⟩ := h; simp at hc; subst hc; rfl
  ·rename_i hu; rw [hu] at ha; simp [yir] at ha
  ·rename_i hu; rw [hu] at ha; simp [yir] at ha
  ·exact h.elim
theorem yl7 (hS : ∀ b, b < w.heap.size → S b) : ∀ (m : Nat) (t : TypeId) (cs : List Value) (fuel : Nat) (x : DataW H × List MemPlace), Sup P m t = true → DataW.trod enc P w base spare held fuel t cs = some x →
  ∃ ys, ya5 P m t ys ∧ Rc (Rv P B0 w S m) cs ys (fun _ => 0) ∧ cs.length = P.cellsOf t := by
 intro m
 induction m with
 | zero => intro t cs fuel x hs; cases hs
 | succ m ih =>
  intro t cs fuel x hs h
  unfold Sup at hs
  unfold ya5
  have one : ∀ {v : Value}, Rc (Rv P B0 w S (m + 1)) [v] [.atom v] (fun _ => 0) := fun {v} => .cons ⟨rfl, fun _ => rfl⟩ (.nil (O := fun _ => 0) fun _ => rfl) fun _ => rfl
  split at hs
  ·rename_i hu
   obtain ⟨b, rfl, _⟩ := DataW.trod_bool hu h
   exact ⟨_, ⟨b, rfl⟩, one, by simp at hs; simp [hs]⟩
  ·rename_i k hu
   obtain ⟨i, rfl, _, hw⟩ := DataW.trod_int hu h
   exact ⟨_, ⟨i, rfl, hw⟩, one, by simp at hs; simp [hs]⟩
  ·rename_i hu
   obtain ⟨s, rfl, _, hw⟩ := DataW.trod_string hu h
   exact ⟨_, ⟨s, rfl, hw⟩, one, by simp at hs; simp [hs]⟩
  ·rename_i e hu
   simp only [zlo, decide_eq_true_eq, Bool.or_eq_true, beq_iff_eq] at hs
   obtain ⟨⟨⟨ht1, hpos⟩, hag⟩, hse⟩ := hs
   obtain ⟨m, rfl⟩ : ∃ q, m = q + 1 := by cases m with | zero => cases hse | succ q => exact ⟨q, rfl⟩
   rcases open_slice hu h with ⟨rfl, _⟩ | ⟨a, len, cap, m', n, D, Pl, rfl, hb, hle, hcm, hmm, _, hi⟩
   ·refine ⟨_, ⟨[], rfl, Nat.zero_le _, by simp⟩, .cons ?_ (.nil (O := fun _ => 0) fun _ => rfl) fun _ => rfl, by simp [ht1]⟩
    exact ⟨none, 0, rfl, zly _, Nat.zero_le _, trivial, fun x hx => by simp at hx, fun _ => rfl, fun h => absurd rfl h⟩
   ·have hlm : len ≤ m' := by rw [hmm]; split <;> omega
    by_cases hl0 : len = 0
    ·subst hl0
     refine ⟨_, ⟨[], rfl, Nat.zero_le _, by simp⟩, .cons ?_ (.nil (O := fun _ => 0) fun _ => rfl) fun _ => rfl, by simp [ht1]⟩
     exact ⟨some a, cap, rfl, by simp, hcm, trivial, fun x hx => by simp at hx, fun _ => rfl, fun h => absurd rfl h⟩
    ·obtain ⟨cs0, hc0, _⟩ := hi 0 (by omega)
     obtain ⟨hsp, C, T, fr, hg, _, _⟩ := yio hc0 hpos
     have ha : a = ⟨a.block, a.off, none⟩ := by
      obtain ⟨b, o, s⟩ := a
      have : s = none := by simpa [Addr.add] using hsp
      subst this; rfl
     have hg' : w.heap[a.block]? = some (.cells C T fr) := by rw [ha] at hg; simpa [zrh] using hg
     have each : ∀ i, i < len → a.off + i * P.cellsOf e + P.cellsOf e ≤ C.size ∧ ∃ ys, ya5 P (m + 1) e ys ∧ Rc (Rv P B0 w S (m + 1)) ((C.toList.drop (a.off + i * P.cellsOf e)).take (P.cellsOf e)) ys (fun _ => 0) ∧ ys.length = P.cellsOf e := by
      intro i hil
      obtain ⟨cs', hc', ht'⟩ := hi i (by omega)
      obtain ⟨_, C', T', fr', hg2, hfit, hcs⟩ := yio hc' hpos
      rw [ha, zrh] at hg2 hfit hcs
      simp only at hg2 hfit hcs
      rw [hg'] at hg2
      injection hg2 with hg2; injection hg2 with e1 e2 e3
      subst e1
      obtain ⟨ys, h1, h2, h3⟩ := ih e cs' n _ hse ht'
      rw [hcs] at h2
      exact ⟨hfit, ys, h1, h2, by rw [← h2.length, ← hcs, h3]⟩
     obtain ⟨yss, hys⟩ := F2.ofFn (R := fun cs ys => ya5 P (m + 1) e ys ∧ Rc (Rv P B0 w S (m + 1)) cs ys (fun _ => 0) ∧ ys.length = P.cellsOf e) (fun i => (C.toList.drop (a.off + i * P.cellsOf e)).take (P.cellsOf e)) (List.range len) fun i hi' => (each i (by simpa using hi')).2
     have hyl : yss.length = len := by have := hys.len; simpa using this.symm
     have hel : ∀ ys ∈ yss, (elOf P e ys).ecells = ys ∧ ya5 P (m + 1) e ys ∧ ys.length = P.cellsOf e := by
      intro ys hm
      obtain ⟨_, _, h1, _, h3⟩ := hys.mem_right ys hm
      exact ⟨ylq (hag.imp id fun h => by omega) (fun hf => ymi hf h1), h1, h3⟩
     have hfl : flat (yss.map (elOf P e)) = yss.flatten := by
      clear hys hyl
      induction yss with
      | nil => rfl
      | cons y yss ih2 =>
       have e1 := (hel y (by simp)).1
       simp only [List.map_cons, List.flatten_cons]
       rw [← ih2 fun z hz => hel z (by simp [hz])]
       simp only [flat, List.flatMap_cons, e1]
     have hfit : a.off + len * P.cellsOf e ≤ C.size := by
      have := (each (len - 1) (by omega)).1
      have e2 : (len - 1) * P.cellsOf e + P.cellsOf e = len * P.cellsOf e := by
       rw [← Nat.succ_mul]; congr 1; omega
      omega
     have huni : Uni (P.cellsOf e) (yss.map (elOf P e)) := by
      intro x hx
      obtain ⟨ys, hy, rfl⟩ := List.mem_map.1 hx
      rw [(hel ys hy).1]; exact (hel ys hy).2.2
     have hflen : (flat (yss.map (elOf P e))).length = len * P.cellsOf e := by rw [zqn huni, zla, hyl]
     have hchunks : ((List.range len).map fun i => (C.toList.drop (a.off + i * P.cellsOf e)).take (P.cellsOf e)).flatten = (C.toList.drop a.off).take (len * P.cellsOf e) := by
      rw [← chunks_flatten (P.cellsOf e) len ((C.toList.drop a.off).take (len * P.cellsOf e)) (by rw [zlh, List.length_drop, zlr]; exact Nat.min_eq_left (by omega))]
      congr 1
      apply List.map_congr_left
      intro i hi'
      have hil : i < len := by simpa using hi'
      have e3 : i * P.cellsOf e + P.cellsOf e ≤ len * P.cellsOf e := by rw [← Nat.succ_mul]; exact Nat.mul_le_mul_right _ hil
      rw [List.drop_take, List.take_take, List.drop_drop, Nat.min_eq_left (by omega)]
     refine ⟨_, ⟨yss.map (elOf P e), rfl, by rw [zla, hyl]; omega, ?_⟩, .cons ?_ (.nil (O := fun _ => 0) fun _ => rfl) fun _ => rfl, by simp [ht1]⟩
     ·intro x hx
      obtain ⟨ys, hy, rfl⟩ := List.mem_map.1 hx
      exact ⟨ys, rfl, (hel ys hy).2.2, (hel ys hy).2.1⟩
     ·refine ⟨some a, cap, by rw [zla, hyl], by rw [zla, hyl]; exact hle, hcm, trivial, huni, fun _ => rfl, fun _ => ⟨a.block, a.off, C, T, fr, by rw [← ha], hS _ (zlj.1 hg').1, (fun h => by cases h), hg', by rw [hflen]; exact hfit, ?_⟩⟩
      rw [hflen, hfl, ← hchunks]
      exact Rc.flatten (hys.imp fun _ _ h => h.2.1)
  ·rename_i n e hu
   simp only [zlo, beq_iff_eq] at hs
   obtain ⟨hc, hse⟩ := hs
   obtain ⟨xs, n', _, _, hl, hlen, hf⟩ := DataW.trod_array hu h
   obtain ⟨yss, hys⟩ := F2.ofFn (R := fun cs ys => ya5 P m e ys ∧ Rc (Rv P B0 w S m) cs ys (fun _ => 0)) (fun i => (cs.drop (i * P.cellsOf e)).take (P.cellsOf e)) (List.range n) fun i hi' => by
    have hin : i < n := by simpa using hi'
    have := hf i hin
    obtain ⟨ys, h1, h2, _⟩ := ih e _ n' _ hse (this.trans (zle (by omega)))
    exact ⟨ys, h1, h2⟩
   have hyl : yss.length = n := by have := hys.len; simpa using this.symm
   refine ⟨yss.flatten, ⟨yss, rfl, hyl, fun ys hm => by obtain ⟨_, _, h1, _⟩ := hys.mem_right ys hm; exact h1⟩, ?_, hl⟩
   have e1 := chunks_flatten (P.cellsOf e) n cs (by rw [hl, hc])
   have e2 := Rc.flatten (hys.imp fun _ _ h => h.2)
   rw [e1] at e2
   exact e2.le (Nat.le_succ m)
  ·rename_i fs hu
   simp only [zlo, beq_iff_eq, zls] at hs
   obtain ⟨hrun, hall⟩ := hs
   obtain ⟨xs, n', _, _, hl, hlen, hf⟩ := DataW.trod_struct hu h
   obtain ⟨yss, hys⟩ := F2.ofFn (R := fun (fc : Field × List Value) ys => ya5 P m fc.1.type ys ∧ Rc (Rv P B0 w S m) fc.2 ys (fun _ => 0)) (fun f => (f, (cs.drop f.offset).take (P.cellsOf f.type))) fs.toList fun f hfm => by
    obtain ⟨i, hi⟩ := List.getElem?_of_mem hfm
    have hi' : fs[i]? = some f := by simpa using hi
    have hil : i < xs.length := by rw [hlen]; exact (zlj.1 hi').1
    obtain ⟨ys, h1, h2, _⟩ := ih f.type _ n' _ (hall f hfm) ((hf i f hi').trans (zle hil))
    exact ⟨ys, h1, h2⟩
   have hys1 := F2.unmap hys
   refine ⟨yss.flatten, ⟨yss, rfl, hys1.imp fun _ _ h => h.1⟩, ?_, hl⟩
   have e1 := fields_flatten (P := P) cs fs.toList 0 _ hrun hl
   have e2 : F2 (fun c ys => Rc (Rv P B0 w S m) c ys (fun _ => 0)) (fs.toList.map fun f => (cs.drop f.offset).take (P.cellsOf f.type)) yss := by
    clear e1 hlen hf hrun hall hys
    generalize fs.toList = l at hys1
    induction hys1 with
    | nil => exact .nil
    | cons h t ih2 => exact .cons h.2 ih2
   have e3 := Rc.flatten e2
   rw [e1, List.drop_zero] at e3
   exact e3.le (Nat.le_succ m)
  ·cases hs
end
end Go.Lf
end

section
namespace Go.Lf
open Go Go.RowKit Go.ChangeShapes Go.WideShapes Go.Deep
section
variable {H : Type} {enc : TypeId × Value → H} {P : Program} {w w' : World}
theorem yh3 {t e : TypeId} {n : Nat} {r : Reach} {base : Nat} {v : Value} (ht : P.underlying t = some (.array n e)) (h : Value.okWide P w r base t v) : ∃ cs, v = .agg cs ∧ cs.size = P.cellsOf t := by
 unfold Value.okWide at h
 rw [ht] at h
 obtain ⟨cs, h1, h2, _⟩ := h
 exact ⟨cs, h1, h2⟩
theorem yq1 {S : Nat → Prop} (hS : ∀ b, b < w.heap.size → S b) {B0 m : Nat} {t : TypeId} {v : Value} {d : DataW H} {p : List MemPlace} {base : Nat} {spare : Nat → Bool} {held : Bool} {r : Reach} {b0 : Nat} (hs : Sup P m t = true)
  (hv : Value.okWide P w r b0 t v) (h : DataW.Trod enc P w base spare held t v d p) : ∃ ys, ya5 P m t ys ∧ ys.length = P.cellsOf t ∧ Rv P B0 w S (m + 1) v (elOf P t ys) (fun _ => 0) := by
 obtain ⟨fuel, hf⟩ := h
 obtain ⟨ys, h1, h2, h3⟩ := yl7 (B0 := B0) hS m t _ fuel _ hs hf
 refine ⟨ys, h1, by rw [← h2.length, h3], ?_⟩
 cases m with
 | zero => cases hs
 | succ m =>
  unfold elOf
  have scalar : aggT P t = false → v.cells.toList = [v] → Rv P B0 w S (m + 1 + 1) v (if aggT P t = true then .agg ys else ys.headD .bad) (fun _ => 0) := by
   intro ha hc
   rw [hc] at h2
   rw [if_neg (by rw [ha]; simp)]
   obtain ⟨y, rfl⟩ : ∃ y, ys = [y] := by
    have := h2.length
    exact List.length_eq_one_iff.1 this.symm
   cases h2 with
   | cons hr ht hO =>
    cases ht with
    | nil hz => exact (hr.cast fun b => by have h1 : (0 : Nat) = _ := hO b; have := hz b; omega).le (Nat.le_succ _)
  unfold Sup at hs
  unfold aggT at scalar ⊢
  split at hs
  ·rename_i hu; obtain ⟨b, rfl⟩ := okWide_bool hu hv; exact scalar (by rw [hu]; rfl) rfl
  ·rename_i hu; obtain ⟨b, rfl⟩ := okWide_int hu hv; exact scalar (by rw [hu]; rfl) rfl
  ·rename_i hu; obtain ⟨b, rfl⟩ := okWide_string hu hv; exact scalar (by rw [hu]; rfl) rfl
  ·rename_i hu; obtain ⟨a, l, c, rfl⟩ := okWide_slice hu hv; exact scalar (by rw [hu]; rfl) rfl
  ·rename_i hu
   obtain ⟨cs, rfl, _⟩ := yh3 hu hv
   rw [hu]
   exact ⟨cs, rfl, h2⟩
  ·rename_i hu
   obtain ⟨cs, rfl, _⟩ := okWide_struct hu hv
   rw [hu]
   exact ⟨cs, rfl, h2⟩
  ·cases hs
theorem args_trees {S : Nat → Prop} (hS : ∀ b, b < w.heap.size → S b) {B0 m : Nat} {base : Nat} {spare : Nat → Bool} {held : Bool} {r : Reach} {b0 : Nat} : ∀ (ts : List TypeId) (vs : List Value) (ds : List (DataW H)) (p : List MemPlace),
  (ts.all fun t => Sup P m t) = true → (∀ (j : Nat) t v, ts[j]? = some t → vs[j]? = some v → Value.okWide P w r b0 t v) → DataW.TrodAll enc P w base spare held ts vs ds p →
  ∃ xs, F2 (fun t x => ∃ ys, x = elOf P t ys ∧ ya5 P m t ys ∧ ys.length = P.cellsOf t) ts xs ∧ Rc (Rv P B0 w S (m + 1)) vs xs (fun _ => 0)
 | [], [], [], _, _, _, _ => ⟨[], .nil, .nil fun _ => rfl⟩
 | t :: ts, v :: vs, d :: ds, p, hs, hv, h => by
  obtain ⟨p1, q1, h1, h2, _⟩ := h
  simp only [List.all_cons, zlo] at hs
  obtain ⟨ys, g1, g2, g3⟩ := yq1 (B0 := B0) hS hs.1 (hv 0 t v rfl rfl) h1
  obtain ⟨xs, g4, g5⟩ := args_trees hS ts vs ds q1 hs.2 (fun j t v a b => hv (j + 1) t v (by simpa using a) (by simpa using b)) h2
  exact ⟨elOf P t ys :: xs, .cons ⟨ys, rfl, g1, g2⟩ g4, .cons g3 g5 fun _ => rfl⟩
 | [], _ :: _, _, _, _, _, h => h.elim
 | [], [], _ :: _, _, _, _, h => h.elim
 | _ :: _, [], _, _, _, _, h => h.elim
 | _ :: _, _ :: _, [], _, _, _, h => h.elim
theorem args_stay (hl : laidOutB P = true) {W W' : World} (hb : Below W.heap.size W W') : ∀ (ts : List TypeId) (vs : List Value) (ds : List (DataW H)) (p : List MemPlace),
  (ts.all fun t => P.readableRec t && decide (t < P.types.size)) = true → DataW.TrodAll enc P W 0 (fun _ => true) true ts vs ds p → (∀ x ∈ p, x.block < W.heap.size) →
  DataW.TrodAll enc P W' 0 (fun b => decide (b < W.heap.size)) true ts vs ds p
 | [], [], [], _, _, h, _ => h
 | t :: ts, v :: vs, d :: ds, p, hr, h, hlt => by
  obtain ⟨p1, q1, h1, h2, rfl⟩ := h
  simp only [List.all_cons, zlo, decide_eq_true_eq] at hr
  exact ⟨p1, q1, Below.trod hl hr.1.1 hr.1.2 h1 hb (fun x hx => hlt x (by simp [hx])), args_stay hl hb ts vs ds q1 hr.2 h2 (fun x hx => hlt x (by simp [hx])), rfl⟩
 | [], _ :: _, _, _, _, h, _ => h.elim
 | [], [], _ :: _, _, _, h, _ => h.elim
 | _ :: _, [], _, _, _, h, _ => h.elim
 | _ :: _, _ :: _, [], _, _, h, _ => h.elim
theorem law_call {P : Program} {F : FuncId} {args : Array Value} {xs : List AV} {W : World} {n : Nat} (h : PureC P F xs (.atom (.bool true))) (hrc : Rc (Rv P W.heap.size W (fun b => b < W.heap.size) n) args.toList xs (fun _ => 0)) :
  Calls P F args W fun e W' => e = .returned (.bool true) ∧ Below W.heap.size W W' := by
 have := h.2 W (fun b => b < W.heap.size) args.toList n (fun _ h => h) hrc
 rw [Array.toArray_toList] at this
 refine this.mono ?_
 rintro e W' ⟨v, n', S', O, rfl, hB, hrv, _⟩
 obtain ⟨q, rfl⟩ := hrv.pos
 obtain ⟨rfl, _⟩ := hrv
 exact ⟨rfl, hB⟩
end
end Go.Lf
end
