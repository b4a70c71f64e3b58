/- Part 8 of the evaluator and of the contracts that the claim uses. -/
import Derived.Test.YtpjlfgacjbkbbaaLoopsAddLAA
import Derived.Test.YtpjlfgacjbkbbaaLoopsAddLAB
import Derived.Test.YtpjlfgacjbkbbaaLoopsAddLAC
import Derived.Test.YtpjlfgacjbkbbaaLoopsAddLAD
import Derived.Test.YtpjlfgacjbkbbaaLoopsAddLAE
import Derived.Test.YtpjlfgacjbkbbaaLoopsAddLAF
import Derived.Test.YtpjlfgacjbkbbaaLoopsAddLAG
set_option linter.unusedVariables false
set_option linter.unusedSimpArgs false
set_option linter.constructorNameAsVariable false
set_option linter.unusedSectionVars false
open Go.IntKind (i64 u8)

section
namespace Go.Lf
open Go Go.RowKit
section
variable {P : Program} {cx : Cx}
theorem OpsR.callX {ops : Array Oper} {env : Env} {y : Oper} {f : FuncId} {x : Operand} {rest : List Operand} {us : List Value} {ats : Array TypeId} {l1 : List Nat} {r d : Nat} {e : TypeId} {cap : Option Nat} {xs ys : List AV} {rng : Option (Nat × Nat × Option Nat)} {rr : AV} (cl : Bool) (ks : List (Nat × Wk)) (hg : y.guard = none) (ho : y.op = .call { callee := .value (.func f), args := (x :: rest).toArray, argTypes := ats })
  (hx : (valP x fun a s => ownP a s fun r e cap xs => .ret (r, e, cap, xs)).run env = some (l1, (r, e, cap, xs))) (hus : yhm env rest us) (hm : MutR P f e cap xs us ys rng) (hd : y.dst = some d) (hdN : cx.lo ≤ d ∧ d < cx.N) (hrd : r ≠ d) (hl2 : lk (keepE ks env) r = some (.sl .own e cap xs))
  (hnl : ∀ t y', lk (keepE ks env) t = some y' → zqf y' ≠ some r ∧ zqf y' ≠ some d)
  (mk : ∀ (B0 : Nat) (w : World) (S : Nat → Prop) (n : Nat) (v v2 : Value) (O : Own), Rv P B0 w S n v (.sl .own e cap ys) O → subOk P e rng v v2 → Rv P B0 w (fun b => S b ∨ (cl = true ∧ 0 < O b)) n v2 rr (fun b => if cl then 0 else O b)) :
  OpsR P cx ops [y] env (· = (d, rr) :: (r, .bad) :: keepE ks env) := by
 refine .one hg fun ρ F B0 w0 S0 ds a w Q K hag hK => ?_
 have hev : ∀ (rs : List Operand) (vs : List Value), yhm env rs vs → rs.map a.eval = vs := by
  obtain ⟨_, _, n, S, Os, hn, _, hst⟩ := hag
  intro rs
  induction rs with
  | nil => intro vs h; cases vs with | nil => rfl | cons _ _ => exact h.elim
  | cons q rs ih =>
   intro vs h
   cases vs with
   | nil => exact h.elim
   | cons u vs =>
    obtain ⟨⟨s, hq⟩, h⟩ := h
    obtain ⟨O, hs, _⟩ := hq.ev hst hn
    have hr := hs.rv rfl
    obtain ⟨m, rfl⟩ := hr.pos
    rw [List.map_cons, ih vs h, hr.1]
 have htm : a.tmps[r]? = some (a.eval x) := by
  obtain ⟨_, _, n, S, Os, hn, _, hst⟩ := hag
  obtain ⟨yv, s, l2, hv, h1⟩ := zqm hx
  obtain ⟨t, e', cap', xs', l3, h2, hl, htm, _⟩ := ygy hst hn hv h1
  simp only [RP.run, Option.some.injEq, Prod.mk.injEq] at h2
  obtain ⟨_, rfl, _⟩ := h2
  exact htm
 obtain ⟨hd', hN, n, S, Os, hn, hgr, hst⟩ := hag.keep (ks := ks)
 obtain ⟨vr, hvr, hs⟩ := hst.rel r _ hl2
 rw [htm] at hvr
 injection hvr with hvr; subst hvr
 have hr := hs.rv rfl
 obtain ⟨henter, hcall⟩ := hm
 have hlt : ∀ t b, 0 < Os t b → b < w.heap.size := fun t b hb => (St.lt (a := a) hst t b hb).2
 have hC := hcall B0 w S _ n (Os r) hst.b0 (fun b hb => ⟨hst.sLt b hb, hst.excl b r hb⟩) (hst.one r) hr
 have hwp : y.wp P a w K Q := by
  unfold Oper.wp
  have hrun : (execOp a.eval y).run P w = .ok (.enter f (a.eval x :: us).toArray) w := by
   rw [execOp, ho]
   have := henter (a.eval x :: us).toArray w
   rw [← hev rest us hus] at this ⊢
   simp [resolve, invoke, Deferred.ofValue, Act.eval] at this ⊢
   exact this
  rw [hrun, Oper.upon_enter]
  refine hC.mono ?_
  rintro ee w' ⟨v2, n', O', rfl, hsub, hB, hun, hrv, hO1, hO2⟩
  have hown := Rv.owned n' _ _ O' hrv
  have hres := mk B0 w' S n' _ _ O' hrv hsub
  have hdl : d < a.tmps.size := by rw [hN.1]; exact hdN.2
  have hrl : r < a.tmps.size := (zlj.1 htm).1
  have hSO' : ∀ b t, t ≠ r → 0 < O' b → Os t b = 0 := fun b t ht hb => by
   rcases zlt (Os t b) with h | h
   ·exact h
   ·rcases hO2 b hb with h2 | h2
    ·rcases hst.dis t r b ht with h3 | h3 <;> omega
    ·have := hlt t b h; omega
  have hSz : ∀ b, S b → O' b = 0 := fun b hb => by
   rcases zlt (O' b) with h | h
   ·exact h
   ·have := hst.excl b r hb; have := hst.sLt b hb
    rcases hO2 b h with h2 | h2 <;> omega
  have k1 := hst.set (Nat.le_max_left n n') r (v := a.eval x) (x := .bad) (O := fun _ => 0) (S' := fun b => S b ∨ (cl = true ∧ 0 < O' b)) (w' := w') ⟨hrl, .inr htm⟩ hB (fun b hb => .inl hb)
   (fun b hb => by
    rcases hb with hb | ⟨_, hb⟩
    ·have := hst.sLt b hb; have := hB.size; omega
    ·exact (hown b hb).2)
   (fun b t ht hb => by
    rcases hb with hb | ⟨_, hb⟩
    ·exact hst.excl b t hb
    ·exact hSO' b t ht hb)
   (fun _ _ => rfl)
   (fun b hb => by
    rcases hb with hb | ⟨t, ht, hb⟩
    ·exact hun b (hst.sLt b hb) (hst.excl b r hb)
    ·refine hun b (hlt t b hb) ?_
     rcases hst.dis t r b ht with h | h
     ·omega
     ·exact h)
   (fun _ => Nat.zero_le _) (fun b t _ hb => absurd hb (by simp)) (.inr (by
    obtain ⟨m, hm⟩ : ∃ m, max n n' = m + 1 := ⟨max n n' - 1, by omega⟩
    rw [hm]; exact fun _ => rfl))
   (fun t y' u _ hy hyr _ _ => absurd hyr (hnl t y' hy).1)
  rw [ya0 a.tmps r _ htm] at k1
  have k2 := k1.set (zly _) d (v := v2) (x := rr) (O := fun b => if cl then 0 else O' b) (S' := fun b => S b ∨ (cl = true ∧ 0 < O' b)) (w' := w') ⟨hdl, .inl (by rw [hN.2]; exact hdN.1)⟩ (Below.refl _ _) (fun b hb => hb)
   k1.sLt (fun b t _ hb => k1.excl b t hb)
   (fun b hb => by
    rcases hb with hb | ⟨hc, hb⟩
    ·have := hSz b hb; cases cl <;> simp [this]
    ·simp [hc])
   (fun _ _ => rfl)
   (fun b => by cases cl <;> simp [hO1 b])
   (fun b t htd hb => by
    by_cases ht : t = r
    ·simp [ht]
    ·rw [if_neg ht]
     refine hSO' b t ht ?_
     cases cl with
     | true => simp at hb
     | false => simpa using hb)
   (.inr (hres.le (Nat.le_max_right n n')))
   (fun t y' u _ hy hyr _ _ => by
    exfalso
    simp only [lk] at hy
    split at hy
    ·injection hy with hy; subst hy; cases hyr
    ·exact (hnl t y' hy).2 hyr)
  rw [hd]
  refine hK _ rfl _ _ ⟨hd', by simpa [Act.put] using hN, max n n', _, _, by omega, ⟨fun b hb => .inl (hgr.1 b hb), fun b hb => ?_⟩, k2⟩
  rcases hb with hb | ⟨_, hb⟩
  ·exact hgr.2 b hb
  ·exact .inr (hown b hb).1
 exact opIn (by intro c hc; rw [ho] at hc; cases hc) hwp
end
end Go.Lf
end

section
open Go Go.Lf Go.Proofs
namespace Tst
theorem yk8 (a b : Value) (m : Nat) : (Builtin.zeroCells #[a, b] m).toList = (List.replicate m [a, b]).flatten := by
 unfold Builtin.zeroCells
 rw [Array.toList_map, Array.toList_range]
 show List.map (fun i => #[a, b][i % 2]!) (List.range (m * 2)) = _
 induction m with
 | zero => rfl
 | succ m ih =>
  rw [show (m + 1) * 2 = m * 2 + 1 + 1 by omega, List.range_succ, List.range_succ, zlq, zlq, ih]
  have : ∀ m, (List.replicate (m + 1) [a, b]).flatten = (List.replicate m [a, b]).flatten ++ [a, b] := by
   intro m
   rw [List.replicate_succ', List.flatten_append]; rfl
  rw [this, zlp]
  congr 1
  simp [Nat.add_mod, Nat.mul_mod]
theorem ydk (l : List Idd) : ∀ y ∈ flat (l.map Idd.enc), ∃ v, y = .atom v := by
 intro y hy
 obtain ⟨z, hz, hyz⟩ := List.mem_flatMap.1 hy
 obtain ⟨p, _, rfl⟩ := List.mem_map.1 hz
 simp [AV.ecells, Idd.enc] at hyz
 rcases hyz with rfl | rfl <;> exact ⟨_, rfl⟩
theorem yvh (w : World) : (zeroValue 36).run Try.prog w = .ok (.agg #[.int .u8 0, .int .i64 0]) w := Try.zeroValue36 w
end Tst
end

section
open Go Go.Lf Go.RowKit Go.Proofs
namespace Tst
theorem yhg : Try.prog.cellsOf 36 = 2 := by kernel_rfl
def clrI (l : List Idd) (lo : Nat) : List Idd := l.take lo ++ List.replicate (l.length - lo) ⟨0, 0⟩
theorem yhe (l : List Idd) (lo : Nat) (h : lo ≤ l.length) : (clrI l lo).length = l.length := by simp [clrI]; omega
theorem ysj (l : List Idd) : Uni 2 (l.map Idd.enc) := by
 intro x hx
 obtain ⟨p, _, rfl⟩ := List.mem_map.1 hx
 rfl
def idVs (l : List Idd) : List Value := (l.map fun p => [Value.int .u8 p.y, Value.int .i64 p.n]).flatten
theorem ybt (l : List Idd) : (idVs l).length = l.length * 2 := by
 induction l with
 | nil => rfl
 | cons p l ih => show ([_, _] ++ idVs l).length = _; rw [zlg, ih]; simp; omega
theorem yfc (l : List Idd) : flat (l.map Idd.enc) = (idVs l).map AV.atom := by
 induction l with
 | nil => rfl
 | cons p l ih => show [ub p.y, it p.n] ++ flat (l.map Idd.enc) = _; rw [ih]; rfl
theorem yke (a b : List Idd) : idVs (a ++ b) = idVs a ++ idVs b := by simp [idVs]
theorem ynt (l : List Idd) (k : Nat) (h : k ≤ l.length) : (idVs l).take (k * 2) = idVs (l.take k) := by
 have e : idVs l = idVs (l.take k) ++ idVs (l.drop k) := by rw [← yke, List.take_append_drop]
 rw [e, List.take_append_of_le_length (by rw [ybt, zlh]; omega), zlm (by rw [ybt, zlh]; omega)]
theorem ymp {B0 : Nat} {w : World} {S : Nat → Prop} {n : Nat} : ∀ (vs : List Value), Rc (Rv Try.prog B0 w S (n + 1)) vs (vs.map AV.atom) (fun _ => 0)
 | [] => .nil fun _ => rfl
 | v :: vs => .cons (O1 := fun _ => 0) (O2 := fun _ => 0) ⟨rfl, fun _ => rfl⟩ (ymp vs) fun _ => rfl
theorem yoq {B0 : Nat} {w : World} {S : Nat → Prop} {n : Nat} {v v2 : Value} {cap : Option Nat} {l : List Idd} {Oy : Own} {lo : Nat} (hv : Rv Try.prog B0 w S n v (iow cap l) Oy) (h1 : ∀ b, Oy b ≤ 1) (hlo : lo ≤ l.length) (hs : subOk Try.prog 36 (some (lo, l.length - lo, none)) v v2) (ty : TypeId) :
  ∃ w', (Builtin.clear_ #[26] ty #[v2]).run Try.prog w = .ok (.tuple #[]) w' ∧ Below B0 w w' ∧ (∀ b, b < w.heap.size → Oy b = 0 → w'.heap[b]? = w.heap[b]?) ∧ ∃ m, Rv Try.prog B0 w' S m v (iow cap (clrI l lo)) Oy := by
 obtain ⟨n, rfl⟩ := hv.pos
 obtain ⟨vs, O2, ho, hcap, hu, hrc, hOO⟩ := hv
 obtain ⟨A, ll, kk, A', c, rfl, rfl, q1, q2, q3, q4, q5, q6⟩ := hs
 have hc : lo + c = kk := by simpa using q4
 rw [yhg] at ho q5
 rw [yfc] at hrc
 have hvs : vs = idVs l := hrc.of_atoms
 subst hvs
 have hz : Zero O2 := hrc.zero fun _ x _ hx hr => by
  obtain ⟨q, _, rfl⟩ := List.mem_map.1 hx
  obtain ⟨m, rfl⟩ := hr.pos
  exact hr.2
 have hll : ll = l.length := by
  rcases ho.2 with ⟨hv, hn0⟩ | ⟨g, k3, cur, hv, _⟩
  ·injection hv with _ hv2 _; rw [hv2]; simpa using hn0.symm
  ·injection hv with _ hv2 _; simpa using hv2
 subst hll
 by_cases hm : l.length - lo = 0
 ·refine ⟨w, ?_, Below.refl _ _, fun _ _ _ => rfl, n + 1, ?_⟩
  ·rw [hm]
   cases A' <;> simp [Builtin.clear_, run_underlying Try.underlying26, Result.andThen]
  ·have e : clrI l lo = l := by unfold clrI; rw [hm, List.replicate_zero, List.append_nil, zlm (by omega)]
   rw [e]
   exact ⟨idVs l, O2, by rw [yhg]; exact ho, hcap, hu, by rw [yfc]; exact hrc, hOO⟩
 ·rcases ho.2 with ⟨hv, hn0⟩ | ⟨g, k3, cur, hv, hb, hg, p1, p2, p3, p4⟩
  ·rw [zla] at hn0; omega
  injection hv with hv1 hv2 hv3
  subst hv1 hv3
  have hA := q5 hm
  subst hA
  rw [zla] at p1 p4
  have hadd' : ∀ o i : Nat, (⟨g, o, none⟩ : Addr).add i = ⟨g, o + i, none⟩ := fun o i => zrh g o i
  have hadd := hadd' 0 (lo * 2)
  rw [Nat.zero_add] at hadd
  have hnews : (Builtin.zeroCells #[.int .u8 0, .int .i64 0] (l.length - lo)).toList = idVs (List.replicate (l.length - lo) ⟨0, 0⟩) := by
   rw [yk8]; unfold idVs; rw [List.map_replicate]
  have hst := run_storeCells_at Try.prog g (lo * 2) 36 (idVs (List.replicate (l.length - lo) ⟨0, 0⟩)) 0 cur w hg (by rw [ybt, zlw, p3]; omega) (by
   intro x hx
   unfold idVs at hx
   rw [List.map_replicate] at hx
   obtain ⟨y, hy, hxy⟩ := List.mem_flatten.1 hx
   rw [(List.mem_replicate.1 hy).2] at hxy
   simp at hxy
   rcases hxy with rfl | rfl <;> rfl)
  simp only [Nat.add_zero, ybt, zlw] at hst
  have hne : ∀ (row : Array Value) b, b ≠ g → (w.setRow g row).heap[b]? = w.heap[b]? := fun row b hb => setRow_other w g b _ hb
  have hOg : 0 < Oy g := by
   have := hOO g
   have e : ind (Value.slice (some ⟨g, 0, none⟩) l.length kk).ownBlock g = 1 := by unfold ind Value.ownBlock; simp
   omega
  refine ⟨w.setRow g (cur.toList.take (lo * 2) ++ idVs (List.replicate (l.length - lo) ⟨0, 0⟩) ++ cur.toList.drop (lo * 2 + (l.length - lo) * 2)).toArray, ?_, ⟨rfl, rfl, rfl, by simp, fun b hb' => hne _ b (by omega)⟩, fun b _ hb0 => hne _ b (by rintro rfl; omega), n + 2, ?_⟩
  ·have hstep : (Builtin.clear_ #[26] ty #[.slice (some ⟨g, lo * 2, none⟩) (l.length - lo) c]).run Try.prog w = ((storeCells ⟨g, lo * 2, none⟩ (idVs (List.replicate (l.length - lo) ⟨0, 0⟩)) 0).run Try.prog w).andThen fun _ w' => .ok (.tuple #[]) w' := by
    obtain ⟨j, hj⟩ : ∃ j, l.length - lo = j + 1 := ⟨l.length - lo - 1, by omega⟩
    rw [← hnews, hj]
    simp [Builtin.clear_, run_underlying Try.underlying26, yvh, Value.cells, Result.andThen]
   show (Builtin.clear_ #[26] ty #[.slice ((some (⟨g, 0, none⟩ : Addr)).map (·.add (lo * 2))) (l.length - lo) c]).run Try.prog w = _
   rw [Option.map_some, hadd, hstep, hst]
   rfl
  ·refine ⟨idVs (clrI l lo), O2, ?_, hcap, by rw [yhg]; exact ysj _, by rw [yfc]; exact (ymp _).cast hz, hOO⟩
   rw [yhg, zla]
   have hcl := yhe l lo hlo
   refine ⟨by rw [ybt], .inr ⟨g, kk, _, by rw [hcl], hb, setRow_heap w g cur _ 36 _ hg, by rw [hcl]; exact p1, p2, ?_, ?_⟩⟩
   ·simp only [List.size_toArray, zlg, zlh, List.length_drop, zlr, ybt, zlw]; omega
   ·show (cur.toList.take (lo * 2) ++ idVs (List.replicate (l.length - lo) ⟨0, 0⟩) ++ cur.toList.drop (lo * 2 + (l.length - lo) * 2)).take ((clrI l lo).length * 2) = _
    have ht : cur.toList.take (lo * 2) = idVs (l.take lo) := by
     rw [← ynt l lo hlo, ← p4, List.take_take, Nat.min_eq_left (by omega)]
    rw [ht, hcl, ← yke]
    show (idVs (clrI l lo) ++ _).take _ = _
    rw [List.take_append_of_le_length (by rw [ybt, hcl]; omega), zlm (by rw [ybt, hcl]; omega)]
end Tst
end

section
open Go Go.Lf Go.RowKit Go.Proofs
namespace Tst
theorem OpsR.clear {cx : Cx} {ops : Array Oper} {env : Env} {y : Oper} {ta r lo : Nat} {cap : Option Nat} {l : List Idd} (ks : List (Nat × Wk)) (hg : y.guard = none) (ho : y.op = .call { callee := .builtin .clear, args := #[.tmp ta], argTypes := #[26] }) (hd : y.dst = none)
  (ha : lk env ta = some (.al r [] (some (lo, l.length - lo, none)))) (hl : lk env r = some (iow cap l)) (hlo : lo ≤ l.length) (hl2 : lk (keepE ks env) r = some (iow cap l)) (hnl : ∀ t y', lk (keepE ks env) t = some y' → zqf y' ≠ some r) :
  OpsR Try.prog cx ops [y] env (· = (r, iow cap (clrI l lo)) :: keepE ks env) := by
 refine .one hg fun ρ F B0 w0 S0 ds a w Q K hag hK => ?_
 obtain ⟨v, hv, hsub⟩ : ∃ v, a.tmps[r]? = some v ∧ subOk Try.prog 36 (some (lo, l.length - lo, none)) v (a.eval (.tmp ta)) := by
  obtain ⟨_, _, n, S, Os, hn, _, hst⟩ := hag
  obtain ⟨va, hva, hs⟩ := hst.rel ta _ ha
  have e0 : a.eval (.tmp ta) = va := by simp [Act.eval, zll, hva]
  rw [e0]
  rcases hs with ⟨_, hal, _⟩ | hr
  ·obtain ⟨vr, u, e1, e2, e3⟩ := hal _ hl .own 36 cap _ rfl (.inl rfl)
   have e4 : vr = u := by simpa [LV] using e2
   subst e4
   exact ⟨vr, e1, e3⟩
  ·cases n with
   | zero => exact hr.elim
   | succ n => exact hr.elim
 obtain ⟨hd', hN, n, S, Os, hn, hgr, hst⟩ := hag.keep (ks := ks)
 obtain ⟨v', hv', hs⟩ := hst.rel r _ hl2
 rw [hv] at hv'
 injection hv' with hv'; subst hv'
 have hr := hs.rv rfl
 obtain ⟨w', hrun, hB, hun, m, hnew⟩ := yoq hr (hst.one r) hlo hsub y.type
 have hlt : ∀ t b, 0 < Os t b → b < w.heap.size := fun t b hb => (St.lt (a := a) hst t b hb).2
 have hrl : r < a.tmps.size := (zlj.1 hv).1
 have k1 := hst.set (Nat.le_max_left n m) r (v := v) (x := iow cap (clrI l lo)) (O := Os r) (S' := S) (w' := w') ⟨hrl, .inr hv⟩ hB (fun b hb => hb)
  (fun b hb => by have := hst.sLt b hb; have := hB.size; omega) (fun b t _ hb => hst.excl b t hb) (fun b hb => hst.excl b r hb)
  (fun b hb => by
   rcases hb with hb | ⟨t, ht, hb⟩
   ·exact hun b (hst.sLt b hb) (hst.excl b r hb)
   ·refine hun b (hlt t b hb) ?_
    rcases hst.dis t r b ht with h | h
    ·omega
    ·exact h)
  (hst.one r) (fun b t ht hb => by rcases hst.dis t r b ht with h | h <;> omega) (.inr (hnew.le (Nat.le_max_right n m)))
  (fun t y' u _ hy hyr _ _ => absurd hyr (hnl t y' hy))
 rw [ya0 a.tmps r _ hv] at k1
 have hex : (execOp a.eval y).run Try.prog w = .ok (.value (.tuple #[])) w' := by
  rw [execOp, ho]
  simp [resolve, invoke, builtin, hrun, Act.eval] at hrun ⊢
  simp [hrun]
 refine opIn (by intro c hc; rw [ho] at hc; cases hc) (ybz hex ?_)
 rw [hd]
 exact hK _ rfl a w' ⟨hd', hN, max n m, S, _, by omega, hgr, by
  have e : (fun t => if t = r then Os r else Os t) = Os := by funext t; split <;> simp_all
  rw [e] at k1; exact k1⟩
set_option maxHeartbeats 0
theorem yut (l : List Idd) : Tri Try.prog (cxN 61 1) (zqr Try.f36 0) ([(0, iow none l)]) .normal ([(0, iow none l)]) :=
 ev h36 [.c] zqa
theorem cm1_0 (l : List Idd) : Tri Try.prog (cxN 61 1) (zqr Try.f36 1) ([(0, iow none l)]) .normal ([(0, iow none l), (8, bb (decide (((l.map Idd.enc).length : Int) < (2 : Int))))]) :=
 ev h36 [.c, .c, .c] zqa
theorem cm3_0 (l : List Idd) : Tri Try.prog (cxN 61 1) (zqr Try.f36 3) ([(0, iow none l)]) .normal ([(0, iow none l), (3, it 1)]) :=
 ev h36 [.c] zqa
theorem cm4_0 (l : List Idd) (k : Int) : Tri Try.prog (cxN 61 1) (zqr Try.f36 4) ([(0, iow none l), (3, it k)]) .normal ([(0, iow none l), (3, it k), (13, bb (decide (k < ((l.map Idd.enc).length : Int))))]) :=
 ev h36 [.c, .c, .c, .c] zqa
theorem cm5_0 (l : List Idd) (k : Int) : Tri Try.prog (cxN 61 1) (zqr Try.f36 5) ([(0, iow none l), (3, it k)]) .normal ([(0, iow none l), (3, it (i64.wrap (k + (1 : Int))))]) :=
 ev h36 [.c, .c, .c] zqa
theorem cm6_0 (l : List Idd) (k : Int) (g0 : decide (0 ≤ k ∧ k < ((l.map Idd.enc).length : Int)) = true) (g1 : decide (k.toNat < (l.map Idd.enc).length) = true) (g2 : (l.map Idd.enc).getD k.toNat AV.bad = Idd.enc (l.getD k.toNat default)) (g3 : decide (0 ≤ i64.wrap (k - (1 : Int)) ∧ i64.wrap (k - (1 : Int)) < ((l.map Idd.enc).length : Int)) = true) (g4 : decide ((i64.wrap (k - (1 : Int))).toNat < (l.map Idd.enc).length) = true) (g5 : (l.map Idd.enc).getD ((i64.wrap (k - (1 : Int))).toNat) AV.bad = Idd.enc (l.getD ((i64.wrap (k - (1 : Int))).toNat) default)) : Tri Try.prog (cxN 61 1) (zqr Try.f36 6) ([(0, iow none l), (3, it k)]) .normal ([(0, iow none l), (3, it k), (25, bb (Idd.y (l.getD k.toNat default) == Idd.y (l.getD ((i64.wrap (k - (1 : Int))).toNat) default) && Idd.n (l.getD k.toNat default) == Idd.n (l.getD ((i64.wrap (k - (1 : Int))).toNat) default)))]) :=
 ev h36 [.c, .c, .b true, .c, .b true, .r (Idd.enc (l.getD k.toNat default)), .c, .c, .c, .c, .b true, .c, .b true, .r (Idd.enc (l.getD ((i64.wrap (k - (1 : Int))).toNat) default)), .c, .c] (allp g0 (allp g1 (allp g2 (allp g3 (allp g4 (allp g5 zqa))))))
theorem cm8_0 (l : List Idd) (k : Int) (k0 m : Nat) : Tri Try.prog (cxN 61 1) (zqr Try.f36 8) ([(0, iow none l), (3, it k), (4, .al 0 [] (some (k0, m, none)))]) .normal ([(0, iow none l), (3, it k), (4, AV.al 0 [] (some (k0, m, none))), (5, it 1)]) :=
 ev h36 [.c] zqa
theorem cm9_0 (l : List Idd) (k q : Int) (k0 m : Nat) (g0 : decide (k0 + m ≤ (l.map Idd.enc).length) = true) : Tri Try.prog (cxN 61 1) (zqr Try.f36 9) ([(0, iow none l), (3, it k), (4, .al 0 [] (some (k0, m, none))), (5, it q)]) .normal ([(0, iow none l), (3, it k), (4, AV.al 0 [] (some (k0, m, none))), (5, it q), (32, bb (decide (q < (↑((List.take m (List.drop k0 (List.map Idd.enc l))).length) : Int))))]) :=
 ev h36 [.c, .c, .b true, .c, .c] (allp g0 zqa)
theorem cm11_0 (l : List Idd) (k q : Int) (k0 m : Nat) (g0 : decide (0 ≤ q ∧ q < (↑m : Int) ∧ k0 + m ≤ (l.map Idd.enc).length) = true) (g1 : decide (k0 + q.toNat < (l.map Idd.enc).length) = true) (g2 : (l.map Idd.enc).getD (k0 + q.toNat) AV.bad = Idd.enc (l.getD (k0 + q.toNat) default)) (g3 : decide (0 ≤ i64.wrap (q - (1 : Int)) ∧ i64.wrap (q - (1 : Int)) < (↑m : Int) ∧ k0 + m ≤ (l.map Idd.enc).length) = true) (g4 : decide (k0 + (i64.wrap (q - (1 : Int))).toNat < (l.map Idd.enc).length) = true) (g5 : (l.map Idd.enc).getD (k0 + (i64.wrap (q - (1 : Int))).toNat) AV.bad = Idd.enc (l.getD (k0 + (i64.wrap (q - (1 : Int))).toNat) default)) : Tri Try.prog (cxN 61 1) (zqr Try.f36 11) ([(0, iow none l), (3, it k), (4, .al 0 [] (some (k0, m, none))), (5, it q)]) .normal ([(0, iow none l), (3, it k), (4, AV.al 0 [] (some (k0, m, none))), (5, it q), (44, bb !(Idd.y (l.getD (k0 + q.toNat) default) == Idd.y (l.getD (k0 + (i64.wrap (q - (1 : Int))).toNat) default) && Idd.n (l.getD (k0 + q.toNat) default) == Idd.n (l.getD (k0 + (i64.wrap (q - (1 : Int))).toNat) default)))]) :=
 ev h36 [.c, .c, .b true, .c, .b true, .r (Idd.enc (l.getD (k0 + q.toNat) default)), .c, .c, .c, .c, .b true, .c, .b true, .r (Idd.enc (l.getD (k0 + (i64.wrap (q - (1 : Int))).toNat) default)), .c, .c] (allp g0 (allp g1 (allp g2 (allp g3 (allp g4 (allp g5 zqa))))))
theorem cm12_0 (l : List Idd) (k q : Int) (k0 m : Nat) (g0 : decide (0 ≤ q ∧ q < (↑m : Int) ∧ k0 + m ≤ (l.map Idd.enc).length) = true) (g1 : decide (k0 + q.toNat < (l.map Idd.enc).length) = true) (g2 : (l.map Idd.enc).getD (k0 + q.toNat) AV.bad = Idd.enc (l.getD (k0 + q.toNat) default)) (g3 : decide (0 ≤ k ∧ k < ((l.map Idd.enc).length : Int)) = true) (g4 : decide (k.toNat < (l.map Idd.enc).length) = true) (g5 : (l.map Idd.enc).getD k.toNat AV.bad = Idd.enc (l.getD k.toNat default)) (g6 : AV.sl .own 36 none (List.set (List.map Idd.enc l) k.toNat (setE ((l.map Idd.enc).getD k.toNat AV.bad) (0 : Nat) [ub (Idd.y (l.getD (k0 + q.toNat) default)), it (Idd.n (l.getD (k0 + q.toNat) default))])) = iow none (List.set l k.toNat { y := Idd.y (l.getD (k0 + q.toNat) default), n := Idd.n (l.getD (k0 + q.toNat) default) })) : Tri Try.prog (cxN 61 1) (zqr Try.f36 12) ([(0, iow none l), (3, it k), (4, .al 0 [] (some (k0, m, none))), (5, it q)]) .normal ([(0, iow none (List.set l k.toNat { y := Idd.y (l.getD (k0 + q.toNat) default), n := Idd.n (l.getD (k0 + q.toNat) default) })), (3, it k), (4, AV.al 0 [] (some (k0, m, none))), (5, it q)]) :=
 ev h36 [.c, .c, .c, .c, .b true, .c, .b true, .r (Idd.enc (l.getD (k0 + q.toNat) default)), .c, .b true, .c, .b true, .r (Idd.enc (l.getD k.toNat default)), .r (iow none (List.set l k.toNat { y := Idd.y (l.getD (k0 + q.toNat) default), n := Idd.n (l.getD (k0 + q.toNat) default) }))] (allp g0 (allp g1 (allp g2 (allp g3 (allp g4 (allp g5 (allp g6 zqa)))))))
theorem cm13_0 (l : List Idd) (k q : Int) (k0 m : Nat) : Tri Try.prog (cxN 61 1) (zqr Try.f36 13) ([(0, iow none l), (3, it k), (4, .al 0 [] (some (k0, m, none))), (5, it q)]) .normal ([(0, iow none l), (3, it (i64.wrap (k + (1 : Int)))), (4, AV.al 0 [] (some (k0, m, none))), (5, it q)]) :=
 ev h36 [.c, .c, .c] zqa
theorem yr7 (l : List Idd) (k q : Int) (k0 m : Nat) : Tri Try.prog (cxN 61 1) (zqr Try.f36 10) ([(0, iow none l), (3, it k), (4, .al 0 [] (some (k0, m, none))), (5, it q)]) .normal ([(0, iow none l), (3, it k), (4, AV.al 0 [] (some (k0, m, none))), (5, it (i64.wrap (q + (1 : Int))))]) :=
 ev h36 [.c, .c, .c] zqa
def ddI : List Idd → List Idd
 | [] => []
 | [x] => [x]
 | x :: y :: r => if x = y then ddI (y :: r) else x :: ddI (y :: r)
theorem yhc : ∀ (a : List Idd) (z x : Idd), ddI (a ++ [z] ++ [x]) = if z = x then ddI (a ++ [z]) else ddI (a ++ [z]) ++ [x]
 | [], z, x => by
  by_cases h : z = x
  ·subst h; simp [ddI]
  ·simp [ddI, h]
 | [y], z, x => by
  have := yhc [] z x
  by_cases h : y = z <;> by_cases h2 : z = x <;> simp_all [ddI]
 | y :: w :: a, z, x => by
  have ih := yhc (w :: a) z x
  show ddI (y :: w :: (a ++ [z] ++ [x])) = if z = x then ddI (y :: w :: (a ++ [z])) else ddI (y :: w :: (a ++ [z])) ++ [x]
  rw [ddI, ddI]
  have ih' : ddI (w :: (a ++ [z] ++ [x])) = if z = x then ddI (w :: (a ++ [z])) else ddI (w :: (a ++ [z])) ++ [x] := ih
  rw [ih']
  by_cases h : y = w <;> by_cases h2 : z = x <;> simp [h, h2]
theorem yhb (l : List Idd) (p : Nat) (h0 : 0 < p) (h : p < l.length) : ddI (l.take (p + 1)) = if l.getD (p - 1) default = l.getD p default then ddI (l.take p) else ddI (l.take p) ++ [l.getD p default] := by
 have e1 : l.take (p + 1) = l.take p ++ [l.getD p default] := by
  rw [List.take_add_one, zld, zle h]; rfl
 have e2 : l.take p = l.take (p - 1) ++ [l.getD (p - 1) default] := by
  conv => lhs; rw [show p = (p - 1) + 1 by omega]
  rw [List.take_add_one, zld, zle (by omega : p - 1 < l.length)]; rfl
 rw [e1, e2, yhc]
theorem yuj (l : List Idd) (h : 0 < l.length) : ddI (l.take 1) = l.take 1 := by
 cases l with
 | nil => simp at h
 | cons x l => rfl
theorem yhd (l : List Idd) : ∀ p, 0 < p → p ≤ l.length → (∀ j, 0 < j → j < p → l.getD (j - 1) default ≠ l.getD j default) → ddI (l.take p) = l.take p
 | 0, h, _, _ => by omega
 | 1, _, hl, _ => yuj l (by omega)
 | p + 2, _, hl, hj => by
  rw [yhb l (p + 1) (by omega) (by omega), if_neg (hj (p + 1) (by omega) (by omega)), yhd l (p + 1) (by omega) (by omega) fun j h1 h2 => hj j h1 (by omega)]
  rw [List.take_add_one (i := p + 1), zld, zle (by omega : p + 1 < l.length)]; rfl
theorem yuq : zqc Try.f36 1 = .seq (.seq (zqr Try.f36 9) (.cond (.tmp 32) .skip (.exit 2))) (.seq (.block 3 (.seq (zqr Try.f36 11) (.cond (.tmp 44) (.seq (zqr Try.f36 12) (zqr Try.f36 13)) .skip))) (zqr Try.f36 10)) := by kernel_rfl
theorem yur : zqc Try.f36 0 = .seq (.seq (zqr Try.f36 4) (.cond (.tmp 13) .skip (.exit 0))) (.seq (.block 1 (.seq (zqr Try.f36 6) (.cond (.tmp 25) (.seq (.region 7 (zql Try.f36 7) false) (.seq (.seq (zqr Try.f36 8) (.block 2 (.loop (zqc Try.f36 1)))) (.seq (.region 14 (zql Try.f36 14) false) (.seq (.region 15 (zql Try.f36 15) false) .ret)))) .skip))) (zqr Try.f36 5)) := by kernel_rfl
theorem yus : Try.f36.body = some (.seq (zqr Try.f36 0) (.seq (.seq (zqr Try.f36 1) (.cond (.tmp 8) (.seq (.region 2 (zql Try.f36 2) false) .ret) .skip)) (.seq (.seq (zqr Try.f36 3) (.block 0 (.loop (zqc Try.f36 0)))) (.seq (.region 16 (zql Try.f36 16) false) .ret)))) := by kernel_rfl
theorem beqI (a b : Idd) : (a.y == b.y && a.n == b.n) = decide (a = b) := by
 cases a; cases b
 rw [Bool.eq_iff_iff]
 simp [zlo]
theorem yhl {k : Nat} (h1 : 1 ≤ k) (h2 : k < 2 ^ 60) : IntKind.wrap i64 ((k : Int) - 1) = ((k - 1 : Nat) : Int) := by rw [yak (by omega) (by omega)]; omega
section
variable (l : List Idd) (hl : l.length < 2 ^ 60) (k0 m : Nat) (hm : k0 + m = l.length)
abbrev cK (cur : List Idd) (k0 m : Nat) (k q : Int) : Env := [(0, iow none cur), (3, it k), (4, .al 0 [] (some (k0, m, none))), (5, it q)]
structure CmOk (l cur : List Idd) (k p : Nat) : Prop where
 len : cur.length = l.length
 kk : k = (ddI (l.take p)).length
 pre : cur.take k = ddI (l.take p)
 suf : cur.drop k = l.drop k
 lt : k + 1 ≤ p
theorem CmOk.get {l cur : List Idd} {k p : Nat} (h : CmOk l cur k p) {j : Nat} (hj : k ≤ j) : cur.getD j default = l.getD j default := by
 have := congrArg (fun x : List Idd => x.getD (j - k) default) h.suf
 simp only [zld, List.getElem?_drop] at this
 rw [show k + (j - k) = j by omega] at this
 simpa [zld] using this
include hl hm
theorem cK_end (cur : List Idd) (k : Int) (hc : cur.length = l.length) (q : Nat) (h : q = m) : Tri Try.prog (cxN 61 1) (zqc Try.f36 1) (cK cur k0 m k q) (.exit 2) [(0, iow none cur), (3, it k)] := by
 rw [yuq]
 have h9 := cm9_0 cur k q k0 m (zlb (by rw [zla]; omega))
 rw [show decide ((q : Int) < ((List.length (List.take m (List.drop k0 (List.map Idd.enc cur))) : Nat) : Int)) = false by rw [zlc]; rw [zlh, List.length_drop, zla]; omega] at h9
 exact .seqX (.seq h9 (.cond (b := false) rfl (.after (kp [0, 3]) .exit))) (by simp)
theorem yu0 (cur : List Idd) (k q : Nat) (hk : CmOk l cur k (k0 + q)) (hq : q < m) (hq1 : 1 ≤ q) : ∃ cur' k', CmOk l cur' k' (k0 + (q + 1)) ∧ Tri Try.prog (cxN 61 1) (zqc Try.f36 1) (cK cur k0 m k q) .normal (cK cur' k0 m k' ((q + 1 : Nat) : Int)) := by
 have hc := hk.len
 have hlt := hk.lt
 have h9 := cm9_0 cur k q k0 m (zlb (by rw [zla]; omega))
 rw [show decide ((q : Int) < ((List.length (List.take m (List.drop k0 (List.map Idd.enc cur))) : Nat) : Int)) = true by rw [zlb]; rw [zlh, List.length_drop, zla]; omega] at h9
 have h11 := cm11_0 cur k q k0 m
 rw [yhl hq1 (by omega)] at h11
 simp only [zlf, beqI] at h11
 have h11' := h11 (zlb (by rw [zla]; omega)) (zlb (by rw [zla]; omega)) (yaj (by omega)) (zlb (by rw [zla]; omega)) (zlb (by rw [zla]; omega)) (yaj (by omega))
 rw [hk.get (j := k0 + q) (by omega), hk.get (j := k0 + (q - 1)) (by omega)] at h11'
 have hdd := yhb l (k0 + q) (by omega) (by omega)
 rw [show k0 + q - 1 = k0 + (q - 1) by omega] at hdd
 by_cases he : l.getD (k0 + q) default = l.getD (k0 + (q - 1)) default
 ·rw [if_pos he.symm] at hdd
  rw [zlb he] at h11'
  have h10 := yr7 cur k q k0 m
  rw [up64 (by omega)] at h10
  refine ⟨cur, k, ⟨hc, by rw [← Nat.add_assoc, hdd]; exact hk.kk, by rw [← Nat.add_assoc, hdd]; exact hk.pre, hk.suf, by omega⟩, ?_⟩
  rw [yuq]
  exact .seq (.seq h9 (.cond (b := true) rfl (.after (kp [0, 3, 4, 5]) .skip))) (.seq (.block (ex := .normal) (.seq h11' (.cond (b := false) rfl (.after (kp [0, 3, 4, 5]) .skip))) (.inr ⟨by simp, rfl⟩)) h10)
 ·rw [if_neg (Ne.symm he)] at hdd
  rw [zlc he] at h11'
  have h12 := cm12_0 cur k q k0 m
  simp only [zlf] at h12
  have h12' := h12 (zlb (by rw [zla]; omega)) (zlb (by rw [zla]; omega)) (yaj (by omega)) (zlb (by rw [zla]; omega)) (zlb (by rw [zla]; omega)) (yaj (by omega)) (congrArg (AV.sl .own 36 none) (yix (l := cur) (i := k) (cur.getD (k0 + q) default) (by omega)))
  have h13 := cm13_0 (cur.set k (cur.getD (k0 + q) default)) k q k0 m
  have h10 := yr7 (cur.set k (cur.getD (k0 + q) default)) ((k + 1 : Nat) : Int) q k0 m
  rw [up64 (by omega)] at h10 h13
  refine ⟨cur.set k (cur.getD (k0 + q) default), k + 1, ⟨by rw [zlx]; exact hc, ?_, ?_, ?_, by omega⟩, ?_⟩
  ·rw [← Nat.add_assoc, hdd, zlg]; show _ = _ + 1; rw [← hk.kk]
  ·rw [← Nat.add_assoc, hdd, ← hk.pre, hk.get (j := k0 + q) (by omega)]
   rw [List.take_add_one, List.getElem?_set_self (by omega)]
   rw [List.take_set_of_le (zly k)]
   rfl
  ·rw [List.drop_set_of_lt (by omega)]
   have := congrArg (List.drop 1) hk.suf
   simpa [List.drop_drop, Nat.add_comm] using this
  ·rw [yuq]
   exact .seq (.seq h9 (.cond (b := true) rfl (.after (kp [0, 3, 4, 5]) .skip))) (.seq (.block (ex := .normal) (.seq h11' (.cond (b := true) rfl (.weak (kp [0, 3, 4, 5]) (.seq h12' h13)))) (.inr ⟨by simp, rfl⟩)) h10)
theorem yov : ∀ (j q : Nat) (cur : List Idd) (k : Nat), q + j = m → 1 ≤ q → CmOk l cur k (k0 + q) → ∃ cur' k', CmOk l cur' k' (k0 + m) ∧ Rnd Try.prog (cxN 61 1) (zqc Try.f36 1) (j + 1) (cK cur k0 m k q) (.exit 2) [(0, iow none cur'), (3, it (k' : Nat))]
 | 0, q, cur, k, h, _, hk => ⟨cur, k, by rw [show m = q by omega]; exact hk, .exit (cK_end l hl k0 m hm cur k hk.len q (by omega)) (by simp)⟩
 | j + 1, q, cur, k, h, h1, hk => by
  obtain ⟨cur1, k1, hk1, ht⟩ := yu0 l hl k0 m hm cur k q hk (by omega) h1
  obtain ⟨cur2, k2, hk2, hr⟩ := yov j (q + 1) cur1 k1 (by omega) (by omega) hk1
  exact ⟨cur2, k2, hk2, .step ht hr⟩
end
section
variable (l : List Idd) (hl : l.length < 2 ^ 60)
abbrev cO (l : List Idd) (k : Int) : Env := [(0, iow none l), (3, it k)]
abbrev alR (lo n : Nat) : AV := .al 0 [] (some (lo, n, none))
theorem cm7 (k0 : Nat) (hk : k0 + 1 ≤ l.length) : Tri Try.prog (cxN 61 1) (.region 7 (zql Try.f36 7) false) (cO l ((k0 + 1 : Nat) : Int)) .normal [(0, iow none l), (3, it ((k0 + 1 : Nat) : Int)), (4, alR (k0 + 1) (l.length - (k0 + 1)))] := by
 have eA : (alR (Int.toNat ((k0 + 1 : Nat) : Int)) ((List.map Idd.enc l).length - Int.toNat ((k0 + 1 : Nat) : Int))) = alR (k0 + 1) (l.length - (k0 + 1)) := by rw [zla]; rfl
 have h := OpsR.ev (ops := zql Try.f36 7) (os := (zql Try.f36 7).toList) (env := cO l ((k0 + 1 : Nat) : Int)) (base 61 1) zqb.1 zqb.2 (ans := [.c, .c, .b true, .b true, .c, .c, .c]) (ps := [decide ((0 : Int) ≤ ((k0 + 1 : Nat) : Int)) = true, decide (Int.toNat ((k0 + 1 : Nat) : Int) ≤ (List.map Idd.enc l).length ∧ (List.map Idd.enc l).length ≤ (List.map Idd.enc l).length) = true]) (env' := (4, alR (Int.toNat ((k0 + 1 : Nat) : Int)) ((List.map Idd.enc l).length - Int.toNat ((k0 + 1 : Nat) : Int))) :: (28, alR (Int.toNat ((k0 + 1 : Nat) : Int)) ((List.map Idd.enc l).length - Int.toNat ((k0 + 1 : Nat) : Int))) :: (27, it ((k0 + 1 : Nat) : Int)) :: (26, .al 0 [] none) :: cO l ((k0 + 1 : Nat) : Int)) (by kernel_rfl) (allp (zlb (by omega)) (allp (zlb (by rw [zla]; exact ⟨by omega, zly _⟩)) zqa))
 rw [eA] at h
 exact .after (kp [0, 3, 4]) (Tri.ofR (.region h) fun e h => h)
theorem cm14 (k : Nat) (hk : k ≤ l.length) : Tri Try.prog (cxN 61 1) (.region 14 (zql Try.f36 14) false) (cO l k) .normal (cO (clrI l k) k) := by
 have eA : (alR (Int.toNat (k : Int)) ((List.map Idd.enc l).length - Int.toNat (k : Int))) = alR k (l.length - k) := by rw [zla]; rfl
 refine .after (kp [0, 3]) (env' := (0, iow none (clrI l k)) :: cO l k) (Tri.ofR (.region (R := (· = (0, iow none (clrI l k)) :: cO l k)) ?_) fun e h => h)
 rw [show (zql Try.f36 14).toList = (zql Try.f36 14).toList.take 3 ++ [(zql Try.f36 14).toList.getD 3 default] by kernel_rfl]
 have h := OpsR.ev (ops := zql Try.f36 14) (os := (zql Try.f36 14).toList.take 3) (env := cO l k) (base 61 1) zqb.1 zqb.2 (ans := [.c, .c, .b true, .b true, .c, .c, .c]) (ps := [decide ((0 : Int) ≤ k) = true, decide (Int.toNat (k : Int) ≤ (List.map Idd.enc l).length ∧ (List.map Idd.enc l).length ≤ (List.map Idd.enc l).length) = true]) (env' := (56, alR (Int.toNat (k : Int)) ((List.map Idd.enc l).length - Int.toNat (k : Int))) :: (55, it k) :: (54, .al 0 [] none) :: cO l k) (by kernel_rfl) (allp (zlb (by omega)) (allp (zlb (by rw [zla]; exact ⟨by omega, zly _⟩)) zqa))
 rw [eA] at h
 refine .seq h ?_
 rintro _ rfl
 refine OpsR.clear (ta := 56) (r := 0) (lo := k) (cap := none) (l := l) (kp [0, 3]) (by kernel_rfl) (by kernel_rfl) (by kernel_rfl) rfl rfl hk rfl ?_
 intro t y' hy
 exact noLf (env := cO l k) hy (by kernel_rfl) |> fun h => h
theorem cm15 (k : Nat) (hk : k ≤ l.length) : Tri Try.prog (cxN 61 1) (.region 15 (zql Try.f36 15) false) (cO l k) .normal [(0, iow none l), (2, alR 0 k)] := by
 have h := OpsR.ev (ops := zql Try.f36 15) (os := (zql Try.f36 15).toList) (env := cO l k) (base 61 1) zqb.1 zqb.2 (ans := [.c, .c, .b true, .b true, .c, .c, .c]) (ps := [decide ((0 : Int) ≤ k) = true, decide (0 ≤ Int.toNat (k : Int) ∧ Int.toNat (k : Int) ≤ (List.map Idd.enc l).length) = true]) (env' := (2, alR 0 (Int.toNat (k : Int) - 0)) :: (59, alR 0 (Int.toNat (k : Int) - 0)) :: (58, it k) :: (57, .al 0 [] none) :: cO l k) (by kernel_rfl) (allp (zlb (by omega)) (allp (zlb (by rw [zla]; exact ⟨by omega, by omega⟩)) zqa))
 exact .after (kp [0, 2]) (Tri.ofR (.region h) fun e h => h)
theorem cm2 : Tri Try.prog (cxN 61 1) (.region 2 (zql Try.f36 2) false) [(0, iow none l)] .normal [(0, iow none l), (2, .al 0 [] none)] := by
 have h := OpsR.ev (ops := zql Try.f36 2) (os := (zql Try.f36 2).toList) (env := [(0, iow none l)]) (base 61 1) zqb.1 zqb.2 (ans := [.c, .c, .c, .c]) (ps := []) (env' := (2, .al 0 [] none) :: (9, .al 0 [] none) :: [(0, iow none l)]) (by kernel_rfl) zqa
 exact .after (kp [0, 2]) (Tri.ofR (.region h) fun e h => h)
theorem cm16 : Tri Try.prog (cxN 61 1) (.region 16 (zql Try.f36 16) false) [(0, iow none l)] .normal [(0, iow none l), (2, .al 0 [] none)] := by
 have h := OpsR.ev (ops := zql Try.f36 16) (os := (zql Try.f36 16).toList) (env := [(0, iow none l)]) (base 61 1) zqb.1 zqb.2 (ans := [.c, .c, .c, .c]) (ps := []) (env' := (2, .al 0 [] none) :: (60, .al 0 [] none) :: [(0, iow none l)]) (by kernel_rfl) zqa
 exact .after (kp [0, 2]) (Tri.ofR (.region h) fun e h => h)
end
end Tst
end

section
open Go Go.Lf Go.RowKit Go.Proofs
namespace Tst
section
variable (l : List Idd) (hl : l.length < 2 ^ 60)
include hl
theorem cO_end (k : Nat) (h : l.length ≤ k) : Tri Try.prog (cxN 61 1) (zqc Try.f36 0) (cO l k) (.exit 0) [(0, iow none l)] := by
 rw [yur]
 have h4 := cm4_0 l k
 rw [show decide ((k : Int) < ((List.map Idd.enc l).length : Nat)) = false by rw [zlc]; rw [zla]; omega] at h4
 exact .seqX (.seq h4 (.cond (b := false) rfl (.after (kp [0]) .exit))) (by simp)
theorem yot (k : Nat) (h1 : 1 ≤ k) (h : k < l.length) : Tri Try.prog (cxN 61 1) (.seq (zqr Try.f36 4) (.cond (.tmp 13) .skip (.exit 0))) (cO l k) .normal (cO l k) ∧ Tri Try.prog (cxN 61 1) (zqr Try.f36 6) (cO l k) .normal (cO l k ++ [(25, bb (decide (l.getD k default = l.getD (k - 1) default)))]) := by
 have h4 := cm4_0 l k
 rw [show decide ((k : Int) < ((List.map Idd.enc l).length : Nat)) = true by rw [zlb]; rw [zla]; omega] at h4
 have h6 := cm6_0 l k
 rw [yhl h1 (by omega)] at h6
 simp only [zlf, beqI] at h6
 exact ⟨.seq h4 (.cond (b := true) rfl (.after (kp [0, 3]) .skip)), h6 (zlb (by rw [zla]; omega)) (zlb (by rw [zla]; omega)) (yaj (by omega)) (zlb (by rw [zla]; omega)) (zlb (by rw [zla]; omega)) (yaj (by omega))⟩
theorem yuz (k : Nat) (h1 : 1 ≤ k) (h : k < l.length) (he : l.getD (k - 1) default ≠ l.getD k default) : Tri Try.prog (cxN 61 1) (zqc Try.f36 0) (cO l k) .normal (cO l ((k + 1 : Nat) : Int)) := by
 obtain ⟨h4, h6⟩ := yot l hl k h1 h
 rw [zlc (Ne.symm he)] at h6
 have h5 := cm5_0 l k
 rw [up64 (by omega)] at h5
 rw [yur]
 exact .seq h4 (.seq (.block (ex := .normal) (.seq h6 (.cond (b := false) rfl (.after (kp [0, 3]) .skip))) (.inr ⟨by simp, rfl⟩)) h5)
theorem cO_dup (k0 : Nat) (h : k0 + 1 < l.length) (he : l.getD k0 default = l.getD (k0 + 1) default) (hn : ∀ j, 0 < j → j < k0 + 1 → l.getD (j - 1) default ≠ l.getD j default) : ∃ cur k, cur.length = l.length ∧ cur.take k = ddI l ∧ k ≤ l.length ∧ Tri Try.prog (cxN 61 1) (zqc Try.f36 0) (cO l ((k0 + 1 : Nat) : Int)) .ret [(0, iow none cur), (2, alR 0 k)] := by
 obtain ⟨h4, h6⟩ := yot l hl (k0 + 1) (by omega) h
 rw [show k0 + 1 - 1 = k0 by omega, zlb he.symm] at h6
 have hdd : ddI (l.take (k0 + 1 + 1)) = l.take (k0 + 1) := by
  rw [yhb l (k0 + 1) (by omega) h, show k0 + 1 - 1 = k0 by omega, if_pos he, yhd l (k0 + 1) (by omega) (by omega) hn]
 have h0 : CmOk l l (k0 + 1) (k0 + 1 + 1) := ⟨rfl, by rw [hdd, zlh]; omega, hdd.symm, rfl, by omega⟩
 obtain ⟨cur, k, hk, hr⟩ := yov l hl (k0 + 1) (l.length - (k0 + 1)) (by omega) (l.length - (k0 + 1) - 1) 1 l (k0 + 1) (by omega) (by omega) h0
 have hlen : k0 + 1 + (l.length - (k0 + 1)) = l.length := by omega
 rw [hlen] at hk
 have hkl : k ≤ cur.length := by have := hk.lt; have := hk.len; omega
 have hpre := hk.pre
 rw [zlm (zly _)] at hpre
 refine ⟨clrI cur k, k, by rw [yhe cur k hkl]; exact hk.len, ?_, by have := hk.lt; omega, ?_⟩
 ·unfold clrI
  rw [List.take_append_of_le_length (by rw [zlh]; omega), List.take_take, Nat.min_self, hpre]
 ·rw [yur]
  have hcl : k ≤ (clrI cur k).length := by rw [yhe cur k hkl]; exact hkl
  exact .seq h4 (.seqX (.block (ex := .ret) (.seq h6 (.cond (b := true) rfl (.weak (kp [0, 3]) (.seq (cm7 l k0 (by omega)) (.seq (.seq (cm8_0 l ((k0 + 1 : Nat) : Int) (k0 + 1) (l.length - (k0 + 1))) (.block (ex := .exit 2) hr.loop (.inl ⟨rfl, rfl⟩))) (.seq (cm14 cur k hkl) (.seq (cm15 (clrI cur k) k hcl) .ret))))))) (.inr ⟨by simp, rfl⟩)) (by simp))
theorem you : ∀ (j k : Nat), k + j = l.length → 1 ≤ k → (∀ i, 0 < i → i < k → l.getD (i - 1) default ≠ l.getD i default) →
  (ddI l = l ∧ Rnd Try.prog (cxN 61 1) (zqc Try.f36 0) (j + 1) (cO l k) (.exit 0) [(0, iow none l)]) ∨ ∃ cur k', cur.length = l.length ∧ cur.take k' = ddI l ∧ k' ≤ l.length ∧ Rnd Try.prog (cxN 61 1) (zqc Try.f36 0) (j + 1) (cO l k) .ret [(0, iow none cur), (2, alR 0 k')]
 | 0, k, h, h1, hn => .inl ⟨by
   have := yhd l l.length (by omega) (zly _) fun i hi hi2 => hn i hi (by omega)
   rwa [zlm (zly _)] at this, .exit (cO_end l hl k (by omega)) (by simp)⟩
 | j + 1, k, h, h1, hn => by
  by_cases he : l.getD (k - 1) default = l.getD k default
  ·obtain ⟨k0, rfl⟩ : ∃ k0, k = k0 + 1 := ⟨k - 1, by omega⟩
   rw [show k0 + 1 - 1 = k0 by omega] at he
   obtain ⟨cur, k', a, b, c, d⟩ := cO_dup l hl k0 (by omega) he hn
   exact .inr ⟨cur, k', a, b, c, .exit d (by simp)⟩
  ·have hs := yuz l hl k h1 (by omega) he
   rcases you j (k + 1) (by omega) (by omega) (fun i hi hi2 => by
    by_cases hik : i = k
    ·subst hik; exact he
    ·exact hn i hi (by omega)) with ⟨a, b⟩ | ⟨cur, k', a, b, c, d⟩
   ·exact .inl ⟨a, .step hs b⟩
   ·exact .inr ⟨cur, k', a, b, c, .step hs d⟩
end
def CpOk (l : List Idd) : Prop := ∃ ys rng, MutR Try.prog 36 36 none (l.map Idd.enc) [] ys rng ∧ ∀ (B0 : Nat) (w : World) (S : Nat → Prop) (n : Nat) (v v2 : Value) (O : Own), Rv Try.prog B0 w S n v (.sl .own 36 none ys) O → subOk Try.prog 36 rng v v2 → Rv Try.prog B0 w (fun b => S b ∨ (false = true ∧ 0 < O b)) n v2 (iow none (ddI l)) (fun b => if false then 0 else O b)
theorem yuh {S : Nat → Prop} {B0 : Nat} {w : World} {n : Nat} {v : Value} {x : AV} {O : Own} (h : Rv Try.prog B0 w S n v x O) : Rv Try.prog B0 w (fun b => S b ∨ (false = true ∧ 0 < O b)) n v x (fun b => if false then 0 else O b) := by
 have e : (fun b => S b ∨ (false = true ∧ 0 < O b)) = S := by funext b; simp
 rw [e]; exact h
theorem yoo (l : List Idd) (hl : l.length < 2 ^ 60) : CpOk l := by
 have fin : ∀ (ys : List Idd) (rng : Option (Nat × Nat × Option Nat)) (ex : Ex), (ex = .ret) → Tri Try.prog (cxN 61 1) (Code.seq (zqr Try.f36 0) (.seq (.seq (zqr Try.f36 1) (.cond (.tmp 8) (.seq (.region 2 (zql Try.f36 2) false) .ret) .skip)) (.seq (.seq (zqr Try.f36 3) (.block 0 (.loop (zqc Try.f36 0)))) (.seq (.region 16 (zql Try.f36 16) false) .ret)))) [(0, iow none l)] ex [(0, iow none ys), (2, .al 0 [] rng)] → MutR Try.prog 36 36 none (l.map Idd.enc) [] (ys.map Idd.enc) rng :=
  fun ys rng ex he ht => mutR (cx := cxN 61 1) (q := 2) Try.func36 rfl (by show 1 ≤ 61; omega) rfl (ydk ys) yus ⟨rfl, rfl⟩ (.inr he) ht rfl rfl
 have h1 := cm1_0 l
 by_cases h2 : l.length < 2
 ·rw [show decide ((((List.map Idd.enc l).length : Nat) : Int) < 2) = true by rw [zlb]; rw [zla]; omega] at h1
  have e : ddI l = l := by
   match l, h2 with
   | [], _ => rfl
   | [x], _ => rfl
  refine ⟨l.map Idd.enc, none, fin l none .ret rfl (.seq (.after (kp [0]) (yut l)) (.seqX (.seq h1 (.cond (b := true) rfl (.seq (.weak (kp [0]) (cm2 l)) .ret))) (by simp))), ?_⟩
  intro B0 w S n v v2 O hr hs
  have hs : v2 = v := hs
  subst hs
  rw [e]
  exact yuh hr
 ·rw [show decide ((((List.map Idd.enc l).length : Nat) : Int) < 2) = false by rw [zlc]; rw [zla]; omega] at h1
  rcases you l hl (l.length - 1) 1 (by omega) (by omega) (fun i hi hi2 => by omega) with ⟨e, hr⟩ | ⟨cur, k, a, b, c, hr⟩
  ·refine ⟨l.map Idd.enc, none, fin l none .ret rfl (.seq (.after (kp [0]) (yut l)) (.seq (.seq h1 (.cond (b := false) rfl (.after (kp [0]) .skip))) (.seq (.seq (cm3_0 l) (.block (ex := .exit 0) hr.loop (.inl ⟨rfl, rfl⟩))) (.seq (cm16 l) .ret)))), ?_⟩
   intro B0 w S n v v2 O hr hs
   have hs : v2 = v := hs
   subst hs
   rw [e]
   exact yuh hr
  ·refine ⟨cur.map Idd.enc, some (0, k, none), fin cur (some (0, k, none)) .ret rfl (.seq (.after (kp [0]) (yut l)) (.seq (.seq h1 (.cond (b := false) rfl (.after (kp [0]) .skip))) (.seqX (.seq (cm3_0 l) (.block (ex := .ret) hr.loop (.inr ⟨by simp, rfl⟩))) (by simp)))), ?_⟩
   intro B0 w S n v v2 O hr hs
   have := hr.prefix (ydk cur) (by rw [zla]; omega) hs
   rw [← List.map_take, b] at this
   exact yuh this
set_option maxHeartbeats 0
theorem yxk (c : Option Nat) (t : List Rw) (y n : Int) : Tri Try.prog (cxN 39 0) (zqr Try.f19 0) ([(0, tsl c t), (1, idE y n)]) .normal ([(0, tsl c t), (3, AV.box [ub y, it n])]) :=
 ev h19 [.c, .c] zqa
theorem yxj (c : Option Nat) (t : List Rw) (y n : Int) (h0 : 0 ≤ y) (h1 : y ≤ 255) : Tri Try.prog (cxN 39 0) (zqr Try.f19 1) ([(0, tsl c t), (3, .box [ub y, it n])]) .normal ([(0, tsl c t), (3, AV.box [ub y, it n]), (9, bb !hasV t y n)]) :=
 ev h19 [.c, .c, .r (tsl c t), .r (bb (hasV t y n)), .c, .c, .c] (allp (zqg .any c t) (allp (p := PureC Try.prog 28 [tsl c t, AV.agg [ub y, it n]] (bb (hasV t y n))) (by apply yqe<;>first|assumption|rfl|(simp at *<;>omega)) zqa))
theorem nd2_0 (c : Option Nat) (t : List Rw) (y n : Int) : Tri Try.prog (cxN 39 0) (zqr Try.f19 2) ([(0, tsl c t), (3, .box [ub y, it n])]) .normal ([(4, zqw)]) :=
 ev h19 [.c] zqa
theorem nd3_0 (c : Option Nat) (t : List Rw) (y n : Int) (k1 : (List.getD (Rw.l (t.getD ((u8.wrap (y - (1 : Int))).toNat) default)) n.toNat default).th.length < 2 ^ 60) (k2 : (List.getD (Rw.l (t.getD ((u8.wrap (y - (1 : Int))).toNat) default)) n.toNat default).pa.length < 2 ^ 60) (k3 : (zqz (List.getD (Rw.l (t.getD ((u8.wrap (y - (1 : Int))).toNat) default)) n.toNat default)).length ≤ 4294967296) (g0 : decide (0 ≤ u8.wrap (y - (1 : Int)) ∧ u8.wrap (y - (1 : Int)) < ((t.map Rw.enc).length : Int)) = true) (g1 : (t.map Rw.enc).getD ((u8.wrap (y - (1 : Int))).toNat) AV.bad = Rw.enc (t.getD ((u8.wrap (y - (1 : Int))).toNat) default)) (g2 : decide (0 ≤ n ∧ n < (↑(List.length (List.map Lp.enc (Rw.l (t.getD ((u8.wrap (y - (1 : Int))).toNat) default)))) : Int)) = true) (g3 : List.getD (List.map Lp.enc (Rw.l (t.getD ((u8.wrap (y - (1 : Int))).toNat) default))) n.toNat AV.bad = Lp.enc (List.getD (Rw.l (t.getD ((u8.wrap (y - (1 : Int))).toNat) default)) n.toNat default)) : Tri Try.prog (cxN 39 0) (zqr Try.f19 3) ([(0, tsl c t), (3, .box [ub y, it n])]) .normal ([(3, AV.box [ub y, it n]), (5, iow none (zqz { b := Lp.b (List.getD (Rw.l (t.getD ((u8.wrap (y - (1 : Int))).toNat) default)) n.toNat default), w := Lp.w (List.getD (Rw.l (t.getD ((u8.wrap (y - (1 : Int))).toNat) default)) n.toNat default), ct := Lp.ct (List.getD (Rw.l (t.getD ((u8.wrap (y - (1 : Int))).toNat) default)) n.toNat default), th := Lp.th (List.getD (Rw.l (t.getD ((u8.wrap (y - (1 : Int))).toNat) default)) n.toNat default), cp := Lp.cp (List.getD (Rw.l (t.getD ((u8.wrap (y - (1 : Int))).toNat) default)) n.toNat default), pa := Lp.pa (List.getD (Rw.l (t.getD ((u8.wrap (y - (1 : Int))).toNat) default)) n.toNat default) }))]) :=
 ev h19 [.c, .c, .c, .c, .c, .c, .b true, .r (Rw.enc (t.getD ((u8.wrap (y - (1 : Int))).toNat) default)), .c, .c, .c, .c, .c, .c, .b true, .r (Lp.enc (List.getD (Rw.l (t.getD ((u8.wrap (y - (1 : Int))).toNat) default)) n.toNat default)), .c, .c, .r (AV.fn 45 [AV.vadr [ub (Lp.b (List.getD (Rw.l (t.getD ((u8.wrap (y - (1 : Int))).toNat) default)) n.toNat default)), bb (Lp.w (List.getD (Rw.l (t.getD ((u8.wrap (y - (1 : Int))).toNat) default)) n.toNat default)), isl (Lp.ct (List.getD (Rw.l (t.getD ((u8.wrap (y - (1 : Int))).toNat) default)) n.toNat default)) (Lp.th (List.getD (Rw.l (t.getD ((u8.wrap (y - (1 : Int))).toNat) default)) n.toNat default)), sl (Lp.cp (List.getD (Rw.l (t.getD ((u8.wrap (y - (1 : Int))).toNat) default)) n.toNat default)) (Lp.pa (List.getD (Rw.l (t.getD ((u8.wrap (y - (1 : Int))).toNat) default)) n.toNat default))] 0]), .c, .c, .c, .r (iow none (zqz { b := Lp.b (List.getD (Rw.l (t.getD ((u8.wrap (y - (1 : Int))).toNat) default)) n.toNat default), w := Lp.w (List.getD (Rw.l (t.getD ((u8.wrap (y - (1 : Int))).toNat) default)) n.toNat default), ct := Lp.ct (List.getD (Rw.l (t.getD ((u8.wrap (y - (1 : Int))).toNat) default)) n.toNat default), th := Lp.th (List.getD (Rw.l (t.getD ((u8.wrap (y - (1 : Int))).toNat) default)) n.toNat default), cp := Lp.cp (List.getD (Rw.l (t.getD ((u8.wrap (y - (1 : Int))).toNat) default)) n.toNat default), pa := Lp.pa (List.getD (Rw.l (t.getD ((u8.wrap (y - (1 : Int))).toNat) default)) n.toNat default) })), .c, .c, .c] (allp g0 (allp g1 (allp g2 (allp g3 (allp (p := PureC Try.prog 32 [view (AV.agg [ub (Lp.b (List.getD (Rw.l (t.getD ((u8.wrap (y - (1 : Int))).toNat) default)) n.toNat default)), bb (Lp.w (List.getD (Rw.l (t.getD ((u8.wrap (y - (1 : Int))).toNat) default)) n.toNat default)), isl (Lp.ct (List.getD (Rw.l (t.getD ((u8.wrap (y - (1 : Int))).toNat) default)) n.toNat default)) (Lp.th (List.getD (Rw.l (t.getD ((u8.wrap (y - (1 : Int))).toNat) default)) n.toNat default)), sl (Lp.cp (List.getD (Rw.l (t.getD ((u8.wrap (y - (1 : Int))).toNat) default)) n.toNat default)) (Lp.pa (List.getD (Rw.l (t.getD ((u8.wrap (y - (1 : Int))).toNat) default)) n.toNat default))])] (AV.fn 45 [AV.vadr [ub (Lp.b (List.getD (Rw.l (t.getD ((u8.wrap (y - (1 : Int))).toNat) default)) n.toNat default)), bb (Lp.w (List.getD (Rw.l (t.getD ((u8.wrap (y - (1 : Int))).toNat) default)) n.toNat default)), isl (Lp.ct (List.getD (Rw.l (t.getD ((u8.wrap (y - (1 : Int))).toNat) default)) n.toNat default)) (Lp.th (List.getD (Rw.l (t.getD ((u8.wrap (y - (1 : Int))).toNat) default)) n.toNat default)), sl (Lp.cp (List.getD (Rw.l (t.getD ((u8.wrap (y - (1 : Int))).toNat) default)) n.toNat default)) (Lp.pa (List.getD (Rw.l (t.getD ((u8.wrap (y - (1 : Int))).toNat) default)) n.toNat default))] 0])) (by (first | rw [zqh] | rw [zqg] | rw [zrd] | rw [zrc] | skip); apply yb2<;>first|assumption|rfl|(simp at *<;>omega)) (allp (p := PureC Try.prog 31 [view (AV.fn 45 [AV.vadr [ub (Lp.b (List.getD (Rw.l (t.getD ((u8.wrap (y - (1 : Int))).toNat) default)) n.toNat default)), bb (Lp.w (List.getD (Rw.l (t.getD ((u8.wrap (y - (1 : Int))).toNat) default)) n.toNat default)), isl (Lp.ct (List.getD (Rw.l (t.getD ((u8.wrap (y - (1 : Int))).toNat) default)) n.toNat default)) (Lp.th (List.getD (Rw.l (t.getD ((u8.wrap (y - (1 : Int))).toNat) default)) n.toNat default)), sl (Lp.cp (List.getD (Rw.l (t.getD ((u8.wrap (y - (1 : Int))).toNat) default)) n.toNat default)) (Lp.pa (List.getD (Rw.l (t.getD ((u8.wrap (y - (1 : Int))).toNat) default)) n.toNat default))] 0])] (iow none (zqz { b := Lp.b (List.getD (Rw.l (t.getD ((u8.wrap (y - (1 : Int))).toNat) default)) n.toNat default), w := Lp.w (List.getD (Rw.l (t.getD ((u8.wrap (y - (1 : Int))).toNat) default)) n.toNat default), ct := Lp.ct (List.getD (Rw.l (t.getD ((u8.wrap (y - (1 : Int))).toNat) default)) n.toNat default), th := Lp.th (List.getD (Rw.l (t.getD ((u8.wrap (y - (1 : Int))).toNat) default)) n.toNat default), cp := Lp.cp (List.getD (Rw.l (t.getD ((u8.wrap (y - (1 : Int))).toNat) default)) n.toNat default), pa := Lp.pa (List.getD (Rw.l (t.getD ((u8.wrap (y - (1 : Int))).toNat) default)) n.toNat default) }))) (by (first | rw [zqh] | rw [zqg] | rw [zrd] | rw [zrc] | skip); apply col_0<;>first|assumption|rfl|(simp at *<;>omega)) zqa))))))
theorem nd4_0 (y n : Int) (l : List Idd) : Tri Try.prog (cxN 39 0) (zqr Try.f19 4) ([(3, .box [ub y, it n]), (5, iow none l)]) .normal ([(3, AV.box [ub y, it n]), (5, iow none l), (24, bb (decide ((0 : Int) < n)))]) :=
 ev h19 [.c, .c, .c, .c, .c] zqa
theorem nd5_0 (y n : Int) (l : List Idd) (g0 : AV.sl .own 36 (some 1) [AV.agg [ub y, it (i64.wrap (n - (1 : Int)))]] = iow (some (1 : Nat)) [{ y := y, n := i64.wrap (n - (1 : Int)) }]) (g1 : decide ((l.map Idd.enc).length + List.length (List.map Idd.enc [{ y := y, n := i64.wrap (n - (1 : Int)) }]) ≤ (4294967296 : Nat)) = true) (g2 : AV.sl .own 36 none (List.map Idd.enc l ++ List.map Idd.enc [{ y := y, n := i64.wrap (n - (1 : Int)) }]) = iow none (l ++ [{ y := y, n := i64.wrap (n - (1 : Int)) }])) : Tri Try.prog (cxN 39 0) (zqr Try.f19 5) ([(3, .box [ub y, it n]), (5, iow none l)]) .normal ([(5, iow none (l ++ [{ y := y, n := i64.wrap (n - (1 : Int)) }]))]) :=
 ev h19 [.c, .c, .c, .c, .c, .c, .c, .c, .c, .c, .c, .r (iow (some (1 : Nat)) [{ y := y, n := i64.wrap (n - (1 : Int)) }]), .c, .b true, .r (iow none (l ++ [{ y := y, n := i64.wrap (n - (1 : Int)) }])), .c] (allp g0 (allp g1 (allp g2 zqa)))
end Tst
end

section
open Go Go.Lf Go.RowKit Go.Proofs
namespace Go.Lf
theorem MutR.room {P : Program} {f : FuncId} {e : TypeId} {xs ys : List AV} {us : List Value} {rng : Option (Nat × Nat × Option Nat)} (h : ∀ c, xs.length ≤ c → MutR P f e (some c) xs us ys rng) : MutR P f e none xs us ys rng := by
 refine ⟨(h xs.length (zly _)).1, ?_⟩
 intro B0 w S v n O hB0 hS hO1 hrv
 obtain ⟨n, rfl⟩ := hrv.pos
 obtain ⟨vs, O2, ho, _, hu, hrc, hOO⟩ := hrv
 obtain ⟨c, hc1, hc2⟩ : ∃ c, xs.length ≤ c ∧ ycs (some c) v := by
  rcases ho.2 with ⟨hv, hn0⟩ | ⟨g, k3, cur, hv, hb, hg, q1, _⟩
  ·exact ⟨0, by omega, by rw [hv]; rfl⟩
  ·exact ⟨k3, q1, by rw [hv]; rfl⟩
 refine ((h c hc1).2 B0 w S v (n + 1) O hB0 hS hO1 ⟨vs, O2, ho, hc2, hu, hrc, hOO⟩).mono ?_
 rintro en w' ⟨v2, n', O', h1, h2, h3, h4, h5, h6, h7⟩
 exact ⟨v2, n', O', h1, h2, h3, h4, Le.cap _ _ _ _ _ _ h5, h6, h7⟩
end Go.Lf
namespace Tst
theorem yuu (l : List Idd) (cc : Nat) (hc : l.length ≤ cc) : Tri Try.prog (cxN 9 1) (.region 1 (zql Try.f35 1) false) [(0, iow (some cc) l)] .normal [(0, iow (some cc) l), (2, .al 0 [] (some (0, l.length, some l.length)))] := by
 have eA : (AV.al 0 [] (some (0, Int.toNat (((List.map Idd.enc l).length : Nat) : Int) - 0, some (Int.toNat (((List.map Idd.enc l).length : Nat) : Int) - 0)))) = .al 0 [] (some (0, l.length, some l.length)) := by rw [zla]; rfl
 have h := OpsR.ev (ops := zql Try.f35 1) (os := (zql Try.f35 1).toList) (env := [(0, iow (some cc) l)]) (base 9 1) zqb.1 zqb.2 (ans := [.c, .c, .c, .c, .c, .c, .c, .b true, .b true, .c, .c]) (ps := [decide (Int.toNat (↑(List.length (List.map Idd.enc l)) : Int) ≤ Int.toNat (↑(List.length (List.map Idd.enc l)) : Int) ∧ Int.toNat (↑(List.length (List.map Idd.enc l)) : Int) ≤ cc) = true, decide ((0 : Nat) ≤ Int.toNat (↑(List.length (List.map Idd.enc l)) : Int) ∧ Int.toNat (↑(List.length (List.map Idd.enc l)) : Int) ≤ List.length (List.map Idd.enc l)) = true]) (env' := (2, .al 0 [] (some (0, Int.toNat (((List.map Idd.enc l).length : Nat) : Int) - 0, some (Int.toNat (((List.map Idd.enc l).length : Nat) : Int) - 0)))) :: (8, .al 0 [] (some (0, Int.toNat (((List.map Idd.enc l).length : Nat) : Int) - 0, some (Int.toNat (((List.map Idd.enc l).length : Nat) : Int) - 0)))) :: (7, it ((List.map Idd.enc l).length : Nat)) :: (6, .al 0 [] none) :: (5, it ((List.map Idd.enc l).length : Nat)) :: (4, .al 0 [] none) :: (3, .al 0 [] none) :: [(0, iow (some cc) l)]) (by kernel_rfl) (allp (zlb (by rw [zla]; exact ⟨zly _, hc⟩)) (allp (zlb (by rw [zla]; exact ⟨Nat.zero_le _, zly _⟩)) zqa))
 rw [eA] at h
 exact .after (kp [0, 2]) (Tri.ofR (.region h) fun e h => h)
theorem yuv : Try.f35.body = some (.seq (zqr Try.f35 0) (.seq (.region 1 (zql Try.f35 1) false) .ret)) := by kernel_rfl
theorem cl_r0 (l : List Idd) (cc : Nat) : Tri Try.prog (cxN 9 1) (zqr Try.f35 0) [(0, iow (some cc) l)] .normal [(0, iow (some cc) l)] :=
 .after (kp [0]) (zqe (H := h35) (ans := [.c, .c, .c]) (ps := []) (ans' := [.c, .c]) (env' := [(0, iow (some cc) l)]) (base 9 1) zqb.1 zqb.2 _ (by kernel_rfl) zqa)
theorem clip_m (l : List Idd) : MutR Try.prog 35 36 none (l.map Idd.enc) [] (l.map Idd.enc) (some (0, l.length, some l.length)) := by
 refine MutR.room fun c hc => ?_
 rw [zla] at hc
 exact mutR (cx := cxN 9 1) (q := 2) Try.func35 rfl (by show 1 ≤ 9; omega) rfl (ydk l) yuv ⟨rfl, rfl⟩ (.inr rfl) (.seq (cl_r0 l c) (.seq (yuu l c hc) .ret)) rfl rfl
end Tst
end

section
open Go Go.Lf Go.RowKit Go.Proofs
namespace Tst
theorem yne : Try.f19.body = some (.seq (zqr Try.f19 0) (.seq (.seq (zqr Try.f19 1) (.cond (.tmp 9) (.seq (zqr Try.f19 2) .ret) .skip)) (.seq (zqr Try.f19 3) (.seq (.seq (zqr Try.f19 4) (.cond (.tmp 24) (zqr Try.f19 5) .skip)) (.seq (.region 6 (zql Try.f19 6) false) (.seq (.region 7 (zql Try.f19 7) false) .ret)))))) := by kernel_rfl
theorem nd6 (l : List Idd) (hl : l.length ≤ 12) : Tri Try.prog (cxN 39 0) (.region 6 (zql Try.f19 6) false) [(5, iow none l)] .normal [(5, iow none (insV l))] := by
 refine .after (kp [5]) (env' := (35, .tup []) :: (5, iow none (insV l)) :: kills [(5, true)] ((34, .al 5 [] none) :: [(5, iow none l)])) (Tri.ofR (.region (R := (· = (35, .tup []) :: (5, iow none (insV l)) :: kills [(5, true)] ((34, .al 5 [] none) :: [(5, iow none l)]))) ?_) fun e h => h)
 rw [show (zql Try.f19 6).toList = (zql Try.f19 6).toList.take 1 ++ [(zql Try.f19 6).toList.getD 1 default] by kernel_rfl]
 refine .seq (OpsR.ev (base 39 0) zqb.1 zqb.2 (ans := [.c, .c]) (ps := []) (env' := (34, .al 5 [] none) :: [(5, iow none l)]) (by kernel_rfl) zqa) ?_
 rintro _ rfl
 exact OpsR.callN (ops := zql Try.f19 6) (y := (zql Try.f19 6).toList.getD 1 default) (f := 33) (x := .tmp 34) (rest := [.func 34]) (us := [fv34]) (ats := #[26, 76]) (l1 := [68, 10]) (ls := [70]) (r := 5) (e := 36) (cap := none) (xs := l.map Idd.enc) (ys := (insV l).map Idd.enc) (eff := ⟨[(35, .tup []), (5, iow none (insV l))], [(5, true)]⟩) (by kernel_rfl) (by kernel_rfl) (by kernel_rfl) ⟨⟨_, rfl, rfl⟩, trivial⟩ (ywi none l hl) (by kernel_rfl)
theorem nd7 (l : List Idd) (hl : l.length < 2 ^ 60) : Tri Try.prog (cxN 39 0) (.region 7 (zql Try.f19 7) false) [(5, iow none l)] .normal [(4, .sl .fresh 36 (some (ddI l).length) ((ddI l).map Idd.enc))] := by
 obtain ⟨ys, rng, hm, hk⟩ := yoo l hl
 refine .after (kp [4]) (env' := (4, .sl .fresh 36 (some (ddI l).length) ((ddI l).map Idd.enc)) :: (38, .sl .fresh 36 (some (ddI l).length) ((ddI l).map Idd.enc)) :: (37, .bad) :: [(37, iow none (ddI l))]) (Tri.ofR (.region (R := (· = (4, .sl .fresh 36 (some (ddI l).length) ((ddI l).map Idd.enc)) :: (38, .sl .fresh 36 (some (ddI l).length) ((ddI l).map Idd.enc)) :: (37, .bad) :: [(37, iow none (ddI l))])) ?_) fun e h => h)
 rw [show (zql Try.f19 7).toList = (zql Try.f19 7).toList.take 1 ++ ([(zql Try.f19 7).toList.getD 1 default] ++ ([(zql Try.f19 7).toList.getD 2 default] ++ (zql Try.f19 7).toList.drop 3)) by kernel_rfl]
 refine .seq (OpsR.ev (base 39 0) zqb.1 zqb.2 (ans := [.c, .c]) (ps := []) (env' := (36, .al 5 [] none) :: [(5, iow none l)]) (by kernel_rfl) zqa) ?_
 rintro _ rfl
 refine .seq (OpsR.callX (f := 36) (x := .tmp 36) (rest := []) (us := []) (ats := #[26]) (l1 := [72, 10]) (r := 5) (d := 37) (e := 36) (cap := none) (xs := l.map Idd.enc) (ys := ys) (rng := rng) (rr := iow none (ddI l)) false (kp [5]) (by kernel_rfl) (by kernel_rfl) (by kernel_rfl) trivial hm (by kernel_rfl) (by decide) (by decide) rfl (fun t y' hy => ⟨noLf (env := [(5, iow none l)]) hy (by kernel_rfl), noLf (env := [(5, iow none l)]) hy (by kernel_rfl)⟩) hk) ?_
 rintro _ rfl
 refine .seq (OpsR.callX (f := 35) (x := .tmp 37) (rest := []) (us := []) (ats := #[26]) (l1 := [74]) (r := 37) (d := 38) (e := 36) (cap := none) (xs := (ddI l).map Idd.enc) (ys := (ddI l).map Idd.enc) (rng := some (0, (ddI l).length, some (ddI l).length)) (rr := .sl .fresh 36 (some (ddI l).length) ((ddI l).map Idd.enc)) true (kp [37]) (by kernel_rfl) (by kernel_rfl) (by kernel_rfl) trivial (clip_m (ddI l)) (by kernel_rfl) (by decide) (by decide) rfl (fun t y' hy => ⟨noLf (env := [(37, iow none (ddI l))]) hy (by kernel_rfl), noLf (env := [(37, iow none (ddI l))]) hy (by kernel_rfl)⟩) ?_) ?_
 ·intro B0 w S n v v2 O hr hs
  have := Rv.clip (S' := fun b => S b ∨ (true = true ∧ 0 < O b)) hr (ydk (ddI l)) (by rw [zla]; exact hs) (fun b hb => .inr ⟨rfl, hb⟩)
  rw [zla] at this
  exact this
 ·rintro _ rfl
  exact OpsR.ev (base 39 0) zqb.1 zqb.2 (ans := [.c, .c]) (ps := []) (by kernel_rfl) zqa
def ndL (t : List Rw) (y n : Int) : List Idd := zqz (atV t y n) ++ (if 0 < n then [⟨y, n - 1⟩] else [])
def yxi (t : List Rw) (y n : Int) : AV := if hasV t y n then .sl .fresh 36 (some (ddI (insV (ndL t y n))).length) ((ddI (insV (ndL t y n))).map Idd.enc) else zqw
theorem yqb (l : List Idd) : (insV l).length = l.length := yht _ _ _
theorem ynd (c : Option Nat) (t : List Rw) (y n : Int) (h0 : 0 ≤ y) (h1 : y ≤ 255) (hn : hasV t y n = true → n < 2 ^ 60) (hL : hasV t y n = true → (ndL t y n).length ≤ 12) : PureC Try.prog 19 [tsl c t, idE y n] (yxi t y n) := by
 unfold yxi
 cases h : hasV t y n with
 | false =>
  have e1 := yxj c t y n h0 h1
  rw [h] at e1
  rw [if_neg (by simp)]
  exact ycc ((base 39 0).ok zqb.1 zqb.2) Try.func19 rfl (by show 2 ≤ 39; omega) rfl yne rfl (ex := .ret) (env' := [(4, zqw)]) (.seq (yxk c t y n) (.seqX (.seq e1 (.cond (b := true) rfl (.seq (.weak (kp [0, 3]) (nd2_0 c t y n)) .ret))) (by simp))) (by kernel_rfl)
 | true =>
  rw [if_pos rfl]
  obtain ⟨a, b, d, e⟩ := ye8 h
  have hlen := hL h
  have hn := hn h
  have hm : (zqz (atV t y n)).length ≤ 12 := by unfold ndL at hlen; rw [zlg] at hlen; omega
  have hth : (atV t y n).th.length ≤ 12 ∧ (atV t y n).pa.length ≤ 12 := by
   unfold zqz yg3 at hm
   simp at hm
   omega
  have w := ygj a h1
  have e1 := yxj c t y n h0 h1
  rw [h] at e1
  have e3 := nd3_0 c t y n
  simp only [w] at e3
  have e3' := e3 (by show (atV t y n).th.length < _; omega) (by show (atV t y n).pa.length < _; omega) (by show (zqz (atV t y n)).length ≤ _; omega) (zlb (by rw [zla]; omega)) (ybb (by omega)) (zlb (by rw [zla]; omega)) (yc7 (by omega))
  have e4 := nd4_0 y n (zqz (atV t y n))
  have hins : (insV (ndL t y n)).length < 2 ^ 60 := by rw [yqb]; omega
  have tail : Tri Try.prog (cxN 39 0) (.seq (.region 6 (zql Try.f19 6) false) (.seq (.region 7 (zql Try.f19 7) false) .ret)) [(5, iow none (ndL t y n))] .ret [(4, .sl .fresh 36 (some (ddI (insV (ndL t y n))).length) ((ddI (insV (ndL t y n))).map Idd.enc))] := .seq (nd6 _ hlen) (.seq (nd7 _ hins) .ret)
  refine ycc ((base 39 0).ok zqb.1 zqb.2) Try.func19 rfl (by show 2 ≤ 39; omega) rfl yne rfl (ex := .ret) (env' := [(4, .sl .fresh 36 (some (ddI (insV (ndL t y n))).length) ((ddI (insV (ndL t y n))).map Idd.enc))]) (.seq (yxk c t y n) (.seq (.seq e1 (.cond (b := false) rfl (.after (kp [0, 3]) .skip))) (.seq e3' (.seq (env1 := [(5, iow none (ndL t y n))]) (.seq e4 ?_) tail)))) (by kernel_rfl)
  by_cases hp : 0 < n
  ·have hw : IntKind.wrap i64 (n - 1) = n - 1 := yak (by omega) (by omega)
   have e5 := nd5_0 y n (zqz (atV t y n))
   rw [hw] at e5
   have en : ndL t y n = zqz (atV t y n) ++ [⟨y, n - 1⟩] := by unfold ndL; rw [if_pos hp]
   rw [en]
   exact .cond (b := true) (by show some (bb (decide (0 < n))) = _; rw [zlb hp]) (.weak (kp [3, 5]) (e5 rfl (zlb (by rw [zla]; show _ + 1 ≤ _; omega)) (by rw [← zlq])))
  ·have en : ndL t y n = zqz (atV t y n) := by unfold ndL; rw [if_neg hp, List.append_nil]
   rw [en]
   exact .cond (b := false) (by show some (bb (decide (0 < n))) = _; rw [zlc hp]) (.after (kp [5]) .skip)
end Tst
end

section
open Go Go.Lf Go.RowKit Go.Proofs
namespace Tst
theorem ymu {B0 : Nat} {w : World} {S : Nat → Prop} {n : Nat} {v : Value} {e : TypeId} {cap : Option Nat} {xs : List AV} {O : Own} (h : Rv Try.prog B0 w S n v (.sl .own e cap xs) O) : ∃ A l k, v = .slice A l k := by
 obtain ⟨n, rfl⟩ := h.pos
 obtain ⟨vs, O2, ho, _⟩ := h
 rcases ho.2 with ⟨hv, _⟩ | ⟨g, k3, cur, hv, _⟩
 ·exact ⟨_, _, _, hv⟩
 ·exact ⟨_, _, _, hv⟩
theorem yu1 (A A' : Option Addr) (l k l' k' : Nat) : Try.prog.built 45 [(1, .bool true), (2, .slice A l k), (3, .slice A' l' k')] = some #[.int .u8 0, .bool true, .slice A l k, .slice A' l' k'] := by kernel_rfl
theorem OpsR.build45 {cx : Cx} {ops : Array Oper} {env : Env} {y : Oper} {a b d : Nat} {ca cb : Option Nat} {xa xb : List AV} (ks : List (Nat × Wk)) (hg : y.guard = none) (ho : y.op = .build 45 #[(1, .const (.bool true)), (2, .tmp a), (3, .tmp b)]) (hd : y.dst = some d) (hdN : cx.lo ≤ d ∧ d < cx.N) (hab : a ≠ b) (hda : d ≠ a) (hdb : d ≠ b)
  (ha : lk (keepE ks env) a = some (.sl .own 36 ca xa)) (hb : lk (keepE ks env) b = some (.sl .own 56 cb xb)) (hnl : ∀ t y', lk (keepE ks env) t = some y' → zqf y' ≠ some a ∧ zqf y' ≠ some b ∧ zqf y' ≠ some d) :
  OpsR Try.prog cx ops [y] env (· = (d, .agg [ub 0, bb true, .sl .own 36 ca xa, .sl .own 56 cb xb]) :: (b, .bad) :: (a, .bad) :: keepE ks env) := by
 refine .one hg fun ρ F B0 w0 S0 ds act w Q K hag hK => ?_
 obtain ⟨hd', hN, n, S, Os, hn, hgr, hst⟩ := hag.keep (ks := ks)
 obtain ⟨va, hva, hsa⟩ := hst.rel a _ ha
 obtain ⟨vb, hvb, hsb⟩ := hst.rel b _ hb
 have hra := hsa.rv rfl
 have hrb := hsb.rv rfl
 obtain ⟨A, l, k, rfl⟩ := ymu hra
 obtain ⟨A', l', k', rfl⟩ := ymu hrb
 have ea : act.eval (.tmp a) = .slice A l k := by simp [Act.eval, zll, hva]
 have eb : act.eval (.tmp b) = .slice A' l' k' := by simp [Act.eval, zll, hvb]
 have hex : (execOp act.eval y).run Try.prog w = .ok (.value (.agg #[.int .u8 0, .bool true, .slice A l k, .slice A' l' k'])) w := by
  rw [execOp, ho]
  have := run_build w 45 #[(1, .bool true), (2, .slice A l k), (3, .slice A' l' k')] _ (yu1 A A' l k l' k')
  have e3 : act.eval (.const (.bool true)) = .bool true := rfl
  simp [ea, eb, e3, this]
 have hla : a < act.tmps.size := (zlj.1 hva).1
 have hlb : b < act.tmps.size := (zlj.1 hvb).1
 have hld : d < act.tmps.size := by rw [hN.1]; exact hdN.2
 have bad : ∀ v, Rv Try.prog B0 w S n v .bad (fun _ => 0) := fun v => by
  obtain ⟨m, rfl⟩ : ∃ m, n = m + 1 := ⟨n - 1, by omega⟩
  exact fun _ => rfl
 have k1 := hst.set (zly n) a (v := .slice A l k) (x := .bad) (O := fun _ => 0) (S' := S) (w' := w) ⟨hla, .inr hva⟩ (Below.refl _ _) (fun b hb => hb) hst.sLt (fun b t _ hb => hst.excl b t hb) (fun _ _ => rfl) (fun _ _ => rfl) (fun _ => Nat.zero_le _) (fun b t _ hb => absurd hb (by simp)) (.inr (bad _)) (fun t y' u _ hy hyr _ _ => absurd hyr (hnl t y' hy).1)
 rw [ya0 act.tmps a _ hva] at k1
 have lk1 : ∀ t y', lk ((a, .bad) :: keepE ks env) t = some y' → y' = .bad ∨ lk (keepE ks env) t = some y' := by
  intro t y' hy
  simp only [lk] at hy
  split at hy
  ·injection hy with hy; exact .inl hy.symm
  ·exact .inr hy
 have k2 := k1.set (zly n) b (v := .slice A' l' k') (x := .bad) (O := fun _ => 0) (S' := S) (w' := w) ⟨hlb, .inr hvb⟩ (Below.refl _ _) (fun b hb => hb) k1.sLt (fun b t _ hb => k1.excl b t hb) (fun _ _ => rfl) (fun _ _ => rfl) (fun _ => Nat.zero_le _) (fun b t _ hb => absurd hb (by simp)) (.inr (bad _)) (fun t y' u _ hy hyr _ _ => by
  exfalso
  rcases lk1 t y' hy with rfl | hy
  ·cases hyr
  ·exact (hnl t y' hy).2.1 hyr)
 rw [ya0 act.tmps b _ hvb] at k2
 have lk2 : ∀ t y', lk ((b, .bad) :: (a, .bad) :: keepE ks env) t = some y' → y' = .bad ∨ lk (keepE ks env) t = some y' := by
  intro t y' hy
  simp only [lk] at hy
  split at hy
  ·injection hy with hy; exact .inl hy.symm
  ·exact lk1 t y' hy
 have k3 := k2.set (Nat.le_succ n) d (v := .agg #[.int .u8 0, .bool true, .slice A l k, .slice A' l' k']) (x := .agg [ub 0, bb true, .sl .own 36 ca xa, .sl .own 56 cb xb]) (O := fun q => Os a q + Os b q) (S' := S) (w' := w) ⟨hld, .inl (by rw [hN.2]; exact hdN.1)⟩ (Below.refl _ _) (fun b hb => hb) k2.sLt (fun b t _ hb => k2.excl b t hb)
  (fun q hq => by have := hst.excl q a hq; have := hst.excl q b hq; omega) (fun _ _ => rfl)
  (fun q => by have := hst.one a q; have := hst.one b q; rcases hst.dis a b q hab with h | h <;> omega)
  (fun q t _ hq => by
   by_cases htb : t = b
   ·simp [htb]
   ·rw [if_neg htb]
    by_cases hta : t = a
    ·simp [hta]
    ·rw [if_neg hta]
     rcases hst.dis t a q hta with h | h
     ·exact h
     ·rcases hst.dis t b q htb with h2 | h2
      ·exact h2
      ·omega)
  (.inr ⟨#[.int .u8 0, .bool true, .slice A l k, .slice A' l' k'], rfl, by
   obtain ⟨m, rfl⟩ : ∃ m, n = m + 1 := ⟨n - 1, by omega⟩
   exact .cons (O1 := fun _ => 0) (O2 := fun q => Os a q + Os b q) ⟨rfl, fun _ => rfl⟩ (.cons (O1 := fun _ => 0) (O2 := fun q => Os a q + Os b q) ⟨rfl, fun _ => rfl⟩ (.cons (O1 := Os a) (O2 := Os b) hra (.cons (O1 := Os b) (O2 := fun _ => 0) hrb (.nil fun _ => rfl) fun _ => rfl) fun _ => rfl) fun q => by simp) fun q => by simp⟩)
  (fun t y' u _ hy hyr _ _ => by
   exfalso
   rcases lk2 t y' hy with rfl | hy
   ·cases hyr
   ·exact (hnl t y' hy).2.2 hyr)
 refine opIn (by intro c hc; rw [ho] at hc; cases hc) (ybz hex ?_)
 rw [hd]
 exact hK _ rfl _ _ ⟨hd', by simpa [Act.put] using hN, n + 1, S, _, by omega, hgr, k3⟩
end Tst
end

section
open Go Go.Lf Go.RowKit Go.Proofs
namespace Tst
theorem yor : Try.prog.cellsOf 45 = 4 := by kernel_rfl
noncomputable def ie45 : TypeInfo := (Try.prog.info? 45).get (by kernel_rfl)
theorem yy1 : Try.prog.info? 45 = some ie45 := by kernel_rfl
theorem yvg : ie45.zero = some (.agg #[.int .u8 0, .bool false, .slice none 0 0, .slice none 0 0]) := by kernel_rfl
theorem ymg : ie45.size = 4 := by kernel_rfl
theorem yzp (a0 a1 a2 a3 : Value) : Instr.fill (fun i => some (i * 4, 4)) ((Array.range (1 * 4)).map ((Value.agg #[.int .u8 0, .bool false, .slice none 0 0, .slice none 0 0]).cells[· % (Value.agg #[.int .u8 0, .bool false, .slice none 0 0, .slice none 0 0]).cells.size]!)) [(0, .agg #[a0, a1, a2, a3])] = some #[a0, a1, a2, a3] := by kernel_rfl
theorem ypp (w : World) (a0 a1 a2 a3 : Value) : (Instr.buildSlice 37 1 #[(0, .agg #[a0, a1, a2, a3])]).run Try.prog w = .ok (.slice (some ⟨w.heap.size, 0, none⟩) 1 1) (w.alloc (.cells #[a0, a1, a2, a3] 45)) := by
 refine run_buildSlice w 37 45 1 _ _ ie45 _ Try.underlying37 yy1 yvg (by rw [ymg]; decide) (by rw [ymg]; decide) ?_
 rw [ymg]
 exact yzp a0 a1 a2 a3
theorem OpsR.slice45 {cx : Cx} {ops : Array Oper} {env : Env} {y : Oper} {s d : Nat} {c0 c1 c2 c3 : AV} (ks : List (Nat × Wk)) (hg : y.guard = none) (ho : y.op = .buildSlice 37 1 #[(0, .tmp s)]) (hd : y.dst = some d) (hdN : cx.lo ≤ d ∧ d < cx.N) (hds : d ≠ s)
  (hs : lk (keepE ks env) s = some (.agg [c0, c1, c2, c3])) (hnl : ∀ t y', lk (keepE ks env) t = some y' → zqf y' ≠ some s ∧ zqf y' ≠ some d) :
  OpsR Try.prog cx ops [y] env (· = (d, .sl .own 45 (some 1) [.agg [c0, c1, c2, c3]]) :: (s, .bad) :: keepE ks env) := by
 refine .one hg fun ρ F B0 w0 S0 ds act w Q K hag hK => ?_
 obtain ⟨hd', hN, n, S, Os, hn, hgr, hst⟩ := hag.keep (ks := ks)
 obtain ⟨vs, hvs, hss⟩ := hst.rel s _ hs
 have hrs := hss.rv rfl
 obtain ⟨n, rfl⟩ := hrs.pos
 obtain ⟨us, rfl, hrc⟩ := hrs
 have hlen := hrc.length
 obtain ⟨a0, a1, a2, a3, hus⟩ : ∃ a0 a1 a2 a3, us.toList = [a0, a1, a2, a3] := by
  match us.toList, hlen with
  | [a0, a1, a2, a3], _ => exact ⟨a0, a1, a2, a3, rfl⟩
 have hus' : us = #[a0, a1, a2, a3] := by rw [← Array.toArray_toList (xs := us), hus]
 subst hus'
 have es : act.eval (.tmp s) = .agg #[a0, a1, a2, a3] := by simp [Act.eval, zll, hvs]
 have hex : (execOp act.eval y).run Try.prog w = .ok (.value (.slice (some ⟨w.heap.size, 0, none⟩) 1 1)) (w.alloc (.cells #[a0, a1, a2, a3] 45)) := by
  rw [execOp, ho]
  simp [es, ypp]
 have hls : s < act.tmps.size := (zlj.1 hvs).1
 have hld : d < act.tmps.size := by rw [hN.1]; exact hdN.2
 have k1 := hst.set (zly (n + 1)) s (v := .agg #[a0, a1, a2, a3]) (x := .bad) (O := fun _ => 0) (S' := S) (w' := w) ⟨hls, .inr hvs⟩ (Below.refl _ _) (fun b hb => hb) hst.sLt (fun b t _ hb => hst.excl b t hb) (fun _ _ => rfl) (fun _ _ => rfl) (fun _ => Nat.zero_le _) (fun b t _ hb => absurd hb (by simp)) (.inr fun _ => rfl) (fun t y' u _ hy hyr _ _ => absurd hyr (hnl t y' hy).1)
 rw [ya0 act.tmps s _ hvs] at k1
 obtain ⟨w1, hw1⟩ : ∃ w1, w.alloc (.cells #[a0, a1, a2, a3] 45) = w1 := ⟨_, rfl⟩
 have hB1 : Below w.heap.size w w1 := by rw [← hw1]; exact (Below.refl _ w).alloc (zly _) _
 have hnew : w1.heap[w.heap.size]? = some (.cells #[a0, a1, a2, a3] 45) := by rw [← hw1]; exact heap_alloc_new w _
 have hlt : ∀ t b, 0 < Os t b → b < w.heap.size := fun t b hb => (St.lt (a := act) hst t b hb).2
 have hsz1 : w.heap.size ≤ w1.heap.size := hB1.size
 have hOz : ∀ t, Os t w.heap.size = 0 := fun t => by
  rcases zlt (Os t w.heap.size) with h | h
  ·exact h
  ·have := hlt t _ h; omega
 have k2 := k1.set (Nat.le_succ (n + 1)) d (v := .slice (some ⟨w.heap.size, 0, none⟩) 1 1) (x := .sl .own 45 (some 1) [.agg [c0, c1, c2, c3]]) (O := fun q => Os s q + ind (some w.heap.size) q) (S' := S) (w' := w1) ⟨hld, .inl (by rw [hN.2]; exact hdN.1)⟩ (hB1.mono hst.b0) (fun b hb => hb)
  (fun b hb => by have := hst.sLt b hb; omega) (fun b t _ hb => k1.excl b t hb)
  (fun q hq => by
   have := hst.excl q s hq
   have h2 := hst.sLt q hq
   unfold ind
   rw [if_neg (by intro e; injection e with e; omega)]; omega)
  (fun q hq => hB1.block q (by
   rcases hq with hq | ⟨t, _, hq⟩
   ·exact hst.sLt q hq
   ·by_cases hts : t = s
    ·rw [if_pos hts] at hq; omega
    ·rw [if_neg hts] at hq; exact hlt t q hq))
  (fun q => by
   have := hst.one s q
   unfold ind
   split
   ·rename_i e; injection e with e; subst e; have := hOz s; omega
   ·omega)
  (fun q t _ hq => by
   by_cases hts : t = s
   ·simp [hts]
   ·rw [if_neg hts]
    unfold ind at hq
    split at hq
    ·rename_i e; injection e with e; subst e; exact hOz t
    ·rcases hst.dis t s q hts with h | h
     ·exact h
     ·omega)
  (.inr ⟨[a0, a1, a2, a3], Os s, by
   rw [yor]
   exact ⟨rfl, .inr ⟨w.heap.size, 1, #[a0, a1, a2, a3], rfl, hst.b0, hnew, zly _, by decide, rfl, rfl⟩⟩, rfl, by
   rw [yor]
   intro z hz
   rw [zlv] at hz; subst hz; rfl, by
   show Rc _ [a0, a1, a2, a3] [c0, c1, c2, c3] (Os s)
   have := hrc.frame (S' := S) (w' := w1) (fun _ h => h) (fun b hb => hB1.block b (hst.sLt b hb)) (fun b hb => hB1.block b (hlt s b hb))
   exact this.le (Nat.le_succ n), fun q => rfl⟩)
  (fun t y' u _ hy hyr _ _ => by
   exfalso
   simp only [lk] at hy
   split at hy
   ·injection hy with hy; subst hy; cases hyr
   ·exact (hnl t y' hy).2 hyr)
 rw [hw1] at hex
 refine opIn (by intro c hc; rw [ho] at hc; cases hc) (ybz hex ?_)
 rw [hd]
 exact hK _ rfl _ _ ⟨hd', by simpa [Act.put] using hN, n + 2, S, _, by omega, hgr, k2⟩
set_option maxHeartbeats 0
theorem ex0_0  : Tri Try.prog (cxN 21 0) (zqr Try.f27 0) ([]) .normal ([]) :=
 ev h27 [.c] zqa
theorem ex1_0  : Tri Try.prog (cxN 21 0) (zqr Try.f27 1) ([]) .normal ([(1, AV.sl .own 37 (some 6) [zqw, zqw, zqw, zqw, zqw, zqw])]) :=
 ev h27 [.c, .c, .c] zqa
theorem ex2_0  (g0 : AV.sl .own 36 (some 1) [AV.agg [ub 1, it 1]] = iow (some (1 : Nat)) [{ y := (1 : Int), n := (1 : Int) }]) (g1 : AV.sl .fresh 36 (some 1) [AV.agg [ub (Idd.y { y := (1 : Int), n := (1 : Int) }), it (Idd.n { y := (1 : Int), n := (1 : Int) })]] = AV.sl .fresh 36 (some (1 : Nat)) (List.map Idd.enc [{ y := (1 : Int), n := (1 : Int) }])) : Tri Try.prog (cxN 21 0) (zqr Try.f27 2) ([(1, .sl .own 37 (some 6) [zqw, zqw, zqw, zqw, zqw, zqw])]) .normal ([(1, AV.sl .own 37 (some 6) [AV.sl .own 45 (some 3) [AV.agg [ub 0, bb true, zqw, zqw], AV.agg [ub 0, bb false, zqw, zqw], AV.agg [ub 0, bb false, AV.sl .fresh 36 (some 1) [AV.agg [ub (Idd.y { y := (1 : Int), n := (1 : Int) }), it (Idd.n { y := (1 : Int), n := (1 : Int) })]], zqw]], zqw, zqw, zqw, zqw, zqw])]) :=
 ev h27 [.c, .c, .c, .c, .r (iow (some (1 : Nat)) [{ y := (1 : Int), n := (1 : Int) }]), .r (AV.sl .fresh 36 (some (1 : Nat)) (List.map Idd.enc [{ y := (1 : Int), n := (1 : Int) }])), .c, .c, .c, .c, .c, .c, .c] (allp g0 (allp g1 zqa))
end Tst
end

section
open Go Go.Lf Go.RowKit Go.Proofs
namespace Tst
abbrev p11 : Ps := ⟨1, 1, false, 1⟩
abbrev R1w : AV := .sl .own 45 (some 3) [.agg [ub 0, bb true, zqw, zqw], .agg [ub 0, bb false, zqw, zqw], .agg [ub 0, bb false, .sl .fresh 36 (some 1) [Idd.enc ⟨1, 1⟩], zqw]]
abbrev O17 : AV := .agg [ub 0, bb true, .sl .own 36 (some 1) [Idd.enc ⟨1, 0⟩], .sl .own 56 (some 1) [Ps.enc p11]]
abbrev x3 : Env := [(1, .sl .own 37 (some 6) [R1w, zqw, zqw, zqw, zqw, zqw])]
abbrev x4 : Env := [(1, .sl .own 37 (some 6) [R1w, .sl .own 45 (some 1) [O17], zqw, zqw, zqw, zqw])]
theorem ex_r3 : Tri Try.prog (cxN 21 0) (.region 3 (zql Try.f27 3) false) x3 .normal x4 := by
 refine .after (kp [1]) (env' := (1, .sl .own 37 (some 6) [R1w, .sl .own 45 (some 1) [O17], zqw, zqw, zqw, zqw]) :: (18, .bad) :: (19, .adr 1 [] 1 0) :: (18, .sl .own 45 (some 1) [O17]) :: (17, .bad) :: [(1, .sl .own 37 (some 6) [R1w, zqw, zqw, zqw, zqw, zqw]), (11, .al 1 [] none), (17, O17)]) (Tri.ofR (.region (R := (· = (1, .sl .own 37 (some 6) [R1w, .sl .own 45 (some 1) [O17], zqw, zqw, zqw, zqw]) :: (18, .bad) :: (19, .adr 1 [] 1 0) :: (18, .sl .own 45 (some 1) [O17]) :: (17, .bad) :: [(1, .sl .own 37 (some 6) [R1w, zqw, zqw, zqw, zqw, zqw]), (11, .al 1 [] none), (17, O17)])) ?_) fun e h => h)
 rw [show (zql Try.f27 3).toList = (zql Try.f27 3).toList.take 6 ++ ([(zql Try.f27 3).toList.getD 6 default] ++ ([(zql Try.f27 3).toList.getD 7 default] ++ (zql Try.f27 3).toList.drop 8)) by kernel_rfl]
 refine .seq (OpsR.ev (base 21 0) zqb.1 zqb.2 (ans := [.c, .c, .c, .c, .c, .c, .c, .c, .c, .c, .c, .c]) (ps := []) (env' := (16, .sl .own 56 (some 1) [Ps.enc p11]) :: (15, Ps.enc p11) :: (14, Idd.enc ⟨1, 1⟩) :: (13, .sl .own 36 (some 1) [Idd.enc ⟨1, 0⟩]) :: (12, Idd.enc ⟨1, 0⟩) :: (11, .al 1 [] none) :: x3) (by kernel_rfl) zqa) ?_
 rintro _ rfl
 have nl : ∀ (e : Env) (a b d : Nat), e.all (fun r => zqf r.2 != some a && zqf r.2 != some b && zqf r.2 != some d) = true → ∀ t y', lk e t = some y' → zqf y' ≠ some a ∧ zqf y' ≠ some b ∧ zqf y' ≠ some d := by
  intro e a b d h t y' hy
  refine ⟨noLf hy ?_, noLf hy ?_, noLf hy ?_⟩ <;>
  ·rw [zls] at h ⊢
   intro r hr
   have := h r hr
   simp only [zlo] at this
   simp_all
 refine .seq (OpsR.build45 (a := 13) (b := 16) (d := 17) (kp [1, 11, 13, 16]) (by kernel_rfl) (by kernel_rfl) (by kernel_rfl) (by decide) (by decide) (by decide) (by decide) rfl rfl (nl _ 13 16 17 (by kernel_rfl))) ?_
 rintro _ rfl
 refine .seq (OpsR.slice45 (s := 17) (d := 18) (kp [1, 11, 17]) (by kernel_rfl) (by kernel_rfl) (by kernel_rfl) (by decide) (by decide) rfl (fun t y' hy => ⟨(nl _ 17 18 18 (by kernel_rfl) t y' hy).1, (nl _ 17 18 18 (by kernel_rfl) t y' hy).2.1⟩)) ?_
 rintro _ rfl
 exact OpsR.ev (base 21 0) zqb.1 zqb.2 (ans := [.c, .c, .c, .c, .c, .c]) (ps := []) (by kernel_rfl) zqa
end Tst
end

section
open Go Go.Lf Go.RowKit Go.Proofs
namespace Tst
abbrev No : AV := .sl .own 45 (some 0) []
abbrev F36 : AV := .sl .fresh 36 (some 0) []
abbrev F56 : AV := .sl .fresh 56 (some 0) []
abbrev R1o : AV := .sl .own 45 (some 3) [.agg [ub 0, bb true, F36, F56], .agg [ub 0, bb false, F36, F56], .agg [ub 0, bb false, .sl .fresh 36 (some 1) [Idd.enc ⟨1, 1⟩], F56]]
abbrev exO : AV := .sl .own 37 (some 6) [R1o, .sl .own 45 (some 1) [O17], No, No, No, No]
theorem le_R1 : Le Try.prog R1w R1o := by
 refine Le.ownEls rfl (fun sz hu y hy => ?_) ?_
 ·have := hu (.agg [ub 0, bb true, zqw, zqw]) (by simp)
  rw [← this]
  simp only [List.mem_cons, List.mem_nil_iff, or_false] at hy
  rcases hy with rfl | rfl | rfl <;> rfl
 ·show F2 (Le Try.prog) [ub 0, bb true, zqw, zqw, ub 0, bb false, zqw, zqw, ub 0, bb false, .sl .fresh 36 (some 1) [Idd.enc ⟨1, 1⟩], zqw] [ub 0, bb true, F36, F56, ub 0, bb false, F36, F56, ub 0, bb false, .sl .fresh 36 (some 1) [Idd.enc ⟨1, 1⟩], F56]
  exact .cons (Le.refl _) (.cons (Le.refl _) (.cons (Le.nilF 36) (.cons (Le.nilF 56) (.cons (Le.refl _) (.cons (Le.refl _) (.cons (Le.nilF 36) (.cons (Le.nilF 56) (.cons (Le.refl _) (.cons (Le.refl _) (.cons (Le.refl _) (.cons (Le.nilF 56) .nil)))))))))))
theorem le_ex : Le Try.prog (.sl .own 37 (some 6) [R1w, .sl .own 45 (some 1) [O17], zqw, zqw, zqw, zqw]) exO := by
 refine Le.ownEls rfl (fun sz hu y hy => ?_) ?_
 ·have := hu R1w (by simp)
  rw [← this]
  simp only [List.mem_cons, List.mem_nil_iff, or_false] at hy
  rcases hy with rfl | rfl | rfl | rfl | rfl | rfl <;> rfl
 ·show F2 (Le Try.prog) [R1w, .sl .own 45 (some 1) [O17], zqw, zqw, zqw, zqw] [R1o, .sl .own 45 (some 1) [O17], No, No, No, No]
  exact .cons le_R1 (.cons (Le.refl _) (.cons (Le.nilOwn 45) (.cons (Le.nilOwn 45) (.cons (Le.nilOwn 45) (.cons (Le.nilOwn 45) .nil)))))
theorem yuf : Try.f27.body = some (.seq (zqr Try.f27 0) (.seq (zqr Try.f27 1) (.seq (zqr Try.f27 2) (.seq (.region 3 (zql Try.f27 3) false) (.seq (.region 4 (zql Try.f27 4) false) .ret))))) := by kernel_rfl
theorem ex_r4 (x : List AV) : Tri Try.prog (cxN 21 0) (.region 4 (zql Try.f27 4) false) [(1, .sl .own 37 (some 6) x)] .normal [(0, .al 1 [] none), (1, .sl .own 37 (some 6) x)] := by
 have h := OpsR.ev (ops := zql Try.f27 4) (os := (zql Try.f27 4).toList) (env := [(1, .sl .own 37 (some 6) x)]) (base 21 0) zqb.1 zqb.2 (ans := [.c, .c, .c, .c]) (ps := []) (env' := (0, .al 1 [] none) :: (20, .al 1 [] none) :: [(1, .sl .own 37 (some 6) x)]) (by kernel_rfl) zqa
 exact .after (kp [0, 1]) (Tri.ofR (.region h) fun e h => h)
theorem yoc : PureC Try.prog 27 [] exO := by
 have h : PureC Try.prog 27 [] (.sl .own 37 (some 6) [R1w, .sl .own 45 (some 1) [O17], zqw, zqw, zqw, zqw]) := by
  refine ycc ((base 21 0).ok zqb.1 zqb.2) Try.func27 rfl (by show 0 ≤ 21; omega) rfl yuf rfl (ex := .ret) (env' := [(0, .al 1 [] none), (1, .sl .own 37 (some 6) [R1w, .sl .own 45 (some 1) [O17], zqw, zqw, zqw, zqw])]) ?_ (by kernel_rfl)
  exact .seq (.after (kp []) ex0_0) (.seq (.after (kp [1]) ex1_0) (.seq (.after (kp [1]) (ex2_0 rfl rfl)) (.seq ex_r3 (.seq (ex_r4 _) .ret))))
 exact h.res le_ex
def exT : List Rw := [⟨some 3, [⟨0, true, some 0, [], some 0, []⟩, ⟨0, false, some 0, [], some 0, []⟩, ⟨0, false, some 1, [⟨1, 1⟩], some 0, []⟩]⟩, ⟨some 1, [⟨0, true, some 1, [⟨1, 0⟩], some 1, [p11]⟩]⟩, ⟨some 0, []⟩, ⟨some 0, []⟩, ⟨some 0, []⟩, ⟨some 0, []⟩]
end Tst
end

section
open Go Go.Lf Go.RowKit Go.Proofs
namespace Tst
abbrev exV : AV := tsl (some 6) exT
theorem exT_ok : OkT exT := by
 intro r hr L hL
 simp only [exT, List.mem_cons, List.mem_nil_iff, or_false] at hr
 rcases hr with rfl | rfl | rfl | rfl | rfl | rfl <;> simp only [List.mem_cons, List.mem_nil_iff, or_false] at hL
 ·rcases hL with rfl | rfl | rfl <;> exact ⟨fun p hp => by simp [zqz, yg3] at hp <;> (try subst hp) <;> simp, by decide, by decide⟩
 ·subst hL; exact ⟨fun p hp => by simp [zqz, yg3] at hp; rcases hp with rfl | rfl <;> simp, by decide, by decide⟩
theorem yfd : ∀ r ∈ exT, r.l.length < 2 ^ 60 := by
 intro r hr
 simp only [exT, List.mem_cons, List.mem_nil_iff, or_false] at hr
 rcases hr with rfl | rfl | rfl | rfl | rfl | rfl <;> decide
theorem yjg : cntV exT = 4 := by kernel_rfl
theorem yfe : exT.length = 6 := by kernel_rfl
abbrev oL : List Idd := [⟨1, 0⟩, ⟨1, 1⟩, ⟨1, 2⟩, ⟨2, 0⟩]
theorem yqk : chV exT = 0 := by decide
theorem x_ord : PureC Try.prog 10 [exV] (.tup [iow (some 4) oL, it 0]) := by
 have h := ys4 (some 6) exT (twV exT) (by rw [yjg]; decide) (by rw [yfe]; decide) yfd exT_ok (exT_ok.tw (by rw [yjg]; decide) (by rw [yfe]; decide) yfd)
 have e : yj4 exT (twV exT) = .tup [iow (some 4) oL, it 0] := by
  unfold yj4
  rw [if_pos (show yaq exT (twV exT) = 0 from yqk)]
  rfl
 rw [e] at h
 exact h
end Tst
end

section
open Go Go.Lf Go.RowKit Go.Proofs
namespace Tst
theorem x_ab1 : PureC Try.prog 20 [exV, .agg [ub 1, it 0]] (.tup [idE 2 0, bb true]) := yo3 (some 6) exT 1 0 (by rw [yfe]; decide) yfd exT_ok
theorem x_ab2 : PureC Try.prog 20 [exV, .agg [ub 2, it 0]] (.tup [idE 0 0, bb false]) := yo3 (some 6) exT 2 0 (by rw [yfe]; decide) yfd exT_ok
theorem yvj : PureC Try.prog 19 [exV, .agg [ub 2, it 0]] (.sl .fresh 36 (some 2) [Idd.enc ⟨1, 0⟩, Idd.enc ⟨1, 1⟩]) := ynd (some 6) exT 2 0 (by decide) (by decide) (fun _ => by decide) (fun _ => by decide)
theorem yvi : PureC Try.prog 19 [exV, .agg [ub 1, it 2]] (.sl .fresh 36 (some 1) [Idd.enc ⟨1, 1⟩]) := ynd (some 6) exT 1 2 (by decide) (by decide) (fun _ => by decide) (fun _ => by decide)
abbrev st (l : List UInt8) : AV := .atom (.string ⟨l.toArray⟩)
theorem yse : PureC Try.prog 21 [.sl .any 36 (some 4) [Idd.enc ⟨1, 0⟩, Idd.enc ⟨1, 1⟩, Idd.enc ⟨1, 2⟩, Idd.enc ⟨2, 0⟩]] (st [49, 46, 48, 32, 49, 46, 49, 32, 49, 46, 50, 32, 50, 46, 48, 32]) := yhr (some 4) oL (by decide)
theorem ysd : PureC Try.prog 21 [.sl .any 36 (some 2) [Idd.enc ⟨1, 0⟩, Idd.enc ⟨1, 1⟩]] (st [49, 46, 48, 32, 49, 46, 49, 32]) := yhr (some 2) [⟨1, 0⟩, ⟨1, 1⟩] (by decide)
theorem ysc : PureC Try.prog 21 [.sl .any 36 (some 1) [Idd.enc ⟨1, 1⟩]] (st [49, 46, 49, 32]) := yhr (some 1) [⟨1, 1⟩] (by decide)
abbrev addL (y n : Int) : Lp := ⟨0, false, some 1, [⟨y, n⟩], some 0, []⟩
theorem yo2 (y n : Int) (h0 : 0 ≤ y) (h1 : y ≤ 255) : GoodL (addL y n) := ⟨fun p hp => by simp [zqz, yg3] at hp; subst hp; exact ⟨h0, h1⟩, by show 1 ≤ 4294967296; decide, by show 0 ≤ 4294967296; decide⟩
theorem ysf (y n : Int) (h0 : 0 ≤ y) (h1 : y ≤ 255) (r : AV) (hr : addV exT 1 (addL y n) = r) : PureC Try.prog 17 [exV, ub 1, .agg [ub 0, bb false, .sl .any 36 (some 1) [Idd.enc ⟨y, n⟩], zqw]] r := by
 have h := add_c (some 6) exT 1 (addL y n) (by rw [yjg]; decide) (by rw [yfe]; decide) yfd exT_ok (by decide) (by decide) (yo2 y n h0 h1)
 rw [hr] at h
 exact h.args (.cons (Le.refl _) (.cons (Le.refl _) (.cons (Le.agg (.cons (Le.refl _) (.cons (Le.refl _) (.cons (Le.refl _) (.cons (Le.nil 56) .nil))))) .nil)))
abbrev uR : List (List Lp) := zrj exT 1 (addL 2 0)
theorem yzt : chV (rwO (zrj exT 1 (addL 2 0))) = 0 := by decide
theorem yzs : chV (rwO (zrj exT 1 (addL 1 1))) = 8 := by decide
theorem yzr : chV (rwO (zrj exT 1 (addL 2 1))) = 1 := by decide
theorem yvm : PureC Try.prog 17 [exV, ub 1, .agg [ub 0, bb false, .sl .any 36 (some 1) [Idd.enc ⟨2, 0⟩], zqw]] (.tup [tOW uR, it 0]) := ysf 2 0 (by decide) (by decide) _ (by
 unfold addV
 rw [if_pos yqk, if_neg (by decide), if_pos yzt])
theorem yvl : PureC Try.prog 17 [exV, ub 1, .agg [ub 0, bb false, .sl .any 36 (some 1) [Idd.enc ⟨1, 1⟩], zqw]] (.tup [zqw, it 8]) := ysf 1 1 (by decide) (by decide) _ (by
 unfold addV
 rw [if_pos yqk, if_neg (by decide), yzs, if_neg (by decide)])
theorem yvk : PureC Try.prog 17 [exV, ub 1, .agg [ub 0, bb false, .sl .any 36 (some 1) [Idd.enc ⟨2, 1⟩], zqw]] (.tup [zqw, it 1]) := ysf 2 1 (by decide) (by decide) _ (by
 unfold addV
 rw [if_pos yqk, if_neg (by decide), yzr, if_neg (by decide)])
theorem x_cnt : PureC Try.prog 12 [tsl none (rwO uR)] (it 5) := ybp none (rwO uR) (by decide) (by decide)
def exT2 : List Rw := [⟨some 3, [⟨0, true, some 1, [⟨2, 0⟩], some 0, []⟩, ⟨0, false, some 0, [], some 0, []⟩, ⟨0, false, some 1, [⟨1, 1⟩], some 0, []⟩]⟩, ⟨some 1, [⟨0, true, some 0, [], some 1, [⟨1, 0, false, 1⟩]⟩]⟩, ⟨some 0, []⟩, ⟨some 0, []⟩, ⟨some 0, []⟩, ⟨some 0, []⟩]
theorem yug : OkT exT2 := by
 intro r hr L hL
 simp only [exT2, List.mem_cons, List.mem_nil_iff, or_false] at hr
 rcases hr with rfl | rfl | rfl | rfl | rfl | rfl <;> simp only [List.mem_cons, List.mem_nil_iff, or_false] at hL
 ·rcases hL with rfl | rfl | rfl <;> exact ⟨fun p hp => by simp [zqz, yg3] at hp <;> (try subst hp) <;> simp, by decide, by decide⟩
 ·subst hL; exact ⟨fun p hp => by simp [zqz, yg3] at hp; subst hp; simp, by decide, by decide⟩
theorem yql : ∀ r ∈ exT2, r.l.length < 2 ^ 60 := by
 intro r hr
 simp only [exT2, List.mem_cons, List.mem_nil_iff, or_false] at hr
 rcases hr with rfl | rfl | rfl | rfl | rfl | rfl <;> decide
theorem yzq : chV exT2 = 6 := by decide
theorem x_chk : PureC Try.prog 11 [tsl (some 6) exT2] (it 6) := by
 have h := yhf (some 6) exT2 (by decide) (by decide) yql yug
 rw [yzq] at h
 exact h
set_option maxHeartbeats 0
abbrev A2 : AV := .al 14 [(0, 0)] none
abbrev T14 : AV := .tup [iow (some 4) oL, it 0]
theorem lv0_0  : Tri Try.prog (cxN 129 0) (zqr Try.f14 0) ([]) .normal ([]) :=
 ev h14 [.c] zqa
theorem lv1_0  : Tri Try.prog (cxN 129 0) (zqr Try.f14 1) ([]) .normal ([(1, AV.sl .own 37 (some 6) [AV.sl .own 45 (some 3) [AV.agg [ub 0, bb true, AV.sl .fresh 36 (some 0) [], AV.sl .fresh 56 (some 0) []], AV.agg [ub 0, bb false, AV.sl .fresh 36 (some 0) [], AV.sl .fresh 56 (some 0) []], AV.agg [ub 0, bb false, AV.sl .fresh 36 (some 1) [AV.agg [ub (Idd.y { y := (1 : Int), n := (1 : Int) }), it (Idd.n { y := (1 : Int), n := (1 : Int) })]], AV.sl .fresh 56 (some 0) []]], AV.sl .own 45 (some 1) [AV.agg [ub 0, bb true, AV.sl .own 36 (some 1) [AV.agg [ub (Idd.y { y := (1 : Int), n := (0 : Int) }), it (Idd.n { y := (1 : Int), n := (0 : Int) })]], AV.sl .own 56 (some 1) [AV.agg [ub (Ps.y p11), it (Ps.n p11), bb (Ps.f p11), ub (Ps.d p11)]]]], AV.sl .own 45 (some 0) [], AV.sl .own 45 (some 0) [], AV.sl .own 45 (some 0) [], AV.sl .own 45 (some 0) []])]) :=
 ev h14 [.r (AV.sl .own 37 (some 6) [AV.sl .own 45 (some 3) [AV.agg [ub 0, bb true, AV.sl .fresh 36 (some 0) [], AV.sl .fresh 56 (some 0) []], AV.agg [ub 0, bb false, AV.sl .fresh 36 (some 0) [], AV.sl .fresh 56 (some 0) []], AV.agg [ub 0, bb false, AV.sl .fresh 36 (some 1) [AV.agg [ub (Idd.y { y := (1 : Int), n := (1 : Int) }), it (Idd.n { y := (1 : Int), n := (1 : Int) })]], AV.sl .fresh 56 (some 0) []]], AV.sl .own 45 (some 1) [AV.agg [ub 0, bb true, AV.sl .own 36 (some 1) [AV.agg [ub (Idd.y { y := (1 : Int), n := (0 : Int) }), it (Idd.n { y := (1 : Int), n := (0 : Int) })]], AV.sl .own 56 (some 1) [AV.agg [ub (Ps.y p11), it (Ps.n p11), bb (Ps.f p11), ub (Ps.d p11)]]]], AV.sl .own 45 (some 0) [], AV.sl .own 45 (some 0) [], AV.sl .own 45 (some 0) [], AV.sl .own 45 (some 0) []]), .c, .c, .c] (allp (p := PureC Try.prog 27 [] (AV.sl .own 37 (some 6) [AV.sl .own 45 (some 3) [AV.agg [ub 0, bb true, AV.sl .fresh 36 (some 0) [], AV.sl .fresh 56 (some 0) []], AV.agg [ub 0, bb false, AV.sl .fresh 36 (some 0) [], AV.sl .fresh 56 (some 0) []], AV.agg [ub 0, bb false, AV.sl .fresh 36 (some 1) [AV.agg [ub (Idd.y { y := (1 : Int), n := (1 : Int) }), it (Idd.n { y := (1 : Int), n := (1 : Int) })]], AV.sl .fresh 56 (some 0) []]], AV.sl .own 45 (some 1) [AV.agg [ub 0, bb true, AV.sl .own 36 (some 1) [AV.agg [ub (Idd.y { y := (1 : Int), n := (0 : Int) }), it (Idd.n { y := (1 : Int), n := (0 : Int) })]], AV.sl .own 56 (some 1) [AV.agg [ub (Ps.y p11), it (Ps.n p11), bb (Ps.f p11), ub (Ps.d p11)]]]], AV.sl .own 45 (some 0) [], AV.sl .own 45 (some 0) [], AV.sl .own 45 (some 0) [], AV.sl .own 45 (some 0) []])) (by apply yoc<;>first|assumption|rfl|(simp at *<;>omega)) zqa)
theorem lv2_0  : Tri Try.prog (cxN 129 0) (zqr Try.f14 2) ([(1, exO)]) .normal ([(1, AV.sl .own 37 (some 6) [AV.sl .own 45 (some 3) [AV.agg [ub 0, bb true, AV.sl .fresh 36 (some 0) [], AV.sl .fresh 56 (some 0) []], AV.agg [ub 0, bb false, AV.sl .fresh 36 (some 0) [], AV.sl .fresh 56 (some 0) []], AV.agg [ub 0, bb false, AV.sl .fresh 36 (some 1) [AV.agg [ub (Idd.y { y := (1 : Int), n := (1 : Int) }), it (Idd.n { y := (1 : Int), n := (1 : Int) })]], AV.sl .fresh 56 (some 0) []]], AV.sl .own 45 (some 1) [AV.agg [ub 0, bb true, AV.sl .own 36 (some 1) [AV.agg [ub (Idd.y { y := (1 : Int), n := (0 : Int) }), it (Idd.n { y := (1 : Int), n := (0 : Int) })]], AV.sl .own 56 (some 1) [AV.agg [ub (Ps.y p11), it (Ps.n p11), bb (Ps.f p11), ub (Ps.d p11)]]]], AV.sl .own 45 (some 0) [], AV.sl .own 45 (some 0) [], AV.sl .own 45 (some 0) [], AV.sl .own 45 (some 0) []]), (2, AV.al 14 [(0, 0)] none), (3, it 0), (14, AV.tup [AV.sl .own 36 (some 4) [AV.agg [ub (Idd.y { y := (1 : Int), n := (0 : Int) }), it (Idd.n { y := (1 : Int), n := (0 : Int) })], AV.agg [ub (Idd.y { y := (1 : Int), n := (1 : Int) }), it (Idd.n { y := (1 : Int), n := (1 : Int) })], AV.agg [ub (Idd.y { y := (1 : Int), n := (2 : Int) }), it (Idd.n { y := (1 : Int), n := (2 : Int) })], AV.agg [ub (Idd.y { y := (2 : Int), n := (0 : Int) }), it (Idd.n { y := (2 : Int), n := (0 : Int) })]], it 0]), (16, AV.bad)]) :=
 ev h14 [.c, .c, .r (AV.tup [AV.sl .own 36 (some 4) [AV.agg [ub (Idd.y { y := (1 : Int), n := (0 : Int) }), it (Idd.n { y := (1 : Int), n := (0 : Int) })], AV.agg [ub (Idd.y { y := (1 : Int), n := (1 : Int) }), it (Idd.n { y := (1 : Int), n := (1 : Int) })], AV.agg [ub (Idd.y { y := (1 : Int), n := (2 : Int) }), it (Idd.n { y := (1 : Int), n := (2 : Int) })], AV.agg [ub (Idd.y { y := (2 : Int), n := (0 : Int) }), it (Idd.n { y := (2 : Int), n := (0 : Int) })]], it 0]), .c, .c, .c, .c, .c, .c, .c] (allp (p := PureC Try.prog 10 [AV.sl .any 37 (some 6) [AV.sl .any 45 (some 3) [AV.agg [ub 0, bb true, AV.sl .any 36 (some 0) [], AV.sl .any 56 (some 0) []], AV.agg [ub 0, bb false, AV.sl .any 36 (some 0) [], AV.sl .any 56 (some 0) []], AV.agg [ub 0, bb false, AV.sl .any 36 (some 1) [AV.agg [ub (Idd.y { y := (1 : Int), n := (1 : Int) }), it (Idd.n { y := (1 : Int), n := (1 : Int) })]], AV.sl .any 56 (some 0) []]], AV.sl .any 45 (some 1) [AV.agg [ub 0, bb true, AV.sl .any 36 (some 1) [AV.agg [ub (Idd.y { y := (1 : Int), n := (0 : Int) }), it (Idd.n { y := (1 : Int), n := (0 : Int) })]], AV.sl .any 56 (some 1) [AV.agg [ub (Ps.y p11), it (Ps.n p11), bb (Ps.f p11), ub (Ps.d p11)]]]], AV.sl .any 45 (some 0) [], AV.sl .any 45 (some 0) [], AV.sl .any 45 (some 0) [], AV.sl .any 45 (some 0) []]] (AV.tup [AV.sl .own 36 (some 4) [AV.agg [ub (Idd.y { y := (1 : Int), n := (0 : Int) }), it (Idd.n { y := (1 : Int), n := (0 : Int) })], AV.agg [ub (Idd.y { y := (1 : Int), n := (1 : Int) }), it (Idd.n { y := (1 : Int), n := (1 : Int) })], AV.agg [ub (Idd.y { y := (1 : Int), n := (2 : Int) }), it (Idd.n { y := (1 : Int), n := (2 : Int) })], AV.agg [ub (Idd.y { y := (2 : Int), n := (0 : Int) }), it (Idd.n { y := (2 : Int), n := (0 : Int) })]], it 0])) (by apply x_ord<;>first|assumption|rfl|(simp at *<;>omega)) zqa)
theorem lv3_0  : Tri Try.prog (cxN 129 0) (zqr Try.f14 3) ([(1, exO), (2, A2), (3, it 0), (14, T14)]) .normal ([(1, AV.sl .own 37 (some 6) [AV.sl .own 45 (some 3) [AV.agg [ub 0, bb true, AV.sl .fresh 36 (some 0) [], AV.sl .fresh 56 (some 0) []], AV.agg [ub 0, bb false, AV.sl .fresh 36 (some 0) [], AV.sl .fresh 56 (some 0) []], AV.agg [ub 0, bb false, AV.sl .fresh 36 (some 1) [AV.agg [ub (Idd.y { y := (1 : Int), n := (1 : Int) }), it (Idd.n { y := (1 : Int), n := (1 : Int) })]], AV.sl .fresh 56 (some 0) []]], AV.sl .own 45 (some 1) [AV.agg [ub 0, bb true, AV.sl .own 36 (some 1) [AV.agg [ub (Idd.y { y := (1 : Int), n := (0 : Int) }), it (Idd.n { y := (1 : Int), n := (0 : Int) })]], AV.sl .own 56 (some 1) [AV.agg [ub (Ps.y p11), it (Ps.n p11), bb (Ps.f p11), ub (Ps.d p11)]]]], AV.sl .own 45 (some 0) [], AV.sl .own 45 (some 0) [], AV.sl .own 45 (some 0) [], AV.sl .own 45 (some 0) []]), (2, AV.al 14 [(0, 0)] none), (3, it 0), (4, AV.box [ub 2, it 0]), (5, bb true), (14, AV.tup [AV.sl .own 36 (some 4) [AV.agg [ub (Idd.y { y := (1 : Int), n := (0 : Int) }), it (Idd.n { y := (1 : Int), n := (0 : Int) })], AV.agg [ub (Idd.y { y := (1 : Int), n := (1 : Int) }), it (Idd.n { y := (1 : Int), n := (1 : Int) })], AV.agg [ub (Idd.y { y := (1 : Int), n := (2 : Int) }), it (Idd.n { y := (1 : Int), n := (2 : Int) })], AV.agg [ub (Idd.y { y := (2 : Int), n := (0 : Int) }), it (Idd.n { y := (2 : Int), n := (0 : Int) })]], it 0]), (19, AV.tup [AV.agg [ub 2, it 0], bb true])]) :=
 ev h14 [.c, .c, .c, .r (AV.tup [AV.agg [ub 2, it 0], bb true]), .c, .c, .c, .c, .c, .c, .c, .c] (allp (p := PureC Try.prog 20 [AV.sl .any 37 (some 6) [AV.sl .any 45 (some 3) [AV.agg [ub 0, bb true, AV.sl .any 36 (some 0) [], AV.sl .any 56 (some 0) []], AV.agg [ub 0, bb false, AV.sl .any 36 (some 0) [], AV.sl .any 56 (some 0) []], AV.agg [ub 0, bb false, AV.sl .any 36 (some 1) [AV.agg [ub (Idd.y { y := (1 : Int), n := (1 : Int) }), it (Idd.n { y := (1 : Int), n := (1 : Int) })]], AV.sl .any 56 (some 0) []]], AV.sl .any 45 (some 1) [AV.agg [ub 0, bb true, AV.sl .any 36 (some 1) [AV.agg [ub (Idd.y { y := (1 : Int), n := (0 : Int) }), it (Idd.n { y := (1 : Int), n := (0 : Int) })]], AV.sl .any 56 (some 1) [AV.agg [ub (Ps.y p11), it (Ps.n p11), bb (Ps.f p11), ub (Ps.d p11)]]]], AV.sl .any 45 (some 0) [], AV.sl .any 45 (some 0) [], AV.sl .any 45 (some 0) [], AV.sl .any 45 (some 0) []], AV.agg [ub 1, it 0]] (AV.tup [AV.agg [ub 2, it 0], bb true])) (by apply x_ab1<;>first|assumption|rfl|(simp at *<;>omega)) zqa)
theorem lv4_0  : Tri Try.prog (cxN 129 0) (zqr Try.f14 4) ([(1, exO), (2, A2), (3, it 0), (4, .box [ub 2, it 0]), (5, bb true), (14, T14)]) .normal ([(1, AV.sl .own 37 (some 6) [AV.sl .own 45 (some 3) [AV.agg [ub 0, bb true, AV.sl .fresh 36 (some 0) [], AV.sl .fresh 56 (some 0) []], AV.agg [ub 0, bb false, AV.sl .fresh 36 (some 0) [], AV.sl .fresh 56 (some 0) []], AV.agg [ub 0, bb false, AV.sl .fresh 36 (some 1) [AV.agg [ub (Idd.y { y := (1 : Int), n := (1 : Int) }), it (Idd.n { y := (1 : Int), n := (1 : Int) })]], AV.sl .fresh 56 (some 0) []]], AV.sl .own 45 (some 1) [AV.agg [ub 0, bb true, AV.sl .own 36 (some 1) [AV.agg [ub (Idd.y { y := (1 : Int), n := (0 : Int) }), it (Idd.n { y := (1 : Int), n := (0 : Int) })]], AV.sl .own 56 (some 1) [AV.agg [ub (Ps.y p11), it (Ps.n p11), bb (Ps.f p11), ub (Ps.d p11)]]]], AV.sl .own 45 (some 0) [], AV.sl .own 45 (some 0) [], AV.sl .own 45 (some 0) [], AV.sl .own 45 (some 0) []]), (2, AV.al 14 [(0, 0)] none), (3, it 0), (4, AV.box [ub 2, it 0]), (5, bb true), (7, bb false), (14, AV.tup [AV.sl .own 36 (some 4) [AV.agg [ub (Idd.y { y := (1 : Int), n := (0 : Int) }), it (Idd.n { y := (1 : Int), n := (0 : Int) })], AV.agg [ub (Idd.y { y := (1 : Int), n := (1 : Int) }), it (Idd.n { y := (1 : Int), n := (1 : Int) })], AV.agg [ub (Idd.y { y := (1 : Int), n := (2 : Int) }), it (Idd.n { y := (1 : Int), n := (2 : Int) })], AV.agg [ub (Idd.y { y := (2 : Int), n := (0 : Int) }), it (Idd.n { y := (2 : Int), n := (0 : Int) })]], it 0]), (25, AV.tup [AV.agg [ub 0, it 0], bb false])]) :=
 ev h14 [.c, .c, .c, .r (AV.tup [AV.agg [ub 0, it 0], bb false]), .c, .c, .c, .c, .c, .c, .c, .c] (allp (p := PureC Try.prog 20 [AV.sl .any 37 (some 6) [AV.sl .any 45 (some 3) [AV.agg [ub 0, bb true, AV.sl .any 36 (some 0) [], AV.sl .any 56 (some 0) []], AV.agg [ub 0, bb false, AV.sl .any 36 (some 0) [], AV.sl .any 56 (some 0) []], AV.agg [ub 0, bb false, AV.sl .any 36 (some 1) [AV.agg [ub (Idd.y { y := (1 : Int), n := (1 : Int) }), it (Idd.n { y := (1 : Int), n := (1 : Int) })]], AV.sl .any 56 (some 0) []]], AV.sl .any 45 (some 1) [AV.agg [ub 0, bb true, AV.sl .any 36 (some 1) [AV.agg [ub (Idd.y { y := (1 : Int), n := (0 : Int) }), it (Idd.n { y := (1 : Int), n := (0 : Int) })]], AV.sl .any 56 (some 1) [AV.agg [ub (Ps.y p11), it (Ps.n p11), bb (Ps.f p11), ub (Ps.d p11)]]]], AV.sl .any 45 (some 0) [], AV.sl .any 45 (some 0) [], AV.sl .any 45 (some 0) [], AV.sl .any 45 (some 0) []], AV.agg [ub 2, it 0]] (AV.tup [AV.agg [ub 0, it 0], bb false])) (by apply x_ab2<;>first|assumption|rfl|(simp at *<;>omega)) zqa)
theorem lv5_0  (g0 : AV.sl .fresh 36 (some 2) [AV.agg [ub (Idd.y { y := (1 : Int), n := (0 : Int) }), it (Idd.n { y := (1 : Int), n := (0 : Int) })], AV.agg [ub (Idd.y { y := (1 : Int), n := (1 : Int) }), it (Idd.n { y := (1 : Int), n := (1 : Int) })]] = AV.sl .fresh 36 (some 2) (List.map Idd.enc [{ y := Idd.y { y := (1 : Int), n := (0 : Int) }, n := Idd.n { y := (1 : Int), n := (0 : Int) } }, { y := Idd.y { y := (1 : Int), n := (1 : Int) }, n := Idd.n { y := (1 : Int), n := (1 : Int) } }])) (g1 : AV.sl .fresh 36 (some 1) [AV.agg [ub (Idd.y { y := (1 : Int), n := (1 : Int) }), it (Idd.n { y := (1 : Int), n := (1 : Int) })]] = AV.sl .fresh 36 (some 1) (List.map Idd.enc [{ y := Idd.y { y := (1 : Int), n := (1 : Int) }, n := Idd.n { y := (1 : Int), n := (1 : Int) } }])) : Tri Try.prog (cxN 129 0) (zqr Try.f14 5) ([(1, exO), (2, A2), (3, it 0), (4, .box [ub 2, it 0]), (5, bb true), (7, bb false), (14, T14)]) .normal ([(1, AV.sl .own 37 (some 6) [AV.sl .own 45 (some 3) [AV.agg [ub 0, bb true, AV.sl .fresh 36 (some 0) [], AV.sl .fresh 56 (some 0) []], AV.agg [ub 0, bb false, AV.sl .fresh 36 (some 0) [], AV.sl .fresh 56 (some 0) []], AV.agg [ub 0, bb false, AV.sl .fresh 36 (some 1) [AV.agg [ub (Idd.y { y := (1 : Int), n := (1 : Int) }), it (Idd.n { y := (1 : Int), n := (1 : Int) })]], AV.sl .fresh 56 (some 0) []]], AV.sl .own 45 (some 1) [AV.agg [ub 0, bb true, AV.sl .own 36 (some 1) [AV.agg [ub (Idd.y { y := (1 : Int), n := (0 : Int) }), it (Idd.n { y := (1 : Int), n := (0 : Int) })]], AV.sl .own 56 (some 1) [AV.agg [ub (Ps.y p11), it (Ps.n p11), bb (Ps.f p11), ub (Ps.d p11)]]]], AV.sl .own 45 (some 0) [], AV.sl .own 45 (some 0) [], AV.sl .own 45 (some 0) [], AV.sl .own 45 (some 0) []]), (14, AV.tup [AV.sl .own 36 (some 4) [AV.agg [ub (Idd.y { y := (1 : Int), n := (0 : Int) }), it (Idd.n { y := (1 : Int), n := (0 : Int) })], AV.agg [ub (Idd.y { y := (1 : Int), n := (1 : Int) }), it (Idd.n { y := (1 : Int), n := (1 : Int) })], AV.agg [ub (Idd.y { y := (1 : Int), n := (2 : Int) }), it (Idd.n { y := (1 : Int), n := (2 : Int) })], AV.agg [ub (Idd.y { y := (2 : Int), n := (0 : Int) }), it (Idd.n { y := (2 : Int), n := (0 : Int) })]], it 0]), (63, bb false)]) :=
 ev h14 [.c, .c, .c, .c, .c, .c, .r (isl (some (4 : Nat)) oL), .r (AV.atom (Value.string { data := #[(49 : UInt8), (46 : UInt8), (48 : UInt8), (32 : UInt8), (49 : UInt8), (46 : UInt8), (49 : UInt8), (32 : UInt8), (49 : UInt8), (46 : UInt8), (50 : UInt8), (32 : UInt8), (50 : UInt8), (46 : UInt8), (48 : UInt8), (32 : UInt8)] })), .c, .c, .c, .c, .c, .c, .c, .c, .c, .c, .c, .c, .c, .r (AV.sl .fresh 36 (some 2) [AV.agg [ub (Idd.y { y := (1 : Int), n := (0 : Int) }), it (Idd.n { y := (1 : Int), n := (0 : Int) })], AV.agg [ub (Idd.y { y := (1 : Int), n := (1 : Int) }), it (Idd.n { y := (1 : Int), n := (1 : Int) })]]), .c, .r (AV.sl .fresh 36 (some 2) (List.map Idd.enc [{ y := Idd.y { y := (1 : Int), n := (0 : Int) }, n := Idd.n { y := (1 : Int), n := (0 : Int) } }, { y := Idd.y { y := (1 : Int), n := (1 : Int) }, n := Idd.n { y := (1 : Int), n := (1 : Int) } }])), .c, .r (isl (some 2) [{ y := Idd.y { y := (1 : Int), n := (0 : Int) }, n := Idd.n { y := (1 : Int), n := (0 : Int) } }, { y := Idd.y { y := (1 : Int), n := (1 : Int) }, n := Idd.n { y := (1 : Int), n := (1 : Int) } }]), .r (AV.atom (Value.string { data := #[(49 : UInt8), (46 : UInt8), (48 : UInt8), (32 : UInt8), (49 : UInt8), (46 : UInt8), (49 : UInt8), (32 : UInt8)] })), .c, .c, .c, .c, .c, .c, .c, .c, .c, .c, .c, .c, .c, .r (AV.sl .fresh 36 (some 1) [AV.agg [ub (Idd.y { y := (1 : Int), n := (1 : Int) }), it (Idd.n { y := (1 : Int), n := (1 : Int) })]]), .c, .r (AV.sl .fresh 36 (some 1) (List.map Idd.enc [{ y := Idd.y { y := (1 : Int), n := (1 : Int) }, n := Idd.n { y := (1 : Int), n := (1 : Int) } }])), .c, .r (isl (some 1) [{ y := Idd.y { y := (1 : Int), n := (1 : Int) }, n := Idd.n { y := (1 : Int), n := (1 : Int) } }]), .r (AV.atom (Value.string { data := #[(49 : UInt8), (46 : UInt8), (49 : UInt8), (32 : UInt8)] })), .c, .c, .c, .c, .c, .c, .c, .c, .c, .c, .c, .c, .c, .c, .c, .c, .c, .c, .c, .c, .c, .c, .c, .c, .c, .c, .c] (allp (p := view (AV.sl .own 36 (some 4) [AV.agg [ub (Idd.y { y := (1 : Int), n := (0 : Int) }), it (Idd.n { y := (1 : Int), n := (0 : Int) })], AV.agg [ub (Idd.y { y := (1 : Int), n := (1 : Int) }), it (Idd.n { y := (1 : Int), n := (1 : Int) })], AV.agg [ub (Idd.y { y := (1 : Int), n := (2 : Int) }), it (Idd.n { y := (1 : Int), n := (2 : Int) })], AV.agg [ub (Idd.y { y := (2 : Int), n := (0 : Int) }), it (Idd.n { y := (2 : Int), n := (0 : Int) })]]) = AV.sl .any 36 (some 4) [AV.agg [ub (Idd.y { y := (1 : Int), n := (0 : Int) }), it (Idd.n { y := (1 : Int), n := (0 : Int) })], AV.agg [ub (Idd.y { y := (1 : Int), n := (1 : Int) }), it (Idd.n { y := (1 : Int), n := (1 : Int) })], AV.agg [ub (Idd.y { y := (1 : Int), n := (2 : Int) }), it (Idd.n { y := (1 : Int), n := (2 : Int) })], AV.agg [ub (Idd.y { y := (2 : Int), n := (0 : Int) }), it (Idd.n { y := (2 : Int), n := (0 : Int) })]]) (by first | exact zra _ _ _ | exact zrb _ _ _ | rfl | exact zqg _ _ _ | exact zqk _ _ _ | exact zqh _ _ _ _ _ _ _ _ | exact zrd _ | exact zrc _ _ _ _ _ _ _ _ _) (allp (p := PureC Try.prog 21 [AV.sl .any 36 (some 4) [AV.agg [ub (Idd.y { y := (1 : Int), n := (0 : Int) }), it (Idd.n { y := (1 : Int), n := (0 : Int) })], AV.agg [ub (Idd.y { y := (1 : Int), n := (1 : Int) }), it (Idd.n { y := (1 : Int), n := (1 : Int) })], AV.agg [ub (Idd.y { y := (1 : Int), n := (2 : Int) }), it (Idd.n { y := (1 : Int), n := (2 : Int) })], AV.agg [ub (Idd.y { y := (2 : Int), n := (0 : Int) }), it (Idd.n { y := (2 : Int), n := (0 : Int) })]]] (AV.atom (Value.string { data := #[(49 : UInt8), (46 : UInt8), (48 : UInt8), (32 : UInt8), (49 : UInt8), (46 : UInt8), (49 : UInt8), (32 : UInt8), (49 : UInt8), (46 : UInt8), (50 : UInt8), (32 : UInt8), (50 : UInt8), (46 : UInt8), (48 : UInt8), (32 : UInt8)] }))) (by first | (apply yse<;>first|assumption|rfl|(simp at *<;>omega)) | (apply ysd<;>first|assumption|rfl|(simp at *<;>omega)) | (apply ysc<;>first|assumption|rfl|(simp at *<;>omega))) (allp (p := PureC Try.prog 19 [AV.sl .any 37 (some 6) [AV.sl .any 45 (some 3) [AV.agg [ub 0, bb true, AV.sl .any 36 (some 0) [], AV.sl .any 56 (some 0) []], AV.agg [ub 0, bb false, AV.sl .any 36 (some 0) [], AV.sl .any 56 (some 0) []], AV.agg [ub 0, bb false, AV.sl .any 36 (some 1) [AV.agg [ub (Idd.y { y := (1 : Int), n := (1 : Int) }), it (Idd.n { y := (1 : Int), n := (1 : Int) })]], AV.sl .any 56 (some 0) []]], AV.sl .any 45 (some 1) [AV.agg [ub 0, bb true, AV.sl .any 36 (some 1) [AV.agg [ub (Idd.y { y := (1 : Int), n := (0 : Int) }), it (Idd.n { y := (1 : Int), n := (0 : Int) })]], AV.sl .any 56 (some 1) [AV.agg [ub (Ps.y p11), it (Ps.n p11), bb (Ps.f p11), ub (Ps.d p11)]]]], AV.sl .any 45 (some 0) [], AV.sl .any 45 (some 0) [], AV.sl .any 45 (some 0) [], AV.sl .any 45 (some 0) []], AV.agg [ub 2, it 0]] (AV.sl .fresh 36 (some 2) [AV.agg [ub (Idd.y { y := (1 : Int), n := (0 : Int) }), it (Idd.n { y := (1 : Int), n := (0 : Int) })], AV.agg [ub (Idd.y { y := (1 : Int), n := (1 : Int) }), it (Idd.n { y := (1 : Int), n := (1 : Int) })]])) (by first | (apply yvj<;>first|assumption|rfl|(simp at *<;>omega)) | (apply yvi<;>first|assumption|rfl|(simp at *<;>omega))) (allp g0 (allp (p := view (AV.sl .fresh 36 (some 2) [AV.agg [ub (Idd.y { y := Idd.y { y := (1 : Int), n := (0 : Int) }, n := Idd.n { y := (1 : Int), n := (0 : Int) } }), it (Idd.n { y := Idd.y { y := (1 : Int), n := (0 : Int) }, n := Idd.n { y := (1 : Int), n := (0 : Int) } })], AV.agg [ub (Idd.y { y := Idd.y { y := (1 : Int), n := (1 : Int) }, n := Idd.n { y := (1 : Int), n := (1 : Int) } }), it (Idd.n { y := Idd.y { y := (1 : Int), n := (1 : Int) }, n := Idd.n { y := (1 : Int), n := (1 : Int) } })]]) = AV.sl .any 36 (some 2) [AV.agg [ub (Idd.y { y := Idd.y { y := (1 : Int), n := (0 : Int) }, n := Idd.n { y := (1 : Int), n := (0 : Int) } }), it (Idd.n { y := Idd.y { y := (1 : Int), n := (0 : Int) }, n := Idd.n { y := (1 : Int), n := (0 : Int) } })], AV.agg [ub (Idd.y { y := Idd.y { y := (1 : Int), n := (1 : Int) }, n := Idd.n { y := (1 : Int), n := (1 : Int) } }), it (Idd.n { y := Idd.y { y := (1 : Int), n := (1 : Int) }, n := Idd.n { y := (1 : Int), n := (1 : Int) } })]]) (by first | exact zra _ _ _ | exact zrb _ _ _ | rfl | exact zqg _ _ _ | exact zqk _ _ _ | exact zqh _ _ _ _ _ _ _ _ | exact zrd _ | exact zrc _ _ _ _ _ _ _ _ _) (allp (p := PureC Try.prog 21 [AV.sl .any 36 (some 2) [AV.agg [ub (Idd.y { y := Idd.y { y := (1 : Int), n := (0 : Int) }, n := Idd.n { y := (1 : Int), n := (0 : Int) } }), it (Idd.n { y := Idd.y { y := (1 : Int), n := (0 : Int) }, n := Idd.n { y := (1 : Int), n := (0 : Int) } })], AV.agg [ub (Idd.y { y := Idd.y { y := (1 : Int), n := (1 : Int) }, n := Idd.n { y := (1 : Int), n := (1 : Int) } }), it (Idd.n { y := Idd.y { y := (1 : Int), n := (1 : Int) }, n := Idd.n { y := (1 : Int), n := (1 : Int) } })]]] (AV.atom (Value.string { data := #[(49 : UInt8), (46 : UInt8), (48 : UInt8), (32 : UInt8), (49 : UInt8), (46 : UInt8), (49 : UInt8), (32 : UInt8)] }))) (by first | (apply yse<;>first|assumption|rfl|(simp at *<;>omega)) | (apply ysd<;>first|assumption|rfl|(simp at *<;>omega)) | (apply ysc<;>first|assumption|rfl|(simp at *<;>omega))) (allp (p := PureC Try.prog 19 [AV.sl .any 37 (some 6) [AV.sl .any 45 (some 3) [AV.agg [ub 0, bb true, AV.sl .any 36 (some 0) [], AV.sl .any 56 (some 0) []], AV.agg [ub 0, bb false, AV.sl .any 36 (some 0) [], AV.sl .any 56 (some 0) []], AV.agg [ub 0, bb false, AV.sl .any 36 (some 1) [AV.agg [ub (Idd.y { y := (1 : Int), n := (1 : Int) }), it (Idd.n { y := (1 : Int), n := (1 : Int) })]], AV.sl .any 56 (some 0) []]], AV.sl .any 45 (some 1) [AV.agg [ub 0, bb true, AV.sl .any 36 (some 1) [AV.agg [ub (Idd.y { y := (1 : Int), n := (0 : Int) }), it (Idd.n { y := (1 : Int), n := (0 : Int) })]], AV.sl .any 56 (some 1) [AV.agg [ub (Ps.y p11), it (Ps.n p11), bb (Ps.f p11), ub (Ps.d p11)]]]], AV.sl .any 45 (some 0) [], AV.sl .any 45 (some 0) [], AV.sl .any 45 (some 0) [], AV.sl .any 45 (some 0) []], AV.agg [ub 1, it 2]] (AV.sl .fresh 36 (some 1) [AV.agg [ub (Idd.y { y := (1 : Int), n := (1 : Int) }), it (Idd.n { y := (1 : Int), n := (1 : Int) })]])) (by first | (apply yvj<;>first|assumption|rfl|(simp at *<;>omega)) | (apply yvi<;>first|assumption|rfl|(simp at *<;>omega))) (allp g1 (allp (p := view (AV.sl .fresh 36 (some 1) [AV.agg [ub (Idd.y { y := Idd.y { y := (1 : Int), n := (1 : Int) }, n := Idd.n { y := (1 : Int), n := (1 : Int) } }), it (Idd.n { y := Idd.y { y := (1 : Int), n := (1 : Int) }, n := Idd.n { y := (1 : Int), n := (1 : Int) } })]]) = AV.sl .any 36 (some 1) [AV.agg [ub (Idd.y { y := Idd.y { y := (1 : Int), n := (1 : Int) }, n := Idd.n { y := (1 : Int), n := (1 : Int) } }), it (Idd.n { y := Idd.y { y := (1 : Int), n := (1 : Int) }, n := Idd.n { y := (1 : Int), n := (1 : Int) } })]]) (by first | exact zra _ _ _ | exact zrb _ _ _ | rfl | exact zqg _ _ _ | exact zqk _ _ _ | exact zqh _ _ _ _ _ _ _ _ | exact zrd _ | exact zrc _ _ _ _ _ _ _ _ _) (allp (p := PureC Try.prog 21 [AV.sl .any 36 (some 1) [AV.agg [ub (Idd.y { y := Idd.y { y := (1 : Int), n := (1 : Int) }, n := Idd.n { y := (1 : Int), n := (1 : Int) } }), it (Idd.n { y := Idd.y { y := (1 : Int), n := (1 : Int) }, n := Idd.n { y := (1 : Int), n := (1 : Int) } })]]] (AV.atom (Value.string { data := #[(49 : UInt8), (46 : UInt8), (49 : UInt8), (32 : UInt8)] }))) (by first | (apply yse<;>first|assumption|rfl|(simp at *<;>omega)) | (apply ysd<;>first|assumption|rfl|(simp at *<;>omega)) | (apply ysc<;>first|assumption|rfl|(simp at *<;>omega))) zqa))))))))))
theorem pA1 (m : List (List Lp)) (ha : PureC Try.prog 17 [exV, ub 1, .agg [ub 0, bb false, .sl .any 36 (some 1) [Idd.enc ⟨2, 0⟩], zqw]] (.tup [tOW m, it 0])) : PureC Try.prog 17 [exV, ub 1, .agg [ub 0, bb false, .sl .any 36 (some 1) [Idd.enc ⟨2, 0⟩], zqw]] (.tup [tOW m, it 0]) := ha
theorem pC1 (m : List (List Lp)) (hm : PureC Try.prog 12 [.sl .any 37 none ((rwO m).map Rw.enc)] (it 5)) : PureC Try.prog 12 [.sl .any 37 none ((rwO m).map Rw.enc)] (it 5) := hm
theorem lv7_0 (m : List (List Lp)) (ha : PureC Try.prog 17 [exV, ub 1, .agg [ub 0, bb false, .sl .any 36 (some 1) [Idd.enc ⟨2, 0⟩], zqw]] (.tup [tOW m, it 0])) (g0 : AV.sl .own 36 (some 1) [AV.agg [ub 2, it 0]] = iow (some (1 : Nat)) [{ y := (2 : Int), n := (0 : Int) }]) (g1 : AV.sl .fresh 36 (some 1) [AV.agg [ub (Idd.y { y := (2 : Int), n := (0 : Int) }), it (Idd.n { y := (2 : Int), n := (0 : Int) })]] = AV.sl .fresh 36 (some (1 : Nat)) (List.map Idd.enc [{ y := (2 : Int), n := (0 : Int) }])) (g2 : decide ((true || (false || (false || false))) = true → yag (12 : Nat) (AV.tup [AV.sl .own 37 none (List.map lOW m), it 0]) = true) = true) : Tri Try.prog (cxN 129 0) (zqr Try.f14 7) ([(1, exO)]) .normal ([(1, AV.sl .own 37 (some 6) [AV.sl .own 45 (some 3) [AV.agg [ub 0, bb true, AV.sl .fresh 36 (some 0) [], AV.sl .fresh 56 (some 0) []], AV.agg [ub 0, bb false, AV.sl .fresh 36 (some 0) [], AV.sl .fresh 56 (some 0) []], AV.agg [ub 0, bb false, AV.sl .fresh 36 (some 1) [AV.agg [ub (Idd.y { y := (1 : Int), n := (1 : Int) }), it (Idd.n { y := (1 : Int), n := (1 : Int) })]], AV.sl .fresh 56 (some 0) []]], AV.sl .own 45 (some 1) [AV.agg [ub 0, bb true, AV.sl .own 36 (some 1) [AV.agg [ub (Idd.y { y := (1 : Int), n := (0 : Int) }), it (Idd.n { y := (1 : Int), n := (0 : Int) })]], AV.sl .own 56 (some 1) [AV.agg [ub (Ps.y p11), it (Ps.n p11), bb (Ps.f p11), ub (Ps.d p11)]]]], AV.sl .own 45 (some 0) [], AV.sl .own 45 (some 0) [], AV.sl .own 45 (some 0) [], AV.sl .own 45 (some 0) []]), (3, it 0), (8, AV.al 64 [(0, 0)] none), (64, AV.tup [AV.sl .own 37 none (List.map lOW m), it 0]), (69, AV.bad)]) :=
 ev h14 [.c, .c, .r (iow (some (1 : Nat)) [{ y := (2 : Int), n := (0 : Int) }]), .r (AV.sl .fresh 36 (some (1 : Nat)) (List.map Idd.enc [{ y := (2 : Int), n := (0 : Int) }])), .c, .c, .r (AV.tup [AV.sl .own 37 none (List.map lOW m), it 0]), .b true, .c, .c, .c, .c, .c, .c] (allp g0 (allp g1 (allp (p := PureC Try.prog 17 [AV.sl .any 37 (some 6) [AV.sl .any 45 (some 3) [AV.agg [ub 0, bb true, AV.sl .any 36 (some 0) [], AV.sl .any 56 (some 0) []], AV.agg [ub 0, bb false, AV.sl .any 36 (some 0) [], AV.sl .any 56 (some 0) []], AV.agg [ub 0, bb false, AV.sl .any 36 (some 1) [AV.agg [ub (Idd.y { y := (1 : Int), n := (1 : Int) }), it (Idd.n { y := (1 : Int), n := (1 : Int) })]], AV.sl .any 56 (some 0) []]], AV.sl .any 45 (some 1) [AV.agg [ub 0, bb true, AV.sl .any 36 (some 1) [AV.agg [ub (Idd.y { y := (1 : Int), n := (0 : Int) }), it (Idd.n { y := (1 : Int), n := (0 : Int) })]], AV.sl .any 56 (some 1) [AV.agg [ub (Ps.y p11), it (Ps.n p11), bb (Ps.f p11), ub (Ps.d p11)]]]], AV.sl .any 45 (some 0) [], AV.sl .any 45 (some 0) [], AV.sl .any 45 (some 0) [], AV.sl .any 45 (some 0) []], ub 1, view (AV.agg [ub 0, bb false, AV.sl .fresh 36 (some 1) [AV.agg [ub (Idd.y { y := (2 : Int), n := (0 : Int) }), it (Idd.n { y := (2 : Int), n := (0 : Int) })]], zqw])] (AV.tup [AV.sl .own 37 none (List.map lOW m), it 0])) (by (first | rw [zqh] | rw [zqg] | rw [zrd] | rw [zrc] | skip); apply pA1<;>first|assumption|rfl|(simp at *<;>omega)) (allp g2 zqa))))
abbrev A8 : AV := .al 64 [(0, 0)] none
abbrev T64 (m : List (List Lp)) : AV := .tup [tOW m, it 0]
abbrev R1p : AV := .sl .own 45 (some 3) [.agg [ub 0, bb true, .sl .own 36 (some 1) [Idd.enc ⟨2, 0⟩], F56], .agg [ub 0, bb false, F36, F56], .agg [ub 0, bb false, .sl .fresh 36 (some 1) [Idd.enc ⟨1, 1⟩], F56]]
abbrev exO2 : AV := .sl .own 37 (some 6) [R1p, .sl .own 45 (some 1) [O17], No, No, No, No]
abbrev exO3 : AV := .sl .own 37 (some 6) [R1p, .sl .own 45 (some 1) [.agg [ub 0, bb true, zqw, .sl .own 56 (some 1) [Ps.enc p11]]], No, No, No, No]
abbrev exO4 : AV := .sl .own 37 (some 6) [R1p, .sl .own 45 (some 1) [.agg [ub 0, bb true, .sl .own 36 (some 0) [], .sl .own 56 (some 1) [Ps.enc ⟨1, 0, false, 1⟩]]], No, No, No, No]
theorem lv8_0 (m : List (List Lp)) (g0 : AV.sl .own 36 (some 1) [AV.agg [ub 1, it 1]] = iow (some (1 : Nat)) [{ y := (1 : Int), n := (1 : Int) }]) (g1 : AV.sl .fresh 36 (some 1) [AV.agg [ub (Idd.y { y := (1 : Int), n := (1 : Int) }), it (Idd.n { y := (1 : Int), n := (1 : Int) })]] = AV.sl .fresh 36 (some (1 : Nat)) (List.map Idd.enc [{ y := (1 : Int), n := (1 : Int) }])) : Tri Try.prog (cxN 129 0) (zqr Try.f14 8) ([(1, exO), (3, it 0), (8, A8), (64, T64 m)]) .normal ([(1, AV.sl .own 37 (some 6) [AV.sl .own 45 (some 3) [AV.agg [ub 0, bb true, AV.sl .fresh 36 (some 0) [], AV.sl .fresh 56 (some 0) []], AV.agg [ub 0, bb false, AV.sl .fresh 36 (some 0) [], AV.sl .fresh 56 (some 0) []], AV.agg [ub 0, bb false, AV.sl .fresh 36 (some 1) [AV.agg [ub (Idd.y { y := (1 : Int), n := (1 : Int) }), it (Idd.n { y := (1 : Int), n := (1 : Int) })]], AV.sl .fresh 56 (some 0) []]], AV.sl .own 45 (some 1) [AV.agg [ub 0, bb true, AV.sl .own 36 (some 1) [AV.agg [ub (Idd.y { y := (1 : Int), n := (0 : Int) }), it (Idd.n { y := (1 : Int), n := (0 : Int) })]], AV.sl .own 56 (some 1) [AV.agg [ub (Ps.y p11), it (Ps.n p11), bb (Ps.f p11), ub (Ps.d p11)]]]], AV.sl .own 45 (some 0) [], AV.sl .own 45 (some 0) [], AV.sl .own 45 (some 0) [], AV.sl .own 45 (some 0) []]), (3, it 0), (8, AV.al 64 [(0, 0)] none), (10, it 8), (64, AV.tup [AV.sl .own 37 none (List.map lOW m), it 0]), (72, AV.tup [zqw, it 8])]) :=
 ev h14 [.c, .c, .r (iow (some (1 : Nat)) [{ y := (1 : Int), n := (1 : Int) }]), .r (AV.sl .fresh 36 (some (1 : Nat)) (List.map Idd.enc [{ y := (1 : Int), n := (1 : Int) }])), .c, .c, .r (AV.tup [zqw, it 8]), .c, .c, .c, .c, .c, .c, .c] (allp g0 (allp g1 (allp (p := PureC Try.prog 17 [AV.sl .any 37 (some 6) [AV.sl .any 45 (some 3) [AV.agg [ub 0, bb true, AV.sl .any 36 (some 0) [], AV.sl .any 56 (some 0) []], AV.agg [ub 0, bb false, AV.sl .any 36 (some 0) [], AV.sl .any 56 (some 0) []], AV.agg [ub 0, bb false, AV.sl .any 36 (some 1) [AV.agg [ub (Idd.y { y := (1 : Int), n := (1 : Int) }), it (Idd.n { y := (1 : Int), n := (1 : Int) })]], AV.sl .any 56 (some 0) []]], AV.sl .any 45 (some 1) [AV.agg [ub 0, bb true, AV.sl .any 36 (some 1) [AV.agg [ub (Idd.y { y := (1 : Int), n := (0 : Int) }), it (Idd.n { y := (1 : Int), n := (0 : Int) })]], AV.sl .any 56 (some 1) [AV.agg [ub (Ps.y p11), it (Ps.n p11), bb (Ps.f p11), ub (Ps.d p11)]]]], AV.sl .any 45 (some 0) [], AV.sl .any 45 (some 0) [], AV.sl .any 45 (some 0) [], AV.sl .any 45 (some 0) []], ub 1, view (AV.agg [ub 0, bb false, AV.sl .fresh 36 (some 1) [AV.agg [ub (Idd.y { y := (1 : Int), n := (1 : Int) }), it (Idd.n { y := (1 : Int), n := (1 : Int) })]], zqw])] (AV.tup [zqw, it 8])) (by (first | rw [zqh] | rw [zqg] | rw [zrd] | rw [zrc] | skip); apply yvl<;>first|assumption|rfl|(simp at *<;>omega)) zqa)))
theorem lv9_0 (m : List (List Lp)) (g0 : AV.sl .own 36 (some 1) [AV.agg [ub 2, it 1]] = iow (some (1 : Nat)) [{ y := (2 : Int), n := (1 : Int) }]) (g1 : AV.sl .fresh 36 (some 1) [AV.agg [ub (Idd.y { y := (2 : Int), n := (1 : Int) }), it (Idd.n { y := (2 : Int), n := (1 : Int) })]] = AV.sl .fresh 36 (some (1 : Nat)) (List.map Idd.enc [{ y := (2 : Int), n := (1 : Int) }])) : Tri Try.prog (cxN 129 0) (zqr Try.f14 9) ([(1, exO), (3, it 0), (8, A8), (10, it 8), (64, T64 m)]) .normal ([(1, AV.sl .own 37 (some 6) [AV.sl .own 45 (some 3) [AV.agg [ub 0, bb true, AV.sl .fresh 36 (some 0) [], AV.sl .fresh 56 (some 0) []], AV.agg [ub 0, bb false, AV.sl .fresh 36 (some 0) [], AV.sl .fresh 56 (some 0) []], AV.agg [ub 0, bb false, AV.sl .fresh 36 (some 1) [AV.agg [ub (Idd.y { y := (1 : Int), n := (1 : Int) }), it (Idd.n { y := (1 : Int), n := (1 : Int) })]], AV.sl .fresh 56 (some 0) []]], AV.sl .own 45 (some 1) [AV.agg [ub 0, bb true, AV.sl .own 36 (some 1) [AV.agg [ub (Idd.y { y := (1 : Int), n := (0 : Int) }), it (Idd.n { y := (1 : Int), n := (0 : Int) })]], AV.sl .own 56 (some 1) [AV.agg [ub (Ps.y p11), it (Ps.n p11), bb (Ps.f p11), ub (Ps.d p11)]]]], AV.sl .own 45 (some 0) [], AV.sl .own 45 (some 0) [], AV.sl .own 45 (some 0) [], AV.sl .own 45 (some 0) []]), (3, it 0), (8, AV.al 64 [(0, 0)] none), (10, it 8), (12, it 1), (64, AV.tup [AV.sl .own 37 none (List.map lOW m), it 0]), (80, AV.tup [zqw, it 1])]) :=
 ev h14 [.c, .c, .r (iow (some (1 : Nat)) [{ y := (2 : Int), n := (1 : Int) }]), .r (AV.sl .fresh 36 (some (1 : Nat)) (List.map Idd.enc [{ y := (2 : Int), n := (1 : Int) }])), .c, .c, .r (AV.tup [zqw, it 1]), .c, .c, .c, .c, .c, .c, .c] (allp g0 (allp g1 (allp (p := PureC Try.prog 17 [AV.sl .any 37 (some 6) [AV.sl .any 45 (some 3) [AV.agg [ub 0, bb true, AV.sl .any 36 (some 0) [], AV.sl .any 56 (some 0) []], AV.agg [ub 0, bb false, AV.sl .any 36 (some 0) [], AV.sl .any 56 (some 0) []], AV.agg [ub 0, bb false, AV.sl .any 36 (some 1) [AV.agg [ub (Idd.y { y := (1 : Int), n := (1 : Int) }), it (Idd.n { y := (1 : Int), n := (1 : Int) })]], AV.sl .any 56 (some 0) []]], AV.sl .any 45 (some 1) [AV.agg [ub 0, bb true, AV.sl .any 36 (some 1) [AV.agg [ub (Idd.y { y := (1 : Int), n := (0 : Int) }), it (Idd.n { y := (1 : Int), n := (0 : Int) })]], AV.sl .any 56 (some 1) [AV.agg [ub (Ps.y p11), it (Ps.n p11), bb (Ps.f p11), ub (Ps.d p11)]]]], AV.sl .any 45 (some 0) [], AV.sl .any 45 (some 0) [], AV.sl .any 45 (some 0) [], AV.sl .any 45 (some 0) []], ub 1, view (AV.agg [ub 0, bb false, AV.sl .fresh 36 (some 1) [AV.agg [ub (Idd.y { y := (2 : Int), n := (1 : Int) }), it (Idd.n { y := (2 : Int), n := (1 : Int) })]], zqw])] (AV.tup [zqw, it 1])) (by (first | rw [zqh] | rw [zqg] | rw [zrd] | rw [zrc] | skip); apply yvk<;>first|assumption|rfl|(simp at *<;>omega)) zqa)))
theorem yxy (m : List (List Lp)) (g0 : AV.sl .own 36 (some 1) [AV.agg [ub 2, it 0]] = iow (some (1 : Nat)) [{ y := (2 : Int), n := (0 : Int) }]) (g1 : List.getD [AV.agg [ub (0 : Int), bb true, F36, F56], AV.agg [ub (0 : Int), bb false, F36, F56], AV.agg [ub (0 : Int), bb false, AV.sl .fresh (36 : TypeId) (some (1 : Nat)) [Idd.enc { y := (1 : Int), n := (1 : Int) }], F56]] ((0 : Int).toNat) AV.bad = AV.agg [ub 0, bb true, AV.sl .fresh 36 (some (0 : Nat)) (List.map Idd.enc []), AV.sl .fresh 56 (some (0 : Nat)) (List.map Ps.enc [])]) : Tri Try.prog (cxN 129 0) (zqr Try.f14 10) ([(1, exO), (3, it 0), (8, A8), (10, it 8), (12, it 1), (64, T64 m)]) .normal ([(1, AV.sl .own 37 (some 6) [AV.sl .own 45 (some 3) [AV.agg [ub 0, bb true, AV.sl .own 36 (some 1) [AV.agg [ub (Idd.y { y := (2 : Int), n := (0 : Int) }), it (Idd.n { y := (2 : Int), n := (0 : Int) })]], AV.sl .fresh 56 (some 0) []], AV.agg [ub 0, bb false, AV.sl .fresh 36 (some 0) [], AV.sl .fresh 56 (some 0) []], AV.agg [ub 0, bb false, AV.sl .fresh 36 (some 1) [AV.agg [ub (Idd.y { y := (1 : Int), n := (1 : Int) }), it (Idd.n { y := (1 : Int), n := (1 : Int) })]], AV.sl .fresh 56 (some 0) []]], AV.sl .own 45 (some 1) [AV.agg [ub 0, bb true, AV.sl .own 36 (some 1) [AV.agg [ub (Idd.y { y := (1 : Int), n := (0 : Int) }), it (Idd.n { y := (1 : Int), n := (0 : Int) })]], AV.sl .own 56 (some 1) [AV.agg [ub (Ps.y p11), it (Ps.n p11), bb (Ps.f p11), ub (Ps.d p11)]]]], AV.sl .own 45 (some 0) [], AV.sl .own 45 (some 0) [], AV.sl .own 45 (some 0) [], AV.sl .own 45 (some 0) []]), (3, it 0), (8, AV.al 64 [(0, 0)] none), (10, it 8), (12, it 1), (64, AV.tup [AV.sl .own 37 none (List.map lOW m), it 0])]) :=
 ev h14 [.c, .c, .c, .c, .c, .c, .c, .r (iow (some (1 : Nat)) [{ y := (2 : Int), n := (0 : Int) }]), .c, .c, .c, .c, .c, .c, .c, .c, .c, .c, .r (AV.agg [ub 0, bb true, AV.sl .fresh 36 (some (0 : Nat)) (List.map Idd.enc []), AV.sl .fresh 56 (some (0 : Nat)) (List.map Ps.enc [])]), .c, .c, .c] (allp g0 (allp g1 zqa))
theorem yxx (m : List (List Lp)) (g0 : List.getD [O17] ((0 : Int).toNat) AV.bad = AV.agg [ub 0, bb true, iow (some (1 : Nat)) [{ y := (1 : Int), n := (0 : Int) }], AV.sl .own 56 (some (1 : Nat)) (List.map Ps.enc [p11])]) : Tri Try.prog (cxN 129 0) (zqr Try.f14 11) ([(1, exO2), (3, it 0), (8, A8), (10, it 8), (12, it 1), (64, T64 m)]) .normal ([(1, AV.sl .own 37 (some 6) [AV.sl .own 45 (some 3) [AV.agg [ub 0, bb true, AV.sl .own 36 (some 1) [AV.agg [ub (Idd.y { y := (2 : Int), n := (0 : Int) }), it (Idd.n { y := (2 : Int), n := (0 : Int) })]], AV.sl .fresh 56 (some 0) []], AV.agg [ub 0, bb false, AV.sl .fresh 36 (some 0) [], AV.sl .fresh 56 (some 0) []], AV.agg [ub 0, bb false, AV.sl .fresh 36 (some 1) [AV.agg [ub (Idd.y { y := (1 : Int), n := (1 : Int) }), it (Idd.n { y := (1 : Int), n := (1 : Int) })]], AV.sl .fresh 56 (some 0) []]], AV.sl .own 45 (some 1) [AV.agg [ub 0, bb true, zqw, AV.sl .own 56 (some 1) [AV.agg [ub (Ps.y p11), it (Ps.n p11), bb (Ps.f p11), ub (Ps.d p11)]]]], AV.sl .own 45 (some 0) [], AV.sl .own 45 (some 0) [], AV.sl .own 45 (some 0) [], AV.sl .own 45 (some 0) []]), (3, it 0), (8, AV.al 64 [(0, 0)] none), (10, it 8), (12, it 1), (64, AV.tup [AV.sl .own 37 none (List.map lOW m), it 0])]) :=
 ev h14 [.c, .c, .c, .c, .c, .c, .c, .c, .c, .c, .c, .c, .c, .c, .c, .c, .r (AV.agg [ub 0, bb true, iow (some (1 : Nat)) [{ y := (1 : Int), n := (0 : Int) }], AV.sl .own 56 (some (1 : Nat)) (List.map Ps.enc [p11])]), .c, .c, .c] (allp g0 zqa)
theorem yxw (m : List (List Lp)) (g0 : List.getD [AV.agg [ub (0 : Int), bb true, zqw, AV.sl .own (56 : TypeId) (some (1 : Nat)) [Ps.enc p11]]] ((0 : Int).toNat) AV.bad = AV.agg [ub 0, bb true, zqw, AV.sl .own 56 (some (1 : Nat)) (List.map Ps.enc [p11])]) : Tri Try.prog (cxN 129 0) (zqr Try.f14 12) ([(1, exO3), (3, it 0), (8, A8), (10, it 8), (12, it 1), (64, T64 m)]) .normal ([(1, AV.sl .own 37 (some 6) [AV.sl .own 45 (some 3) [AV.agg [ub 0, bb true, AV.sl .own 36 (some 1) [AV.agg [ub (Idd.y { y := (2 : Int), n := (0 : Int) }), it (Idd.n { y := (2 : Int), n := (0 : Int) })]], AV.sl .fresh 56 (some 0) []], AV.agg [ub 0, bb false, AV.sl .fresh 36 (some 0) [], AV.sl .fresh 56 (some 0) []], AV.agg [ub 0, bb false, AV.sl .fresh 36 (some 1) [AV.agg [ub (Idd.y { y := (1 : Int), n := (1 : Int) }), it (Idd.n { y := (1 : Int), n := (1 : Int) })]], AV.sl .fresh 56 (some 0) []]], AV.sl .own 45 (some 1) [AV.agg [ub 0, bb true, zqw, AV.sl .own 56 (some 1) [AV.agg [ub 1, it 0, bb (Ps.f p11), ub (Ps.d p11)]]]], AV.sl .own 45 (some 0) [], AV.sl .own 45 (some 0) [], AV.sl .own 45 (some 0) [], AV.sl .own 45 (some 0) []]), (3, it 0), (8, AV.al 64 [(0, 0)] none), (10, it 8), (12, it 1), (64, AV.tup [AV.sl .own 37 none (List.map lOW m), it 0])]) :=
 ev h14 [.c, .c, .c, .c, .c, .c, .c, .c, .c, .c, .c, .c, .c, .c, .c, .c, .r (AV.agg [ub 0, bb true, zqw, AV.sl .own 56 (some (1 : Nat)) (List.map Ps.enc [p11])]), .c, .c, .c, .c, .c, .r (AV.agg [ub 0, bb true, zqw, AV.sl .own 56 (some (1 : Nat)) (List.map Ps.enc [p11])]), .c, .c, .c, .c, .c, .r (AV.agg [ub 0, bb true, zqw, AV.sl .own 56 (some (1 : Nat)) (List.map Ps.enc [p11])]), .c, .c, .c, .c, .r (AV.agg [ub 0, bb true, zqw, AV.sl .own 56 (some (1 : Nat)) (List.map Ps.enc [p11])]), .c, .c, .c, .c, .c, .r (AV.agg [ub 0, bb true, zqw, AV.sl .own 56 (some (1 : Nat)) (List.map Ps.enc [p11])]), .c] (allp g0 (allp g0 (allp g0 (allp g0 (allp g0 zqa)))))
theorem yxv (m : List (List Lp)) (hm : PureC Try.prog 12 [.sl .any 37 none ((rwO m).map Rw.enc)] (it 5)) : Tri Try.prog (cxN 129 0) (zqr Try.f14 13) ([(1, exO4), (3, it 0), (8, A8), (10, it 8), (12, it 1), (64, T64 m)]) .normal ([(0, bb ((6 : Int) == (6 : Int))), (64, AV.tup [AV.sl .own 37 none (List.map lOW m), it 0])]) :=
 ev h14 [.c, .c, .c, .c, .c, .c, .c, .r (it 5), .c, .c, .c, .c, .c, .c, .c, .c, .c, .c, .c, .c, .c, .c, .c, .c, .c, .c, .c, .c, .c, .c, .c, .c, .c, .r (it 6), .c, .c, .c, .c, .c, .c, .c] (allp (p := PureC Try.prog 12 [view (AV.sl .own 37 none (List.map lOW m))] (it 5)) (by (first | rw [zqh] | rw [zqg] | rw [zrd] | rw [zrc] | skip); apply pC1<;>first|assumption|rfl|(simp at *<;>omega)) (allp (p := PureC Try.prog 11 [AV.sl .any 37 (some 6) [AV.sl .any 45 (some 3) [AV.agg [ub 0, bb true, AV.sl .any 36 (some 1) [AV.agg [ub (Idd.y { y := (2 : Int), n := (0 : Int) }), it (Idd.n { y := (2 : Int), n := (0 : Int) })]], AV.sl .any 56 (some 0) []], AV.agg [ub 0, bb false, AV.sl .any 36 (some 0) [], AV.sl .any 56 (some 0) []], AV.agg [ub 0, bb false, AV.sl .any 36 (some 1) [AV.agg [ub (Idd.y { y := (1 : Int), n := (1 : Int) }), it (Idd.n { y := (1 : Int), n := (1 : Int) })]], AV.sl .any 56 (some 0) []]], AV.sl .any 45 (some 1) [AV.agg [ub 0, bb true, AV.sl .any 36 (some 0) [], AV.sl .any 56 (some 1) [AV.agg [ub (Ps.y { y := (1 : Int), n := (0 : Int), f := false, d := (1 : Int) }), it (Ps.n { y := (1 : Int), n := (0 : Int), f := false, d := (1 : Int) }), bb (Ps.f { y := (1 : Int), n := (0 : Int), f := false, d := (1 : Int) }), ub (Ps.d { y := (1 : Int), n := (0 : Int), f := false, d := (1 : Int) })]]]], AV.sl .any 45 (some 0) [], AV.sl .any 45 (some 0) [], AV.sl .any 45 (some 0) [], AV.sl .any 45 (some 0) []]] (it 6)) (by apply x_chk<;>first|assumption|rfl|(simp at *<;>omega)) zqa))
end Tst
end

section
open Go Go.Lf Go.RowKit Go.Proofs
namespace Tst
theorem ytf : Try.f14.body = some (.seq (zqr Try.f14 0) (.seq (zqr Try.f14 1) (.seq (zqr Try.f14 2) (.seq (zqr Try.f14 3) (.seq (zqr Try.f14 4) (.seq (.seq (zqr Try.f14 5) (.cond (.tmp 63) (.seq (zqr Try.f14 6) .ret) .skip)) (.seq (zqr Try.f14 7) (.seq (zqr Try.f14 8) (.seq (zqr Try.f14 9) (.seq (zqr Try.f14 10) (.seq (zqr Try.f14 11) (.seq (zqr Try.f14 12) (.seq (zqr Try.f14 13) .ret))))))))))))) := by kernel_rfl
theorem Tri.lessAt {P : Program} {cx : Cx} {c : Code} {env env' : Env} {ex : Ex} {r : Nat} {x y : AV} (h : Tri P cx c env ex env') (hl : lk env' r = some x) (hx : zqf x = none) (hle : Le P x y) (hnl : ∀ t y', lk env' t = some y' → zqf y' ≠ some r) : Tri P cx c env ex ((r, y) :: env') := by
 intro ρ hρ F B0 w0 S0 ds a w Q hag hQ
 refine h ρ hρ F B0 w0 S0 ds a w Q hag fun a' w' ha => hQ a' w' ?_
 obtain ⟨Ds, n, S, Os, hnd, hD, h1, h2, hn, hgr, hst⟩ := ha
 obtain ⟨v, hv, hs⟩ := hst.rel r x hl
 have hr := hs.rv hx
 have k1 := hst.set (zly n) r (v := v) (x := y) (O := Os r) (S' := S) (w' := w') ⟨(zlj.1 hv).1, .inr hv⟩ (Below.refl _ _) (fun b hb => hb) hst.sLt (fun b t _ hb => hst.excl b t hb) (fun b hb => hst.excl b r hb) (fun _ _ => rfl) (hst.one r)
  (fun b t ht hb => by rcases hst.dis t r b ht with h | h <;> omega) (.inr (hle _ _ _ _ _ _ hr)) (fun t y' u _ hy hyr _ _ => absurd hyr (hnl t y' hy))
 rw [ya0 a'.tmps r _ hv] at k1
 have e : (fun t => if t = r then Os r else Os t) = Os := by funext t; split <;> simp_all
 rw [e] at k1
 exact ⟨Ds, n, S, Os, hnd, hD, h1, h2, hn, hgr, k1⟩
theorem ync (k : Nat) (l : List Idd) : (l.map Idd.enc).all (yag (k + 2)) = true := by
 rw [List.all_map, zls]; intro p _; rfl
theorem yp1 (k : Nat) (l : List Ps) : (l.map Ps.enc).all (yag (k + 2)) = true := by
 rw [List.all_map, zls]; intro p _; rfl
theorem yna (m : List (List Lp)) : yag 11 (.sl .own 37 none (m.map lOW)) = true := by
 show (true && (m.map lOW).all (yag 10)) = true
 rw [Bool.true_and, List.all_map, zls]
 intro l _
 show (true && (l.map Lp.encF).all (yag 9)) = true
 rw [Bool.true_and, List.all_map, zls]
 intro K _
 show (true && (true && ((true && (K.th.map Idd.enc).all (yag 7)) && ((true && (K.pa.map Ps.enc).all (yag 7)) && true)))) = true
 rw [ync 5, yp1 5]; rfl
abbrev yqm : AV := .sl .own 37 (some 6) [R1p, .sl .own 45 (some 1) [.agg [ub 0, bb true, zqw, .sl .own 56 (some 1) [Ps.enc ⟨1, 0, false, 1⟩]]], No, No, No, No]
theorem yye : Le Try.prog yqm exO4 := by
 refine Le.ownEls rfl (fun sz hu y hy => ?_) ?_
 ·have := hu R1p (by simp)
  rw [← this]
  simp only [List.mem_cons, List.mem_nil_iff, or_false] at hy
  rcases hy with rfl | rfl | rfl | rfl | rfl | rfl <;> rfl
 ·show F2 (Le Try.prog) [R1p, .sl .own 45 (some 1) [.agg [ub 0, bb true, zqw, .sl .own 56 (some 1) [Ps.enc ⟨1, 0, false, 1⟩]]], No, No, No, No] [R1p, .sl .own 45 (some 1) [.agg [ub 0, bb true, .sl .own 36 (some 0) [], .sl .own 56 (some 1) [Ps.enc ⟨1, 0, false, 1⟩]]], No, No, No, No]
  refine .cons (Le.refl _) (.cons ?_ (.cons (Le.refl _) (.cons (Le.refl _) (.cons (Le.refl _) (.cons (Le.refl _) .nil)))))
  refine Le.ownEls rfl (fun sz hu y hy => ?_) ?_
  ·have := hu (.agg [ub 0, bb true, zqw, .sl .own 56 (some 1) [Ps.enc ⟨1, 0, false, 1⟩]]) (by simp)
   rw [← this]
   rw [zlv] at hy; subst hy; rfl
  ·show F2 (Le Try.prog) [ub 0, bb true, zqw, .sl .own 56 (some 1) [Ps.enc ⟨1, 0, false, 1⟩]] [ub 0, bb true, .sl .own 36 (some 0) [], .sl .own 56 (some 1) [Ps.enc ⟨1, 0, false, 1⟩]]
   exact .cons (Le.refl _) (.cons (Le.refl _) (.cons (Le.nilOwn 36) (.cons (Le.refl _) .nil)))
section
variable (m : List (List Lp))
abbrev e9 (x : AV) : Env := [(1, x), (3, it 0), (8, A8), (10, it 8), (12, it 1), (64, T64 m)]
theorem lv_a : Tri Try.prog (cxN 129 0) (zqr Try.f14 12) (e9 m exO3) .normal (e9 m exO4) := by
 exact .after (kp [1, 3, 8, 10, 12, 64]) (Tst.Tri.lessAt (r := 1) (x := yqm) (y := exO4) (env' := e9 m yqm) (.after (kp [1, 3, 8, 10, 12, 64]) (yxw m rfl)) rfl rfl yye fun t y' hy => noLf (env := e9 m yqm) hy (by rfl))
abbrev e4 : Env := [(1, exO), (2, A2), (3, it 0), (4, .box [ub 2, it 0]), (5, bb true), (7, bb false), (14, T14)]
theorem lv_b : Tri Try.prog (cxN 129 0) (.seq (zqr Try.f14 5) (.cond (.tmp 63) (.seq (zqr Try.f14 6) .ret) .skip)) e4 .normal [(1, exO)] :=
 .seq (env1 := [(1, exO), (63, bb false)]) (.after (kp [1, 63]) (by apply lv5_0 <;> rfl)) (.cond (b := false) rfl (.after (kp [1]) .skip))
theorem lv_c (ha : PureC Try.prog 17 [exV, ub 1, .agg [ub 0, bb false, .sl .any 36 (some 1) [Idd.enc ⟨2, 0⟩], zqw]] (.tup [tOW m, it 0])) (hm : PureC Try.prog 12 [.sl .any 37 none ((rwO m).map Rw.enc)] (it 5)) : Tri Try.prog (cxN 129 0) (.seq (zqr Try.f14 7) (.seq (zqr Try.f14 8) (.seq (zqr Try.f14 9) (.seq (zqr Try.f14 10) (.seq (zqr Try.f14 11) (.seq (zqr Try.f14 12) (.seq (zqr Try.f14 13) .ret))))))) [(1, exO)] .ret [(0, bb true)] := by
 refine .seq (env1 := [(1, exO), (3, it 0), (8, A8), (64, T64 m)]) (.after (kp [1, 3, 8, 64]) (lv7_0 m ha rfl rfl (by rw [decide_eq_true_eq]; intro _; show (yag 11 (.sl .own 37 none (m.map lOW)) && (true && true)) = true; rw [yna]; rfl))) ?_
 refine .seq (env1 := [(1, exO), (3, it 0), (8, A8), (10, it 8), (64, T64 m)]) (.after (kp [1, 3, 8, 10, 64]) (lv8_0 m rfl rfl)) ?_
 refine .seq (env1 := e9 m exO) (.after (kp [1, 3, 8, 10, 12, 64]) (lv9_0 m rfl rfl)) ?_
 refine .seq (env1 := e9 m exO2) (.after (kp [1, 3, 8, 10, 12, 64]) (yxy m rfl rfl)) ?_
 refine .seq (env1 := e9 m exO3) (.after (kp [1, 3, 8, 10, 12, 64]) (yxx m rfl)) ?_
 exact .seq (lv_a m) (.seq (env1 := [(0, bb true)]) (.after (kp [0]) (yxv m hm)) .ret)
end
theorem ynm : PureC Try.prog 14 [] (bb true) := by
 refine ycc ((base 129 0).ok zqb.1 zqb.2) Try.func14 rfl (by show 0 ≤ 129; omega) rfl ytf rfl (ex := .ret) (env' := [(0, bb true)]) ?_ (by kernel_rfl)
 refine .seq (env1 := []) (.after (kp []) lv0_0) ?_
 refine .seq (env1 := [(1, exO)]) (.after (kp [1]) lv1_0) ?_
 refine .seq (env1 := [(1, exO), (2, A2), (3, it 0), (14, T14)]) (.after (kp [1, 2, 3, 14]) lv2_0) ?_
 refine .seq (env1 := [(1, exO), (2, A2), (3, it 0), (4, .box [ub 2, it 0]), (5, bb true), (14, T14)]) (.after (kp [1, 2, 3, 4, 5, 14]) lv3_0) ?_
 refine .seq (env1 := e4) (.after (kp [1, 2, 3, 4, 5, 7, 14]) lv4_0) ?_
 exact .seq lv_b (lv_c uR yvm x_cnt)
structure Lx where
 y : Int
 b : Bool
 w : Bool
 ct : Option Nat
 th : List Int
 cp : Option Nat
 pa : List Int
 deriving Inhabited
def ubE (i : Int) : AV := .atom (.int .u8 i)
abbrev u8l (c : Option Nat) (l : List Int) : AV := .sl .any 5 c (l.map ubE)
def Lx.enc (L : Lx) : AV := .agg [ub L.y, bb L.b, bb L.w, u8l L.ct L.th, u8l L.cp L.pa]
abbrev xsl (c : Option Nat) (x : List Lx) : AV := .sl .any 67 c (x.map Lx.enc)
def Lp.encG (L : Lp) : AV := .agg [ub L.b, bb L.w, .sl .fresh 36 none (L.th.map Idd.enc), .sl .fresh 56 none (L.pa.map Ps.enc)]
def gOW (l : List Lp) : AV := .sl .own 45 none (l.map Lp.encG)
abbrev tGW (m : List (List Lp)) : AV := .sl .own 37 none (m.map gOW)
abbrev bxL (b : Int) (w : Bool) (th : List Idd) (pa : List Ps) : AV := .box [ub b, bb w, .sl .own 36 none (th.map Idd.enc), .sl .own 56 none (pa.map Ps.enc)]
set_option maxHeartbeats 0
theorem of0_0 (c : Option Nat) (x : List Lx) : Tri Try.prog (cxN 184 0) (zqr Try.f9 0) ([(0, xsl c x)]) .normal ([(0, xsl c x)]) :=
 ev h9 [.c, .c] zqa
theorem of1_0 (c : Option Nat) (x : List Lx) : Tri Try.prog (cxN 184 0) (zqr Try.f9 1) ([(0, xsl c x)]) .normal ([(0, xsl c x), (4, AV.sl .own 37 (some 6) [zqw, zqw, zqw, zqw, zqw, zqw])]) :=
 ev h9 [.c, .c, .c] zqa
theorem of2_0 (c : Option Nat) (x : List Lx) (m : List (List Lp)) : Tri Try.prog (cxN 184 0) (zqr Try.f9 2) ([(0, xsl c x), (4, tGW m)]) .normal ([(0, xsl c x), (4, AV.sl .own 37 none (List.map gOW m)), (5, zqw), (6, zqw)]) :=
 ev h9 [.c, .c] zqa
theorem of3_0 (c : Option Nat) (x : List Lx) (m : List (List Lp)) (fr md : List Idd) : Tri Try.prog (cxN 184 0) (zqr Try.f9 3) ([(0, xsl c x), (4, tGW m), (5, iow none fr), (6, iow none md)]) .normal ([(0, xsl c x), (4, AV.sl .own 37 none (List.map gOW m)), (5, iow none fr), (6, iow none md), (7, it 0)]) :=
 ev h9 [.c] zqa
theorem ywy (c : Option Nat) (x : List Lx) (m : List (List Lp)) (fr md : List Idd) (i : Int) (g0 : decide (i < ((x.map Lx.enc).length : Int)) = true) : Tri Try.prog (cxN 184 0) (zqr Try.f9 4) ([(0, xsl c x), (4, tGW m), (5, iow none fr), (6, iow none md), (7, it i)]) .normal ([(0, xsl c x), (4, AV.sl .own 37 none (List.map gOW m)), (5, iow none fr), (6, iow none md), (7, it i), (23, bb (decide (i < (60 : Int))))]) :=
 ev h9 [.c, .c, .c, .c, .c, .b true, .c, .b true, .c, .b true, .c] (allp g0 (allp g0 (allp g0 zqa)))
theorem of4_1 (c : Option Nat) (x : List Lx) (m : List (List Lp)) (fr md : List Idd) (i : Int) (g0 : decide (i < ((x.map Lx.enc).length : Int)) = false) : Tri Try.prog (cxN 184 0) (zqr Try.f9 4) ([(0, xsl c x), (4, tGW m), (5, iow none fr), (6, iow none md), (7, it i)]) .normal ([(0, xsl c x), (4, AV.sl .own 37 none (List.map gOW m)), (5, iow none fr), (6, iow none md), (7, it i), (23, bb false)]) :=
 ev h9 [.c, .c, .c, .c, .c, .b false, .c, .b false, .c, .b false, .c] (allp g0 (allp g0 (allp g0 zqa)))
theorem of6_0 (c : Option Nat) (x : List Lx) (m : List (List Lp)) (fr md : List Idd) (i : Int) (g0 : decide (0 ≤ i ∧ i < ((x.map Lx.enc).length : Int)) = true) (g1 : (x.map Lx.enc).getD i.toNat AV.bad = Lx.enc (x.getD i.toNat default)) : Tri Try.prog (cxN 184 0) (zqr Try.f9 6) ([(0, xsl c x), (4, tGW m), (5, iow none fr), (6, iow none md), (7, it i)]) .normal ([(0, xsl c x), (4, AV.sl .own 37 none (List.map gOW m)), (5, iow none fr), (6, iow none md), (7, it i), (8, it (i64.wrap (Int.tmod (Lx.y (x.getD i.toNat default)) (6 : Int))))]) :=
 ev h9 [.c, .c, .b true, .r (Lx.enc (x.getD i.toNat default)), .c, .c, .c, .c, .c, .c] (allp g0 (allp g1 zqa))
theorem of7_0 (c : Option Nat) (x : List Lx) (m : List (List Lp)) (fr md : List Idd) (i y : Int) (g0 : decide (0 ≤ i ∧ i < ((x.map Lx.enc).length : Int)) = true) (g1 : (x.map Lx.enc).getD i.toNat AV.bad = Lx.enc (x.getD i.toNat default)) (g2 : Lx.w (x.getD i.toNat default) = true) : Tri Try.prog (cxN 184 0) (zqr Try.f9 7) ([(0, xsl c x), (4, tGW m), (5, iow none fr), (6, iow none md), (7, it i), (8, it y)]) .normal ([(0, xsl c x), (4, AV.sl .own 37 none (List.map gOW m)), (5, iow none fr), (6, iow none md), (7, it i), (8, it y), (9, AV.box [ub 0, bb true, zqw, zqw])]) :=
 ev h9 [.c, .c, .b true, .r (Lx.enc (x.getD i.toNat default)), .c, .c, .c, .c, .b true, .c, .b true, .c, .b true, .c, .b true, .c, .b true, .c, .b true, .c, .b true, .c, .c, .c, .c] (allp g0 (allp g1 (allp g2 (allp g2 (allp g2 (allp g2 (allp g2 (allp g2 (allp g2 zqa)))))))))
theorem of7_1 (c : Option Nat) (x : List Lx) (m : List (List Lp)) (fr md : List Idd) (i y : Int) (g0 : decide (0 ≤ i ∧ i < ((x.map Lx.enc).length : Int)) = true) (g1 : (x.map Lx.enc).getD i.toNat AV.bad = Lx.enc (x.getD i.toNat default)) (g2 : Lx.w (x.getD i.toNat default) = false) (g3 : decide (0 ≤ y ∧ y < ((m.map gOW).length : Int)) = true) (g4 : decide (y.toNat < (m.map gOW).length) = true) (g5 : (m.map gOW).getD y.toNat AV.bad = gOW (m.getD y.toNat default)) : Tri Try.prog (cxN 184 0) (zqr Try.f9 7) ([(0, xsl c x), (4, tGW m), (5, iow none fr), (6, iow none md), (7, it i), (8, it y)]) .normal ([(0, xsl c x), (4, AV.sl .own 37 none (List.map gOW m)), (5, iow none fr), (6, iow none md), (7, it i), (8, it y), (9, AV.box [ub 0, bb ((↑(((m.getD y.toNat default).map Lp.encG).length) : Int) == (0 : Int)), zqw, zqw])]) :=
 ev h9 [.c, .c, .b true, .r (Lx.enc (x.getD i.toNat default)), .c, .c, .c, .c, .b false, .c, .b false, .c, .b false, .b true, .c, .b false, .b true, .r (gOW (m.getD y.toNat default)), .c, .b false, .b true, .r (gOW (m.getD y.toNat default)), .c, .b false, .c, .b false, .c, .c, .c, .c] (allp g0 (allp g1 (allp g2 (allp g2 (allp g2 (allp g3 (allp g2 (allp g4 (allp g5 (allp g2 (allp g4 (allp g5 (allp g2 (allp g2 zqa))))))))))))))
theorem of8_0 (c : Option Nat) (x : List Lx) (m : List (List Lp)) (fr md : List Idd) (i y : Int) (b : Int) (w : Bool) (th : List Idd) (pa : List Ps) (g0 : decide (0 ≤ i ∧ i < ((x.map Lx.enc).length : Int)) = true) (g1 : (x.map Lx.enc).getD i.toNat AV.bad = Lx.enc (x.getD i.toNat default)) : Tri Try.prog (cxN 184 0) (zqr Try.f9 8) ([(0, xsl c x), (4, tGW m), (5, iow none fr), (6, iow none md), (7, it i), (8, it y), (9, bxL b w th pa)]) .normal ([(0, xsl c x), (4, AV.sl .own 37 none (List.map gOW m)), (5, iow none fr), (6, iow none md), (7, it i), (8, it y), (9, AV.box [ub b, bb w, iow none th, AV.sl .own 56 none (List.map Ps.enc pa)]), (51, bb (Lx.b (x.getD i.toNat default)))]) :=
 ev h9 [.c, .c, .b true, .r (Lx.enc (x.getD i.toNat default)), .c, .c, .c] (allp g0 (allp g1 zqa))
theorem of9_0 (c : Option Nat) (x : List Lx) (m : List (List Lp)) (fr md : List Idd) (i y : Int) (b : Int) (w : Bool) (th : List Idd) (pa : List Ps) : Tri Try.prog (cxN 184 0) (zqr Try.f9 9) ([(0, xsl c x), (4, tGW m), (5, iow none fr), (6, iow none md), (7, it i), (8, it y), (9, bxL b w th pa)]) .normal ([(0, xsl c x), (4, AV.sl .own 37 none (List.map gOW m)), (5, iow none fr), (6, iow none md), (7, it i), (8, it y), (9, AV.box [ub 1, bb w, iow none th, AV.sl .own 56 none (List.map Ps.enc pa)])]) :=
 ev h9 [.c, .c, .c, .c] zqa
theorem yxf (c : Option Nat) (x : List Lx) (m : List (List Lp)) (fr md : List Idd) (i y : Int) (b : Int) (w : Bool) (th : List Idd) (pa : List Ps) : Tri Try.prog (cxN 184 0) (zqr Try.f9 10) ([(0, xsl c x), (4, tGW m), (5, iow none fr), (6, iow none md), (7, it i), (8, it y), (9, bxL b w th pa)]) .normal ([(0, xsl c x), (4, AV.sl .own 37 none (List.map gOW m)), (5, iow none fr), (6, iow none md), (7, it i), (8, it y), (9, AV.box [ub b, bb w, iow none th, AV.sl .own 56 none (List.map Ps.enc pa)]), (10, it 0)]) :=
 ev h9 [.c] zqa
theorem yro (c : Option Nat) (x : List Lx) (m : List (List Lp)) (fr md : List Idd) (i y : Int) (b : Int) (w : Bool) (th : List Idd) (pa : List Ps) (k : Int) (g0 : decide (0 ≤ i ∧ i < ((x.map Lx.enc).length : Int)) = true) (g1 : (x.map Lx.enc).getD i.toNat AV.bad = Lx.enc (x.getD i.toNat default)) (g2 : decide (k < (↑(((Lx.th (x.getD i.toNat default)).map ubE).length) : Int)) = true) (g3 : decide (k < (4 : Int)) = true) : Tri Try.prog (cxN 184 0) (zqr Try.f9 11) ([(0, xsl c x), (4, tGW m), (5, iow none fr), (6, iow none md), (7, it i), (8, it y), (9, bxL b w th pa), (10, it k)]) .normal ([(0, xsl c x), (4, AV.sl .own 37 none (List.map gOW m)), (5, iow none fr), (6, iow none md), (7, it i), (8, it y), (9, AV.box [ub b, bb w, iow none th, AV.sl .own 56 none (List.map Ps.enc pa)]), (10, it k), (69, bb (decide ((0 : Int) < ((fr.map Idd.enc).length : Int))))]) :=
 ev h9 [.c, .c, .c, .b true, .r (Lx.enc (x.getD i.toNat default)), .c, .c, .c, .c, .c, .c, .b true, .c, .b true, .c, .b true, .c, .c, .b true, .c, .b true, .c, .b true, .c, .b true, .c] (allp g0 (allp g1 (allp g2 (allp g2 (allp g2 (allp g3 (allp g3 (allp g3 (allp g3 zqa)))))))))
theorem yxe (c : Option Nat) (x : List Lx) (m : List (List Lp)) (fr md : List Idd) (i y : Int) (b : Int) (w : Bool) (th : List Idd) (pa : List Ps) (k : Int) (g0 : decide (0 ≤ i ∧ i < ((x.map Lx.enc).length : Int)) = true) (g1 : (x.map Lx.enc).getD i.toNat AV.bad = Lx.enc (x.getD i.toNat default)) (g2 : decide (k < (↑(((Lx.th (x.getD i.toNat default)).map ubE).length) : Int)) = true) (g3 : decide (k < (4 : Int)) = false) : Tri Try.prog (cxN 184 0) (zqr Try.f9 11) ([(0, xsl c x), (4, tGW m), (5, iow none fr), (6, iow none md), (7, it i), (8, it y), (9, bxL b w th pa), (10, it k)]) .normal ([(0, xsl c x), (4, AV.sl .own 37 none (List.map gOW m)), (5, iow none fr), (6, iow none md), (7, it i), (8, it y), (9, AV.box [ub b, bb w, iow none th, AV.sl .own 56 none (List.map Ps.enc pa)]), (10, it k), (69, bb false)]) :=
 ev h9 [.c, .c, .c, .b true, .r (Lx.enc (x.getD i.toNat default)), .c, .c, .c, .c, .c, .c, .b true, .c, .b true, .c, .b true, .c, .c, .b false, .c, .b false, .c, .b false, .c, .b false, .c] (allp g0 (allp g1 (allp g2 (allp g2 (allp g2 (allp g3 (allp g3 (allp g3 (allp g3 zqa)))))))))
theorem yxd (c : Option Nat) (x : List Lx) (m : List (List Lp)) (fr md : List Idd) (i y : Int) (b : Int) (w : Bool) (th : List Idd) (pa : List Ps) (k : Int) (g0 : decide (0 ≤ i ∧ i < ((x.map Lx.enc).length : Int)) = true) (g1 : (x.map Lx.enc).getD i.toNat AV.bad = Lx.enc (x.getD i.toNat default)) (g2 : decide (k < (↑(((Lx.th (x.getD i.toNat default)).map ubE).length) : Int)) = false) : Tri Try.prog (cxN 184 0) (zqr Try.f9 11) ([(0, xsl c x), (4, tGW m), (5, iow none fr), (6, iow none md), (7, it i), (8, it y), (9, bxL b w th pa), (10, it k)]) .normal ([(0, xsl c x), (4, AV.sl .own 37 none (List.map gOW m)), (5, iow none fr), (6, iow none md), (7, it i), (8, it y), (9, AV.box [ub b, bb w, iow none th, AV.sl .own 56 none (List.map Ps.enc pa)]), (10, it k), (69, bb false)]) :=
 ev h9 [.c, .c, .c, .b true, .r (Lx.enc (x.getD i.toNat default)), .c, .c, .c, .c, .c, .c, .b false, .c, .b false, .c, .b false, .c, .c, .c, .c, .c, .c, .c, .c, .c, .c] (allp g0 (allp g1 (allp g2 (allp g2 (allp g2 zqa)))))
theorem yxb (c : Option Nat) (x : List Lx) (m : List (List Lp)) (f0 : Idd) (fr md : List Idd) (i y : Int) (b : Int) (w : Bool) (th : List Idd) (pa : List Ps) (k : Int) (g0 : decide (0 ≤ i ∧ i < ((x.map Lx.enc).length : Int)) = true) (g1 : (x.map Lx.enc).getD i.toNat AV.bad = Lx.enc (x.getD i.toNat default)) (g2 : decide (0 ≤ k ∧ k < (↑(((Lx.th (x.getD i.toNat default)).map ubE).length) : Int)) = true) (g3 : ((Lx.th (x.getD i.toNat default)).map ubE).getD k.toNat AV.bad = ubE ((Lx.th (x.getD i.toNat default)).getD k.toNat default)) : Tri Try.prog (cxN 184 0) (zqr Try.f9 13) ([(0, xsl c x), (4, tGW m), (5, iow none (f0 :: fr)), (6, iow none md), (7, it i), (8, it y), (9, bxL b w th pa), (10, it k)]) .normal ([(0, xsl c x), (4, AV.sl .own 37 none (List.map gOW m)), (5, iow none (f0 :: fr)), (6, iow none md), (7, it i), (8, it y), (9, AV.box [ub b, bb w, iow none th, AV.sl .own 56 none (List.map Ps.enc pa)]), (10, it k), (11, it (Int.tmod (i64.wrap ((Lx.th (x.getD i.toNat default)).getD k.toNat default)) (↑(((f0 :: fr).map Idd.enc).length) : Int)))]) :=
 ev h9 [.c, .c, .b true, .r (Lx.enc (x.getD i.toNat default)), .c, .c, .c, .c, .b true, .r (ubE ((Lx.th (x.getD i.toNat default)).getD k.toNat default)), .c, .c, .c, .c, .c, .c, .c] (allp g0 (allp g1 (allp g2 (allp g3 zqa))))
theorem yxa (c : Option Nat) (x : List Lx) (m : List (List Lp)) (fr md : List Idd) (i y : Int) (b : Int) (w : Bool) (th : List Idd) (pa : List Ps) (k n : Int) (g0 : decide (0 ≤ n ∧ n < ((fr.map Idd.enc).length : Int)) = true) (g1 : decide (n.toNat < (fr.map Idd.enc).length) = true) (g2 : (fr.map Idd.enc).getD n.toNat AV.bad = Idd.enc (fr.getD n.toNat default)) (g3 : AV.sl .own 36 (some 1) [AV.agg [ub (Idd.y (fr.getD n.toNat default)), it (Idd.n (fr.getD n.toNat default))]] = iow (some (1 : Nat)) [{ y := Idd.y (fr.getD n.toNat default), n := Idd.n (fr.getD n.toNat default) }]) (g4 : decide ((th.map Idd.enc).length + (List.map Idd.enc [{ y := Idd.y (fr.getD n.toNat default), n := Idd.n (fr.getD n.toNat default) }]).length ≤ (4294967296 : Nat)) = true) (g5 : AV.sl .own 36 none (List.map Idd.enc th ++ List.map Idd.enc [{ y := Idd.y (fr.getD n.toNat default), n := Idd.n (fr.getD n.toNat default) }]) = iow none (th ++ [{ y := Idd.y (fr.getD n.toNat default), n := Idd.n (fr.getD n.toNat default) }])) : Tri Try.prog (cxN 184 0) (zqr Try.f9 14) ([(0, xsl c x), (4, tGW m), (5, iow none fr), (6, iow none md), (7, it i), (8, it y), (9, bxL b w th pa), (10, it k), (11, it n)]) .normal ([(0, xsl c x), (4, AV.sl .own 37 none (List.map gOW m)), (5, iow none fr), (6, iow none md), (7, it i), (8, it y), (9, AV.box [ub b, bb w, iow none (th ++ [{ y := Idd.y (fr.getD n.toNat default), n := Idd.n (fr.getD n.toNat default) }]), AV.sl .own 56 none (List.map Ps.enc pa)]), (10, it k), (11, it n)]) :=
 ev h9 [.c, .c, .c, .c, .c, .c, .b true, .c, .b true, .r (Idd.enc (fr.getD n.toNat default)), .c, .r (iow (some (1 : Nat)) [{ y := Idd.y (fr.getD n.toNat default), n := Idd.n (fr.getD n.toNat default) }]), .c, .c, .c, .c, .c, .b true, .r (iow none (th ++ [{ y := Idd.y (fr.getD n.toNat default), n := Idd.n (fr.getD n.toNat default) }])), .c, .c, .c, .c, .c] (allp g0 (allp g1 (allp g2 (allp g3 (allp g4 (allp g5 zqa))))))
theorem yw9 (c : Option Nat) (x : List Lx) (m : List (List Lp)) (fr md : List Idd) (i y : Int) (b : Int) (w : Bool) (th : List Idd) (pa : List Ps) (k n : Int) (g0 : AV.sl .own 36 (some 0) [] = iow (some (0 : Nat)) []) (g1 : decide (0 ≤ n) = true) (g2 : decide ((0 : Nat) ≤ n.toNat ∧ n.toNat ≤ (fr.map Idd.enc).length) = true) (g3 : decide ((0 : Nat) + (n.toNat - (0 : Nat)) ≤ (fr.map Idd.enc).length) = true) (g4 : decide ((26 : Nat) = (26 : Nat) ∧ (List.all (List.take (n.toNat - (0 : Nat)) (List.drop (0 : Nat) (List.map Idd.enc fr))) fun y => List.all (AV.ecells y) zqt) = true ∧ (List.all (List.take (n.toNat - (0 : Nat)) (List.drop (0 : Nat) (List.map Idd.enc fr))) fun y => decide ((AV.ecells y).length = List.length (TInfo.zero { zero := [Value.int u8 (0 : Int), Value.int i64 (0 : Int)], bytes := (16 : Nat), agg := true, kind := TK.struct [((0 : Nat), (1 : Nat)), ((1 : Nat), (1 : Nat))] }))) = true) = true) (g5 : decide (36 = (36 : TypeId) ∧ (List.map Idd.enc []).length + List.length (List.take (n.toNat - (0 : Nat)) (List.drop (0 : Nat) (List.map Idd.enc fr))) ≤ (4294967296 : Nat) ∧ Oper.dst { dst := some (97 : Nat), op := Op.call { callee := Callee.builtin Builtin.append, args := #[Operand.tmp (93 : Nat), Operand.tmp (96 : Nat)], argTypes := #[(26 : Nat), (26 : Nat)] }, type := (26 : Nat), pos := "law.go:70", after := #[{ on := (0 : Nat), ground := Ground.data }, { on := (3 : Nat), ground := Ground.data }], guard := none } ≠ some (93 : Nat)) = true) (g6 : AV.sl .own 36 (if (List.map Idd.enc []).length + List.length (List.take (n.toNat - (0 : Nat)) (List.drop (0 : Nat) (List.map Idd.enc fr))) ≤ (0 : Nat) then some (0 : Nat) else none) (List.map Idd.enc [] ++ List.take (n.toNat - (0 : Nat)) (List.drop (0 : Nat) (List.map Idd.enc fr))) = iow (if (List.map Idd.enc []).length + List.length (List.take (n.toNat - (0 : Nat)) (List.drop (0 : Nat) (List.map Idd.enc fr))) ≤ (0 : Nat) then some (0 : Nat) else none) ([] ++ List.take (n.toNat - (0 : Nat)) (List.drop (0 : Nat) fr))) (g7 : decide (0 ≤ i64.wrap (n + (1 : Int))) = true) (g8 : decide ((i64.wrap (n + (1 : Int))).toNat ≤ (fr.map Idd.enc).length ∧ (fr.map Idd.enc).length ≤ (fr.map Idd.enc).length) = true) (g9 : decide ((i64.wrap (n + (1 : Int))).toNat + ((fr.map Idd.enc).length - (i64.wrap (n + (1 : Int))).toNat) ≤ (fr.map Idd.enc).length) = true) (g10 : decide ((26 : Nat) = (26 : Nat) ∧ (List.all (List.take ((fr.map Idd.enc).length - (i64.wrap (n + (1 : Int))).toNat) (List.drop ((i64.wrap (n + (1 : Int))).toNat) (List.map Idd.enc fr))) fun y => List.all (AV.ecells y) zqt) = true ∧ (List.all (List.take ((fr.map Idd.enc).length - (i64.wrap (n + (1 : Int))).toNat) (List.drop ((i64.wrap (n + (1 : Int))).toNat) (List.map Idd.enc fr))) fun y => decide ((AV.ecells y).length = List.length (TInfo.zero { zero := [Value.int u8 (0 : Int), Value.int i64 (0 : Int)], bytes := (16 : Nat), agg := true, kind := TK.struct [((0 : Nat), (1 : Nat)), ((1 : Nat), (1 : Nat))] }))) = true) = true) (g11 : decide (36 = (36 : TypeId) ∧ List.length (List.map Idd.enc ([] ++ List.take (n.toNat - (0 : Nat)) (List.drop (0 : Nat) fr))) + List.length (List.take ((fr.map Idd.enc).length - (i64.wrap (n + (1 : Int))).toNat) (List.drop ((i64.wrap (n + (1 : Int))).toNat) (List.map Idd.enc fr))) ≤ (4294967296 : Nat) ∧ Oper.dst { dst := some (102 : Nat), op := Op.call { callee := Callee.builtin Builtin.append, args := #[Operand.tmp (97 : Nat), Operand.tmp (101 : Nat)], argTypes := #[(26 : Nat), (26 : Nat)] }, type := (26 : Nat), pos := "law.go:70", after := #[{ on := (4 : Nat), ground := Ground.data }, { on := (8 : Nat), ground := Ground.data }, { on := (4 : Nat), ground := Ground.chain }], guard := none } ≠ some (97 : Nat)) = true) (g12 : AV.sl .own 36 (match if (List.map Idd.enc []).length + List.length (List.take (n.toNat - (0 : Nat)) (List.drop (0 : Nat) (List.map Idd.enc fr))) ≤ (0 : Nat) then some (0 : Nat) else none with | some c => if List.length (List.map Idd.enc ([] ++ List.take (n.toNat - (0 : Nat)) (List.drop (0 : Nat) fr))) + List.length (List.take ((fr.map Idd.enc).length - (i64.wrap (n + (1 : Int))).toNat) (List.drop ((i64.wrap (n + (1 : Int))).toNat) (List.map Idd.enc fr))) ≤ c then some c else none | none => none) (List.map Idd.enc ([] ++ List.take (n.toNat - (0 : Nat)) (List.drop (0 : Nat) fr)) ++ List.take ((fr.map Idd.enc).length - (i64.wrap (n + (1 : Int))).toNat) (List.drop ((i64.wrap (n + (1 : Int))).toNat) (List.map Idd.enc fr))) = iow (match if (List.map Idd.enc []).length + List.length (List.take (n.toNat - (0 : Nat)) (List.drop (0 : Nat) (List.map Idd.enc fr))) ≤ (0 : Nat) then some (0 : Nat) else none with | some c => if List.length (List.map Idd.enc ([] ++ List.take (n.toNat - (0 : Nat)) (List.drop (0 : Nat) fr))) + List.length (List.take ((fr.map Idd.enc).length - (i64.wrap (n + (1 : Int))).toNat) (List.drop ((i64.wrap (n + (1 : Int))).toNat) (List.map Idd.enc fr))) ≤ c then some c else none | none => none) ([] ++ List.take (n.toNat - (0 : Nat)) (List.drop (0 : Nat) fr) ++ List.take ((fr.map Idd.enc).length - (i64.wrap (n + (1 : Int))).toNat) (List.drop ((i64.wrap (n + (1 : Int))).toNat) fr))) : Tri Try.prog (cxN 184 0) (zqr Try.f9 15) ([(0, xsl c x), (4, tGW m), (5, iow none fr), (6, iow none md), (7, it i), (8, it y), (9, bxL b w th pa), (10, it k), (11, it n)]) .normal ([(0, xsl c x), (4, AV.sl .own 37 none (List.map gOW m)), (5, iow (match if (List.map Idd.enc []).length + List.length (List.take (n.toNat - (0 : Nat)) (List.drop (0 : Nat) (List.map Idd.enc fr))) ≤ (0 : Nat) then some (0 : Nat) else none with | some c => if List.length (List.map Idd.enc ([] ++ List.take (n.toNat - (0 : Nat)) (List.drop (0 : Nat) fr))) + List.length (List.take ((fr.map Idd.enc).length - (i64.wrap (n + (1 : Int))).toNat) (List.drop ((i64.wrap (n + (1 : Int))).toNat) (List.map Idd.enc fr))) ≤ c then some c else none | none => none) ([] ++ List.take (n.toNat - (0 : Nat)) (List.drop (0 : Nat) fr) ++ List.take ((fr.map Idd.enc).length - (i64.wrap (n + (1 : Int))).toNat) (List.drop ((i64.wrap (n + (1 : Int))).toNat) fr))), (6, iow none md), (7, it i), (8, it y), (9, AV.box [ub b, bb w, iow none th, AV.sl .own 56 none (List.map Ps.enc pa)]), (10, it k)]) :=
 ev h9 [.r (iow (some (0 : Nat)) []), .c, .c, .b true, .b true, .c, .b true, .b true, .b true, .r (iow (if (List.map Idd.enc []).length + List.length (List.take (n.toNat - (0 : Nat)) (List.drop (0 : Nat) (List.map Idd.enc fr))) ≤ (0 : Nat) then some (0 : Nat) else none) ([] ++ List.take (n.toNat - (0 : Nat)) (List.drop (0 : Nat) fr))), .c, .c, .c, .b true, .b true, .c, .b true, .b true, .b true, .r (iow (match if (List.map Idd.enc []).length + List.length (List.take (n.toNat - (0 : Nat)) (List.drop (0 : Nat) (List.map Idd.enc fr))) ≤ (0 : Nat) then some (0 : Nat) else none with | some c => if List.length (List.map Idd.enc ([] ++ List.take (n.toNat - (0 : Nat)) (List.drop (0 : Nat) fr))) + List.length (List.take ((fr.map Idd.enc).length - (i64.wrap (n + (1 : Int))).toNat) (List.drop ((i64.wrap (n + (1 : Int))).toNat) (List.map Idd.enc fr))) ≤ c then some c else none | none => none) ([] ++ List.take (n.toNat - (0 : Nat)) (List.drop (0 : Nat) fr) ++ List.take ((fr.map Idd.enc).length - (i64.wrap (n + (1 : Int))).toNat) (List.drop ((i64.wrap (n + (1 : Int))).toNat) fr))), .c] (allp g0 (allp g1 (allp g2 (allp g3 (allp g4 (allp g5 (allp g6 (allp g7 (allp g8 (allp g9 (allp g10 (allp g11 (allp g12 zqa)))))))))))))
theorem yxc (c : Option Nat) (x : List Lx) (m : List (List Lp)) (fr md : List Idd) (i y : Int) (b : Int) (w : Bool) (th : List Idd) (pa : List Ps) (k : Int) : Tri Try.prog (cxN 184 0) (zqr Try.f9 12) ([(0, xsl c x), (4, tGW m), (5, iow none fr), (6, iow none md), (7, it i), (8, it y), (9, bxL b w th pa), (10, it k)]) .normal ([(0, xsl c x), (4, AV.sl .own 37 none (List.map gOW m)), (5, iow none fr), (6, iow none md), (7, it i), (8, it y), (9, AV.box [ub b, bb w, iow none th, AV.sl .own 56 none (List.map Ps.enc pa)]), (10, it (i64.wrap (k + (1 : Int))))]) :=
 ev h9 [.c, .c, .c] zqa
theorem yw8 (c : Option Nat) (x : List Lx) (m : List (List Lp)) (fr md : List Idd) (i y : Int) (b : Int) (w : Bool) (th : List Idd) (pa : List Ps) : Tri Try.prog (cxN 184 0) (zqr Try.f9 16) ([(0, xsl c x), (4, tGW m), (5, iow none fr), (6, iow none md), (7, it i), (8, it y), (9, bxL b w th pa)]) .normal ([(0, xsl c x), (4, AV.sl .own 37 none (List.map gOW m)), (5, iow none fr), (6, iow none md), (7, it i), (8, it y), (9, AV.box [ub b, bb w, iow none th, AV.sl .own 56 none (List.map Ps.enc pa)]), (12, it 0)]) :=
 ev h9 [.c] zqa
theorem yrn (c : Option Nat) (x : List Lx) (m : List (List Lp)) (fr md : List Idd) (i y : Int) (b : Int) (w : Bool) (th : List Idd) (pa : List Ps) (k : Int) (g0 : decide (0 ≤ i ∧ i < ((x.map Lx.enc).length : Int)) = true) (g1 : (x.map Lx.enc).getD i.toNat AV.bad = Lx.enc (x.getD i.toNat default)) (g2 : decide (k < (↑(((Lx.pa (x.getD i.toNat default)).map ubE).length) : Int)) = true) (g3 : decide (k < (5 : Int)) = true) : Tri Try.prog (cxN 184 0) (zqr Try.f9 17) ([(0, xsl c x), (4, tGW m), (5, iow none fr), (6, iow none md), (7, it i), (8, it y), (9, bxL b w th pa), (12, it k)]) .normal ([(0, xsl c x), (4, AV.sl .own 37 none (List.map gOW m)), (5, iow none fr), (6, iow none md), (7, it i), (8, it y), (9, AV.box [ub b, bb w, iow none th, AV.sl .own 56 none (List.map Ps.enc pa)]), (12, it k), (119, bb (decide ((0 : Int) < ((md.map Idd.enc).length : Int))))]) :=
 ev h9 [.c, .c, .c, .b true, .r (Lx.enc (x.getD i.toNat default)), .c, .c, .c, .c, .c, .c, .b true, .c, .b true, .c, .b true, .c, .c, .b true, .c, .b true, .c, .b true, .c, .b true, .c] (allp g0 (allp g1 (allp g2 (allp g2 (allp g2 (allp g3 (allp g3 (allp g3 (allp g3 zqa)))))))))
theorem yw7 (c : Option Nat) (x : List Lx) (m : List (List Lp)) (fr md : List Idd) (i y : Int) (b : Int) (w : Bool) (th : List Idd) (pa : List Ps) (k : Int) (g0 : decide (0 ≤ i ∧ i < ((x.map Lx.enc).length : Int)) = true) (g1 : (x.map Lx.enc).getD i.toNat AV.bad = Lx.enc (x.getD i.toNat default)) (g2 : decide (k < (↑(((Lx.pa (x.getD i.toNat default)).map ubE).length) : Int)) = true) (g3 : decide (k < (5 : Int)) = false) : Tri Try.prog (cxN 184 0) (zqr Try.f9 17) ([(0, xsl c x), (4, tGW m), (5, iow none fr), (6, iow none md), (7, it i), (8, it y), (9, bxL b w th pa), (12, it k)]) .normal ([(0, xsl c x), (4, AV.sl .own 37 none (List.map gOW m)), (5, iow none fr), (6, iow none md), (7, it i), (8, it y), (9, AV.box [ub b, bb w, iow none th, AV.sl .own 56 none (List.map Ps.enc pa)]), (12, it k), (119, bb false)]) :=
 ev h9 [.c, .c, .c, .b true, .r (Lx.enc (x.getD i.toNat default)), .c, .c, .c, .c, .c, .c, .b true, .c, .b true, .c, .b true, .c, .c, .b false, .c, .b false, .c, .b false, .c, .b false, .c] (allp g0 (allp g1 (allp g2 (allp g2 (allp g2 (allp g3 (allp g3 (allp g3 (allp g3 zqa)))))))))
theorem yw6 (c : Option Nat) (x : List Lx) (m : List (List Lp)) (fr md : List Idd) (i y : Int) (b : Int) (w : Bool) (th : List Idd) (pa : List Ps) (k : Int) (g0 : decide (0 ≤ i ∧ i < ((x.map Lx.enc).length : Int)) = true) (g1 : (x.map Lx.enc).getD i.toNat AV.bad = Lx.enc (x.getD i.toNat default)) (g2 : decide (k < (↑(((Lx.pa (x.getD i.toNat default)).map ubE).length) : Int)) = false) : Tri Try.prog (cxN 184 0) (zqr Try.f9 17) ([(0, xsl c x), (4, tGW m), (5, iow none fr), (6, iow none md), (7, it i), (8, it y), (9, bxL b w th pa), (12, it k)]) .normal ([(0, xsl c x), (4, AV.sl .own 37 none (List.map gOW m)), (5, iow none fr), (6, iow none md), (7, it i), (8, it y), (9, AV.box [ub b, bb w, iow none th, AV.sl .own 56 none (List.map Ps.enc pa)]), (12, it k), (119, bb false)]) :=
 ev h9 [.c, .c, .c, .b true, .r (Lx.enc (x.getD i.toNat default)), .c, .c, .c, .c, .c, .c, .b false, .c, .b false, .c, .b false, .c, .c, .c, .c, .c, .c, .c, .c, .c, .c] (allp g0 (allp g1 (allp g2 (allp g2 (allp g2 zqa)))))
theorem yw4 (c : Option Nat) (x : List Lx) (m : List (List Lp)) (fr md : List Idd) (i y : Int) (b : Int) (w : Bool) (th : List Idd) (pa : List Ps) (k : Int) (g0 : decide (0 ≤ i ∧ i < ((x.map Lx.enc).length : Int)) = true) (g1 : (x.map Lx.enc).getD i.toNat AV.bad = Lx.enc (x.getD i.toNat default)) (g2 : decide (0 ≤ k ∧ k < (↑(((Lx.pa (x.getD i.toNat default)).map ubE).length) : Int)) = true) (g3 : ((Lx.pa (x.getD i.toNat default)).map ubE).getD k.toNat AV.bad = ubE ((Lx.pa (x.getD i.toNat default)).getD k.toNat default)) : Tri Try.prog (cxN 184 0) (zqr Try.f9 19) ([(0, xsl c x), (4, tGW m), (5, iow none fr), (6, iow none md), (7, it i), (8, it y), (9, bxL b w th pa), (12, it k)]) .normal ([(0, xsl c x), (4, AV.sl .own 37 none (List.map gOW m)), (5, iow none fr), (6, iow none md), (7, it i), (8, it y), (9, AV.box [ub b, bb w, iow none th, AV.sl .own 56 none (List.map Ps.enc pa)]), (12, it k), (13, ub ((Lx.pa (x.getD i.toNat default)).getD k.toNat default))]) :=
 ev h9 [.c, .c, .b true, .r (Lx.enc (x.getD i.toNat default)), .c, .c, .c, .c, .b true, .r (ubE ((Lx.pa (x.getD i.toNat default)).getD k.toNat default)), .c, .c, .c] (allp g0 (allp g1 (allp g2 (allp g3 zqa))))
theorem yw3 (c : Option Nat) (x : List Lx) (m : List (List Lp)) (f0 : Idd) (fr md : List Idd) (i y : Int) (b : Int) (w : Bool) (th : List Idd) (pa : List Ps) (k n : Int) (g0 : decide (0 ≤ Int.tmod (i64.wrap (u8.wrap (Int.tdiv n (2 : Int)))) (↑(((f0 :: md).map Idd.enc).length) : Int) ∧ Int.tmod (i64.wrap (u8.wrap (Int.tdiv n (2 : Int)))) (↑(((f0 :: md).map Idd.enc).length) : Int) < (↑(((f0 :: md).map Idd.enc).length) : Int)) = true) (g1 : decide ((Int.tmod (i64.wrap (u8.wrap (Int.tdiv n (2 : Int)))) (↑(((f0 :: md).map Idd.enc).length) : Int)).toNat < ((f0 :: md).map Idd.enc).length) = true) (g2 : ((f0 :: md).map Idd.enc).getD ((Int.tmod (i64.wrap (u8.wrap (Int.tdiv n (2 : Int)))) (↑(((f0 :: md).map Idd.enc).length) : Int)).toNat) AV.bad = Idd.enc ((f0 :: md).getD ((Int.tmod (i64.wrap (u8.wrap (Int.tdiv n (2 : Int)))) (↑(((f0 :: md).map Idd.enc).length) : Int)).toNat) default)) (g3 : decide (0 ≤ i ∧ i < ((x.map Lx.enc).length : Int)) = true) (g4 : (x.map Lx.enc).getD i.toNat AV.bad = Lx.enc (x.getD i.toNat default)) (g5 : AV.sl .own 56 (some 1) [AV.agg [ub (Idd.y ((f0 :: md).getD ((Int.tmod (i64.wrap (u8.wrap (Int.tdiv n (2 : Int)))) (↑(((f0 :: md).map Idd.enc).length) : Int)).toNat) default)), it (Idd.n ((f0 :: md).getD ((Int.tmod (i64.wrap (u8.wrap (Int.tdiv n (2 : Int)))) (↑(((f0 :: md).map Idd.enc).length) : Int)).toNat) default)), bb (Int.tmod n (2 : Int) == (1 : Int)), ub (Int.tmod (u8.wrap (Int.tdiv (Lx.y (x.getD i.toNat default)) (6 : Int))) (2 : Int))]] = AV.sl .own 56 (some (1 : Nat)) (List.map Ps.enc [{ y := Idd.y ((f0 :: md).getD ((Int.tmod (i64.wrap (u8.wrap (Int.tdiv n (2 : Int)))) (↑(((f0 :: md).map Idd.enc).length) : Int)).toNat) default), n := Idd.n ((f0 :: md).getD ((Int.tmod (i64.wrap (u8.wrap (Int.tdiv n (2 : Int)))) (↑(((f0 :: md).map Idd.enc).length) : Int)).toNat) default), f := Int.tmod n (2 : Int) == (1 : Int), d := Int.tmod (u8.wrap (Int.tdiv (Lx.y (x.getD i.toNat default)) (6 : Int))) (2 : Int) }])) (g6 : decide ((pa.map Ps.enc).length + List.length (List.map Ps.enc [{ y := Idd.y ((f0 :: md).getD ((Int.tmod (i64.wrap (u8.wrap (Int.tdiv n (2 : Int)))) (↑(((f0 :: md).map Idd.enc).length) : Int)).toNat) default), n := Idd.n ((f0 :: md).getD ((Int.tmod (i64.wrap (u8.wrap (Int.tdiv n (2 : Int)))) (↑(((f0 :: md).map Idd.enc).length) : Int)).toNat) default), f := Int.tmod n (2 : Int) == (1 : Int), d := Int.tmod (u8.wrap (Int.tdiv (Lx.y (x.getD i.toNat default)) (6 : Int))) (2 : Int) }]) ≤ (4294967296 : Nat)) = true) (g7 : AV.sl .own 56 none (List.map Ps.enc pa ++ List.map Ps.enc [{ y := Idd.y ((f0 :: md).getD ((Int.tmod (i64.wrap (u8.wrap (Int.tdiv n (2 : Int)))) (↑(((f0 :: md).map Idd.enc).length) : Int)).toNat) default), n := Idd.n ((f0 :: md).getD ((Int.tmod (i64.wrap (u8.wrap (Int.tdiv n (2 : Int)))) (↑(((f0 :: md).map Idd.enc).length) : Int)).toNat) default), f := Int.tmod n (2 : Int) == (1 : Int), d := Int.tmod (u8.wrap (Int.tdiv (Lx.y (x.getD i.toNat default)) (6 : Int))) (2 : Int) }]) = AV.sl .own 56 none (List.map Ps.enc (pa ++ [{ y := Idd.y ((f0 :: md).getD ((Int.tmod (i64.wrap (u8.wrap (Int.tdiv n (2 : Int)))) (↑(((f0 :: md).map Idd.enc).length) : Int)).toNat) default), n := Idd.n ((f0 :: md).getD ((Int.tmod (i64.wrap (u8.wrap (Int.tdiv n (2 : Int)))) (↑(((f0 :: md).map Idd.enc).length) : Int)).toNat) default), f := Int.tmod n (2 : Int) == (1 : Int), d := Int.tmod (u8.wrap (Int.tdiv (Lx.y (x.getD i.toNat default)) (6 : Int))) (2 : Int) }]))) : Tri Try.prog (cxN 184 0) (zqr Try.f9 20) ([(0, xsl c x), (4, tGW m), (5, iow none fr), (6, iow none (f0 :: md)), (7, it i), (8, it y), (9, bxL b w th pa), (12, it k), (13, ub n)]) .normal ([(0, xsl c x), (4, AV.sl .own 37 none (List.map gOW m)), (5, iow none fr), (6, iow none (f0 :: md)), (7, it i), (8, it y), (9, AV.box [ub b, bb w, iow none th, AV.sl .own 56 none (List.map Ps.enc (pa ++ [{ y := Idd.y ((f0 :: md).getD ((Int.tmod (i64.wrap (u8.wrap (Int.tdiv n (2 : Int)))) (↑(((f0 :: md).map Idd.enc).length) : Int)).toNat) default), n := Idd.n ((f0 :: md).getD ((Int.tmod (i64.wrap (u8.wrap (Int.tdiv n (2 : Int)))) (↑(((f0 :: md).map Idd.enc).length) : Int)).toNat) default), f := Int.tmod n (2 : Int) == (1 : Int), d := Int.tmod (u8.wrap (Int.tdiv (Lx.y (x.getD i.toNat default)) (6 : Int))) (2 : Int) }]))]), (12, it k)]) :=
 ev h9 [.c, .c, .c, .c, .c, .c, .c, .c, .c, .c, .c, .b true, .c, .b true, .r (Idd.enc ((f0 :: md).getD ((Int.tmod (i64.wrap (u8.wrap (Int.tdiv n (2 : Int)))) (↑(((f0 :: md).map Idd.enc).length) : Int)).toNat) default)), .c, .c, .c, .c, .c, .c, .b true, .r (Lx.enc (x.getD i.toNat default)), .c, .c, .c, .c, .c, .c, .r (AV.sl .own 56 (some (1 : Nat)) (List.map Ps.enc [{ y := Idd.y ((f0 :: md).getD ((Int.tmod (i64.wrap (u8.wrap (Int.tdiv n (2 : Int)))) (↑(((f0 :: md).map Idd.enc).length) : Int)).toNat) default), n := Idd.n ((f0 :: md).getD ((Int.tmod (i64.wrap (u8.wrap (Int.tdiv n (2 : Int)))) (↑(((f0 :: md).map Idd.enc).length) : Int)).toNat) default), f := Int.tmod n (2 : Int) == (1 : Int), d := Int.tmod (u8.wrap (Int.tdiv (Lx.y (x.getD i.toNat default)) (6 : Int))) (2 : Int) }])), .c, .c, .c, .c, .c, .b true, .r (AV.sl .own 56 none (List.map Ps.enc (pa ++ [{ y := Idd.y ((f0 :: md).getD ((Int.tmod (i64.wrap (u8.wrap (Int.tdiv n (2 : Int)))) (↑(((f0 :: md).map Idd.enc).length) : Int)).toNat) default), n := Idd.n ((f0 :: md).getD ((Int.tmod (i64.wrap (u8.wrap (Int.tdiv n (2 : Int)))) (↑(((f0 :: md).map Idd.enc).length) : Int)).toNat) default), f := Int.tmod n (2 : Int) == (1 : Int), d := Int.tmod (u8.wrap (Int.tdiv (Lx.y (x.getD i.toNat default)) (6 : Int))) (2 : Int) }]))), .c, .c, .c, .c, .c] (allp g0 (allp g1 (allp g2 (allp g3 (allp g4 (allp g5 (allp g6 (allp g7 zqa))))))))
theorem yw5 (c : Option Nat) (x : List Lx) (m : List (List Lp)) (fr md : List Idd) (i y : Int) (b : Int) (w : Bool) (th : List Idd) (pa : List Ps) (k : Int) : Tri Try.prog (cxN 184 0) (zqr Try.f9 18) ([(0, xsl c x), (4, tGW m), (5, iow none fr), (6, iow none md), (7, it i), (8, it y), (9, bxL b w th pa), (12, it k)]) .normal ([(0, xsl c x), (4, AV.sl .own 37 none (List.map gOW m)), (5, iow none fr), (6, iow none md), (7, it i), (8, it y), (9, AV.box [ub b, bb w, iow none th, AV.sl .own 56 none (List.map Ps.enc pa)]), (12, it (i64.wrap (k + (1 : Int))))]) :=
 ev h9 [.c, .c, .c] zqa
theorem yw2 (c : Option Nat) (x : List Lx) (m : List (List Lp)) (fr md : List Idd) (i y : Int) (b : Int) (w : Bool) (th : List Idd) (pa : List Ps) (g0 : decide (0 ≤ y ∧ y < ((m.map gOW).length : Int)) = true) (g1 : decide (y.toNat < (m.map gOW).length) = true) (g2 : (m.map gOW).getD y.toNat AV.bad = gOW (m.getD y.toNat default)) : Tri Try.prog (cxN 184 0) (zqr Try.f9 21) ([(0, xsl c x), (4, tGW m), (5, iow none fr), (6, iow none md), (7, it i), (8, it y), (9, bxL b w th pa)]) .normal ([(0, xsl c x), (4, AV.sl .own 37 none (List.map gOW m)), (5, iow none fr), (6, iow none md), (7, it i), (8, it y), (9, AV.box [ub b, bb w, iow none th, AV.sl .own 56 none (List.map Ps.enc pa)]), (14, AV.box [ub (u8.wrap (i64.wrap (y + (1 : Int)))), it (↑(((m.getD y.toNat default).map Lp.encG).length) : Int)])]) :=
 ev h9 [.c, .c, .c, .c, .c, .b true, .c, .b true, .r (gOW (m.getD y.toNat default)), .c, .b true, .r (gOW (m.getD y.toNat default)), .c, .c, .c, .c] (allp g0 (allp g1 (allp g2 (allp g1 (allp g2 zqa)))))
theorem yw1 (c : Option Nat) (x : List Lx) (m : List (List Lp)) (fr md : List Idd) (i : Int) (p q : Int) (g0 : AV.sl .own 36 (some 1) [AV.agg [ub p, it q]] = iow (some (1 : Nat)) [{ y := p, n := q }]) (g1 : decide ((fr.map Idd.enc).length + (List.map Idd.enc [{ y := p, n := q }]).length ≤ (4294967296 : Nat)) = true) (g2 : AV.sl .own 36 none (List.map Idd.enc fr ++ List.map Idd.enc [{ y := p, n := q }]) = iow none (fr ++ [{ y := p, n := q }])) : Tri Try.prog (cxN 184 0) (zqr Try.f9 23) ([(0, xsl c x), (4, tGW m), (5, iow none fr), (6, iow none md), (7, it i), (14, .box [ub p, it q])]) .normal ([(0, xsl c x), (4, AV.sl .own 37 none (List.map gOW m)), (5, iow none (fr ++ [{ y := p, n := q }])), (6, iow none md), (7, it i), (14, AV.box [ub p, it q])]) :=
 ev h9 [.c, .c, .r (iow (some (1 : Nat)) [{ y := p, n := q }]), .c, .b true, .r (iow none (fr ++ [{ y := p, n := q }])), .c] (allp g0 (allp g1 (allp g2 zqa)))
theorem yw0 (c : Option Nat) (x : List Lx) (m : List (List Lp)) (fr md : List Idd) (i : Int) (p q : Int) (g0 : AV.sl .own 36 (some 1) [AV.agg [ub p, it q]] = iow (some (1 : Nat)) [{ y := p, n := q }]) (g1 : decide ((md.map Idd.enc).length + (List.map Idd.enc [{ y := p, n := q }]).length ≤ (4294967296 : Nat)) = true) (g2 : AV.sl .own 36 none (List.map Idd.enc md ++ List.map Idd.enc [{ y := p, n := q }]) = iow none (md ++ [{ y := p, n := q }])) : Tri Try.prog (cxN 184 0) (zqr Try.f9 24) ([(0, xsl c x), (4, tGW m), (5, iow none fr), (6, iow none md), (7, it i), (14, .box [ub p, it q])]) .normal ([(0, xsl c x), (4, AV.sl .own 37 none (List.map gOW m)), (5, iow none fr), (6, iow none (md ++ [{ y := p, n := q }])), (7, it i)]) :=
 ev h9 [.c, .c, .r (iow (some (1 : Nat)) [{ y := p, n := q }]), .c, .b true, .r (iow none (md ++ [{ y := p, n := q }])), .c] (allp g0 (allp g1 (allp g2 zqa)))
theorem of5_0 (c : Option Nat) (x : List Lx) (m : List (List Lp)) (fr md : List Idd) (i : Int) : Tri Try.prog (cxN 184 0) (zqr Try.f9 5) ([(0, xsl c x), (4, tGW m), (5, iow none fr), (6, iow none md), (7, it i)]) .normal ([(0, xsl c x), (4, AV.sl .own 37 none (List.map gOW m)), (5, iow none fr), (6, iow none md), (7, it (i64.wrap (i + (1 : Int))))]) :=
 ev h9 [.c, .c, .c] zqa
theorem ywz (m : List (List Lp)) (md : List Idd) : Tri Try.prog (cxN 184 0) (zqr Try.f9 25) ([(4, tGW m), (6, iow none md)]) .normal ([(2, AV.al 4 [] none), (3, AV.al 6 [] none), (4, AV.sl .own 37 none (List.map gOW m)), (6, iow none md)]) :=
 ev h9 [.c, .c, .c, .c] zqa
end Tst
end
