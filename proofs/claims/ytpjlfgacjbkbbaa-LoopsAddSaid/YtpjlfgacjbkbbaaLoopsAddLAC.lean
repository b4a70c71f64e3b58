/- Part 3 of the evaluator and of the contracts that the claim uses. -/
import Derived.Laws.CopyRow
import Derived.Laws.BytesString
import Derived.LoopN
import Derived.Orders
import Derived.OrdersIn
import Derived.TacticsIn
import Derived.LoopNIn
import Derived.Test.YtpjlfgacjbkbbaaLoopsAddLAA
import Derived.Test.YtpjlfgacjbkbbaaLoopsAddLAB
set_option linter.unusedVariables false
set_option linter.unusedSimpArgs false
set_option linter.constructorNameAsVariable false
set_option linter.unusedSectionVars false
open Go.IntKind (i64 u8)

section
namespace Go.Lf
open Go Go.RowKit
section
variable {P : Program} {F : Frm} {B0 : Nat} {w0 w w' : World} {S S' : Nat → Prop} {n n' : Nat} {env : Env} {a : Act} {tmps : Array Value} {Os : Nat → Own} {cx : Cx} {o : Oper} {Q : Exit → Act → World → Prop} {eff : Eff} {l : List Nat}
theorem yje (hst : St P F B0 w0 n env a.tmps w S Os) (hn : 0 < n) (hnn : n ≤ n') (hN : (a.tmps.size = cx.N ∧ F.lo = cx.lo)) {r : Nat} {e : TypeId} {cap : Option Nat} {xs ys : List AV}
  (hr : lk env r = some (.sl .own e cap xs)) {vr : Value} (hv : a.tmps[r]? = some vr) {u : Value} {xa : AV} {O : Own} (hout : (outP cx o.dst xa [(r, .sl .own e cap ys)] [(r, true)]).run env = some (l, eff))
  (hB : Below B0 w w') (hag : ∀ b, b < w.heap.size → Os r b = 0 → w'.heap[b]? = w.heap[b]?) (hx : Rv P B0 w' S n' vr (.sl .own e cap ys) O) (h1 : ∀ b, O b ≤ 1) (hO : ∀ b, 0 < O b → 0 < Os r b ∨ w.heap.size ≤ b)
  (hxa : Rv P B0 w' S n' u xa (fun _ => 0)) : Post P F B0 w0 S cx env eff a (a.put o.dst u) w' := by
 obtain ⟨t, hd, htN, hlr, hws, hkl⟩ := yao hout
 obtain ⟨hs1, hnr⟩ := hst.readied hn hkl
 have hr1 := yal (kl := eff.kl) hr rfl
 have htop : topOnly r (Lf.kills eff.kl env) := by
  refine topOnly.of_mem ?_
  rcases hkl with ⟨hk, _⟩ | hk <;> rw [hk] <;> simp
 have hsz := hB.size
 have hs2 := hs1.turn hnn hv hr1 hB (fun _ h => h) (fun b hb => by have := hst.sLt b hb; omega) (fun b t _ hb => hst.excl b t hb) (fun b hb => by
   rcases zlt (O b) with h | h
   ·exact h
   ·have := hst.sLt b hb; have := hst.excl b r hb
    rcases hO b h with h | h <;> omega) (fun b hb => by
   rcases hb with hb | ⟨s, hs, hb⟩
   ·exact hag b (hst.sLt b hb) (hst.excl b r hb)
   ·refine hag b (hst.lt s b hb).2 ?_
    rcases hst.dis s r b hs with h | h
    ·omega
    ·exact h) h1 (fun b s hs hb => by
   rcases hO b hb with h | h
   ·rcases hst.dis s r b hs with h2 | h2
    ·exact h2
    ·omega
   ·rcases zlt (Os s b) with h2 | h2
    ·exact h2
    ·have := (hst.lt s b h2).2; omega) hx rfl (.inl htop) (fun m e' cap' xs' he => by injection he with e1 e2 e3 e4; subst e2; exact ⟨_, _, _, rfl⟩) (fun _ => ⟨rfl, fun _ _ => rfl⟩)
 have key := hs2.put0 (n' := n') (zly _) (d := t) ⟨by omega, by omega⟩ (hnr.cons (by simp [zqf])) (.inr hxa)
 rw [hd]
 exact ⟨rfl, by simpa [Act.put] using hN, n', S, _, by omega, .refl _ _, by unfold zqi; rw [hws]; exact key⟩
theorem ygy {α : Type} (hst : St P F B0 w0 n env a.tmps w S Os) (hn : 0 < n) {x : Operand} {y : AV} {s : Option Nat} (hv : Vl env x y s) {k : Nat → TypeId → Option Nat → List AV → RP α} {l : List Nat} {r : α} (h : (ownP y s k).run env = some (l, r)) :
  ∃ t e cap xs l', (k t e cap xs).run env = some (l', r) ∧ lk env t = some (.sl .own e cap xs) ∧ a.tmps[t]? = some (a.eval x) ∧ Rv P B0 w S n (a.eval x) (.sl .own e cap xs) (Os t) := by
 unfold ownP at h
 split at h
 ·rename_i t
  obtain ⟨l1, h1⟩ := yan h
  split at h1
  ·rename_i e cap xs hl
   obtain ⟨ha, zr, hzr, hzrt⟩ := hv.al hst hn
   obtain ⟨vr, u, e1, e2, e3⟩ := ha _ hl .own e cap xs rfl (.inl rfl)
   obtain ⟨v2, hv2, hs⟩ := hst.rel t _ hl
   have hru := hs.rv rfl
   rw [e1] at hv2; injection hv2 with hv2; subst hv2
   have e4 : vr = u := by simpa [LV] using e2
   have e5 : a.eval x = u := e3
   subst e4
   rw [← e5] at e1 hru
   exact ⟨t, e, cap, xs, l1, h1, hl, e1, hru⟩
  ·exact (zqd h1).elim
 ·rename_i e cap xs t
  obtain ⟨hr, htm, hlk⟩ := hv.rv hst hn rfl
  exact ⟨t, e, cap, xs, l, h, hlk, htm, hr⟩
 ·exact (zqd h).elim
theorem ylk (hcx : CxOk P cx) (hst : St P F B0 w0 n env a.tmps w S Os) (hn : 0 < n) (hN : (a.tmps.size = cx.N ∧ F.lo = cx.lo)) {f : FuncId} {x : Operand} {ats : Array TypeId} (ho : o.op = .call { callee := .value (.func f), args := #[x], argTypes := ats })
  (h : (yi5 cx o.dst f x).run env = some (l, eff)) : o.wp P a w (Post P F B0 w0 S cx env eff a) Q := by
 obtain ⟨y, s, l1, hv, h1⟩ := zqm h
 obtain ⟨t, e, cap, xs, l2, h2, hl, htm, hr⟩ := ygy hst hn hv h1
 split at h2
 ·rename_i e' cap' ys hk
  obtain ⟨⟨rfl, rfl⟩, hout⟩ := zqq h2
  obtain ⟨henter, hcall⟩ := hcx.KM f _ _ hk (by simp)
  have hC := hcall B0 w S _ n (Os t) hst.b0 (fun b hb => ⟨hst.sLt b hb, hst.excl b t hb⟩) (hst.one t) hr
  unfold Oper.wp
  have hrun : (execOp a.eval o).run P w = .ok (.enter f #[a.eval x]) w := by
   rw [execOp, ho]
   have := henter #[a.eval x] w
   simp [resolve, invoke, Deferred.ofValue, Act.eval] at this ⊢
   exact this
  rw [hrun, Oper.upon_enter]
  refine hC.mono ?_
  rintro e w' ⟨n', O', rfl, hB, hag, hrv, hO1, hO2⟩
  exact yje hst hn (Nat.le_max_left n (n' + 1)) hN hl htm hout hB hag (hrv.le (by omega)) hO1 hO2 (Rv.le (n := 1) ⟨#[], rfl, .nil fun _ => rfl⟩ (by omega))
 ·exact (zqd h2).elim
theorem ycu {sz : Nat} {xs : List AV} (h : Uni sz xs) (k : Nat) : flat (xs.take k) = (flat xs).take (k * sz) ∧ flat (xs.drop k) = (flat xs).drop (k * sz) := by
 by_cases hk : k ≤ xs.length
 ·have h1 : flat xs = flat (xs.take k) ++ flat (xs.drop k) := by rw [← zrk, List.take_append_drop]
  have h2 : (flat (xs.take k)).length = k * sz := by rw [zqn (h.take k), zlh, Nat.min_eq_left hk]
  rw [h1]
  constructor
  ·rw [List.take_append_of_le_length (Nat.le_of_eq h2.symm), zlm (Nat.le_of_eq h2)]
  ·rw [List.drop_append_of_le_length (Nat.le_of_eq h2.symm), List.drop_of_length_le (Nat.le_of_eq h2), List.nil_append]
 ·have h3 : (flat xs).length ≤ k * sz := by rw [zqn h]; exact Nat.mul_le_mul_right _ (by omega)
  constructor
  ·rw [zlm (by omega : xs.length ≤ k), zlm h3]
  ·rw [List.drop_of_length_le (by omega : xs.length ≤ k), List.drop_of_length_le h3]; rfl
theorem yd1 {xs : List AV} (h : (xs.all fun x => x.ecells.all zqt) = true) : (flat xs).all zqt = true := by
 simp only [flat, zls, List.mem_flatMap] at *
 rintro y ⟨x, hx, hy⟩
 exact h x hx y hy
theorem yqq {m : Nat} {v src : Value} {e e2 : TypeId} {cap cap2 : Option Nat} {xs ys : List AV} {Oy : Own} (hv : Rv P B0 w S (m + 1) v (.sl .own e cap xs) Oy) (h1 : ∀ b, Oy b ≤ 1) (hSy : ∀ b, S b → Oy b = 0)
  (hxp : (xs.all fun x => x.ecells.all zqt) = true) (hs : NodeAt P B0 w S n Os src e2 cap2 ys) (hyp : (ys.all fun x => x.ecells.all zqt) = true) {t u ty : TypeId} {j : TInfo}
  (hyl : (ys.all fun y => y.ecells.length = j.zero.length) = true) (ht : P.underlying t = some (.slice e)) (hj : TyOk P e j) :
  ∃ w' O, (Builtin.copy_ #[t, u] ty #[v, src]).run P w = .ok (.int .i64 (min ys.length xs.length : Nat)) w' ∧ Below B0 w w' ∧ (∀ b, b < w.heap.size → Oy b = 0 → w'.heap[b]? = w.heap[b]?) ∧
   Rv P B0 w' S (max m n + 1) v (.sl .own e cap (ys.take xs.length ++ xs.drop ys.length)) O ∧ (∀ b, O b ≤ 1) ∧ ∀ b, 0 < O b → 0 < Oy b := by
 have hce := hj.cells
 obtain ⟨i, z, d, hi, hz, hzc, his, hib, _⟩ := hj.ex
 obtain ⟨A, k2, rfl, hk, hml, hcap2, _, hx⟩ := hs
 have huy : Uni i.size ys := fun y hy => by
  have := zls.1 hyl y hy
  rw [his]; simpa using this
 have hmin : Nat.min ys.length xs.length = min ys.length xs.length := rfl
 have htl : (ys.take xs.length).length = min ys.length xs.length := by rw [zlh, Nat.min_comm]
 have hload : ∃ news, news.length = min ys.length xs.length * i.size ∧ Rc (Rv P B0 w S n) news (flat (ys.take xs.length)) (fun _ => 0) ∧ (Builtin.firstCells i.size (min ys.length xs.length) (.slice A ys.length k2)).run P w = .ok news.toArray w := by
  by_cases hne : ys = []
  ·subst hne
   refine ⟨[], by simp, by simpa [flat] using Rc.nil (fun _ => rfl), ?_⟩
   cases A with
   | none => exact run_firstCells_none (P := P) w _ _ _ _
   | some a => exact run_firstCells_some (P := P) w _ _ _ _ _ [] (by simp) (by simp)
  ·obtain ⟨g, off, C, T, fr, O1, rfl, hg, hfit, hrc, _, _⟩ := hx hne
   have hz0 := zrg hrc (yd1 hyp)
   have e1 : flat ys = flat (ys.take xs.length) ++ flat (ys.drop xs.length) := by rw [← zrk, List.take_append_drop]
   have hl1 : (flat (ys.take xs.length)).length = min ys.length xs.length * i.size := by rw [zqn (huy.take _), htl]
   rw [e1] at hrc
   obtain ⟨P1, P2, r1, r2, hOO⟩ := hrc.split
   rw [List.take_take, hl1] at r1
   have hfit2 : off + (flat (ys.take xs.length)).length ≤ C.size := by rw [e1, zlg] at hfit; omega
   have hmn : min (min ys.length xs.length * i.size) (flat (ys.take xs.length) ++ flat (ys.drop xs.length)).length = min ys.length xs.length * i.size := by
    rw [zlg, hl1]; omega
   rw [hmn] at r1
   refine ⟨_, ?_, r1.cast fun b => by have := hz0 b; have := hOO b; omega, ?_⟩
   ·rw [zlh, List.length_drop, zlr]; rw [hl1] at hfit2; exact Nat.min_eq_left (Nat.le_sub_of_add_le (by rw [Nat.add_comm]; exact hfit2))
   ·refine run_firstCells_some (P := P) w _ _ _ _ _ _ ?_ ?_
    ·rw [zlh, List.length_drop, zlr]; rw [hl1] at hfit2; exact Nat.min_eq_left (Nat.le_sub_of_add_le (by rw [Nat.add_comm]; exact hfit2))
    ·intro q v hq
     rw [zrh, cell_of_row w g _ C T fr hg]
     rw [List.getElem?_take] at hq
     split at hq
     ·rw [List.getElem?_drop] at hq; simpa using hq
     ·cases hq
 obtain ⟨news, hnl, hnrc, hfirst⟩ := hload
 have hsize : ∀ w1 : World, (sizeOf e).run P w1 = .ok i.size w1 := fun w1 => by simp [sizeOf, typeInfo, hi]
 obtain ⟨vs, O', hrow, hcap, huni, hrc, hOO⟩ := hv
 rw [hce, ← his] at huni hrow
 have hO'z := zrg hrc (yd1 hxp)
 have hflat : flat (ys.take xs.length ++ xs.drop ys.length) = flat (ys.take xs.length) ++ (flat xs).drop (min ys.length xs.length * i.size) := by
  rw [zrk]
  congr 1
  have h3 := (ycu huni (min ys.length xs.length)).2
  rw [← h3]
  by_cases hle : ys.length ≤ xs.length
  ·rw [Nat.min_eq_left hle]
  ·rw [Nat.min_eq_right (by omega), List.drop_of_length_le (by omega : xs.length ≤ ys.length), List.drop_of_length_le (zly xs.length)]
 have hlen' : (ys.take xs.length ++ xs.drop ys.length).length = xs.length := by simp; omega
 have hun' : Uni (P.cellsOf e) (ys.take xs.length ++ xs.drop ys.length) := by
  rw [hce, ← his]
  intro q hq
  rcases List.mem_append.1 hq with h | h
  ·exact (huy.take _) q h
  ·exact (huni.drop _) q h
 rcases hrow.2 with ⟨rfl, hx0⟩ | ⟨g, k, cur, rfl, hbg, hg, hnc, hcm, hcs, htake⟩
 ·have hxn : xs = [] := zli hx0
  subst hxn
  refine ⟨w, Oy, ?_, Below.refl _ _, fun _ _ _ => rfl, ?_, h1, fun _ h => h⟩
  ·simp only [List.length_nil, Nat.min_zero, Nat.zero_mul] at hnl hfirst
   have hn0 : news = [] := zli hnl
   subst hn0
   simp [Builtin.copy_, run_underlying ht, Builtin.lenOf, hsize, hfirst, goInt]
  ·refine ⟨vs, O', by rw [hlen', hce, ← his]; exact hrow, hcap, hun', ?_, hOO⟩
   have : flat (ys.take ([] : List AV).length ++ ([] : List AV).drop ys.length) = flat [] := by simp
   rw [this]
   exact hrc.le (by omega)
 ·have hvl : vs.length = xs.length * i.size := hrow.1
  have hmul : min ys.length xs.length * i.size ≤ xs.length * i.size := Nat.mul_le_mul_right _ (Nat.min_le_right _ _)
  have hmul2 : xs.length * i.size ≤ k * i.size := Nat.mul_le_mul_right _ hnc
  have hg1 : Oy g = 1 := by
   have h2 := hOO g; have h3 := h1 g
   have : ind (Value.slice (some ⟨g, 0, none⟩) xs.length k).ownBlock g = 1 := by unfold ind Value.ownBlock; simp
   omega
  have hst := run_storeCells_at P g 0 e news 0 cur w hg (by omega) (hnrc.ones (zls.1 (yd1 (by
   rw [zls] at hyp ⊢
   exact fun x hx => hyp x (List.mem_of_mem_take hx)))))
  simp only [Nat.zero_add, List.take_zero, List.nil_append] at hst
  have hrun : (Builtin.copy_ #[t, u] ty #[.slice (some ⟨g, 0, none⟩) xs.length k, .slice A ys.length k2]).run P w = .ok (.int .i64 (min ys.length xs.length : Nat)) (w.setRow g (news ++ cur.toList.drop news.length).toArray) := by
   simp [Builtin.copy_, run_underlying ht, Builtin.lenOf, hsize, hmin, hfirst, hst, goInt]
  have hne : ∀ b, b ≠ g → (w.setRow g (news ++ cur.toList.drop news.length).toArray).heap[b]? = w.heap[b]? := fun b hb => setRow_other w g b _ hb
  have hSw : ∀ b, S b → (w.setRow g (news ++ cur.toList.drop news.length).toArray).heap[b]? = w.heap[b]? := fun b hb => hne b (by rintro rfl; have := hSy b hb; omega)
  refine ⟨_, Oy, hrun, ⟨rfl, rfl, rfl, by simp, fun b hb => hne b (by omega)⟩, fun b _ hb => hne b (by rintro rfl; omega), ?_, h1, fun _ h => h⟩
  refine ⟨news ++ vs.drop (min ys.length xs.length * i.size), O', ?_, hcap, hun', ?_, hOO⟩
  ·rw [hlen', hce, ← his]
   refine ⟨by rw [zlg, List.length_drop, hnl, hvl]; omega, .inr ⟨g, k, _, rfl, hbg, setRow_heap w g cur _ e _ hg, hnc, hcm, ?_, ?_⟩⟩
   ·simp only [List.size_toArray, zlg, List.length_drop, zlr]; omega
   ·show (news ++ cur.toList.drop news.length).take _ = _
    rw [List.take_append, zlm (by omega), hnl, ← htake]
    congr 1
    rw [List.drop_take]
  ·rw [hflat]
   have r2 : Rc (Rv P B0 w S m) (vs.drop (min ys.length xs.length * i.size)) ((flat xs).drop (min ys.length xs.length * i.size)) (fun _ => 0) := by
    have e1 : flat xs = (flat xs).take (min ys.length xs.length * i.size) ++ (flat xs).drop (min ys.length xs.length * i.size) := (List.take_append_drop _ _).symm
    rw [e1] at hrc
    obtain ⟨P1, P2, r1, r2, hP⟩ := hrc.split
    have hl : ((flat xs).take (min ys.length xs.length * i.size)).length = min ys.length xs.length * i.size := by rw [zlh, zqn huni]; omega
    rw [hl] at r2
    exact r2.cast fun b => by have := hO'z b; have := hP b; omega
   exact (((hnrc.frame (fun _ h => h) hSw fun b hb => absurd hb (by simp)).le (Nat.le_max_right m n)).app ((r2.frame (fun _ h => h) hSw fun b hb => absurd hb (by simp)).le (Nat.le_max_left m n)) fun b => by have := hO'z b; simp [this])
theorem ym3 (hcx : CxOk P cx) (hst : St P F B0 w0 n env a.tmps w S Os) (hn : 0 < n) (hN : (a.tmps.size = cx.N ∧ F.lo = cx.lo)) {t u : TypeId} {x y : Operand} (ho : o.op = .call { callee := .builtin .copy, args := #[x, y], argTypes := #[t, u] })
  (h : (ym4 cx o.dst t x y).run env = some (l, eff)) : o.wp P a w (Post P F B0 w0 S cx env eff a) Q := by
 unfold ym4 at h
 split at h
 case h_2 => exact (zqd h).elim
 rename_i ti hti
 split at h
 case h_2 => exact (zqd h).elim
 rename_i e hk
 split at h
 case h_2 => exact (zqd h).elim
 rename_i j hj
 obtain ⟨hpos, h⟩ := zqq h
 have hto := hcx.ty _ _ hti
 have hjo := hcx.ty _ _ hj
 have hu : P.underlying t = some (.slice e) := by
  obtain ⟨_, _, d, _, _, _, _, _, hd, _, _, hkd⟩ := hto.ex
  rw [hk] at hkd
  rw [hd]; exact congrArg some hkd
 obtain ⟨b, s, l1, hvb, h1⟩ := zqm h
 obtain ⟨m, e2, cap2, ys, l2, h2, hnode, _⟩ := yb3 hst hn hvb h1
 obtain ⟨⟨hyp, hyl⟩, h3⟩ := yae h2
 obtain ⟨c, s2, l3, hva, h4⟩ := zqm h3
 obtain ⟨r, e', cap, xs, l4, h5, hl, htm, hr⟩ := ygy hst hn hva h4
 obtain ⟨⟨rfl, hxp⟩, hout⟩ := yae h5
 rw [RP.run] at hout
 obtain ⟨q, hq⟩ : ∃ q, n = q + 1 := ⟨n - 1, by omega⟩
 have hr' : Rv P B0 w S (q + 1) (a.eval x) (.sl .own e' cap xs) (Os r) := by rw [← hq]; exact hr
 obtain ⟨w', O, hrun, hB, hag, hx, hO1, hO2⟩ := yqq (u := u) (ty := o.type) hr' (hst.one r) (fun b hb => hst.excl b r hb) hxp hnode hyp hyl hu hjo
 refine ybz (v := .int .i64 (min ys.length xs.length : Nat)) (w' := w') ?_ ?_
 ·rw [execOp, ho]
  simp [resolve, invoke, builtin, hrun]
 ·exact yje hst hn (Nat.le_max_left n (max q n + 1)) hN hl htm hout hB hag (hx.le (Nat.le_max_right _ _)) hO1 (fun b hb => .inl (hO2 b hb)) (Rv.le (n := 1) ⟨rfl, fun _ => rfl⟩ (by omega))
end
end Go.Lf
end

section
namespace Go.Lf
open Go Go.RowKit
section
variable {P : Program} {F : Frm} {B0 : Nat} {w0 w w' : World} {S S' : Nat → Prop} {n n' : Nat} {env : Env} {a : Act} {tmps : Array Value} {Os : Nat → Own} {cx : Cx} {o : Oper} {Q : Exit → Act → World → Prop} {eff : Eff} {l : List Nat}
theorem ykv {α : Type} (hst : St P F B0 w0 n env a.tmps w S Os) (hn : 0 < n) : ∀ {xs : List Operand} {k : List AV → RP α} {l : List Nat} {r : α}, (yuw xs k).run env = some (l, r) →
  ∃ cs l', (k cs).run env = some (l', r) ∧ Rc (Rv P B0 w S n) (xs.map a.eval) cs (fun _ => 0)
 | [], k, l, r, h => ⟨[], l, h, .nil fun _ => rfl⟩
 | x :: xs, k, l, r, h => by
  obtain ⟨y, s, l1, hv, h1⟩ := zqm h
  split at h1
  ·rename_i cs c
   obtain ⟨ds, l2, h2, h3⟩ := ykv hst hn h1
   have hz := hv.plain hst hn rfl (fun O h => by obtain ⟨m, rfl⟩ := h.pos; obtain ⟨g, o, C, T, fr, _, _, _, _, _, hz, _⟩ := h; exact hz)
   exact ⟨_, l2, h2, .cons hz h3 fun _ => rfl⟩
  ·exact (zqd h1).elim
theorem yg1 (hst : St P F B0 w0 n env a.tmps w S Os) (hn : 0 < n) (hN : (a.tmps.size = cx.N ∧ F.lo = cx.lo)) {g : Fn} {first caps : Array Operand} (ho : o.op = .makeFunc g first caps)
  (h : (ydv cx o.dst g first.toList caps.toList).run env = some (l, eff)) : o.wp P a w (Post P F B0 w0 S cx env eff a) Q := by
 unfold ydv at h
 split at h
 ·rename_i f hf
  obtain ⟨cs, l1, h1, h2⟩ := ykv hst hn h
  obtain ⟨m, rfl⟩ : ∃ m, n = m + 1 := ⟨n - 1, by omega⟩
  have hfi : first = #[] := by simpa using hf
  refine fin0 (v := .func (.func f) #[] (caps.map a.eval)) (hst.up (Nat.le_succ _)) (Nat.succ_pos _) hN h1 ?_ (.inr ⟨caps.map a.eval, rfl, fun _ => rfl, ?_⟩)
  ·rw [execOp, ho, hfi]
   simp [Instr.makeFunc]
  ·rw [Array.toList_map]; exact h2
 ·exact (zqd h).elim
theorem yi2 (hcx : CxOk P cx) (hst : St P F B0 w0 n env a.tmps w S Os) (hn : 0 < n) (hN : (a.tmps.size = cx.N ∧ F.lo = cx.lo)) {t : TypeId} {x : Operand} (ho : o.op = .slice t x none none none)
  (h : (ygz cx o.dst t x).run env = some (l, eff)) : o.wp P a w (Post P F B0 w0 S cx env eff a) Q := by
 unfold ygz at h
 split at h
 ·rename_i ti ht
  obtain ⟨_, _, d, _, _, _, _, _, hd, _, _, hk⟩ := (hcx.ty t ti ht).ex
  split at h
  ·rename_i len e hkk
   rw [hkk] at hk
   have hk' : d = .array len e := hk
   rw [hk'] at hd
   split at h
   ·rename_i j hj
    obtain ⟨⟨hj1, hlen⟩, h⟩ := zqq h
    obtain ⟨tj, hi1, hi2, hi3⟩ := hcx.info hj
    obtain ⟨y, s, l1, hv, h1⟩ := zqm h
    split at h1
    ·rename_i cs c
     obtain ⟨⟨hp, hc⟩, h2⟩ := yae h1
     have hz := hv.plain hst hn rfl (fun O h => by obtain ⟨m, rfl⟩ := h.pos; obtain ⟨g, o, C, T, fr, _, _, _, _, _, hz, _⟩ := h; exact hz)
     obtain ⟨m, rfl⟩ := hz.pos
     obtain ⟨g, off, C, T, fr, hav, hs, hg, hco, hsz, _, hr⟩ := hz
     have hone : ∀ q ∈ (cs.drop c).take len, q.ecells = [q] := fun q hq => yb0 (zls.1 hp q (List.mem_of_mem_drop (List.mem_of_mem_take hq)))
     have hfl : flat ((cs.drop c).take len) = (cs.drop c).take len := by
      generalize hL : (cs.drop c).take len = L at hone
      clear hL
      induction L with
      | nil => rfl
      | cons q L ih => rw [ya4, hone q (by simp), ih fun z hz => hone z (by simp [hz])]; rfl
     have hll : ((cs.drop c).take len).length = len := by rw [zlh, List.length_drop]; omega
     refine fin0 (v := .slice (some ⟨g, off, none⟩) len len) hst hn hN h2 ?_ (.inr ⟨some ⟨g, off, none⟩, len, by rw [hll], by rw [hll]; exact zly _, by unfold maxLen; omega, rfl, ?_, fun _ => rfl, fun _ => ⟨g, off, C, T, fr, rfl, hs, fun h => by (cases h), hg, ?_, ?_⟩⟩)
     ·rw [execOp, ho]
      simp only [hav, Option.map_none]
      simp [Instr.sliceAt, Instr.sureAddr, Instr.sliceBounds, sizeOf, typeInfo, run_underlying hd, hi1, Result.andThen, Addr.add]
     ·intro q hq; rw [hone q hq, hi3, hj1]; rfl
     ·rw [hfl, hll]
      have := hr.length
      simp only [zlh, List.length_drop, zlr] at this
      omega
     ·rw [hfl, hll]
      have h3 := hr.part (fun _ => rfl) c len
      rw [List.drop_take, List.take_take, List.drop_drop] at h3
      have e1 : off - c + c = off := by omega
      have e2 : min len (cs.length - c) = len := by omega
      rw [e1, e2] at h3
      exact h3
    ·exact (zqd h1).elim
   ·exact (zqd h).elim
  ·exact (zqd h).elim
 ·exact (zqd h).elim
end
end Go.Lf
end

section
namespace Go.Lf
open Go Go.RowKit
theorem yfh : ∀ {xs : List AV} {ns : List Int}, yfi xs = some ns → xs = ns.map fun n => .atom (.int .u8 n)
 | [], ns, h => by injection h with h; subst h; rfl
 | x :: xs, ns, h => by
  unfold yfi at h
  split at h
  ·rename_i e; cases e
  ·rename_i n l e
   injection e with e1 e2
   subst e1 e2
   cases hb : yfi xs with
   | none => rw [hb] at h; cases h
   | some ms =>
    rw [hb] at h
    injection h with h
    subst h
    rw [yfh hb]; rfl
  ·cases h
section
variable {P : Program} {F : Frm} {B0 : Nat} {w0 w w' : World} {S S' : Nat → Prop} {n n' : Nat} {env : Env} {a : Act} {Os : Nat → Own} {cx : Cx} {o : Oper} {Q : Exit → Act → World → Prop} {eff : Eff} {l : List Nat}
theorem yf6 : ∀ (ns : List Int), flat (ns.map fun n => (.atom (.int .u8 n) : AV)) = ns.map fun n => .atom (.int .u8 n)
 | [] => rfl
 | n :: ns => by
  have := yf6 ns
  unfold flat at *
  rw [List.map_cons, List.flatMap_cons, this]; rfl
theorem yj2 {m : Nat} : ∀ {vs : List Value} {ns : List Int} {O : Own}, Rc (Rv P B0 w S m) vs (ns.map fun n => .atom (.int .u8 n)) O → vs = ns.map (Value.int .u8)
 | vs, [], O, h => by cases h; rfl
 | vs, n :: ns, O, h => by
  cases h with
  | cons h1 h2 _ =>
   obtain ⟨k, rfl⟩ := h1.pos
   rw [h1.1, yj2 h2]; rfl
theorem ym5 (hcx : CxOk P cx) (hst : St P F B0 w0 n env a.tmps w S Os) (hn : 0 < n) (hN : (a.tmps.size = cx.N ∧ F.lo = cx.lo)) {src dst : TypeId} {x : Operand} (ho : o.op = .convert src dst x) (h : (ym6 cx o.dst src dst x).run env = some (l, eff)) : o.wp P a w (Post P F B0 w0 S cx env eff a) Q := by
 unfold ym6 at h
 cases hs : tyF cx.T src with
 | none => rw [hs] at h; exact (zqd h).elim
 | some i =>
  cases hd : tyF cx.T dst with
  | none => rw [hs, hd] at h; exact (zqd h).elim
  | some j =>
   rw [hs, hd] at h
   simp only at h
   split at h
   ·rename_i k hk
    obtain ⟨p, s, l1, hv1, h1⟩ := zqm h
    obtain ⟨_, _, ds, _, _, _, _, _, hds, _, _, _⟩ := (hcx.ty src i hs).ex
    obtain ⟨_, _, dd, _, _, _, _, _, hdd, _, _, hkk⟩ := (hcx.ty dst j hd).ex
    rw [hk] at hkk
    have hkk' : dd = .int k := hkk
    rw [hkk'] at hdd
    split at h1
    ·rename_i k' m
     refine yar hst hn hN h1 ?_
     rw [execOp, ho]
     have e : (convert src dst (.int k' m)).run P w = .ok (.int k (k.wrap m)) w := by simp [convert, run_underlying hds, run_underlying hdd, Conv.intToInt]
     simp only [hv1.atom hst hn, Sem.run_bind, Sem.run_pure, e, Result.andThen_ok]
    ·exact (zqd h1).elim
   ·rename_i hk
    obtain ⟨_, _, ds, _, _, _, _, _, hds, _, _, hks⟩ := (hcx.ty src i hs).ex
    obtain ⟨_, _, dd, _, _, _, _, _, hdd, _, _, hkk⟩ := (hcx.ty dst j hd).ex
    rw [hk] at hkk
    have hkk' : dd = .string := hkk
    rw [hkk'] at hdd
    split at h
    ·rename_i e hke
     rw [hke] at hks
     have hks' : ds = .slice e := hks
     rw [hks'] at hds
     obtain ⟨hu8, h1⟩ := zqq h
     have he : P.underlying e = some (.int .u8) := by
      cases hte : tyF cx.T e with
      | none => rw [hte] at hu8; cases hu8
      | some ie =>
       rw [hte] at hu8
       obtain ⟨_, _, de, _, _, _, _, _, hde, _, _, hkq⟩ := (hcx.ty e ie hte).ex
       rw [of_decide_eq_true hu8] at hkq
       have hkq' : de = .int .u8 := hkq
       rw [hde, hkq']
     obtain ⟨y, s, l', hv, h2⟩ := zqm h1
     obtain ⟨m, e', cap, xs, l2, h3, ⟨A, k, hvv, hk1, hk2, _, hu, hx⟩, _⟩ := yb3 hst hn hv h2
     simp only at h3
     split at h3
     ·rename_i ns hns
      refine yar hst hn hN h3 ?_
      rw [execOp, ho]
      have hxs := yfh hns
      have e1 : (Conv.bytesToString (.slice A xs.length k)).run P w = .ok (.string (yb9 ns)) w := by
       cases ns with
       | nil =>
        have hx0 : xs = [] := by rw [hxs]; rfl
        subst hx0
        cases A with
        | none => rfl
        | some ad =>
         have := run_bytesToString (P := P) w ad 0 k [] (by
          have := run_loadCells_list (P := P) w ad [] (by intro j v hj; cases hj)
          exact this)
         exact this
       | cons n0 ns0 =>
        obtain ⟨g, off, C, T, fr, O1, rfl, hg, hsz, hr, _, _⟩ := hx (by rw [hxs]; simp)
        have hfl : flat xs = (n0 :: ns0).map fun n => .atom (.int .u8 n) := by rw [hxs]; exact yf6 _
        rw [hfl] at hr hsz
        have hc := yj2 hr
        have hlen : xs.length = (n0 :: ns0).length := by rw [hxs, zla]
        have hl : (loadCells ⟨g, off, none⟩ xs.length).run P w = .ok ((n0 :: ns0).map (Value.int .u8)).toArray w := by
         have := run_loadCells_list (P := P) w ⟨g, off, none⟩ ((n0 :: ns0).map (Value.int .u8)) (by
          intro j v hj
          rw [zrh, cell_of_row w g _ C T fr hg]
          rw [← hc, List.getElem?_take] at hj
          split at hj
          ·rw [List.getElem?_drop] at hj; simpa using hj
          ·cases hj)
         rwa [zla, ← hlen] at this
        exact run_bytesToString (P := P) w ⟨g, off, none⟩ xs.length k _ hl
      have e2 : (convert src dst (.slice A xs.length k)).run P w = .ok (.string (yb9 ns)) w := by
       rw [run_convert_bytes_string w src dst e A xs.length k hds he hdd]; exact e1
      simp only [hvv, Sem.run_bind, Sem.run_pure, e2, Result.andThen_ok]
     ·exact (zqd h3).elim
    ·exact (zqd h).elim
   ·exact (zqd h).elim
end
end Go.Lf
end

section
namespace Go.Lf
open Go Go.RowKit
section
variable {P : Program} {F : Frm} {B0 : Nat} {w0 w w' : World} {S S' : Nat → Prop} {n n' : Nat} {env : Env} {a : Act} {tmps : Array Value} {Os : Nat → Own} {cx : Cx} {o : Oper} {Q : Exit → Act → World → Prop} {eff : Eff} {l : List Nat}
theorem yj5 (hcx : CxOk P cx) (hst : St P F B0 w0 n env a.tmps w S Os) (hn : 0 < n) (hN : (a.tmps.size = cx.N ∧ F.lo = cx.lo)) (h : (opP cx o).run env = some (l, eff)) : o.wp P a w (Post P F B0 w0 S cx env eff a) Q := by
 unfold opP at h
 split at h
 ·rename_i x ho; exact ymz hst hn hN ho h
 ·rename_i x ho; exact yi7 hst hn hN ho h
 ·rename_i c x y ho; exact ymy hst hn hN ho h
 ·rename_i e ho; exact ylm hcx hst hn hN ho h
 ·rename_i e x ho; exact ypz hst hn hN ho h
 ·rename_i t ps ho; exact yll hcx hst hn hN ho h
 ·rename_i t k ps ho; exact ye0 hcx hst hn hN ho h
 ·rename_i t x ho; exact ym1 hcx hst hn hN ho h
 ·rename_i t ad x ho; exact ylg hcx hst hn hN ho h
 ·rename_i op t x y u ho; exact yp0 hcx hst hn hN ho h
 ·rename_i op t x ho; exact ys5 hst hn hN ho h
 ·rename_i s t x ho; exact ym5 hcx hst hn hN ho h
 ·rename_i t x y ho; exact yfn hcx hst hn hN ho h
 ·rename_i t x lo hi mx ho
  split at h
  ·split at h
   ·exact yi2 hcx hst hn hN ho h
   ·exact (zqd h).elim
  ·exact ylh hcx hst hn hN ho h
 ·rename_i t x f ho; exact yfp hcx hst hn hN ho h
 ·rename_i t x ix ho; exact yfo hcx hst hn hN ho h
 ·rename_i x ix ho; exact yh1 hst hn hN ho h
 ·rename_i x ho; exact ypu hst hn hN ho h
 ·rename_i t x ix ho; exact yli hcx hst hn hN ho h
 ·rename_i g first caps ho; exact yg1 hst hn hN ho h
 ·rename_i c ho
  obtain ⟨callee, args, argTypes⟩ := c
  have arr : ∀ {α : Type} {xs : Array α} {ys : List α}, xs.toList = ys → xs = ys.toArray := fun h => by rw [← h]
  split at h
  ·rename_i hc
   simp only at hc h
   subst hc
   split at h
   ·rename_i x t h1 h2
    rw [arr h1, arr h2] at ho
    exact ypx hcx hst hn hN ho h
   ·exact (zqd h).elim
  ·rename_i hc
   simp only at hc h
   subst hc
   split at h
   ·rename_i x t h1 h2
    rw [arr h1, arr h2] at ho
    exact ypy hcx hst hn hN ho h
   ·exact (zqd h).elim
  ·rename_i hc
   simp only at hc h
   subst hc
   split at h
   ·rename_i x y t u h1 h2
    rw [arr h1, arr h2] at ho
    exact yi8 hcx hst hn hN ho h
   ·exact (zqd h).elim
  ·rename_i hc
   simp only at hc h
   subst hc
   split at h
   ·rename_i x y t u h1 h2
    rw [arr h1, arr h2] at ho
    exact ym3 hcx hst hn hN ho h
   ·exact (zqd h).elim
  ·rename_i hc
   simp only at hc h
   subst hc
   split at h
   ·rename_i x y t u h1 h2
    rw [arr h1, arr h2] at ho
    exact ypw hst hn hN ho h
   ·exact (zqd h).elim
  ·rename_i hc
   simp only at hc h
   subst hc
   split at h
   ·rename_i x y t u h1 h2
    rw [arr h1, arr h2] at ho
    exact ypv hst hn hN ho h
   ·exact (zqd h).elim
  ·rename_i f hc
   simp only at hc h
   subst hc
   split at h
   ·rename_i x _ h1
    rw [arr h1] at ho
    exact ylk hcx hst hn hN ho h
   ·exact (zqd h).elim
   ·exact ym7 hcx hst hn hN ho rfl h
  ·rename_i g hc
   simp only at hc h
   subst hc
   obtain ⟨l2, h⟩ := yan h
   split at h
   ·rename_i f hf
    split at h
    ·exact (zqd h).elim
    ·cases hl : lk env g with
     | none => rw [hl] at hf; cases hf
     | some y =>
      rw [hl] at hf
      have hy := yn6 hf
      subst hy
      exact ylj hcx hst hn hN ho rfl hl h
   ·exact (zqd h).elim
  ·exact (zqd h).elim
 ·exact (zqd h).elim
end
end Go.Lf
end

section
namespace Go.Lf
open Go Go.RowKit
section
variable {P : Program} {F : Frm} {B0 : Nat} {w0 w w' : World} {S S' S0 : Nat → Prop} {n n' : Nat} {env : Env} {a : Act} {tmps : Array Value} {Os : Nat → Own} {cx : Cx} {o : Oper} {Q : Exit → Act → World → Prop} {eff : Eff} {l : List Nat}
theorem St.clear (hst : St P F B0 w0 n env tmps w S Os) (hn : 0 < n) {d : Nat} (hd : d < tmps.size ∧ F.lo ≤ d) (v : Value) :
  St P F B0 w0 n ((d, .bad) :: env) (tmps.setIfInBounds d v) w S (fun t => if t = d then (fun _ => 0) else Os t) := by
 obtain ⟨m, rfl⟩ : ∃ m, n = m + 1 := ⟨n - 1, by omega⟩
 refine hst.set (zly _) d ⟨hd.1, .inl hd.2⟩ (Below.refl _ _) (fun _ h => h) hst.sLt (fun b t _ hb => hst.excl b t hb) (fun _ _ => rfl) (fun _ _ => rfl) (fun _ => Nat.zero_le _) (fun b t _ hb => by omega) (.inr fun _ => rfl) ?_
 intro t y u ht hy hyr hu hal
 refine ⟨rfl, ?_⟩
 have hb : lk ((d, .bad) :: env) d = some .bad := by simp [lk]
 cases y with
 | al r p rng =>
  injection hyr with hyr; subst hyr
  intro xr hxr mm e cap xs hg
  rw [hb] at hxr; injection hxr with hxr; subst hxr
  cases p with
  | nil => cases hg
  | cons ic p => obtain ⟨i, c⟩ := ic; simp [getC, seg] at hg
 | adr r p i c =>
  injection hyr with hyr; subst hyr
  intro xr hxr y hg hy
  rw [hb] at hxr; injection hxr with hxr; subst hxr
  cases p with
  | nil => injection hg with hg; subst hg; cases hy
  | cons ic p => obtain ⟨i, c⟩ := ic; simp [getC, seg] at hg
 | cp r =>
  injection hyr with hyr; subst hyr
  intro cs hxr
  rw [hb] at hxr; injection hxr with hxr; cases hxr
 | _ => trivial
theorem yef (hst : St P F B0 w0 n env a.tmps w S Os) (hn : 0 < n) (hN : (a.tmps.size = cx.N ∧ F.lo = cx.lo)) (h : (yme cx o).run env = some (l, eff)) : Post P F B0 w0 S cx env eff a (a.put o.dst undef) w := by
 unfold yme at h
 split at h
 ·obtain ⟨t, hd, htN, hlr, hws, hkl⟩ := yao h
  obtain ⟨h1, hnr⟩ := hst.readied hn hkl
  rw [hd]
  obtain ⟨m, rfl⟩ : ∃ m, n = m + 1 := ⟨n - 1, by omega⟩
  have hx : Gz P B0 env a.tmps w S (m + 1) undef (.atom undef) := .inr ⟨rfl, fun _ => rfl⟩
  have key := h1.put0 (zly _) (by omega) hnr ((hx.gives hlr).kills eff.kl)
  exact ⟨rfl, by simpa [Act.put] using hN, m + 1, S, _, hn, .refl _ _, by unfold zqi; rw [hws]; exact key⟩
 ·rename_i hd
  rw [hd]
  injection h with h2; injection h2 with _ h2; subst h2
  exact ⟨rfl, hN, n, S, Os, hn, .refl _ _, hst⟩
theorem yjv (hcx : CxOk P cx) (hst : St P F B0 w0 n env a.tmps w S Os) (hn : 0 < n) (hN : (a.tmps.size = cx.N ∧ F.lo = cx.lo)) {ops : Array Oper} (h : (ybk cx ops o).run env = some (l, eff)) :
  if Region.wanted o (yielded ops a.tmps) then o.wp P a w (Post P F B0 w0 S cx env eff a) Q else Post P F B0 w0 S cx env eff a (a.put o.dst undef) w := by
 unfold ybk at h
 split at h
 ·rename_i hg
  have hw : Region.wanted o (yielded ops a.tmps) = true := by unfold Region.wanted; rw [hg]
  rw [if_pos hw]
  exact yj5 hcx hst hn hN h
 ·rename_i j want hg
  split at h
  ·rename_i g hgd
   obtain ⟨l1, h1⟩ := yan h
   split at h1
   ·rename_i b hlk
    obtain ⟨v, hv, hs⟩ := hst.rel g _ hlk
    have hvb : v = .bool b := by
     obtain ⟨m, rfl⟩ : ∃ m, n = m + 1 := ⟨n - 1, by omega⟩
     exact (hs.rv rfl).1
    subst hvb
    have hy : yielded ops a.tmps j = some b := by unfold yielded; rw [hgd]; simp [hv]
    have hw : Region.wanted o (yielded ops a.tmps) = (bif want then b else !b) := by
     unfold Region.wanted
     rw [hg]
     simp only [hy]
     cases want <;> cases b <;> rfl
    rw [hw]
    simp only [RP.run] at h1
    cases hb : (bif want then b else !b) with
    | true =>
     rw [hb] at h1
     simp only [if_true] at h1 ⊢
     exact yj5 hcx hst hn hN h1
    | false =>
     rw [hb] at h1
     simp only [Bool.false_eq_true, if_false] at h1 ⊢
     exact yef hst hn hN h1
   ·rename_i vs hlk
    obtain ⟨v, hv, hs⟩ := hst.rel g _ hlk
    have hvb : v = .tuple vs := by
     obtain ⟨m, rfl⟩ : ∃ m, n = m + 1 := ⟨n - 1, by omega⟩
     exact (hs.rv rfl).1
    subst hvb
    have hy : yielded ops a.tmps j = none := by unfold yielded; rw [hgd]; simp [hv]
    have hw : Region.wanted o (yielded ops a.tmps) = false := by
     unfold Region.wanted
     rw [hg]
     simp only [hy]
     rfl
    rw [hw]
    simp only [Bool.false_eq_true, if_false]
    exact yef hst hn hN h1
   ·exact (zqd h1).elim
  ·exact (zqd h).elim
def Agree (P : Program) (F : Frm) (B0 : Nat) (w0 : World) (S0 : Nat → Prop) (cx : Cx) (ds : List Deferred) (env : Env) (a : Act) (w : World) : Prop :=
 a.defers = ds ∧ (a.tmps.size = cx.N ∧ F.lo = cx.lo) ∧ ∃ n S Os, 0 < n ∧ Grow B0 S0 S ∧ St P F B0 w0 n env a.tmps w S Os
theorem ykm (hcx : CxOk P cx) {ops : Array Oper} {ds : List Deferred} : ∀ (os : List Oper) {env env' : Env} {ls : List Log} {a : Act} {w : World}, ydq cx ops os env = some (ls, env') → Agree P F B0 w0 S0 cx ds env a w →
  (∀ a' w', Agree P F B0 w0 S0 cx ds env' a' w' → Q .normal a' w') → wpList P ops Q os a w
 | [], env, env', ls, a, w, h, hag, hQ => by
  injection h with h; injection h with _ h; subst h
  exact hQ a w hag
 | o :: os, env, env', ls, a, w, h, hag, hQ => by
  obtain ⟨hd, hN, n, S, Os, hn, hgr, hst⟩ := hag
  simp only [ydq] at h
  cases hs : (ybk cx ops o).run env with
  | none => rw [hs] at h; cases h
  | some re =>
   obtain ⟨rs, e⟩ := re
   rw [hs] at h
   simp only at h
   cases hr : ydq cx ops os (zqi e env) with
   | none => rw [hr] at h; cases h
   | some le =>
    obtain ⟨ls', env2⟩ := le
    rw [hr] at h
    injection h with h; injection h with _ h; subst h
    have key := fun Q' => yjv (Q := Q') hcx hst hn hN hs
    have next : ∀ a' w', Post P F B0 w0 S cx env e a a' w' → wpList P ops Q os a' w' := by
     intro a' w' ⟨h1, h2, n', S', Os', k1, k2, k3⟩
     exact ykm hcx os hr ⟨h1.trans hd, h2, n', S', Os', k1, hgr.trans k2, k3⟩ hQ
    unfold wpList
    have k1 := key Q
    split
    ·rename_i hw
     rw [if_pos hw] at k1
     exact .inl (Oper.wp_mono next k1)
    ·rename_i hw
     rw [if_neg hw] at k1
     exact next _ _ k1
theorem ymo (hcx : CxOk P cx) {id : Nat} {ops : Array Oper} {ds : List Deferred} {env env' : Env} {a : Act} {w : World} (h : ybm cx ops false env = some env') (hag : Agree P F B0 w0 S0 cx ds env a w)
  (hQ : ∀ a' w', Agree P F B0 w0 S0 cx ds env' a' w' → Q .normal a' w') : (Code.region id ops false).wp P Q a w := by
 unfold ybm at h
 have hcx' : CxOk P { cx with dr := false } := ⟨hcx.ty, hcx.eq, hcx.K, hcx.KM, hcx.mixed⟩
 cases he : ydq { cx with dr := false } ops ops.toList env with
 | none => rw [he] at h; cases h
 | some le =>
  obtain ⟨ls, env2⟩ := le
  rw [he] at h
  injection h with h
  have h' : env2 = env' := by simpa using h
  subst h'
  exact wp_region_list (ykm hcx' ops.toList he hag hQ)
end
end Go.Lf
end

section
namespace Go.Lf
open Go Go.RowKit
section
variable {P : Program} {F : Frm} {B0 : Nat} {w0 w w' : World} {S S' S0 : Nat → Prop} {n n' : Nat} {env env' : Env} {a : Act} {tmps : Array Value} {Os : Nat → Own} {cx : Cx} {o : Oper} {Q : Exit → Act → World → Prop} {eff : Eff} {l : List Nat}
theorem yer {x : AV} (k : Wk) (hx : zqu x = true) : weaken k x = x ∨ ∃ m e cap xs, x = .sl m e cap xs ∧ weaken k x = .sl m e none xs := by
 cases x with
 | sl m e cap xs =>
  cases k with
  | keep => exact .inl rfl
  | forget => exact .inr ⟨m, e, cap, xs, rfl, rfl⟩
  | nilTo e' => exact .inr ⟨m, e, cap, xs, rfl, rfl⟩
 | atom v => simp [zqu] at hx
 | _ => cases k <;> exact .inl rfl
theorem ygi {x : AV} (k : Wk) (hx : zqf x = none) : zqf (weaken k x) = none := by
 unfold weaken
 split <;> first | rfl | exact hx
theorem Rv.weaken {v : Value} {x : AV} {O : Own} (k : Wk) (h : Rv P B0 w S n v x O) : Rv P B0 w S n v (Lf.weaken k x) O := by
 obtain ⟨m, rfl⟩ := h.pos
 have sl : ∀ {mm : Mode} {e : TypeId} {cap : Option Nat} {xs : List AV}, Rv P B0 w S (m + 1) v (.sl mm e cap xs) O → Rv P B0 w S (m + 1) v (.sl mm e none xs) O := by
  intro mm e cap xs h
  cases mm with
  | own => obtain ⟨vs, O', h1, _, h2, h3, h4⟩ := h; exact ⟨vs, O', h1, trivial, h2, h3, h4⟩
  | fresh => obtain ⟨A, c, h1, h2, h3, _, h4⟩ := h; exact ⟨A, c, h1, h2, h3, trivial, h4⟩
  | any => obtain ⟨A, c, h1, h2, h3, _, h4⟩ := h; exact ⟨A, c, h1, h2, h3, trivial, h4⟩
 unfold Lf.weaken
 split
 ·exact h
 ·exact sl h
 ·obtain ⟨rfl, hz⟩ := h
  exact ⟨[], fun _ => 0, World.ownsRow_nil w B0 _ _, trivial, fun x hx => by simp at hx, .nil fun _ => rfl, fun b => by simp [Value.ownBlock, ind, hz b]⟩
 ·exact sl h
 ·exact h
theorem Al.weak {v : Value} {x y : AV} {r : Nat} (k : Wk) (h : Al P env tmps w v y) (hr : zqf y = some r) (hx : lk env r = some x) (hxr : zqu x = true) (hx' : lk env' r = some (weaken k x)) : Al P env' tmps w v y := by
 rcases yer k hxr with hw | ⟨m0, e0, cap0, xs0, rfl, hw⟩
 ·rw [hw] at hx'
  exact h.keep hr (hx'.trans hx.symm) rfl fun _ _ _ _ _ _ h => h
 ·rw [hw] at hx'
  have hseg : ∀ i c n, seg (.sl m0 e0 none xs0) i c n = seg (.sl m0 e0 cap0 xs0) i c n := by intro i c n; cases m0 <;> rfl
  have hget : ∀ i c p, getC (.sl m0 e0 none xs0) ((i, c) :: p) = getC (.sl m0 e0 cap0 xs0) ((i, c) :: p) := by intro i c p; unfold getC; rw [hseg]
  have hch : ∀ i c u, ya8 P w (.sl m0 e0 none xs0) i c u = ya8 P w (.sl m0 e0 cap0 xs0) i c u := by intro i c u; cases u <;> rfl
  have hLV : ∀ u p, LV P w u (.sl m0 e0 none xs0) p = LV P w u (.sl m0 e0 cap0 xs0) p := by
   intro u p
   cases p with
   | nil => rfl
   | cons ic p => obtain ⟨i, c⟩ := ic; unfold LV; rw [hseg, hch]
  cases y with
  | al r' p rng =>
   injection hr with hr; subst hr
   intro xr hxr' m e cap xs hg hpm
   rw [hx'] at hxr'; injection hxr' with hxr'; subst hxr'
   cases p with
   | nil =>
    injection hg with hg; injection hg with h1 h2 h3 h4; subst h1 h2 h4
    obtain ⟨vr, u, a1, a2, a3⟩ := h _ hx _ _ cap0 _ rfl (.inl rfl)
    exact ⟨vr, u, a1, by rw [hLV]; exact a2, a3⟩
   | cons ic p =>
    obtain ⟨i, c⟩ := ic
    rw [hget] at hg
    obtain ⟨vr, u, a1, a2, a3⟩ := h _ hx _ _ _ _ hg hpm
    exact ⟨vr, u, a1, by rw [hLV]; exact a2, a3⟩
  | adr r' p i c =>
   injection hr with hr; subst hr
   intro xr hxr' y hg ho
   rw [hx'] at hxr'; injection hxr' with hxr'; subst hxr'
   cases p with
   | nil =>
    injection hg with hg; subst hg
    have ho' : yab (.sl m0 e0 cap0 xs0) = true := by cases m0 <;> first | rfl | cases ho
    obtain ⟨vr, u, q, a1, a2, a3, a4⟩ := h _ hx _ rfl ho'
    exact ⟨vr, u, q, a1, by rw [hLV]; exact a2, a3, a4⟩
   | cons ic p =>
    obtain ⟨i', c'⟩ := ic
    rw [hget] at hg
    obtain ⟨vr, u, q, a1, a2, a3, a4⟩ := h _ hx _ hg ho
    exact ⟨vr, u, q, a1, by rw [hLV]; exact a2, a3, a4⟩
  | cp r' =>
   injection hr with hr; subst hr
   intro cs hxr'
   rw [hx'] at hxr'; injection hxr' with hxr'; cases hxr'
  | _ => cases hr
def yee (ks : List (Nat × Wk)) (k : Wk) (x : AV) : AV :=
 match zqf x with
 | some r => if ks.any fun q => q.1 == r then x else .bad
 | none => weaken k x
theorem yx7 (G : Nat × Wk → AV → AV) (env : Env) (t : Nat) : ∀ ks : List (Nat × Wk),
  (lk (ks.filterMap fun k => (lk env k.1).map fun x => (k.1, G k x)) t = none ∧ (lk env t = none ∨ ∀ k ∈ ks, k.1 ≠ t)) ∨
  ∃ k x, lk env t = some x ∧ lk (ks.filterMap fun k => (lk env k.1).map fun x => (k.1, G k x)) t = some (G k x)
 | [] => .inl ⟨rfl, .inr fun _ h => by simp at h⟩
 | k :: ks => by
  have ih := yx7 G env t ks
  rw [List.filterMap_cons]
  cases hx : lk env k.1 with
  | none =>
   simp only [Option.map_none]
   rcases ih with ⟨h1, h2⟩ | h
   ·refine .inl ⟨h1, ?_⟩
    rcases h2 with h2 | h2
    ·exact .inl h2
    ·by_cases hk : k.1 = t
     ·exact .inl (by rw [← hk]; exact hx)
     ·refine .inr fun q hq => ?_
      rcases List.mem_cons.1 hq with rfl | hq
      ·exact hk
      ·exact h2 q hq
   ·exact .inr h
  | some x =>
   simp only [Option.map_some, lk]
   by_cases hk : k.1 = t
   ·rw [if_pos hk]
    exact .inr ⟨k, x, by rw [← hk]; exact hx, rfl⟩
   ·rw [if_neg hk]
    rcases ih with ⟨h1, h2⟩ | h
    ·refine .inl ⟨h1, h2.imp id fun h2 q hq => ?_⟩
     rcases List.mem_cons.1 hq with rfl | hq
     ·exact hk
     ·exact h2 q hq
    ·exact .inr h
theorem yej (ks : List (Nat × Wk)) (env : Env) (t : Nat) :
  (lk (keepE ks env) t = none ∧ (lk env t = none ∨ ∀ k ∈ ks, k.1 ≠ t)) ∨ ∃ k x, lk env t = some x ∧ lk (keepE ks env) t = some (yee ks k x) := by
 rcases yx7 (fun k x => yee ks k.2 x) env t ks with h | ⟨k, x, h1, h2⟩
 ·exact .inl h
 ·exact .inr ⟨k.2, x, h1, h2⟩
theorem St.keepE (hst : St P F B0 w0 n env tmps w S Os) (hn : 0 < n) (ks : List (Nat × Wk)) : ∃ Os', St P F B0 w0 n (Lf.keepE ks env) tmps w S Os' := by
 refine ⟨fun t => match lk (Lf.keepE ks env) t with | some _ => Os t | none => fun _ => 0, hst.below, hst.b0, hst.sLt, ?_, ?_, ?_, ?_, ?_, ?_, hst.keep, hst.pin⟩
 ·intro b t hb
  show (match lk (Lf.keepE ks env) t with | some _ => Os t | none => fun _ => 0) b = 0
  cases lk (Lf.keepE ks env) t
  ·rfl
  ·exact hst.excl b t hb
 ·intro t b
  show (match lk (Lf.keepE ks env) t with | some _ => Os t | none => fun _ => 0) b ≤ 1
  cases lk (Lf.keepE ks env) t
  ·exact Nat.zero_le _
  ·exact hst.one t b
 ·intro t t' b hne
  show (match lk (Lf.keepE ks env) t with | some _ => Os t | none => fun _ => 0) b = 0 ∨ (match lk (Lf.keepE ks env) t' with | some _ => Os t' | none => fun _ => 0) b = 0
  rcases hst.dis t t' b hne with h | h
  ·left; cases lk (Lf.keepE ks env) t <;> first | exact h | rfl
  ·right; cases lk (Lf.keepE ks env) t' <;> first | exact h | rfl
 ·intro t y hy
  simp only [hy]
  rcases yej ks env t with ⟨h1, _⟩ | ⟨k, x, hx, h1⟩
  ·rw [h1] at hy; cases hy
  ·rw [h1] at hy; injection hy with hy; subst hy
   obtain ⟨v, hv, hs⟩ := hst.rel t x hx
   refine ⟨v, hv, ?_⟩
   rcases hs with ⟨hlf, ha, hz⟩ | hs
   ·cases hr : zqf x with
    | none => exact absurd hr hlf
    | some r =>
     unfold yee
     rw [hr]
     simp only
     split
     ·rename_i hany
      obtain ⟨z, hz1, hz2⟩ := hst.leaf t x r hx hr
      have hzl : zqf z = none := by cases z <;> first | rfl | simp [zqu] at hz2
      obtain ⟨q, hq, hqr⟩ := List.any_eq_true.1 hany
      have hqr' : q.1 = r := by simpa using hqr
      rcases yej ks env r with ⟨_, h2⟩ | ⟨k', x', hx', h2⟩
      ·rcases h2 with h2 | h2
       ·rw [hz1] at h2; cases h2
       ·exact absurd hqr' (h2 q hq)
      ·rw [hz1] at hx'; injection hx' with hx'; subst hx'
       have h3 : yee ks k' z = weaken k' z := by unfold yee; rw [hzl]
       rw [h3] at h2
       exact .inl ⟨by rw [hr]; simp, ha.weak k' hr hz1 hz2 h2, hz⟩
     ·obtain ⟨m, rfl⟩ : ∃ m, n = m + 1 := ⟨n - 1, by omega⟩
      exact .inr hz
   ·have h3 : yee ks k x = weaken k x := by unfold yee; rw [hs.noLeaf]
    rw [h3]
    exact .inr (hs.weaken k)
 ·intro t ht
  simp only [ht]
  exact fun _ => rfl
 ·intro t y r hy hyr
  rcases yej ks env t with ⟨h1, _⟩ | ⟨k, x, hx, h1⟩
  ·rw [h1] at hy; cases hy
  ·rw [h1] at hy; injection hy with hy; subst hy
   cases hr : zqf x with
   | none =>
    have h3 : yee ks k x = weaken k x := by unfold yee; rw [hr]
    rw [h3, ygi k hr] at hyr
    cases hyr
   | some r' =>
    unfold yee at hyr
    rw [hr] at hyr
    simp only at hyr
    split at hyr
    ·rename_i hany
     rw [hr] at hyr; injection hyr with hyr; subst hyr
     obtain ⟨z, hz1, hz2⟩ := hst.leaf t x r' hx hr
     have hzl : zqf z = none := by cases z <;> first | rfl | simp [zqu] at hz2
     obtain ⟨q, hq, hqr⟩ := List.any_eq_true.1 hany
     have hqr' : q.1 = r' := by simpa using hqr
     rcases yej ks env r' with ⟨_, h2⟩ | ⟨k', x', hx', h2⟩
     ·rcases h2 with h2 | h2
      ·rw [hz1] at h2; cases h2
      ·exact absurd hqr' (h2 q hq)
     ·rw [hz1] at hx'; injection hx' with hx'; subst hx'
      have h3 : yee ks k' z = weaken k' z := by unfold yee; rw [hzl]
      refine ⟨_, h2, ?_⟩
      rw [h3]
      rcases yer k' hz2 with h | ⟨_, _, _, _, _, h⟩
      ·rw [h]; exact hz2
      ·rw [h]; rfl
    ·cases hyr
theorem Agree.keepE {ds : List Deferred} (h : Agree P F B0 w0 S0 cx ds env a w) (ks : List (Nat × Wk)) : Agree P F B0 w0 S0 cx ds (Lf.keepE ks env) a w := by
 obtain ⟨h1, h2, n, S, Os, hn, hgr, hst⟩ := h
 obtain ⟨Os', hst'⟩ := hst.keepE hn ks
 exact ⟨h1, h2, n, S, Os', hn, hgr, hst'⟩
end
end Go.Lf
end

section
namespace Go.Lf
open Go Go.RowKit
section
variable {P : Program} {F : Frm} {B0 : Nat} {w0 w w' : World} {S S' S0 : Nat → Prop} {n n' : Nat} {env env' : Env} {a : Act} {tmps : Array Value} {Os : Nat → Own} {cx : Cx} {o : Oper} {eff : Eff} {l : List Nat} {ds : List Deferred}
def Ex.out : Ex → Exit
 | .normal => .normal
 | .exit id => .exit id
 | .ret => .ret
def RegOk (P : Program) (F : Frm) (B0 : Nat) (w0 : World) (S0 : Nat → Prop) (cx : Cx) (ds : List Deferred) : Prop :=
 ∀ (id : Nat) (ops : Array Oper) (draw : Bool) (env env' : Env) (a : Act) (w : World) (Q : Exit → Act → World → Prop), ybm cx ops draw env = some env' → Agree P F B0 w0 S0 cx ds env a w →
  (∀ a' w', Agree P F B0 w0 S0 cx ds env' a' w' → Q .normal a' w') → (Code.region id ops draw).wp P Q a w
theorem Agree.bool {t : Nat} {b : Bool} (h : Agree P F B0 w0 S0 cx ds env a w) (ht : lk env t = some (.atom (.bool b))) : a.eval (.tmp t) = .bool b := by
 obtain ⟨_, _, n, S, Os, hn, _, hst⟩ := h
 have hv : Vl env (.tmp t) (.atom (.bool b)) (some t) := ⟨ht, rfl⟩
 exact hv.atom hst hn
theorem yr3 (hreg : RegOk P F B0 w0 S0 cx ds) (H : Hints) (fuel : Nat) : ∀ (c : Code) {env env' : Env} {ex : Ex} {a : Act} {w : World} {Q : Exit → Act → World → Prop}, evC cx H fuel c env = some (ex, env') → Agree P F B0 w0 S0 cx ds env a w →
  (∀ a' w', Agree P F B0 w0 S0 cx ds env' a' w' → Q ex.out a' w') → c.wp P Q a w := by
 intro c
 induction c with
 | skip =>
  intro env env' ex a w Q h hag hQ
  injection h with h; injection h with h1 h2; subst h1 h2
  exact wp_skip (hQ a w hag)
 | label lb =>
  intro env env' ex a w Q h hag hQ
  injection h with h; injection h with h1 h2; subst h1 h2
  exact wp_label (hQ a w hag)
 | exit id =>
  intro env env' ex a w Q h hag hQ
  injection h with h; injection h with h1 h2; subst h1 h2
  exact wp_exit (hQ a w hag)
 | ret =>
  intro env env' ex a w Q h hag hQ
  injection h with h; injection h with h1 h2; subst h1 h2
  exact wp_ret (hQ a w hag)
 | region id ops draw =>
  intro env env' ex a w Q h hag hQ
  simp only [evC] at h
  cases hr : ybm cx ops draw env with
  | none => rw [hr] at h; cases h
  | some e =>
   rw [hr] at h
   injection h with h; injection h with h1 h2; subst h1 h2
   exact hreg id ops draw env e a w Q hr hag fun a' w' hag' => hQ a' w' (hag'.keepE _)
 | seq x y ihx ihy =>
  intro env env' ex a w Q h hag hQ
  simp only [evC] at h
  cases hx : evC cx H fuel x env with
  | none => rw [hx] at h; cases h
  | some xe =>
   obtain ⟨ex1, e1⟩ := xe
   rw [hx] at h
   refine wp_seq ?_
   cases ex1 with
   | normal => exact ihx hx hag fun a' w' hag' => ihy h hag' hQ
   | exit id =>
    injection h with h; injection h with h1 h2; subst h1 h2
    exact ihx hx hag fun a' w' hag' => hQ a' w' hag'
   | ret =>
    injection h with h; injection h with h1 h2; subst h1 h2
    exact ihx hx hag fun a' w' hag' => hQ a' w' hag'
 | cond c x y ihx ihy =>
  intro env env' ex a w Q h hag hQ
  cases c with
  | tmp t =>
   simp only [evC] at h
   split at h
   ·rename_i b hlk
    refine wp_cond (hag.bool hlk) ?_
    cases b with
    | true => exact ihx h hag hQ
    | false => exact ihy h hag hQ
   ·cases h
  | _ => cases h
 | block id c ih =>
  intro env env' ex a w Q h hag hQ
  simp only [evC] at h
  cases hx : evC cx H fuel c env with
  | none => rw [hx] at h; cases h
  | some xe =>
   obtain ⟨ex1, e1⟩ := xe
   rw [hx] at h
   refine wp_block (ih hx hag fun a' w' hag' => ?_)
   cases ex1 with
   | normal =>
    injection h with h; injection h with h1 h2; subst h1 h2
    exact hQ a' w' hag'
   | exit id' =>
    simp only [yky] at h
    show if id' = id then Q .normal a' w' else Q (.exit id') a' w'
    split at h
    ·rename_i he
     injection h with h; injection h with h1 h2; subst h1 h2
     rw [if_pos he]
     exact hQ a' w' hag'
    ·rename_i he
     injection h with h; injection h with h1 h2; subst h1 h2
     rw [if_neg he]
     exact hQ a' w' hag'
   | ret =>
    injection h with h; injection h with h1 h2; subst h1 h2
    exact hQ a' w' hag'
 | loop c ih =>
  intro env env' ex a w Q h hag hQ
  simp only [evC] at h
  refine wp_loop_rounds fuel ?_
  clear hreg
  revert h
  generalize hk : H.loop (ybv c) = ks
  have key : ∀ (m : Nat) {env : Env} {a : Act} {w : World}, iter (keepE ks) (evC cx H fuel c) m env = some (ex, env') → Agree P F B0 w0 S0 cx ds env a w → Code.rounds P c Q m a w := by
   intro m
   induction m with
   | zero => intro env a w h; cases h
   | succ m ihm =>
    intro env a w h hag
    simp only [iter] at h
    rw [rounds_succ]
    cases hx : evC cx H fuel c (keepE ks env) with
    | none => rw [hx] at h; cases h
    | some xe =>
     obtain ⟨ex1, e1⟩ := xe
     rw [hx] at h
     cases ex1 with
     | normal => exact ih hx (hag.keepE ks) fun a' w' hag' => ihm h hag'
     | exit id =>
      injection h with h; injection h with h1 h2; subst h1 h2
      exact ih hx (hag.keepE ks) fun a' w' hag' => hQ a' w' hag'
     | ret =>
      injection h with h; injection h with h1 h2; subst h1 h2
      exact ih hx (hag.keepE ks) fun a' w' hag' => hQ a' w' hag'
  intro h
  exact key fuel h hag
 | _ => intro env env' ex a w Q h; cases h
end
end Go.Lf
end

section
namespace Go.Lf
open Go Go.RowKit
theorem yap (ws env : Env) (t : Nat) : lk (ws ++ env) t = match lk ws t with | some x => some x | none => lk env t := by
 induction ws with
 | nil => rfl
 | cons q ws ih =>
  obtain ⟨k, x⟩ := q
  simp only [List.cons_append, lk]
  by_cases hk : k = t
  ·rw [if_pos hk, if_pos hk]
  ·rw [if_neg hk, if_neg hk, ih]
theorem ytn {ws : Env} {t : Nat} (h : t ∉ ws.map (·.1)) : lk ws t = none := by
 induction ws with
 | nil => rfl
 | cons q ws ih =>
  obtain ⟨k, x⟩ := q
  simp only [List.map_cons, List.mem_cons, not_or] at h
  simp only [lk]
  rw [if_neg (fun e => h.1 e.symm), ih h.2]
theorem yfq (kl : List (Nat × Bool)) : ∀ {env env' : Env} {t : Nat}, lk env t = lk env' t → lk (kills kl env) t = lk (kills kl env') t := by
 induction kl with
 | nil => intro env env' t h; exact h
 | cons q kl ih =>
  intro env env' t h
  obtain ⟨r, k⟩ := q
  first
   | exact ih (by rw [ya2, ya2, h])
   | (show lk (kill r k (kills kl env)) t = lk (kill r k (kills kl env')) t; rw [ya2, ya2, ih h])
theorem ybh (e : Eff) {env env' : Env} {t : Nat} (h : lk env t = lk env' t) : lk (zqi e env) t = lk (zqi e env') t := by
 unfold zqi
 rw [yap, yap, yfq e.kl h]
def keys (e : Eff) : List Nat := e.ws.map (·.1)
def Quiet (e : Eff) (t : Nat) : Prop := e.kl = [] ∧ t ∉ keys e
theorem Quiet.lk {e : Eff} {t : Nat} (h : Quiet e t) (env : Env) : Lf.lk (zqi e env) t = Lf.lk env t := by
 unfold zqi
 rw [yap, ytn h.2, h.1]
 rfl
def Indep (e e' : Eff) : Prop := e.kl = [] ∧ e'.kl = [] ∧ ∀ t ∈ keys e, t ∉ keys e'
theorem Indep.swap {e e' : Eff} (h : Indep e e') (env : Env) (t : Nat) : lk (zqi e' (zqi e env)) t = lk (zqi e (zqi e' env)) t := by
 obtain ⟨h1, h2, h3⟩ := h
 by_cases hk : t ∈ keys e
 ·have hq : Quiet e' t := ⟨h2, h3 t hk⟩
  rw [hq.lk]
  exact ybh e (hq.lk env).symm
 ·have hq : Quiet e t := ⟨h1, hk⟩
  rw [hq.lk]
  exact ybh e' (hq.lk env)
def yas (D : Nat → Bool) : Nat → List (List Nat × Eff) → Env → Env
 | _, [], env => env
 | k, x :: es, env => yas D (k + 1) es (if D k = true then zqi x.2 env else env)
theorem yay {D D' : Nat → Bool} {t : Nat} : ∀ (es : List (List Nat × Eff)) (k : Nat) {env env' : Env}, (∀ j x, es[j]? = some x → D (k + j) ≠ D' (k + j) → Quiet x.2 t) → lk env t = lk env' t → lk (yas D k es env) t = lk (yas D' k es env') t
 | [], _, _, _, _, h => h
 | x :: es, k, env, env', hq, h => by
  simp only [yas]
  refine yay es (k + 1) (fun j y hy hne => hq (j + 1) y (by simpa using hy) (by simpa [Nat.add_assoc, Nat.add_comm 1] using hne)) ?_
  by_cases hd : D k = D' k
  ·rw [hd]
   split
   ·exact ybh x.2 h
   ·exact h
  ·have hx := hq 0 x rfl (by simpa using hd)
   cases h1 : D k <;> cases h2 : D' k
   ·exact absurd (h1.trans h2.symm) hd
   ·simp only [Bool.false_eq_true, if_false, if_true]; rw [hx.lk]; exact h
   ·simp only [Bool.false_eq_true, if_false, if_true]; rw [hx.lk]; exact h
   ·exact absurd (h1.trans h2.symm) hd
theorem yjc {D : Nat → Bool} {t : Nat} (es : List (List Nat × Eff)) (k : Nat) {env env' : Env} (h : lk env t = lk env' t) : lk (yas D k es env) t = lk (yas D k es env') t :=
 yay es k (fun _ _ _ hne => absurd rfl hne) h
theorem yf4 {D : Nat → Bool} (e : Eff) (t : Nat) : ∀ (es : List (List Nat × Eff)) (k : Nat) (env : Env), (∀ j x, es[j]? = some x → D (k + j) = true → Indep e x.2) → lk (yas D k es (zqi e env)) t = lk (zqi e (yas D k es env)) t
 | [], _, _, _ => rfl
 | x :: es, k, env, h => by
  have ih := fun env => yf4 e t es (k + 1) env fun j y hy hd => h (j + 1) y (by simpa using hy) (by simpa [Nat.add_assoc, Nat.add_comm 1] using hd)
  simp only [yas]
  cases hd : D k with
  | false => simp only [Bool.false_eq_true, if_false]; exact ih env
  | true =>
   simp only [if_true]
   rw [← ih]
   exact yjc es (k + 1) ((h 0 x rfl (by simpa using hd)).swap env t)
theorem yfb {D : Nat → Bool} {i : Nat} (t : Nat) : ∀ (es : List (List Nat × Eff)) (k m : Nat) (env : Env) (x : List Nat × Eff), es[m]? = some x → i = k + m → D i = false → (∀ j y, m < j → es[j]? = some y → D (k + j) = true → Indep x.2 y.2) →
  lk (yas (fun j => D j || j == i) k es env) t = lk (zqi x.2 (yas D k es env)) t
 | [], _, _, _, _, h, _, _, _ => by simp at h
 | y :: es, k, 0, env, x, h, hi, hd, hj => by
  have hyx : y = x := by simpa using h
  subst hyx
  have hk : i = k := by simpa using hi
  subst hk
  simp only [yas, beq_self_eq_true, Bool.or_true, if_true, hd, Bool.false_eq_true, if_false]
  rw [← yf4 y.2 t es (i + 1) env fun j z hz hdz => hj (j + 1) z (by omega) (by simpa using hz) (by simpa [Nat.add_assoc, Nat.add_comm 1] using hdz)]
  refine yay es (i + 1) (fun j z _ hne => absurd ?_ hne) rfl
  have : (i + 1 + j == i) = false := by simp; omega
  rw [this, Bool.or_false]
 | y :: es, k, m + 1, env, x, h, hi, hd, hj => by
  have hki : (k == i) = false := by simp; omega
  simp only [yas, hki, Bool.or_false]
  exact yfb t es (k + 1) m _ x (by simpa using h) (by omega) hd fun j z hlt hz hdz => hj (j + 1) z (by omega) (by simpa using hz) (by simpa [Nat.add_assoc, Nat.add_comm 1] using hdz)
theorem yco (D : Nat → Bool) : ∀ (es : List (List Nat × Eff)) (k : Nat) (env : Env), (∀ j, k ≤ j → D j = false) → yas D k es env = env
 | [], _, _, _ => rfl
 | x :: es, k, env, h => by
  simp only [yas, h k (zly _), Bool.false_eq_true, if_false]
  exact yco D es (k + 1) env fun j hj => h j (by omega)
theorem ycn (i : Nat) : ∀ (es : List (List Nat × Eff)) (k : Nat) (env : Env), yas (fun j => decide (j < k + i)) k es env = (es.take i).foldl (fun env x => zqi x.2 env) env := by
 induction i with
 | zero => intro es k env; simp only [List.take_zero, List.foldl_nil]; exact yco _ es k env fun j hj => by simp; omega
 | succ i ih =>
  intro es k env
  cases es with
  | nil => rfl
  | cons x es =>
   have : (decide (k < k + (i + 1))) = true := by simp
   simp only [yas, this, if_true, List.take_succ_cons, List.foldl_cons]
   rw [← ih]
   have e : k + (i + 1) = k + 1 + i := by omega
   rw [e]
theorem RP.local {α : Type} {env env' : Env} : ∀ {p : RP α} {l : List Nat} {r : α}, p.run env = some (l, r) → (∀ t, 2 * t ∈ l → lk env' t = lk env t) → (∀ t, 2 * t + 1 ∈ l → (lk env' t).map hdAV = (lk env t).map hdAV) → p.run env' = some (l, r) := by
 intro p
 induction p with
 | ret a => intro l r h _ _; exact h
 | fail => intro l r h _ _; cases h
 | read t k ih =>
  intro l r h hl hh
  simp only [RP.run] at h ⊢
  cases hr : (k (lk env t)).run env with
  | none => rw [hr] at h; cases h
  | some la =>
   obtain ⟨l1, a⟩ := la
   rw [hr] at h
   injection h with h; injection h with h1 h2; subst h1 h2
   rw [hl t List.mem_cons_self, ih _ hr (fun q hq => hl q (List.mem_cons_of_mem _ hq)) (fun q hq => hh q (List.mem_cons_of_mem _ hq))]
 | head t k ih =>
  intro l r h hl hh
  simp only [RP.run] at h ⊢
  cases hr : (k ((lk env t).map hdAV)).run env with
  | none => rw [hr] at h; cases h
  | some la =>
   obtain ⟨l1, a⟩ := la
   rw [hr] at h
   injection h with h; injection h with h1 h2; subst h1 h2
   rw [hh t List.mem_cons_self, ih _ hr (fun q hq => hl q (List.mem_cons_of_mem _ hq)) (fun q hq => hh q (List.mem_cons_of_mem _ hq))]
 | br b p q ihp ihq =>
  intro l r h hl hh
  simp only [RP.run] at h ⊢
  split
  ·rename_i hb; rw [if_pos hb] at h; exact ihp h hl hh
  ·rename_i hb; rw [if_neg hb] at h; exact ihq h hl hh
 | el x k ih =>
  intro l r h hl hh
  exact ih x h hl hh
def atE (es : List (List Nat × Eff)) (i : Nat) (env : Env) : Env := (es.take i).foldl (fun env x => zqi x.2 env) env
theorem yfg {cx : Cx} {ops : Array Oper} : ∀ {os : List Oper} {env env' : Env} {ls : List Log}, ydq cx ops os env = some (ls, env') →
  ∃ es : List (List Nat × Eff), es.length = os.length ∧ ls.length = es.length ∧ (∀ i x, es[i]? = some x → ls[i]? = some (yaw (atE es i env) x.1 x.2)) ∧ env' = es.foldl (fun env x => zqi x.2 env) env ∧
   ∀ i o, os[i]? = some o → ∃ x, es[i]? = some x ∧ (ybk cx ops o).run (atE es i env) = some x
 | [], env, env', ls, h => by
  injection h with h; injection h with h1 h2; subst h1 h2
  exact ⟨[], rfl, rfl, fun i x h => by simp at h, rfl, fun i o h => by simp at h⟩
 | o :: os, env, env', ls, h => by
  simp only [ydq] at h
  cases hs : (ybk cx ops o).run env with
  | none => rw [hs] at h; cases h
  | some re =>
   obtain ⟨rs, e⟩ := re
   rw [hs] at h
   simp only at h
   cases hr : ydq cx ops os (zqi e env) with
   | none => rw [hr] at h; cases h
   | some le =>
    obtain ⟨ls', env2⟩ := le
    rw [hr] at h
    injection h with h; injection h with h1 h2; subst h1 h2
    obtain ⟨es, e1, e0, e2, e3, e4⟩ := yfg hr
    refine ⟨(rs, e) :: es, by simp [e1], by simp [e0], fun i x hx => ?_, by simpa using e3, fun i o' hi => ?_⟩
    ·cases i with
     | zero =>
      have : (rs, e) = x := by simpa using hx
      subst this
      rfl
     | succ i => exact e2 i x (by simpa using hx)
    ·cases i with
     | zero =>
      have : o = o' := by simpa using hi
      subst this
      exact ⟨(rs, e), rfl, hs⟩
     | succ i => exact e4 i o' (by simpa using hi)
def Full (env : Env) (e : Eff) (t : Nat) : Prop := e.kl ≠ [] ∨ ∃ q ∈ e.ws, q.1 = t ∧ yda env q = false
theorem yei {e : Eff} {t : Nat} : t ∈ keys e ↔ ∃ q ∈ e.ws, q.1 = t := by simp [keys]
theorem ydx {env : Env} {l : List Nat} {e : Eff} {t : Nat} : t ∈ (yaw env l e).writes ↔ ∃ q ∈ e.ws, q.1 = t ∧ yda env q = false := by
 simp only [yaw, List.mem_map, List.mem_filter]
 constructor
 ·rintro ⟨q, ⟨h1, h2⟩, h3⟩; exact ⟨q, h1, h3, by simpa using h2⟩
 ·rintro ⟨q, h1, h2, h3⟩; exact ⟨q, ⟨h1, by simpa using h3⟩, h2⟩
theorem yxn {env : Env} {l : List Nat} {e : Eff} {t : Nat} : t ∈ (yaw env l e).cw ↔ ∃ q ∈ e.ws, q.1 = t ∧ yda env q = true := by
 simp only [yaw, List.mem_map, List.mem_filter]
 constructor
 ·rintro ⟨q, ⟨h1, h2⟩, h3⟩; exact ⟨q, h1, h3, h2⟩
 ·rintro ⟨q, h1, h2, h3⟩; exact ⟨q, ⟨h1, h3⟩, h2⟩
theorem ydj {env : Env} {l : List Nat} {e : Eff} {t : Nat} (h : t ∈ keys e) : t ∈ (yaw env l e).writes ∨ t ∈ (yaw env l e).cw := by
 obtain ⟨q, h1, h2⟩ := yei.1 h
 cases hw : yda env q with
 | true => exact .inr (yxn.2 ⟨q, h1, h2, hw⟩)
 | false => exact .inl (ydx.2 ⟨q, h1, h2, hw⟩)
theorem yam {env env' : Env} {r r' : List Nat} {e e' : Eff} (h : yin (yaw env r e) (yaw env' r' e') = false) :
  Indep e e' ∧ Indep e' e ∧ (∀ t, 2 * t ∈ r → Quiet e' t) ∧ (∀ t, 2 * t ∈ r' → Quiet e t) ∧ (∀ t, 2 * t + 1 ∈ r → ¬ Full env' e' t) ∧ (∀ t, 2 * t + 1 ∈ r' → ¬ Full env e t) ∧ e.kl = [] ∧ e'.kl = [] := by
 simp only [yin, Bool.or_eq_false_iff] at h
 obtain ⟨⟨⟨⟨⟨h1, h2⟩, h3⟩, h4⟩, h5⟩, h6⟩ := h
 have k1 : e.kl = [] := by cases hk : e.kl <;> simp [hk, yaw] at h1 ⊢
 have k2 : e'.kl = [] := by cases hk : e'.kl <;> simp [hk, yaw] at h2 ⊢
 have m3 : ∀ t ∈ (yaw env r e).writes, 2 * t ∉ r' ∧ 2 * t + 1 ∉ r' ∧ t ∉ keys e' := by
  intro t ht
  have h := List.any_eq_false.1 h3 t ht
  simp only [Bool.or_eq_true, not_or, List.contains_iff_mem] at h
  obtain ⟨⟨⟨a1, a2⟩, a3⟩, a4⟩ := h
  exact ⟨a1, a2, fun hk => (ydj (env := env') (l := r') hk).elim a3 a4⟩
 have m4 : ∀ t ∈ (yaw env r e).cw, 2 * t ∉ r' ∧ t ∉ keys e' := by
  intro t ht
  have h := List.any_eq_false.1 h4 t ht
  simp only [Bool.or_eq_true, not_or, List.contains_iff_mem] at h
  obtain ⟨⟨a1, a3⟩, a4⟩ := h
  exact ⟨a1, fun hk => (ydj (env := env') (l := r') hk).elim a3 a4⟩
 have m5 : ∀ t ∈ (yaw env' r' e').writes, 2 * t ∉ r ∧ 2 * t + 1 ∉ r := by
  intro t ht
  have h := List.any_eq_false.1 h5 t ht
  simp only [Bool.or_eq_true, not_or, List.contains_iff_mem] at h
  exact h
 have m6 : ∀ t ∈ (yaw env' r' e').cw, 2 * t ∉ r := by
  intro t ht
  have h := List.any_eq_false.1 h6 t ht
  simpa [yaw] using h
 have n1 : ∀ t ∈ keys e, 2 * t ∉ r' ∧ t ∉ keys e' := fun t ht => (ydj (env := env) (l := r) ht).elim (fun h => ⟨(m3 t h).1, (m3 t h).2.2⟩) (m4 t)
 have n2 : ∀ t ∈ keys e', 2 * t ∉ r := fun t ht => (ydj (env := env') (l := r') ht).elim (fun h => (m5 t h).1) (m6 t)
 refine ⟨⟨k1, k2, fun t ht => (n1 t ht).2⟩, ⟨k2, k1, fun t ht hte => (n1 t hte).2 ht⟩, fun t ht => ⟨k2, fun hk => n2 t hk ht⟩, fun t ht => ⟨k1, fun hk => (n1 t hk).1 ht⟩, ?_, ?_, k1, k2⟩
 ·rintro t ht (h | h)
  ·exact h k2
  ·exact (m5 t (ydx.2 h)).2 ht
 ·rintro t ht (h | h)
  ·exact h k1
  ·exact (m3 t (ydx.2 h)).2.1 ht
theorem yt1 (r : Nat) (k : Bool) (x : AV) : hdAV (ybi r k x) = ybi r k (hdAV x) := by
 have key : hdAV x = x → hdAV (ybi r k x) = ybi r k (hdAV x) := by
  intro h
  rw [h]
  unfold ybi
  split
  ·rfl
  ·exact h
 cases x with
 | sl m e cap xs => cases m <;> rfl
 | box cs => rfl
 | _ => exact key rfl
theorem yqd (kl : List (Nat × Bool)) : ∀ {env env' : Env} {t : Nat}, (lk env t).map hdAV = (lk env' t).map hdAV → (lk (kills kl env) t).map hdAV = (lk (kills kl env') t).map hdAV := by
 induction kl with
 | nil => intro env env' t h; exact h
 | cons q kl ih =>
  intro env env' t h
  obtain ⟨r, k⟩ := q
  refine ih ?_
  rw [ya2, ya2]
  have e : ∀ o : Option AV, (o.map (ybi r k)).map hdAV = (o.map hdAV).map (ybi r k) := by
   intro o; cases o <;> simp [yt1]
  rw [e, e, h]
theorem yzb (x : Eff) {env env' : Env} {t : Nat} (h : (lk env t).map hdAV = (lk env' t).map hdAV) : (lk (zqi x env) t).map hdAV = (lk (zqi x env') t).map hdAV := by
 unfold zqi
 rw [yap, yap]
 cases lk x.ws t with
 | some y => rfl
 | none => exact yqd x.kl h
theorem ynl {ws : Env} {t : Nat} {x : AV} (h : lk ws t = some x) : (t, x) ∈ ws := by
 induction ws with
 | nil => cases h
 | cons q ws ih =>
  obtain ⟨k, y⟩ := q
  simp only [lk] at h
  split at h
  ·rename_i hk
   injection h with h; subst hk h
   exact List.mem_cons_self
  ·exact List.mem_cons_of_mem _ (ih h)
theorem ylv {env : Env} {t : Nat} {x : AV} (h : yda env (t, x) = true) : (lk env t).map hdAV = some (hdAV x) := by
 simp only [yda] at h
 split at h
 ·rename_i y hy
  rw [hy]
  cases y with
  | sl m e cap xs =>
   cases m <;> first | (simp [yfy] at h; done) | skip
   cases x with
   | sl m' e' cap' xs' => cases m' <;> first | (simp [yfy] at h; done) | rfl
   | _ => simp [yfy] at h
  | box cs =>
   cases x with
   | box cs' => rfl
   | _ => simp [yfy] at h
  | _ => simp [yfy] at h
 ·cases h
theorem ykg {x : Eff} {env0 env : Env} {t : Nat} (hf : ¬ Full env0 x t) (h : t ∈ keys x → (lk env t).map hdAV = (lk env0 t).map hdAV) : (lk (zqi x env) t).map hdAV = (lk env t).map hdAV := by
 have hk : x.kl = [] := by
  cases h2 : x.kl with
  | nil => rfl
  | cons a b => exact absurd (.inl (by simp [h2])) hf
 unfold zqi
 rw [yap, hk]
 cases hl : lk x.ws t with
 | none => rfl
 | some y =>
  have hm := ynl hl
  rw [h (yei.2 ⟨_, hm, rfl⟩)]
  cases hw : yda env0 (t, y) with
  | true => exact (ylv hw).symm
  | false => exact absurd (.inr ⟨_, hm, rfl, hw⟩) hf
theorem yd0 {D : Nat → Bool} (x : List Nat × Eff) : ∀ (es : List (List Nat × Eff)) (k : Nat) (env : Env), yas D k (es ++ [x]) env = if D (k + es.length) = true then zqi x.2 (yas D k es env) else yas D k es env
 | [], k, env => by simp [yas]
 | y :: es, k, env => by
  simp only [List.cons_append, yas]
  rw [yd0 x es (k + 1)]
  have : k + 1 + es.length = k + (y :: es).length := by simp; omega
  rw [this]
theorem yeu {α : Type} {es : List α} {m : Nat} {x : α} (h : es[m]? = some x) : es.take (m + 1) = es.take m ++ [x] := by
 rw [List.take_add_one, h]; rfl
theorem ye7 {D : Nat → Bool} {t : Nat} {env0 : Env} (es : List (List Nat × Eff)) : ∀ m, m ≤ es.length → (∀ k x, k < m → es[k]? = some x → Full (atE es k env0) x.2 t → D k = true) →
  (lk (yas D 0 (es.take m) env0) t).map hdAV = (lk (atE es m env0) t).map hdAV
 | 0, _, _ => by simp [yas, atE]
 | m + 1, hm, h => by
  have ih := ye7 es m (by omega) fun k x hk => h k x (by omega)
  obtain ⟨x, hx⟩ : ∃ x, es[m]? = some x := ⟨es[m]'(by omega), zle (by omega)⟩
  have e1 : atE es (m + 1) env0 = zqi x.2 (atE es m env0) := by unfold atE; rw [yeu hx, List.foldl_append]; rfl
  rw [yeu hx, yd0, e1]
  have hl : 0 + (es.take m).length = m := by rw [zlh]; omega
  rw [hl]
  cases hd : D m with
  | true => simp only [if_true]; exact yzb x.2 ih
  | false =>
   simp only [Bool.false_eq_true, if_false]
   have hf : ¬ Full (atE es m env0) x.2 t := fun hf => by have := h m x (by omega) hx hf; rw [hd] at this; cases this
   rw [ykg hf fun _ => rfl]
   exact ih
theorem ykf {D : Nat → Bool} {t i : Nat} {env0 : Env} (es : List (List Nat × Eff)) (hi : i ≤ es.length)
  (h1 : ∀ k x, k < i → es[k]? = some x → Full (atE es k env0) x.2 t → D k = true) (h2 : ∀ k x, i ≤ k → es[k]? = some x → D k = true → ¬ Full (atE es k env0) x.2 t)
  (h3 : ∀ j y, i ≤ j → es[j]? = some y → D j = true → t ∈ keys y.2 → ∀ k x, k < j → es[k]? = some x → Full (atE es k env0) x.2 t → D k = true) :
  ∀ m, i ≤ m → m ≤ es.length → (lk (yas D 0 (es.take m) env0) t).map hdAV = (lk (atE es i env0) t).map hdAV := by
 intro m hm
 induction hm with
 | refl => intro _; exact ye7 es i hi h1
 | @step m hm ih =>
  intro hle
  have hle : m + 1 ≤ es.length := hle
  obtain ⟨x, hx⟩ : ∃ x, es[m]? = some x := ⟨es[m]'(by omega), zle (by omega)⟩
  have hl : 0 + (es.take m).length = m := by rw [zlh]; omega
  rw [show Nat.succ m = m + 1 from rfl, yeu hx, yd0, hl]
  cases hd : D m with
  | false => simp only [Bool.false_eq_true, if_false]; exact ih (by omega)
  | true =>
   simp only [if_true]
   rw [ykg (h2 m x hm hx hd) fun hk => ye7 es m (by omega) (h3 m x hm hx hd hk)]
   exact ih (by omega)
end Go.Lf
end

section
namespace Go.Lf
open Go Go.RowKit
section
variable {P : Program} {F : Frm} {B0 : Nat} {w0 w w' : World} {S S' S0 : Nat → Prop} {n n' : Nat} {env env' : Env} {a : Act} {tmps : Array Value} {Os : Nat → Own} {cx : Cx} {o : Oper} {eff : Eff} {l : List Nat} {ds : List Deferred} {Q : Exit → Act → World → Prop}
theorem yhj (hw : w'.heap = w.heap) : ∀ (p : Path) (v : Value) (x : AV), LV P w' v x p = LV P w v x p
 | [], _, _ => rfl
 | (i, c) :: p, v, x => by
  have hc : ya8 P w' x i c v = ya8 P w x i c v := by
   have hcell : ∀ ad : Addr, w'.cell? ad = w.cell? ad := fun ad => World.cell?_of_block (by rw [hw])
   unfold ya8
   split <;> first | exact hcell _ | rfl
  unfold LV
  rw [hc]
  split
  ·exact yhj hw p _ _
  ·rfl
theorem Al.heap {v : Value} {x : AV} (hw : w'.heap = w.heap) (h : Al P env tmps w v x) : Al P env tmps w' v x := by
 cases x with
 | al r p rng =>
  intro xr hx m e cap xs hg hpm
  obtain ⟨vr, u, h1, h2, h3⟩ := h xr hx m e cap xs hg hpm
  exact ⟨vr, u, h1, by rw [yhj hw]; exact h2, h3⟩
 | adr r p i c =>
  intro xr hx y hg ho
  obtain ⟨vr, u, q, h1, h2, h3⟩ := h xr hx y hg ho
  exact ⟨vr, u, q, h1, by rw [yhj hw]; exact h2, h3⟩
 | cp r =>
  intro cs hx hc
  obtain ⟨vr, vs, h1, h2, h3, h4⟩ := h cs hx hc
  exact ⟨vr, vs, h1, h2, h3, fun c u hu => by rw [yhj hw]; exact h4 c u hu⟩
 | _ => trivial
theorem Al.cong {v : Value} {x : AV} (hl : ∀ t, lk env' t = lk env t) (h : Al P env tmps w v x) : Al P env' tmps w v x := by
 cases x with
 | al r p rng =>
  intro xr hx
  rw [hl] at hx
  exact h xr hx
 | adr r p i c =>
  intro xr hx
  rw [hl] at hx
  exact h xr hx
 | cp r =>
  intro cs hx
  rw [hl] at hx
  exact h cs hx
 | _ => trivial
theorem Agree.cong (hl : ∀ t, lk env' t = lk env t) (h : Agree P F B0 w0 S0 cx ds env a w) : Agree P F B0 w0 S0 cx ds env' a w := by
 obtain ⟨h1, h2, n, S, Os, hn, hgr, hst⟩ := h
 refine ⟨h1, h2, n, S, Os, hn, hgr, hst.below, hst.b0, hst.sLt, hst.excl, hst.one, hst.dis, ?_, ?_, ?_, hst.keep, hst.pin⟩
 ·intro t x hx
  rw [hl] at hx
  obtain ⟨v, hv, hs⟩ := hst.rel t x hx
  exact ⟨v, hv, hs.imp (fun ⟨k1, k2, k3⟩ => ⟨k1, k2.cong hl, k3⟩) id⟩
 ·intro t ht
  rw [hl] at ht
  exact hst.abs t ht
 ·intro t x r hx hr
  rw [hl] at hx
  obtain ⟨y, hy, hyr⟩ := hst.leaf t x r hx hr
  exact ⟨y, by rw [hl]; exact hy, hyr⟩
theorem Agree.drawn (h : Agree P F B0 w0 S0 cx ds env a w) (k : Nat) : Agree P F B0 w0 S0 cx ds env a { w with drawn := k } := by
 obtain ⟨h1, h2, n, S, Os, hn, hgr, hst⟩ := h
 refine ⟨h1, h2, n, S, Os, hn, hgr, ⟨hst.below.os, hst.below.tape, hst.below.output, hst.below.size, hst.below.block⟩, hst.b0, hst.sLt, hst.excl, hst.one, hst.dis, ?_, hst.abs, hst.leaf, hst.keep, hst.pin⟩
 intro t x hx
 obtain ⟨v, hv, hs⟩ := hst.rel t x hx
 refine ⟨v, hv, ?_⟩
 rcases hs with ⟨k1, k2, k3⟩ | hr
 ·exact .inl ⟨k1, Al.heap (w := w) (w' := { w with drawn := k }) rfl k2, k3⟩
 ·exact .inr (Rv.frame (w := w) (w' := { w with drawn := k }) (fun _ h => h) (fun _ _ => rfl) _ _ _ _ (fun _ _ => rfl) hr)
theorem yjw {α β : Type} (F : List β → α → β) : ∀ (os : List α) (acc : List β), (∃ r, os.foldl (fun acc o => acc ++ [F acc o]) acc = acc ++ r) ∧
  ∀ i o, os[i]? = some o → (os.foldl (fun acc o => acc ++ [F acc o]) acc)[acc.length + i]? = some (F ((os.foldl (fun acc o => acc ++ [F acc o]) acc).take (acc.length + i)) o)
 | [], acc => ⟨⟨[], by simp⟩, fun i o h => by simp at h⟩
 | o :: os, acc => by
  obtain ⟨⟨r, hr⟩, hi⟩ := yjw F os (acc ++ [F acc o])
  simp only [List.foldl_cons]
  refine ⟨⟨F acc o :: r, by rw [hr]; simp⟩, fun i o' h => ?_⟩
  cases i with
  | zero =>
   have : o = o' := by simpa using h
   subst this
   rw [hr]
   simp
  | succ i =>
   have := hi i o' (by simpa using h)
   simp only [zlg, List.length_singleton] at this
   rw [show acc.length + (i + 1) = acc.length + 1 + i by omega]
   exact this
theorem yh6 (acc : List (List Nat)) : ∀ (es : List Edge) (l : List Nat) (b : Nat), b ∈ es.foldl (fun l e => match e.ground with
   | .textOnly _ => l
   | .gcOnly _ => l
   | _ => e.on :: (acc.getD e.on [] ++ l)) l → b ∈ l ∨ ∃ e ∈ es, Region.binds .any e = true ∧ (b = e.on ∨ b ∈ acc.getD e.on [])
 | [], l, b, h => .inl h
 | e :: es, l, b, h => by
  simp only [List.foldl_cons] at h
  rcases yh6 acc es _ b h with h | ⟨e', he', h'⟩
  ·unfold Region.binds
   split at h
   ·exact .inl h
   ·exact .inl h
   ·rename_i h1 h2
    rcases List.mem_cons.1 h with rfl | h
    ·refine .inr ⟨e, List.mem_cons_self, ?_, .inl rfl⟩
     split
     ·rename_i hg; exact absurd hg (h1 _)
     ·rename_i hg; exact absurd hg (h2 _)
     ·rfl
    ·rcases List.mem_append.1 h with h | h
     ·refine .inr ⟨e, List.mem_cons_self, ?_, .inr h⟩
      split
      ·rename_i hg; exact absurd hg (h1 _)
      ·rename_i hg; exact absurd hg (h2 _)
      ·rfl
     ·exact .inl h
  ·exact .inr ⟨e', List.mem_cons_of_mem _ he', h'⟩
theorem ye1 {ops : List Oper} {i : Nat} {o : Oper} (hi : ops[i]? = some o) {b : Nat} (h : b ∈ (ybc ops).getD i []) :
  ∃ e ∈ o.after, Region.binds .any e = true ∧ (b = e.on ∨ b ∈ (ybc ops).getD e.on []) := by
 have hg := (yjw (fun (acc : List (List Nat)) (o : Oper) => o.after.toList.foldl (fun l e => match e.ground with
  | .textOnly _ => l
  | .gcOnly _ => l
  | _ => e.on :: (acc.getD e.on [] ++ l)) []) ops []).2 i o hi
 simp only [List.length_nil, Nat.zero_add] at hg
 have hg' : (ybc ops)[i]? = some _ := hg
 rw [zld, hg', Option.getD_some] at h
 rcases yh6 _ _ _ _ h with h | ⟨e, he, hb, h⟩
 ·simp at h
 ·refine ⟨e, by simpa using he, hb, h.imp id fun h => ?_⟩
  rw [zld] at h ⊢
  rw [List.getElem?_take] at h
  split at h
  ·exact h
  ·simp at h
theorem any_ok {ops : Array Oper} {es : List (List Nat × Eff)} {env0 : Env} (hes : es.length = ops.size)
  (hstep : ∀ i o, ops.toList[i]? = some o → ∃ x cxi, es[i]? = some x ∧ CxOk P cxi ∧ cxi.N = cx.N ∧ cxi.lo = cx.lo ∧ (ybk cxi ops o).run (atE es i env0) = some x)
  {ls : List Log} (hll : ls.length = es.length) (hls : ∀ i x, es[i]? = some x → ls[i]? = some (yaw (atE es i env0) x.1 x.2)) (hap : yhh (ybc ops.toList) ls = true) (hed : yd3 ops.toList = true)
  (hQ : ∀ a' w', Agree P F B0 w0 S0 cx ds (es.foldl (fun env x => zqi x.2 env) env0) a' w' → Q .normal a' w') :
  ∀ (fuel : Nat) (listed : Array Bool) (a : Act) (w : World), listed.size = ops.size → listed.toList.count false ≤ fuel →
   (∀ j, listed.getD j false = true → ∀ b ∈ (ybc ops.toList).getD j [], listed.getD b false = true) →
   (∃ env1, (∀ t, lk env1 t = lk (yas (fun j => listed.getD j false) 0 es env0) t) ∧ Agree P F B0 w0 S0 cx ds env1 a w) → wpAny P .any ops Q fuel listed a w := by
 have hfalse : ∀ {listed : Array Bool} {j : Nat}, j < listed.size → listed.getD j false ≠ true → listed.getD j true = false := by
  intro listed j hj h
  simp only [Array.getD, hj, dif_pos] at h ⊢
  cases hb : listed[j] <;> simp_all
 have hfalse' : ∀ {listed : Array Bool} {j : Nat}, listed.getD j true = false → j < listed.size ∧ listed.getD j false = false := by
  intro listed j h
  by_cases hj : j < listed.size
  ·refine ⟨hj, ?_⟩
   simp only [Array.getD, hj, dif_pos] at h ⊢
   exact h
  ·simp only [Array.getD, hj, dif_neg, not_false_iff] at h
   cases h
 have pair : ∀ {i j : Nat} {x y : List Nat × Eff}, es[i]? = some x → es[j]? = some y → j < i → j ∉ (ybc ops.toList).getD i [] → yin (yaw (atE es i env0) x.1 x.2) (yaw (atE es j env0) y.1 y.2) = false := by
  intro i j x y hx hy hji hb
  have hil : i < es.length := (zlk.1 hx).1
  have h1 := zls.1 hap i (by simpa [hll] using hil)
  have h2 := zls.1 h1 j (by simpa using hji)
  simp only [Bool.or_eq_true, List.contains_iff_mem] at h2
  rcases h2 with h2 | h2
  ·exact absurd h2 hb
  ·simpa [zld, hls i x hx, hls j y hy] using h2
 have done : ∀ {listed : Array Bool} {a : Act} {w : World}, listed.size = ops.size → Region.ready .any ops listed = [] → (∃ env1, (∀ t, lk env1 t = lk (yas (fun j => listed.getD j false) 0 es env0) t) ∧ Agree P F B0 w0 S0 cx ds env1 a w) → Q .normal a w := by
  intro listed a w hsz hr ⟨env1, hl, hag⟩
  have all : ∀ j, j < ops.size → listed.getD j false = true := by
   intro j
   induction j using Nat.strongRecOn with
   | ind j ih =>
    intro hj
    by_cases h : listed.getD j false = true
    ·exact h
    ·exfalso
     have hmem : j ∈ Region.ready .any ops listed := by
      refine mem_ready.2 ⟨hfalse (by omega) h, ops[j], by simp [hj], fun e he hb => ?_⟩
      have h1 := zls.1 hed (ops[j], j) (by
       rw [List.mem_iff_getElem?]
       exact ⟨j, by simp [hj]⟩)
      have h2 := zls.1 h1 e (by simpa using he)
      unfold Region.binds at hb
      have h3 : e.on < j := by
       split at h2
       ·rename_i hg; rw [hg] at hb; simp at hb
       ·rename_i hg; rw [hg] at hb; simp at hb
       ·simpa using h2
      exact ih e.on h3 (by omega)
     rw [hr] at hmem
     cases hmem
  refine hQ a w (hag.cong fun t => ?_)
  rw [hl]
  have e1 : es.foldl (fun env x => zqi x.2 env) env0 = yas (fun j => decide (j < 0 + es.length)) 0 es env0 := by rw [ycn, List.take_length]
  rw [e1]
  refine yay es 0 (fun j x hx hne => absurd ?_ hne) rfl
  have hj : j < es.length := (zlk.1 hx).1
  simp only [Nat.zero_add]
  rw [all j (by omega)]
  simp [hj]
 intro fuel
 induction fuel with
 | zero =>
  intro listed a w hsz hc hdn henv
  have hr : Region.ready .any ops listed = [] := by
   apply List.eq_nil_iff_forall_not_mem.2
   intro j hj
   obtain ⟨h0, _⟩ := mem_ready.1 hj
   obtain ⟨hjs, h1⟩ := hfalse' h0
   have : false ∈ listed.toList := by
    rw [List.mem_iff_getElem?]
    refine ⟨j, ?_⟩
    simp only [Array.getD, hjs, dif_pos] at h1
    have h1' : listed[j] = false := h1
    simp [hjs, h1']
   have := List.count_pos_iff.2 this
   omega
  exact ⟨hr, done hsz hr henv⟩
 | succ fuel ih =>
  intro listed a w hsz hc hdn henv
  refine ⟨fun hr => done hsz hr henv, fun i hi => ?_⟩
  obtain ⟨h0, o, ho, hall⟩ := mem_ready.1 hi
  obtain ⟨his, hDi⟩ := hfalse' h0
  obtain ⟨env1, hl, hag⟩ := henv
  have ho' : ops.toList[i]? = some o := by simpa using ho
  obtain ⟨x, cxi, hx, hci, hcN, hcl, hrun⟩ := hstep i o ho'
  have hbi : ∀ b ∈ (ybc ops.toList).getD i [], listed.getD b false = true := by
   intro b hb
   obtain ⟨e, he, hbd, h⟩ := ye1 ho' hb
   have hon := hall e he hbd
   rcases h with rfl | h
   ·exact hon
   ·exact hdn e.on hon b h
  have later : ∀ {j : Nat} {y : List Nat × Eff}, i < j → es[j]? = some y → listed.getD j false = true → yin (yaw (atE es j env0) y.1 y.2) (yaw (atE es i env0) x.1 x.2) = false := by
   intro j y hij hy hD
   refine pair hy hx hij fun hb => ?_
   have := hdn j hD i hb
   rw [hDi] at this; cases this
  have hrun1 : (ybk cxi ops o).run env1 = some (x.1, x.2) := by
   have e2 : atE es i env0 = yas (fun j => decide (j < 0 + i)) 0 es env0 := by rw [ycn]; rfl
   refine RP.local hrun (fun t ht => ?_) fun t ht => ?_
   ·rw [hl, e2]
    refine yay es 0 (fun j y hy hne => ?_) rfl
    simp only [Nat.zero_add] at hne
    by_cases hji : j < i
    ·have hDj : listed.getD j false ≠ true := by
      intro h; apply hne; rw [h]; simp [hji]
     have hc := pair hx hy hji fun hb => hDj (hbi j hb)
     exact (yam hc).2.2.1 t ht
    ·have hDj : listed.getD j false = true := by
      cases h : listed.getD j false with
      | true => rfl
      | false => exact absurd (by rw [h]; simp [hji]) hne
     have hne' : j ≠ i := by intro e; subst e; rw [hDi] at hDj; cases hDj
     exact (yam (later (by omega) hy hDj)).2.2.2.1 t ht
   ·rw [hl]
    have hil : i < es.length := (zlk.1 hx).1
    have hh := ykf (D := fun j => listed.getD j false) (t := t) (env0 := env0) es (i := i) (by omega) ?_ ?_ ?_ es.length (by omega) (zly _)
    ·rw [List.take_length] at hh; exact hh
    ·intro k y hk hy hf
     cases hDk : listed.getD k false with
     | true => rfl
     | false =>
      have hc := pair hx hy hk fun hb => by have := hbi k hb; rw [hDk] at this; cases this
      exact absurd hf ((yam hc).2.2.2.2.1 t ht)
    ·intro k y hk hy hDk
     have hne' : k ≠ i := by intro e; subst e; rw [hDi] at hDk; cases hDk
     exact (yam (later (by omega) hy hDk)).2.2.2.2.2.1 t ht
    ·intro j y hij hy hDj hkj k z hkj' hz hf
     cases hDk : listed.getD k false with
     | true => rfl
     | false =>
      have hc := pair hy hz hkj' fun hb => by have := hdn j hDj k hb; rw [hDk] at this; cases this
      obtain ⟨c1, _, _, _, _, _, _, c8⟩ := yam hc
      rcases hf with hf | ⟨q, hq1, hq2, _⟩
      ·exact absurd c8 hf
      ·exact absurd (yei.2 ⟨q, hq1, hq2⟩) (c1.2.2 t hkj)
  obtain ⟨hd, hN, n, S, Os, hn, hgr, hst⟩ := hag
  have key := yjv (Q := Q) hci hst hn (by rw [hcN, hcl]; exact hN) hrun1
  have hset : ∀ j, (listed.setIfInBounds i true).getD j false = (listed.getD j false || j == i) := by
   intro j
   rw [zll, zll, Array.getElem?_setIfInBounds]
   by_cases hji : j = i
   ·subst hji
    simp [his]
   ·rw [if_neg (Ne.symm hji)]
    have h2 : (j == i) = false := by simp [hji]
    rw [h2, Bool.or_false]
  have next : ∀ a' w', Post P F B0 w0 S cxi env1 x.2 a a' w' → wpAny P .any ops Q fuel (listed.setIfInBounds i true) a' w' := by
   intro a' w' ⟨p1, p2, n', S', Os', q1, q2, q3⟩
   rw [hcN, hcl] at p2
   refine ih _ a' w' (by simpa using hsz) ?_ ?_ ⟨_, ?_, p1.trans hd, p2, n', S', Os', q1, hgr.trans q2, q3⟩
   ·have hfi : listed.toList[i]? = some false := by
     simp only [Array.getD, his, dif_pos] at hDi
     have hDi' : listed[i] = false := hDi
     simp [his, hDi']
    have hil : i < listed.toList.length := by simpa using his
    have hval : listed.toList[i] = false := by
     have := zle hil
     rw [hfi] at this; injection this with this; exact this.symm
    have hpos : 0 < listed.toList.count false := List.count_pos_iff.2 (by rw [← hval]; exact zlu hil)
    rw [Array.toList_setIfInBounds, List.count_set hil]
    simp only [hval]
    simp at hc hpos ⊢
    omega
   ·intro j hj b hb
    rw [hset] at hj ⊢
    simp only [Bool.or_eq_true, beq_iff_eq] at hj ⊢
    rcases hj with hj | hj
    ·exact .inl (hdn j hj b hb)
    ·subst hj; exact .inl (hbi b hb)
   ·intro t
    rw [ybh x.2 (hl t)]
    have := yfb (D := fun j => listed.getD j false) (i := i) t es 0 i env0 x hx (by omega) hDi fun j y hij hy hD => (yam (later hij hy (by simpa using hD))).2.1
    rw [← this]
    congr 2
    funext j
    exact (hset j).symm
  unfold wpOp
  rw [ho]
  simp only
  split
  ·rename_i hw
   rw [if_pos hw] at key
   exact .inl (Oper.wp_mono next key)
  ·rename_i hw
   rw [if_neg hw] at key
   exact next _ _ key
theorem ywn (hcx : CxOk P cx) : RegOk P F B0 w0 S0 cx ds := by
 intro id ops draw env env' a w Q h hag hQ
 cases draw with
 | false => exact ymo hcx h hag hQ
 | true =>
  unfold ybm at h
  have hcx' : CxOk P { cx with dr := true } := ⟨hcx.ty, hcx.eq, hcx.K, hcx.KM, hcx.mixed⟩
  cases he : ydq { cx with dr := true } ops ops.toList env with
  | none => rw [he] at h; cases h
  | some le =>
   obtain ⟨ls, env2⟩ := le
   rw [he] at h
   simp only [if_true] at h
   split at h
   ·rename_i hap
    injection h with h; subst h
    simp only [zlo, yfl] at hap
    obtain ⟨es, e1, e0, e2, rfl, e4⟩ := yfg he
    refine wp_region_any hcx.mixed (any_ok (cx := { cx with dr := true }) (by simpa using e1) (fun i o h => by obtain ⟨x, h1, h2⟩ := e4 i o h; exact ⟨x, _, h1, hcx', rfl, rfl, h2⟩) e0 e2 hap.1 hap.2 hQ ops.size _ a _ (by simp) ?_ ?_ ⟨env, ?_, hag.drawn _⟩)
    ·simp
    ·intro j hj
     by_cases hjs : j < ops.size
     ·simp [Array.getD, hjs] at hj
     ·simp [Array.getD, hjs] at hj
    ·intro t
     rw [yco]
     intro j _
     by_cases hjs : j < ops.size
     ·simp [Array.getD, hjs]
     ·simp [Array.getD, hjs]
   ·cases h
end
end Go.Lf
end

section
namespace Go.Lf
open Go Go.RowKit
def ybq (tmps : Array Value) : ResultVar → Sem Value
 | .tmp t => pure (tmps.getD t undef)
 | .cell a t => do loadVar t (← asAddr (tmps.getD a undef))
section
variable {P : Program} {F : Frm} {B0 : Nat} {w0 w w' : World} {S S' : Nat → Prop} {n n' : Nat} {env env' : Env} {a : Act} {tmps : Array Value} {Os : Nat → Own} {cx : Cx} {o : Oper} {eff : Eff} {l : List Nat} {ds : List Deferred} {Q : Exit → Act → World → Prop}
theorem St.share (hst : St P F B0 w0 n env tmps w S Os) (hS : ∀ b, S b → S' b) (hN : ∀ b, S' b → S b ∨ (b < w.heap.size ∧ ∀ t, Os t b = 0)) : St P F B0 w0 n env tmps w S' Os := by
 refine ⟨hst.below, hst.b0, ?_, ?_, hst.one, hst.dis, ?_, hst.abs, hst.leaf, fun b hb => ⟨hS b (hst.keep b hb).1, (hst.keep b hb).2⟩, hst.pin⟩
 ·intro b hb
  rcases hN b hb with h | h
  ·exact hst.sLt b h
  ·exact h.1
 ·intro b t hb
  rcases hN b hb with h | h
  ·exact hst.excl b t h
  ·exact h.2 t
 ·intro t x hx
  obtain ⟨v, hv, hs⟩ := hst.rel t x hx
  refine ⟨v, hv, ?_⟩
  rcases hs with h | h
  ·exact .inl h
  ·exact .inr (Rv.frame hS (fun _ _ => rfl) _ _ _ _ (fun _ _ => rfl) h)
structure Took (P : Program) (F : Frm) (B0 : Nat) (w0 : World) (n : Nat) (env' : Env) (tmps : Array Value) (w : World) (S : Nat → Prop) (Os : Nat → Own) (v : Value) (x : AV) (n' : Nat) (S' : Nat → Prop) (Os' : Nat → Own) (O : Own) : Prop where
 nn : n ≤ n'
 rv : Rv P B0 w S' n' v x O
 st : St P F B0 w0 n' env' tmps w S' Os'
 sub : ∀ b, S b → S' b
 new : ∀ b, S' b → S b ∨ ∃ t, 0 < Os t b
 one : ∀ b, O b ≤ 1
 excl : ∀ b, S' b → O b = 0
 apart : ∀ b, 0 < O b → ∀ t, Os' t b = 0
 src : ∀ b, 0 < O b → ∃ t, 0 < Os t b
 le : ∀ t b, Os' t b ≤ Os t b
theorem St.bad' (h : St P F B0 w0 n env tmps w S Os) (hn : 0 < n) {r : Nat} {x : AV} (hxr : lk env r = some x) :
  St P F B0 w0 n ((r, .bad) :: env) tmps w S (fun t => if t = r then (fun _ => 0) else Os t) :=
 St.bad (a := { tmps := tmps, defers := [] }) h hn hxr
theorem ydb (hst : St P F B0 w0 n env tmps w S Os) (hn : 0 < n) {r : Nat} {xr : AV} (hr : lk env r = some xr) {v : Value} {x : AV} {O : Own} (hO : ∀ b, O b ≤ Os r b) (hv : Rv P B0 w S n v x O) :
  ∃ n' S' Os' O, Took P F B0 w0 n ((r, .bad) :: env) tmps w S Os v x n' S' Os' O := by
 refine ⟨n, S, _, O, zly _, hv, hst.bad' hn hr, fun _ h => h, fun _ h => .inl h, fun b => by have := hO b; have := hst.one r b; omega, fun b hb => by have := hst.excl b r hb; have := hO b; omega, ?_, fun b hb => ⟨r, by have := hO b; omega⟩, ?_⟩
 ·intro b hb t
  by_cases hne : t = r
  ·rw [if_pos hne]
  ·rw [if_neg hne]
   rcases hst.dis r t b (Ne.symm hne) with h | h
   ·have := hO b; omega
   ·exact h
 ·intro t b
  by_cases hne : t = r
  ·rw [if_pos hne]; exact Nat.zero_le _
  ·rw [if_neg hne]; exact zly _
theorem yit (hst : St P F B0 w0 n env tmps w S Os) (hn : 0 < n) {r : Nat} {xr : AV} (hr : lk env r = some xr) {v : Value} {x : AV} (hv : Rv P B0 w (fun b => S b ∨ 0 < Os r b) n v x (fun _ => 0)) :
  ∃ n' S' Os' O, Took P F B0 w0 n ((r, .bad) :: env) tmps w S Os v x n' S' Os' O := by
 refine ⟨n, fun b => S b ∨ 0 < Os r b, _, fun _ => 0, zly _, hv, (hst.bad' hn hr).share (fun _ h => .inl h) ?_, fun _ h => .inl h, ?_, fun b => Nat.zero_le _, fun b hb => rfl, fun b hb => absurd hb (by simp), fun b hb => absurd hb (by simp), ?_⟩
 ·intro b hb
  rcases hb with hb | hb
  ·exact .inl hb
  ·refine .inr ⟨(St.lt (a := { tmps := tmps, defers := [] }) hst r b hb).2, fun t => ?_⟩
   by_cases hne : t = r
   ·rw [if_pos hne]
   ·rw [if_neg hne]
    rcases hst.dis r t b (Ne.symm hne) with h | h
    ·omega
    ·exact h
 ·intro b hb
  rcases hb with hb | hb
  ·exact .inl hb
  ·exact .inr ⟨r, hb⟩
 ·intro t b
  by_cases hne : t = r
  ·rw [if_pos hne]; exact Nat.zero_le _
  ·rw [if_neg hne]; exact zly _
theorem ydt (hst : St P F B0 w0 n env tmps w S Os) {v : Value} {x : AV} (hv : Rv P B0 w S n v x (fun _ => 0)) : ∃ n' S' Os' O, Took P F B0 w0 n env tmps w S Os v x n' S' Os' O :=
 ⟨n, S, Os, fun _ => 0, zly _, hv, hst, fun _ h => h, fun _ h => .inl h, fun b => Nat.zero_le _, fun b hb => rfl, fun b hb => absurd hb (by simp), fun b hb => absurd hb (by simp), fun _ _ => zly _⟩
theorem ypi (hcx : CxOk P cx) (hst : St P F B0 w0 n env tmps w S Os) (hn : 0 < n) {r : ResultVar} {x : AV} {env' : Env} (h : yl8 cx env r = some (x, env')) :
  ∃ v n' S' Os' O, (ybq tmps r).run P w = .ok v w ∧ Took P F B0 w0 n env' tmps w S Os v x n' S' Os' O := by
 cases r with
 | tmp t =>
  have hres : ∀ {v : Value}, tmps[t]? = some v → (ybq tmps (.tmp t)).run P w = .ok v w := by
   intro v hv
   simp [ybq, zll, hv]
  simp only [yl8] at h
  split at h
  ·rename_i r p rng hlk
   obtain ⟨v, hv, hs⟩ := hst.rel t _ hlk
   rcases hs with ⟨_, ha, _⟩ | hs
   ·obtain ⟨xr, hxr, hrt⟩ := hst.leaf t _ r hlk rfl
    rw [hxr] at h
    simp only at h
    cases hg : getC xr p with
    | none => rw [hg] at h; cases h
    | some z =>
     rw [hg] at h
     simp only at h
     have hpm : p = [] ∨ z.mOwn = true := Classical.byContradiction fun hpm => by rw [if_neg hpm] at h; cases h
     rw [if_pos hpm] at h
     obtain ⟨vr, m, u, Oy, Oq, hvr, hrv, hm, hy, hlv, hOO⟩ := St.at (a := { tmps := tmps, defers := [] }) hst hxr hrt hg
     have sub : ∀ {mm : Mode} {e : TypeId} {cap : Option Nat} {xs : List AV}, z = .sl mm e cap xs → subOk P e rng u v := by
      intro mm e cap xs hz
      subst hz
      obtain ⟨vr', u', e1, e2, e3⟩ := ha xr hxr _ _ _ _ hg (hpm.imp id fun h => by cases mm <;> first | rfl | cases h)
      have e1' : some vr = some vr' := hvr.symm.trans e1
      injection e1' with e1'; subst e1'
      rw [hlv] at e2; injection e2 with e2; subst e2
      exact e3
     split at h
     ·rename_i mm e cap xs
      injection h with h; injection h with h1 h2; subst h1 h2
      have hvu : v = u := sub rfl
      obtain ⟨n1, S1, Os1, O1, ht⟩ := ydb hst hn hxr (fun b => by have := hOO b; omega) (hy.le hm)
      exact ⟨v, n1, S1, Os1, O1, hres hv, by rw [hvu]; exact ht⟩
     ·rename_i k e cap xs _
      split at h
      ·rename_i hk
       injection h with h; injection h with h1 h2; subst h1 h2
       obtain ⟨A, len, kk, A', c', hu', hv', hle', hcc, hkk, hk3, _, hA⟩ := sub rfl
       obtain ⟨m, rfl⟩ := hy.pos
       obtain ⟨O1, hf, hO1⟩ := hy.front hu' k hk
       have hc' : c' = kk := by simp only at hk3; omega
       obtain ⟨n1, S1, Os1, O2, ht⟩ := ydb hst hn hxr (fun b => by have := hOO b; have := hO1 b; omega) (hf.le hm)
       exact ⟨v, n1, S1, Os1, O2, hres hv, by rw [hv', hA rfl, hc']; exact ht⟩
      ·cases h
     ·rename_i rg mm e cap xs _ _
      split at h
      ·rename_i q hq
       injection h with h; injection h with h1 h2; subst h1 h2
       obtain ⟨m, rfl⟩ := hy.pos
       have hsh := Rv.remode (S' := fun b => S b ∨ 0 < Os r b) zqx (fun m => by cases m <;> simp [zqx]) (fun m h => by cases m <;> simp [zqx] at h ⊢) (fun b hb => .inl hb) (m + 1) 12 u _ Oy (fun b hb => .inr (by have := hOO b; omega)) hy
       have hq' := Rv.subSh (mm := zqx mm) (by cases mm <;> simp [zqx]) hsh hq (sub rfl)
       obtain ⟨n1, S1, Os1, O2, ht⟩ := yit hst hn hxr (hq'.le hm)
       exact ⟨v, n1, S1, Os1, O2, hres hv, ht⟩
      ·cases h
     ·cases h
   ·have := hs.noLeaf; cases this
  ·rename_i u hlk
   injection h with h; injection h with h1 h2; subst h1 h2
   obtain ⟨v, hv, hs⟩ := hst.rel t _ hlk
   have hr := hs.rv rfl
   obtain ⟨n1, S1, Os1, O1, ht⟩ := ydt hst (hr.cast fun b => (by obtain ⟨m, rfl⟩ := hr.pos; exact (hr.2 b).symm))
   exact ⟨v, n1, S1, Os1, O1, hres hv, ht⟩
  ·rename_i f cs hlk
   injection h with h; injection h with h1 h2; subst h1 h2
   obtain ⟨v, hv, hs⟩ := hst.rel t _ hlk
   have hr := hs.rv rfl
   obtain ⟨n1, S1, Os1, O1, ht⟩ := ydt hst (hr.cast fun b => (by obtain ⟨m, rfl⟩ := hr.pos; obtain ⟨_, _, hz, _⟩ := hr; exact (hz b).symm))
   exact ⟨v, n1, S1, Os1, O1, hres hv, ht⟩
  ·rename_i mm e cap xs hlk
   injection h with h; injection h with h1 h2; subst h1 h2
   obtain ⟨v, hv, hs⟩ := hst.rel t _ hlk
   obtain ⟨n1, S1, Os1, O1, ht⟩ := ydb hst hn hlk (fun b => zly _) (hs.rv rfl)
   exact ⟨v, n1, S1, Os1, O1, hres hv, ht⟩
  ·rename_i cs hlk
   split at h
   ·rename_i hp
    injection h with h; injection h with h1 h2; subst h1 h2
    obtain ⟨v, hv, hs⟩ := hst.rel t _ hlk
    have hr := hs.rv rfl
    have hz : Zero (Os t) := by obtain ⟨m, rfl⟩ := hr.pos; obtain ⟨_, _, hrc⟩ := hr; exact zrg hrc hp
    obtain ⟨n1, S1, Os1, O1, ht⟩ := ydt hst (hr.cast fun b => (hz b).symm)
    exact ⟨v, n1, S1, Os1, O1, hres hv, ht⟩
   ·cases h
  ·cases h
 | cell t ty =>
  simp only [yl8] at h
  split at h
  ·rename_i cs ti hlk hty
   split at h
   ·rename_i hc
    obtain ⟨hlen, _⟩ := hc
    obtain ⟨v, hv, hs⟩ := hst.rel t _ hlk
    obtain ⟨m, rfl⟩ : ∃ m, n = m + 1 := ⟨n - 1, by omega⟩
    obtain ⟨g, C, T, O', rfl, hb, hg, hrc, hOO⟩ := hs.rv rfl
    have hCl : C.size = ti.zero.length := by rw [← zlr, hrc.length, hlen]
    obtain ⟨l1, l2⟩ := yba (w := w) hcx hty (off := 0) hg (by omega)
    have hall : (C.toList.drop 0).take ti.zero.length = C.toList := by rw [List.drop_zero, ← hCl, ← zlr, List.take_length]
    have hres : ∀ {u : Value}, (Instr.loadAt ty (.pointer (some ⟨g, 0, none⟩))).run P w = .ok u w → (ybq tmps (.cell t ty)).run P w = .ok u w := by
     intro u hu
     simp only [Instr.loadAt, Instr.sureAddr] at hu
     simp [ybq, zll, hv, asAddr]
     simpa using hu
    split at h
    ·rename_i hag
     injection h with h; injection h with h1 h2; subst h1 h2
     have hld := l1 hag
     rw [hall] at hld
     have hown : Rv P B0 w S (m + 1) (.agg C.toList.toArray) (.agg cs) O' := ⟨C.toList.toArray, rfl, by rw [Array.toArray_toList]; exact hrc⟩
     obtain ⟨n1, S1, Os1, O2, ht⟩ := ydb hst hn hlk (fun b => by have := hOO b; omega) hown
     exact ⟨_, n1, S1, Os1, O2, hres hld, ht⟩
    ·rename_i hag
     split at h
     ·rename_i x
      injection h with h; injection h with h1 h2; subst h1 h2
      obtain ⟨u, hu, hr⟩ := hrc.one
      have hld := l2 (by simpa using hag) u (by rw [List.drop_zero, hu]; rfl)
      obtain ⟨n1, S1, Os1, O2, ht⟩ := ydb hst hn hlk (fun b => by have := hOO b; omega) (hr.le (Nat.le_succ m))
      exact ⟨_, n1, S1, Os1, O2, hres hld, ht⟩
     ·cases h
   ·cases h
  ·cases h
end
end Go.Lf
end

section
namespace Go.Lf
open Go Go.RowKit
section
variable {P : Program} {F : Frm} {B0 : Nat} {w0 w w' : World} {S S' S0 : Nat → Prop} {n n' : Nat} {env env' : Env} {a : Act} {tmps : Array Value} {Os : Nat → Own} {cx : Cx} {o : Oper} {eff : Eff} {l : List Nat} {ds : List Deferred} {Q : Exit → Act → World → Prop}
theorem ygp (hcx : CxOk P cx) : ∀ (rs : List ResultVar) {n : Nat} {env : Env} {S : Nat → Prop} {Os : Nat → Own} {xs : List AV}, St P F B0 w0 n env tmps w S Os → 0 < n → ydu cx rs env = some xs →
  ∃ vs n' S' O, (rs.mapM (ybq tmps)).run P w = .ok vs w ∧ Rc (Rv P B0 w S' n') vs xs O ∧ (∀ b, O b ≤ 1) ∧ (∀ b, S' b → O b = 0) ∧ (∀ b, S b → S' b) ∧ (∀ b, S' b → S b ∨ ∃ t, 0 < Os t b) ∧ (∀ b, 0 < O b → ∃ t, 0 < Os t b)
 | [], n, env, S, Os, xs, hst, hn, h => by
  injection h with h; subst h
  exact ⟨[], n, S, fun _ => 0, by simp, .nil fun _ => rfl, fun _ => Nat.zero_le _, fun _ _ => rfl, fun _ h => h, fun _ h => .inl h, fun b hb => absurd hb (by simp)⟩
 | r :: rs, n, env, S, Os, xs, hst, hn, h => by
  simp only [ydu] at h
  cases hr : yl8 cx env r with
  | none => rw [hr] at h; cases h
  | some xe =>
   obtain ⟨x, env1⟩ := xe
   rw [hr] at h
   simp only at h
   cases hq : ydu cx rs env1 with
   | none => rw [hq] at h; cases h
   | some ys =>
    rw [hq] at h
    injection h with h; subst h
    obtain ⟨v, n1, S1, Os1, O1, hrun, tk⟩ := ypi hcx hst hn hr
    obtain ⟨vs, n2, S2, O2, hruns, hrc, h1, h2, h3, h4, h5⟩ := ygp hcx rs tk.st (by have := tk.nn; omega) hq
    have hdis : ∀ b, 0 < O1 b → O2 b = 0 := by
     intro b hb
     rcases zlt (O2 b) with h | h
     ·exact h
     ·obtain ⟨t, ht⟩ := h5 b h
      have := tk.apart b hb t; omega
    have hdS : ∀ b, S2 b → O1 b = 0 := by
     intro b hb
     rcases h4 b hb with h | ⟨t, ht⟩
     ·exact tk.excl b h
     ·rcases zlt (O1 b) with h | h
      ·exact h
      ·have := tk.apart b h t; omega
    refine ⟨v :: vs, max n1 n2, S2, fun b => O1 b + O2 b, ?_, .cons ((Rv.frame h3 (fun _ _ => rfl) _ _ _ _ (fun _ _ => rfl) tk.rv).le (Nat.le_max_left _ _)) (hrc.le (Nat.le_max_right _ _)) fun _ => rfl, ?_, ?_, fun b hb => h3 b (tk.sub b hb), ?_, ?_⟩
    ·simp only [List.mapM_cons, Sem.run_bind, hrun, Result.andThen_ok, hruns, Sem.run_pure]
    ·intro b
     show O1 b + O2 b ≤ 1
     have := tk.one b; have := h1 b
     rcases zlt (O1 b) with h | h
     ·omega
     ·have := hdis b h; omega
    ·intro b hb
     show O1 b + O2 b = 0
     have := hdS b hb; have := h2 b hb; omega
    ·intro b hb
     rcases h4 b hb with h | ⟨t, ht⟩
     ·exact tk.new b h
     ·exact .inr ⟨t, by have := tk.le t b; omega⟩
    ·intro b hb
     have hb' : 0 < O1 b + O2 b := hb
     rcases zlt (O1 b) with h | h
     ·obtain ⟨t, ht⟩ := h5 b (by omega)
      exact ⟨t, by have := tk.le t b; omega⟩
     ·exact tk.src b h
theorem yrq : ∀ (xs : List AV) (s t : Nat), lk ((List.range' s xs.length).zip xs) t = if s ≤ t then xs[t - s]? else none
 | [], s, t => by simp [lk]
 | x :: xs, s, t => by
  simp only [List.length_cons, List.range'_succ, List.zip_cons_cons, lk]
  by_cases h : s = t
  ·subst h; simp
  ·rw [if_neg h, yrq xs (s + 1) t]
   by_cases hl : s ≤ t
   ·rw [if_pos (by omega), if_pos hl]
    have : t - s = (t - (s + 1)) + 1 := by omega
    rw [this, List.getElem?_cons_succ]
   ·rw [if_neg (by omega), if_neg hl]
theorem yj9 (xs : List AV) (t : Nat) : lk (yc8 xs) t = xs[t]? := by
 have := yrq xs 0 t
 simpa [yc8, List.range_eq_range'] using this
theorem St.enter {args : List Value} {xs : List AV} (hS : ∀ b, S b → b < w.heap.size) (h : Rc (Rv P w.heap.size w S n) args xs (fun _ => 0)) {k : Nat} :
  St P ⟨fun _ => False, 0, #[]⟩ w.heap.size w n (yc8 xs) (args.toArray ++ Array.replicate k undef) w S (fun _ _ => 0) := by
 have hrel : ∀ t x, lk (yc8 xs) t = some x → ∃ v, (args.toArray ++ Array.replicate k undef)[t]? = some v ∧ Rv P w.heap.size w S n v x (fun _ => 0) := by
  intro t x hx
  rw [yj9] at hx
  obtain ⟨v, O1, hv, hr, hO⟩ := h.get hx
  have htl : t < args.length := (zlk.1 hv).1
  refine ⟨v, ?_, hr.cast fun b => by have := hO b; simp at this; omega⟩
  rw [Array.getElem?_append_left (by simpa using htl)]
  simpa using hv
 refine ⟨Below.refl _ _, zly _, hS, fun _ _ _ => rfl, fun _ _ => Nat.zero_le _, fun _ _ _ _ => .inl rfl, ?_, fun _ _ _ => rfl, ?_, fun _ h => h.elim, fun _ h => absurd h (Nat.not_lt_zero _)⟩
 ·intro t x hx
  obtain ⟨v, hv, hr⟩ := hrel t x hx
  exact ⟨v, hv, .inr hr⟩
 ·intro t x r hx hr
  obtain ⟨v, hv, hrv⟩ := hrel t x hx
  have := hrv.noLeaf
  rw [this] at hr; cases hr
theorem pureC (hcx : CxOk P cx) {f : FuncId} {fn : Func} {H : Hints} {fuel : Nat} {xs : List AV} {r : AV} (hf : P.funcs[f]? = some fn) (hname : (fn.name == "runtime.NumGoroutine") = false) (hlen : xs.length ≤ cx.N) (hlo : cx.lo = 0)
  (h : yok cx H fuel fn xs = some r) : PureC P f xs r := by
 unfold yok at h
 cases hb : fn.body with
 | none => rw [hb] at h; cases h
 | some c =>
  rw [hb] at h
  simp only at h
  split at h
  ·rename_i hN
   refine ⟨?_, ?_⟩
   ·intro args w
    have hn' : ¬ (fn.name = "runtime.NumGoroutine") := by simpa using hname
    simp [callFunc, hf, hn', hb]
   ·intro w S args n hS hargs
    have hal : args.length = xs.length := hargs.length
    have hargs' : Rc (Rv P w.heap.size w S (n + 1)) args xs (fun _ => 0) := hargs.le (Nat.le_succ n)
    refine calls_of_wp hf hb ?_
    have hst := St.enter hS hargs' (k := fn.ntmps - args.toArray.size)
    have hag : Agree P ⟨fun _ => False, 0, #[]⟩ w.heap.size w S cx [] (yc8 xs) { tmps := args.toArray ++ Array.replicate (fn.ntmps - args.toArray.size) undef, defers := [] } w := by
     refine ⟨rfl, ⟨?_, hlo.symm⟩, n + 1, S, _, Nat.succ_pos n, .refl _ _, hst⟩
     simp; omega
    cases he : evC cx H fuel c (yc8 xs) with
    | none => rw [he] at h; simp [finE] at h
    | some xe =>
     obtain ⟨ex, env'⟩ := xe
     rw [he] at h
     have fin : ∀ a' w', Agree P ⟨fun _ => False, 0, #[]⟩ w.heap.size w S cx [] env' a' w' → (ydu cx fn.results.toList env').map tupR = some r → a'.defers = [] ∧ ∃ v, (results fn a'.tmps).run P w' = .ok v w' ∧
       ∃ v' n' S' O, Ending.returned v = .returned v' ∧ Below w.heap.size w w' ∧ Rv P w.heap.size w' S' n' v' r O ∧ (∀ b, O b ≤ 1) ∧
        (∀ b, S' b → (S b ∨ w.heap.size ≤ b) ∧ b < w'.heap.size) ∧ (∀ b, S' b → O b = 0) ∧ (∀ b, S b → S' b) := by
      intro a' w' ⟨hd, hN', n1, S1, Os1, hn1, hgr, hst1⟩ ht
      refine ⟨hd, ?_⟩
      cases hq : ydu cx fn.results.toList env' with
      | none => rw [hq] at ht; cases ht
      | some ys =>
       rw [hq] at ht
       injection ht with ht
       obtain ⟨vs, n2, S2, O, hrun, hrc, h1, h2, h3, h4, h5⟩ := ygp hcx _ hst1 hn1 hq
       have hres : (results fn a'.tmps).run P w' = .ok (if h : vs.toArray.size = 1 then vs.toArray[0] else .tuple vs.toArray) w' := by
        have e2 : (fn.results.mapM (ybq a'.tmps)).run P w' = .ok vs.toArray w' := by
         rw [Array.mapM_eq_mapM_toList, Sem.run_map, hrun]
         simp
        have e4 : results fn a'.tmps = (do let vs ← fn.results.mapM (ybq a'.tmps); pure (if h : vs.size = 1 then vs[0] else .tuple vs)) := by
         unfold results
         congr 1
        rw [e4, Sem.run_bind, e2]
        simp
       refine ⟨_, hres, _, n2 + 1, S2, O, rfl, hst1.below, ?_, h1, ?_, h2, fun b hb => h3 b (hgr.1 b hb)⟩
       ·match ys, hrc, ht with
        | [y], hrc, ht =>
         obtain ⟨v, rfl, hv⟩ := hrc.one
         have : r = y := ht.symm
         subst this
         exact hv.le (Nat.le_succ n2)
        | [], hrc, ht =>
         have : r = .tup [] := ht.symm
         subst this
         have hl := hrc.length
         have hvs : vs = [] := zli hl
         subst hvs
         exact ⟨#[], rfl, hrc⟩
        | y1 :: y2 :: ys, hrc, ht =>
         have : r = .tup (y1 :: y2 :: ys) := ht.symm
         subst this
         have hl := hrc.length
         simp only [List.length_cons] at hl
         rw [dif_neg (by simp; omega)]
         exact ⟨vs.toArray, rfl, hrc⟩
       ·intro b hb
        rcases h4 b hb with h | ⟨t, ht⟩
        ·exact ⟨hgr.2 b h, hst1.sLt b h⟩
        ·have := hst1.lt t b ht
         exact ⟨.inr this.1, this.2⟩
     refine yr3 (ywn hcx) H fuel c he hag fun a' w' hag' => ?_
     cases ex with
     | normal => exact fin a' w' hag' h
     | ret => exact fin a' w' hag' h
     | exit id => simp [finE] at h
  ·cases h
theorem Rc.mono' {R R' : Value → AV → Own → Prop} {vs : List Value} {xs : List AV} {O : Own} (h : Rc R vs xs O) (hR : ∀ v x O1, x ∈ xs → R v x O1 → R' v x O1) : Rc R' vs xs O := by
 induction h with
 | nil hz => exact .nil hz
 | cons h1 _ hO ih => exact .cons (hR _ _ _ (by simp) h1) (ih fun v x O1 hx hr => hR v x O1 (by simp [hx]) hr) hO
def yqn (cx : Cx) (H : Hints) (fuel : Nat) (fn : Func) (x : AV) : Option AV :=
 match fn.body with
 | some c => if fn.ntmps = cx.N ∧ fn.results = #[] then
   (match evC cx H fuel c [(0, x)] with
   | some (.normal, env) => lk env 0
   | some (.ret, env) => lk env 0
   | _ => none)
  else none
 | none => none
theorem mutC (hcx : CxOk P cx) {f : FuncId} {fn : Func} {H : Hints} {fuel : Nat} {e : TypeId} {cap : Option Nat} {xs ys : List AV} (hf : P.funcs[f]? = some fn) (hname : (fn.name == "runtime.NumGoroutine") = false) (hlen : 1 ≤ cx.N) (hlo : cx.lo = 1)
  (hy : ∀ y ∈ flat ys, ∃ v, y = .atom v) (h : yqn cx H fuel fn (.sl .own e cap xs) = some (.sl .own e cap ys)) : MutC P f (.sl .own e cap xs) (.sl .own e cap ys) := by
 unfold yqn at h
 cases hb : fn.body with
 | none => rw [hb] at h; cases h
 | some c =>
  rw [hb] at h
  simp only at h
  split at h
  ·rename_i hN
   refine ⟨?_, ?_⟩
   ·intro args w
    have hn' : ¬ (fn.name = "runtime.NumGoroutine") := by simpa using hname
    simp [callFunc, hf, hn', hb]
   ·intro B0 w S v n O hB0 hS hO1 hrv
    refine calls_of_wp hf hb ?_
    have hsl0 : ∀ k, (#[v] ++ Array.replicate k undef)[0]? = some v := fun k => by rw [Array.getElem?_append_left (by simp)]; rfl
    have hlt := Rv.owned n v _ O hrv
    have hst : St P ⟨fun b => b < w.heap.size ∧ O b = 0, 1, #[v]⟩ B0 w (n + 1) [(0, .sl .own e cap xs)] (#[v] ++ Array.replicate (fn.ntmps - 1) undef) w (fun b => b < w.heap.size ∧ O b = 0) (fun t => if t = 0 then O else fun _ => 0) := by
     refine ⟨Below.refl _ _, hB0, fun b hb => hb.1, ?_, ?_, ?_, ?_, ?_, ?_, fun b hb => ⟨hb, rfl⟩, ?_⟩
     ·intro b t hb
      by_cases ht : t = 0 <;> simp [ht, hb.2]
     ·intro t b
      by_cases ht : t = 0 <;> simp [ht, hO1 b]
     ·intro t t' b hne
      by_cases ht : t = 0
      ·right; rw [if_neg (by omega)]
      ·left; rw [if_neg ht]
     ·intro t x hx
      simp only [lk] at hx
      split at hx
      ·rename_i ht
       subst ht
       injection hx with hx; subst hx
       refine ⟨v, hsl0 _, .inr ?_⟩
       rw [if_pos rfl]
       exact (Rv.frame (fun b hb => hS b hb) (fun _ _ => rfl) _ _ _ _ (fun _ _ => rfl) hrv).le (Nat.le_succ n)
      ·cases hx
     ·intro t ht b
      simp only [lk] at ht
      split at ht
      ·cases ht
      ·rename_i h0; rw [if_neg (Ne.symm h0)]
     ·intro t x r hx hr
      simp only [lk] at hx
      split at hx
      ·injection hx with hx; subst hx; cases hr
      ·cases hx
     ·intro t ht
      have : t = 0 := by have ht' : t < 1 := ht; omega
      subst this
      exact hsl0 _
    have hag : Agree P ⟨fun b => b < w.heap.size ∧ O b = 0, 1, #[v]⟩ B0 w (fun b => b < w.heap.size ∧ O b = 0) cx [] [(0, .sl .own e cap xs)] { tmps := #[v] ++ Array.replicate (fn.ntmps - 1) undef, defers := [] } w := by
     refine ⟨rfl, ⟨?_, hlo.symm⟩, n + 1, _, _, Nat.succ_pos n, .refl _ _, hst⟩
     have := hN.1
     simp; omega
    cases he : evC cx H fuel c [(0, .sl .own e cap xs)] with
    | none => rw [he] at h; cases h
    | some xe =>
     obtain ⟨ex, env'⟩ := xe
     rw [he] at h
     have fin : ∀ a' w', Agree P ⟨fun b => b < w.heap.size ∧ O b = 0, 1, #[v]⟩ B0 w (fun b => b < w.heap.size ∧ O b = 0) cx [] env' a' w' → lk env' 0 = some (.sl .own e cap ys) → a'.defers = [] ∧ ∃ rv, (results fn a'.tmps).run P w' = .ok rv w' ∧
       ∃ n' O', Ending.returned rv = .returned (.tuple #[]) ∧ Below B0 w w' ∧ (∀ b, b < w.heap.size → O b = 0 → w'.heap[b]? = w.heap[b]?) ∧ Rv P B0 w' S n' v (.sl .own e cap ys) O' ∧ (∀ b, O' b ≤ 1) ∧
        (∀ b, 0 < O' b → 0 < O b ∨ w.heap.size ≤ b) := by
      intro a' w' ⟨hd, hN', n1, S1, Os1, hn1, hgr, hst1⟩ ht
      refine ⟨hd, .tuple #[], ?_, ?_⟩
      ·simp [results, hN.2]
      ·obtain ⟨v1, hv1, hs1⟩ := hst1.rel 0 _ ht
       have hpin := hst1.pin 0 (by show 0 < 1; omega)
       rw [hv1] at hpin
       simp at hpin
       subst hpin
       have hr1 := hs1.rv rfl
       obtain ⟨m, rfl⟩ := hr1.pos
       obtain ⟨vs, O2, ho, hcap, hu, hrc, hOO⟩ := hr1
       refine ⟨m + 1, Os1 0, rfl, hst1.below, fun b hb h0 => (hst1.keep b ⟨hb, h0⟩).2, ⟨vs, O2, ho, hcap, hu, ?_, hOO⟩, hst1.one 0, ?_⟩
       ·refine hrc.mono' ?_
        intro u x O3 hx hr
        obtain ⟨q, rfl⟩ := hy x hx
        obtain ⟨k, rfl⟩ := hr.pos
        exact hr
       ·intro b hb
        rcases Nat.lt_or_ge b w.heap.size with h2 | h2
        ·left
         rcases zlt (O b) with h3 | h3
         ·have := hst1.excl b 0 (hgr.1 b ⟨h2, h3⟩); omega
         ·exact h3
        ·exact .inr h2
     refine yr3 (ywn hcx) H fuel c he hag fun a' w' hag' => ?_
     cases ex with
     | normal => exact fin a' w' hag' h
     | ret => exact fin a' w' hag' h
     | exit id => cases h
  ·cases h
end
def TyAll (P : Program) : yft → Prop
 | [] => True
 | (t, i) :: T => TyOk P t i ∧ TyAll P T
theorem TyAll.get {P : Program} : ∀ {T : yft}, TyAll P T → ∀ t i, tyF T t = some i → TyOk P t i
 | [], _, t, i, h => by cases h
 | (k, j) :: T, hT, t, i, h => by
  simp only [tyF] at h
  split at h
  ·rename_i e
   subst e
   injection h with h; subst h
   exact hT.1
  ·exact TyAll.get hT.2 t i h
end Go.Lf
end

section
namespace Go.Lf
open Go Go.RowKit
def frcN {β : Type} (n : Nat) (k : Nat → β) : β := match n with
 | 0 => k 0
 | m + 1 => k (m + 1)
theorem ydz {β : Type} (n : Nat) (k : Nat → β) : frcN n k = k n := by cases n <;> rfl
def frcI {β : Type} (n : Int) (k : Int → β) : β := match n with
 | .ofNat m => frcN m fun m => k (.ofNat m)
 | .negSucc m => frcN m fun m => k (.negSucc m)
theorem yud {β : Type} (n : Int) (k : Int → β) : frcI n k = k n := by cases n <;> simp [frcI, ydz]
def frcV {β : Type} (v : Value) (k : Value → β) : β := match v with
 | .int q n => frcI n fun n => k (.int q n)
 | .bool true => k (.bool true)
 | .bool false => k (.bool false)
 | v => k v
theorem yt8 {β : Type} (v : Value) (k : Value → β) : frcV v k = k v := by
 unfold frcV; split <;> first | rfl | exact yud _ _
def frcO {β : Type} (c : Option Nat) (k : Option Nat → β) : β := match c with
 | none => k none
 | some n => frcN n fun n => k (some n)
theorem yn4 {β : Type} (c : Option Nat) (k : Option Nat → β) : frcO c k = k c := by cases c <;> simp [frcO, ydz]
def frcL {α β : Type} (f : α → (α → β) → β) : List α → (List α → β) → β
 | [], k => k []
 | x :: l, k => f x fun x => frcL f l fun l => k (x :: l)
theorem yfa {α β : Type} (f : α → (α → β) → β) (hf : ∀ x k, f x k = k x) : ∀ (l : List α) (k : List α → β), frcL f l k = k l
 | [], _ => rfl
 | x :: l, k => by simp only [frcL, hf, yfa f hf l]
def frcP {β : Type} (q : Nat × Nat) (k : Nat × Nat → β) : β := match q with
 | (a, b) => frcN a fun a => frcN b fun b => k (a, b)
theorem yub {β : Type} (q : Nat × Nat) (k : Nat × Nat → β) : frcP q k = k q := by obtain ⟨a, b⟩ := q; simp [frcP, ydz]
def frcR {β : Type} (q : Option (Nat × Nat × Option Nat)) (k : Option (Nat × Nat × Option Nat) → β) : β := match q with
 | none => k none
 | some (a, b, c) => frcN a fun a => frcN b fun b => frcO c fun c => k (some (a, b, c))
theorem yua {β : Type} (q : Option (Nat × Nat × Option Nat)) (k : Option (Nat × Nat × Option Nat) → β) : frcR q k = k q := by
 unfold frcR; split <;> simp [ydz, yn4]
def frcM {β : Type} (m : Mode) (k : Mode → β) : β := match m with
 | .own => k .own
 | .fresh => k .fresh
 | .any => k .any
theorem yuc {β : Type} (m : Mode) (k : Mode → β) : frcM m k = k m := by cases m <;> rfl
def frc {β : Type} : Nat → AV → (AV → β) → β
 | 0, x, k => k x
 | n + 1, x, k => match x with
  | .atom v => frcV v fun v => k (.atom v)
  | .bad => k .bad
  | .agg cs => frcL (frc n) cs fun cs => k (.agg cs)
  | .tup cs => frcL (frc n) cs fun cs => k (.tup cs)
  | .sl m e c xs => frcM m fun m => frcN e fun e => frcO c fun c => frcL (frc n) xs fun xs => k (.sl m e c xs)
  | .box cs => frcL (frc n) cs fun cs => k (.box cs)
  | .al r p q => frcN r fun r => frcL frcP p fun p => frcR q fun q => k (.al r p q)
  | .adr r p i c => frcN r fun r => frcL frcP p fun p => frcN i fun i => frcN c fun c => k (.adr r p i c)
  | .cp r => frcN r fun r => k (.cp r)
  | .vadr cs c => frcL (frc n) cs fun cs => frcN c fun c => k (.vadr cs c)
  | .fn f cs => frcN f fun f => frcL (frc n) cs fun cs => k (.fn f cs)
  | .mp g E => k (.mp g E)
theorem yie {β : Type} : ∀ (n : Nat) (x : AV) (k : AV → β), frc n x k = k x
 | 0, _, _ => rfl
 | n + 1, x, k => by
  have ih := yfa (β := β) (frc n) (fun x k => yie n x k)
  cases x <;> simp only [frc, yt8, yuc, ydz, yn4, yua, ih, yfa frcP yub]
def frcT {β : Type} (q : Nat × AV) (k : Nat × AV → β) : β := match q with
 | (t, x) => frcN t fun t => frc 12 x fun x => k (t, x)
theorem yt9 {β : Type} (q : Nat × AV) (k : Nat × AV → β) : frcT q k = k q := by obtain ⟨a, b⟩ := q; simp [frcT, ydz, yie]
def frcE {β : Type} (env : Env) (k : Env → β) : β := frcL frcT env k
theorem yg9 {β : Type} (env : Env) (k : Env → β) : frcE env k = k env := yfa frcT yt9 env k
def ykn {β : Type} (cx : Cx) (ops : Array Oper) : List Oper → Env → (List Log → Env → Option β) → Option β
 | [], env, k => k [] env
 | o :: l, env, k => (ybk cx ops o).runK env fun rs e => frcE (zqi e env) fun env' => ykn cx ops l env' fun ls env2 => k (yaw env rs e :: ls) env2
theorem yim {β : Type} (cx : Cx) (ops : Array Oper) : ∀ (l : List Oper) (env : Env) (k : List Log → Env → Option β), ykn cx ops l env k = yf9 cx ops l env k
 | [], _, _ => rfl
 | o :: l, env, k => by
  simp only [ykn, yf9, yg9]
  congr 1
  funext rs e
  exact yim cx ops l _ _
def yil {β : Type} (cx : Cx) (ops : Array Oper) (draw : Bool) (env : Env) (k : Env → Option β) : Option β :=
 ykn { cx with dr := draw } ops ops.toList env fun ls env' => if draw then (if ycr (ycq ops.toList) ls && yd3 ops.toList then k env' else none) else k env'
def evF {β : Type} (cx : Cx) (H : Hints) (fuel : Nat) : Code → Env → (Ex → Env → Option β) → Option β
 | .skip, env, k => k .normal env
 | .label _, env, k => k .normal env
 | .region id ops draw, env, k => yil cx ops draw env fun env' => frcE (keepE ((H.live id).map fun t => (t, .keep)) env') fun env' => k .normal env'
 | .seq a b, env, k => evF cx H fuel a env fun ex env' => match ex with
  | .normal => evF cx H fuel b env' k
  | ex => k ex env'
 | .cond (.tmp t) x y, env, k => match lk env t with
  | some (.atom (.bool b)) => if b = true then evF cx H fuel x env k else evF cx H fuel y env k
  | _ => none
 | .block id c, env, k => evF cx H fuel c env fun ex env' => match ex with
  | .exit id' => if id' = id then k .normal env' else k (.exit id') env'
  | ex => k ex env'
 | .loop c, env, k => yia (keepE (H.loop (ybv c))) (fun env k => frcE env fun env => evF cx H fuel c env k) fuel env k
 | .exit id, env, k => k (.exit id) env
 | .ret, env, k => k .ret env
 | _, _, _ => none
theorem ye6 {β : Type} (nrm : Env → Env) {f g : Env → (Ex → Env → Option β) → Option β} (h : ∀ env k, f env k = g env k) : ∀ (n : Nat) (env : Env) (k : Ex → Env → Option β), yia nrm f n env k = yia nrm g n env k
 | 0, _, _ => rfl
 | n + 1, env, k => by
  simp only [yia, h]
  congr 1
  funext ex env'
  cases ex <;> first | exact ye6 nrm h n env' k | rfl
theorem yr2 {β : Type} (cx : Cx) (H : Hints) (fuel : Nat) : ∀ (c : Code) (env : Env) (k : Ex → Env → Option β), evF cx H fuel c env k = evK cx H fuel c env k := by
 intro c
 induction c with
 | region id ops draw =>
  intro env k
  simp only [evF, evK, yil, ydo, yim, yg9]
 | seq a b iha ihb =>
  intro env k
  simp only [evF, evK, iha]
  congr 1
  funext ex env'
  cases ex <;> first | exact ihb env' k | rfl
 | cond c x y ihx ihy =>
  intro env k
  cases c with
  | tmp t =>
   simp only [evF, evK]
   cases lk env t with
   | none => rfl
   | some z =>
    cases z with
    | atom v =>
     cases v with
     | bool b => simp only [yu2, ihx, ihy]
     | _ => rfl
    | _ => rfl
  | _ => rfl
 | block id c ih =>
  intro env k
  simp only [evF, evK, ih]
  rfl
 | loop c ih =>
  intro env k
  simp only [evF, evK]
  exact ye6 _ (fun env k => by rw [yg9]; exact ih env k) _ _ _
 | _ => intros; rfl
def yoj (cx : Cx) (H : Hints) (fuel : Nat) (fn : Func) (args : List AV) : Option AV :=
 match fn.body with
 | some c => if fn.ntmps = cx.N then evF cx H fuel c (yc8 args) fun ex env => frcE env fun env => (finK cx fn.results.toList ex env).bind fun r => frc 12 r some else none
 | none => none
theorem yoi (cx : Cx) (H : Hints) (fuel : Nat) (fn : Func) (args : List AV) : yoj cx H fuel fn args = yok cx H fuel fn args := by
 rw [← yog]
 unfold yoj yoh
 cases fn.body with
 | none => rfl
 | some c =>
  simp only [yr2, yg9, yie]
  congr 2
  funext ex env
  cases finK cx fn.results.toList ex env <;> rfl
end Go.Lf
end

section
namespace Go.Lf
open Go Go.RowKit
structure Tab where
 T : yft
 eqT : TypeId → List Value → List Value → Option Bool
 K : FuncId → List AV → Option AV
 KM : FuncId → AV → Option AV
 fns : FuncId → Option (Func × Hints)
 muts : FuncId → Option (Func × Hints)
 fuel : Nat
def ynr : AV → Bool
 | .atom _ => true
 | _ => false
def yof (cx : Cx) (H : Hints) (fuel : Nat) (fn : Func) (x : AV) : Option AV :=
 match fn.body with
 | some c => if fn.ntmps = cx.N ∧ fn.results = #[] then
   frc 12 x fun x => evF cx H fuel c [(0, x)] fun ex env => match ex with
   | .normal => lk env 0
   | .ret => lk env 0
   | _ => none
  else none
 | none => none
theorem yoe (cx : Cx) (H : Hints) (fuel : Nat) (fn : Func) (x : AV) : yof cx H fuel fn x = yqn cx H fuel fn x := by
 unfold yof yqn
 cases fn.body with
 | none => rfl
 | some c =>
  simp only [yr2, yr1, yie]
  congr 1
  cases evC cx H fuel c [(0, x)] with
  | none => rfl
  | some r =>
   obtain ⟨ex, env⟩ := r
   cases ex <;> rfl
mutual
def Tab.run (tab : Tab) : Nat → FuncId → List AV → Option AV
 | 0, f, xs => tab.K f xs
 | d + 1, f, xs => match tab.K f xs with
  | some r => some r
  | none => match tab.fns f with
   | some (fn, H) => if xs.length ≤ fn.ntmps ∧ (fn.name == "runtime.NumGoroutine") = false then frcL (frc 12) xs fun xs => yoj ⟨tab.T, tab.run d, tab.runM d, tab.eqT, fn.ntmps, 0, false⟩ H tab.fuel fn xs else none
   | none => none
def Tab.runM (tab : Tab) : Nat → FuncId → AV → Option AV
 | 0, f, x => tab.KM f x
 | d + 1, f, x => match tab.KM f x with
  | some r => some r
  | none => match tab.muts f, x with
   | some _, .bad => some .bad
   | some (fn, H), .sl .own e cap xs => if 1 ≤ fn.ntmps ∧ (fn.name == "runtime.NumGoroutine") = false then
     (match yof ⟨tab.T, tab.run d, tab.runM d, tab.eqT, fn.ntmps, 1, false⟩ H tab.fuel fn (.sl .own e cap xs) with
     | some (.sl .own e' cap' ys) => if e' = e ∧ cap' = cap ∧ (flat ys).all ynr = true then some (.sl .own e cap ys) else none
     | _ => none)
    else none
   | _, _ => none
end
structure TabOk (P : Program) (tab : Tab) : Prop where
 ty : ∀ t i, tyF tab.T t = some i → TyOk P t i
 eq : ∀ t us vs r, tab.eqT t us vs = some r → ∀ (w : World) (x y : Operand),
  (do eqGuard .eql t x y (.agg us.toArray) (.agg vs.toArray); binOp .eql t (.agg us.toArray) (.agg vs.toArray) : Sem Value).run P w = .ok (.bool r) w ∧
  (do eqGuard .neq t x y (.agg us.toArray) (.agg vs.toArray); binOp .neq t (.agg us.toArray) (.agg vs.toArray) : Sem Value).run P w = .ok (.bool (!r)) w
 K : ∀ f xs r, tab.K f xs = some r → PureC P f xs r
 KM : ∀ f x r, tab.KM f x = some r → x ≠ .bad → MutC P f x r
 mixed : P.follows .mixedOrders = true
 fns : ∀ f fn H, tab.fns f = some (fn, H) → P.funcs[f]? = some fn
 muts : ∀ f fn H, tab.muts f = some (fn, H) → P.funcs[f]? = some fn
theorem Tab.ok {P : Program} {tab : Tab} (h : TabOk P tab) : ∀ d, (∀ f xs r, tab.run d f xs = some r → PureC P f xs r) ∧ (∀ f x r, tab.runM d f x = some r → x ≠ .bad → MutC P f x r)
 | 0 => ⟨fun f xs r hr => h.K f xs r (by simpa [Tab.run] using hr), fun f x r hr hx => h.KM f x r (by simpa [Tab.runM] using hr) hx⟩
 | d + 1 => by
  obtain ⟨ih1, ih2⟩ := Tab.ok h d
  have hcx : ∀ n lo, CxOk P ⟨tab.T, tab.run d, tab.runM d, tab.eqT, n, lo, false⟩ := fun n lo => ⟨h.ty, h.eq, ih1, ih2, h.mixed⟩
  constructor
  ·intro f xs r hr
   unfold Tab.run at hr
   split at hr
   ·rename_i r' hk
    injection hr with hr; subst hr
    exact h.K f xs _ hk
   ·split at hr
    ·rename_i fn H hf
     split at hr
     ·rename_i hc
      rw [yfa _ (yie 12), yoi] at hr
      exact pureC (hcx fn.ntmps 0) (h.fns f fn H hf) hc.2 hc.1 rfl hr
     ·cases hr
    ·cases hr
  ·intro f x r hr hx
   unfold Tab.runM at hr
   split at hr
   ·rename_i r' hk
    injection hr with hr; subst hr
    exact h.KM f x _ hk hx
   ·split at hr
    ·exact absurd rfl hx
    ·rename_i fn H e cap xs hf _
     split at hr
     ·rename_i hc
      rw [yoe] at hr
      split at hr
      ·rename_i e' cap' ys he
       split at hr
       ·rename_i h3
        obtain ⟨rfl, rfl, h4⟩ := h3
        injection hr with hr; subst hr
        refine mutC (hcx fn.ntmps 1) (h.muts f fn H hf) hc.2 hc.1 rfl ?_ he
        intro y hy
        have := zls.1 h4 y hy
        cases y <;> first | exact ⟨_, rfl⟩ | simp [ynr] at this
       ·cases hr
      ·cases hr
     ·cases hr
    ·cases hr
end Go.Lf
end

section
namespace Go.Lf
open Go Go.RowKit
def yir : TypeDesc → Bool
 | .struct _ => true
 | .array _ _ => true
 | _ => false
def yns : Value → Bool
 | .agg _ => true
 | _ => false
def yrv (P : Program) : TypeDesc → Option TK
 | .bool => some .bool
 | .map k e => some (.map k e)
 | .int k => some (.int k)
 | .string => some .str
 | .slice e => some (.slice e)
 | .array m e => some (.array m e)
 | .struct f => match f.toList.mapM (fun x => (P.info? x.type).map fun i => (x.offset, i.size)) with
  | some fs => if f.toList.map (fun x => (x.offset, P.cellsOf x.type)) = fs then some (.struct fs) else none
  | none => none
 | _ => some .plain
def yiw (P : Program) (t : TypeId) : Option TInfo :=
 match P.info? t, P.underlying t with
 | some j, some d => match j.zero, yrv P d with
  | some z, some k =>
   if j.size = z.cells.toList.length ∧ z.cells.toList.all Value.oneCell' = true ∧ (yir d = false → z.cells.toList.length = 1) ∧ (yir d = true → yns z = true) then
    some ⟨z.cells.toList, j.bytes, yir d, k⟩
   else none
  | _, _ => none
 | _, _ => none
theorem yld {P : Program} {t : TypeId} {i : TInfo} (h : yiw P t = some i) : TyOk P t i := by
 unfold yiw at h
 split at h
 case h_2 => cases h
 rename_i j d hj hd
 split at h
 case h_2 => cases h
 rename_i z k hz hk
 by_cases hc : j.size = z.cells.toList.length ∧ z.cells.toList.all Value.oneCell' = true ∧ (yir d = false → z.cells.toList.length = 1) ∧ (yir d = true → yns z = true)
 case neg => rw [if_neg hc] at h; cases h
 rw [if_pos hc] at h
 injection h with h; subst h
 obtain ⟨h1, h2, h3, h4⟩ := hc
 refine ⟨⟨j, z, d, hj, hz, rfl, h1, rfl, hd, ?_, ?_, ?_⟩, h2, h3⟩
 ·cases d <;> rfl
 ·intro ha
  have := h4 ha
  cases z <;> first | (simp [yns] at this; done) | simp [Value.cells]
 ·cases d <;> simp only [yrv] at hk <;> first | (injection hk with hk; subst hk; first | rfl | trivial) | skip
  rename_i f
  split at hk
  case h_2 => cases hk
  rename_i fs hf
  split at hk
  case isFalse => cases hk
  rename_i he
  injection hk with hk; subst hk
  exact ⟨f, rfl, he, hf⟩
theorem yl1 {P : Program} : ∀ {T : yft}, T.map (fun p => yiw P p.1) = T.map (fun p => some p.2) → ∀ t i, tyF T t = some i → TyOk P t i
 | [], _, t, i, h => by cases h
 | (k, j) :: T, hT, t, i, h => by
  simp only [List.map_cons, List.cons.injEq] at hT
  simp only [tyF] at h
  split at h
  ·rename_i e
   subst e
   injection h with h; subst h
   exact yld hT.1
  ·exact yl1 hT.2 t i h
end Go.Lf
end

section
namespace Go.Lf
open Go Go.RowKit
inductive Ans where
 | c
 | b (v : Bool)
 | r (x : AV)
 | lp (ex : Ex) (env : Env)
 | cut (ex : Ex) (env : Env)
def RP.runA {α : Type} (env : Env) : RP α → List Ans → Option ((List Nat × α) × List Ans × List Prop)
 | .ret a, as => some (([], a), as, [])
 | .fail, _ => none
 | .read t k, as => match (k (lk env t)).runA env as with
  | some ((l, a), as, ps) => some ((2 * t :: l, a), as, ps)
  | none => none
 | .head t k, as => match (k ((lk env t).map hdAV)).runA env as with
  | some ((l, a), as, ps) => some (((2 * t + 1) :: l, a), as, ps)
  | none => none
 | .br b p q, .c :: as => if b = true then p.runA env as else q.runA env as
 | .br b p q, .b v :: as => match (if v = true then p.runA env as else q.runA env as) with
  | some (la, as, ps) => some (la, as, (b = v) :: ps)
  | none => none
 | .br _ _ _, _ => none
 | .el x k, .c :: as => (k x).runA env as
 | .el x k, .r y :: as => match (k y).runA env as with
  | some (la, as, ps) => some (la, as, (x = y) :: ps)
  | none => none
 | .el _ _, _ => none
theorem RP.runA_ok {α : Type} {env : Env} : ∀ {p : RP α} {as as' : List Ans} {la : List Nat × α} {ps : List Prop}, p.runA env as = some (la, as', ps) → (∀ q ∈ ps, q) → p.run env = some la := by
 intro p
 induction p with
 | ret a => intro as as' la ps h _; simp only [RP.runA] at h; injection h with h; injection h with h1 _; subst h1; rfl
 | fail => intro as as' la ps h _; simp [RP.runA] at h
 | read t k ih =>
  intro as as' la ps h hp
  simp only [RP.runA] at h
  cases hr : (k (lk env t)).runA env as with
  | none => rw [hr] at h; cases h
  | some r =>
   obtain ⟨⟨l, a⟩, as2, ps2⟩ := r
   rw [hr] at h
   injection h with h; injection h with h1 h2; injection h2 with h2 h3; subst h1 h2 h3
   simp only [RP.run, ih _ hr hp]
 | head t k ih =>
  intro as as' la ps h hp
  simp only [RP.runA] at h
  cases hr : (k ((lk env t).map hdAV)).runA env as with
  | none => rw [hr] at h; cases h
  | some r =>
   obtain ⟨⟨l, a⟩, as2, ps2⟩ := r
   rw [hr] at h
   injection h with h; injection h with h1 h2; injection h2 with h2 h3; subst h1 h2 h3
   simp only [RP.run, ih _ hr hp]
 | br b p q ihp ihq =>
  intro as as' la ps h hp
  match as, h with
  | [], h => simp [RP.runA] at h
  | .c :: as, h =>
   simp only [RP.runA] at h
   simp only [RP.run]
   split at h
   ·rename_i hb; rw [if_pos hb]; exact ihp h hp
   ·rename_i hb; rw [if_neg hb]; exact ihq h hp
  | .b v :: as, h =>
   simp only [RP.runA] at h
   split at h
   ·rename_i la2 as2 ps2 hr
    injection h with h; injection h with h1 h2; injection h2 with h2 h3; subst h1 h2 h3
    have hb : b = v := hp _ List.mem_cons_self
    subst hb
    simp only [RP.run]
    split at hr
    ·rename_i hb; rw [if_pos hb]; exact ihp hr fun q hq => hp q (List.mem_cons_of_mem _ hq)
    ·rename_i hb; rw [if_neg hb]; exact ihq hr fun q hq => hp q (List.mem_cons_of_mem _ hq)
   ·cases h
  | .r _ :: as, h => simp [RP.runA] at h
  | .lp _ _ :: as, h => simp [RP.runA] at h
 | el x k ih =>
  intro as as' la ps h hp
  match as, h with
  | [], h => simp [RP.runA] at h
  | .c :: as, h => simp only [RP.runA] at h; exact ih x h hp
  | .b v :: as, h => simp [RP.runA] at h
  | .r y :: as, h =>
   simp only [RP.runA] at h
   split at h
   ·rename_i la2 as2 ps2 hr
    injection h with h; injection h with h1 h2; injection h2 with h2 h3; subst h1 h2 h3
    have hx : x = y := hp _ List.mem_cons_self
    subst hx
    exact ih x hr fun q hq => hp q (List.mem_cons_of_mem _ hq)
   ·cases h
  | .lp _ _ :: as, h => simp [RP.runA] at h
def RP.bind {α β : Type} : RP α → (α → RP β) → RP β
 | .ret a, f => f a
 | .fail, _ => .fail
 | .read t k, f => .read t fun o => (k o).bind f
 | .head t k, f => .head t fun o => (k o).bind f
 | .br b p q, f => .br b (p.bind f) (q.bind f)
 | .el x k, f => .el x fun y => (k y).bind f
theorem RP.run_bind {α β : Type} {env : Env} {f : α → RP β} {r : β} {l2 : List Nat} : ∀ {p : RP α} {l : List Nat} {a : α}, p.run env = some (l, a) → (f a).run env = some (l2, r) → (p.bind f).run env = some (l ++ l2, r) := by
 intro p
 induction p with
 | ret a => intro l a' h h2; injection h with h; injection h with h1 h; subst h1 h; exact h2
 | fail => intro l a h; cases h
 | read t k ih =>
  intro l a h h2
  simp only [RP.run] at h
  cases hk : (k (lk env t)).run env with
  | none => rw [hk] at h; cases h
  | some la =>
   obtain ⟨l', a'⟩ := la
   rw [hk] at h
   injection h with h; injection h with h1 h3; subst h1 h3
   simp only [RP.bind, RP.run, ih _ hk h2, List.cons_append]
 | head t k ih =>
  intro l a h h2
  simp only [RP.run] at h
  cases hk : (k ((lk env t).map hdAV)).run env with
  | none => rw [hk] at h; cases h
  | some la =>
   obtain ⟨l', a'⟩ := la
   rw [hk] at h
   injection h with h; injection h with h1 h3; subst h1 h3
   simp only [RP.bind, RP.run, ih _ hk h2, List.cons_append]
 | br b p q ihp ihq =>
  intro l a h h2
  simp only [RP.run, RP.bind] at h ⊢
  split at h
  ·rename_i hb; simp only [if_pos hb]; exact ihp h h2
  ·rename_i hb; simp only [if_neg hb]; exact ihq h h2
 | el x k ih =>
  intro l a h h2
  exact ih x h h2
theorem yhn {α β : Type} (x : Operand) (k : AV → Option Nat → RP α) (f : α → RP β) : (valP x k).bind f = valP x fun y s => (k y s).bind f := by
 cases x with
 | tmp t =>
  show RP.read t _ = RP.read t _
  congr 1
  funext o
  cases o <;> rfl
 | _ => rfl
theorem ymb {α β : Type} (z : AV) (rng : Option (Nat × Nat × Option Nat)) (k : AV → RP α) (f : α → RP β) : (subP z rng k).bind f = subP z rng fun y => (k y).bind f := by
 unfold subP
 split <;> rfl
theorem ymm {α β : Type} (y : AV) (i c n : Nat) (k : List AV → RP α) (f : α → RP β) : (segP y i c n k).bind f = segP y i c n fun z => (k z).bind f := by
 unfold segP
 split
 ·show RP.br _ _ _ = RP.br _ _ _
  congr 1
  show RP.el _ _ = RP.el _ _
  congr 1
  funext el
  by_cases hc : c + n ≤ el.ecells.length
  ·simp only [if_pos hc]
  ·simp only [if_neg hc]; rfl
 ·split
  ·rfl
  ·cases seg (.box _) i c n <;> rfl
 ·cases seg y i c n <;> rfl
theorem yic {α β : Type} (f : α → RP β) : ∀ (x : AV) (p : Path) (k : AV → RP α), (getP x p k).bind f = getP x p fun z => (k z).bind f
 | x, [], k => rfl
 | x, (i, c) :: p, k => by
  simp only [getP, ymm]
  congr 1
  funext ms
  cases ms with
  | nil => rfl
  | cons y ms => exact yic f y p k
theorem ylo {α β : Type} (y : AV) (k : AV → RP α) (f : α → RP β) : (yed y k).bind f = yed y fun z => (k z).bind f := by
 unfold yed
 split
 ·show RP.read _ _ = RP.read _ _
  congr 1
  funext o
  cases o with
  | none => rfl
  | some xr =>
   simp only
   rw [yic]
   congr 1
   funext z
   split
   ·exact ymb z _ k f
   ·rfl
 ·rfl
 ·rfl
 ·rfl
theorem yox {α β : Type} (x : Operand) (k : AV → Bool → RP α) (f : α → RP β) : (argP x k).bind f = argP x fun y b => (k y b).bind f := by
 unfold argP
 rw [yhn]
 congr 1
 funext y s
 split
 ·rfl
 ·split <;> rfl
 ·rfl
 ·rfl
 ·rfl
 ·show RP.read _ _ = RP.read _ _
  congr 1
  funext o
  cases o with
  | none => rfl
  | some xr =>
   cases xr with
   | box cs => dsimp only; split <;> rfl
   | _ => rfl
 ·exact ylo _ _ _
theorem ygc {α β : Type} (f : α → RP β) : ∀ (xs : List Operand) (k : List AV → Bool → RP α), (yjn xs k).bind f = yjn xs fun ys b => (k ys b).bind f
 | [], k => rfl
 | x :: xs, k => by
  simp only [yjn, yox, ygc f xs]
theorem ymv {α β : Type} (a : AV) (s : Option Nat) (k : Nat → TypeId → Option Nat → List AV → RP α) (f : α → RP β) : (ownP a s k).bind f = ownP a s fun r e c xs => (k r e c xs).bind f := by
 unfold ownP
 split
 ·show RP.read _ _ = RP.read _ _
  congr 1
  funext o
  cases o with
  | none => rfl
  | some xr =>
   cases xr with
   | sl m e c xs => cases m <;> rfl
   | _ => rfl
 ·rfl
 ·rfl
variable (P : Program)
def yqx (cx : Cx) (env : Env) (d : Option Nat) (f : FuncId) (args : List Operand) (as : List Ans) : Option ((List Nat × Eff) × List Ans × List Prop) :=
 match (yjn args fun ys b => .ret (ys, b)).runA env as with
 | some ((l, (ys, b)), .r r :: as, ps) => match (gd (b = true → yag 12 r = true) (outP cx d (yln r) [] [])).runA env as with
  | some ((l2, e), as, qs) => some ((l ++ l2, e), as, ps ++ (PureC P f ys r :: qs))
  | none => none
 | _ => none
def yr8 (cx : Cx) (env : Env) (d : Option Nat) (f : FuncId) (x : Operand) (as : List Ans) : Option ((List Nat × Eff) × List Ans × List Prop) :=
 match (valP x fun a s => ownP a s fun r e cap xs => .ret (r, e, cap, xs)).runA env as with
 | some ((l, (r, e, cap, xs)), .r (.sl .own e' cap' ys) :: as, ps) => match (if e' = e then outP cx d (.tup []) [(r, .sl .own e cap ys)] [(r, true)] else .fail : RP Eff).runA env as with
  | some ((l2, ef), as, qs) => some ((l ++ l2, ef), as, ps ++ ((cap' = cap) :: MutC P f (.sl .own e cap xs) (.sl .own e cap ys) :: qs))
  | none => none
 | _ => none
def opA (cx : Cx) (env : Env) (o : Oper) (as : List Ans) : Option ((List Nat × Eff) × List Ans × List Prop) :=
 match o.op with
 | .call { callee := .value (.func f), args := args, argTypes := _ } => match cx.KM f .bad, args.toList with
  | some _, [x] => yr8 P cx env o.dst f x as
  | some _, _ => none
  | none, args => yqx P cx env o.dst f args as
 | .call { callee := .value (.tmp g), args := args, argTypes := _ } => match (lk env g).bind fnOf with
  | some f => match cx.KM f .bad with
   | some _ => none
   | none => match yqx P cx env o.dst f args.toList as with
    | some ((l, e), as, ps) => some ((2 * g :: l, e), as, ps)
    | none => none
  | none => none
 | _ => (opP cx o).runA env as
def ymf (cx : Cx) (env : Env) (g : Nat) (o : Oper) (as : List Ans) : Option ((List Nat × Eff) × List Ans × List Prop) :=
 match (yme cx o).runA env as with
 | some ((l, e), as, ps) => some ((2 * g :: l, e), as, ps)
 | none => none
def yqj (cx : Cx) (env : Env) (g : Nat) (o : Oper) (as : List Ans) : Option ((List Nat × Eff) × List Ans × List Prop) :=
 match opA P cx env o as with
 | some ((l, e), as, ps) => some ((2 * g :: l, e), as, ps)
 | none => none
def ywp {α : Type} (q : Prop) : Option (α × List Ans × List Prop) → Option (α × List Ans × List Prop)
 | some (x, as, ps) => some (x, as, q :: ps)
 | none => none
def ysr (cx : Cx) (ops : Array Oper) (env : Env) (o : Oper) (as : List Ans) : Option ((List Nat × Eff) × List Ans × List Prop) :=
 match o.guard with
 | none => opA P cx env o as
 | some (j, want) => match (ops[j]?).bind (·.dst) with
  | some g => match lk env g with
   | some (.atom (.bool b)) => match as with
    | .c :: as => if (bif want then b else !b) = true then yqj P cx env g o as else ymf cx env g o as
    | .b v :: as => ywp (b = v) (if (bif want then v else !v) = true then yqj P cx env g o as else ymf cx env g o as)
    | _ => none
   | some (.atom (.tuple _)) => ymf cx env g o as
   | _ => none
  | none => none
variable {P : Program}
structure CxBase (P : Program) (cx : Cx) : Prop where
 ty : ∀ t i, tyF cx.T t = some i → TyOk P t i
 eq : ∀ t us vs r, cx.eqT t us vs = some r → ∀ (w : World) (x y : Operand),
  (do eqGuard .eql t x y (.agg us.toArray) (.agg vs.toArray); binOp .eql t (.agg us.toArray) (.agg vs.toArray) : Sem Value).run P w = .ok (.bool r) w ∧
  (do eqGuard .neq t x y (.agg us.toArray) (.agg vs.toArray); binOp .neq t (.agg us.toArray) (.agg vs.toArray) : Sem Value).run P w = .ok (.bool (!r)) w
 mixed : P.follows .mixedOrders = true
def yo6 (P : Program) (cx : Cx) (ops : Array Oper) (env : Env) (o : Oper) (x : List Nat × Eff) : Prop :=
 ∃ cxi, CxOk P cxi ∧ cxi.N = cx.N ∧ cxi.lo = cx.lo ∧ (ybk cxi ops o).run env = some x
def yq6 (P : Program) (cx : Cx) (env : Env) (o : Oper) (x : List Nat × Eff) : Prop :=
 ∃ cxi, CxOk P cxi ∧ cxi.N = cx.N ∧ cxi.lo = cx.lo ∧ (opP cxi o).run env = some x
theorem ykx {cx : Cx} {env : Env} {d : Option Nat} {f : FuncId} {args : List Operand} {as as' : List Ans} {x : List Nat × Eff} {ps : List Prop} (h : yqx P cx env d f args as = some (x, as', ps)) (hp : ∀ q ∈ ps, q) :
  ∃ K' : FuncId → List AV → Option AV, (∀ g zs r, K' g zs = some r → PureC P g zs r) ∧ (yez { cx with K := K' } d f args).run env = some x := by
 classical
 unfold yqx at h
 split at h
 ·rename_i l ys b r as2 ps2 hrun
  split at h
  ·rename_i l2 ef as3 qs hrun2
   injection h with h; injection h with h1 h2; injection h2 with h2 h3; subst h1 h2 h3
   have hp1 := RP.runA_ok hrun fun q hq => hp q (by simp [hq])
   have hp2 := RP.runA_ok hrun2 fun q hq => hp q (by simp [hq])
   have hpure : PureC P f ys r := hp _ (by simp)
   obtain ⟨K', k1, k2⟩ : ∃ K' : FuncId → List AV → Option AV, (∀ g zs r, K' g zs = some r → PureC P g zs r) ∧ K' f ys = some r := by
    refine ⟨fun g zs => if g = f ∧ zs = ys then some r else none, ?_, by simp⟩
    intro g zs r' hg
    simp only at hg
    split at hg
    ·rename_i hc
     injection hg with hg; subst hg
     rw [hc.1, hc.2]; exact hpure
    ·cases hg
   refine ⟨K', k1, ?_⟩
   unfold yez
   have e1 := RP.run_bind (f := fun (q : List AV × Bool) => match K' f q.1 with
     | some r => gd (q.2 = true → yag 12 r = true) (outP cx d (yln r) [] [])
     | none => .fail) (l2 := l2) (r := ef) hp1 (by
      simp only [k2]
      exact hp2)
   rw [ygc] at e1
   exact e1
  ·cases h
 ·cases h
theorem yrm {cx : Cx} (hcx : CxBase P cx) {env : Env} {o : Oper} {as as' : List Ans} {x : List Nat × Eff} {ps : List Prop} (hK : ∀ f xs, cx.K f xs = none) (hM : ∀ f x, x ≠ .bad → cx.KM f x = none) (h : opA P cx env o as = some (x, as', ps)) (hp : ∀ q ∈ ps, q) : yq6 P cx env o x := by
 classical
 have base : CxOk P cx := ⟨hcx.ty, hcx.eq, fun f xs r h => (by rw [hK] at h; cases h), fun f x r h hx => (by rw [hM f x hx] at h; cases h), hcx.mixed⟩
 unfold opA at h
 split at h
 ·rename_i f args ats hop
  split at h
  ·rename_i rb y hkm hargs
   -- a callee that changes what it is handed
   unfold yr8 at h
   split at h
   ·rename_i l r e cap xs e' cap' ys as2 ps2 hrun
    split at h
    ·rename_i l2 ef as3 qs hrun2
     injection h with h; injection h with h1 h2; injection h2 with h2 h3; subst h1 h2 h3
     have hp1 := RP.runA_ok hrun fun q hq => hp q (by simp [hq])
     have hp2 := RP.runA_ok hrun2 fun q hq => hp q (by simp [hq])
     have hcap : cap' = cap := hp _ (by simp)
     have hmut : MutC P f (.sl .own e cap xs) (.sl .own e cap ys) := hp _ (by simp)
     obtain ⟨he, hp3⟩ := zqq hp2
     subst hcap he
     obtain ⟨KM', k1, k2, k3⟩ : ∃ KM' : FuncId → AV → Option AV, (∀ g z r, KM' g z = some r → z ≠ .bad → MutC P g z r) ∧ KM' f .bad = some rb ∧ KM' f (.sl .own e' cap' xs) = some (.sl .own e' cap' ys) := by
      refine ⟨fun g z => if g = f ∧ z = .sl .own e' cap' xs then some (.sl .own e' cap' ys) else cx.KM g z, ?_, ?_, by simp⟩
      ·intro g z r' hg hz
       simp only at hg
       split at hg
       ·rename_i hc
        injection hg with hg; subst hg
        rw [hc.1, hc.2]; exact hmut
       ·rw [hM g z hz] at hg; cases hg
      ·simp only
       rw [if_neg (by rintro ⟨_, h⟩; cases h)]; exact hkm
     refine ⟨{ cx with KM := KM' }, ⟨hcx.ty, hcx.eq, fun f xs r h => (by rw [hK] at h; cases h), k1, hcx.mixed⟩, rfl, rfl, ?_⟩
     unfold opP
     rw [hop]
     simp only [k2, hargs]
     unfold yi5
     have e1 := RP.run_bind (f := fun (q : Nat × TypeId × Option Nat × List AV) => match KM' f (AV.sl .own q.2.1 q.2.2.1 q.2.2.2) with
       | some (.sl .own e2 cap2 ys2) => if e2 = q.2.1 ∧ cap2 = q.2.2.1 then outP cx o.dst (.tup []) [(q.1, .sl .own q.2.1 q.2.2.1 ys2)] [(q.1, true)] else .fail
       | _ => .fail) (l2 := l2) (r := ef) hp1 (by
        simp only [k3, and_self, if_true]
        exact hp3)
     rw [yhn] at e1
     simp only [ymv, RP.bind] at e1
     exact e1
    ·cases h
   ·cases h
  ·cases h
  ·rename_i args' hkm
   obtain ⟨K', k1, k2⟩ := ykx h hp
   refine ⟨{ cx with K := K' }, ⟨hcx.ty, hcx.eq, k1, fun f x r h hx => (by rw [hM f x hx] at h; cases h), hcx.mixed⟩, rfl, rfl, ?_⟩
   unfold opP
   rw [hop]
   simp only [hkm]
   exact k2
 ·rename_i g args ats hop
  split at h
  ·rename_i f hf
   split at h
   ·cases h
   ·rename_i hkm
    split at h
    ·rename_i l e as2 ps2 hc
     injection h with h; injection h with h1 h2; injection h2 with h2 h3; subst h1 h2 h3
     obtain ⟨K', k1, k2⟩ := ykx hc hp
     refine ⟨{ cx with K := K' }, ⟨hcx.ty, hcx.eq, k1, fun f x r h hx => (by rw [hM f x hx] at h; cases h), hcx.mixed⟩, rfl, rfl, ?_⟩
     unfold opP
     rw [hop]
     simp only [RP.run, hf, hkm, k2]
    ·cases h
  ·cases h
 ·exact ⟨cx, base, rfl, rfl, RP.runA_ok h hp⟩
theorem ypk {cx : Cx} (hcx : CxBase P cx) {ops : Array Oper} {env : Env} {o : Oper} {as as' : List Ans} {x : List Nat × Eff} {ps : List Prop} (hK : ∀ f xs, cx.K f xs = none) (hM : ∀ f x, x ≠ .bad → cx.KM f x = none) (h : ysr P cx ops env o as = some (x, as', ps)) (hp : ∀ q ∈ ps, q) : yo6 P cx ops env o x := by
 have base : CxOk P cx := ⟨hcx.ty, hcx.eq, fun f xs r h => (by rw [hK] at h; cases h), fun f x r h hx => (by rw [hM f x hx] at h; cases h), hcx.mixed⟩
 unfold ysr at h
 split at h
 ·rename_i hg
  obtain ⟨cxi, c1, c2, c3, c4⟩ := yrm hcx hK hM h hp
  refine ⟨cxi, c1, c2, c3, ?_⟩
  unfold ybk
  rw [hg]
  exact c4
 ·rename_i j want hg
  split at h
  ·rename_i g hj
   have exec : ∀ {as2 : List Ans} {ps2 : List Prop} {b : Bool}, lk env g = some (.atom (.bool b)) → (bif want then b else !b) = true → yqj P cx env g o as2 = some (x, as', ps2) → (∀ q ∈ ps2, q) → yo6 P cx ops env o x := by
    intro as2 ps2 b hl hb ho hp2
    unfold yqj at ho
    split at ho
    ·rename_i l e as3 ps3 ho3
     injection ho with ho; injection ho with h1 h2; injection h2 with h2 h3; subst h1 h2 h3
     obtain ⟨cxi, c1, c2, c3, c4⟩ := yrm hcx hK hM ho3 hp2
     refine ⟨cxi, c1, c2, c3, ?_⟩
     unfold ybk
     rw [hg]
     simp only [hj, RP.run, hl, hb, if_true, c4]
    ·cases ho
   have skip : ∀ {as2 : List Ans} {ps2 : List Prop}, (∃ b, lk env g = some (.atom (.bool b)) ∧ (bif want then b else !b) = false) ∨ (∃ vs, lk env g = some (.atom (.tuple vs))) → ymf cx env g o as2 = some (x, as', ps2) → (∀ q ∈ ps2, q) → yo6 P cx ops env o x := by
    intro as2 ps2 hl ho hp2
    unfold ymf at ho
    split at ho
    ·rename_i l e as3 ps3 ho3
     injection ho with ho; injection ho with h1 h2; injection h2 with h2 h3; subst h1 h2 h3
     have hr := RP.runA_ok ho3 hp2
     refine ⟨cx, base, rfl, rfl, ?_⟩
     unfold ybk
     rw [hg]
     rcases hl with ⟨b, hl, hb⟩ | ⟨vs, hl⟩
     ·simp only [hj, RP.run, hl, hb, Bool.false_eq_true, if_false, hr]
     ·simp only [hj, RP.run, hl, hr]
    ·cases ho
   split at h
   ·rename_i b hl
    split at h
    ·split at h
     ·rename_i hb
      exact exec hl hb h hp
     ·rename_i hb
      exact skip (.inl ⟨b, hl, by simpa using hb⟩) h hp
    ·rename_i v _
     unfold ywp at h
     split at h
     ·rename_i x2 as2 ps2 h2
      injection h with h; injection h with e1 e2; injection e2 with e2 e3; subst e1 e2 e3
      have hbv : b = v := hp _ List.mem_cons_self
      subst hbv
      split at h2
      ·rename_i hb
       exact exec hl hb h2 fun q hq => hp q (List.mem_cons_of_mem _ hq)
      ·rename_i hb
       exact skip (.inl ⟨b, hl, by simpa using hb⟩) h2 fun q hq => hp q (List.mem_cons_of_mem _ hq)
     ·cases h
    ·cases h
   ·rename_i vs hl
    exact skip (.inr ⟨vs, hl⟩) h hp
   ·cases h
  ·cases h
end Go.Lf
end

section
namespace Go.Lf
open Go Go.RowKit
def Fi (ρ : Option Nat) : Fence := { Fence.wide with round := ρ }
section
variable {P : Program} {F : Frm} {B0 : Nat} {w0 w w' : World} {S S' S0 : Nat → Prop} {n n' : Nat} {env env' : Env} {a : Act} {tmps : Array Value} {Os : Nat → Own} {cx : Cx} {o : Oper} {eff : Eff} {l : List Nat} {ds : List Deferred} {Q : Exit → Act → World → Prop} {ρ : Option Nat}
theorem yos {k : Nat} {f : FuncId} {args : Array Value} {R : Ending → World → Prop} (h : Calls P f args w R) : CallsIn (Fi ρ) k P f args w R :=
 callsIn_wide (n := k).2 h
theorem ywl {k : Nat} {row : String} {args : Array Value} {R : Value → World → Prop} (h : Rows P row args w R) : RowsIn (Fi ρ) k P row args w R :=
 fun c cs _ => let ⟨v, w', r, s⟩ := h c cs; ⟨v, w', r, stepsIn_wide.2 s⟩
theorem opIn {K : Act → World → Prop} (hnd : ∀ c, o.op ≠ .defer c) (h : o.wp P a w K Q) : o.wpIn (Fi ρ) 0 P a w K Q := by
 refine ⟨fun _ _ => trivial, ?_⟩
 rw [show (Fi ρ).round = ρ from rfl, Oper.semAt_eq _ _ _ hnd]
 unfold Oper.wp at h
 revert h
 cases (execOp a.eval o).run P w with
 | ok nx w' =>
  cases nx with
  | value v => exact id
  | skip => exact id
  | defer d => exact id
  | enter f args => intro h; exact ⟨(fun hd => nomatch hd), yos h⟩
  | row r args => intro h; exact ⟨(fun hd => nomatch hd), ywl h⟩
  | _ => intro h; exact h.elim
 | halt x w' => cases x <;> first | exact id | (intro h; exact h.elim)
theorem yrl (h : (opP cx o).run env = some (l, eff)) : ∀ c, o.op ≠ .defer c := by
 intro c hc
 unfold opP at h
 rw [hc] at h
 exact (zqd h).elim
theorem ydd (ρ : Option Nat) (hcx : CxOk P cx) (hst : St P F B0 w0 n env a.tmps w S Os) (hn : 0 < n) (hN : (a.tmps.size = cx.N ∧ F.lo = cx.lo)) {ops : Array Oper} (h : (ybk cx ops o).run env = some (l, eff)) :
  if Region.wanted o (yielded ops a.tmps) then o.wpIn (Fi ρ) 0 P a w (Post P F B0 w0 S cx env eff a) Q else Post P F B0 w0 S cx env eff a (a.put o.dst undef) w := by
 unfold ybk at h
 split at h
 ·rename_i hg
  have hw : Region.wanted o (yielded ops a.tmps) = true := by unfold Region.wanted; rw [hg]
  rw [if_pos hw]
  exact opIn (yrl h) (yj5 hcx hst hn hN h)
 ·rename_i j want hg
  split at h
  ·rename_i g hgd
   obtain ⟨l1, h1⟩ := yan h
   split at h1
   ·rename_i b hlk
    obtain ⟨v, hv, hs⟩ := hst.rel g _ hlk
    have hvb : v = .bool b := by
     obtain ⟨m, rfl⟩ : ∃ m, n = m + 1 := ⟨n - 1, by omega⟩
     exact (hs.rv rfl).1
    subst hvb
    have hy : yielded ops a.tmps j = some b := by unfold yielded; rw [hgd]; simp [hv]
    have hw : Region.wanted o (yielded ops a.tmps) = (bif want then b else !b) := by
     unfold Region.wanted
     rw [hg]
     simp only [hy]
     cases want <;> cases b <;> rfl
    rw [hw]
    simp only [RP.run] at h1
    cases hb : (bif want then b else !b) with
    | true =>
     rw [hb] at h1
     simp only [if_true] at h1 ⊢
     exact opIn (yrl h1) (yj5 hcx hst hn hN h1)
    | false =>
     rw [hb] at h1
     simp only [Bool.false_eq_true, if_false] at h1 ⊢
     exact yef hst hn hN h1
   ·rename_i vs hlk
    obtain ⟨v, hv, hs⟩ := hst.rel g _ hlk
    have hvb : v = .tuple vs := by
     obtain ⟨m, rfl⟩ : ∃ m, n = m + 1 := ⟨n - 1, by omega⟩
     exact (hs.rv rfl).1
    subst hvb
    have hy : yielded ops a.tmps j = none := by unfold yielded; rw [hgd]; simp [hv]
    have hw : Region.wanted o (yielded ops a.tmps) = false := by
     unfold Region.wanted
     rw [hg]
     simp only [hy]
     rfl
    rw [hw]
    simp only [Bool.false_eq_true, if_false]
    exact yef hst hn hN h1
   ·exact (zqd h1).elim
  ·exact (zqd h).elim
theorem yvb (ρ : Option Nat) {ops : Array Oper} {es : List (List Nat × Eff)} {env0 : Env} (hes : es.length = ops.size)
  (hstep : ∀ i o, ops.toList[i]? = some o → ∃ x cxi, es[i]? = some x ∧ CxOk P cxi ∧ cxi.N = cx.N ∧ cxi.lo = cx.lo ∧ (ybk cxi ops o).run (atE es i env0) = some x)
  {ls : List Log} (hll : ls.length = es.length) (hls : ∀ i x, es[i]? = some x → ls[i]? = some (yaw (atE es i env0) x.1 x.2)) (hap : yhh (ybc ops.toList) ls = true) (hed : yd3 ops.toList = true)
  (hQ : ∀ a' w', Agree P F B0 w0 S0 cx ds (es.foldl (fun env x => zqi x.2 env) env0) a' w' → Q .normal a' w') :
  ∀ (fuel : Nat) (listed : Array Bool) (a : Act) (w : World), listed.size = ops.size → listed.toList.count false ≤ fuel →
   (∀ j, listed.getD j false = true → ∀ b ∈ (ybc ops.toList).getD j [], listed.getD b false = true) →
   (∃ env1, (∀ t, lk env1 t = lk (yas (fun j => listed.getD j false) 0 es env0) t) ∧ Agree P F B0 w0 S0 cx ds env1 a w) → wpAnyIn (Fi ρ) 0 P .any ops Q fuel listed a w := by
 have hfalse : ∀ {listed : Array Bool} {j : Nat}, j < listed.size → listed.getD j false ≠ true → listed.getD j true = false := by
  intro listed j hj h
  simp only [Array.getD, hj, dif_pos] at h ⊢
  cases hb : listed[j] <;> simp_all
 have hfalse' : ∀ {listed : Array Bool} {j : Nat}, listed.getD j true = false → j < listed.size ∧ listed.getD j false = false := by
  intro listed j h
  by_cases hj : j < listed.size
  ·refine ⟨hj, ?_⟩
   simp only [Array.getD, hj, dif_pos] at h ⊢
   exact h
  ·simp only [Array.getD, hj, dif_neg, not_false_iff] at h
   cases h
 have pair : ∀ {i j : Nat} {x y : List Nat × Eff}, es[i]? = some x → es[j]? = some y → j < i → j ∉ (ybc ops.toList).getD i [] → yin (yaw (atE es i env0) x.1 x.2) (yaw (atE es j env0) y.1 y.2) = false := by
  intro i j x y hx hy hji hb
  have hil : i < es.length := (zlk.1 hx).1
  have h1 := zls.1 hap i (by simpa [hll] using hil)
  have h2 := zls.1 h1 j (by simpa using hji)
  simp only [Bool.or_eq_true, List.contains_iff_mem] at h2
  rcases h2 with h2 | h2
  ·exact absurd h2 hb
  ·simpa [zld, hls i x hx, hls j y hy] using h2
 have done : ∀ {listed : Array Bool} {a : Act} {w : World}, listed.size = ops.size → Region.ready .any ops listed = [] → (∃ env1, (∀ t, lk env1 t = lk (yas (fun j => listed.getD j false) 0 es env0) t) ∧ Agree P F B0 w0 S0 cx ds env1 a w) → Q .normal a w := by
  intro listed a w hsz hr ⟨env1, hl, hag⟩
  have all : ∀ j, j < ops.size → listed.getD j false = true := by
   intro j
   induction j using Nat.strongRecOn with
   | ind j ih =>
    intro hj
    by_cases h : listed.getD j false = true
    ·exact h
    ·exfalso
     have hmem : j ∈ Region.ready .any ops listed := by
      refine mem_ready.2 ⟨hfalse (by omega) h, ops[j], by simp [hj], fun e he hb => ?_⟩
      have h1 := zls.1 hed (ops[j], j) (by
       rw [List.mem_iff_getElem?]
       exact ⟨j, by simp [hj]⟩)
      have h2 := zls.1 h1 e (by simpa using he)
      unfold Region.binds at hb
      have h3 : e.on < j := by
       split at h2
       ·rename_i hg; rw [hg] at hb; simp at hb
       ·rename_i hg; rw [hg] at hb; simp at hb
       ·simpa using h2
      exact ih e.on h3 (by omega)
     rw [hr] at hmem
     cases hmem
  refine hQ a w (hag.cong fun t => ?_)
  rw [hl]
  have e1 : es.foldl (fun env x => zqi x.2 env) env0 = yas (fun j => decide (j < 0 + es.length)) 0 es env0 := by rw [ycn, List.take_length]
  rw [e1]
  refine yay es 0 (fun j x hx hne => absurd ?_ hne) rfl
  have hj : j < es.length := (zlk.1 hx).1
  simp only [Nat.zero_add]
  rw [all j (by omega)]
  simp [hj]
 intro fuel
 induction fuel with
 | zero =>
  intro listed a w hsz hc hdn henv
  have hr : Region.ready .any ops listed = [] := by
   apply List.eq_nil_iff_forall_not_mem.2
   intro j hj
   obtain ⟨h0, _⟩ := mem_ready.1 hj
   obtain ⟨hjs, h1⟩ := hfalse' h0
   have : false ∈ listed.toList := by
    rw [List.mem_iff_getElem?]
    refine ⟨j, ?_⟩
    simp only [Array.getD, hjs, dif_pos] at h1
    have h1' : listed[j] = false := h1
    simp [hjs, h1']
   have := List.count_pos_iff.2 this
   omega
  exact ⟨hr, done hsz hr henv⟩
 | succ fuel ih =>
  intro listed a w hsz hc hdn henv
  refine ⟨fun hr => done hsz hr henv, fun i hi => ?_⟩
  obtain ⟨h0, o, ho, hall⟩ := mem_ready.1 hi
  obtain ⟨his, hDi⟩ := hfalse' h0
  obtain ⟨env1, hl, hag⟩ := henv
  have ho' : ops.toList[i]? = some o := by simpa using ho
  obtain ⟨x, cxi, hx, hci, hcN, hcl, hrun⟩ := hstep i o ho'
  have hbi : ∀ b ∈ (ybc ops.toList).getD i [], listed.getD b false = true := by
   intro b hb
   obtain ⟨e, he, hbd, h⟩ := ye1 ho' hb
   have hon := hall e he hbd
   rcases h with rfl | h
   ·exact hon
   ·exact hdn e.on hon b h
  have later : ∀ {j : Nat} {y : List Nat × Eff}, i < j → es[j]? = some y → listed.getD j false = true → yin (yaw (atE es j env0) y.1 y.2) (yaw (atE es i env0) x.1 x.2) = false := by
   intro j y hij hy hD
   refine pair hy hx hij fun hb => ?_
   have := hdn j hD i hb
   rw [hDi] at this; cases this
  have hrun1 : (ybk cxi ops o).run env1 = some (x.1, x.2) := by
   have e2 : atE es i env0 = yas (fun j => decide (j < 0 + i)) 0 es env0 := by rw [ycn]; rfl
   refine RP.local hrun (fun t ht => ?_) fun t ht => ?_
   ·rw [hl, e2]
    refine yay es 0 (fun j y hy hne => ?_) rfl
    simp only [Nat.zero_add] at hne
    by_cases hji : j < i
    ·have hDj : listed.getD j false ≠ true := by
      intro h; apply hne; rw [h]; simp [hji]
     have hc := pair hx hy hji fun hb => hDj (hbi j hb)
     exact (yam hc).2.2.1 t ht
    ·have hDj : listed.getD j false = true := by
      cases h : listed.getD j false with
      | true => rfl
      | false => exact absurd (by rw [h]; simp [hji]) hne
     have hne' : j ≠ i := by intro e; subst e; rw [hDi] at hDj; cases hDj
     exact (yam (later (by omega) hy hDj)).2.2.2.1 t ht
   ·rw [hl]
    have hil : i < es.length := (zlk.1 hx).1
    have hh := ykf (D := fun j => listed.getD j false) (t := t) (env0 := env0) es (i := i) (by omega) ?_ ?_ ?_ es.length (by omega) (zly _)
    ·rw [List.take_length] at hh; exact hh
    ·intro k y hk hy hf
     cases hDk : listed.getD k false with
     | true => rfl
     | false =>
      have hc := pair hx hy hk fun hb => by have := hbi k hb; rw [hDk] at this; cases this
      exact absurd hf ((yam hc).2.2.2.2.1 t ht)
    ·intro k y hk hy hDk
     have hne' : k ≠ i := by intro e; subst e; rw [hDi] at hDk; cases hDk
     exact (yam (later (by omega) hy hDk)).2.2.2.2.2.1 t ht
    ·intro j y hij hy hDj hkj k z hkj' hz hf
     cases hDk : listed.getD k false with
     | true => rfl
     | false =>
      have hc := pair hy hz hkj' fun hb => by have := hdn j hDj k hb; rw [hDk] at this; cases this
      obtain ⟨c1, _, _, _, _, _, _, c8⟩ := yam hc
      rcases hf with hf | ⟨q, hq1, hq2, _⟩
      ·exact absurd c8 hf
      ·exact absurd (yei.2 ⟨q, hq1, hq2⟩) (c1.2.2 t hkj)
  obtain ⟨hd, hN, n, S, Os, hn, hgr, hst⟩ := hag
  have key := ydd ρ (Q := Q) hci hst hn (by rw [hcN, hcl]; exact hN) hrun1
  have hset : ∀ j, (listed.setIfInBounds i true).getD j false = (listed.getD j false || j == i) := by
   intro j
   rw [zll, zll, Array.getElem?_setIfInBounds]
   by_cases hji : j = i
   ·subst hji
    simp [his]
   ·rw [if_neg (Ne.symm hji)]
    have h2 : (j == i) = false := by simp [hji]
    rw [h2, Bool.or_false]
  have next : ∀ a' w', Post P F B0 w0 S cxi env1 x.2 a a' w' → wpAnyIn (Fi ρ) 0 P .any ops Q fuel (listed.setIfInBounds i true) a' w' := by
   intro a' w' ⟨p1, p2, n', S', Os', q1, q2, q3⟩
   rw [hcN, hcl] at p2
   refine ih _ a' w' (by simpa using hsz) ?_ ?_ ⟨_, ?_, p1.trans hd, p2, n', S', Os', q1, hgr.trans q2, q3⟩
   ·have hfi : listed.toList[i]? = some false := by
     simp only [Array.getD, his, dif_pos] at hDi
     have hDi' : listed[i] = false := hDi
     simp [his, hDi']
    have hil : i < listed.toList.length := by simpa using his
    have hval : listed.toList[i] = false := by
     have := zle hil
     rw [hfi] at this; injection this with this; exact this.symm
    have hpos : 0 < listed.toList.count false := List.count_pos_iff.2 (by rw [← hval]; exact zlu hil)
    rw [Array.toList_setIfInBounds, List.count_set hil]
    simp only [hval]
    simp at hc hpos ⊢
    omega
   ·intro j hj b hb
    rw [hset] at hj ⊢
    simp only [Bool.or_eq_true, beq_iff_eq] at hj ⊢
    rcases hj with hj | hj
    ·exact .inl (hdn j hj b hb)
    ·subst hj; exact .inl (hbi b hb)
   ·intro t
    rw [ybh x.2 (hl t)]
    have := yfb (D := fun j => listed.getD j false) (i := i) t es 0 i env0 x hx (by omega) hDi fun j y hij hy hD => (yam (later hij hy (by simpa using hD))).2.1
    rw [← this]
    congr 2
    funext j
    exact (hset j).symm
  unfold wpOpIn
  rw [ho]
  simp only
  split
  ·rename_i hw
   rw [if_pos hw] at key
   exact Oper.wpIn_mono next key
  ·rename_i hw
   rw [if_neg hw] at key
   exact ⟨fun _ _ => trivial, next _ _ key⟩
end
end Go.Lf
end
