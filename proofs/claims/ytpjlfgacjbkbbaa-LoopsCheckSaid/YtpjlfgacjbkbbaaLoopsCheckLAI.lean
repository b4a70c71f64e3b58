/- Part 9 of the evaluator and of the contracts that the claim uses. -/
import Derived.Test.YtpjlfgacjbkbbaaLoopsCheckLAA
import Derived.Test.YtpjlfgacjbkbbaaLoopsCheckLAB
import Derived.Test.YtpjlfgacjbkbbaaLoopsCheckLAC
import Derived.Test.YtpjlfgacjbkbbaaLoopsCheckLAD
import Derived.Test.YtpjlfgacjbkbbaaLoopsCheckLAE
import Derived.Test.YtpjlfgacjbkbbaaLoopsCheckLAF
import Derived.Test.YtpjlfgacjbkbbaaLoopsCheckLAG
import Derived.Test.YtpjlfgacjbkbbaaLoopsCheckLAH
set_option linter.unusedVariables false
set_option linter.unusedSimpArgs false
set_option linter.constructorNameAsVariable false
set_option linter.unusedSectionVars false
open Go.IntKind (i64 u8)

section
open Go Go.Lf Go.Proofs
namespace Tst
theorem ytd : Try.f13.body = some (.seq (zqr Try.f13 0) (.seq (zqr Try.f13 1) (.seq (zqr Try.f13 2) (.seq (.seq (zqr Try.f13 3) (.cond (.tmp 27) (zqr Try.f13 4) .skip)) (.seq (.seq (zqr Try.f13 5) (.block 0 (.loop (zqc Try.f13 0)))) (.seq (.seq (zqr Try.f13 10) (.block 2 (.loop (zqc Try.f13 1)))) (.seq (zqr Try.f13 15) .ret))))))) := by kernel_rfl
theorem yxb : zqc Try.f13 0 = .seq (.seq (zqr Try.f13 6) (.cond (.tmp 34) .skip (.exit 0))) (.seq (.block 1 (.seq (zqr Try.f13 8) (.cond (.tmp 51) (zqr Try.f13 9) .skip))) (zqr Try.f13 7)) := by kernel_rfl
theorem yxa : zqc Try.f13 1 = .seq (.seq (zqr Try.f13 11) (.cond (.tmp 58) .skip (.exit 2))) (.seq (.block 3 (.seq (zqr Try.f13 13) (.cond (.tmp 77) (zqr Try.f13 14) .skip))) (zqr Try.f13 12)) := by kernel_rfl
def gtD (d : List Int) (y n : Int) : Bool := decide (d.getD y.toNat default ≤ n)
def gtI (d : List Int) (p : Idd) : Bool := gtD d p.y p.n
def gtP (d : List Int) (p : Ps) : Bool := gtD d p.y p.n
theorem ydb {d : List Int} {i : Nat} (h : i < d.length) : List.getD (d.map itI) i .bad = itI (List.getD d i default) := by simp [zld, h]
section
variable (L : Lp) (d : List Int) (hd : d.length = 7) (ht : L.th.length < 2 ^ 60) (hp : L.pa.length < 2 ^ 60)
abbrev nE (v : Int) : Env := [(5, .box (d.map itI)), (7, lpB L), (8, it v)]
include hd ht
theorem ytf (v : Int) (k : Nat) (h : L.th.length ≤ k) : Tri Try.prog (cxN 81 0) (zqc Try.f13 0) (nE L d v ++ [(9, it k)]) (.exit 0) (nE L d v) := by
 rw [yxb]
 have h6 := yxc L d v k
 rw [show decide ((k : Int) < ((List.map Idd.enc (Lp.th L)).length : Nat)) = false by rw [zlc]; rw [zla]; omega] at h6
 exact .seqX (.seq h6 (.cond (b := false) rfl (.after (kp [5, 7, 8]) .exit))) (by simp)
theorem yp3 (v : Int) (k : Nat) (h : k < L.th.length) (hy : ∀ p ∈ L.th, 0 ≤ p.y ∧ p.y ≤ 6) (hv0 : 0 ≤ v) (hv : v ≤ 1 + k) : Tri Try.prog (cxN 81 0) (zqc Try.f13 0) (nE L d v ++ [(9, it k)]) .normal (nE L d (v + if gtI d (L.th.getD k default) then 1 else 0) ++ [(9, it (k + 1 : Nat))]) := by
 rw [yxb]
 have h6 := yxc L d v k
 rw [show decide ((k : Int) < ((List.map Idd.enc (Lp.th L)).length : Nat)) = true by rw [zlb]; rw [zla]; omega] at h6
 have hm : L.th.getD k default ∈ L.th := by rw [zld, zle h]; exact zlu h
 obtain ⟨y0, y1⟩ := hy _ hm
 have h8 := ne8_0 L d v k hd (zlb (by rw [zla]; omega)) (yai h) (zlb (by simp only [zlf]; exact ⟨y0, Int.lt_of_le_of_lt y1 (by decide), by decide⟩)) (zlb ⟨rfl, by rw [zla, hd]; simp only [zlf]; show _ * 1 < 7; omega⟩) (ydb (by simp only [zlf]; omega))
 simp only [zlf, Nat.mul_one] at h8
 have h7 := fun u => ne7_0 L d u k
 rw [up64 (by omega)] at h7
 refine .seq (env1 := nE L d v ++ [(9, it k)]) (.seq h6 (.cond (b := true) rfl (.after (kp [5, 7, 8, 9]) .skip))) (.seq (.block (ex := .normal) (.seq (show Tri Try.prog (cxN 81 0) (zqr Try.f13 8) (nE L d v ++ [(9, it k)]) .normal (nE L d v ++ [(9, it k), (51, bb (gtI d (L.th.getD k default)))]) from h8) (env' := nE L d (v + if gtI d (L.th.getD k default) then 1 else 0) ++ [(9, it k)]) ?_) (.inr ⟨by simp, rfl⟩)) (h7 _))
 cases hg : gtI d (L.th.getD k default) with
 | false => rw [if_neg (by simp), Int.add_zero]; exact .cond (b := false) rfl (.after (kp [5, 7, 8, 9]) .skip)
 | true =>
  have h9 := ne9_0 L d v k
  rw [yab (by omega) (by omega)] at h9
  rw [if_pos rfl]; exact .cond (b := true) rfl (.weak (kp [5, 7, 8, 9]) h9)
theorem ykd (hy : ∀ p ∈ L.th, 0 ≤ p.y ∧ p.y ≤ 6) : ∀ (j k : Nat) (v : Int), k + j = L.th.length → 0 ≤ v → v ≤ 1 + k → Rnd Try.prog (cxN 81 0) (zqc Try.f13 0) (j + 1) (nE L d v ++ [(9, it k)]) (.exit 0) (nE L d (v + ((L.th.drop k).countP (gtI d) : Nat)))
 | 0, k, v, h, _, _ => by
  rw [zln (by omega), List.countP_nil, Int.natCast_zero, Int.add_zero]
  exact .exit (ytf L d hd ht v k (by omega)) (by simp)
 | j + 1, k, v, h, h0, h1 => by
  have hk : k < L.th.length := by omega
  rw [yag _ hk default, List.countP_cons]
  have h2 := ykd hy j (k + 1) (v + if gtI d (L.th.getD k default) then 1 else 0) (by omega) (by split <;> omega) (by split <;> omega)
  rw [show v + ((List.countP (gtI d) (List.drop (k + 1) L.th) + if gtI d (L.th.getD k default) = true then 1 else 0 : Nat) : Int) = (v + if gtI d (L.th.getD k default) then 1 else 0) + (List.countP (gtI d) (List.drop (k + 1) L.th) : Nat) by split <;> omega]
  exact .step (yp3 L d hd ht v k hk hy h0 h1) h2
omit ht
include hp
theorem yte (v : Int) (k : Nat) (h : L.pa.length ≤ k) : Tri Try.prog (cxN 81 0) (zqc Try.f13 1) (nE L d v ++ [(10, it k)]) (.exit 2) (nE L d v) := by
 rw [yxa]
 have h6 := yro L d v k
 rw [show decide ((k : Int) < ((List.map Ps.enc (Lp.pa L)).length : Nat)) = false by rw [zlc]; rw [zla]; omega] at h6
 exact .seqX (.seq h6 (.cond (b := false) rfl (.after (kp [5, 7, 8]) .exit))) (by simp)
theorem yp2 (v : Int) (k : Nat) (h : k < L.pa.length) (hy : ∀ p ∈ L.pa, 0 ≤ p.y ∧ p.y ≤ 6) (hv0 : 0 ≤ v) (hv : v ≤ 2 ^ 61 + k) : Tri Try.prog (cxN 81 0) (zqc Try.f13 1) (nE L d v ++ [(10, it k)]) .normal (nE L d (v + if gtP d (L.pa.getD k default) then 1 else 0) ++ [(10, it (k + 1 : Nat))]) := by
 rw [yxa]
 have h6 := yro L d v k
 rw [show decide ((k : Int) < ((List.map Ps.enc (Lp.pa L)).length : Nat)) = true by rw [zlb]; rw [zla]; omega] at h6
 have hm : L.pa.getD k default ∈ L.pa := by rw [zld, zle h]; exact zlu h
 obtain ⟨y0, y1⟩ := hy _ hm
 have h8 := yxf L d v k hd (zlb (by rw [zla]; omega)) (yb0 h) (zlb (by simp only [zlf]; exact ⟨y0, Int.lt_of_le_of_lt y1 (by decide), by decide⟩)) (zlb ⟨rfl, by rw [zla, hd]; simp only [zlf]; show _ * 1 < 7; omega⟩) (ydb (by simp only [zlf]; omega))
 simp only [zlf, Nat.mul_one] at h8
 have h7 := fun u => yxg L d u k
 rw [up64 (by omega)] at h7
 refine .seq (env1 := nE L d v ++ [(10, it k)]) (.seq h6 (.cond (b := true) rfl (.after (kp [5, 7, 8, 10]) .skip))) (.seq (.block (ex := .normal) (.seq (show Tri Try.prog (cxN 81 0) (zqr Try.f13 13) (nE L d v ++ [(10, it k)]) .normal (nE L d v ++ [(10, it k), (77, bb (gtP d (L.pa.getD k default)))]) from h8) (env' := nE L d (v + if gtP d (L.pa.getD k default) then 1 else 0) ++ [(10, it k)]) ?_) (.inr ⟨by simp, rfl⟩)) (h7 _))
 cases hg : gtP d (L.pa.getD k default) with
 | false => rw [if_neg (by simp), Int.add_zero]; exact .cond (b := false) rfl (.after (kp [5, 7, 8, 10]) .skip)
 | true =>
  have h9 := yxe L d v k
  rw [yab (by omega) (by omega)] at h9
  rw [if_pos rfl]; exact .cond (b := true) rfl (.weak (kp [5, 7, 8, 10]) h9)
theorem ykc (hy : ∀ p ∈ L.pa, 0 ≤ p.y ∧ p.y ≤ 6) : ∀ (j k : Nat) (v : Int), k + j = L.pa.length → 0 ≤ v → v ≤ 2 ^ 61 + k → Rnd Try.prog (cxN 81 0) (zqc Try.f13 1) (j + 1) (nE L d v ++ [(10, it k)]) (.exit 2) (nE L d (v + ((L.pa.drop k).countP (gtP d) : Nat)))
 | 0, k, v, h, _, _ => by
  rw [zln (by omega), List.countP_nil, Int.natCast_zero, Int.add_zero]
  exact .exit (yte L d hd hp v k (by omega)) (by simp)
 | j + 1, k, v, h, h0, h1 => by
  have hk : k < L.pa.length := by omega
  rw [yag _ hk default, List.countP_cons]
  have h2 := ykc hy j (k + 1) (v + if gtP d (L.pa.getD k default) then 1 else 0) (by omega) (by split <;> omega) (by split <;> omega)
  rw [show v + ((List.countP (gtP d) (List.drop (k + 1) L.pa) + if gtP d (L.pa.getD k default) = true then 1 else 0 : Nat) : Int) = (v + if gtP d (L.pa.getD k default) then 1 else 0) + (List.countP (gtP d) (List.drop (k + 1) L.pa) : Nat) by split <;> omega]
  exact .step (yp2 L d hd hp v k hk hy h0 h1) h2
end
def yl1 (d : List Int) (p : Idd) (L : Lp) : Nat := (if d.getD p.y.toNat default < p.n then 1 else 0) + L.th.countP (gtI d) + L.pa.countP (gtP d)
theorem yp7 (c : Option Nat) (t : List Rw) (p : Idd) (d : List Int) (hd : d.length = 7) (hp0 : 1 ≤ p.y) (hp1 : p.y ≤ t.length) (hp6 : p.y ≤ 6) (hn0 : 0 ≤ p.n) (hn1 : p.n < (t.getD (p.y - 1).toNat default).l.length) (ht : (atV t p.y p.n).th.length < 2 ^ 60) (hp : (atV t p.y p.n).pa.length < 2 ^ 60) (hyt : ∀ q ∈ (atV t p.y p.n).th, 0 ≤ q.y ∧ q.y ≤ 6) (hyp : ∀ q ∈ (atV t p.y p.n).pa, 0 ≤ q.y ∧ q.y ≤ 6) : PureC Try.prog 13 [tsl c t, Idd.enc p, .agg (d.map itI)] (it (yl1 d p (atV t p.y p.n))) := by
 obtain ⟨y, n⟩ := p
 simp only at *
 have hw : IntKind.wrap u8 (y - 1) = y - 1 := yhp (by omega) (by omega)
 have h0 : Tri Try.prog (cxN 81 0) (zqr Try.f13 0) [(0, tsl c t), (1, idE y n), (2, .agg (d.map itI))] .normal [(0, tsl c t), (4, .box [ub y, it n]), (5, .box (d.map itI))] := by
  match d, hd with
  | [d0, d1, d2, d3, d4, d5, d6], _ => exact .after (kp [0, 4, 5]) (ne0_0 c t y n d0 d1 d2 d3 d4 d5 d6)
 have h1 := ne1_0 c t y n d (by rw [hw, zla]; exact zlb ⟨by omega, by omega⟩) (by rw [hw]; exact yam (by omega)) (by rw [hw, zla]; exact zlb ⟨hn0, hn1⟩) (by rw [hw]; exact yck (by omega))
 rw [hw] at h1
 generalize hL : atV t y n = L at *
 have h1' : Tri Try.prog (cxN 81 0) (zqr Try.f13 1) [(0, tsl c t), (4, .box [ub y, it n]), (5, .box (d.map itI))] .normal [(4, .box [ub y, it n]), (5, .box (d.map itI)), (7, lpB L)] := by rw [← hL]; exact h1
 have h3 := ne3_0 L y n d hd (zlb ⟨by omega, Int.lt_of_le_of_lt hp6 (by decide), by decide⟩) (zlb ⟨rfl, by rw [zla, hd]; show _ * 1 < 7; omega⟩) (ydb (by omega))
 simp only [Nat.mul_one] at h3
 let v1 : Int := if d.getD y.toNat default < n then 1 else 0
 have h3' : Tri Try.prog (cxN 81 0) (.seq (zqr Try.f13 3) (.cond (.tmp 27) (zqr Try.f13 4) .skip)) [(4, .box [ub y, it n]), (5, .box (d.map itI)), (7, lpB L), (8, it 0)] .normal (nE L d v1) := by
  refine .seq h3 ?_
  by_cases hg : d.getD y.toNat default < n
  ·rw [zlb hg, show v1 = 0 + 1 from if_pos hg]
   have h4 := ne4_0 L d 0
   rw [yab (by omega) (by omega)] at h4
   exact .cond (b := true) rfl (.weak (kp [5, 7, 8]) h4)
  ·rw [zlc hg, show v1 = 0 from if_neg hg]
   exact .cond (b := false) rfl (.after (kp [5, 7, 8]) .skip)
 have hv0 : 0 ≤ v1 := by show 0 ≤ (if _ then (1 : Int) else 0); split <;> omega
 have hv1 : v1 ≤ 1 := by show (if _ then (1 : Int) else 0) ≤ 1; split <;> omega
 have hI := (ykd L d hd ht hyt L.th.length 0 v1 (by omega) hv0 (by omega)).loop
 rw [List.drop_zero] at hI
 have hcI : L.th.countP (gtI d) ≤ L.th.length := List.countP_le_length
 have hP := (ykc L d hd hp hyp L.pa.length 0 (v1 + (L.th.countP (gtI d) : Nat)) (by omega) (by omega) (by omega)).loop
 rw [List.drop_zero] at hP
 have hr : ((yl1 d ⟨y, n⟩ L : Nat) : Int) = v1 + (L.th.countP (gtI d) : Nat) + (L.pa.countP (gtP d) : Nat) := by
  show (((if d.getD y.toNat default < n then 1 else 0) + _ + _ : Nat) : Int) = (if d.getD y.toNat default < n then (1 : Int) else 0) + _ + _
  split <;> omega
 rw [hr]
 refine ycz ((base 81 0).ok zqb.1 zqb.2) Try.func13 rfl (by show 3 ≤ 81; omega) rfl ytd rfl (ex := .ret) (env' := [(6, it (v1 + (L.th.countP (gtI d) : Nat) + (L.pa.countP (gtP d) : Nat)))]) ?_ (by kernel_rfl)
 refine .seq h0 (.seq h1' (.seq (ne2_0 L y n d) (.seq h3' (.seq (.seq (ne5_0 L d v1) (.block (ex := .exit 0) hI (.inl ⟨rfl, rfl⟩))) (.seq (.seq (yxh L d _) (.block (ex := .exit 2) hP (.inl ⟨rfl, rfl⟩))) (.seq (.weak (kp [8]) (yxd _)) .ret))))))
set_option maxHeartbeats 0
def HOf (c : Option Nat) (x : List Lx) (m : List (List Lp)) (md : List Idd) : Prop := PureC Try.prog 9 [xsl c x] (.tup [tGW m, iow none md])
def HOr (t : List Rw) (l : List Idd) : Prop := PureC Try.prog 10 [tsl none t] (.tup [iow (some l.length) l, it 0])
theorem uHOr {t : List Rw} {l : List Idd} (h : HOr t l) : PureC Try.prog 10 [tsl none t] (.tup [iow (some l.length) l, it 0]) := h
def HNe (t : List Rw) (z n d0 d1 d2 d3 d4 d5 d6 : Int) (v : Int) : Prop := PureC Try.prog 13 [tsl none t, idE z n, .agg [it d0, it d1, it d2, it d3, it d4, it d5, it d6]] (it v)
theorem uHNe {t : List Rw} {z n d0 d1 d2 d3 d4 d5 d6 : Int} {v : Int} (h : HNe t z n d0 d1 d2 d3 d4 d5 d6 v) : PureC Try.prog 13 [tsl none t, idE z n, .agg [it d0, it d1, it d2, it d3, it d4, it d5, it d6]] (it v) := h
theorem yx7 (t : List Rw) (l : List Idd) (d : List Int) (i y : Int) (hd : d.length = 7) (g0 : decide (0 ≤ y ∧ y < ((7 : Nat) : Int) ∧ (0 : Nat) < (1 : Nat)) = true) (g1 : decide ((0 : Nat) = (0 : Nat) ∧ y.toNat * (1 : Nat) < (d.map itI).length) = true) (g2 : (d.map itI).getD (y.toNat * (1 : Nat)) AV.bad = itI (d.getD (y.toNat * (1 : Nat)) default)) : Tri Try.prog (cxN 100 0) (zqr Try.f3 13) ([(3, tsl none t), (5, isl (some l.length) l), (7, .box (d.map itI)), (8, it i), (9, bb false), (10, it y)]) .normal ([(3, tsl none t), (5, isl (some (l.length)) l), (7, AV.box (List.map itI d)), (8, it i), (9, bb false), (10, it y), (11, AV.box [ub (u8.wrap y), it (d.getD (y.toNat * (1 : Nat)) default)])]) :=
 ev h3 [.c, .c, .c, .b true, .c, .b true, .r (itI (d.getD (y.toNat * (1 : Nat)) default)), .c, .c, .c, .c] (allp g0 (allp g1 (allp g2 zqa)))
section
variable (c : Option Nat) (x : List Lx) (m : List (List Lp)) (md : List Idd) (h : HOf c x m md)
include h
end
section
variable (t : List Rw) (md l : List Idd) (h : HOr t l)
include h
end
theorem yfp {α : Type} {p : α → Bool} {l : List α} : l.countP p = 0 ↔ ∀ a ∈ l, p a = false := by
 rw [List.countP_eq_zero]
 exact ⟨fun h a ha => by simpa using h a ha, fun h a ha => by simp [h a ha]⟩
section
variable (m : List Int) (t : List Rw)
theorem yl0 (y n : Int) (L : Lp) (hy : okY L) (hn : (0 :: m).getD y.toNat default = n) : (yl1 (0 :: m) ⟨y, n⟩ L = 0 ↔ ybo m L = true) := by
 have gt : ∀ q : Idd, 1 ≤ q.y → (gtI (0 :: m) q = false ↔ q.n < gtM m q) := by
  intro q hq
  unfold gtI gtD gtM
  rw [show q.y.toNat = (q.y - 1).toNat + 1 by omega, List.getD_cons_succ]
  simp
 have e : yl1 (0 :: m) ⟨y, n⟩ L = L.th.countP (gtI (0 :: m)) + L.pa.countP (gtP (0 :: m)) := by
  unfold yl1
  rw [hn, if_neg (by simp), Nat.zero_add]
 rw [e, show (L.th.countP (gtI (0 :: m)) + L.pa.countP (gtP (0 :: m)) = 0 ↔ L.th.countP (gtI (0 :: m)) = 0 ∧ L.pa.countP (gtP (0 :: m)) = 0) by omega, yfp, yfp]
 unfold ybo
 rw [zls]
 constructor
 ·rintro ⟨h1, h2⟩ p hp
  rw [decide_eq_true_eq]
  refine (gt p (hy p hp).1).1 ?_
  rcases List.mem_append.1 hp with hp | hp
  ·exact h1 p hp
  ·obtain ⟨q, hq, rfl⟩ := List.mem_map.1 hp
   exact h2 q hq
 ·intro h
  refine ⟨fun p hp => ?_, fun q hq => ?_⟩
  ·have hm : p ∈ zqz L := List.mem_append_left _ hp
   exact (gt p (hy p hm).1).2 (of_decide_eq_true (h p hm))
  ·have hm : (⟨q.y, q.n⟩ : Idd) ∈ zqz L := List.mem_append_right _ (List.mem_map.2 ⟨q, hq, rfl⟩)
   exact (gt _ (hy _ hm).1).2 (of_decide_eq_true (h _ hm))
variable (l : List Idd) (i : Nat) (hL : OkL t) (hM : OkM m t) (h6 : t.length = 6)
abbrev loE (d : List Int) (i : Nat) : Env := [(3, tsl none t), (5, isl (some l.length) l), (7, .box (d.map itI)), (8, it i)]
include hL hM h6
end
section
variable (m : List Int) (t : List Rw) (l : List Idd) (i : Nat) (hL : OkL t) (hM : OkM m t) (h6 : t.length = 6)
include hM in
theorem lo13t (j : Nat) (hj : j < 6) : Tri Try.prog (cxN 100 0) (zqr Try.f3 13) (loE t l (0 :: m) i ++ [(9, bb false), (10, it (j + 1 : Nat))]) .normal (loE t l (0 :: m) i ++ [(9, bb false), (10, it (j + 1 : Nat)), (11, .box [ub (j + 1 : Nat), it (m.getD j default)])]) := by
 have hd : (0 :: m).length = 7 := by rw [List.length_cons, hM.len]
 have hy : ((j + 1 : Nat) : Int) < 7 := by omega
 have h := yx7 t l (0 :: m) i ((j + 1 : Nat) : Int) hd (zlb ⟨by omega, hy, by decide⟩) (zlb ⟨rfl, by rw [zla, hd]; show _ * 1 < 7; omega⟩) (ydb (by rw [hd]; omega))
 rw [yhp (by omega) (by omega), show Int.toNat ((j + 1 : Nat) : Int) * 1 = j + 1 by omega, List.getD_cons_succ] at h
 exact h
include hL hM h6
end
section
variable (m : List Int) (t : List Rw) (l : List Idd) (i : Nat) (hL : OkL t) (hM : OkM m t) (h6 : t.length = 6)
include hL hM h6
end
end Tst
end

section
open Go Go.Lf Go.Proofs
namespace Tst
set_option maxHeartbeats 0
section
variable (t : List Rw) (w : List Idd) (i k : Int) (d : List Int) (b : Bool) (y : Int)
abbrev cG : Env := [(0, tsl none t), (13, .box (d.map itI)), (14, bb b), (15, it y)]
abbrev cH : Env := [(0, tsl none t), (3, iow none w), (11, it i)]
theorem ysc : Tri Try.prog (cxN 193 0) (zqr Try.f22 29) ([(0, tsl none t), (3, iow none w)]) .normal ([(0, tsl none t), (3, iow none w), (11, it 0)]) :=
 ev h22 [.c] zqa
theorem ysb : Tri Try.prog (cxN 193 0) (zqr Try.f22 30) ((cH t w i) ) .normal ((cH t w i ++ [(130, bb (decide (i < ((w.map Idd.enc).length : Int))))])) :=
 ev h22 [.c, .c, .c, .c] zqa
theorem ch31_0 : Tri Try.prog (cxN 193 0) (zqr Try.f22 31) ((cH t w i) ) .normal ([(0, tsl none t), (3, iow none w), (11, it (i64.wrap (i + (1 : Int))))]) :=
 ev h22 [.c, .c, .c] zqa
theorem ysa : Tri Try.prog (cxN 193 0) (zqr Try.f22 32) ((cH t w i) ) .normal ((cH t w i ++ [(12, it 0)])) :=
 ev h22 [.c] zqa
theorem yr9 : Tri Try.prog (cxN 193 0) (zqr Try.f22 33) ((cH t w i ++ [(12, it k)]) ) .normal ((cH t w i ++ [(12, it k), (135, bb (decide (k < i)))])) :=
 ev h22 [.c, .c, .c] zqa
theorem ch34_0 : Tri Try.prog (cxN 193 0) (zqr Try.f22 34) ((cH t w i ++ [(12, it k)]) ) .normal ((cH t w i ++ [(12, it (i64.wrap (k + (1 : Int))))])) :=
 ev h22 [.c, .c, .c] zqa
theorem ch35_0 (g0 : decide ((0 : Int) ≤ k ∧ k < ((w.map Idd.enc).length : Int)) = true) (g1 : decide (k.toNat < (w.map Idd.enc).length) = true) (g2 : (w.map Idd.enc).getD (k.toNat) AV.bad = Idd.enc (w.getD (k.toNat) default)) (g3 : decide ((0 : Int) ≤ i ∧ i < ((w.map Idd.enc).length : Int)) = true) (g4 : decide (i.toNat < (w.map Idd.enc).length) = true) (g5 : (w.map Idd.enc).getD (i.toNat) AV.bad = Idd.enc (w.getD (i.toNat) default)) : Tri Try.prog (cxN 193 0) (zqr Try.f22 35) ((cH t w i ++ [(12, it k)]) ) .normal ((cH t w i ++ [(12, it k), (146, bb (Idd.y (w.getD (k.toNat) default) == Idd.y (w.getD (i.toNat) default) && Idd.n (w.getD (k.toNat) default) == Idd.n (w.getD (i.toNat) default)))])) :=
 ev h22 [.c, .c, .b true, .c, .b true, .r (Idd.enc (w.getD (k.toNat) default)), .c, .c, .c, .b true, .c, .b true, .r (Idd.enc (w.getD (i.toNat) default)), .c, .c] (allp g0 (allp g1 (allp g2 (allp g3 (allp g4 (allp g5 zqa))))))
theorem ch36_0 : Tri Try.prog (cxN 193 0) (zqr Try.f22 36) ([(0, tsl none t)]) .normal ([(2, it 8)]) :=
 ev h22 [.c] zqa
theorem ch37_0 : Tri Try.prog (cxN 193 0) (zqr Try.f22 37) ([(0, tsl none t)]) .normal ([(0, tsl none t), (13, .box [it 0, it 0, it 0, it 0, it 0, it 0, it 0])]) :=
 ev h22 [.c] zqa
theorem ch38_0 : Tri Try.prog (cxN 193 0) (zqr Try.f22 38) ([(0, tsl none t), (13, .box (d.map itI))]) .normal ([(0, tsl none t), (13, .box (d.map itI)), (14, bb true)]) :=
 ev h22 [.c] zqa
theorem yr8 : Tri Try.prog (cxN 193 0) (zqr Try.f22 39) ([(0, tsl none t), (13, .box (d.map itI)), (14, bb b)]) .normal ([(0, tsl none t), (13, .box (d.map itI)), (147, bb b)]) :=
 ev h22 [.c] zqa
theorem ch40_0 : Tri Try.prog (cxN 193 0) (zqr Try.f22 40) ([(0, tsl none t), (13, .box (d.map itI))]) .normal ([(0, tsl none t), (13, .box (d.map itI)), (14, bb false)]) :=
 ev h22 [.c] zqa
theorem ch41_0 : Tri Try.prog (cxN 193 0) (zqr Try.f22 41) ([(0, tsl none t), (13, .box (d.map itI)), (14, bb b)]) .normal ([(0, tsl none t), (13, .box (d.map itI)), (14, bb b), (15, it 6)]) :=
 ev h22 [.c] zqa
theorem yr7 : Tri Try.prog (cxN 193 0) (zqr Try.f22 42) ((cG t d b y) ) .normal ((cG t d b y ++ [(149, bb (decide ((1 : Int) ≤ y)))])) :=
 ev h22 [.c, .c] zqa
theorem yr6 : Tri Try.prog (cxN 193 0) (zqr Try.f22 43) ((cG t d b y) ) .normal ([(0, tsl none t), (13, .box (d.map itI)), (14, bb b), (15, it (i64.wrap (y - (1 : Int))))]) :=
 ev h22 [.c, .c, .c] zqa
theorem ch44_0 (hd : d.length = 7) (g0 : decide ((0 : Int) ≤ y ∧ y < ((7 : Nat) : Int) ∧ (0 : Nat) < (1 : Nat)) = true) (g1 : decide ((0 : Nat) = (0 : Nat) ∧ y.toNat * (1 : Nat) < (d.map itI).length) = true) (g2 : (d.map itI).getD (y.toNat * (1 : Nat)) AV.bad = itI (d.getD (y.toNat * (1 : Nat)) default)) : Tri Try.prog (cxN 193 0) (zqr Try.f22 44) ((cG t d b y) ) .normal ((cG t d b y ++ [(16, .box [ub (u8.wrap y), it (d.getD (y.toNat * (1 : Nat)) default)])])) :=
 ev h22 [.c, .c, .c, .b true, .c, .b true, .r (itI (d.getD (y.toNat * (1 : Nat)) default)), .c, .c, .c, .c] (allp g0 (allp g1 (allp g2 zqa)))
theorem ch45_0 (d0 d1 d2 d3 d4 d5 d6 : Int) (b : Bool) (y z n v : Int) (hne : HNe t z n d0 d1 d2 d3 d4 d5 d6 v) (g0 : decide ((0 : Int) ≤ i64.wrap (y - (1 : Int)) ∧ i64.wrap (y - (1 : Int)) < ((t.map Rw.enc).length : Int)) = true) (g1 : (t.map Rw.enc).getD ((i64.wrap (y - (1 : Int))).toNat) AV.bad = Rw.enc (t.getD ((i64.wrap (y - (1 : Int))).toNat) default)) (g2 : decide (n < (↑(List.length (List.map Lp.enc (Rw.l (t.getD ((i64.wrap (y - (1 : Int))).toNat) default)))) : Int)) = true) : Tri Try.prog (cxN 193 0) (zqr Try.f22 45) ([(0, tsl none t), (13, .box [it d0, it d1, it d2, it d3, it d4, it d5, it d6]), (14, bb b), (15, it y), (16, .box [ub z, it n])]) .normal ([(0, tsl none t), (13, .box [it d0, it d1, it d2, it d3, it d4, it d5, it d6]), (14, bb b), (15, it y), (173, bb (v == (0 : Int)))]) :=
 ev h22 [.c, .c, .c, .c, .c, .c, .c, .b true, .r (Rw.enc (t.getD ((i64.wrap (y - (1 : Int))).toNat) default)), .c, .c, .c, .c, .c, .b true, .c, .b true, .c, .b true, .c, .b true, .r (tsl none t), .r (it v), .c, .c, .b true, .c, .b true, .c] (allp g0 (allp g1 (allp g2 (allp g2 (allp g2 (allp g2 (allp (zqg .any none t) (allp (p := PureC Try.prog 13 [tsl none t, AV.agg [ub z, it n], AV.agg [it d0, it d1, it d2, it d3, it d4, it d5, it d6]] (it v)) (by apply uHNe<;>first|assumption|rfl|(simp at *<;>omega)) (allp g2 (allp g2 zqa))))))))))
theorem yvc (d0 d1 d2 d3 d4 d5 d6 : Int) (b : Bool) (y z n : Int) (g0 : decide ((0 : Int) ≤ i64.wrap (y - (1 : Int)) ∧ i64.wrap (y - (1 : Int)) < ((t.map Rw.enc).length : Int)) = true) (g1 : (t.map Rw.enc).getD ((i64.wrap (y - (1 : Int))).toNat) AV.bad = Rw.enc (t.getD ((i64.wrap (y - (1 : Int))).toNat) default)) (g2 : decide (n < (↑(List.length (List.map Lp.enc (Rw.l (t.getD ((i64.wrap (y - (1 : Int))).toNat) default)))) : Int)) = false) : Tri Try.prog (cxN 193 0) (zqr Try.f22 45) ([(0, tsl none t), (13, .box [it d0, it d1, it d2, it d3, it d4, it d5, it d6]), (14, bb b), (15, it y), (16, .box [ub z, it n])]) .normal ([(0, tsl none t), (13, .box [it d0, it d1, it d2, it d3, it d4, it d5, it d6]), (14, bb b), (15, it y), (173, bb false)]) :=
 ev h22 [.c, .c, .c, .c, .c, .c, .c, .b true, .r (Rw.enc (t.getD ((i64.wrap (y - (1 : Int))).toNat) default)), .c, .c, .c, .c, .c, .b false, .c, .b false, .c, .b false, .c, .b false, .c, .b false, .c, .b false, .c] (allp g0 (allp g1 (allp g2 (allp g2 (allp g2 (allp g2 (allp g2 (allp g2 zqa))))))))
theorem ch46_0 (hd : d.length = 7) (g0 : decide ((0 : Int) ≤ y ∧ y < ((7 : Nat) : Int) ∧ (0 : Nat) < (1 : Nat)) = true) (g1 : decide ((0 : Nat) = (0 : Nat) ∧ y.toNat * (1 : Nat) < (d.map itI).length) = true) (g2 : (d.map itI).getD (y.toNat * (1 : Nat)) AV.bad = itI (d.getD (y.toNat * (1 : Nat)) default)) : Tri Try.prog (cxN 193 0) (zqr Try.f22 46) ((cG t d b y) ) .normal ([(0, tsl none t), (13, .box (List.take (y.toNat * (1 : Nat)) (List.map itI d) ++ [it (i64.wrap (d.getD (y.toNat * (1 : Nat)) default + (1 : Int)))] ++ List.drop (y.toNat * (1 : Nat) + (1 : Nat)) (List.map itI d))), (15, it y)]) :=
 ev h22 [.c, .b true, .c, .b true, .r (itI (d.getD (y.toNat * (1 : Nat)) default)), .c, .c, .b true, .c, .b true, .r (itI (d.getD (y.toNat * (1 : Nat)) default)), .c] (allp g0 (allp g1 (allp g2 (allp g0 (allp g1 (allp g2 zqa))))))
theorem ch47_0 : Tri Try.prog (cxN 193 0) (zqr Try.f22 47) ([(0, tsl none t), (13, .box (d.map itI)), (15, it y)]) .normal ([(0, tsl none t), (13, .box (d.map itI)), (14, bb true), (15, it y)]) :=
 ev h22 [.c] zqa
theorem yr5 : Tri Try.prog (cxN 193 0) (zqr Try.f22 48) ([(0, tsl none t), (13, .box (d.map itI))]) .normal ([(0, tsl none t), (13, .box (d.map itI)), (17, it 1)]) :=
 ev h22 [.c] zqa
theorem yr4 : Tri Try.prog (cxN 193 0) (zqr Try.f22 49) ([(0, tsl none t), (13, .box (d.map itI)), (17, it y)]) .normal ([(0, tsl none t), (13, .box (d.map itI)), (17, it y), (180, bb (decide (y ≤ (6 : Int))))]) :=
 ev h22 [.c, .c] zqa
theorem ch50_0 : Tri Try.prog (cxN 193 0) (zqr Try.f22 50) ([(0, tsl none t), (13, .box (d.map itI)), (17, it y)]) .normal ([(0, tsl none t), (13, .box (d.map itI)), (17, it (i64.wrap (y + (1 : Int))))]) :=
 ev h22 [.c, .c, .c] zqa
theorem ch51_0 (hd : d.length = 7) (g0 : decide ((0 : Int) ≤ y ∧ y < ((7 : Nat) : Int) ∧ (0 : Nat) < (1 : Nat)) = true) (g1 : decide ((0 : Nat) = (0 : Nat) ∧ y.toNat * (1 : Nat) < (d.map itI).length) = true) (g2 : (d.map itI).getD (y.toNat * (1 : Nat)) AV.bad = itI (d.getD (y.toNat * (1 : Nat)) default)) (g3 : decide ((0 : Int) ≤ i64.wrap (y - (1 : Int)) ∧ i64.wrap (y - (1 : Int)) < ((t.map Rw.enc).length : Int)) = true) (g4 : (t.map Rw.enc).getD ((i64.wrap (y - (1 : Int))).toNat) AV.bad = Rw.enc (t.getD ((i64.wrap (y - (1 : Int))).toNat) default)) : Tri Try.prog (cxN 193 0) (zqr Try.f22 51) ([(0, tsl none t), (13, .box (d.map itI)), (17, it y)]) .normal ([(0, tsl none t), (13, .box (d.map itI)), (17, it y), (192, bb (d.getD (y.toNat * (1 : Nat)) default != (↑(List.length (List.map Lp.enc (Rw.l (t.getD ((i64.wrap (y - (1 : Int))).toNat) default)))) : Int)))]) :=
 ev h22 [.c, .b true, .c, .b true, .r (itI (d.getD (y.toNat * (1 : Nat)) default)), .c, .c, .c, .c, .b true, .r (Rw.enc (t.getD ((i64.wrap (y - (1 : Int))).toNat) default)), .c, .c, .c, .c] (allp g0 (allp g1 (allp g2 (allp g3 (allp g4 zqa)))))
theorem ch52_0 : Tri Try.prog (cxN 193 0) (zqr Try.f22 52) ([(0, tsl none t)]) .normal ([(2, it 6)]) :=
 ev h22 [.c] zqa
theorem ch53_0 : Tri Try.prog (cxN 193 0) (zqr Try.f22 53) ([(0, tsl none t)]) .normal ([(2, it 0)]) :=
 ev h22 [.c] zqa
end
theorem lth_0 (t : List Rw) (y n : Int) (g0 : decide ((1 : Int) ≤ y) = true) (g1 : decide (i64.wrap y ≤ ((t.map Rw.enc).length : Int)) = true) (g2 : decide ((0 : Int) ≤ n) = true) (g3 : decide ((0 : Int) ≤ u8.wrap (y - (1 : Int)) ∧ u8.wrap (y - (1 : Int)) < ((t.map Rw.enc).length : Int)) = true) (g4 : (t.map Rw.enc).getD ((u8.wrap (y - (1 : Int))).toNat) AV.bad = Rw.enc (t.getD ((u8.wrap (y - (1 : Int))).toNat) default)) : PureC Try.prog 23 [tsl none t, idE y n]  (bb (decide (n < (↑(List.length (List.map Lp.enc (Rw.l (t.getD ((u8.wrap (y - (1 : Int))).toNat) default)))) : Int)))) :=
 zqj (H := h23) (n := 33) (ans := [.c, .c, .c, .c, .c, .c, .c, .c, .b true, .c, .b true, .c, .c, .c, .b true, .c, .b true, .c, .b true, .c, .b true, .c, .b true, .c, .c, .b true, .c, .b true, .c, .c, .c, .b true, .c, .b true, .c, .c, .b true, .c, .b true, .c, .c, .c, .b true, .c, .b true, .c, .b true, .c, .c, .c, .b true, .c, .b true, .b true, .r (Rw.enc (t.getD ((u8.wrap (y - (1 : Int))).toNat) default)), .c, .b true, .c, .b true, .c, .b true, .c, .b true, .c, .c]) (base 33 0) Try.func23 rfl (by simp) rfl (by kernel_rfl) (allp g0 (allp g0 (allp g0 (allp g0 (allp g0 (allp g0 (allp g0 (allp g1 (allp g1 (allp g1 (allp g1 (allp g2 (allp g2 (allp g2 (allp g2 (allp g2 (allp g2 (allp g2 (allp g3 (allp g4 (allp g2 (allp g2 (allp g2 (allp g2 zqa))))))))))))))))))))))))
theorem lth_1 (t : List Rw) (y n : Int) (g0 : decide ((1 : Int) ≤ y) = true) (g1 : decide (i64.wrap y ≤ ((t.map Rw.enc).length : Int)) = true) (g2 : decide ((0 : Int) ≤ n) = false) : PureC Try.prog 23 [tsl none t, idE y n]  (bb false) :=
 zqj (H := h23) (n := 33) (ans := [.c, .c, .c, .c, .c, .c, .c, .c, .b true, .c, .b true, .c, .c, .c, .b true, .c, .b true, .c, .b true, .c, .b true, .c, .b true, .c, .c, .b true, .c, .b true, .c, .c, .c, .b true, .c, .b true, .c, .c, .b false, .c, .b false, .c, .b false, .c, .b false, .c, .b false, .c, .b false, .c, .b false, .c, .b false, .c, .b false, .c, .b false, .c, .b false, .c, .c]) (base 33 0) Try.func23 rfl (by simp) rfl (by kernel_rfl) (allp g0 (allp g0 (allp g0 (allp g0 (allp g0 (allp g0 (allp g0 (allp g1 (allp g1 (allp g1 (allp g1 (allp g2 (allp g2 (allp g2 (allp g2 (allp g2 (allp g2 (allp g2 (allp g2 (allp g2 (allp g2 (allp g2 zqa))))))))))))))))))))))
theorem lth_2 (t : List Rw) (y n : Int) (g0 : decide ((1 : Int) ≤ y) = true) (g1 : decide (i64.wrap y ≤ ((t.map Rw.enc).length : Int)) = false) : PureC Try.prog 23 [tsl none t, idE y n]  (bb false) :=
 zqj (H := h23) (n := 33) (ans := [.c, .c, .c, .c, .c, .c, .c, .c, .b true, .c, .b true, .c, .c, .c, .b true, .c, .b true, .c, .b true, .c, .b true, .c, .b true, .c, .c, .b false, .c, .b false, .c, .b false, .c, .b false, .c, .c, .c, .c, .c, .c, .c, .c, .c, .c, .c, .c, .c, .c, .c, .c, .c, .c, .c, .c, .c, .c, .c, .c, .c]) (base 33 0) Try.func23 rfl (by simp) rfl (by kernel_rfl) (allp g0 (allp g0 (allp g0 (allp g0 (allp g0 (allp g0 (allp g0 (allp g1 (allp g1 (allp g1 (allp g1 zqa)))))))))))
theorem lth_3 (t : List Rw) (y n : Int) (g0 : decide ((1 : Int) ≤ y) = false) : PureC Try.prog 23 [tsl none t, idE y n]  (bb false) :=
 zqj (H := h23) (n := 33) (ans := [.c, .c, .c, .c, .c, .c, .c, .c, .b false, .c, .b false, .c, .b false, .c, .b false, .c, .b false, .c, .b false, .c, .b false, .c, .c, .c, .c, .c, .c, .c, .c, .c, .c, .c, .c, .c, .c, .c, .c, .c, .c, .c, .c, .c, .c, .c, .c, .c, .c, .c, .c, .c, .c, .c, .c, .c, .c]) (base 33 0) Try.func23 rfl (by simp) rfl (by kernel_rfl) (allp g0 (allp g0 (allp g0 (allp g0 (allp g0 (allp g0 (allp g0 zqa)))))))
def HTh (t : List Rw) (y n : Int) (b : Bool) : Prop := PureC Try.prog 23 [tsl none t, idE y n] (bb b)
theorem uHTh {t : List Rw} {y n : Int} {b : Bool} (h : HTh t y n b) : PureC Try.prog 23 [tsl none t, idE y n] (bb b) := h
section
variable (t : List Rw) (w : List Idd) (y i : Int) (L : Lp) (k : Int) (p q : Ps)
abbrev cD : Env := [(0, tsl none t), (3, iow none w), (4, it y), (5, it i), (6, lpB L)]
theorem ch0_0 : Tri Try.prog (cxN 193 0) (zqr Try.f22 0) ([(0, tsl none t)]) .normal ([(0, tsl none t)]) :=
 ev h22 [.c] zqa
theorem ch1_0 : Tri Try.prog (cxN 193 0) (zqr Try.f22 1) ([(0, tsl none t)]) .normal ([(0, tsl none t), (20, bb (((t.map Rw.enc).length : Int) != (6 : Int)))]) :=
 ev h22 [.c, .c, .c] zqa
theorem ch2_0 : Tri Try.prog (cxN 193 0) (zqr Try.f22 2) ([(0, tsl none t)]) .normal ([(2, it 5)]) :=
 ev h22 [.c] zqa
theorem ch3_0 : Tri Try.prog (cxN 193 0) (zqr Try.f22 3) ([(0, tsl none t)]) .normal ([(0, tsl none t), (3, zqw)]) :=
 ev h22 [.c] zqa
theorem ch4_0 : Tri Try.prog (cxN 193 0) (zqr Try.f22 4) ([(0, tsl none t), (3, iow none w)]) .normal ([(0, tsl none t), (3, iow none w), (4, it 0)]) :=
 ev h22 [.c] zqa
theorem ch5_0 : Tri Try.prog (cxN 193 0) (zqr Try.f22 5) ([(0, tsl none t), (3, iow none w), (4, it y)]) .normal ([(0, tsl none t), (3, iow none w), (4, it y), (22, bb (decide (y < (6 : Int))))]) :=
 ev h22 [.c, .c] zqa
theorem ch6_0 : Tri Try.prog (cxN 193 0) (zqr Try.f22 6) ([(0, tsl none t), (3, iow none w), (4, it y)]) .normal ([(0, tsl none t), (3, iow none w), (4, it (i64.wrap (y + (1 : Int))))]) :=
 ev h22 [.c, .c, .c] zqa
theorem ch7_0 : Tri Try.prog (cxN 193 0) (zqr Try.f22 7) ([(0, tsl none t), (3, iow none w), (4, it y)]) .normal ([(0, tsl none t), (3, iow none w), (4, it y), (5, it 0)]) :=
 ev h22 [.c] zqa
theorem ch8_0 (g0 : decide ((0 : Int) ≤ y ∧ y < ((t.map Rw.enc).length : Int)) = true) (g1 : (t.map Rw.enc).getD (y.toNat) AV.bad = Rw.enc (t.getD (y.toNat) default)) : Tri Try.prog (cxN 193 0) (zqr Try.f22 8) ([(0, tsl none t), (3, iow none w), (4, it y), (5, it i)]) .normal ([(0, tsl none t), (3, iow none w), (4, it y), (5, it i), (31, bb (decide (i < (↑(((Rw.l (t.getD (y.toNat) default)).map Lp.enc).length) : Int))))]) :=
 ev h22 [.c, .c, .c, .b true, .r (Rw.enc (t.getD (y.toNat) default)), .c, .c, .c, .c] (allp g0 (allp g1 zqa))
theorem ch9_0 : Tri Try.prog (cxN 193 0) (zqr Try.f22 9) ([(0, tsl none t), (3, iow none w), (4, it y), (5, it i)]) .normal ([(0, tsl none t), (3, iow none w), (4, it y), (5, it (i64.wrap (i + (1 : Int))))]) :=
 ev h22 [.c, .c, .c] zqa
theorem ch10_0 (g0 : decide ((0 : Int) ≤ y ∧ y < ((t.map Rw.enc).length : Int)) = true) (g1 : (t.map Rw.enc).getD (y.toNat) AV.bad = Rw.enc (t.getD (y.toNat) default)) (g2 : decide ((0 : Int) ≤ i ∧ i < (↑(((Rw.l (t.getD (y.toNat) default)).map Lp.enc).length) : Int)) = true) (g3 : ((Rw.l (t.getD (y.toNat) default)).map Lp.enc).getD (i.toNat) AV.bad = Lp.enc ((Rw.l (t.getD (y.toNat) default)).getD (i.toNat) default)) : Tri Try.prog (cxN 193 0) (zqr Try.f22 10) ([(0, tsl none t), (3, iow none w), (4, it y), (5, it i)]) .normal ([(0, tsl none t), (3, iow none w), (4, it y), (5, it i), (6, .box [ub (Lp.b ((Rw.l (t.getD (y.toNat) default)).getD (i.toNat) default)), bb (Lp.w ((Rw.l (t.getD (y.toNat) default)).getD (i.toNat) default)), isl (Lp.ct ((Rw.l (t.getD (y.toNat) default)).getD (i.toNat) default)) (Lp.th ((Rw.l (t.getD (y.toNat) default)).getD (i.toNat) default)), sl (Lp.cp ((Rw.l (t.getD (y.toNat) default)).getD (i.toNat) default)) (Lp.pa ((Rw.l (t.getD (y.toNat) default)).getD (i.toNat) default))])]) :=
 ev h22 [.c, .c, .b true, .r (Rw.enc (t.getD (y.toNat) default)), .c, .c, .c, .b true, .r (Lp.enc ((Rw.l (t.getD (y.toNat) default)).getD (i.toNat) default)), .c, .c, .c, .c] (allp g0 (allp g1 (allp g2 (allp g3 zqa))))
theorem ch11_0 (g0 : decide ((1 : Int) < Lp.b L) = true) : Tri Try.prog (cxN 193 0) (zqr Try.f22 11) ((cD t w y i L) ) .normal ((cD t w y i L ++ [(58, bb true)])) :=
 ev h22 [.c, .c, .c, .c, .c, .c, .b true, .c, .b true, .c, .b true, .c, .b true, .c, .b true, .c, .c, .c, .c, .c, .c, .c, .c, .c, .c, .c, .c, .c, .c, .c] (allp g0 (allp g0 (allp g0 (allp g0 (allp g0 zqa)))))
theorem ch11_1 (g0 : decide ((1 : Int) < Lp.b L) = false) (g1 : decide ((4 : Int) < (↑(((Lp.th L).map Idd.enc).length) : Int)) = true) : Tri Try.prog (cxN 193 0) (zqr Try.f22 11) ((cD t w y i L) ) .normal ((cD t w y i L ++ [(58, bb true)])) :=
 ev h22 [.c, .c, .c, .c, .c, .c, .b false, .c, .b false, .c, .c, .c, .b false, .c, .b false, .c, .b false, .c, .c, .b true, .c, .b true, .c, .b true, .c, .c, .c, .c, .b true, .c, .b true, .c] (allp g0 (allp g0 (allp g0 (allp g0 (allp g0 (allp g1 (allp g1 (allp g1 (allp g1 (allp g1 zqa))))))))))
theorem ch11_2 (g0 : decide ((1 : Int) < Lp.b L) = false) (g1 : decide ((4 : Int) < (↑(((Lp.th L).map Idd.enc).length) : Int)) = false) (g2 : (i == (0 : Int)) = true) : Tri Try.prog (cxN 193 0) (zqr Try.f22 11) ((cD t w y i L) ) .normal ((cD t w y i L ++ [(58, bb !Lp.w L)])) :=
 ev h22 [.c, .c, .c, .c, .c, .c, .b false, .c, .b false, .c, .c, .c, .b false, .c, .b false, .c, .b false, .c, .c, .b false, .c, .b false, .c, .b false, .c, .b true, .c, .b true, .c, .c, .c, .b true, .c, .b false, .b true, .c, .b false, .c] (allp g0 (allp g0 (allp g0 (allp g0 (allp g0 (allp g1 (allp g1 (allp g1 (allp g2 (allp g2 (allp g2 (allp g1 (allp g2 (allp g1 zqa))))))))))))))
theorem ch11_3 (g0 : decide ((1 : Int) < Lp.b L) = false) (g1 : decide ((4 : Int) < (↑(((Lp.th L).map Idd.enc).length) : Int)) = false) (g2 : (i == (0 : Int)) = false) : Tri Try.prog (cxN 193 0) (zqr Try.f22 11) ((cD t w y i L) ) .normal ((cD t w y i L ++ [(58, bb false)])) :=
 ev h22 [.c, .c, .c, .c, .c, .c, .b false, .c, .b false, .c, .c, .c, .b false, .c, .b false, .c, .b false, .c, .c, .b false, .c, .b false, .c, .b false, .c, .b false, .c, .b false, .c, .b false, .c, .b false, .b false, .c, .b false, .c] (allp g0 (allp g0 (allp g0 (allp g0 (allp g0 (allp g1 (allp g1 (allp g1 (allp g2 (allp g2 (allp g2 (allp g1 (allp g2 (allp g1 zqa))))))))))))))
theorem ch12_0 : Tri Try.prog (cxN 193 0) (zqr Try.f22 12) ((cD t w y i L) ) .normal ([(2, it 1)]) :=
 ev h22 [.c] zqa
theorem yot : Tri Try.prog (cxN 193 0) (zqr Try.f22 13) ((cD t w y i L) ) .normal ((cD t w y i L ++ [(7, it 0)])) :=
 ev h22 [.c] zqa
theorem ysf : Tri Try.prog (cxN 193 0) (zqr Try.f22 14) ((cD t w y i L ++ [(7, it k)]) ) .normal ((cD t w y i L ++ [(7, it k), (63, bb (decide (k < (↑(((Lp.pa L).map Ps.enc).length) : Int))))])) :=
 ev h22 [.c, .c, .c, .c, .c, .c, .c] zqa
theorem ch15_0 : Tri Try.prog (cxN 193 0) (zqr Try.f22 15) ((cD t w y i L ++ [(7, it k)]) ) .normal ((cD t w y i L ++ [(7, it (i64.wrap (k + (1 : Int))))])) :=
 ev h22 [.c, .c, .c] zqa
theorem ch16_0 (g0 : decide ((0 : Int) ≤ k ∧ k < (↑(((Lp.pa L).map Ps.enc).length) : Int)) = true) (g1 : ((Lp.pa L).map Ps.enc).getD (k.toNat) AV.bad = Ps.enc ((Lp.pa L).getD (k.toNat) default)) : Tri Try.prog (cxN 193 0) (zqr Try.f22 16) ((cD t w y i L ++ [(7, it k)]) ) .normal ((cD t w y i L ++ [(7, it k), (8, .box [ub (Ps.y ((Lp.pa L).getD (k.toNat) default)), it (Ps.n ((Lp.pa L).getD (k.toNat) default)), bb (Ps.f ((Lp.pa L).getD (k.toNat) default)), ub (Ps.d ((Lp.pa L).getD (k.toNat) default))])])) :=
 ev h22 [.c, .c, .c, .c, .c, .b true, .r (Ps.enc ((Lp.pa L).getD (k.toNat) default)), .c, .c, .c, .c] (allp g0 (allp g1 zqa))
theorem ch17_0 (b : Bool) (h : HTh t p.y p.n b) (g0 : decide ((1 : Int) < Ps.d p) = true) : Tri Try.prog (cxN 193 0) (zqr Try.f22 17) ((cD t w y i L ++ [(7, it k), (8, .box [ub p.y, it p.n, bb p.f, ub p.d])]) ) .normal ((cD t w y i L ++ [(7, it k), (8, .box [ub p.y, it p.n, bb p.f, ub p.d]), (80, bb true)])) :=
 ev h22 [.c, .c, .c, .c, .c, .c, .b true, .c, .b true, .c, .b true, .c, .b true, .c, .b true, .c, .b true, .c] (allp g0 (allp g0 (allp g0 (allp g0 (allp g0 (allp g0 zqa))))))
theorem ch17_1 (b : Bool) (h : HTh t p.y p.n b) (g0 : decide ((1 : Int) < Ps.d p) = false) : Tri Try.prog (cxN 193 0) (zqr Try.f22 17) ((cD t w y i L ++ [(7, it k), (8, .box [ub p.y, it p.n, bb p.f, ub p.d])]) ) .normal ((cD t w y i L ++ [(7, it k), (8, .box [ub p.y, it p.n, bb p.f, ub p.d]), (80, bb !b)])) :=
 ev h22 [.c, .c, .c, .c, .c, .c, .b false, .c, .b false, .c, .b false, .c, .b false, .r (tsl none t), .r (bb b), .c, .c, .b false, .c, .b false, .c] (allp g0 (allp g0 (allp g0 (allp g0 (allp (zqg .any none t) (allp (p := PureC Try.prog 23 [tsl none t, AV.agg [ub (Ps.y p), it (Ps.n p)]] (bb b)) (by apply uHTh<;>first|assumption|rfl|(simp at *<;>omega)) (allp g0 (allp g0 zqa))))))))
theorem ch18_0 : Tri Try.prog (cxN 193 0) (zqr Try.f22 18) ([(0, tsl none t)]) .normal ([(2, it 1)]) :=
 ev h22 [.c] zqa
theorem ch19_0 : Tri Try.prog (cxN 193 0) (zqr Try.f22 19) ((cD t w y i L ++ [(7, it k), (8, .box [ub p.y, it p.n, bb p.f, ub p.d])]) ) .normal ((cD t w y i L ++ [(7, it k), (8, .box [ub p.y, it p.n, bb p.f, ub p.d]), (82, bb (decide ((0 : Int) < k)))])) :=
 ev h22 [.c, .c] zqa
theorem ch20_0 (g0 : decide ((0 : Int) ≤ i64.wrap (k - (1 : Int)) ∧ i64.wrap (k - (1 : Int)) < (↑(((Lp.pa L).map Ps.enc).length) : Int)) = true) (g1 : ((Lp.pa L).map Ps.enc).getD ((i64.wrap (k - (1 : Int))).toNat) AV.bad = Ps.enc ((Lp.pa L).getD ((i64.wrap (k - (1 : Int))).toNat) default)) : Tri Try.prog (cxN 193 0) (zqr Try.f22 20) ((cD t w y i L ++ [(7, it k), (8, .box [ub p.y, it p.n, bb p.f, ub p.d])]) ) .normal ((cD t w y i L ++ [(7, it k), (8, .box [ub p.y, it p.n, bb p.f, ub p.d]), (9, .box [ub (Ps.y ((Lp.pa L).getD ((i64.wrap (k - (1 : Int))).toNat) default)), it (Ps.n ((Lp.pa L).getD ((i64.wrap (k - (1 : Int))).toNat) default)), bb (Ps.f ((Lp.pa L).getD ((i64.wrap (k - (1 : Int))).toNat) default)), ub (Ps.d ((Lp.pa L).getD ((i64.wrap (k - (1 : Int))).toNat) default))])])) :=
 ev h22 [.c, .c, .c, .c, .c, .c, .b true, .r (Ps.enc ((Lp.pa L).getD ((i64.wrap (k - (1 : Int))).toNat) default)), .c, .c, .c, .c] (allp g0 (allp g1 zqa))
theorem ch21_0 (g0 : (Ps.y q == Ps.y p && Ps.n q == Ps.n p) = true) (g1 : (Ps.f q == Ps.f p) = true) : Tri Try.prog (cxN 193 0) (zqr Try.f22 21) ((cD t w y i L ++ [(7, it k), (8, .box [ub p.y, it p.n, bb p.f, ub p.d]), (9, .box [ub q.y, it q.n, bb q.f, ub q.d])]) ) .normal ((cD t w y i L ++ [(7, it k), (107, bb (Ps.d q != Ps.d p))])) :=
 ev h22 [.c, .c, .c, .c, .c, .c, .b true, .c, .b true, .c, .c, .c, .b true, .c, .b true, .c, .c, .c, .b true, .c, .b true, .c, .c, .b true, .c, .b true, .c, .c, .c, .b true, .c, .b true, .c, .c, .c, .b true, .c, .b true, .c] (allp g0 (allp g0 (allp g0 (allp g0 (allp g0 (allp g0 (allp g1 (allp g1 (allp g1 (allp g1 (allp g1 (allp g1 zqa))))))))))))
theorem ch21_1 (g0 : (Ps.y q == Ps.y p && Ps.n q == Ps.n p) = true) (g1 : (Ps.f q == Ps.f p) = false) : Tri Try.prog (cxN 193 0) (zqr Try.f22 21) ((cD t w y i L ++ [(7, it k), (8, .box [ub p.y, it p.n, bb p.f, ub p.d]), (9, .box [ub q.y, it q.n, bb q.f, ub q.d])]) ) .normal ((cD t w y i L ++ [(7, it k), (107, bb false)])) :=
 ev h22 [.c, .c, .c, .c, .c, .c, .b true, .c, .b true, .c, .c, .c, .b true, .c, .b true, .c, .c, .c, .b true, .c, .b true, .c, .c, .b false, .c, .b false, .c, .b false, .c, .b false, .c, .b false, .c, .b false, .c] (allp g0 (allp g0 (allp g0 (allp g0 (allp g0 (allp g0 (allp g1 (allp g1 (allp g1 (allp g1 (allp g1 (allp g1 zqa))))))))))))
theorem ch21_2 (g0 : (Ps.y q == Ps.y p && Ps.n q == Ps.n p) = false) : Tri Try.prog (cxN 193 0) (zqr Try.f22 21) ((cD t w y i L ++ [(7, it k), (8, .box [ub p.y, it p.n, bb p.f, ub p.d]), (9, .box [ub q.y, it q.n, bb q.f, ub q.d])]) ) .normal ((cD t w y i L ++ [(7, it k), (107, bb false)])) :=
 ev h22 [.c, .c, .c, .c, .c, .c, .b false, .c, .b false, .c, .b false, .c, .b false, .c, .b false, .c, .b false, .c, .c, .c, .c, .c, .c, .c, .c, .c, .c, .c, .c, .c, .c] (allp g0 (allp g0 (allp g0 (allp g0 (allp g0 (allp g0 zqa))))))
theorem ch22_0 : Tri Try.prog (cxN 193 0) (zqr Try.f22 22) ([(0, tsl none t)]) .normal ([(2, it 1)]) :=
 ev h22 [.c] zqa
theorem yse : Tri Try.prog (cxN 193 0) (zqr Try.f22 23) ((cD t w y i L) ) .normal ((cD t w y i L ++ [(10, it 0)])) :=
 ev h22 [.c] zqa
theorem ysd : Tri Try.prog (cxN 193 0) (zqr Try.f22 24) ((cD t w y i L ++ [(10, it k)]) ) .normal ((cD t w y i L ++ [(10, it k), (112, bb (decide (k < (↑(((Lp.th L).map Idd.enc).length) : Int))))])) :=
 ev h22 [.c, .c, .c, .c, .c, .c, .c] zqa
theorem ch25_0 : Tri Try.prog (cxN 193 0) (zqr Try.f22 25) ((cD t w y i L ++ [(10, it k)]) ) .normal ((cD t w y i L ++ [(10, it (i64.wrap (k + (1 : Int))))])) :=
 ev h22 [.c, .c, .c] zqa
theorem ch26_0 (b : Bool) (h : HTh t (L.th.getD k.toNat default).y (L.th.getD k.toNat default).n b) (g0 : decide ((0 : Int) ≤ k ∧ k < (↑(((Lp.th L).map Idd.enc).length) : Int)) = true) (g1 : ((Lp.th L).map Idd.enc).getD (k.toNat) AV.bad = Idd.enc ((Lp.th L).getD (k.toNat) default)) : Tri Try.prog (cxN 193 0) (zqr Try.f22 26) ((cD t w y i L ++ [(10, it k)]) ) .normal ((cD t w y i L ++ [(10, it k), (122, bb !b)])) :=
 ev h22 [.c, .c, .c, .c, .c, .c, .b true, .r (Idd.enc ((Lp.th L).getD (k.toNat) default)), .c, .c, .r (tsl none t), .r (bb b), .c, .c, .c] (allp g0 (allp g1 (allp (zqg .any none t) (allp (p := PureC Try.prog 23 [tsl none t, AV.agg [ub (Idd.y ((Lp.th L).getD (k.toNat) default)), it (Idd.n ((Lp.th L).getD (k.toNat) default))]] (bb b)) (by apply uHTh<;>first|assumption|rfl|(simp at *<;>omega)) zqa))))
theorem ch27_0 : Tri Try.prog (cxN 193 0) (zqr Try.f22 27) ([(0, tsl none t)]) .normal ([(2, it 1)]) :=
 ev h22 [.c] zqa
theorem ch28_0 (g0 : decide ((26 : Nat) = (26 : Nat) ∧ (List.all (List.map Idd.enc (Lp.th L)) fun y => List.all (AV.ecells y) zqt) = true ∧ (List.all (List.map Idd.enc (Lp.th L)) fun y => decide ((AV.ecells y).length = List.length (TInfo.zero { zero := [Value.int u8 (0 : Int), Value.int i64 (0 : Int)], bytes := (16 : Nat), agg := true, kind := TK.struct [((0 : Nat), (1 : Nat)), ((1 : Nat), (1 : Nat))] }))) = true) = true) (g1 : decide ((w.map Idd.enc).length + ((Lp.th L).map Idd.enc).length ≤ (4294967296 : Nat)) = true) (g2 : AV.sl .own 36 none (List.map Idd.enc w ++ List.map Idd.enc (Lp.th L)) = iow none (w ++ Lp.th L)) : Tri Try.prog (cxN 193 0) (zqr Try.f22 28) ((cD t w y i L) ) .normal ([(0, tsl none t), (3, iow none (w ++ Lp.th L)), (4, it y), (5, it i)]) :=
 ev h22 [.c, .c, .c, .c, .c, .b true, .b true, .r (iow none (w ++ Lp.th L)), .c] (allp g0 (allp g1 (allp g2 zqa)))
end
theorem yxz (t : List Rw) (y n : Int) (h0 : 0 ≤ y) (h1 : y ≤ 255) : HTh t y n (hasV t y n) := by
 unfold HTh hasV
 have w1 : IntKind.wrap i64 y = y := yab (by omega) (by omega)
 by_cases a : 1 ≤ y
 ·have w := ygp a h1
  by_cases b : y ≤ t.length
  ·by_cases c : 0 ≤ n
   ·have h := lth_0 t y n (zlb a)
    rw [w, w1] at h
    have h := h (zlb (by rw [zla]; exact b)) (zlb c) (zlb (by rw [zla]; omega)) (yam (by omega))
    rw [zla] at h
    rw [zlb a, zlb b, zlb c]
    exact h
   ·rw [zlc c, Bool.and_false, Bool.false_and]
    have h := lth_1 t y n (zlb a)
    rw [w1] at h
    exact h (zlb (by rw [zla]; exact b)) (zlc c)
  ·rw [zlc b, Bool.and_false, Bool.false_and, Bool.false_and]
   have h := lth_2 t y n (zlb a)
   rw [w1] at h
   exact h (zlc (by rw [zla]; exact b))
 ·rw [zlc a, Bool.false_and, Bool.false_and, Bool.false_and]
  exact lth_3 t y n (zlc a)
theorem yu9 : zqc Try.f22 0 = .seq (.seq (zqr Try.f22 5) (.cond (.tmp 22) .skip (.exit 0))) (.seq (.block 1 (.seq (zqr Try.f22 7) (.block 2 (.loop (zqc Try.f22 1))))) (zqr Try.f22 6)) := by kernel_rfl
theorem yos : zqc Try.f22 1 = .seq (.seq (zqr Try.f22 8) (.cond (.tmp 31) .skip (.exit 2))) (.seq (.block 3 (.seq (zqr Try.f22 10) (.seq (.seq (zqr Try.f22 11) (.cond (.tmp 58) (.seq (zqr Try.f22 12) .ret) .skip)) (.seq (.seq (zqr Try.f22 13) (.block 4 (.loop (zqc Try.f22 2)))) (.seq (.seq (zqr Try.f22 23) (.block 6 (.loop (zqc Try.f22 3)))) (zqr Try.f22 28)))))) (zqr Try.f22 9)) := by kernel_rfl
theorem yor : zqc Try.f22 2 = .seq (.seq (zqr Try.f22 14) (.cond (.tmp 63) .skip (.exit 4))) (.seq (.block 5 (.seq (zqr Try.f22 16) (.seq (.seq (zqr Try.f22 17) (.cond (.tmp 80) (.seq (zqr Try.f22 18) .ret) .skip)) (.seq (zqr Try.f22 19) (.cond (.tmp 82) (.seq (zqr Try.f22 20) (.seq (zqr Try.f22 21) (.cond (.tmp 107) (.seq (zqr Try.f22 22) .ret) .skip))) .skip))))) (zqr Try.f22 15)) := by kernel_rfl
theorem yu8 : zqc Try.f22 3 = .seq (.seq (zqr Try.f22 24) (.cond (.tmp 112) .skip (.exit 6))) (.seq (.block 7 (.seq (zqr Try.f22 26) (.cond (.tmp 122) (.seq (zqr Try.f22 27) .ret) .skip))) (zqr Try.f22 25)) := by kernel_rfl
def canc (q p : Ps) : Bool := (q.y == p.y && q.n == p.n) && q.f == p.f && q.d != p.d
def ncO : Option Ps → Ps → Bool
 | none, _ => true
 | some q, p => !canc q p
def okPa (t : List Rw) : Option Ps → List Ps → Bool
 | _, [] => true
 | q, p :: l => !decide (1 < p.d) && hasV t p.y p.n && ncO q p && okPa t (some p) l
def prv (l : List Ps) (j : Nat) : Option Ps := if j = 0 then none else some (l.getD (j - 1) default)
theorem ypt (l : List Ps) (j : Nat) : prv l (j + 1) = some (l.getD j default) := by unfold prv; rw [if_neg (by omega)]; rfl
section
variable (t : List Rw) (w : List Idd) (y i : Int) (L : Lp) (hpa : L.pa.length < 2 ^ 60) (hth : L.th.length < 2 ^ 60) (hI : okI L)
include hpa hI in
theorem ykz : ∀ (m j : Nat), j + m = L.pa.length → Rnd Try.prog (cxN 193 0) (zqc Try.f22 2) (m + 1) (cD t w y i L ++ [(7, it j)]) (if okPa t (prv L.pa j) (L.pa.drop j) = true then .exit 4 else .ret) (if okPa t (prv L.pa j) (L.pa.drop j) = true then cD t w y i L else [(2, it 1)])
 | 0, j, h => by
  rw [zln (by omega), show okPa t (prv L.pa j) [] = true from rfl, if_pos rfl, if_pos rfl, yor]
  have h1 := ysf t w y i L j
  rw [show decide ((j : Int) < ((L.pa.map Ps.enc).length : Nat)) = false by rw [zlc]; rw [zla]; omega] at h1
  exact .exit (.seqX (.seq h1 (.cond (b := false) rfl (.after (kp [0, 3, 4, 5, 6]) .exit))) (by simp)) (by simp)
 | m + 1, j, h => by
  have hj : j < L.pa.length := by omega
  have ih := ykz m (j + 1) (by omega)
  rw [ypt] at ih
  rw [yag _ hj default, okPa]
  have h1 := ysf t w y i L j
  rw [show decide ((j : Int) < ((L.pa.map Ps.enc).length : Nat)) = true by rw [zlb]; rw [zla]; omega] at h1
  have h1 := Tri.seq h1 (.cond (t := 63) (c := .skip) (d := .exit 4) (b := true) rfl (.after (kp [0, 3, 4, 5, 6, 7]) .skip))
  have h16 := ch16_0 t w y i L j (zlb (by rw [zla]; omega)) (yb0 (by rw [zlf]; exact hj))
  rw [zlf] at h16
  have hm : L.pa.getD j default ∈ L.pa := by rw [zld, zle hj]; exact zlu hj
  generalize hp : L.pa.getD j default = p at *
  obtain ⟨y0, y1⟩ := hI ⟨p.y, p.n⟩ (List.mem_append_right _ (List.mem_map.2 ⟨p, hm, rfl⟩))
  have hT := yxz t p.y p.n y0 y1
  -- the first test
  have h17 : Tri Try.prog (cxN 193 0) (zqr Try.f22 17) (cD t w y i L ++ [(7, it j), (8, .box [ub p.y, it p.n, bb p.f, ub p.d])]) .normal (cD t w y i L ++ [(7, it j), (8, .box [ub p.y, it p.n, bb p.f, ub p.d]), (80, bb (!(!decide (1 < p.d) && hasV t p.y p.n)))]) := by
   by_cases hd : 1 < p.d
   ·rw [zlb hd]
    exact ch17_0 t w y i L j p _ hT (zlb hd)
   ·rw [zlc hd]
    exact ch17_1 t w y i L j p _ hT (zlc hd)
  cases hA : (!decide (1 < p.d) && hasV t p.y p.n) with
  | false =>
   rw [Bool.false_and, Bool.false_and, if_neg (by simp), if_neg (by simp)]
   rw [hA] at h17
   refine .exit ?_ (by simp)
   rw [yor]
   exact .seq h1 (.seqX (.block (ex := .ret) (.seq h16 (.seqX (.seq h17 (.cond (b := true) rfl (.seq (.weak (kp [0]) (ch18_0 t)) .ret))) (by simp))) (.inr ⟨by simp, rfl⟩)) (by simp))
  | true =>
   rw [Bool.true_and]
   rw [hA] at h17
   have h17 := Tri.seq h17 (.cond (t := 80) (c := .seq (zqr Try.f22 18) .ret) (d := .skip) (b := false) rfl (.after (kp [0, 3, 4, 5, 6, 7, 8]) .skip))
   have h19 := ch19_0 t w y i L j p
   have h15 := ch15_0 t w y i L j
   rw [up64 (by omega)] at h15
   rcases zlt j with hz | hz
   ·subst hz
    rw [show prv L.pa 0 = none from rfl, show ncO none p = true from rfl, Bool.true_and]
    refine .step ?_ ih
    rw [yor]
    exact .seq h1 (.seq (.block (ex := .normal) (.seq h16 (.seq h17 (.seq h19 (.cond (b := false) rfl (.after (kp [0, 3, 4, 5, 6, 7]) .skip))))) (.inr ⟨by simp, rfl⟩)) h15)
   ·have wj : IntKind.wrap i64 ((j : Int) - 1) = ((j - 1 : Nat) : Int) := by rw [yab (by omega) (by omega)]; omega
    have h20 := ch20_0 t w y i L j p
    rw [wj, zlf] at h20
    have h20 := h20 (zlb (by rw [zla]; omega)) (yb0 (by omega))
    rw [show prv L.pa j = some (L.pa.getD (j - 1) default) from if_neg (by omega)]
    rw [show decide ((0 : Int) < (j : Int)) = true from zlb (by omega)] at h19
    generalize L.pa.getD (j - 1) default = q at *
    have h21 : Tri Try.prog (cxN 193 0) (zqr Try.f22 21) (cD t w y i L ++ [(7, it j), (8, .box [ub p.y, it p.n, bb p.f, ub p.d]), (9, .box [ub q.y, it q.n, bb q.f, ub q.d])]) .normal (cD t w y i L ++ [(7, it j), (107, bb (canc q p))]) := by
     unfold canc
     cases e1 : (q.y == p.y && q.n == p.n) with
     | false => exact ch21_2 t w y i L j p q e1
     | true =>
      cases e2 : (q.f == p.f) with
      | false => exact ch21_1 t w y i L j p q e1 e2
      | true => exact ch21_0 t w y i L j p q e1 e2
    show Rnd _ _ _ _ _ (if (!canc q p && okPa t (some p) (L.pa.drop (j + 1))) = true then _ else _) (if (!canc q p && okPa t (some p) (L.pa.drop (j + 1))) = true then _ else _)
    cases hc : canc q p with
    | true =>
     rw [Bool.not_true, Bool.false_and, if_neg (by simp), if_neg (by simp)]
     rw [hc] at h21
     refine .exit ?_ (by simp)
     rw [yor]
     exact .seq h1 (.seqX (.block (ex := .ret) (.seq h16 (.seq h17 (.seq h19 (.cond (b := true) rfl (.seq (.weak (kp [0, 3, 4, 5, 6, 7, 8]) h20) (.seq h21 (.cond (b := true) rfl (.seq (.weak (kp [0]) (ch22_0 t)) .ret)))))))) (.inr ⟨by simp, rfl⟩)) (by simp))
    | false =>
     rw [Bool.not_false, Bool.true_and]
     rw [hc] at h21
     refine .step ?_ ih
     rw [yor]
     exact .seq h1 (.seq (.block (ex := .normal) (.seq h16 (.seq h17 (.seq h19 (.cond (b := true) rfl (.seq (.weak (kp [0, 3, 4, 5, 6, 7, 8]) h20) (.seq h21 (.cond (b := false) rfl (.after (kp [0, 3, 4, 5, 6, 7]) .skip)))))))) (.inr ⟨by simp, rfl⟩)) h15)
include hth hI in
theorem ykx : ∀ (m j : Nat), j + m = L.th.length → Rnd Try.prog (cxN 193 0) (zqc Try.f22 3) (m + 1) (cD t w y i L ++ [(10, it j)]) (if ((L.th.drop j).all fun q => hasV t q.y q.n) = true then .exit 6 else .ret) (if ((L.th.drop j).all fun q => hasV t q.y q.n) = true then cD t w y i L else [(2, it 1)])
 | 0, j, h => by
  rw [zln (by omega), List.all_nil, if_pos rfl, if_pos rfl, yu8]
  have h1 := ysd t w y i L j
  rw [show decide ((j : Int) < ((L.th.map Idd.enc).length : Nat)) = false by rw [zlc]; rw [zla]; omega] at h1
  exact .exit (.seqX (.seq h1 (.cond (b := false) rfl (.after (kp [0, 3, 4, 5, 6]) .exit))) (by simp)) (by simp)
 | m + 1, j, h => by
  have hj : j < L.th.length := by omega
  have ih := ykx m (j + 1) (by omega)
  rw [yag _ hj default, List.all_cons]
  have h1 := ysd t w y i L j
  rw [show decide ((j : Int) < ((L.th.map Idd.enc).length : Nat)) = true by rw [zlb]; rw [zla]; omega] at h1
  have h1 := Tri.seq h1 (.cond (t := 112) (c := .skip) (d := .exit 6) (b := true) rfl (.after (kp [0, 3, 4, 5, 6, 10]) .skip))
  have hm : L.th.getD j default ∈ L.th := by rw [zld, zle hj]; exact zlu hj
  obtain ⟨y0, y1⟩ := hI _ (List.mem_append_left _ hm)
  have hT := yxz t (L.th.getD j default).y (L.th.getD j default).n y0 y1
  have h26 := ch26_0 t w y i L j _ (by rw [zlf]; exact hT) (zlb (by rw [zla]; omega)) (yai (by rw [zlf]; exact hj))
  cases hA : hasV t (L.th.getD j default).y (L.th.getD j default).n with
  | false =>
   rw [Bool.false_and, if_neg (by simp), if_neg (by simp)]
   rw [hA] at h26
   refine .exit ?_ (by simp)
   rw [yu8]
   exact .seq h1 (.seqX (.block (ex := .ret) (.seq h26 (.cond (b := true) rfl (.seq (.weak (kp [0]) (ch27_0 t)) .ret))) (.inr ⟨by simp, rfl⟩)) (by simp))
  | true =>
   rw [Bool.true_and]
   rw [hA] at h26
   have h15 := ch25_0 t w y i L j
   rw [up64 (by omega)] at h15
   refine .step ?_ ih
   rw [yu8]
   exact .seq h1 (.seq (.block (ex := .normal) (.seq h26 (.cond (b := false) rfl (.after (kp [0, 3, 4, 5, 6, 10]) .skip))) (.inr ⟨by simp, rfl⟩)) h15)
end
def okLp (t : List Rw) (i : Nat) (L : Lp) : Bool := (!decide (1 < L.b) && !decide (4 < L.th.length) && (decide (i ≠ 0) || L.w)) && okPa t none L.pa && L.th.all fun q => hasV t q.y q.n
def yb8 (t : List Rw) : Nat → List Lp → Bool
 | _, [] => true
 | i, L :: l => okLp t i L && yb8 t (i + 1) l
theorem yvr (l : List Idd) : decide ((26 : Nat) = (26 : Nat) ∧ (List.all (List.map Idd.enc l) fun y => List.all (AV.ecells y) zqt) = true ∧ (List.all (List.map Idd.enc l) fun y => decide ((AV.ecells y).length = List.length (TInfo.zero { zero := [Value.int u8 (0 : Int), Value.int i64 (0 : Int)], bytes := (16 : Nat), agg := true, kind := TK.struct [((0 : Nat), (1 : Nat)), ((1 : Nat), (1 : Nat))] }))) = true) = true := by
 rw [decide_eq_true_eq]
 refine ⟨rfl, ?_, ?_⟩ <;> rw [zls] <;> intro x hx <;> obtain ⟨p, _, rfl⟩ := List.mem_map.1 hx <;> rfl
theorem ydw (t : List Rw) : ∀ (l : List Lp) (i : Nat), yb8 t i l = true → (l.flatMap Lp.th).length ≤ 4 * l.length
 | [], i, _ => by simp
 | L :: l, i, h => by
  rw [yb8, zlo] at h
  have ih := ydw t l (i + 1) h.2
  have h1 := h.1
  unfold okLp at h1
  simp only [zlo, Bool.not_eq_true', decide_eq_false_iff_not] at h1
  rw [List.flatMap_cons, zlg, List.length_cons]
  omega
section
variable (t : List Rw) (hO : OkT t)
include hO
theorem yky (y : Nat) (hy : y < t.length) (hl : (t.getD y default).l.length < 2 ^ 30) : ∀ (m i : Nat) (w : List Idd), i + m = (t.getD y default).l.length → w.length + 4 * m ≤ 2 ^ 32 → Rnd Try.prog (cxN 193 0) (zqc Try.f22 1) (m + 1) [(0, tsl none t), (3, iow none w), (4, it y), (5, it i)] (if yb8 t i ((t.getD y default).l.drop i) = true then .exit 2 else .ret) (if yb8 t i ((t.getD y default).l.drop i) = true then [(0, tsl none t), (3, iow none (w ++ ((t.getD y default).l.drop i).flatMap Lp.th)), (4, it y)] else [(2, it 1)])
 | 0, i, w, h, hw => by
  rw [zln (by omega), show yb8 t i [] = true from rfl, if_pos rfl, if_pos rfl, List.flatMap_nil, List.append_nil, yos]
  have h1 := ch8_0 t w y i (zlb (by rw [zla]; omega)) (yam (by omega))
  rw [zlf, zla, show decide ((i : Int) < ((t.getD y default).l.length : Nat)) = false by rw [zlc]; omega] at h1
  exact .exit (.seqX (.seq h1 (.cond (b := false) rfl (.after (kp [0, 3, 4]) .exit))) (by simp)) (by simp)
 | m + 1, i, w, h, hw => by
  have hi : i < (t.getD y default).l.length := by omega
  rw [yag _ hi default, yb8, List.flatMap_cons]
  have h1 := ch8_0 t w y i (zlb (by rw [zla]; omega)) (yam (by omega))
  rw [zlf, zla, show decide ((i : Int) < ((t.getD y default).l.length : Nat)) = true by rw [zlb]; omega] at h1
  have h1 := Tri.seq h1 (.cond (t := 31) (c := .skip) (d := .exit 2) (b := true) rfl (.after (kp [0, 3, 4, 5]) .skip))
  have h10 := ch10_0 t w y i (zlb (by rw [zla]; omega)) (yam (by omega))
  simp only [zlf] at h10
  have h10 := h10 (zlb (by rw [zla]; omega)) (yck (by omega))
  have hr : t.getD y default ∈ t := by rw [zld, zle hy]; exact zlu hy
  have hm : (t.getD y default).l.getD i default ∈ (t.getD y default).l := yg7 hi
  obtain ⟨k0, k1, k2⟩ := hO _ hr _ hm
  have ih := fun w' hw' => yky y hy hl m (i + 1) w' (by omega) hw'
  generalize (t.getD y default).l.getD i default = L at *
  have h11 : Tri Try.prog (cxN 193 0) (zqr Try.f22 11) (cD t w y i L) .normal (cD t w y i L ++ [(58, bb (!(!decide (1 < L.b) && !decide (4 < L.th.length) && (decide (i ≠ 0) || L.w))))]) := by
   by_cases hb : 1 < L.b
   ·rw [zlb hb]; exact ch11_0 t w y i L (zlb hb)
   ·rw [zlc hb]
    by_cases h4 : 4 < L.th.length
    ·rw [zlb h4]; exact ch11_1 t w y i L (zlc hb) (zlb (by rw [zla]; omega))
    ·rw [zlc h4]
     by_cases h0 : i = 0
     ·subst h0
      have := ch11_2 t w y (0 : Nat) L (zlc hb) (zlc (by rw [zla]; omega)) (by simp)
      rw [show decide ((0 : Nat) ≠ 0) = false by simp, Bool.false_or, Bool.not_false, Bool.true_and, Bool.true_and]
      exact this
     ·have := ch11_3 t w y i L (zlc hb) (zlc (by rw [zla]; omega)) (by simp; omega)
      rw [zlb h0]
      exact this
  have hP := (ykz t w y i L k2 k0 L.pa.length 0 (Nat.zero_add _)).loop
  rw [List.drop_zero, show prv L.pa 0 = none from rfl] at hP
  have hT := (ykx t w y i L k1 k0 L.th.length 0 (Nat.zero_add _)).loop
  rw [List.drop_zero] at hT
  unfold okLp
  cases hA : (!decide (1 < L.b) && !decide (4 < L.th.length) && (decide (i ≠ 0) || L.w)) with
  | false =>
   rw [Bool.false_and, Bool.false_and, Bool.false_and, if_neg (by simp), if_neg (by simp)]
   rw [hA] at h11
   refine .exit ?_ (by simp)
   rw [yos]
   exact .seq h1 (.seqX (.block (ex := .ret) (.seq h10 (.seqX (.seq h11 (.cond (b := true) rfl (.seq (.weak (kp [0, 3, 4, 5, 6]) (ch12_0 t w y i L)) .ret))) (by simp))) (.inr ⟨by simp, rfl⟩)) (by simp))
  | true =>
   rw [Bool.true_and]
   rw [hA] at h11
   have h11 := Tri.seq h11 (.cond (t := 58) (c := .seq (zqr Try.f22 12) .ret) (d := .skip) (b := false) rfl (.after (kp [0, 3, 4, 5, 6]) .skip))
   have hth4 : L.th.length ≤ 4 := by
    simp only [zlo, Bool.not_eq_true', decide_eq_false_iff_not] at hA
    omega
   cases hB : okPa t none L.pa with
   | false =>
    rw [Bool.false_and, Bool.false_and, if_neg (by simp), if_neg (by simp)]
    rw [hB, if_neg (by simp), if_neg (by simp)] at hP
    refine .exit ?_ (by simp)
    rw [yos]
    exact .seq h1 (.seqX (.block (ex := .ret) (.seq h10 (.seq h11 (.seqX (.seq (yot t w y i L) (.block (ex := .ret) hP (.inr ⟨by simp, rfl⟩))) (by simp)))) (.inr ⟨by simp, rfl⟩)) (by simp))
   | true =>
    rw [Bool.true_and]
    rw [hB, if_pos rfl, if_pos rfl] at hP
    cases hC : (L.th.all fun q => hasV t q.y q.n) with
    | false =>
     rw [Bool.false_and, if_neg (by simp), if_neg (by simp)]
     rw [hC, if_neg (by simp), if_neg (by simp)] at hT
     refine .exit ?_ (by simp)
     rw [yos]
     exact .seq h1 (.seqX (.block (ex := .ret) (.seq h10 (.seq h11 (.seq (.seq (yot t w y i L) (.block (ex := .exit 4) hP (.inl ⟨rfl, rfl⟩))) (.seqX (.seq (yse t w y i L) (.block (ex := .ret) hT (.inr ⟨by simp, rfl⟩))) (by simp))))) (.inr ⟨by simp, rfl⟩)) (by simp))
    | true =>
     rw [Bool.true_and]
     rw [hC, if_pos rfl, if_pos rfl] at hT
     have h28 := ch28_0 t w y i L (yvr _) (zlb (by rw [zla, zla]; omega)) (by rw [← zlq])
     have h9 := ch9_0 t (w ++ L.th) y i
     rw [up64 (by omega)] at h9
     have ih := ih (w ++ L.th) (by rw [zlg]; omega)
     rw [zlp] at ih
     refine .step ?_ ih
     rw [yos]
     exact .seq h1 (.seq (.block (ex := .normal) (.seq h10 (.seq h11 (.seq (.seq (yot t w y i L) (.block (ex := .exit 4) hP (.inl ⟨rfl, rfl⟩))) (.seq (.seq (yse t w y i L) (.block (ex := .exit 6) hT (.inl ⟨rfl, rfl⟩))) h28)))) (.inr ⟨by simp, rfl⟩)) h9)
theorem ykw (h6 : t.length = 6) (hl : ∀ r ∈ t, r.l.length ≤ 12) : ∀ (m y : Nat) (w : List Idd), y + m = 6 → w.length + 48 * m ≤ 2 ^ 20 → Rnd Try.prog (cxN 193 0) (zqc Try.f22 0) (m + 1) [(0, tsl none t), (3, iow none w), (4, it y)] (if ((t.drop y).all fun r => yb8 t 0 r.l) = true then .exit 0 else .ret) (if ((t.drop y).all fun r => yb8 t 0 r.l) = true then [(0, tsl none t), (3, iow none (w ++ (t.drop y).flatMap fun r => r.l.flatMap Lp.th))] else [(2, it 1)])
 | 0, y, w, h, hw => by
  rw [zln (by omega), List.all_nil, if_pos rfl, if_pos rfl, List.flatMap_nil, List.append_nil, yu9]
  have h1 := ch5_0 t w y
  rw [show decide ((y : Int) < 6) = false by rw [zlc]; omega] at h1
  exact .exit (.seqX (.seq h1 (.cond (b := false) rfl (.after (kp [0, 3]) .exit))) (by simp)) (by simp)
 | m + 1, y, w, h, hw => by
  have hy : y < t.length := by omega
  have hr : t.getD y default ∈ t := by rw [zld, zle hy]; exact zlu hy
  have hrl := hl _ hr
  rw [yag _ hy default, List.all_cons, List.flatMap_cons]
  have h1 := ch5_0 t w y
  rw [show decide ((y : Int) < 6) = true by rw [zlb]; omega] at h1
  have h1 := Tri.seq h1 (.cond (t := 22) (c := .skip) (d := .exit 0) (b := true) rfl (.after (kp [0, 3, 4]) .skip))
  have hR := (yky t hO y hy (by omega) (t.getD y default).l.length 0 w (Nat.zero_add _) (by omega)).loop
  rw [List.drop_zero] at hR
  cases hA : yb8 t 0 (t.getD y default).l with
  | false =>
   rw [Bool.false_and, if_neg (by simp), if_neg (by simp)]
   rw [hA, if_neg (by simp), if_neg (by simp)] at hR
   refine .exit ?_ (by simp)
   rw [yu9]
   exact .seq h1 (.seqX (.block (ex := .ret) (.seq (ch7_0 t w y) (.block (ex := .ret) hR (.inr ⟨by simp, rfl⟩))) (.inr ⟨by simp, rfl⟩)) (by simp))
  | true =>
   rw [Bool.true_and]
   rw [hA, if_pos rfl, if_pos rfl] at hR
   have h6' := ch6_0 t (w ++ (t.getD y default).l.flatMap Lp.th) y
   rw [up64 (by omega)] at h6'
   have hlen : ((t.getD y default).l.flatMap Lp.th).length ≤ 48 := by
    have := ydw t (t.getD y default).l 0 hA
    omega
   have ih := ykw h6 hl m (y + 1) (w ++ (t.getD y default).l.flatMap Lp.th) (by omega) (by rw [zlg]; omega)
   rw [zlp] at ih
   refine .step ?_ ih
   rw [yu9]
   exact .seq h1 (.seq (.block (ex := .normal) (.seq (ch7_0 t w y) (.block (ex := .exit 2) hR (.inl ⟨rfl, rfl⟩))) (.inr ⟨by simp, rfl⟩)) h6')
end
theorem OkM.bumpC {m : List Int} {t : List Rw} (h6 : t.length ≤ 6) (hM : OkM m t) {i : Nat} (hi : i < t.length) (hc : ya5 m t i = true) : OkM (Tst.bump m i) t := by
 have hm := hM.len
 refine ⟨by rw [yk9 (by omega)]; exact hm, fun j hj => ?_⟩
 rw [ybm (by omega)]
 have hj' := hM.le j hj
 by_cases e : j = i
 ·rw [if_pos e]
  subst e
  unfold ya5 at hc
  rw [zlo] at hc
  have : m.getD j default ≠ (((t.getD j default).l.length : Nat) : Int) := by
   intro e; rw [e] at hc; simp at hc
  omega
 ·rw [if_neg e]; exact hj'
theorem yh0 {m : List Int} {t : List Rw} (h6 : t.length ≤ 6) (hM : OkM m t) {i : Nat} (hi : i < t.length) (hc : ya5 m t i = true) : remV m t = remV (bump m i) t + 1 := by
 have hb := (hM.bumpC h6 hi hc).le i hi
 have hm := hM.len
 have ha := hM.le i hi
 rw [ybm (by omega), if_pos rfl] at hb
 refine yiy (i := i) t.length hi (fun j hj => ?_) ?_
 ·show _ = (t.getD j default).l.length - ((Tst.bump m i).getD j default).toNat
  rw [ybm (by omega), if_neg hj]
 ·show _ = (t.getD i default).l.length - ((Tst.bump m i).getD i default).toNat + 1
  rw [ybm (by omega), if_pos rfl]
  omega
def ybp (t : List Rw) : Nat → List Int → Bool → List Int × Bool
 | 0, m, b => (m, b)
 | j + 1, m, b => if ya5 m t j then ybp t j (bump m j) true else ybp t j m b
def ya9 (t : List Rw) : Nat → List Int → List Int
 | 0, m => m
 | f + 1, m => if (ybp t 6 m false).2 then ya9 t f (ybp t 6 m false).1 else (ybp t 6 m false).1
section
variable {t : List Rw} (h6 : t.length = 6)
include h6
theorem ye2 : ∀ (j : Nat) (m : List Int) (b : Bool), j ≤ 6 → OkM m t → OkM (ybp t j m b).1 t ∧ remV (ybp t j m b).1 t ≤ remV m t ∧ ((ybp t j m b).2 = true → b = true ∨ remV (ybp t j m b).1 t < remV m t) ∧ ((ybp t j m b).2 = false → (ybp t j m b).1 = m ∧ ∀ i, i < j → ya5 m t i = false)
 | 0, m, b, _, hM => ⟨hM, zly _, fun h => .inl h, fun _ => ⟨rfl, fun i hi => absurd hi (by omega)⟩⟩
 | j + 1, m, b, hj, hM => by
  rw [ybp]
  by_cases hc : ya5 m t j = true
  ·rw [if_pos hc]
   have hr := yh0 (by omega) hM (by omega : j < t.length) hc
   obtain ⟨h1, h2, h3, h4⟩ := ye2 j (bump m j) true (by omega) (hM.bumpC (by omega) (by omega) hc)
   refine ⟨h1, by omega, fun _ => .inr (by omega), fun h => ?_⟩
   have : ∀ (j : Nat) (m : List Int), (ybp t j m true).2 = true := by
    intro j
    induction j with
    | zero => intro m; rfl
    | succ j ih => intro m; rw [ybp]; split <;> exact ih _
   rw [this] at h; cases h
  ·rw [if_neg hc]
   obtain ⟨h1, h2, h3, h4⟩ := ye2 j m b (by omega) hM
   refine ⟨h1, h2, h3, fun h => ?_⟩
   obtain ⟨e, h5⟩ := h4 h
   refine ⟨e, fun i hi => ?_⟩
   by_cases e2 : i = j
   ·subst e2; simpa using hc
   ·exact h5 i (by omega)
theorem ydn : ∀ (f : Nat) (m : List Int), OkM m t → remV m t < f → OkM (ya9 t f m) t ∧ ∀ i, i < 6 → ya5 (ya9 t f m) t i = false
 | 0, m, _, h => by omega
 | f + 1, m, hM, h => by
  obtain ⟨h1, h2, h3, h4⟩ := ye2 h6 6 m false (by omega) hM
  rw [ya9]
  cases hb : (ybp t 6 m false).2 with
  | true =>
   rw [if_pos rfl]
   rcases h3 hb with h | h
   ·cases h
   ·exact ydn f _ h1 (by omega)
  | false =>
   rw [if_neg (by simp)]
   obtain ⟨e, h5⟩ := h4 hb
   rw [e]
   exact ⟨hM, h5⟩
end
def LeM (m g : List Int) : Prop := ∀ i, i < 6 → m.getD i default ≤ g.getD i default
theorem yoz {t : List Rw} (h6 : t.length = 6) (hy : ∀ r ∈ t, ∀ L ∈ r.l, okY L) {m g : List Int} (hM : OkM m t) (hG : OkM g t) (hs : ∀ i, i < 6 → ya5 g t i = false) (hle : LeM m g) {i : Nat} (hi : i < 6) (hc : ya5 m t i = true) : LeM (bump m i) g := by
 have hm := hM.len
 intro j hj
 rw [ybm (by omega)]
 by_cases e : j = i
 ·rw [if_pos e]
  subst e
  have h1 := hle j hj
  by_cases e2 : m.getD j default = g.getD j default
  ·exfalso
   have hn := hs j hj
   have hg := hG.le j (by omega)
   have hr : t.getD j default ∈ t := by rw [zld, zle (by omega)]; exact zlu _
   unfold ya5 at hn hc
   rw [← e2] at hn
   rw [zlo] at hc
   rw [hc.1, Bool.true_and] at hn
   have hne : m.getD j default ≠ (((t.getD j default).l.length : Nat) : Int) := by
    intro e; have := hc.1; rw [e] at this; simp at this
   have hm2 := hM.le j (by omega)
   have hL := hy _ hr _ (yg7 (n := (m.getD j default).toNat) (l := (t.getD j default).l) (by omega))
   have hcr := hc.2
   generalize (t.getD j default).l.getD (m.getD j default).toNat default = L at *
   have : ybo g L = true := by
    unfold ybo at hcr ⊢
    rw [zls] at hcr ⊢
    intro p hp
    have := of_decide_eq_true (hcr p hp)
    obtain ⟨y1, y6⟩ := hL p hp
    have h2 := hle (p.y - 1).toNat (by omega)
    unfold gtM at this ⊢
    exact zlb (by omega)
   rw [this] at hn; cases hn
  ·omega
 ·rw [if_neg e]; exact hle j hj
theorem ymo {f g : Nat → Nat} : ∀ n, (∀ j, j < n → f j ≤ g j) → ((List.range n).map f).sum ≤ ((List.range n).map g).sum
 | 0, _ => zly _
 | n + 1, h => by
  rw [List.range_succ, zlq, zlq, List.sum_append, List.sum_append]
  have := ymo n fun j hj => h j (by omega)
  have h2 := h n (by omega)
  simp; omega
theorem yrg {t : List Rw} (h6 : t.length = 6) {m g : List Int} (hM : OkM m t) (hG : OkM g t) (h : LeM m g) : remV g t ≤ remV m t := by
 refine ymo t.length fun i hi => ?_
 have := h i (by omega)
 have := hM.le i hi
 have := hG.le i hi
 omega
section
variable {t : List Rw} (h6 : t.length = 6) (hy : ∀ r ∈ t, ∀ L ∈ r.l, okY L) {g : List Int} (hG : OkM g t) (hs : ∀ i, i < 6 → ya5 g t i = false)
include h6 hy hG hs
theorem yi3 : ∀ (j : Nat) (m : List Int) (b : Bool), j ≤ 6 → OkM m t → LeM m g → LeM (ybp t j m b).1 g
 | 0, m, b, _, _, h => h
 | j + 1, m, b, hj, hM, h => by
  rw [ybp]
  by_cases hc : ya5 m t j = true
  ·rw [if_pos hc]
   exact yi3 j _ true (by omega) (hM.bumpC (by omega) (by omega) hc) (yoz h6 hy hM hG hs h (by omega) hc)
  ·rw [if_neg hc]; exact yi3 j m b (by omega) hM h
theorem yih : ∀ (f : Nat) (m : List Int), OkM m t → LeM m g → LeM (ya9 t f m) g
 | 0, m, _, h => h
 | f + 1, m, hM, h => by
  have h1 := yi3 h6 hy hG hs 6 m false (by omega) hM h
  have h2 := (ye2 h6 6 m false (by omega) hM).1
  rw [ya9]
  split
  ·exact yih f _ h2 h1
  ·exact h1
theorem yhe : ∀ (f : Nat) (m : List Int), OkM m t → LeM m g → (ycm t f m).length + remV g t ≤ remV m t
 | 0, m, hM, h => by
  show 0 + _ ≤ _
  rw [Nat.zero_add]; exact yrg h6 hM hG h
 | f + 1, m, hM, h => by
  rw [ycm]
  cases hv : ya7 m t with
  | none => show 0 + _ ≤ _; rw [Nat.zero_add]; exact yrg h6 hM hG h
  | some i =>
   obtain ⟨hi, hc⟩ := ybq t.length 0 i (by omega) hv
   have hr := yh0 (by omega) hM hi hc
   have := yhe f (bump m i) (hM.bumpC (by omega) hi hc) (yoz h6 hy hM hG hs h (by omega) hc)
   show (_ :: ycm t f (bump m i)).length + _ ≤ _
   rw [List.length_cons]; omega
end
def yfh (t : List Rw) (m : List Int) : Nat → Nat → Bool
 | 0, _ => true
 | k + 1, j => (m.getD j default == (((t.getD j default).l.length : Nat) : Int)) && yfh t m k (j + 1)
theorem ykm (t : List Rw) (m : List Int) : ∀ (k j : Nat), yfh t m k j = true ↔ ∀ i, j ≤ i → i < j + k → m.getD i default = (((t.getD i default).l.length : Nat) : Int)
 | 0, j => by simp [yfh]; intro i h1 h2; omega
 | k + 1, j => by
  rw [yfh, zlo, beq_iff_eq, ykm t m k (j + 1)]
  constructor
  ·rintro ⟨h1, h2⟩ i h3 h4
   by_cases e : i = j
   ·rw [e]; exact h1
   ·exact h2 i (by omega) (by omega)
  ·intro h
   exact ⟨h j (by omega) (by omega), fun i h1 h2 => h i (by omega) (by omega)⟩
theorem yu7 : zqc Try.f22 4 = .seq (.seq (zqr Try.f22 30) (.cond (.tmp 130) .skip (.exit 8))) (.seq (.block 9 (.seq (zqr Try.f22 32) (.block 10 (.loop (zqc Try.f22 5))))) (zqr Try.f22 31)) := by kernel_rfl
theorem yu6 : zqc Try.f22 5 = .seq (.seq (zqr Try.f22 33) (.cond (.tmp 135) .skip (.exit 10))) (.seq (.block 11 (.seq (zqr Try.f22 35) (.cond (.tmp 146) (.seq (zqr Try.f22 36) .ret) .skip))) (zqr Try.f22 34)) := by kernel_rfl
theorem ch_l6 : zqc Try.f22 6 = .seq (.seq (zqr Try.f22 39) (.cond (.tmp 147) .skip (.exit 12))) (.block 13 (.seq (zqr Try.f22 40) (.seq (zqr Try.f22 41) (.block 14 (.loop (zqc Try.f22 7)))))) := by kernel_rfl
theorem yu5 : zqc Try.f22 7 = .seq (.seq (zqr Try.f22 42) (.cond (.tmp 149) .skip (.exit 14))) (.seq (.block 15 (.seq (zqr Try.f22 44) (.seq (zqr Try.f22 45) (.cond (.tmp 173) (.seq (zqr Try.f22 46) (zqr Try.f22 47)) .skip)))) (zqr Try.f22 43)) := by kernel_rfl
theorem yu4 : zqc Try.f22 8 = .seq (.seq (zqr Try.f22 49) (.cond (.tmp 180) .skip (.exit 16))) (.seq (.block 17 (.seq (zqr Try.f22 51) (.cond (.tmp 192) (.seq (zqr Try.f22 52) .ret) .skip))) (zqr Try.f22 50)) := by kernel_rfl
theorem yva : Try.f22.body = some (.seq (zqr Try.f22 0) (.seq (.seq (zqr Try.f22 1) (.cond (.tmp 20) (.seq (zqr Try.f22 2) .ret) .skip)) (.seq (zqr Try.f22 3) (.seq (.seq (zqr Try.f22 4) (.block 0 (.loop (zqc Try.f22 0)))) (.seq (.seq (zqr Try.f22 29) (.block 8 (.loop (zqc Try.f22 4)))) (.seq (zqr Try.f22 37) (.seq (.seq (zqr Try.f22 38) (.block 12 (.loop (zqc Try.f22 6)))) (.seq (.seq (zqr Try.f22 48) (.block 16 (.loop (zqc Try.f22 8)))) (.seq (zqr Try.f22 53) .ret))))))))) := by kernel_rfl
theorem yup (a b : Idd) : (a.y == b.y && a.n == b.n) = decide (a = b) := by
 obtain ⟨y, n⟩ := a
 obtain ⟨z, m⟩ := b
 simp only [Idd.mk.injEq, Bool.decide_and]
 rfl
def dupB (w : List Idd) (i : Nat) : Nat → Nat → Bool
 | 0, _ => false
 | m + 1, k => decide (w.getD k default = w.getD i default) || dupB w i m (k + 1)
def ndF (w : List Idd) : Nat → Nat → Bool
 | 0, _ => true
 | m + 1, i => !dupB w i i 0 && ndF w m (i + 1)
section
variable (t : List Rw) (w : List Idd) (hw : w.length < 2 ^ 40)
include hw
theorem yk3 (i : Nat) (hi : i < w.length) : ∀ (m k : Nat), k + m = i → Rnd Try.prog (cxN 193 0) (zqc Try.f22 5) (m + 1) (cH t w i ++ [(12, it k)]) (if dupB w i m k = true then .ret else .exit 10) (if dupB w i m k = true then [(2, it 8)] else cH t w i)
 | 0, k, h => by
  rw [show dupB w i 0 k = false from rfl, if_neg (by simp), if_neg (by simp), yu6]
  have h1 := yr9 t w i k
  rw [show decide ((k : Int) < (i : Int)) = false by rw [zlc]; omega] at h1
  exact .exit (.seqX (.seq h1 (.cond (b := false) rfl (.after (kp [0, 3, 11]) .exit))) (by simp)) (by simp)
 | m + 1, k, h => by
  have ih := yk3 i hi m (k + 1) (by omega)
  rw [dupB]
  have h1 := yr9 t w i k
  rw [show decide ((k : Int) < (i : Int)) = true by rw [zlb]; omega] at h1
  have h1 := Tri.seq h1 (.cond (t := 135) (c := .skip) (d := .exit 10) (b := true) rfl (.after (kp [0, 3, 11, 12]) .skip))
  have h35 := ch35_0 t w i k (zlb (by rw [zla]; omega)) (zlb (by rw [zla]; omega)) (yai (by omega)) (zlb (by rw [zla]; omega)) (zlb (by rw [zla]; omega)) (yai (by omega))
  rw [zlf, zlf, yup] at h35
  by_cases hc : w.getD k default = w.getD i default
  ·rw [zlb hc] at h35 ⊢
   rw [Bool.true_or, if_pos rfl, if_pos rfl]
   refine .exit ?_ (by simp)
   rw [yu6]
   exact .seq h1 (.seqX (.block (ex := .ret) (.seq h35 (.cond (b := true) rfl (.seq (.weak (kp [0]) (ch36_0 t)) .ret))) (.inr ⟨by simp, rfl⟩)) (by simp))
  ·rw [zlc hc] at h35 ⊢
   rw [Bool.false_or]
   have h34 := ch34_0 t w i k
   rw [up64 (by omega)] at h34
   refine .step ?_ ih
   rw [yu6]
   exact .seq h1 (.seq (.block (ex := .normal) (.seq h35 (.cond (b := false) rfl (.after (kp [0, 3, 11, 12]) .skip))) (.inr ⟨by simp, rfl⟩)) h34)
theorem yk2 : ∀ (m i : Nat), i + m = w.length → Rnd Try.prog (cxN 193 0) (zqc Try.f22 4) (m + 1) (cH t w i) (if ndF w m i = true then .exit 8 else .ret) (if ndF w m i = true then [(0, tsl none t)] else [(2, it 8)])
 | 0, i, h => by
  rw [show ndF w 0 i = true from rfl, if_pos rfl, if_pos rfl, yu7]
  have h1 := ysb t w i
  rw [show decide ((i : Int) < ((w.map Idd.enc).length : Nat)) = false by rw [zlc]; rw [zla]; omega] at h1
  exact .exit (.seqX (.seq h1 (.cond (b := false) rfl (.after (kp [0]) .exit))) (by simp)) (by simp)
 | m + 1, i, h => by
  have ih := yk2 m (i + 1) (by omega)
  rw [ndF]
  have h1 := ysb t w i
  rw [show decide ((i : Int) < ((w.map Idd.enc).length : Nat)) = true by rw [zlb]; rw [zla]; omega] at h1
  have h1 := Tri.seq h1 (.cond (t := 130) (c := .skip) (d := .exit 8) (b := true) rfl (.after (kp [0, 3, 11]) .skip))
  have hD := (yk3 t w hw i (by omega) i 0 (Nat.zero_add _)).loop
  cases hd : dupB w i i 0 with
  | true =>
   rw [Bool.not_true, Bool.false_and, if_neg (by simp), if_neg (by simp)]
   rw [hd, if_pos rfl, if_pos rfl] at hD
   refine .exit ?_ (by simp)
   rw [yu7]
   exact .seq h1 (.seqX (.block (ex := .ret) (.seq (ysa t w i) (.block (ex := .ret) hD (.inr ⟨by simp, rfl⟩))) (.inr ⟨by simp, rfl⟩)) (by simp))
  | false =>
   rw [Bool.not_false, Bool.true_and]
   rw [hd, if_neg (by simp), if_neg (by simp)] at hD
   have h31 := ch31_0 t w i
   rw [up64 (by omega)] at h31
   refine .step ?_ ih
   rw [yu7]
   exact .seq h1 (.seq (.block (ex := .normal) (.seq (ysa t w i) (.block (ex := .exit 10) hD (.inl ⟨rfl, rfl⟩))) (.inr ⟨by simp, rfl⟩)) h31)
end
section
variable {t : List Rw} (hL : OkL t) (h6 : t.length = 6)
include hL h6
theorem ch45 {m : List Int} (hM : OkM m t) (b : Bool) (j : Nat) (hj : j < 6) : Tri Try.prog (cxN 193 0) (zqr Try.f22 45) (cG t (0 :: m) b (j + 1 : Nat) ++ [(16, .box [ub (j + 1 : Nat), it (m.getD j default)])]) .normal (cG t (0 :: m) b (j + 1 : Nat) ++ [(173, bb (ya5 m t j))]) := by
 have hw : IntKind.wrap i64 (((j + 1 : Nat) : Int) - 1) = (j : Int) := by rw [yab (by omega) (by omega)]; omega
 have hr : t.getD j default ∈ t := ygy m t hL hM (by omega)
 have hrow := hL.row _ hr
 obtain ⟨l0, l1⟩ := hM.le j (by omega)
 have hcd : ya5 m t j = (!(m.getD j default == (((t.getD j default).l.length : Nat) : Int)) && ybo m ((t.getD j default).l.getD (m.getD j default).toNat default)) := rfl
 obtain ⟨a0, a1, a2, a3, a4, a5, rfl⟩ : ∃ a0 a1 a2 a3 a4 a5, m = [a0, a1, a2, a3, a4, a5] := by
  match m, hM.len with
  | [a0, a1, a2, a3, a4, a5], _ => exact ⟨a0, a1, a2, a3, a4, a5, rfl⟩
 generalize hn : List.getD [a0, a1, a2, a3, a4, a5] j default = n at *
 have g0 : decide ((0 : Int) ≤ IntKind.wrap i64 (((j + 1 : Nat) : Int) - 1) ∧ IntKind.wrap i64 (((j + 1 : Nat) : Int) - 1) < ((List.length (List.map Rw.enc t) : Nat) : Int)) = true := by
  rw [hw, zla]; exact zlb ⟨by omega, by omega⟩
 have g1 : List.getD (List.map Rw.enc t) (Int.toNat (IntKind.wrap i64 (((j + 1 : Nat) : Int) - 1))) AV.bad = Rw.enc (List.getD t (Int.toNat (IntKind.wrap i64 (((j + 1 : Nat) : Int) - 1))) default) := by
  rw [hw]; exact yam (by simp only [zlf]; omega)
 -- a name that is not there needs nothing: any answer will do
 by_cases he : n = (((t.getD j default).l.length : Nat) : Int)
 ·have hc : ya5 [a0, a1, a2, a3, a4, a5] t j = false := by rw [hcd, he]; simp
  rw [hc]
  exact yvc t 0 a0 a1 a2 a3 a4 a5 b ((j + 1 : Nat) : Int) ((j + 1 : Nat) : Int) n g0 g1 (by rw [hw, zla]; simp only [zlf]; rw [he]; simp)
 ·have hm2 : (t.getD j default).l.getD n.toNat default ∈ (t.getD j default).l := yg7 (by omega)
  have hy := hL.yy _ hr _ hm2
  obtain ⟨k1, k2⟩ := hL.th _ hr _ hm2
  have e1 : (((j + 1 : Nat) : Int) - 1).toNat = j := by omega
  have ea : atV t ((j + 1 : Nat) : Int) n = (t.getD j default).l.getD n.toNat default := by unfold atV; rw [e1]
  have hN := yp7 none t ⟨((j + 1 : Nat) : Int), n⟩ [0, a0, a1, a2, a3, a4, a5] rfl (by show (1 : Int) ≤ ((j + 1 : Nat) : Int); omega) (by show ((j + 1 : Nat) : Int) ≤ _; omega) (by show ((j + 1 : Nat) : Int) ≤ _; omega) l0 (by show n < _; rw [e1]; omega) (by rw [ea]; exact k1) (by rw [ea]; exact k2) (by rw [ea]; exact fun q hq => ⟨by have := (hy q (List.mem_append_left _ hq)).1; omega, (hy q (List.mem_append_left _ hq)).2⟩) (by rw [ea]; exact fun q hq => ⟨by have := (hy ⟨q.y, q.n⟩ (List.mem_append_right _ (List.mem_map.2 ⟨q, hq, rfl⟩))).1; simp only at this; omega, (hy ⟨q.y, q.n⟩ (List.mem_append_right _ (List.mem_map.2 ⟨q, hq, rfl⟩))).2⟩)
  rw [ea] at hN
  have hq := ch45_0 t 0 a0 a1 a2 a3 a4 a5 b ((j + 1 : Nat) : Int) ((j + 1 : Nat) : Int) n _ hN g0 g1 (by rw [hw, zla]; simp only [zlf]; rw [decide_eq_true_eq]; omega)
  have hv : (((yl1 [0, a0, a1, a2, a3, a4, a5] ⟨((j + 1 : Nat) : Int), n⟩ ((t.getD j default).l.getD n.toNat default) : Nat) : Int) == 0) = ya5 [a0, a1, a2, a3, a4, a5] t j := by
   have hnr := yl0 [a0, a1, a2, a3, a4, a5] ((j + 1 : Nat) : Int) n _ hy (by rw [show (((j + 1 : Nat) : Int)).toNat = j + 1 by omega, List.getD_cons_succ]; exact hn)
   rw [hcd, show (n == (((t.getD j default).l.length : Nat) : Int)) = false by rw [beq_eq_false_iff_ne]; exact he, Bool.not_false, Bool.true_and]
   cases hb : ybo [a0, a1, a2, a3, a4, a5] ((t.getD j default).l.getD n.toNat default) with
   | true => rw [hnr.2 hb]; rfl
   | false =>
    rw [beq_eq_false_iff_ne]
    intro h0
    have := hnr.1 (by omega)
    rw [this] at hb; cases hb
  rw [hv] at hq
  exact hq
theorem yhk : ∀ (j : Nat) (m : List Int) (b : Bool), j ≤ 6 → OkM m t → Rnd Try.prog (cxN 193 0) (zqc Try.f22 7) (j + 1) (cG t (0 :: m) b j) (.exit 14) [(0, tsl none t), (13, .box ((0 :: (ybp t j m b).1).map itI)), (14, bb (ybp t j m b).2)]
 | 0, m, b, _, hM => by
  rw [yu5]
  have h1 := yr7 t (0 :: m) b ((0 : Nat) : Int)
  exact .exit (.seqX (.seq h1 (.cond (b := false) rfl (.after (kp [0, 13, 14]) .exit))) (by simp)) (by simp)
 | j + 1, m, b, hj, hM => by
  have h1 := yr7 t (0 :: m) b ((j + 1 : Nat) : Int)
  rw [show decide ((1 : Int) ≤ ((j + 1 : Nat) : Int)) = true from zlb (by omega)] at h1
  have h1 := Tri.seq h1 (.cond (t := 149) (c := .skip) (d := .exit 14) (b := true) rfl (.after (kp [0, 13, 14, 15]) .skip))
  have hd : (0 :: m).length = 7 := by rw [List.length_cons, hM.len]
  have h44 := ch44_0 t (0 :: m) b ((j + 1 : Nat) : Int) hd (zlb ⟨by omega, show ((j + 1 : Nat) : Int) < 7 by omega, by decide⟩) (zlb ⟨rfl, by rw [zla, hd]; show _ * 1 < 7; omega⟩) (ydb (by rw [hd]; omega))
  rw [yhp (by omega) (by omega), show Int.toNat ((j + 1 : Nat) : Int) * 1 = j + 1 by omega, List.getD_cons_succ] at h44
  have h45 := ch45 hL h6 hM b j (by omega)
  have w43 : IntKind.wrap i64 (((j + 1 : Nat) : Int) - 1) = (j : Int) := by rw [yab (by omega) (by omega)]; omega
  rw [ybp]
  by_cases hc : ya5 m t j = true
  ·rw [if_pos hc]
   rw [hc] at h45
   obtain ⟨m0, m1⟩ := hM.le j (by omega)
   have hrow := hL.row _ (ygy m t hL hM (by omega : j < t.length))
   have h46 := ch46_0 t (0 :: m) b ((j + 1 : Nat) : Int) hd (zlb ⟨by omega, show ((j + 1 : Nat) : Int) < 7 by omega, by decide⟩) (zlb ⟨rfl, by rw [zla, hd]; show _ * 1 < 7; omega⟩) (ydb (by rw [hd]; omega))
   rw [show Int.toNat ((j + 1 : Nat) : Int) * 1 = j + 1 by omega, List.getD_cons_succ, yab (by omega) (by omega)] at h46
   have eb : List.take (j + 1) (List.map itI (0 :: m)) ++ [AV.atom (Value.int i64 (m.getD j default + 1))] ++ List.drop (j + 1 + 1) (List.map itI (0 :: m)) = (0 :: bump m j).map itI := by
    unfold bump
    rw [List.map_cons, List.map_cons, zlq, zlq, List.map_take, List.map_drop]; rfl
   rw [eb] at h46
   have h43 := yr6 t (0 :: bump m j) true ((j + 1 : Nat) : Int)
   rw [w43] at h43
   refine .step ?_ (yhk j (bump m j) true (by omega) (hM.bumpC (by omega) (by omega) hc))
   rw [yu5]
   exact .seq h1 (.seq (.block (ex := .normal) (.seq h44 (.seq h45 (.cond (b := true) rfl (.weak (kp [0, 13, 14, 15]) (.seq h46 (ch47_0 t (0 :: bump m j) _)))))) (.inr ⟨by simp, rfl⟩)) h43)
  ·rw [if_neg hc]
   rw [Bool.not_eq_true] at hc
   rw [hc] at h45
   have h43 := yr6 t (0 :: m) b ((j + 1 : Nat) : Int)
   rw [w43] at h43
   refine .step ?_ (yhk j m b (by omega) hM)
   rw [yu5]
   exact .seq h1 (.seq (.block (ex := .normal) (.seq h44 (.seq h45 (.cond (b := false) rfl (.after (kp [0, 13, 14, 15]) .skip)))) (.inr ⟨by simp, rfl⟩)) h43)
theorem yqv (m : List Int) (hM : OkM m t) : Tri Try.prog (cxN 193 0) (zqc Try.f22 6) [(0, tsl none t), (13, .box ((0 :: m).map itI)), (14, bb true)] .normal [(0, tsl none t), (13, .box ((0 :: (ybp t 6 m false).1).map itI)), (14, bb (ybp t 6 m false).2)] := by
 rw [ch_l6]
 have hG := (yhk hL h6 6 m false (by omega) hM).loop
 exact .seq (.seq (yr8 t (0 :: m) true) (.cond (b := true) rfl (.after (kp [0, 13]) .skip))) (.block (ex := .normal) (.seq (ch40_0 t (0 :: m)) (.seq (ch41_0 t (0 :: m) false) (.block (ex := .exit 14) hG (.inl ⟨rfl, rfl⟩)))) (.inr ⟨by simp, rfl⟩))
theorem yvb (m : List Int) : Tri Try.prog (cxN 193 0) (zqc Try.f22 6) [(0, tsl none t), (13, .box ((0 :: m).map itI)), (14, bb false)] (.exit 12) [(0, tsl none t), (13, .box ((0 :: m).map itI))] := by
 rw [ch_l6]
 exact .seqX (.seq (yr8 t (0 :: m) false) (.cond (b := false) rfl (.after (kp [0, 13]) .exit))) (by simp)
theorem yk0 : ∀ (f : Nat) (m : List Int), OkM m t → remV m t < f + 1 → Rnd Try.prog (cxN 193 0) (zqc Try.f22 6) (f + 2) [(0, tsl none t), (13, .box ((0 :: m).map itI)), (14, bb true)] (.exit 12) [(0, tsl none t), (13, .box ((0 :: ya9 t (f + 1) m).map itI))]
 | f, m, hM, h => by
  have hs := yqv hL h6 m hM
  obtain ⟨h1, h2, h3, h4⟩ := ye2 h6 6 m false (by omega) hM
  rw [ya9]
  cases hb : (ybp t 6 m false).2 with
  | false =>
   rw [hb] at hs
   rw [if_neg (by simp)]
   exact .step hs (.exit (yvb hL h6 _) (by simp))
  | true =>
   rw [hb] at hs
   rw [if_pos rfl]
   rcases h3 hb with h5 | h5
   ·cases h5
   ·match f with
    | 0 => omega
    | f + 1 => exact .step hs (yk0 f _ h1 (by omega))
theorem yk1 (m : List Int) (hM : OkM m t) : ∀ (k j : Nat), j + k = 6 → Rnd Try.prog (cxN 193 0) (zqc Try.f22 8) (k + 1) [(0, tsl none t), (13, .box ((0 :: m).map itI)), (17, it (j + 1 : Nat))] (if yfh t m k j = true then .exit 16 else .ret) (if yfh t m k j = true then [(0, tsl none t)] else [(2, it 6)])
 | 0, j, h => by
  rw [show yfh t m 0 j = true from rfl, if_pos rfl, if_pos rfl, yu4]
  have h1 := yr4 t (0 :: m) ((j + 1 : Nat) : Int)
  rw [show decide (((j + 1 : Nat) : Int) ≤ 6) = false from zlc (by omega)] at h1
  exact .exit (.seqX (.seq h1 (.cond (b := false) rfl (.after (kp [0]) .exit))) (by simp)) (by simp)
 | k + 1, j, h => by
  have ih := yk1 m hM k (j + 1) (by omega)
  rw [yfh]
  have hd : (0 :: m).length = 7 := by rw [List.length_cons, hM.len]
  have hw : IntKind.wrap i64 (((j + 1 : Nat) : Int) - 1) = (j : Int) := by rw [yab (by omega) (by omega)]; omega
  have h1 := yr4 t (0 :: m) ((j + 1 : Nat) : Int)
  rw [show decide (((j + 1 : Nat) : Int) ≤ 6) = true from zlb (by omega)] at h1
  have h1 := Tri.seq h1 (.cond (t := 180) (c := .skip) (d := .exit 16) (b := true) rfl (.after (kp [0, 13, 17]) .skip))
  have h51 := ch51_0 t (0 :: m) ((j + 1 : Nat) : Int) hd (zlb ⟨by omega, show ((j + 1 : Nat) : Int) < 7 by omega, by decide⟩) (zlb ⟨rfl, by rw [zla, hd]; show _ * 1 < 7; omega⟩) (ydb (by rw [hd]; omega))
  rw [hw, zlf, show Int.toNat ((j + 1 : Nat) : Int) * 1 = j + 1 by omega, List.getD_cons_succ] at h51
  have h51 := h51 (zlb (by rw [zla]; omega)) (yam (by omega))
  rw [zla] at h51
  cases hc : (m.getD j default == (((t.getD j default).l.length : Nat) : Int)) with
  | false =>
   rw [Bool.false_and, if_neg (by simp), if_neg (by simp)]
   rw [show (m.getD j default != (((t.getD j default).l.length : Nat) : Int)) = true by show (!_) = true; rw [hc]; rfl] at h51
   refine .exit ?_ (by simp)
   rw [yu4]
   exact .seq h1 (.seqX (.block (ex := .ret) (.seq h51 (.cond (b := true) rfl (.seq (.weak (kp [0]) (ch52_0 t)) .ret))) (.inr ⟨by simp, rfl⟩)) (by simp))
  | true =>
   rw [Bool.true_and]
   rw [show (m.getD j default != (((t.getD j default).l.length : Nat) : Int)) = false by show (!_) = false; rw [hc]; rfl] at h51
   have h50 := ch50_0 t (0 :: m) ((j + 1 : Nat) : Int)
   rw [up64 (by omega)] at h50
   refine .step ?_ ih
   rw [yu4]
   exact .seq h1 (.seq (.block (ex := .normal) (.seq h51 (.cond (b := false) rfl (.after (kp [0, 13, 17]) .skip))) (.inr ⟨by simp, rfl⟩)) h50)
end
theorem yk7 {q p : Ps} (hq : q.d = 0 ∨ q.d = 1) (hp : p.d = 0 ∨ p.d = 1) : can q p = canc q p := by
 rw [Bool.eq_iff_iff, yjp]
 obtain ⟨y, n, f, d⟩ := q
 obtain ⟨z, m, g, e⟩ := p
 simp only at hq hp
 rcases hq with rfl | rfl <;> rcases hp with rfl | rfl <;> simp [yad, canc, Ps.mk.injEq] <;> constructor <;> (try rintro ⟨⟨h1, h2, h3⟩, h4, h5, h6⟩) <;> (try rintro ⟨⟨h1, h2⟩, h3⟩) <;> simp_all
theorem ykb (t : List Rw) : ∀ (l : List Ps) (q : Option Ps), okPa t q l = true ↔ (∀ p ∈ l, p.d ≤ 1 ∧ hasV t p.y p.n = true) ∧ (∀ u, q = some u → ∀ v r, l = v :: r → canc u v = false) ∧ ∀ i, i + 1 < l.length → canc (l.getD i default) (l.getD (i + 1) default) = false
 | [], q => by simp [okPa]
 | p :: l, q => by
  rw [okPa]
  simp only [zlo, Bool.not_eq_true', decide_eq_false_iff_not]
  rw [ykb t l (some p)]
  constructor
  ·rintro ⟨⟨⟨h1, h2⟩, h3⟩, h4, h5, h6⟩
   refine ⟨fun x hx => ?_, fun u hu v r e => ?_, fun i hi => ?_⟩
   ·rcases List.mem_cons.1 hx with rfl | hx
    ·exact ⟨by omega, h2⟩
    ·exact h4 x hx
   ·subst hu
    injection e with e1 e2
    subst e1
    simpa [ncO] using h3
   ·cases i with
    | zero =>
     cases l with
     | nil => simp at hi
     | cons v r => exact h5 p rfl v r rfl
    | succ i => exact h6 i (by simpa using hi)
  ·rintro ⟨h1, h2, h3⟩
   refine ⟨⟨⟨?_, (h1 p (by simp)).2⟩, ?_⟩, fun x hx => h1 x (by simp [hx]), fun u hu v r e => ?_, fun i hi => h3 (i + 1) (by simpa using hi)⟩
   ·have := (h1 p (by simp)).1; omega
   ·cases q with
    | none => rfl
    | some u => have := h2 u rfl p l rfl; simp [ncO, this]
   ·injection hu with hu
    subst hu e
    exact h3 0 (by simp)
theorem ytc (l : List Ps) : (nf l).length = l.length ↔ ∀ i, i + 1 < l.length → can (l.getD i default) (l.getD (i + 1) default) = false := by
 constructor
 ·intro h i hi
  rw [Bool.eq_false_iff]
  intro hc
  have e : l = l.take i ++ l.getD i default :: l.getD (i + 1) default :: l.drop (i + 2) := by
   conv => lhs; rw [← List.take_append_drop i l]
   rw [yag l (by omega : i < l.length) default, yag l hi default]
  have h2 := ytb (l.take i) (l.drop (i + 2)) hc
  rw [← e] at h2
  have h3 := yrn (l.take i ++ l.drop (i + 2))
  rw [← h2, h, zlg, zlh, List.length_drop] at h3
  omega
 ·intro h
  rw [nf_id (yy1 l.length l rfl h)]
def OkB (t : List Rw) : Prop := ∀ r ∈ t, ∀ L ∈ r.l, 0 ≤ L.b ∧ (∀ p ∈ L.pa, 0 ≤ p.d) ∧ L.pa.length ≤ 6
theorem arV_eq (t : List Rw) (y : Int) (i : Nat) (L : Lp) (hb : 0 ≤ L.b) (hd : ∀ p ∈ L.pa, 0 ≤ p.d) (hl : L.pa.length ≤ 6) : arV t (⟨y, (i : Int)⟩, L) = okLp t i L := by
 rw [Bool.eq_iff_iff]
 unfold arV yah okLp yh4
 simp only [zlo, Bool.or_eq_true, beq_iff_eq, Bool.not_eq_true', decide_eq_false_iff_not, decide_eq_true_eq, bne_iff_ne]
 rw [ykb]
 unfold zqz ye7
 rw [List.all_append, zlo, ytc, zls, zls, zls]
 constructor
 ·rintro ⟨⟨⟨⟨h1, h2⟩, ⟨h3, h4⟩, h5⟩, h6, h7⟩, h8⟩
  have hdd : ∀ p ∈ L.pa, p.d = 0 ∨ p.d = 1 := fun p hp => by have := h4 p hp; unfold dirB at this; simpa using this
  refine ⟨⟨⟨⟨by omega, by omega⟩, h8.imp (fun h => by omega) id⟩, fun p hp => ⟨by rcases hdd p hp with h | h <;> omega, h7 _ (List.mem_map.2 ⟨p, hp, rfl⟩)⟩, (fun u hu => by cases hu), fun i hi => ?_⟩, h6⟩
  rw [← yk7 (hdd _ (by rw [zld, zle (by omega)]; exact zlu _)) (hdd _ (by rw [zld, zle hi]; exact zlu _))]
  exact h5 i hi
 ·rintro ⟨⟨⟨⟨h1, h2⟩, h3⟩, h4, h5, h6⟩, h7⟩
  have hdd : ∀ p ∈ L.pa, p.d = 0 ∨ p.d = 1 := fun p hp => by have := (h4 p hp).1; have := hd p hp; omega
  refine ⟨⟨⟨⟨by omega, by omega⟩, ⟨by omega, fun p hp => by unfold dirB; simpa using hdd p hp⟩, fun i hi => ?_⟩, h7, fun q hq => ?_⟩, h3.imp (fun h => by omega) id⟩
  ·rw [yk7 (hdd _ (by rw [zld, zle (by omega)]; exact zlu _)) (hdd _ (by rw [zld, zle hi]; exact zlu _))]
   exact h6 i hi
  ·obtain ⟨p, hp, rfl⟩ := List.mem_map.1 hq
   exact (h4 p hp).2
theorem ymy (T : List Rw) (y : Int) : ∀ (R : List Lp) (k : Nat), (∀ L ∈ R, 0 ≤ L.b ∧ (∀ p ∈ L.pa, 0 ≤ p.d) ∧ L.pa.length ≤ 6) → ((R.zipIdx k).map fun q => ((⟨y, (q.2 : Int)⟩ : Idd), q.1)).all (arV T) = yb8 T k R
 | [], k, _ => rfl
 | L :: R, k, h => by
  rw [List.zipIdx_cons, List.map_cons, List.all_cons, yb8, ymy T y R (k + 1) (fun K hK => h K (by simp [hK]))]
  obtain ⟨a, b, c⟩ := h L (by simp)
  rw [arV_eq T y k L a b c]
theorem ymn (T : List Rw) : ∀ (t : List Rw) (i : Nat), OkB t → (yav i t).all (arV T) = t.all fun r => yb8 T 0 r.l
 | [], i, _ => rfl
 | r :: t, i, h => by
  rw [yav, List.all_append, List.all_cons, ymn T t (i + 1) fun r' hr' => h r' (by simp [hr'])]
  congr 1
  exact ymy T _ r.l 0 (h r (by simp))
theorem yjm (w : List Idd) (i : Nat) : ∀ (m k : Nat), dupB w i m k = true ↔ ∃ j, k ≤ j ∧ j < k + m ∧ w.getD j default = w.getD i default
 | 0, k => by simp [dupB]; intro x h1 h2; omega
 | m + 1, k => by
  rw [dupB, Bool.or_eq_true, decide_eq_true_eq, yjm w i m (k + 1)]
  constructor
  ·rintro (h | ⟨j, h1, h2, h3⟩)
   ·exact ⟨k, by omega, by omega, h⟩
   ·exact ⟨j, by omega, by omega, h3⟩
  ·rintro ⟨j, h1, h2, h3⟩
   by_cases e : j = k
   ·subst e; exact .inl h3
   ·exact .inr ⟨j, by omega, by omega, h3⟩
theorem yrp (w : List Idd) : ∀ (m i : Nat), ndF w m i = true ↔ ∀ j, i ≤ j → j < i + m → ∀ k, k < j → w.getD k default ≠ w.getD j default
 | 0, i => by simp [ndF]; intro x h1 h2; omega
 | m + 1, i => by
  rw [ndF, zlo, Bool.not_eq_true', yrp w m (i + 1), Bool.eq_false_iff]
  constructor
  ·rintro ⟨h1, h2⟩ j h3 h4 k h5 h6
   by_cases e : j = i
   ·subst e; exact h1 ((yjm w j j 0).2 ⟨k, by omega, by omega, h6⟩)
   ·exact h2 j (by omega) (by omega) k h5 h6
  ·intro h
   refine ⟨fun hd => ?_, fun j h1 h2 => h j (by omega) (by omega)⟩
   obtain ⟨k, _, h2, h3⟩ := (yjm w i i 0).1 hd
   exact h i (by omega) (by omega) k (by omega) h3
theorem yxi (w : List Idd) : ndF w w.length 0 = decide w.Nodup := by
 rw [Bool.eq_iff_iff, yrp, decide_eq_true_eq, List.Nodup, List.pairwise_iff_getElem]
 constructor
 ·intro h i j hi hj hij
  have := h j (by omega) (by omega) i hij
  rw [zld, zle hi, zld, zle hj] at this
  exact this
 ·intro h j _ hj k hk
  have := h k j (by omega) (by omega) hk
  rw [zld, zle (by omega : k < w.length), zld, zle (by omega : j < w.length)]
  exact this
theorem yl2 {t : List Rw} (hL : OkL t) (h6 : t.length = 6) : yfh t (ya9 t (cntV t + 1) m0) 6 0 = !decide ((yar t).length < cntV t) := by
 have hM0 := okM0 t
 obtain ⟨hG, hs⟩ := ydn h6 (cntV t + 1) m0 hM0 (by rw [rem0]; omega)
 generalize hg : ya9 t (cntV t + 1) m0 = g at *
 have z0 : ∀ m, OkM m t → LeM m0 m := fun m hM i hi => by have := hM.le i (by omega); rw [yke]; omega
 rw [Bool.eq_iff_iff, ykm, Bool.not_eq_true', decide_eq_false_iff_not]
 constructor
 ·intro hf
  have hst : ∀ m, OkM m t → ya7 m t = none → remV m t = 0 := by
   intro m hM hn
   have hle : LeM g m := by
    rw [← hg]
    exact yih h6 hL.yy hM (fun i hi => yfd t.length 0 hn i (by omega) (by omega)) _ _ hM0 (z0 m hM)
   refine yjx t.length fun i hi => ?_
   have := hle i (by omega)
   have := hf i (by omega) (by omega)
   have := (hM.le i hi).2
   omega
  have := ygi hL hst (cntV t + 1) m0 hM0 (by rw [rem0]; omega)
  unfold yar
  rw [this, rem0]; omega
 ·intro hn i _ hi
  have h1 := yhe h6 hL.yy hG hs (cntV t + 1) m0 hM0 (z0 g hG)
  rw [rem0] at h1
  have h2 : (ycm t (cntV t + 1) m0).length = (yar t).length := rfl
  have h3 : remV g t = 0 := by omega
  have h4 := hG.le i (by omega)
  have h5 : (t.getD i default).l.length - (g.getD i default).toNat = 0 := by
   have : ∀ (l : List Nat), l.sum = 0 → ∀ x ∈ l, x = 0 := by
    intro l
    induction l with
    | nil => intro _ x hx; simp at hx
    | cons a l ih => intro h x hx; rw [List.sum_cons] at h; rcases List.mem_cons.1 hx with rfl | hx; omega; exact ih (by omega) x hx
   exact this _ h3 _ (List.mem_map.2 ⟨i, List.mem_range.2 (by omega), rfl⟩)
  omega
def yes (t : List Rw) : Int := if t.length ≠ 6 then 5 else if (t.all fun r => yb8 t 0 r.l) = false then 1 else if ndF (t.flatMap fun r => r.l.flatMap Lp.th) (t.flatMap fun r => r.l.flatMap Lp.th).length 0 = false then 8 else if yfh t (ya9 t (cntV t + 1) m0) 6 0 = false then 6 else 0
theorem ynh {t : List Rw} (h6 : t.length = 6) (hB : OkB t) : ckT t = t.all fun r => yb8 t 0 r.l := by
 unfold ckT allT
 rw [zlm (by omega)]
 exact ymn t t 0 hB
theorem yut : ∀ {t : List Rw}, (∀ r ∈ t, r.l.length ≤ 12) → cntV t ≤ 12 * t.length
 | [], _ => zly _
 | r :: t, h => by
  have ih := yut (t := t) fun r' hr => h r' (by simp [hr])
  have := h r (by simp)
  unfold cntV at ih ⊢
  rw [List.map_cons, List.sum_cons, List.length_cons]
  omega
theorem yl5 {t : List Rw} (hO : OkT t) (hB : OkB t) (hl : ∀ r ∈ t, r.l.length ≤ 12) : yes t = chV t := by
 unfold yes chV yak
 by_cases h6 : t.length ≠ 6
 ·rw [if_pos h6, if_pos h6]
 ·rw [if_neg h6, if_neg h6]
  have h6 : t.length = 6 := by omega
  have hc := yut hl
  rw [if_neg (show ¬ 2048 < cntV t by omega), ynh h6 hB]
  cases hk : (t.all fun r => yb8 t 0 r.l) with
  | false => rfl
  | true =>
   have tf : ¬ (true = false) := by simp
   rw [if_neg tf, if_neg tf, yxi]
   have hw : thA (allT t) = t.flatMap fun r => r.l.flatMap Lp.th := by
    unfold allT
    rw [zlm (by omega), yc5]
   unfold twV
   rw [hw]
   have hL := yh9 (by omega) (fun r hr => by have := hl r hr; omega) hO (by rw [ynh h6 hB, hk])
   rw [yl2 hL h6]
   by_cases hd : (t.flatMap fun r => r.l.flatMap Lp.th).Nodup
   ·rw [zlb hd, if_neg tf, if_neg (show ¬ ((!true) = true) by simp)]
    by_cases hf : (yar t).length < cntV t
    ·rw [zlb hf, if_pos hf]; rfl
    ·rw [zlc hf, if_neg hf]; rfl
   ·rw [zlc hd]; rfl
theorem yqj {t : List Rw} (hO : OkT t) (hl : ∀ r ∈ t, r.l.length ≤ 12) (h6 : t.length = 6) (hk : (t.all fun r => yb8 t 0 r.l) = true) : (t.flatMap fun r => r.l.flatMap Lp.th).length ≤ 288 := by
 have : ∀ (s : List Rw), (∀ r ∈ s, r.l.length ≤ 12 ∧ yb8 t 0 r.l = true) → (s.flatMap fun r => r.l.flatMap Lp.th).length ≤ 48 * s.length := by
  intro s
  induction s with
  | nil => intro _; simp
  | cons r s ih =>
   intro h
   have h1 := ih fun r' hr => h r' (by simp [hr])
   obtain ⟨h2, h3⟩ := h r (by simp)
   have := ydw t r.l 0 h3
   rw [List.flatMap_cons, zlg, List.length_cons]
   omega
 have := this t fun r hr => ⟨hl r hr, zls.1 hk r hr⟩
 omega
theorem yoq (t : List Rw) (ht : t.length < 2 ^ 60) (hO : OkT t) (hB : OkB t) (hl : ∀ r ∈ t, r.l.length ≤ 12) : PureC Try.prog 22 [tsl none t] (it (yes t)) := by
 have key : ∀ v, Tri Try.prog (cxN 193 0) (.seq (.seq (zqr Try.f22 1) (.cond (.tmp 20) (.seq (zqr Try.f22 2) .ret) .skip)) (.seq (zqr Try.f22 3) (.seq (.seq (zqr Try.f22 4) (.block 0 (.loop (zqc Try.f22 0)))) (.seq (.seq (zqr Try.f22 29) (.block 8 (.loop (zqc Try.f22 4)))) (.seq (zqr Try.f22 37) (.seq (.seq (zqr Try.f22 38) (.block 12 (.loop (zqc Try.f22 6)))) (.seq (.seq (zqr Try.f22 48) (.block 16 (.loop (zqc Try.f22 8)))) (.seq (zqr Try.f22 53) .ret)))))))) [(0, tsl none t)] .ret [(2, it v)] → PureC Try.prog 22 [tsl none t] (it v) := fun v h =>
  ycz ((base 193 0).ok zqb.1 zqb.2) Try.func22 rfl (by show 1 ≤ 193; omega) rfl yva rfl (ex := .ret) (env' := [(2, it v)]) (.seq (ch0_0 t) h) (by kernel_rfl)
 refine key _ ?_
 unfold yes
 have h1 := ch1_0 t
 rw [zla] at h1
 by_cases h6 : t.length ≠ 6
 ·rw [if_pos h6]
  rw [show ((((t.length : Nat) : Int) != (6 : Int))) = true by rw [bne_iff_ne]; omega] at h1
  exact .seqX (.seq h1 (.cond (b := true) rfl (.seq (.weak (kp [0]) (ch2_0 t)) .ret))) (by simp)
 ·rw [if_neg h6]
  have h6 : t.length = 6 := by omega
  rw [show ((((t.length : Nat) : Int) != (6 : Int))) = false by rw [h6]; rfl] at h1
  have h1 := Tri.seq h1 (.cond (t := 20) (c := .seq (zqr Try.f22 2) .ret) (d := .skip) (b := false) rfl (.after (kp [0]) .skip))
  have h3 : Tri Try.prog (cxN 193 0) (zqr Try.f22 3) [(0, tsl none t)] .normal [(0, tsl none t), (3, iow none [])] := .less (ch3_0 t) (.cons ⟨rfl, rfl, Le.refl _⟩ (.cons ⟨rfl, rfl, (Le.nilOwn 36).trans Le.cap⟩ .nil))
  have hY := (ykw t hO h6 hl 6 0 [] (by omega) (by decide)).loop
  rw [List.drop_zero, List.nil_append] at hY
  refine .seq h1 (.seq h3 ?_)
  cases hk : (t.all fun r => yb8 t 0 r.l) with
  | false =>
   rw [if_pos rfl]
   rw [hk, if_neg (by simp), if_neg (by simp)] at hY
   exact .seqX (.seq (ch4_0 t []) (.block (ex := .ret) hY (.inr ⟨by simp, rfl⟩))) (by simp)
  | true =>
   rw [if_neg (by simp)]
   rw [hk, if_pos rfl, if_pos rfl] at hY
   have hfl := yqj hO hl h6 hk
   have hL := yh9 (by omega) (fun r hr => by have := hl r hr; omega) hO (by rw [ynh h6 hB, hk])
   refine .seq (.seq (ch4_0 t []) (.block (ex := .exit 0) hY (.inl ⟨rfl, rfl⟩))) ?_
   generalize (t.flatMap fun r => r.l.flatMap Lp.th) = w at *
   have hE := (yk2 t w (by omega) w.length 0 (Nat.zero_add _)).loop
   cases hn : ndF w w.length 0 with
   | false =>
    rw [if_pos rfl]
    rw [hn, if_neg (by simp), if_neg (by simp)] at hE
    exact .seqX (.seq (ysc t w) (.block (ex := .ret) hE (.inr ⟨by simp, rfl⟩))) (by simp)
   | true =>
    rw [if_neg (by simp)]
    rw [hn, if_pos rfl, if_pos rfl] at hE
    have hM0 := okM0 t
    have hH := (yk0 hL h6 (cntV t) m0 hM0 (by rw [rem0]; omega)).loop
    obtain ⟨hG, hs⟩ := ydn h6 (cntV t + 1) m0 hM0 (by rw [rem0]; omega)
    have hF := (yk1 hL h6 (ya9 t (cntV t + 1) m0) hG 6 0 (by omega)).loop
    have h37 : Tri Try.prog (cxN 193 0) (zqr Try.f22 37) [(0, tsl none t)] .normal [(0, tsl none t), (13, .box ((0 :: m0).map itI))] := ch37_0 t
    refine .seq (.seq (ysc t w) (.block (ex := .exit 8) hE (.inl ⟨rfl, rfl⟩))) (.seq h37 (.seq (.seq (ch38_0 t (0 :: m0)) (.block (ex := .exit 12) hH (.inl ⟨rfl, rfl⟩))) ?_))
    generalize ya9 t (cntV t + 1) m0 = g at *
    cases hf : yfh t g 6 0 with
    | false =>
     rw [if_pos rfl]
     rw [hf, if_neg (by simp), if_neg (by simp)] at hF
     exact .seqX (.seq (yr5 t (0 :: g)) (.block (ex := .ret) hF (.inr ⟨by simp, rfl⟩))) (by simp)
    | true =>
     rw [if_neg (by simp)]
     rw [hf, if_pos rfl, if_pos rfl] at hF
     exact .seq (.seq (yr5 t (0 :: g)) (.block (ex := .exit 16) hF (.inl ⟨rfl, rfl⟩))) (.seq (ch53_0 t) .ret)
def HCd (t : List Rw) (v : Int) : Prop := PureC Try.prog 22 [tsl none t] (it v)
theorem uHCd {t : List Rw} {v : Int} (h : HCd t v) : PureC Try.prog 22 [tsl none t] (it v) := h
def HCv (t : List Rw) (v : Int) : Prop := PureC Try.prog 11 [tsl none t] (it v)
theorem uHCv {t : List Rw} {v : Int} (h : HCv t v) : PureC Try.prog 11 [tsl none t] (it v) := h
def HOe (t : List Rw) (v : Int) : Prop := PureC Try.prog 10 [tsl none t] (.tup [zqw, it v])
theorem uHOe {t : List Rw} {v : Int} (h : HOe t v) : PureC Try.prog 10 [tsl none t] (.tup [zqw, it v]) := h
def HAd (t : List Rw) (y b : Int) (w : Bool) (v : Int) : Prop := PureC Try.prog 17 [tsl none t, ub y, .agg [ub b, bb w, zqw, zqw]] (.tup [zqw, it v])
theorem uHAd {t : List Rw} {y b : Int} {w : Bool} {v : Int} (h : HAd t y b w v) : PureC Try.prog 17 [tsl none t, ub y, .agg [ub b, bb w, zqw, zqw]] (.tup [zqw, it v]) := h
theorem lc0_0 (t : List Rw) : Tri Try.prog (cxN 131 0) (zqr Try.f6 0) ([(0, tsl none t)]) .normal ([(0, tsl none t)]) :=
 ev h6 [.c] zqa
theorem lc1_0 (t : List Rw) : Tri Try.prog (cxN 131 0) (zqr Try.f6 1) ([(0, tsl none t)]) .normal ([(0, tsl none t), (18, bb (decide ((7 : Int) < ((t.map Rw.enc).length : Int))))]) :=
 ev h6 [.c, .c, .c] zqa
theorem lc2_0 (t : List Rw) : Tri Try.prog (cxN 131 0) (zqr Try.f6 2) ([(0, tsl none t)]) .normal ([(2, bb true)]) :=
 ev h6 [.r (bb true), .c, .c, .c] (allp (p := PureC Try.prog 14 [] (bb true)) (by apply yfc<;>first|assumption|rfl|(simp at *<;>omega)) zqa)
theorem yyi (t : List Rw) : Tri Try.prog (cxN 131 0) (zqr Try.f6 3) ([(0, tsl none t)]) .normal ([(0, tsl none t), (3, it 0)]) :=
 ev h6 [.c] zqa
theorem yyh (t : List Rw) (y : Int) : Tri Try.prog (cxN 131 0) (zqr Try.f6 4) ([(0, tsl none t), (3, it y)]) .normal ([(0, tsl none t), (3, it y), (23, bb (decide (y < ((t.map Rw.enc).length : Int))))]) :=
 ev h6 [.c, .c, .c, .c] zqa
theorem lc5_0 (t : List Rw) (y : Int) : Tri Try.prog (cxN 131 0) (zqr Try.f6 5) ([(0, tsl none t), (3, it y)]) .normal ([(0, tsl none t), (3, it (i64.wrap (y + (1 : Int))))]) :=
 ev h6 [.c, .c, .c] zqa
theorem lc6_0 (t : List Rw) (y : Int) (g0 : decide ((0 : Int) ≤ y ∧ y < ((t.map Rw.enc).length : Int)) = true) (g1 : (t.map Rw.enc).getD (y.toNat) AV.bad = Rw.enc (t.getD (y.toNat) default)) : Tri Try.prog (cxN 131 0) (zqr Try.f6 6) ([(0, tsl none t), (3, it y)]) .normal ([(0, tsl none t), (3, it y), (31, bb (decide ((12 : Int) < (↑(((Rw.l (t.getD (y.toNat) default)).map Lp.enc).length) : Int))))]) :=
 ev h6 [.c, .c, .b true, .r (Rw.enc (t.getD (y.toNat) default)), .c, .c, .c, .c] (allp g0 (allp g1 zqa))
theorem lc7_0 (t : List Rw) : Tri Try.prog (cxN 131 0) (zqr Try.f6 7) ([(0, tsl none t)]) .normal ([(2, bb true)]) :=
 ev h6 [.r (bb true), .c, .c, .c] (allp (p := PureC Try.prog 14 [] (bb true)) (by apply yfc<;>first|assumption|rfl|(simp at *<;>omega)) zqa)
theorem yyg (t : List Rw) (y : Int) : Tri Try.prog (cxN 131 0) (zqr Try.f6 8) ([(0, tsl none t), (3, it y)]) .normal ([(0, tsl none t), (3, it y), (4, it 0)]) :=
 ev h6 [.c] zqa
theorem yyf (t : List Rw) (y i : Int) (g0 : decide ((0 : Int) ≤ y ∧ y < ((t.map Rw.enc).length : Int)) = true) (g1 : (t.map Rw.enc).getD (y.toNat) AV.bad = Rw.enc (t.getD (y.toNat) default)) : Tri Try.prog (cxN 131 0) (zqr Try.f6 9) ([(0, tsl none t), (3, it y), (4, it i)]) .normal ([(0, tsl none t), (3, it y), (4, it i), (39, bb (decide (i < (↑(((Rw.l (t.getD (y.toNat) default)).map Lp.enc).length) : Int))))]) :=
 ev h6 [.c, .c, .c, .b true, .r (Rw.enc (t.getD (y.toNat) default)), .c, .c, .c, .c] (allp g0 (allp g1 zqa))
theorem yyv (t : List Rw) (y i : Int) : Tri Try.prog (cxN 131 0) (zqr Try.f6 10) ([(0, tsl none t), (3, it y), (4, it i)]) .normal ([(0, tsl none t), (3, it y), (4, it (i64.wrap (i + (1 : Int))))]) :=
 ev h6 [.c, .c, .c] zqa
theorem yyu (t : List Rw) (y i : Int) (g0 : decide ((0 : Int) ≤ y ∧ y < ((t.map Rw.enc).length : Int)) = true) (g1 : (t.map Rw.enc).getD (y.toNat) AV.bad = Rw.enc (t.getD (y.toNat) default)) (g2 : decide ((0 : Int) ≤ i ∧ i < (↑(((Rw.l (t.getD (y.toNat) default)).map Lp.enc).length) : Int)) = true) (g3 : ((Rw.l (t.getD (y.toNat) default)).map Lp.enc).getD (i.toNat) AV.bad = Lp.enc ((Rw.l (t.getD (y.toNat) default)).getD (i.toNat) default)) (g4 : decide ((6 : Int) < (↑(((Lp.th ((Rw.l (t.getD (y.toNat) default)).getD (i.toNat) default)).map Idd.enc).length) : Int)) = true) : Tri Try.prog (cxN 131 0) (zqr Try.f6 11) ([(0, tsl none t), (3, it y), (4, it i)]) .normal ([(0, tsl none t), (3, it y), (4, it i), (63, bb true)]) :=
 ev h6 [.c, .c, .b true, .r (Rw.enc (t.getD (y.toNat) default)), .c, .c, .c, .b true, .r (Lp.enc ((Rw.l (t.getD (y.toNat) default)).getD (i.toNat) default)), .c, .c, .c, .c, .c, .c, .b true, .c, .b true, .c, .b true, .c, .b true, .c, .b true, .c, .b true, .c, .b true, .c, .b true, .c, .b true, .c, .b true, .c, .b true, .c] (allp g0 (allp g1 (allp g2 (allp g3 (allp g4 (allp g4 (allp g4 (allp g4 (allp g4 (allp g4 (allp g4 (allp g4 (allp g4 (allp g4 (allp g4 zqa)))))))))))))))
theorem yyt (t : List Rw) (y i : Int) (g0 : decide ((0 : Int) ≤ y ∧ y < ((t.map Rw.enc).length : Int)) = true) (g1 : (t.map Rw.enc).getD (y.toNat) AV.bad = Rw.enc (t.getD (y.toNat) default)) (g2 : decide ((0 : Int) ≤ i ∧ i < (↑(((Rw.l (t.getD (y.toNat) default)).map Lp.enc).length) : Int)) = true) (g3 : ((Rw.l (t.getD (y.toNat) default)).map Lp.enc).getD (i.toNat) AV.bad = Lp.enc ((Rw.l (t.getD (y.toNat) default)).getD (i.toNat) default)) (g4 : decide ((6 : Int) < (↑(((Lp.th ((Rw.l (t.getD (y.toNat) default)).getD (i.toNat) default)).map Idd.enc).length) : Int)) = false) : Tri Try.prog (cxN 131 0) (zqr Try.f6 11) ([(0, tsl none t), (3, it y), (4, it i)]) .normal ([(0, tsl none t), (3, it y), (4, it i), (63, bb (decide ((6 : Int) < (↑(((Lp.pa ((Rw.l (t.getD (y.toNat) default)).getD (i.toNat) default)).map Ps.enc).length) : Int))))]) :=
 ev h6 [.c, .c, .b true, .r (Rw.enc (t.getD (y.toNat) default)), .c, .c, .c, .b true, .r (Lp.enc ((Rw.l (t.getD (y.toNat) default)).getD (i.toNat) default)), .c, .c, .c, .c, .c, .c, .b false, .c, .b false, .c, .b false, .b true, .r (Rw.enc (t.getD (y.toNat) default)), .c, .b false, .c, .b false, .c, .b false, .b true, .r (Lp.enc ((Rw.l (t.getD (y.toNat) default)).getD (i.toNat) default)), .c, .b false, .c, .b false, .c, .b false, .c, .b false, .c, .b false, .c] (allp g0 (allp g1 (allp g2 (allp g3 (allp g4 (allp g4 (allp g4 (allp g0 (allp g1 (allp g4 (allp g4 (allp g4 (allp g2 (allp g3 (allp g4 (allp g4 (allp g4 (allp g4 (allp g4 zqa)))))))))))))))))))
theorem yys (t : List Rw) : Tri Try.prog (cxN 131 0) (zqr Try.f6 12) ([(0, tsl none t)]) .normal ([(2, bb true)]) :=
 ev h6 [.r (bb true), .c, .c, .c] (allp (p := PureC Try.prog 14 [] (bb true)) (by apply yfc<;>first|assumption|rfl|(simp at *<;>omega)) zqa)
theorem yyr (t : List Rw) (v : Int) (h : HCd t v) : Tri Try.prog (cxN 131 0) (zqr Try.f6 13) ([(0, tsl none t)]) .normal ([(0, tsl none t), (5, it v)]) :=
 ev h6 [.c, .r (tsl none t), .r (it v), .c, .c, .c] (allp (zqg .any none t) (allp (p := PureC Try.prog 22 [tsl none t] (it v)) (by apply uHCd<;>first|assumption|rfl|(simp at *<;>omega)) zqa))
theorem yty (t : List Rw) (l : List Idd) (v : Int) (h : HOr t l) : Tri Try.prog (cxN 131 0) (zqr Try.f6 14) ([(0, tsl none t), (5, it v)]) .normal ([(0, tsl none t), (5, it v), (7, it 0), (67, AV.tup [iow (some (l.length)) l, it 0])]) :=
 ev h6 [.c, .r (tsl none t), .r (AV.tup [iow (some (l.length)) l, it 0]), .c, .c, .c, .c, .c, .c, .c] (allp (zqg .any none t) (allp (p := PureC Try.prog 10 [tsl none t] (AV.tup [iow (some (l.length)) l, it 0])) (by apply uHOr<;>first|assumption|rfl|(simp at *<;>omega)) zqa))
theorem ytx (t : List Rw) (v : Int) (h : HOe t v) : Tri Try.prog (cxN 131 0) (zqr Try.f6 14) ([(0, tsl none t), (5, it v)]) .normal ([(0, tsl none t), (5, it v), (7, it v), (67, AV.tup [zqw, it v])]) :=
 ev h6 [.c, .r (tsl none t), .r (AV.tup [zqw, it v]), .c, .c, .c, .c, .c, .c, .c] (allp (zqg .any none t) (allp (p := PureC Try.prog 10 [tsl none t] (AV.tup [zqw, it v])) (by apply uHOe<;>first|assumption|rfl|(simp at *<;>omega)) zqa))
theorem yyq (t : List Rw) (v : Int) (h : HCv t v) (g0 : (v != v) = false) : Tri Try.prog (cxN 131 0) (zqr Try.f6 15) ([(0, tsl none t), (5, it v), (7, it v)]) .normal ([(0, tsl none t), (5, it v), (80, bb (v != v))]) :=
 ev h6 [.c, .r (tsl none t), .r (it v), .c, .c, .c, .c, .c, .b false, .c, .b false, .c, .b false, .c, .b false, .c] (allp (zqg .any none t) (allp (p := PureC Try.prog 11 [tsl none t] (it v)) (by apply uHCv<;>first|assumption|rfl|(simp at *<;>omega)) (allp g0 (allp g0 (allp g0 (allp g0 zqa))))))
theorem yyp (t : List Rw) (v : Int) : Tri Try.prog (cxN 131 0) (zqr Try.f6 17) ([(0, tsl none t), (5, it v)]) .normal ([(0, tsl none t), (5, it v), (82, bb (v != (0 : Int)))]) :=
 ev h6 [.c, .c] zqa
theorem yyo (t : List Rw) (v : Int) (h : HAd t 1 0 true v) : Tri Try.prog (cxN 131 0) (zqr Try.f6 18) ([(0, tsl none t), (5, it v)]) .normal ([(5, it v), (8, zqw), (9, it v), (83, AV.tup [zqw, it v]), (86, AV.bad)]) :=
 ev h6 [.c, .c, .r (tsl none t), .r (AV.tup [zqw, it v]), .c, .c, .c, .c, .c, .c, .c] (allp (zqg .any none t) (allp (p := PureC Try.prog 17 [tsl none t, ub 1, AV.agg [ub 0, bb true, zqw, zqw]] (AV.tup [zqw, it v])) (by apply uHAd<;>first|assumption|rfl|(simp at *<;>omega)) zqa))
theorem yyn (v : Int) (g0 : (v == v) = true) : Tri Try.prog (cxN 131 0) (zqr Try.f6 19) ([(5, it v), (8, zqw), (9, it v)]) .normal ([(2, bb true)]) :=
 ev h6 [.c, .c, .c, .c, .b true, .c, .b true, .c, .b true, .c, .b true, .c, .c, .c, .r (bb true), .c, .c, .c, .c, .c] (allp g0 (allp g0 (allp g0 (allp g0 (allp (p := PureC Try.prog 14 [] (bb true)) (by apply yfc<;>first|assumption|rfl|(simp at *<;>omega)) zqa)))))
theorem yym (t : List Rw) (h : HAd t 0 0 false 1) : Tri Try.prog (cxN 131 0) (zqr Try.f6 20) ([(0, tsl none t)]) .normal ([(0, tsl none t), (11, it 1), (100, AV.tup [zqw, it 1])]) :=
 ev h6 [.c, .c, .r (tsl none t), .r (AV.tup [zqw, it 1]), .c, .c, .c, .c, .c, .c, .c] (allp (zqg .any none t) (allp (p := PureC Try.prog 17 [tsl none t, ub 0, AV.agg [ub 0, bb false, zqw, zqw]] (AV.tup [zqw, it 1])) (by apply uHAd<;>first|assumption|rfl|(simp at *<;>omega)) zqa))
theorem yyl (t : List Rw) (h : HAd t 7 0 false 1) : Tri Try.prog (cxN 131 0) (zqr Try.f6 21) ([(0, tsl none t), (11, it 1)]) .normal ([(0, tsl none t), (11, it 1), (13, it 1), (106, AV.tup [zqw, it 1])]) :=
 ev h6 [.c, .c, .r (tsl none t), .r (AV.tup [zqw, it 1]), .c, .c, .c, .c, .c, .c, .c] (allp (zqg .any none t) (allp (p := PureC Try.prog 17 [tsl none t, ub 7, AV.agg [ub 0, bb false, zqw, zqw]] (AV.tup [zqw, it 1])) (by apply uHAd<;>first|assumption|rfl|(simp at *<;>omega)) zqa))
theorem yyk (t : List Rw) (h : HAd t 3 2 false 1) : Tri Try.prog (cxN 131 0) (zqr Try.f6 22) ([(0, tsl none t), (11, it 1), (13, it 1)]) .normal ([(11, it 1), (13, it 1), (15, it 1), (112, AV.tup [zqw, it 1])]) :=
 ev h6 [.c, .c, .r (tsl none t), .r (AV.tup [zqw, it 1]), .c, .c, .c, .c, .c, .c, .c] (allp (zqg .any none t) (allp (p := PureC Try.prog 17 [tsl none t, ub 3, AV.agg [ub 2, bb false, zqw, zqw]] (AV.tup [zqw, it 1])) (by apply uHAd<;>first|assumption|rfl|(simp at *<;>omega)) zqa))
theorem yyj (u : Nat) : Tri Try.prog (cxN 131 0) (zqr Try.f6 23) ([(11, it 1), (13, it 1), (15, it 1)]) .normal ([(2, bb true)]) :=
 ev h6 [.c, .c, .c, .c, .c, .c, .c, .c, .c, .c, .c, .c, .c, .c, .c, .c, .c, .c, .r (bb true), .c, .c, .c, .c, .c] (allp (p := PureC Try.prog 14 [] (bb true)) (by apply yfc<;>first|assumption|rfl|(simp at *<;>omega)) zqa)
theorem yqa : zqc Try.f6 0 = .seq (.seq (zqr Try.f6 4) (.cond (.tmp 23) .skip (.exit 0))) (.seq (.block 1 (.seq (.seq (zqr Try.f6 6) (.cond (.tmp 31) (.seq (zqr Try.f6 7) .ret) .skip)) (.seq (zqr Try.f6 8) (.block 2 (.loop (zqc Try.f6 1)))))) (zqr Try.f6 5)) := by kernel_rfl
theorem ytv : zqc Try.f6 1 = .seq (.seq (zqr Try.f6 9) (.cond (.tmp 39) .skip (.exit 2))) (.seq (.block 3 (.seq (zqr Try.f6 11) (.cond (.tmp 63) (.seq (zqr Try.f6 12) .ret) .skip))) (zqr Try.f6 10)) := by kernel_rfl
theorem ytw : Try.f6.body = some (.seq (zqr Try.f6 0) (.seq (.seq (zqr Try.f6 1) (.cond (.tmp 18) (.seq (zqr Try.f6 2) .ret) .skip)) (.seq (.seq (zqr Try.f6 3) (.block 0 (.loop (zqc Try.f6 0)))) (.seq (zqr Try.f6 13) (.seq (zqr Try.f6 14) (.seq (.seq (zqr Try.f6 15) (.cond (.tmp 80) (.seq (zqr Try.f6 16) .ret) .skip)) (.seq (.seq (zqr Try.f6 17) (.cond (.tmp 82) (.seq (zqr Try.f6 18) (.seq (zqr Try.f6 19) .ret)) .skip)) (.seq (zqr Try.f6 20) (.seq (zqr Try.f6 21) (.seq (zqr Try.f6 22) (.seq (zqr Try.f6 23) .ret))))))))))) := by kernel_rfl
def smL (L : Lp) : Bool := !decide (6 < L.th.length) && !decide (6 < L.pa.length)
def smR (r : Rw) : Bool := !decide (12 < r.l.length) && r.l.all smL
section
variable (t : List Rw) (ht : t.length ≤ 7)
include ht
theorem yki (y : Nat) (hy : y < t.length) (hl : (t.getD y default).l.length ≤ 12) : ∀ (m i : Nat), i + m = (t.getD y default).l.length → Rnd Try.prog (cxN 131 0) (zqc Try.f6 1) (m + 1) [(0, tsl none t), (3, it y), (4, it i)] (if ((t.getD y default).l.drop i).all smL = true then .exit 2 else .ret) (if ((t.getD y default).l.drop i).all smL = true then [(0, tsl none t), (3, it y)] else [(2, bb true)])
 | 0, i, h => by
  rw [zln (by omega), List.all_nil, if_pos rfl, if_pos rfl, ytv]
  have h1 := yyf t y i (zlb (by rw [zla]; omega)) (yam (by omega))
  rw [zlf, zla, show decide ((i : Int) < ((t.getD y default).l.length : Nat)) = false by rw [zlc]; omega] at h1
  exact .exit (.seqX (.seq h1 (.cond (b := false) rfl (.after (kp [0, 3]) .exit))) (by simp)) (by simp)
 | m + 1, i, h => by
  have hi : i < (t.getD y default).l.length := by omega
  have ih := yki y hy hl m (i + 1) (by omega)
  rw [yag _ hi default, List.all_cons]
  have h1 := yyf t y i (zlb (by rw [zla]; omega)) (yam (by omega))
  rw [zlf, zla, show decide ((i : Int) < ((t.getD y default).l.length : Nat)) = true by rw [zlb]; omega] at h1
  have h1 := Tri.seq h1 (.cond (t := 39) (c := .skip) (d := .exit 2) (b := true) rfl (.after (kp [0, 3, 4]) .skip))
  have h11 : Tri Try.prog (cxN 131 0) (zqr Try.f6 11) [(0, tsl none t), (3, it y), (4, it i)] .normal [(0, tsl none t), (3, it y), (4, it i), (63, bb (!smL ((t.getD y default).l.getD i default)))] := by
   have a := yyu t y i (zlb (by rw [zla]; omega)) (yam (by omega))
   have b := yyt t y i (zlb (by rw [zla]; omega)) (yam (by omega))
   simp only [zlf] at a b
   replace a := a (zlb (by rw [zla]; omega)) (yck (by omega))
   replace b := b (zlb (by rw [zla]; omega)) (yck (by omega))
   unfold smL
   by_cases h6 : 6 < ((t.getD y default).l.getD i default).th.length
   ·rw [zlb h6]; exact a (zlb (by rw [zla]; omega))
   ·rw [zlc h6]
    replace b := b (zlc (by rw [zla]; omega))
    by_cases h7 : 6 < ((t.getD y default).l.getD i default).pa.length
    ·rw [zlb h7]; rw [show decide ((6 : Int) < ((List.map Ps.enc ((t.getD y default).l.getD i default).pa).length : Nat)) = true from zlb (by rw [zla]; omega)] at b; exact b
    ·rw [zlc h7]; rw [show decide ((6 : Int) < ((List.map Ps.enc ((t.getD y default).l.getD i default).pa).length : Nat)) = false from zlc (by rw [zla]; omega)] at b; exact b
  cases hs : smL ((t.getD y default).l.getD i default) with
  | false =>
   rw [Bool.false_and, if_neg (by simp), if_neg (by simp)]
   rw [hs] at h11
   refine .exit ?_ (by simp)
   rw [ytv]
   exact .seq h1 (.seqX (.block (ex := .ret) (.seq h11 (.cond (b := true) rfl (.seq (.weak (kp [0]) (yys t)) .ret))) (.inr ⟨by simp, rfl⟩)) (by simp))
  | true =>
   rw [Bool.true_and]
   rw [hs] at h11
   have h10 := yyv t y i
   rw [up64 (by omega)] at h10
   refine .step ?_ ih
   rw [ytv]
   exact .seq h1 (.seq (.block (ex := .normal) (.seq h11 (.cond (b := false) rfl (.after (kp [0, 3, 4]) .skip))) (.inr ⟨by simp, rfl⟩)) h10)
theorem ykh : ∀ (m y : Nat), y + m = t.length → Rnd Try.prog (cxN 131 0) (zqc Try.f6 0) (m + 1) [(0, tsl none t), (3, it y)] (if (t.drop y).all smR = true then .exit 0 else .ret) (if (t.drop y).all smR = true then [(0, tsl none t)] else [(2, bb true)])
 | 0, y, h => by
  rw [zln (by omega), List.all_nil, if_pos rfl, if_pos rfl, yqa]
  have h1 := yyh t y
  rw [zla, show decide ((y : Int) < (t.length : Nat)) = false by rw [zlc]; omega] at h1
  exact .exit (.seqX (.seq h1 (.cond (b := false) rfl (.after (kp [0]) .exit))) (by simp)) (by simp)
 | m + 1, y, h => by
  have hy : y < t.length := by omega
  have ih := ykh m (y + 1) (by omega)
  rw [yag _ hy default, List.all_cons]
  have h1 := yyh t y
  rw [zla, show decide ((y : Int) < (t.length : Nat)) = true by rw [zlb]; omega] at h1
  have h1 := Tri.seq h1 (.cond (t := 23) (c := .skip) (d := .exit 0) (b := true) rfl (.after (kp [0, 3]) .skip))
  have h6 := lc6_0 t y (zlb (by rw [zla]; omega)) (yam (by omega))
  rw [zlf, zla] at h6
  unfold smR at ih ⊢
  by_cases hl : 12 < (t.getD y default).l.length
  ·rw [zlb hl, Bool.not_true, Bool.false_and, Bool.false_and, if_neg (by simp), if_neg (by simp)]
   rw [show decide ((12 : Int) < ((t.getD y default).l.length : Nat)) = true from zlb (by omega)] at h6
   refine .exit ?_ (by simp)
   rw [yqa]
   exact .seq h1 (.seqX (.block (ex := .ret) (.seqX (.seq h6 (.cond (b := true) rfl (.seq (.weak (kp [0]) (lc7_0 t)) .ret))) (by simp)) (.inr ⟨by simp, rfl⟩)) (by simp))
  ·rw [zlc hl, Bool.not_false, Bool.true_and]
   rw [show decide ((12 : Int) < ((t.getD y default).l.length : Nat)) = false from zlc (by omega)] at h6
   have h6 := Tri.seq h6 (.cond (t := 31) (c := .seq (zqr Try.f6 7) .ret) (d := .skip) (b := false) rfl (.after (kp [0, 3]) .skip))
   have hI := (yki t ht y hy (by omega) (t.getD y default).l.length 0 (Nat.zero_add _)).loop
   rw [List.drop_zero] at hI
   cases hs : (t.getD y default).l.all smL with
   | false =>
    rw [Bool.false_and, if_neg (by simp), if_neg (by simp)]
    rw [hs, if_neg (by simp), if_neg (by simp)] at hI
    refine .exit ?_ (by simp)
    rw [yqa]
    exact .seq h1 (.seqX (.block (ex := .ret) (.seq h6 (.seq (yyg t y) (.block (ex := .ret) hI (.inr ⟨by simp, rfl⟩)))) (.inr ⟨by simp, rfl⟩)) (by simp))
   | true =>
    rw [Bool.true_and]
    rw [hs, if_pos rfl, if_pos rfl] at hI
    have h5 := lc5_0 t y
    rw [up64 (by omega)] at h5
    refine .step ?_ ih
    rw [yqa]
    exact .seq h1 (.seq (.block (ex := .normal) (.seq h6 (.seq (yyg t y) (.block (ex := .exit 2) hI (.inl ⟨rfl, rfl⟩)))) (.inr ⟨by simp, rfl⟩)) h5)
end
theorem yvl {t : List Rw} (h6 : t.length = 6) (hc : cntV t ≤ 72) (L : Lp) (hb : L.b = 2) : chV (rwO (zrj t 3 L)) = 1 := by
 have hl : (rwO (zrj t 3 L)).length = 6 := by unfold rwO zrj; simp [h6]
 have hcn := yku t 3 L
 unfold chV yak
 rw [if_neg (show ¬ (rwO (zrj t 3 L)).length ≠ 6 by omega), if_neg (show ¬ 2048 < cntV (rwO (zrj t 3 L)) by omega)]
 cases hk : ckT (rwO (zrj t 3 L)) with
 | false => rfl
 | true =>
  exfalso
  have hr : (⟨none, (addR t 3 L 2).map cpL⟩ : Rw) ∈ rwO (zrj t 3 L) := by
   unfold rwO zrj
   exact List.mem_map.2 ⟨addR t 3 L 2, List.mem_map.2 ⟨2, List.mem_range.2 (by omega), rfl⟩, rfl⟩
  have hm : cpL L ∈ (⟨none, (addR t 3 L 2).map cpL⟩ : Rw).l := by
   refine List.mem_map.2 ⟨L, ?_, rfl⟩
   unfold addR
   rw [if_pos (by rfl)]
   simp
  have := yr3 (by omega) hk hr hm
  unfold yah at this
  simp only [zlo, Bool.or_eq_true, beq_iff_eq] at this
  have h1 := this.1.1.1
  have e : (cpL L).b = L.b := rfl
  rw [e] at h1
  omega
theorem ynt (t : List Rw) (hI : ∀ r ∈ t, ∀ L ∈ r.l, okI L) (hB : ∀ r ∈ t, ∀ L ∈ r.l, 0 ≤ L.b ∧ ∀ p ∈ L.pa, 0 ≤ p.d) : PureC Try.prog 6 [tsl none t] (bb true) := by
 refine ycz ((base 131 0).ok zqb.1 zqb.2) Try.func6 rfl (by show 1 ≤ 131; omega) rfl ytw rfl (ex := .ret) (env' := [(2, bb true)]) (.seq (lc0_0 t) ?_) (by kernel_rfl)
 have h1 := lc1_0 t
 rw [zla] at h1
 by_cases h7 : 7 < t.length
 ·rw [show decide ((7 : Int) < (t.length : Nat)) = true from zlb (by omega)] at h1
  exact .seqX (.seq h1 (.cond (b := true) rfl (.seq (.weak (kp [0]) (lc2_0 t)) .ret))) (by simp)
 ·rw [show decide ((7 : Int) < (t.length : Nat)) = false from zlc (by omega)] at h1
  have h1 := Tri.seq h1 (.cond (t := 18) (c := .seq (zqr Try.f6 2) .ret) (d := .skip) (b := false) rfl (.after (kp [0]) .skip))
  refine .seq h1 ?_
  have hl := (ykh t (by omega) t.length 0 (Nat.zero_add _)).loop
  rw [List.drop_zero] at hl
  cases hs : t.all smR with
  | false =>
   rw [hs, if_neg (by simp), if_neg (by simp)] at hl
   exact .seqX (.seq (yyi t) (.block (ex := .ret) hl (.inr ⟨by simp, rfl⟩))) (by simp)
  | true =>
   rw [hs, if_pos rfl, if_pos rfl] at hl
   refine .seq (.seq (yyi t) (.block (ex := .exit 0) hl (.inl ⟨rfl, rfl⟩))) ?_
   have hsm : ∀ r ∈ t, r.l.length ≤ 12 ∧ ∀ L ∈ r.l, L.th.length ≤ 6 ∧ L.pa.length ≤ 6 := by
    intro r hr
    have := zls.1 hs r hr
    unfold smR at this
    rw [zlo, Bool.not_eq_true', decide_eq_false_iff_not] at this
    refine ⟨by omega, fun L hL => ?_⟩
    have := zls.1 this.2 L hL
    unfold smL at this
    simp only [zlo, Bool.not_eq_true', decide_eq_false_iff_not] at this
    omega
   have h12 : ∀ r ∈ t, r.l.length ≤ 12 := fun r hr => (hsm r hr).1
   have ht0 : t.length < 2 ^ 60 := by omega
   have hO : OkT t := fun r hr L hL => ⟨hI r hr L hL, by have := ((hsm r hr).2 L hL).1; omega, by have := ((hsm r hr).2 L hL).2; omega⟩
   have hBB : OkB t := fun r hr L hL => ⟨(hB r hr L hL).1, (hB r hr L hL).2, ((hsm r hr).2 L hL).2⟩
   have hrow : ∀ r ∈ t, r.l.length < 2 ^ 60 := fun r hr => by have := h12 r hr; omega
   have hc := yut h12
   have hcd : HCd t (chV t) := by
    have := yoq t ht0 hO hBB h12
    rw [yl5 hO hBB h12] at this
    exact this
   have hcv : HCv t (chV t) := yf2 none t (by omega) ht0 hrow hO
   have htw := hO.tw (by omega) ht0 hrow
   have hor := ym5 none t (twV t) (by omega) ht0 hrow hO htw
   have nl2 : F2 (Le Try.prog) [zqw, zqw] [isl (some 0) [], sl (some 0) []] := .cons (Le.nil 36) (.cons (Le.nil 56) .nil)
   have hadd : ∀ (y b : Int) (w : Bool), 0 ≤ y → y ≤ 255 → PureC Try.prog 17 [tsl none t, ub y, .agg [ub b, bb w, zqw, zqw]] (addV t y ⟨b, w, some 0, [], some 0, []⟩) := fun y b w h0 h1 =>
    (add_c none t y ⟨b, w, some 0, [], some 0, []⟩ (by omega) ht0 hrow hO h0 h1 ⟨fun p hp => by simp [zqz, ye7] at hp, by simp, by simp⟩).args (.cons (Le.refl _) (.cons (Le.refl _) (.cons (Le.agg (.cons (Le.refl _) (.cons (Le.refl _) nl2))) .nil)))
   unfold yh5 at hor
   have hchk : yak t (twV t) = chV t := rfl
   rw [hchk] at hor
   refine .seq (yyr t _ hcd) ?_
   have h15 := yyq t (chV t) hcv (by simp)
   rw [show (chV t != chV t) = false by simp] at h15
   have h15 := Tri.seq h15 (.cond (t := 80) (c := .seq (zqr Try.f6 16) .ret) (d := .skip) (b := false) rfl (.after (kp [0, 5]) .skip))
   have h17 := yyp t (chV t)
   by_cases hv : chV t = 0
   ·rw [if_pos hv] at hor
    have h6 : t.length = 6 := by
     unfold chV yak at hv
     by_cases h : t.length ≠ 6
     ·rw [if_pos h] at hv; cases hv
     ·omega
    have hfl : (yar t).length = cntV t := by
     have hck := yhj (show yak t (twV t) = 0 from hv)
     have hL := yh9 (by omega) hrow hO hck.2.2.1
     obtain ⟨hG, hst⟩ := ydn h6 (cntV t + 1) m0 (okM0 t) (by rw [rem0]; omega)
     have := yhe h6 hL.yy hG hst (cntV t + 1) m0 (okM0 t) (fun i hi => by have := hG.le i (by omega); rw [yke]; omega)
     rw [rem0] at this
     have h2 : (ycm t (cntV t + 1) m0).length = (yar t).length := rfl
     have := hck.2.2.2.2
     omega
    rw [← hfl] at hor
    have h14' : Tri Try.prog (cxN 131 0) (zqr Try.f6 14) [(0, tsl none t), (5, it (chV t))] .normal [(0, tsl none t), (5, it (chV t)), (7, it (chV t))] := by
     rw [hv]
     exact Tri.after (kp [0, 5, 7]) (yty t (yar t) 0 hor)
    rw [show (chV t != 0) = false by rw [hv]; rfl] at h17
    have a0 : HAd t 0 0 false 1 := by
     have := hadd 0 0 false (by omega) (by omega)
     unfold addV at this
     rw [if_pos hv, if_pos (by omega)] at this
     exact this
    have a7 : HAd t 7 0 false 1 := by
     have := hadd 7 0 false (by omega) (by omega)
     unfold addV at this
     rw [if_pos hv, if_pos (by omega)] at this
     exact this
    have a3 : HAd t 3 2 false 1 := by
     have := hadd 3 2 false (by omega) (by omega)
     unfold addV at this
     have hbb := yvl h6 (by omega) ⟨2, false, some 0, [], some 0, []⟩ rfl
     rw [if_pos hv, if_neg (by omega), if_neg (by rw [hbb]; decide), hbb] at this
     exact this
    refine .seq h14' (.seq h15 (.seq (.seq h17 (.cond (b := false) rfl (.after (kp [0]) .skip))) (.seq (.after (kp [0, 11]) (yym t a0)) (.seq (.after (kp [0, 11, 13]) (yyl t a7)) (.seq (.after (kp [11, 13, 15]) (yyk t a3)) (.seq (yyj 0) .ret))))))
   ·rw [if_neg hv] at hor
    have h14 := Tri.after (kp [0, 5, 7]) (ytx t (chV t) hor)
    rw [show (chV t != 0) = true by rw [bne_iff_ne]; exact hv] at h17
    have a1 : HAd t 1 0 true (chV t) := by
     have := hadd 1 0 true (by omega) (by omega)
     unfold addV at this
     rw [if_neg hv] at this
     exact this
    exact .seq h14 (.seq h15 (.seqX (.seq h17 (.cond (b := true) rfl (.seq (.weak (kp [0, 5]) (.after (kp [5, 8, 9]) (yyo t (chV t) a1))) (.seq (yyn (chV t) (by simp)) .ret)))) (by simp)))
theorem F2.cons' {α β : Type} {R : α → β → Prop} {x : α} {l : List α} {m : List β} (h : F2 R (x :: l) m) : ∃ y m', m = y :: m' ∧ R x y ∧ F2 R l m' := by
 cases h with
 | cons h t => exact ⟨_, _, rfl, h, t⟩
theorem F2.nil' {α β : Type} {R : α → β → Prop} {m : List β} (h : F2 R [] m) : m = [] := by cases h; rfl
section
variable {P : Program} {t : TypeId} {ys : List AV}
theorem yj1 (m : Nat) {k : IntKind} (hu : P.underlying t = some (.int k)) (h : yay P (m + 1) t ys) : ∃ i, ys = [.atom (.int k i)] ∧ (Lit.int k i).wf = true := by
 unfold yay at h; rw [hu] at h; exact h
theorem ymv (m : Nat) (hu : P.underlying t = some .bool) (h : yay P (m + 1) t ys) : ∃ b, ys = [.atom (.bool b)] := by
 unfold yay at h; rw [hu] at h; exact h
theorem yei (m : Nat) {e : TypeId} (hu : P.underlying t = some (.slice e)) (h : yay P (m + 1) t ys) : ∃ xs, ys = [.sl .any e none xs] ∧ xs.length ≤ maxLen ∧ ∀ x ∈ xs, ∃ cs, x = elOf P e cs ∧ cs.length = P.cellsOf e ∧ yay P m e cs := by
 unfold yay at h; rw [hu] at h; exact h
theorem ye0 (m : Nat) {fs : Array Field} (hu : P.underlying t = some (.struct fs)) (h : yay P (m + 1) t ys) : ∃ yss : List (List AV), ys = yss.flatten ∧ F2 (fun f cs => yay P m f.type cs) fs.toList yss := by
 unfold yay at h; rw [hu] at h; exact h
end
theorem yb5 {α : Type} (f : α → AV) (Q : α → Prop) : ∀ xs : List AV, (∀ x ∈ xs, ∃ a, x = f a ∧ Q a) → ∃ l : List α, xs = l.map f ∧ ∀ a ∈ l, Q a
 | [], _ => ⟨[], rfl, by simp⟩
 | x :: xs, h => by
  obtain ⟨a, rfl, ha⟩ := h x (by simp)
  obtain ⟨l, rfl, hl⟩ := yb5 f Q xs fun y hy => h y (by simp [hy])
  exact ⟨a :: l, rfl, by
   intro b hb
   rcases List.mem_cons.1 hb with rfl | hb
   ·exact ha
   ·exact hl b hb⟩
def U8 (x : Int) : Prop := 0 ≤ x ∧ x ≤ 255
def I64 (x : Int) : Prop := -9223372036854775808 ≤ x ∧ x ≤ 9223372036854775807
theorem yst {i : Int} (h : (Lit.int .u8 i).wf = true) : U8 i := by
 simp only [Lit.wf, zlo, decide_eq_true_eq] at h
 exact h
theorem yzc {i : Int} (h : (Lit.int .i64 i).wf = true) : I64 i := by
 simp only [Lit.wf, zlo, decide_eq_true_eq] at h
 exact h
def Arg (P : Program) (t : TypeId) (x : AV) : Prop := ∃ ys, x = elOf P t ys ∧ yay P 8 t ys ∧ ys.length = P.cellsOf t
theorem args1 {P : Program} {s : TypeId} {xs : List AV} (h : F2 (Arg P) [s] xs) : ∃ x, xs = [x] ∧ Arg P s x := by
 obtain ⟨x, _, rfl, h1, h⟩ := F2.cons' h
 obtain rfl := F2.nil' h
 exact ⟨x, rfl, h1⟩
theorem yzy {P : Program} {t : TypeId} (h : aggT P t = false) (x : AV) : elOf P t [x] = x := by unfold elOf; rw [if_neg (Bool.eq_false_iff.1 h)]; rfl
structure Ty5 (P : Program) : Prop where
 u3 : P.underlying 3 = some (.int .i64)
 u4 : P.underlying 4 = some .bool
 u5 : P.underlying 5 = some (.int .u8)
 u65 : P.underlying 65 = some (.slice 5)
 u23 : P.underlying 23 = some (.slice 67)
 u67 : ∃ a b c d e : Field, P.underlying 67 = some (.struct #[a, b, c, d, e]) ∧ a.type = 5 ∧ b.type = 4 ∧ c.type = 4 ∧ d.type = 65 ∧ e.type = 65
 a67 : aggT P 67 = true
 a5 : aggT P 5 = false
 a23 : aggT P 23 = false
theorem tyP5 : Ty5 Try.prog := ⟨Try.underlying3, Try.underlying4, Try.underlying5, Try.underlying65, Try.underlying23, ⟨_, _, _, _, _, Try.underlying67, rfl, rfl, rfl, rfl, rfl⟩, by kernel_rfl, by kernel_rfl, by kernel_rfl⟩
section
variable {P : Program} {m : Nat}
end
structure Ty6 (P : Program) : Prop where
 u36 : ∃ a b : Field, P.underlying 36 = some (.struct #[a, b]) ∧ a.type = 5 ∧ b.type = 3
 u60 : P.underlying 60 = some (.array 2 5)
 a36 : aggT P 36 = true
 a60 : aggT P 60 = true
theorem tyP6 : Ty6 Try.prog := ⟨⟨_, _, Try.underlying36, rfl, rfl⟩, Try.underlying60, by kernel_rfl, by kernel_rfl⟩
section
variable {P : Program} {m : Nat}
theorem yy4 (T : Ty5 P) (U : Ty6 P) {cs : List AV} (h : yay P (m + 2) 36 cs) : ∃ p : Idd, cs = [ub p.y, it p.n] ∧ U8 p.y ∧ I64 p.n := by
 obtain ⟨fa, fb, hu, ta, tb⟩ := U.u36
 obtain ⟨yss, rfl, hf⟩ := ye0 (m + 1) hu h
 obtain ⟨c1, _, rfl, h1, hf⟩ := F2.cons' hf
 obtain ⟨c2, _, rfl, h2, hf⟩ := F2.cons' hf
 obtain rfl := F2.nil' hf
 rw [ta] at h1; rw [tb] at h2
 obtain ⟨y, rfl, w1⟩ := yj1 m T.u5 h1
 obtain ⟨n, rfl, w2⟩ := yj1 m T.u3 h2
 exact ⟨⟨y, n⟩, rfl, yst w1, yzc w2⟩
end
structure Ty7 (P : Program) : Prop where
 u25 : P.underlying 25 = some (.slice 37)
 u37 : P.underlying 37 = some (.slice 45)
 u26 : P.underlying 26 = some (.slice 36)
 u43 : P.underlying 43 = some (.slice 56)
 u42 : P.underlying 42 = some (.int .u8)
 u54 : P.underlying 54 = some (.int .u8)
 u45 : ∃ a b c d : Field, P.underlying 45 = some (.struct #[a, b, c, d]) ∧ a.type = 42 ∧ b.type = 4 ∧ c.type = 26 ∧ d.type = 43
 u56 : ∃ a b c : Field, P.underlying 56 = some (.struct #[a, b, c]) ∧ a.type = 36 ∧ b.type = 4 ∧ c.type = 54
 a25 : aggT P 25 = false
 a37 : aggT P 37 = false
 a45 : aggT P 45 = true
 a56 : aggT P 56 = true
theorem tyP7 : Ty7 Try.prog := ⟨Try.underlying25, Try.underlying37, Try.underlying26, Try.underlying43, Try.underlying42, Try.underlying54, ⟨_, _, _, _, Try.underlying45, rfl, rfl, rfl, rfl⟩, ⟨_, _, _, Try.underlying56, rfl, rfl, rfl⟩, by kernel_rfl, by kernel_rfl, by kernel_rfl, by kernel_rfl⟩
section
variable {P : Program} {m : Nat} (T : Ty5 P) (U : Ty6 P) (V : Ty7 P)
include T U V
theorem yy3 {ys : List AV} (h : yay P (m + 3) 26 ys) : ∃ l : List Idd, ys = [isl none l] ∧ (∀ p ∈ l, U8 p.y) ∧ l.length ≤ maxLen := by
 obtain ⟨xs, rfl, hl, hx⟩ := yei (m + 2) V.u26 h
 obtain ⟨a, rfl, ha⟩ := yb5 Idd.enc (fun p => U8 p.y) xs fun x hx' => by
  obtain ⟨cs, rfl, _, hc⟩ := hx x hx'
  obtain ⟨p, rfl, h1, _⟩ := yy4 (m := m) T U hc
  exact ⟨p, by unfold elOf; rw [if_pos U.a36]; rfl, h1⟩
 exact ⟨a, rfl, ha, by simpa using hl⟩
theorem ps_of {cs : List AV} (h : yay P (m + 3) 56 cs) : ∃ p : Ps, .agg cs = p.enc ∧ U8 p.y ∧ U8 p.d := by
 obtain ⟨fa, fb, fc, hu, ta, tb, tc⟩ := V.u56
 obtain ⟨yss, rfl, hf⟩ := ye0 (m + 2) hu h
 obtain ⟨c1, _, rfl, h1, hf⟩ := F2.cons' hf
 obtain ⟨c2, _, rfl, h2, hf⟩ := F2.cons' hf
 obtain ⟨c3, _, rfl, h3, hf⟩ := F2.cons' hf
 obtain rfl := F2.nil' hf
 rw [ta] at h1; rw [tb] at h2; rw [tc] at h3
 obtain ⟨p, rfl, w1, _⟩ := yy4 (m := m) T U h1
 obtain ⟨f, rfl⟩ := ymv (m + 1) T.u4 h2
 obtain ⟨d, rfl, w3⟩ := yj1 (m + 1) V.u54 h3
 exact ⟨⟨p.y, p.n, f, d⟩, rfl, w1, yst w3⟩
theorem yw2 {ys : List AV} (h : yay P (m + 4) 43 ys) : ∃ l : List Ps, ys = [sl none l] ∧ (∀ p ∈ l, U8 p.y ∧ U8 p.d) ∧ l.length ≤ maxLen := by
 obtain ⟨xs, rfl, hl, hx⟩ := yei (m + 3) V.u43 h
 obtain ⟨a, rfl, ha⟩ := yb5 Ps.enc (fun p => U8 p.y ∧ U8 p.d) xs fun x hx' => by
  obtain ⟨cs, rfl, _, hc⟩ := hx x hx'
  obtain ⟨p, hp, h1, h2⟩ := ps_of (m := m) T U V hc
  exact ⟨p, by unfold elOf; rw [if_pos V.a56]; exact hp, h1, h2⟩
 exact ⟨a, rfl, ha, by simpa using hl⟩
def ypa (L : Lp) : Prop := okI L ∧ 0 ≤ L.b ∧ ∀ p ∈ L.pa, 0 ≤ p.d
theorem lp_of {cs : List AV} (h : yay P (m + 5) 45 cs) : ∃ L : Lp, .agg cs = L.enc ∧ ypa L := by
 obtain ⟨fa, fb, fc, fd, hu, ta, tb, tc, td⟩ := V.u45
 obtain ⟨yss, rfl, hf⟩ := ye0 (m + 4) hu h
 obtain ⟨c1, _, rfl, h1, hf⟩ := F2.cons' hf
 obtain ⟨c2, _, rfl, h2, hf⟩ := F2.cons' hf
 obtain ⟨c3, _, rfl, h3, hf⟩ := F2.cons' hf
 obtain ⟨c4, _, rfl, h4, hf⟩ := F2.cons' hf
 obtain rfl := F2.nil' hf
 rw [ta] at h1; rw [tb] at h2; rw [tc] at h3; rw [td] at h4
 obtain ⟨b, rfl, w1⟩ := yj1 (m + 3) V.u42 h1
 obtain ⟨w, rfl⟩ := ymv (m + 3) T.u4 h2
 obtain ⟨th, rfl, t1, t2⟩ := yy3 (m := m + 1) T U V h3
 obtain ⟨pa, rfl, p1, p2⟩ := yw2 (m := m) T U V h4
 refine ⟨⟨b, w, none, th, none, pa⟩, rfl, fun q hq => ?_, (yst w1).1, fun p hp => (p1 p hp).2.1⟩
 rcases List.mem_append.1 hq with h | h
 ·exact t1 q h
 ·obtain ⟨p, hp, rfl⟩ := List.mem_map.1 h
  exact (p1 p hp).1
theorem ywx {ys : List AV} (h : yay P (m + 6) 37 ys) : ∃ r : Rw, ys = [r.enc] ∧ ∀ L ∈ r.l, ypa L := by
 obtain ⟨xs, rfl, hl, hx⟩ := yei (m + 5) V.u37 h
 obtain ⟨a, rfl, ha⟩ := yb5 Lp.enc ypa xs fun x hx' => by
  obtain ⟨cs, rfl, _, hc⟩ := hx x hx'
  obtain ⟨L, hL, h1⟩ := lp_of (m := m) T U V hc
  exact ⟨L, by unfold elOf; rw [if_pos V.a45]; exact hL, h1⟩
 exact ⟨⟨none, a⟩, rfl, ha⟩
theorem arg25 {x : AV} (h : Arg P 25 x) : ∃ t : List Rw, x = tsl none t ∧ ∀ r ∈ t, ∀ L ∈ r.l, ypa L := by
 obtain ⟨ys, rfl, hs, _⟩ := h
 obtain ⟨xs, rfl, hl, hx⟩ := yei 7 V.u25 hs
 obtain ⟨a, rfl, ha⟩ := yb5 Rw.enc (fun r => ∀ L ∈ r.l, ypa L) xs fun x hx' => by
  obtain ⟨cs, rfl, _, hc⟩ := hx x hx'
  obtain ⟨r, rfl, h1⟩ := ywx (m := 1) T U V hc
  exact ⟨r, yzy V.a37 _, h1⟩
 exact ⟨a, yzy V.a25 _, ha⟩
end
end Tst
end

section
open Go Go.Lf Go.Proofs Tst
namespace Go.Proofs.Ytpjlfgacjbkbbaa.loopsCheck
theorem LoopsCheck_pure (xs : List AV) (h : F2 (fun t x => ∃ ys, x = elOf Try.prog t ys ∧ yay Try.prog 8 t ys ∧ ys.length = Try.prog.cellsOf t) Try.f6.params.toList xs) : PureC Try.prog 6 xs (.atom (.bool true)) := by
 rw [Try.params6] at h
 obtain ⟨x, rfl, h1⟩ := args1 (P := Try.prog) h
 obtain ⟨t, rfl, hX⟩ := arg25 tyP5 tyP6 tyP7 h1
 exact ynt t (fun r hr L hL => (hX r hr L hL).1) fun r hr L hL => (hX r hr L hL).2
end Go.Proofs.Ytpjlfgacjbkbbaa.loopsCheck
end
