/- Part 7 of the evaluator and of the contracts that the claim uses. -/
import Derived.Test.YtnaikfcmegkdpaaStacksSetLAA
import Derived.Test.YtnaikfcmegkdpaaStacksSetLAB
import Derived.Test.YtnaikfcmegkdpaaStacksSetLAC
import Derived.Test.YtnaikfcmegkdpaaStacksSetLAD
import Derived.Test.YtnaikfcmegkdpaaStacksSetLAE
import Derived.Test.YtnaikfcmegkdpaaStacksSetLAF
set_option linter.unusedVariables false
set_option linter.unusedSimpArgs false
set_option linter.constructorNameAsVariable false

section
open Go Go.Lf Go.Proofs
namespace Tst
def stkW (x : List (List Idd)) : List Stk := x.map fun l => ⟨some l.length, l⟩
def stkF (x : List (List Idd)) : List Stk := x.map fun l => ⟨none, l⟩
theorem vmap_FW (x : List (List Idd)) : (x.map FW).map (mapE (remode (fun _ => .any) 10)) = (stkW x).map Stk.enc := by
  unfold stkW
  rw [List.map_map, List.map_map]
  refine List.map_congr_left fun l _ => ?_
  show AV.sl .any 30 (some l.length) ((l.map Idd.enc).map (mapE (remode (fun _ => .any) 9))) = _
  rw [map_idd]; rfl
theorem vmap_FN (x : List (List Idd)) : (x.map FN).map (mapE (remode (fun _ => .any) 10)) = (stkF x).map Stk.enc := by
  unfold stkF
  rw [List.map_map, List.map_map]
  refine List.map_congr_left fun l _ => ?_
  show AV.sl .any 30 none ((l.map Idd.enc).map (mapE (remode (fun _ => .any) 9))) = _
  rw [map_idd]; rfl
theorem view_frW (c c' : Option Nat) (x y : List (List Idd)) : view (.agg [.sl .fresh 62 c (x.map FW), .sl .fresh 62 c' (y.map FW)]) = beds (bsl c (stkW x)) (bsl c' (stkW y)) := by
  show AV.agg [.sl .any 62 c ((x.map FW).map (mapE (remode (fun _ => .any) 10))), .sl .any 62 c' ((y.map FW).map (mapE (remode (fun _ => .any) 10)))] = _
  rw [vmap_FW, vmap_FW]
theorem view_frN (c c' : Option Nat) (x y : List (List Idd)) : view (.agg [.sl .fresh 62 c (x.map FN), .sl .fresh 62 c' (y.map FN)]) = beds (bsl c (stkF x)) (bsl c' (stkF y)) := by
  show AV.agg [.sl .any 62 c ((x.map FN).map (mapE (remode (fun _ => .any) 10))), .sl .any 62 c' ((y.map FN).map (mapE (remode (fun _ => .any) 10)))] = _
  rw [vmap_FN, vmap_FN]
def ovV (F B : List Stk) : Bool := decide (40 < F.length) || decide (40 < B.length) || (itms F B).any fun t => decide (4 < t.2.2.l.length)
theorem over_c (cf cb : Option Nat) (F B : List Stk) : PureC Try.prog 53 [beds (bsl cf F) (bsl cb B)] (bb (ovV F B)) := by
  have e : ∀ t : Int × Int × Stk, decide ((4 : Int) < ((t.2.2.l.map Idd.enc).length : Nat)) = decide (4 < t.2.2.l.length) := fun t => by
    rw [List.length_map]
    exact decide_eq_decide.2 (by omega)
  have hF : decide ((40 : Int) < ((F.map Stk.enc).length : Nat)) = decide (40 < F.length) := by rw [List.length_map]; exact decide_eq_decide.2 (by omega)
  have hB : decide ((40 : Int) < ((B.map Stk.enc).length : Nat)) = decide (40 < B.length) := by rw [List.length_map]; exact decide_eq_decide.2 (by omega)
  unfold ovV
  rcases split_first (fun t : Int × Int × Stk => decide (4 < t.2.2.l.length)) (itms F B) with h | ⟨pre, x, post, h1, h2, h3⟩
  · have hn : ∀ t ∈ itms F B, decide ((4 : Int) < ((t.2.2.l.map Idd.enc).length : Nat)) = false := fun t ht => by rw [e]; exact h t ht
    have ha : ((itms F B).any fun t => decide (4 < t.2.2.l.length)) = false := by rw [List.any_eq_false]; intro t ht; rw [h t ht]; simp
    rw [ha]
    cases g0 : decide (40 < F.length) with
    | true => exact ovn_0 cf cb F B hn (by rw [hF]; exact g0)
    | false =>
      cases g1 : decide (40 < B.length) with
      | true => exact ovn_1 cf cb F B hn (by rw [hF]; exact g0) (by rw [hB]; exact g1)
      | false => exact ovn_2 cf cb F B hn (by rw [hF]; exact g0) (by rw [hB]; exact g1)
  · have hn : ∀ t ∈ pre, decide ((4 : Int) < ((t.2.2.l.map Idd.enc).length : Nat)) = false := fun t ht => by rw [e]; exact h2 t ht
    have hy : decide ((4 : Int) < ((x.2.2.l.map Idd.enc).length : Nat)) = true := by rw [e]; exact h3
    have ha : ((itms F B).any fun t => decide (4 < t.2.2.l.length)) = true := by rw [List.any_eq_true]; exact ⟨x, by rw [h1]; simp, h3⟩
    rw [ha]
    cases g0 : decide (40 < F.length) with
    | true => exact ovy_0 cf cb F B pre x post h1 hn hy (by rw [hF]; exact g0)
    | false =>
      cases g1 : decide (40 < B.length) with
      | true => exact ovy_1 cf cb F B pre x post h1 hn hy (by rw [hF]; exact g0) (by rw [hB]; exact g1)
      | false => exact ovy_2 cf cb F B pre x post h1 hn hy (by rw [hF]; exact g0) (by rw [hB]; exact g1)
def nmV (F B : List Stk) : Bool := (itms F B).all fun t => t.2.2.l.all nmI
theorem named_v (cf cb : Option Nat) (F B : List Stk) (hA : ∀ t ∈ itms F B, t.2.2.l.length < 2 ^ 62) : PureC Try.prog 54 [beds (bsl cf F) (bsl cb B)] (bb (nmV F B)) := by
  unfold nmV
  rcases split_first (fun t : Int × Int × Stk => !t.2.2.l.all nmI) (itms F B) with h | ⟨pre, x, post, h1, h2, h3⟩
  · have ha : ((itms F B).all fun t => t.2.2.l.all nmI) = true := by rw [List.all_eq_true]; intro t ht; simpa using h t ht
    rw [ha]
    exact nan_0 cf cb F B hA h
  · have ha : ((itms F B).all fun t => t.2.2.l.all nmI) = false := by rw [List.all_eq_false]; exact ⟨x, by rw [h1]; simp, by simpa using h3⟩
    rw [ha]
    exact nay_0 cf cb F B hA pre x post h1 h2 h3
def twV (F B : List Stk) : Bool := !decide (allI (itms F B)).Nodup
theorem twice_v (cf cb : Option Nat) (F B : List Stk) (hA : ∀ t ∈ itms F B, t.2.2.l.length < 2 ^ 62) : PureC Try.prog 55 [beds (bsl cf F) (bsl cb B)] (bb (twV F B)) := twice_c cf cb F B hA
def chkV (F B : List Stk) : Int := if ovV F B then 9 else if !nmV F B then 1 else if twV F B then 8 else 0
theorem ov_short {F B : List Stk} (h : ovV F B = false) : F.length ≤ 40 ∧ B.length ≤ 40 ∧ ∀ t ∈ itms F B, t.2.2.l.length ≤ 4 := by
  unfold ovV at h
  simp only [Bool.or_eq_false_iff, decide_eq_false_iff_not, List.any_eq_false, decide_eq_true_eq] at h
  exact ⟨by omega, by omega, fun t ht => by have := h.2 t ht; omega⟩
end Tst
end

section
open Go Go.Lf Go.Proofs
namespace Tst
set_option maxHeartbeats 0
theorem ckA_0 (cf cb : Option Nat) (F B : List Stk) (ho : ovV F B = true) (g0 : ovV F B = true) : PureC Try.prog 31 [beds (bsl cf F) (bsl cb B)]  (it 9) :=
  funA_ok (H := h31) (n := 13) (ans := [.c, .c, .c, .r (bb (ovV F B)), .c, .c, .c, .b true, .c]) (ps := [PureC Try.prog 53 [view (AV.agg [bsl cf F, bsl cb B])] (bb (ovV F B)), ovV F B = true]) (base 13 0) Try.func31 rfl (by simp) rfl (by kernel_rfl)  (allp (by (first | rw [view_yn] | rw [view_two] | rw [view_twoI] | rw [view_beds] | rw [view_frW] | rw [view_frN] | skip); apply over_c <;> (first | assumption | rfl | (simp at * <;> omega))) (allp g0 allp_nil))
theorem ckB_0 (cf cb : Option Nat) (F B : List Stk) (hA : ∀ t ∈ itms F B, t.2.2.l.length < 2 ^ 62) (ho : ovV F B = false) (g0 : ovV F B = false) (g1 : (!nmV F B) = true) : PureC Try.prog 31 [beds (bsl cf F) (bsl cb B)]  (it 1) :=
  funA_ok (H := h31) (n := 13) (ans := [.c, .c, .c, .r (bb (ovV F B)), .c, .c, .c, .b false, .c, .r (bb (nmV F B)), .c, .c, .c, .c, .b true, .c]) (ps := [PureC Try.prog 53 [view (AV.agg [bsl cf F, bsl cb B])] (bb (ovV F B)), ovV F B = false, PureC Try.prog 54 [view (AV.agg [bsl cf F, bsl cb B])] (bb (nmV F B)), (!nmV F B) = true]) (base 13 0) Try.func31 rfl (by simp) rfl (by kernel_rfl)  (allp (by (first | rw [view_yn] | rw [view_two] | rw [view_twoI] | rw [view_beds] | rw [view_frW] | rw [view_frN] | skip); apply over_c <;> (first | assumption | rfl | (simp at * <;> omega))) (allp g0 (allp (by (first | rw [view_yn] | rw [view_two] | rw [view_twoI] | rw [view_beds] | rw [view_frW] | rw [view_frN] | skip); apply named_v <;> (first | assumption | rfl | (simp at * <;> omega))) (allp g1 allp_nil))))
theorem ckB_1 (cf cb : Option Nat) (F B : List Stk) (hA : ∀ t ∈ itms F B, t.2.2.l.length < 2 ^ 62) (ho : ovV F B = false) (g0 : ovV F B = false) (g1 : (!nmV F B) = false) (g2 : twV F B = true) : PureC Try.prog 31 [beds (bsl cf F) (bsl cb B)]  (it 8) :=
  funA_ok (H := h31) (n := 13) (ans := [.c, .c, .c, .r (bb (ovV F B)), .c, .c, .c, .b false, .c, .r (bb (nmV F B)), .c, .c, .c, .c, .b false, .c, .r (bb (twV F B)), .c, .c, .c, .b true, .c]) (ps := [PureC Try.prog 53 [view (AV.agg [bsl cf F, bsl cb B])] (bb (ovV F B)), ovV F B = false, PureC Try.prog 54 [view (AV.agg [bsl cf F, bsl cb B])] (bb (nmV F B)), (!nmV F B) = false, PureC Try.prog 55 [view (AV.agg [bsl cf F, bsl cb B])] (bb (twV F B)), twV F B = true]) (base 13 0) Try.func31 rfl (by simp) rfl (by kernel_rfl)  (allp (by (first | rw [view_yn] | rw [view_two] | rw [view_twoI] | rw [view_beds] | rw [view_frW] | rw [view_frN] | skip); apply over_c <;> (first | assumption | rfl | (simp at * <;> omega))) (allp g0 (allp (by (first | rw [view_yn] | rw [view_two] | rw [view_twoI] | rw [view_beds] | rw [view_frW] | rw [view_frN] | skip); apply named_v <;> (first | assumption | rfl | (simp at * <;> omega))) (allp g1 (allp (by (first | rw [view_yn] | rw [view_two] | rw [view_twoI] | rw [view_beds] | rw [view_frW] | rw [view_frN] | skip); apply twice_v <;> (first | assumption | rfl | (simp at * <;> omega))) (allp g2 allp_nil))))))
theorem ckB_2 (cf cb : Option Nat) (F B : List Stk) (hA : ∀ t ∈ itms F B, t.2.2.l.length < 2 ^ 62) (ho : ovV F B = false) (g0 : ovV F B = false) (g1 : (!nmV F B) = false) (g2 : twV F B = false) : PureC Try.prog 31 [beds (bsl cf F) (bsl cb B)]  (it 0) :=
  funA_ok (H := h31) (n := 13) (ans := [.c, .c, .c, .r (bb (ovV F B)), .c, .c, .c, .b false, .c, .r (bb (nmV F B)), .c, .c, .c, .c, .b false, .c, .r (bb (twV F B)), .c, .c, .c, .b false, .c]) (ps := [PureC Try.prog 53 [view (AV.agg [bsl cf F, bsl cb B])] (bb (ovV F B)), ovV F B = false, PureC Try.prog 54 [view (AV.agg [bsl cf F, bsl cb B])] (bb (nmV F B)), (!nmV F B) = false, PureC Try.prog 55 [view (AV.agg [bsl cf F, bsl cb B])] (bb (twV F B)), twV F B = false]) (base 13 0) Try.func31 rfl (by simp) rfl (by kernel_rfl)  (allp (by (first | rw [view_yn] | rw [view_two] | rw [view_twoI] | rw [view_beds] | rw [view_frW] | rw [view_frN] | skip); apply over_c <;> (first | assumption | rfl | (simp at * <;> omega))) (allp g0 (allp (by (first | rw [view_yn] | rw [view_two] | rw [view_twoI] | rw [view_beds] | rw [view_frW] | rw [view_frN] | skip); apply named_v <;> (first | assumption | rfl | (simp at * <;> omega))) (allp g1 (allp (by (first | rw [view_yn] | rw [view_two] | rw [view_twoI] | rw [view_beds] | rw [view_frW] | rw [view_frN] | skip); apply twice_v <;> (first | assumption | rfl | (simp at * <;> omega))) (allp g2 allp_nil))))))
end Tst
end

section
open Go Go.Lf Go.Proofs
namespace Tst
theorem ov_len {F B : List Stk} (h : ovV F B = false) : ∀ t ∈ itms F B, t.2.2.l.length < 2 ^ 62 := fun t ht => by have := (ov_short h).2.2 t ht; omega
theorem chk_c (cf cb : Option Nat) (F B : List Stk) : PureC Try.prog 31 [beds (bsl cf F) (bsl cb B)] (it (chkV F B)) := by
  unfold chkV
  cases ho : ovV F B with
  | true => exact ckA_0 cf cb F B ho ho
  | false =>
    have hA := ov_len ho
    cases hn : nmV F B with
    | false => exact ckB_0 cf cb F B hA ho ho (by rw [hn]; rfl)
    | true =>
      cases ht : twV F B with
      | true => exact ckB_1 cf cb F B hA ho ho (by rw [hn]; rfl) ht
      | false => exact ckB_2 cf cb F B hA ho ho (by rw [hn]; rfl) ht
end Tst
end

section
open Go Go.Lf Go.Proofs
namespace Tst
set_option maxHeartbeats 0
theorem with_v (cf cb c : Option Nat) (F B : List Stk) (d i : Int) (l : List Idd) (hd : d = 0 ∨ d = 1) (h1 : 1 ≤ i) (h2 : i ≤ 40) (hl : l.length ≤ 4294967296) (hA : ∀ t ∈ itms F B, t.2.2.l.length ≤ 4294967296) :
    PureC Try.prog 63 [beds (bsl cf F) (bsl cb B), ndl d i, isl c l] (.agg [.sl .fresh 62 (some (halfT (withT F B d i l) 0).length) ((halfT (withT F B d i l) 0).map FW), .sl .fresh 62 (some (halfT (withT F B d i l) 40).length) ((halfT (withT F B d i l) 40).map FW)]) := with_c cf cb c F B d i l hd h1 h2 hl hA
theorem stA_0 (cf cb c : Option Nat) (F B : List Stk) (d i : Int) (l : List Idd) (hc : (chkV F B != (0 : Int)) = true) (g0 : (chkV F B != (0 : Int)) = true) : PureC Try.prog 38 [beds (bsl cf F) (bsl cb B), ndl d i, isl c l]  (AV.tup [AV.agg [niln, niln], it (chkV F B)]) :=
  funA_ok (H := h38) (n := 37) (ans := [.c, .c, .c, .c, .c, .r (it (chkV F B)), .c, .c, .c, .c, .c, .b true, .c, .c, .c, .c]) (ps := [PureC Try.prog 31 [view (AV.agg [bsl cf F, bsl cb B])] (it (chkV F B)), (chkV F B != (0 : Int)) = true]) (base 37 0) Try.func38 rfl (by simp) rfl (by kernel_rfl)  (allp (by (first | rw [view_yn] | rw [view_two] | rw [view_twoI] | rw [view_beds] | rw [view_frW] | rw [view_frN] | skip); apply chk_c <;> (first | assumption | rfl | (simp at * <;> omega))) (allp g0 allp_nil))
theorem stB_0 (cf cb c : Option Nat) (F B : List Stk) (d i : Int) (l : List Idd) (hc : (chkV F B != (0 : Int)) = false) (hn : ((if ndV d i = true then (0 : Int) else (1 : Int)) != (0 : Int)) = true) (g0 : (chkV F B != (0 : Int)) = false) (g1 : ((if ndV d i = true then (0 : Int) else (1 : Int)) != (0 : Int)) = true) : PureC Try.prog 38 [beds (bsl cf F) (bsl cb B), ndl d i, isl c l]  (AV.tup [AV.agg [niln, niln], it 1]) :=
  funA_ok (H := h38) (n := 37) (ans := [.c, .c, .c, .c, .c, .r (it (chkV F B)), .c, .c, .c, .c, .c, .b false, .c, .r (it (if ndV d i = true then (0 : Int) else (1 : Int))), .c, .c, .c, .c, .b true, .c, .b true, .c, .b true, .c, .b true, .c, .c, .c, .c, .c]) (ps := [PureC Try.prog 31 [view (AV.agg [bsl cf F, bsl cb B])] (it (chkV F B)), (chkV F B != (0 : Int)) = false, PureC Try.prog 56 [AV.agg [ub d, it i]] (it (if ndV d i = true then (0 : Int) else (1 : Int))), ((if ndV d i = true then (0 : Int) else (1 : Int)) != (0 : Int)) = true, ((if ndV d i = true then (0 : Int) else (1 : Int)) != (0 : Int)) = true, ((if ndV d i = true then (0 : Int) else (1 : Int)) != (0 : Int)) = true, ((if ndV d i = true then (0 : Int) else (1 : Int)) != (0 : Int)) = true]) (base 37 0) Try.func38 rfl (by simp) rfl (by kernel_rfl)  (allp (by (first | rw [view_yn] | rw [view_two] | rw [view_twoI] | rw [view_beds] | rw [view_frW] | rw [view_frN] | skip); apply chk_c <;> (first | assumption | rfl | (simp at * <;> omega))) (allp g0 (allp (by apply nck_c <;> (first | assumption | rfl | (simp at * <;> omega))) (allp g1 (allp g1 (allp g1 (allp g1 allp_nil)))))))
theorem stC_0 (cf cb c : Option Nat) (F B : List Stk) (d i : Int) (l : List Idd) (hA : l.length < 2 ^ 62) (hc : (chkV F B != (0 : Int)) = false) (hn : ((if ndV d i = true then (0 : Int) else (1 : Int)) != (0 : Int)) = false) (hm : (!List.all l nmI) = true) (g0 : (chkV F B != (0 : Int)) = false) (g1 : ((if ndV d i = true then (0 : Int) else (1 : Int)) != (0 : Int)) = false) (g2 : (!List.all l nmI) = true) : PureC Try.prog 38 [beds (bsl cf F) (bsl cb B), ndl d i, isl c l]  (AV.tup [AV.agg [niln, niln], it 1]) :=
  funA_ok (H := h38) (n := 37) (ans := [.c, .c, .c, .c, .c, .r (it (chkV F B)), .c, .c, .c, .c, .c, .b false, .c, .r (it (if ndV d i = true then (0 : Int) else (1 : Int))), .c, .c, .c, .c, .b false, .c, .b false, .r (AV.sl Mode.any 30 c (List.map Idd.enc l)), .r (bb (List.all l nmI)), .c, .c, .b false, .c, .b false, .c, .b true, .c, .c, .c]) (ps := [PureC Try.prog 31 [view (AV.agg [bsl cf F, bsl cb B])] (it (chkV F B)), (chkV F B != (0 : Int)) = false, PureC Try.prog 56 [AV.agg [ub d, it i]] (it (if ndV d i = true then (0 : Int) else (1 : Int))), ((if ndV d i = true then (0 : Int) else (1 : Int)) != (0 : Int)) = false, ((if ndV d i = true then (0 : Int) else (1 : Int)) != (0 : Int)) = false, view (AV.sl Mode.any 30 c (List.map Idd.enc l)) = AV.sl Mode.any 30 c (List.map Idd.enc l), PureC Try.prog 62 [AV.sl Mode.any 30 c (List.map Idd.enc l)] (bb (List.all l nmI)), ((if ndV d i = true then (0 : Int) else (1 : Int)) != (0 : Int)) = false, ((if ndV d i = true then (0 : Int) else (1 : Int)) != (0 : Int)) = false, (!List.all l nmI) = true]) (base 37 0) Try.func38 rfl (by simp) rfl (by kernel_rfl)  (allp (by (first | rw [view_yn] | rw [view_two] | rw [view_twoI] | rw [view_beds] | rw [view_frW] | rw [view_frN] | skip); apply chk_c <;> (first | assumption | rfl | (simp at * <;> omega))) (allp g0 (allp (by apply nck_c <;> (first | assumption | rfl | (simp at * <;> omega))) (allp g1 (allp g1 (allp (by first | exact view_ps _ _ _ | exact view_u8 _ _ _ | rfl | exact view_yn _ _ _ _ _ _ _ | exact view_id _ _ _ | exact view_stk _ _ _ | exact view_beds _ _ _ _ _ _ | exact view_pt _ _ _) (allp (by apply nml_c <;> (first | assumption | rfl | (simp at * <;> omega))) (allp g1 (allp g1 (allp g2 allp_nil))))))))))
theorem stD_0 (cf cb c : Option Nat) (F B : List Stk) (d i : Int) (l : List Idd) (hA : l.length < 2 ^ 62) (hc : (chkV F B != (0 : Int)) = false) (hn : ((if ndV d i = true then (0 : Int) else (1 : Int)) != (0 : Int)) = false) (hm : (!List.all l nmI) = false) (h4 : decide ((4 : Int) < (((l.map Idd.enc).length : Nat) : Int)) = true) (g0 : (chkV F B != (0 : Int)) = false) (g1 : ((if ndV d i = true then (0 : Int) else (1 : Int)) != (0 : Int)) = false) (g2 : (!List.all l nmI) = false) (g3 : decide ((4 : Int) < (↑(List.length (List.map Idd.enc l)) : Int)) = true) : PureC Try.prog 38 [beds (bsl cf F) (bsl cb B), ndl d i, isl c l]  (AV.tup [AV.agg [niln, niln], it 9]) :=
  funA_ok (H := h38) (n := 37) (ans := [.c, .c, .c, .c, .c, .r (it (chkV F B)), .c, .c, .c, .c, .c, .b false, .c, .r (it (if ndV d i = true then (0 : Int) else (1 : Int))), .c, .c, .c, .c, .b false, .c, .b false, .r (AV.sl Mode.any 30 c (List.map Idd.enc l)), .r (bb (List.all l nmI)), .c, .c, .b false, .c, .b false, .c, .b false, .c, .c, .c, .b true, .c, .c, .c]) (ps := [PureC Try.prog 31 [view (AV.agg [bsl cf F, bsl cb B])] (it (chkV F B)), (chkV F B != (0 : Int)) = false, PureC Try.prog 56 [AV.agg [ub d, it i]] (it (if ndV d i = true then (0 : Int) else (1 : Int))), ((if ndV d i = true then (0 : Int) else (1 : Int)) != (0 : Int)) = false, ((if ndV d i = true then (0 : Int) else (1 : Int)) != (0 : Int)) = false, view (AV.sl Mode.any 30 c (List.map Idd.enc l)) = AV.sl Mode.any 30 c (List.map Idd.enc l), PureC Try.prog 62 [AV.sl Mode.any 30 c (List.map Idd.enc l)] (bb (List.all l nmI)), ((if ndV d i = true then (0 : Int) else (1 : Int)) != (0 : Int)) = false, ((if ndV d i = true then (0 : Int) else (1 : Int)) != (0 : Int)) = false, (!List.all l nmI) = false, decide ((4 : Int) < (↑(List.length (List.map Idd.enc l)) : Int)) = true]) (base 37 0) Try.func38 rfl (by simp) rfl (by kernel_rfl)  (allp (by (first | rw [view_yn] | rw [view_two] | rw [view_twoI] | rw [view_beds] | rw [view_frW] | rw [view_frN] | skip); apply chk_c <;> (first | assumption | rfl | (simp at * <;> omega))) (allp g0 (allp (by apply nck_c <;> (first | assumption | rfl | (simp at * <;> omega))) (allp g1 (allp g1 (allp (by first | exact view_ps _ _ _ | exact view_u8 _ _ _ | rfl | exact view_yn _ _ _ _ _ _ _ | exact view_id _ _ _ | exact view_stk _ _ _ | exact view_beds _ _ _ _ _ _ | exact view_pt _ _ _) (allp (by apply nml_c <;> (first | assumption | rfl | (simp at * <;> omega))) (allp g1 (allp g1 (allp g2 (allp g3 allp_nil)))))))))))
theorem stE_0 (cf cb c : Option Nat) (F B : List Stk) (d i : Int) (l : List Idd) (hl : l.length < 2 ^ 62) (hl2 : l.length ≤ 4294967296) (hA : ∀ t ∈ itms F B, t.2.2.l.length ≤ 4294967296) (hd : d = 0 ∨ d = 1) (h1 : 1 ≤ i) (h2 : i ≤ 40) (hW : ∀ t ∈ itms (stkW (halfT (withT F B d i l) 0)) (stkW (halfT (withT F B d i l) 40)), t.2.2.l.length < 2 ^ 62) (hc : (chkV F B != (0 : Int)) = false) (hn : ((if ndV d i = true then (0 : Int) else (1 : Int)) != (0 : Int)) = false) (hm : (!List.all l nmI) = false) (h4 : decide ((4 : Int) < (((l.map Idd.enc).length : Nat) : Int)) = false) (g0 : (chkV F B != (0 : Int)) = false) (g1 : ((if ndV d i = true then (0 : Int) else (1 : Int)) != (0 : Int)) = false) (g2 : (!List.all l nmI) = false) (g3 : decide ((4 : Int) < (↑(List.length (List.map Idd.enc l)) : Int)) = false) (g4 : AV.agg [AV.sl Mode.fresh 62 (some (List.length (halfT (withT F B d i l) (0 : Nat)))) (List.map (mapE (remode shareM (10 : Nat))) (List.map FW (halfT (withT F B d i l) (0 : Nat)))), AV.sl Mode.fresh 62 (some (List.length (halfT (withT F B d i l) (40 : Nat)))) (List.map (mapE (remode shareM (10 : Nat))) (List.map FW (halfT (withT F B d i l) (40 : Nat))))] = AV.agg [AV.sl Mode.fresh 62 (some (List.length (halfT (withT F B d i l) (0 : Nat)))) (List.map FW (halfT (withT F B d i l) (0 : Nat))), AV.sl Mode.fresh 62 (some (List.length (halfT (withT F B d i l) (40 : Nat)))) (List.map FW (halfT (withT F B d i l) (40 : Nat)))]) (g5 : twV (stkW (halfT (withT F B d i l) (0 : Nat))) (stkW (halfT (withT F B d i l) (40 : Nat))) = true) : PureC Try.prog 38 [beds (bsl cf F) (bsl cb B), ndl d i, isl c l]  (AV.tup [AV.agg [niln, niln], it 8]) :=
  funA_ok (H := h38) (n := 37) (ans := [.c, .c, .c, .c, .c, .r (it (chkV F B)), .c, .c, .c, .c, .c, .b false, .c, .r (it (if ndV d i = true then (0 : Int) else (1 : Int))), .c, .c, .c, .c, .b false, .c, .b false, .r (AV.sl Mode.any 30 c (List.map Idd.enc l)), .r (bb (List.all l nmI)), .c, .c, .b false, .c, .b false, .c, .b false, .c, .c, .c, .b false, .c, .c, .c, .r (AV.sl Mode.any 30 c (List.map Idd.enc l)), .r (AV.agg [AV.sl Mode.fresh 62 (some (List.length (halfT (withT F B d i l) (0 : Nat)))) (List.map FW (halfT (withT F B d i l) (0 : Nat))), AV.sl Mode.fresh 62 (some (List.length (halfT (withT F B d i l) (40 : Nat)))) (List.map FW (halfT (withT F B d i l) (40 : Nat)))]), .c, .r (AV.agg [AV.sl Mode.fresh 62 (some (List.length (halfT (withT F B d i l) (0 : Nat)))) (List.map FW (halfT (withT F B d i l) (0 : Nat))), AV.sl Mode.fresh 62 (some (List.length (halfT (withT F B d i l) (40 : Nat)))) (List.map FW (halfT (withT F B d i l) (40 : Nat)))]), .c, .c, .c, .r (bb (twV (stkW (halfT (withT F B d i l) (0 : Nat))) (stkW (halfT (withT F B d i l) (40 : Nat))))), .c, .c, .b true, .c, .c, .c]) (ps := [PureC Try.prog 31 [view (AV.agg [bsl cf F, bsl cb B])] (it (chkV F B)), (chkV F B != (0 : Int)) = false, PureC Try.prog 56 [AV.agg [ub d, it i]] (it (if ndV d i = true then (0 : Int) else (1 : Int))), ((if ndV d i = true then (0 : Int) else (1 : Int)) != (0 : Int)) = false, ((if ndV d i = true then (0 : Int) else (1 : Int)) != (0 : Int)) = false, view (AV.sl Mode.any 30 c (List.map Idd.enc l)) = AV.sl Mode.any 30 c (List.map Idd.enc l), PureC Try.prog 62 [AV.sl Mode.any 30 c (List.map Idd.enc l)] (bb (List.all l nmI)), ((if ndV d i = true then (0 : Int) else (1 : Int)) != (0 : Int)) = false, ((if ndV d i = true then (0 : Int) else (1 : Int)) != (0 : Int)) = false, (!List.all l nmI) = false, decide ((4 : Int) < (↑(List.length (List.map Idd.enc l)) : Int)) = false, view (AV.sl Mode.any 30 c (List.map Idd.enc l)) = AV.sl Mode.any 30 c (List.map Idd.enc l), PureC Try.prog 63 [view (AV.agg [bsl cf F, bsl cb B]), AV.agg [ub d, it i], AV.sl Mode.any 30 c (List.map Idd.enc l)] (AV.agg [AV.sl Mode.fresh 62 (some (List.length (halfT (withT F B d i l) (0 : Nat)))) (List.map FW (halfT (withT F B d i l) (0 : Nat))), AV.sl Mode.fresh 62 (some (List.length (halfT (withT F B d i l) (40 : Nat)))) (List.map FW (halfT (withT F B d i l) (40 : Nat)))]), AV.agg [AV.sl Mode.fresh 62 (some (List.length (halfT (withT F B d i l) (0 : Nat)))) (List.map (mapE (remode shareM (10 : Nat))) (List.map FW (halfT (withT F B d i l) (0 : Nat)))), AV.sl Mode.fresh 62 (some (List.length (halfT (withT F B d i l) (40 : Nat)))) (List.map (mapE (remode shareM (10 : Nat))) (List.map FW (halfT (withT F B d i l) (40 : Nat))))] = AV.agg [AV.sl Mode.fresh 62 (some (List.length (halfT (withT F B d i l) (0 : Nat)))) (List.map FW (halfT (withT F B d i l) (0 : Nat))), AV.sl Mode.fresh 62 (some (List.length (halfT (withT F B d i l) (40 : Nat)))) (List.map FW (halfT (withT F B d i l) (40 : Nat)))], PureC Try.prog 55 [view (AV.agg [AV.sl Mode.fresh 62 (some (List.length (halfT (withT F B d i l) (0 : Nat)))) (List.map FW (halfT (withT F B d i l) (0 : Nat))), AV.sl Mode.fresh 62 (some (List.length (halfT (withT F B d i l) (40 : Nat)))) (List.map FW (halfT (withT F B d i l) (40 : Nat)))])] (bb (twV (stkW (halfT (withT F B d i l) (0 : Nat))) (stkW (halfT (withT F B d i l) (40 : Nat))))), twV (stkW (halfT (withT F B d i l) (0 : Nat))) (stkW (halfT (withT F B d i l) (40 : Nat))) = true]) (base 37 0) Try.func38 rfl (by simp) rfl (by kernel_rfl)  (allp (by (first | rw [view_yn] | rw [view_two] | rw [view_twoI] | rw [view_beds] | rw [view_frW] | rw [view_frN] | skip); apply chk_c <;> (first | assumption | rfl | (simp at * <;> omega))) (allp g0 (allp (by apply nck_c <;> (first | assumption | rfl | (simp at * <;> omega))) (allp g1 (allp g1 (allp (by first | exact view_ps _ _ _ | exact view_u8 _ _ _ | rfl | exact view_yn _ _ _ _ _ _ _ | exact view_id _ _ _ | exact view_stk _ _ _ | exact view_beds _ _ _ _ _ _ | exact view_pt _ _ _) (allp (by apply nml_c <;> (first | assumption | rfl | (simp at * <;> omega))) (allp g1 (allp g1 (allp g2 (allp g3 (allp (by first | exact view_ps _ _ _ | exact view_u8 _ _ _ | rfl | exact view_yn _ _ _ _ _ _ _ | exact view_id _ _ _ | exact view_stk _ _ _ | exact view_beds _ _ _ _ _ _ | exact view_pt _ _ _) (allp (by (first | rw [view_yn] | rw [view_two] | rw [view_twoI] | rw [view_beds] | rw [view_frW] | rw [view_frN] | skip); apply with_v <;> (first | assumption | rfl | (simp at * <;> omega))) (allp g4 (allp (by (first | rw [view_yn] | rw [view_two] | rw [view_twoI] | rw [view_beds] | rw [view_frW] | rw [view_frN] | skip); apply twice_v <;> (first | assumption | rfl | (simp at * <;> omega))) (allp g5 allp_nil))))))))))))))))
theorem stE_1 (cf cb c : Option Nat) (F B : List Stk) (d i : Int) (l : List Idd) (hl : l.length < 2 ^ 62) (hl2 : l.length ≤ 4294967296) (hA : ∀ t ∈ itms F B, t.2.2.l.length ≤ 4294967296) (hd : d = 0 ∨ d = 1) (h1 : 1 ≤ i) (h2 : i ≤ 40) (hW : ∀ t ∈ itms (stkW (halfT (withT F B d i l) 0)) (stkW (halfT (withT F B d i l) 40)), t.2.2.l.length < 2 ^ 62) (hc : (chkV F B != (0 : Int)) = false) (hn : ((if ndV d i = true then (0 : Int) else (1 : Int)) != (0 : Int)) = false) (hm : (!List.all l nmI) = false) (h4 : decide ((4 : Int) < (((l.map Idd.enc).length : Nat) : Int)) = false) (g0 : (chkV F B != (0 : Int)) = false) (g1 : ((if ndV d i = true then (0 : Int) else (1 : Int)) != (0 : Int)) = false) (g2 : (!List.all l nmI) = false) (g3 : decide ((4 : Int) < (↑(List.length (List.map Idd.enc l)) : Int)) = false) (g4 : AV.agg [AV.sl Mode.fresh 62 (some (List.length (halfT (withT F B d i l) (0 : Nat)))) (List.map (mapE (remode shareM (10 : Nat))) (List.map FW (halfT (withT F B d i l) (0 : Nat)))), AV.sl Mode.fresh 62 (some (List.length (halfT (withT F B d i l) (40 : Nat)))) (List.map (mapE (remode shareM (10 : Nat))) (List.map FW (halfT (withT F B d i l) (40 : Nat))))] = AV.agg [AV.sl Mode.fresh 62 (some (List.length (halfT (withT F B d i l) (0 : Nat)))) (List.map FW (halfT (withT F B d i l) (0 : Nat))), AV.sl Mode.fresh 62 (some (List.length (halfT (withT F B d i l) (40 : Nat)))) (List.map FW (halfT (withT F B d i l) (40 : Nat)))]) (g5 : twV (stkW (halfT (withT F B d i l) (0 : Nat))) (stkW (halfT (withT F B d i l) (40 : Nat))) = false) : PureC Try.prog 38 [beds (bsl cf F) (bsl cb B), ndl d i, isl c l]  (AV.tup [AV.agg [AV.sl Mode.fresh 62 (some (List.length (halfT (withT F B d i l) (0 : Nat)))) (List.map (mapE (remode shareM (11 : Nat))) (List.map FW (halfT (withT F B d i l) (0 : Nat)))), AV.sl Mode.fresh 62 (some (List.length (halfT (withT F B d i l) (40 : Nat)))) (List.map (mapE (remode shareM (11 : Nat))) (List.map FW (halfT (withT F B d i l) (40 : Nat))))], it 0]) :=
  funA_ok (H := h38) (n := 37) (ans := [.c, .c, .c, .c, .c, .r (it (chkV F B)), .c, .c, .c, .c, .c, .b false, .c, .r (it (if ndV d i = true then (0 : Int) else (1 : Int))), .c, .c, .c, .c, .b false, .c, .b false, .r (AV.sl Mode.any 30 c (List.map Idd.enc l)), .r (bb (List.all l nmI)), .c, .c, .b false, .c, .b false, .c, .b false, .c, .c, .c, .b false, .c, .c, .c, .r (AV.sl Mode.any 30 c (List.map Idd.enc l)), .r (AV.agg [AV.sl Mode.fresh 62 (some (List.length (halfT (withT F B d i l) (0 : Nat)))) (List.map FW (halfT (withT F B d i l) (0 : Nat))), AV.sl Mode.fresh 62 (some (List.length (halfT (withT F B d i l) (40 : Nat)))) (List.map FW (halfT (withT F B d i l) (40 : Nat)))]), .c, .r (AV.agg [AV.sl Mode.fresh 62 (some (List.length (halfT (withT F B d i l) (0 : Nat)))) (List.map FW (halfT (withT F B d i l) (0 : Nat))), AV.sl Mode.fresh 62 (some (List.length (halfT (withT F B d i l) (40 : Nat)))) (List.map FW (halfT (withT F B d i l) (40 : Nat)))]), .c, .c, .c, .r (bb (twV (stkW (halfT (withT F B d i l) (0 : Nat))) (stkW (halfT (withT F B d i l) (40 : Nat))))), .c, .c, .b false, .c, .c, .c]) (ps := [PureC Try.prog 31 [view (AV.agg [bsl cf F, bsl cb B])] (it (chkV F B)), (chkV F B != (0 : Int)) = false, PureC Try.prog 56 [AV.agg [ub d, it i]] (it (if ndV d i = true then (0 : Int) else (1 : Int))), ((if ndV d i = true then (0 : Int) else (1 : Int)) != (0 : Int)) = false, ((if ndV d i = true then (0 : Int) else (1 : Int)) != (0 : Int)) = false, view (AV.sl Mode.any 30 c (List.map Idd.enc l)) = AV.sl Mode.any 30 c (List.map Idd.enc l), PureC Try.prog 62 [AV.sl Mode.any 30 c (List.map Idd.enc l)] (bb (List.all l nmI)), ((if ndV d i = true then (0 : Int) else (1 : Int)) != (0 : Int)) = false, ((if ndV d i = true then (0 : Int) else (1 : Int)) != (0 : Int)) = false, (!List.all l nmI) = false, decide ((4 : Int) < (↑(List.length (List.map Idd.enc l)) : Int)) = false, view (AV.sl Mode.any 30 c (List.map Idd.enc l)) = AV.sl Mode.any 30 c (List.map Idd.enc l), PureC Try.prog 63 [view (AV.agg [bsl cf F, bsl cb B]), AV.agg [ub d, it i], AV.sl Mode.any 30 c (List.map Idd.enc l)] (AV.agg [AV.sl Mode.fresh 62 (some (List.length (halfT (withT F B d i l) (0 : Nat)))) (List.map FW (halfT (withT F B d i l) (0 : Nat))), AV.sl Mode.fresh 62 (some (List.length (halfT (withT F B d i l) (40 : Nat)))) (List.map FW (halfT (withT F B d i l) (40 : Nat)))]), AV.agg [AV.sl Mode.fresh 62 (some (List.length (halfT (withT F B d i l) (0 : Nat)))) (List.map (mapE (remode shareM (10 : Nat))) (List.map FW (halfT (withT F B d i l) (0 : Nat)))), AV.sl Mode.fresh 62 (some (List.length (halfT (withT F B d i l) (40 : Nat)))) (List.map (mapE (remode shareM (10 : Nat))) (List.map FW (halfT (withT F B d i l) (40 : Nat))))] = AV.agg [AV.sl Mode.fresh 62 (some (List.length (halfT (withT F B d i l) (0 : Nat)))) (List.map FW (halfT (withT F B d i l) (0 : Nat))), AV.sl Mode.fresh 62 (some (List.length (halfT (withT F B d i l) (40 : Nat)))) (List.map FW (halfT (withT F B d i l) (40 : Nat)))], PureC Try.prog 55 [view (AV.agg [AV.sl Mode.fresh 62 (some (List.length (halfT (withT F B d i l) (0 : Nat)))) (List.map FW (halfT (withT F B d i l) (0 : Nat))), AV.sl Mode.fresh 62 (some (List.length (halfT (withT F B d i l) (40 : Nat)))) (List.map FW (halfT (withT F B d i l) (40 : Nat)))])] (bb (twV (stkW (halfT (withT F B d i l) (0 : Nat))) (stkW (halfT (withT F B d i l) (40 : Nat))))), twV (stkW (halfT (withT F B d i l) (0 : Nat))) (stkW (halfT (withT F B d i l) (40 : Nat))) = false]) (base 37 0) Try.func38 rfl (by simp) rfl (by kernel_rfl)  (allp (by (first | rw [view_yn] | rw [view_two] | rw [view_twoI] | rw [view_beds] | rw [view_frW] | rw [view_frN] | skip); apply chk_c <;> (first | assumption | rfl | (simp at * <;> omega))) (allp g0 (allp (by apply nck_c <;> (first | assumption | rfl | (simp at * <;> omega))) (allp g1 (allp g1 (allp (by first | exact view_ps _ _ _ | exact view_u8 _ _ _ | rfl | exact view_yn _ _ _ _ _ _ _ | exact view_id _ _ _ | exact view_stk _ _ _ | exact view_beds _ _ _ _ _ _ | exact view_pt _ _ _) (allp (by apply nml_c <;> (first | assumption | rfl | (simp at * <;> omega))) (allp g1 (allp g1 (allp g2 (allp g3 (allp (by first | exact view_ps _ _ _ | exact view_u8 _ _ _ | rfl | exact view_yn _ _ _ _ _ _ _ | exact view_id _ _ _ | exact view_stk _ _ _ | exact view_beds _ _ _ _ _ _ | exact view_pt _ _ _) (allp (by (first | rw [view_yn] | rw [view_two] | rw [view_twoI] | rw [view_beds] | rw [view_frW] | rw [view_frN] | skip); apply with_v <;> (first | assumption | rfl | (simp at * <;> omega))) (allp g4 (allp (by (first | rw [view_yn] | rw [view_two] | rw [view_twoI] | rw [view_beds] | rw [view_frW] | rw [view_frN] | skip); apply twice_v <;> (first | assumption | rfl | (simp at * <;> omega))) (allp g5 allp_nil))))))))))))))))
end Tst
end

section
open Go Go.Lf Go.Proofs
namespace Tst
theorem smap_FW (k : Nat) (x : List (List Idd)) : (x.map FW).map (mapE (remode shareM (k + 2))) = x.map FW := by
  rw [List.map_map]
  refine List.map_congr_left fun l _ => ?_
  show AV.sl .fresh 30 (some l.length) ((l.map Idd.enc).map (mapE (remode shareM (k + 1)))) = _
  rw [map_re]; rfl
abbrev nilR (e : Int) : AV := .tup [.agg [niln, niln], it e]
abbrev bedsR (x y : List (List Idd)) : AV := .tup [.agg [frW x, frW y], it 0]
def setV (F B : List Stk) (d i : Int) (l : List Idd) : AV :=
  if chkV F B != 0 then nilR (chkV F B) else if !ndV d i || !l.all nmI then nilR 1 else if 4 < l.length then nilR 9
  else if twV (stkW (halfT (withT F B d i l) 0)) (stkW (halfT (withT F B d i l) 40)) then nilR 8 else bedsR (halfT (withT F B d i l) 0) (halfT (withT F B d i l) 40)
theorem ndV_in {d i : Int} (h : ndV d i = true) : (d = 0 ∨ d = 1) ∧ 1 ≤ i ∧ i ≤ 40 := by
  unfold ndV at h
  simp only [Bool.and_eq_true, Bool.or_eq_true, beq_iff_eq, Bool.not_eq_true', decide_eq_false_iff_not] at h
  exact ⟨h.1.1, by omega, by omega⟩
theorem chk_len {F B : List Stk} (h : chkV F B = 0) : F.length ≤ 40 ∧ B.length ≤ 40 ∧ ∀ t ∈ itms F B, t.2.2.l.length ≤ 4 := by
  unfold chkV at h
  cases ho : ovV F B with
  | true => rw [ho] at h; simp at h
  | false => exact ov_short ho
theorem itms_stkW_mem {x y : List (List Idd)} {t : Int × Int × Stk} (h : t ∈ itms (stkW x) (stkW y)) : t.2.2.l ∈ x ∨ t.2.2.l ∈ y := by
  rcases (itms_ok h).2.2.2 with h | h <;> obtain ⟨l, hl, he⟩ := List.mem_map.1 h <;> rw [← he]
  · exact .inl hl
  · exact .inr hl
theorem halfT_mem {tb : List (List Idd)} {k : Nat} {l : List Idd} (h : l ∈ halfT tb k) : l ∈ tb := by
  unfold halfT shT at h
  obtain ⟨s, hs, rfl⟩ := List.mem_map.1 h
  have := List.mem_of_mem_drop (List.mem_of_mem_take (List.mem_of_mem_take hs))
  obtain ⟨l, hl, rfl⟩ := List.mem_map.1 this
  exact hl
theorem withT_mem {F B : List Stk} {d i : Int} {l x : List Idd} (h : x ∈ withT F B d i l) : x = l ∨ x = [] ∨ ∃ t ∈ itms F B, x = t.2.2.l := by
  rcases List.mem_or_eq_of_mem_set h with h | h
  · exact .inr (tbOf_mem _ _ h)
  · exact .inl h
theorem withT_len4 {F B : List Stk} {d i : Int} {l : List Idd} {n : Nat} (hA : ∀ t ∈ itms F B, t.2.2.l.length ≤ n) (hl : l.length ≤ n) : ∀ x ∈ withT F B d i l, x.length ≤ n := by
  intro x hx
  rcases withT_mem hx with rfl | rfl | ⟨t, ht, rfl⟩
  · exact hl
  · simp
  · exact hA t ht
theorem set_c (cf cb c : Option Nat) (F B : List Stk) (d i : Int) (l : List Idd) (hl : l.length ≤ 4294967296) : PureC Try.prog 38 [beds (bsl cf F) (bsl cb B), ndl d i, isl c l] (setV F B d i l) := by
  unfold setV
  have h62 : l.length < 2 ^ 62 := by omega
  cases hc : (chkV F B != 0) with
  | true => exact stA_0 cf cb c F B d i l hc hc
  | false =>
    have hc0 : chkV F B = 0 := by simpa using hc
    obtain ⟨hF, hB, hA⟩ := chk_len hc0
    cases hn : ndV d i with
    | false => exact stB_0 cf cb c F B d i l hc (by rw [hn]; rfl) hc (by rw [hn]; rfl)
    | true =>
      have hn' : ((if ndV d i = true then (0 : Int) else (1 : Int)) != (0 : Int)) = false := by rw [hn]; rfl
      obtain ⟨hd, h1, h2⟩ := ndV_in hn
      cases hm : l.all nmI with
      | false => exact stC_0 cf cb c F B d i l h62 hc hn' (by rw [hm]; rfl) hc hn' (by rw [hm]; rfl)
      | true =>
        have hm' : (!List.all l nmI) = false := by rw [hm]; rfl
        by_cases h4 : 4 < l.length
        · have h4' : decide ((4 : Int) < (((l.map Idd.enc).length : Nat) : Int)) = true := by rw [List.length_map]; exact decide_eq_true (by omega)
          simp only [if_pos h4]
          exact stD_0 cf cb c F B d i l h62 hc hn' hm' h4' hc hn' hm' h4'
        · have h4' : decide ((4 : Int) < (((l.map Idd.enc).length : Nat) : Int)) = false := by rw [List.length_map]; exact decide_eq_false (by omega)
          simp only [if_neg h4]
          have hlen := withT_len4 (F := F) (B := B) (d := d) (i := i) (l := l) (n := 4) hA (by omega)
          have hW : ∀ t ∈ itms (stkW (halfT (withT F B d i l) 0)) (stkW (halfT (withT F B d i l) 40)), t.2.2.l.length < 2 ^ 62 := by
            intro t ht
            rcases itms_stkW_mem ht with h | h <;> have := hlen _ (halfT_mem h) <;> omega
          have hA' : ∀ t ∈ itms F B, t.2.2.l.length ≤ 4294967296 := fun t ht => by have := hA t ht; omega
          cases ht : twV (stkW (halfT (withT F B d i l) 0)) (stkW (halfT (withT F B d i l) 40)) with
          | true => exact stE_0 cf cb c F B d i l h62 hl hA' hd h1 h2 hW hc hn' hm' h4' hc hn' hm' h4' (by rw [smap_FW, smap_FW]) ht
          | false =>
            have h := stE_1 cf cb c F B d i l h62 hl hA' hd h1 h2 hW hc hn' hm' h4' hc hn' hm' h4' (by rw [smap_FW, smap_FW]) ht
            rw [smap_FW, smap_FW] at h
            exact h
end Tst
end

section
open Go Go.Lf Go.Proofs
namespace Tst
set_option maxHeartbeats 0
theorem view_twoF (ca cb : Option Nat) (l m : List Idd) : view (.sl .own 62 (some 2) [.sl .fresh 30 ca (l.map Idd.enc), .sl .fresh 30 cb (m.map Idd.enc)]) = twoI ca cb l m := by
  show AV.sl .any 62 (some 2) [.sl .any 30 ca ((l.map Idd.enc).map (mapE (remode (fun _ => .any) 10))), .sl .any 30 cb ((m.map Idd.enc).map (mapE (remode (fun _ => .any) 10)))] = _
  rw [map_idd, map_idd]
theorem ndlAt_s (d i : Int) (cf cb : Option Nat) (f b : List Stk) (h : ndV d i = true) (hf : ∀ s ∈ f, s.l.length ≤ 4294967296) (hb : ∀ s ∈ b, s.l.length ≤ 4294967296) :
    PureC Try.prog 33 [beds (bsl cf f) (bsl cb b), ndl d i] (.sl .fresh 30 (some (stkAt d i f b).length) ((stkAt d i f b).map Idd.enc)) := by
  have h1 := (ndlAt_v d i cf cb f b h hf hb).share
  have e : share (.sl .own 30 (some (stkAt d i f b).length) ((stkAt d i f b).map Idd.enc)) = .sl .fresh 30 (some (stkAt d i f b).length) ((stkAt d i f b).map Idd.enc) := by
    show AV.sl .fresh 30 (some (stkAt d i f b).length) (((stkAt d i f b).map Idd.enc).map (mapE (remode shareM 11))) = _
    rw [map_re]
  rwa [e] at h1
theorem with_n (cf cb : Option Nat) (F B : List Stk) (d i : Int) (hd : d = 0 ∨ d = 1) (h1 : 1 ≤ i) (h2 : i ≤ 40) (hA : ∀ t ∈ itms F B, t.2.2.l.length ≤ 4294967296) :
    PureC Try.prog 63 [beds (bsl cf F) (bsl cb B), ndl d i, niln] (.agg [.sl .fresh 62 (some (halfT (withT F B d i []) 0).length) ((halfT (withT F B d i []) 0).map FW), .sl .fresh 62 (some (halfT (withT F B d i []) 40).length) ((halfT (withT F B d i []) 40).map FW)]) :=
  (with_v cf cb (some 0) F B d i [] hd h1 h2 (by simp) hA).args (.cons (Le.refl _) (.cons (Le.refl _) (.cons (Le.nil 30) .nil)))
theorem jnA_0 (cf cb : Option Nat) (F B : List Stk) (d i e k : Int) (hc : (chkV F B != (0 : Int)) = true) (g0 : (chkV F B != (0 : Int)) = true) : PureC Try.prog 40 [beds (bsl cf F) (bsl cb B), ndl d i, ndl e k]  (AV.tup [AV.agg [niln, niln], it (chkV F B)]) :=
  funA_ok (H := h40) (n := 68) (ans := [.c, .c, .c, .c, .c, .c, .r (it (chkV F B)), .c, .c, .c, .c, .c, .b true, .c, .c, .c, .c]) (ps := [PureC Try.prog 31 [view (AV.agg [bsl cf F, bsl cb B])] (it (chkV F B)), (chkV F B != (0 : Int)) = true]) (base 68 0) Try.func40 rfl (by simp) rfl (by kernel_rfl)  (allp (by (first | rw [view_yn] | rw [view_two] | rw [view_twoI] | rw [view_beds] | rw [view_frW] | rw [view_frN] | rw [view_twoF] | skip); apply chk_c <;> (first | assumption | rfl | (simp at * <;> omega))) (allp g0 allp_nil))
theorem jnB_0 (cf cb : Option Nat) (F B : List Stk) (d i e k : Int) (hc : (chkV F B != (0 : Int)) = false) (g0 : (chkV F B != (0 : Int)) = false) (g1 : ((if ndV d i = true then (0 : Int) else (1 : Int)) != (0 : Int)) = true) : PureC Try.prog 40 [beds (bsl cf F) (bsl cb B), ndl d i, ndl e k]  (AV.tup [AV.agg [niln, niln], it 1]) :=
  funA_ok (H := h40) (n := 68) (ans := [.c, .c, .c, .c, .c, .c, .r (it (chkV F B)), .c, .c, .c, .c, .c, .b false, .c, .r (it (if ndV d i = true then (0 : Int) else (1 : Int))), .c, .c, .c, .c, .b true, .c, .b true, .c, .b true, .c, .b true, .c, .c, .c, .c, .c, .c, .c, .c, .c, .c, .c, .c, .c, .c, .c, .c, .c, .c]) (ps := [PureC Try.prog 31 [view (AV.agg [bsl cf F, bsl cb B])] (it (chkV F B)), (chkV F B != (0 : Int)) = false, PureC Try.prog 56 [AV.agg [ub d, it i]] (it (if ndV d i = true then (0 : Int) else (1 : Int))), ((if ndV d i = true then (0 : Int) else (1 : Int)) != (0 : Int)) = true, ((if ndV d i = true then (0 : Int) else (1 : Int)) != (0 : Int)) = true, ((if ndV d i = true then (0 : Int) else (1 : Int)) != (0 : Int)) = true, ((if ndV d i = true then (0 : Int) else (1 : Int)) != (0 : Int)) = true]) (base 68 0) Try.func40 rfl (by simp) rfl (by kernel_rfl)  (allp (by (first | rw [view_yn] | rw [view_two] | rw [view_twoI] | rw [view_beds] | rw [view_frW] | rw [view_frN] | rw [view_twoF] | skip); apply chk_c <;> (first | assumption | rfl | (simp at * <;> omega))) (allp g0 (allp (by apply nck_c <;> (first | assumption | rfl | (simp at * <;> omega))) (allp g1 (allp g1 (allp g1 (allp g1 allp_nil)))))))
theorem jnB_1 (cf cb : Option Nat) (F B : List Stk) (d i e k : Int) (hc : (chkV F B != (0 : Int)) = false) (g0 : (chkV F B != (0 : Int)) = false) (g1 : ((if ndV d i = true then (0 : Int) else (1 : Int)) != (0 : Int)) = false) (g2 : ((if ndV e k = true then (0 : Int) else (1 : Int)) != (0 : Int)) = true) : PureC Try.prog 40 [beds (bsl cf F) (bsl cb B), ndl d i, ndl e k]  (AV.tup [AV.agg [niln, niln], it 1]) :=
  funA_ok (H := h40) (n := 68) (ans := [.c, .c, .c, .c, .c, .c, .r (it (chkV F B)), .c, .c, .c, .c, .c, .b false, .c, .r (it (if ndV d i = true then (0 : Int) else (1 : Int))), .c, .c, .c, .c, .b false, .c, .b false, .r (it (if ndV e k = true then (0 : Int) else (1 : Int))), .c, .c, .b false, .c, .b false, .c, .c, .b true, .c, .b true, .c, .b true, .c, .b true, .c, .b true, .c, .b true, .c, .c, .c, .c, .c]) (ps := [PureC Try.prog 31 [view (AV.agg [bsl cf F, bsl cb B])] (it (chkV F B)), (chkV F B != (0 : Int)) = false, PureC Try.prog 56 [AV.agg [ub d, it i]] (it (if ndV d i = true then (0 : Int) else (1 : Int))), ((if ndV d i = true then (0 : Int) else (1 : Int)) != (0 : Int)) = false, ((if ndV d i = true then (0 : Int) else (1 : Int)) != (0 : Int)) = false, PureC Try.prog 56 [AV.agg [ub e, it k]] (it (if ndV e k = true then (0 : Int) else (1 : Int))), ((if ndV d i = true then (0 : Int) else (1 : Int)) != (0 : Int)) = false, ((if ndV d i = true then (0 : Int) else (1 : Int)) != (0 : Int)) = false, ((if ndV e k = true then (0 : Int) else (1 : Int)) != (0 : Int)) = true, ((if ndV e k = true then (0 : Int) else (1 : Int)) != (0 : Int)) = true, ((if ndV e k = true then (0 : Int) else (1 : Int)) != (0 : Int)) = true, ((if ndV e k = true then (0 : Int) else (1 : Int)) != (0 : Int)) = true, ((if ndV e k = true then (0 : Int) else (1 : Int)) != (0 : Int)) = true, ((if ndV e k = true then (0 : Int) else (1 : Int)) != (0 : Int)) = true]) (base 68 0) Try.func40 rfl (by simp) rfl (by kernel_rfl)  (allp (by (first | rw [view_yn] | rw [view_two] | rw [view_twoI] | rw [view_beds] | rw [view_frW] | rw [view_frN] | rw [view_twoF] | skip); apply chk_c <;> (first | assumption | rfl | (simp at * <;> omega))) (allp g0 (allp (by apply nck_c <;> (first | assumption | rfl | (simp at * <;> omega))) (allp g1 (allp g1 (allp (by apply nck_c <;> (first | assumption | rfl | (simp at * <;> omega))) (allp g1 (allp g1 (allp g2 (allp g2 (allp g2 (allp g2 (allp g2 (allp g2 allp_nil))))))))))))))
theorem jnB_2 (cf cb : Option Nat) (F B : List Stk) (d i e k : Int) (hc : (chkV F B != (0 : Int)) = false) (g0 : (chkV F B != (0 : Int)) = false) (g1 : ((if ndV d i = true then (0 : Int) else (1 : Int)) != (0 : Int)) = false) (g2 : ((if ndV e k = true then (0 : Int) else (1 : Int)) != (0 : Int)) = false) (g3 : (d == e) = true) : PureC Try.prog 40 [beds (bsl cf F) (bsl cb B), ndl d i, ndl e k]  (AV.tup [AV.agg [niln, niln], it 1]) :=
  funA_ok (H := h40) (n := 68) (ans := [.c, .c, .c, .c, .c, .c, .r (it (chkV F B)), .c, .c, .c, .c, .c, .b false, .c, .r (it (if ndV d i = true then (0 : Int) else (1 : Int))), .c, .c, .c, .c, .b false, .c, .b false, .r (it (if ndV e k = true then (0 : Int) else (1 : Int))), .c, .c, .b false, .c, .b false, .c, .c, .b false, .c, .b false, .c, .c, .c, .b false, .c, .b false, .c, .c, .c, .b false, .c, .b false, .c, .b true, .c, .c, .c]) (ps := [PureC Try.prog 31 [view (AV.agg [bsl cf F, bsl cb B])] (it (chkV F B)), (chkV F B != (0 : Int)) = false, PureC Try.prog 56 [AV.agg [ub d, it i]] (it (if ndV d i = true then (0 : Int) else (1 : Int))), ((if ndV d i = true then (0 : Int) else (1 : Int)) != (0 : Int)) = false, ((if ndV d i = true then (0 : Int) else (1 : Int)) != (0 : Int)) = false, PureC Try.prog 56 [AV.agg [ub e, it k]] (it (if ndV e k = true then (0 : Int) else (1 : Int))), ((if ndV d i = true then (0 : Int) else (1 : Int)) != (0 : Int)) = false, ((if ndV d i = true then (0 : Int) else (1 : Int)) != (0 : Int)) = false, ((if ndV e k = true then (0 : Int) else (1 : Int)) != (0 : Int)) = false, ((if ndV e k = true then (0 : Int) else (1 : Int)) != (0 : Int)) = false, ((if ndV e k = true then (0 : Int) else (1 : Int)) != (0 : Int)) = false, ((if ndV e k = true then (0 : Int) else (1 : Int)) != (0 : Int)) = false, ((if ndV e k = true then (0 : Int) else (1 : Int)) != (0 : Int)) = false, ((if ndV e k = true then (0 : Int) else (1 : Int)) != (0 : Int)) = false, (d == e) = true]) (base 68 0) Try.func40 rfl (by simp) rfl (by kernel_rfl)  (allp (by (first | rw [view_yn] | rw [view_two] | rw [view_twoI] | rw [view_beds] | rw [view_frW] | rw [view_frN] | rw [view_twoF] | skip); apply chk_c <;> (first | assumption | rfl | (simp at * <;> omega))) (allp g0 (allp (by apply nck_c <;> (first | assumption | rfl | (simp at * <;> omega))) (allp g1 (allp g1 (allp (by apply nck_c <;> (first | assumption | rfl | (simp at * <;> omega))) (allp g1 (allp g1 (allp g2 (allp g2 (allp g2 (allp g2 (allp g2 (allp g2 (allp g3 allp_nil)))))))))))))))
theorem j14_0 (cf cb : Option Nat) (F B : List Stk) (d i e k : Int) (J : List Idd) (hd : d = 0 ∨ d = 1) (h1 : 1 ≤ i) (h2 : i ≤ 40) (he : e = 0 ∨ e = 1) (h3 : 1 ≤ k) (h4 : k ≤ 40) (hA : ∀ t ∈ itms F B, t.2.2.l.length ≤ 4294967296) (hJ : J.length ≤ 4294967296) (hW : ∀ t ∈ itms (stkW (halfT (withT F B d i []) 0)) (stkW (halfT (withT F B d i []) 40)), t.2.2.l.length ≤ 4294967296) (g0 : AV.agg [AV.sl Mode.fresh 62 (some (List.length (halfT (withT F B d i []) (0 : Nat)))) (List.map (mapE (remode shareM (10 : Nat))) (List.map FW (halfT (withT F B d i []) (0 : Nat)))), AV.sl Mode.fresh 62 (some (List.length (halfT (withT F B d i []) (40 : Nat)))) (List.map (mapE (remode shareM (10 : Nat))) (List.map FW (halfT (withT F B d i []) (40 : Nat))))] = AV.agg [AV.sl Mode.fresh 62 (some (List.length (halfT (withT F B d i []) (0 : Nat)))) (List.map FW (halfT (withT F B d i []) (0 : Nat))), AV.sl Mode.fresh 62 (some (List.length (halfT (withT F B d i []) (40 : Nat)))) (List.map FW (halfT (withT F B d i []) (40 : Nat)))]) (g1 : decide ((false || (false || (true || false))) = true → noAny (12 : Nat) (AV.agg [AV.sl Mode.fresh 62 (some (List.length (halfT (withT (stkW (halfT (withT F B d i []) (0 : Nat))) (stkW (halfT (withT F B d i []) (40 : Nat))) e k J) (0 : Nat)))) (List.map FW (halfT (withT (stkW (halfT (withT F B d i []) (0 : Nat))) (stkW (halfT (withT F B d i []) (40 : Nat))) e k J) (0 : Nat))), AV.sl Mode.fresh 62 (some (List.length (halfT (withT (stkW (halfT (withT F B d i []) (0 : Nat))) (stkW (halfT (withT F B d i []) (40 : Nat))) e k J) (40 : Nat)))) (List.map FW (halfT (withT (stkW (halfT (withT F B d i []) (0 : Nat))) (stkW (halfT (withT F B d i []) (40 : Nat))) e k J) (40 : Nat)))]) = true) = true) (g2 : AV.agg [AV.sl Mode.fresh 62 (some (List.length (halfT (withT (stkW (halfT (withT F B d i []) (0 : Nat))) (stkW (halfT (withT F B d i []) (40 : Nat))) e k J) (0 : Nat)))) (List.map (mapE (remode shareM (10 : Nat))) (List.map FW (halfT (withT (stkW (halfT (withT F B d i []) (0 : Nat))) (stkW (halfT (withT F B d i []) (40 : Nat))) e k J) (0 : Nat)))), AV.sl Mode.fresh 62 (some (List.length (halfT (withT (stkW (halfT (withT F B d i []) (0 : Nat))) (stkW (halfT (withT F B d i []) (40 : Nat))) e k J) (40 : Nat)))) (List.map (mapE (remode shareM (10 : Nat))) (List.map FW (halfT (withT (stkW (halfT (withT F B d i []) (0 : Nat))) (stkW (halfT (withT F B d i []) (40 : Nat))) e k J) (40 : Nat))))] = AV.agg [AV.sl Mode.fresh 62 (some (List.length (halfT (withT (stkW (halfT (withT F B d i []) (0 : Nat))) (stkW (halfT (withT F B d i []) (40 : Nat))) e k J) (0 : Nat)))) (List.map FW (halfT (withT (stkW (halfT (withT F B d i []) (0 : Nat))) (stkW (halfT (withT F B d i []) (40 : Nat))) e k J) (0 : Nat))), AV.sl Mode.fresh 62 (some (List.length (halfT (withT (stkW (halfT (withT F B d i []) (0 : Nat))) (stkW (halfT (withT F B d i []) (40 : Nat))) e k J) (40 : Nat)))) (List.map FW (halfT (withT (stkW (halfT (withT F B d i []) (0 : Nat))) (stkW (halfT (withT F B d i []) (40 : Nat))) e k J) (40 : Nat)))]) : Tri Try.prog (cxN 68 0) (regAt Try.f40 14) ([(3, .box [bsl cf F, bsl cb B]), (4, .box [ub d, it i]), (5, .box [ub e, it k]), (6, .box [niln, niln]), (11, iow none J)] ) (Ex.normal) ([(6, AV.box [AV.sl Mode.fresh 62 (some (List.length (halfT (withT (stkW (halfT (withT F B d i []) (0 : Nat))) (stkW (halfT (withT F B d i []) (40 : Nat))) e k J) (0 : Nat)))) (List.map FW (halfT (withT (stkW (halfT (withT F B d i []) (0 : Nat))) (stkW (halfT (withT F B d i []) (40 : Nat))) e k J) (0 : Nat))), AV.sl Mode.fresh 62 (some (List.length (halfT (withT (stkW (halfT (withT F B d i []) (0 : Nat))) (stkW (halfT (withT F B d i []) (40 : Nat))) e k J) (40 : Nat)))) (List.map FW (halfT (withT (stkW (halfT (withT F B d i []) (0 : Nat))) (stkW (halfT (withT F B d i []) (40 : Nat))) e k J) (40 : Nat)))]), (7, it 0)]) :=
  evA_ok (H := h40) (ans := [.c, .c, .r (AV.agg [AV.sl Mode.fresh 62 (some (List.length (halfT (withT F B d i []) (0 : Nat)))) (List.map FW (halfT (withT F B d i []) (0 : Nat))), AV.sl Mode.fresh 62 (some (List.length (halfT (withT F B d i []) (40 : Nat)))) (List.map FW (halfT (withT F B d i []) (40 : Nat)))]), .c, .r (AV.agg [AV.sl Mode.fresh 62 (some (List.length (halfT (withT F B d i []) (0 : Nat)))) (List.map FW (halfT (withT F B d i []) (0 : Nat))), AV.sl Mode.fresh 62 (some (List.length (halfT (withT F B d i []) (40 : Nat)))) (List.map FW (halfT (withT F B d i []) (40 : Nat)))]), .c, .c, .r (AV.sl Mode.any 30 none (List.map Idd.enc J)), .r (AV.agg [AV.sl Mode.fresh 62 (some (List.length (halfT (withT (stkW (halfT (withT F B d i []) (0 : Nat))) (stkW (halfT (withT F B d i []) (40 : Nat))) e k J) (0 : Nat)))) (List.map FW (halfT (withT (stkW (halfT (withT F B d i []) (0 : Nat))) (stkW (halfT (withT F B d i []) (40 : Nat))) e k J) (0 : Nat))), AV.sl Mode.fresh 62 (some (List.length (halfT (withT (stkW (halfT (withT F B d i []) (0 : Nat))) (stkW (halfT (withT F B d i []) (40 : Nat))) e k J) (40 : Nat)))) (List.map FW (halfT (withT (stkW (halfT (withT F B d i []) (0 : Nat))) (stkW (halfT (withT F B d i []) (40 : Nat))) e k J) (40 : Nat)))]), .b true, .r (AV.agg [AV.sl Mode.fresh 62 (some (List.length (halfT (withT (stkW (halfT (withT F B d i []) (0 : Nat))) (stkW (halfT (withT F B d i []) (40 : Nat))) e k J) (0 : Nat)))) (List.map FW (halfT (withT (stkW (halfT (withT F B d i []) (0 : Nat))) (stkW (halfT (withT F B d i []) (40 : Nat))) e k J) (0 : Nat))), AV.sl Mode.fresh 62 (some (List.length (halfT (withT (stkW (halfT (withT F B d i []) (0 : Nat))) (stkW (halfT (withT F B d i []) (40 : Nat))) e k J) (40 : Nat)))) (List.map FW (halfT (withT (stkW (halfT (withT F B d i []) (0 : Nat))) (stkW (halfT (withT F B d i []) (40 : Nat))) e k J) (40 : Nat)))]), .c, .c, .c]) (ps := [PureC Try.prog 63 [view (AV.agg [bsl cf F, bsl cb B]), AV.agg [ub d, it i], niln] (AV.agg [AV.sl Mode.fresh 62 (some (List.length (halfT (withT F B d i []) (0 : Nat)))) (List.map FW (halfT (withT F B d i []) (0 : Nat))), AV.sl Mode.fresh 62 (some (List.length (halfT (withT F B d i []) (40 : Nat)))) (List.map FW (halfT (withT F B d i []) (40 : Nat)))]), AV.agg [AV.sl Mode.fresh 62 (some (List.length (halfT (withT F B d i []) (0 : Nat)))) (List.map (mapE (remode shareM (10 : Nat))) (List.map FW (halfT (withT F B d i []) (0 : Nat)))), AV.sl Mode.fresh 62 (some (List.length (halfT (withT F B d i []) (40 : Nat)))) (List.map (mapE (remode shareM (10 : Nat))) (List.map FW (halfT (withT F B d i []) (40 : Nat))))] = AV.agg [AV.sl Mode.fresh 62 (some (List.length (halfT (withT F B d i []) (0 : Nat)))) (List.map FW (halfT (withT F B d i []) (0 : Nat))), AV.sl Mode.fresh 62 (some (List.length (halfT (withT F B d i []) (40 : Nat)))) (List.map FW (halfT (withT F B d i []) (40 : Nat)))], view (AV.sl Mode.own 30 none (List.map Idd.enc J)) = AV.sl Mode.any 30 none (List.map Idd.enc J), PureC Try.prog 63 [view (AV.agg [AV.sl Mode.fresh 62 (some (List.length (halfT (withT F B d i []) (0 : Nat)))) (List.map FW (halfT (withT F B d i []) (0 : Nat))), AV.sl Mode.fresh 62 (some (List.length (halfT (withT F B d i []) (40 : Nat)))) (List.map FW (halfT (withT F B d i []) (40 : Nat)))]), AV.agg [ub e, it k], AV.sl Mode.any 30 none (List.map Idd.enc J)] (AV.agg [AV.sl Mode.fresh 62 (some (List.length (halfT (withT (stkW (halfT (withT F B d i []) (0 : Nat))) (stkW (halfT (withT F B d i []) (40 : Nat))) e k J) (0 : Nat)))) (List.map FW (halfT (withT (stkW (halfT (withT F B d i []) (0 : Nat))) (stkW (halfT (withT F B d i []) (40 : Nat))) e k J) (0 : Nat))), AV.sl Mode.fresh 62 (some (List.length (halfT (withT (stkW (halfT (withT F B d i []) (0 : Nat))) (stkW (halfT (withT F B d i []) (40 : Nat))) e k J) (40 : Nat)))) (List.map FW (halfT (withT (stkW (halfT (withT F B d i []) (0 : Nat))) (stkW (halfT (withT F B d i []) (40 : Nat))) e k J) (40 : Nat)))]), decide ((false || (false || (true || false))) = true → noAny (12 : Nat) (AV.agg [AV.sl Mode.fresh 62 (some (List.length (halfT (withT (stkW (halfT (withT F B d i []) (0 : Nat))) (stkW (halfT (withT F B d i []) (40 : Nat))) e k J) (0 : Nat)))) (List.map FW (halfT (withT (stkW (halfT (withT F B d i []) (0 : Nat))) (stkW (halfT (withT F B d i []) (40 : Nat))) e k J) (0 : Nat))), AV.sl Mode.fresh 62 (some (List.length (halfT (withT (stkW (halfT (withT F B d i []) (0 : Nat))) (stkW (halfT (withT F B d i []) (40 : Nat))) e k J) (40 : Nat)))) (List.map FW (halfT (withT (stkW (halfT (withT F B d i []) (0 : Nat))) (stkW (halfT (withT F B d i []) (40 : Nat))) e k J) (40 : Nat)))]) = true) = true, AV.agg [AV.sl Mode.fresh 62 (some (List.length (halfT (withT (stkW (halfT (withT F B d i []) (0 : Nat))) (stkW (halfT (withT F B d i []) (40 : Nat))) e k J) (0 : Nat)))) (List.map (mapE (remode shareM (10 : Nat))) (List.map FW (halfT (withT (stkW (halfT (withT F B d i []) (0 : Nat))) (stkW (halfT (withT F B d i []) (40 : Nat))) e k J) (0 : Nat)))), AV.sl Mode.fresh 62 (some (List.length (halfT (withT (stkW (halfT (withT F B d i []) (0 : Nat))) (stkW (halfT (withT F B d i []) (40 : Nat))) e k J) (40 : Nat)))) (List.map (mapE (remode shareM (10 : Nat))) (List.map FW (halfT (withT (stkW (halfT (withT F B d i []) (0 : Nat))) (stkW (halfT (withT F B d i []) (40 : Nat))) e k J) (40 : Nat))))] = AV.agg [AV.sl Mode.fresh 62 (some (List.length (halfT (withT (stkW (halfT (withT F B d i []) (0 : Nat))) (stkW (halfT (withT F B d i []) (40 : Nat))) e k J) (0 : Nat)))) (List.map FW (halfT (withT (stkW (halfT (withT F B d i []) (0 : Nat))) (stkW (halfT (withT F B d i []) (40 : Nat))) e k J) (0 : Nat))), AV.sl Mode.fresh 62 (some (List.length (halfT (withT (stkW (halfT (withT F B d i []) (0 : Nat))) (stkW (halfT (withT F B d i []) (40 : Nat))) e k J) (40 : Nat)))) (List.map FW (halfT (withT (stkW (halfT (withT F B d i []) (0 : Nat))) (stkW (halfT (withT F B d i []) (40 : Nat))) e k J) (40 : Nat)))]]) (ans' := []) (base 68 0) cxA_K.1 cxA_K.2 _ (by kernel_rfl)  (allp (by (first | rw [view_yn] | rw [view_two] | rw [view_twoI] | rw [view_beds] | rw [view_frW] | rw [view_frN] | rw [view_twoF] | skip); first | (apply with_n <;> (first | assumption | rfl | (simp at * <;> omega))) | (apply with_v <;> (first | assumption | rfl | (simp at * <;> omega)))) (allp g0 (allp (by first | exact view_ps _ _ _ | exact view_u8 _ _ _ | rfl | exact view_yn _ _ _ _ _ _ _ | exact view_id _ _ _ | exact view_stk _ _ _ | exact view_beds _ _ _ _ _ _ | exact view_pt _ _ _) (allp (by (first | rw [view_yn] | rw [view_two] | rw [view_twoI] | rw [view_beds] | rw [view_frW] | rw [view_frN] | rw [view_twoF] | skip); first | (apply with_n <;> (first | assumption | rfl | (simp at * <;> omega))) | (apply with_v <;> (first | assumption | rfl | (simp at * <;> omega)))) (allp g1 (allp g2 allp_nil))))))
end Tst
end

section
open Go Go.Lf Go.Proofs
namespace Tst
set_option maxHeartbeats 0
theorem noAny_FW (k : Nat) (x : List (List Idd)) : (x.map FW).all (noAny (k + 3)) = true := by
  rw [List.all_map, List.all_eq_true]
  intro l _
  show ((true && (l.map Idd.enc).all (noAny (k + 2))) : Bool) = true
  rw [Bool.true_and, List.all_map, List.all_eq_true]
  intro p _
  rfl
theorem noAny_iow (l : List Idd) : noAny 12 (AV.sl Mode.own 30 none (List.map Idd.enc l)) = true := by
  show ((true && (l.map Idd.enc).all (noAny 11)) : Bool) = true
  rw [Bool.true_and, List.all_map, List.all_eq_true]
  intro p _
  rfl
theorem noAny_bd (x y : List (List Idd)) (c c' : Option Nat) : noAny 12 (AV.agg [AV.sl Mode.fresh 62 c (x.map FW), AV.sl Mode.fresh 62 c' (y.map FW)]) = true := by
  show (((true && (x.map FW).all (noAny 10)) && ((true && (y.map FW).all (noAny 10)) && true)) : Bool) = true
  rw [noAny_FW 7, noAny_FW 7]; rfl
def joinT (F B : List Stk) (d i e k : Int) (J : List Idd) : List (List Idd) := withT (stkW (halfT (withT F B d i []) 0)) (stkW (halfT (withT F B d i []) 40)) e k J
theorem j14_c (cf cb : Option Nat) (F B : List Stk) (d i e k : Int) (J : List Idd) (hd : d = 0 ∨ d = 1) (h1 : 1 ≤ i) (h2 : i ≤ 40) (he : e = 0 ∨ e = 1) (h3 : 1 ≤ k) (h4 : k ≤ 40) (hA : ∀ t ∈ itms F B, t.2.2.l.length ≤ 4294967296) (hJ : J.length ≤ 4294967296) (hW : ∀ t ∈ itms (stkW (halfT (withT F B d i []) 0)) (stkW (halfT (withT F B d i []) 40)), t.2.2.l.length ≤ 4294967296) :
    Tri Try.prog (cxN 68 0) (codeAt Try.f40 14) [(3, .box [bsl cf F, bsl cb B]), (4, .box [ub d, it i]), (5, .box [ub e, it k]), (6, .box [niln, niln]), (11, iow none J)] .normal [(6, .box [frW (halfT (joinT F B d i e k J) 0), frW (halfT (joinT F B d i e k J) 40)]), (7, it 0)] := by
  rw [show codeAt Try.f40 14 = regAt Try.f40 14 by kernel_rfl]
  exact j14_0 cf cb F B d i e k J hd h1 h2 he h3 h4 hA hJ hW (by rw [smap_FW, smap_FW]) (by rw [noAny_bd]; simp) (by rw [smap_FW, smap_FW])
theorem j11_0 (cf cb : Option Nat) (F B : List Stk) (d i e k : Int) (l m : List Idd) (hl : l.length ≤ 1000000) (hm : m.length ≤ 1000000) (g0 : decide ((true || false) = true → noAny (12 : Nat) (AV.sl Mode.own 30 none (List.map Idd.enc (m ++ l))) = true) = true) : Tri Try.prog (cxN 68 0) (regAt Try.f40 11) ([(3, .box [bsl cf F, bsl cb B]), (4, .box [ub d, it i]), (5, .box [ub e, it k]), (6, .box [niln, niln]), (9, .sl .fresh 30 (some l.length) (l.map Idd.enc)), (10, .sl .fresh 30 (some m.length) (m.map Idd.enc))] ) (Ex.normal) ([(3, AV.box [bsl cf F, bsl cb B]), (4, AV.box [ub d, it i]), (5, AV.box [ub e, it k]), (6, AV.box [niln, niln]), (9, AV.sl Mode.fresh 30 (some (List.length l)) (List.map Idd.enc l)), (10, AV.sl Mode.fresh 30 (some (List.length m)) (List.map Idd.enc m)), (11, AV.sl Mode.own 30 none (List.map Idd.enc (m ++ l)))]) :=
  evA_ok (H := h40) (ans := [.c, .c, .c, .c, .r (AV.sl Mode.own 30 none (List.map Idd.enc (m ++ l))), .b true, .c, .c]) (ps := [PureC Try.prog 65 [view (AV.sl Mode.own 62 (some 2) [AV.sl Mode.fresh 30 (some (List.length m)) (List.map Idd.enc m), AV.sl Mode.fresh 30 (some (List.length l)) (List.map Idd.enc l)])] (AV.sl Mode.own 30 none (List.map Idd.enc (m ++ l))), decide ((true || false) = true → noAny (12 : Nat) (AV.sl Mode.own 30 none (List.map Idd.enc (m ++ l))) = true) = true]) (ans' := []) (base 68 0) cxA_K.1 cxA_K.2 _ (by kernel_rfl)  (allp (by (first | rw [view_yn] | rw [view_two] | rw [view_twoI] | rw [view_beds] | rw [view_frW] | rw [view_frN] | rw [view_twoF] | skip); apply conI_c <;> (first | assumption | rfl | (simp at * <;> omega))) (allp g0 allp_nil))
theorem j12_0 (cf cb : Option Nat) (F B : List Stk) (d i e k : Int) (l m J : List Idd) : Tri Try.prog (cxN 68 0) (regAt Try.f40 12) ([(3, .box [bsl cf F, bsl cb B]), (4, .box [ub d, it i]), (5, .box [ub e, it k]), (6, .box [niln, niln]), (9, .sl .fresh 30 (some l.length) (l.map Idd.enc)), (10, .sl .fresh 30 (some m.length) (m.map Idd.enc)), (11, iow none J)] ) (Ex.normal) ([(3, AV.box [bsl cf F, bsl cb B]), (4, AV.box [ub d, it i]), (5, AV.box [ub e, it k]), (6, AV.box [niln, niln]), (9, AV.sl Mode.fresh 30 (some (List.length l)) (List.map Idd.enc l)), (10, AV.sl Mode.fresh 30 (some (List.length m)) (List.map Idd.enc m)), (11, AV.sl Mode.own 30 none (List.map Idd.enc J)), (57, bb (d == (1 : Int)))]) :=
  evA_ok (H := h40) (ans := [.c, .c, .c, .c, .c]) (ps := []) (ans' := []) (base 68 0) cxA_K.1 cxA_K.2 _ (by kernel_rfl)  allp_nil
theorem j13_0 (cf cb : Option Nat) (F B : List Stk) (d i e k : Int) (l m J : List Idd) (hl : l.length ≤ 1000000) (hm : m.length ≤ 1000000) (g0 : decide ((true || false) = true → noAny (12 : Nat) (AV.sl Mode.own 30 none (List.map Idd.enc (l ++ m))) = true) = true) : Tri Try.prog (cxN 68 0) (regAt Try.f40 13) ([(3, .box [bsl cf F, bsl cb B]), (4, .box [ub d, it i]), (5, .box [ub e, it k]), (6, .box [niln, niln]), (9, .sl .fresh 30 (some l.length) (l.map Idd.enc)), (10, .sl .fresh 30 (some m.length) (m.map Idd.enc)), (11, iow none J)] ) (Ex.normal) ([(3, AV.box [bsl cf F, bsl cb B]), (4, AV.box [ub d, it i]), (5, AV.box [ub e, it k]), (6, AV.box [niln, niln]), (11, AV.sl Mode.own 30 none (List.map Idd.enc (l ++ m)))]) :=
  evA_ok (H := h40) (ans := [.c, .c, .c, .c, .r (AV.sl Mode.own 30 none (List.map Idd.enc (l ++ m))), .b true, .c, .c]) (ps := [PureC Try.prog 65 [view (AV.sl Mode.own 62 (some 2) [AV.sl Mode.fresh 30 (some (List.length l)) (List.map Idd.enc l), AV.sl Mode.fresh 30 (some (List.length m)) (List.map Idd.enc m)])] (AV.sl Mode.own 30 none (List.map Idd.enc (l ++ m))), decide ((true || false) = true → noAny (12 : Nat) (AV.sl Mode.own 30 none (List.map Idd.enc (l ++ m))) = true) = true]) (ans' := []) (base 68 0) cxA_K.1 cxA_K.2 _ (by kernel_rfl)  (allp (by (first | rw [view_yn] | rw [view_two] | rw [view_twoI] | rw [view_beds] | rw [view_frW] | rw [view_frN] | rw [view_twoF] | skip); apply conI_c <;> (first | assumption | rfl | (simp at * <;> omega))) (allp g0 allp_nil))
end Tst
end

section
open Go Go.Lf Go.Proofs
namespace Tst
set_option maxHeartbeats 0
abbrev jE (cf cb : Option Nat) (F B : List Stk) (d i e k : Int) (l m : List Idd) : Env := [(3, .box [bsl cf F, bsl cb B]), (4, .box [ub d, it i]), (5, .box [ub e, it k]), (6, .box [niln, niln]), (9, .sl .fresh 30 (some l.length) (l.map Idd.enc)), (10, .sl .fresh 30 (some m.length) (m.map Idd.enc))]
def jnL (d : Int) (l m : List Idd) : List Idd := if (d == 1) = true then l ++ m else m ++ l
theorem j11_c (cf cb : Option Nat) (F B : List Stk) (d i e k : Int) (l m : List Idd) (hl : l.length ≤ 1000000) (hm : m.length ≤ 1000000) : Tri Try.prog (cxN 68 0) (codeAt Try.f40 11) (jE cf cb F B d i e k l m) .normal [(3, .box [bsl cf F, bsl cb B]), (4, .box [ub d, it i]), (5, .box [ub e, it k]), (6, .box [niln, niln]), (9, .sl .fresh 30 (some l.length) (l.map Idd.enc)), (10, .sl .fresh 30 (some m.length) (m.map Idd.enc)), (11, iow none (m ++ l))] := by
  rw [show codeAt Try.f40 11 = regAt Try.f40 11 by kernel_rfl]
  exact Tri.after [(3, .keep), (4, .keep), (5, .keep), (6, .keep), (9, .keep), (10, .keep), (11, .keep)] (j11_0 cf cb F B d i e k l m hl hm (by rw [noAny_iow]; simp))
theorem j12_code : codeAt Try.f40 12 = .seq (regAt Try.f40 12) (.cond (.tmp 57) (regAt Try.f40 13) .skip) := by kernel_rfl
theorem j12_c (cf cb : Option Nat) (F B : List Stk) (d i e k : Int) (l m : List Idd) (hl : l.length ≤ 1000000) (hm : m.length ≤ 1000000) : Tri Try.prog (cxN 68 0) (codeAt Try.f40 12) [(3, .box [bsl cf F, bsl cb B]), (4, .box [ub d, it i]), (5, .box [ub e, it k]), (6, .box [niln, niln]), (9, .sl .fresh 30 (some l.length) (l.map Idd.enc)), (10, .sl .fresh 30 (some m.length) (m.map Idd.enc)), (11, iow none (m ++ l))] .normal
    [(3, .box [bsl cf F, bsl cb B]), (4, .box [ub d, it i]), (5, .box [ub e, it k]), (6, .box [niln, niln]), (11, iow none (jnL d l m))] := by
  rw [j12_code]
  unfold jnL
  have h := j12_0 cf cb F B d i e k l m (m ++ l)
  cases hb : (d == 1) with
  | true =>
    rw [hb] at h
    exact .seq h (.cond (b := true) rfl (.weak [(3, .keep), (4, .keep), (5, .keep), (6, .keep), (9, .keep), (10, .keep), (11, .keep)] (.after [(3, .keep), (4, .keep), (5, .keep), (6, .keep), (11, .keep)] (j13_0 cf cb F B d i e k l m (m ++ l) hl hm (by rw [noAny_iow]; simp)))))
  | false =>
    rw [hb] at h
    exact .seq h (.cond (b := false) rfl (.after [(3, .keep), (4, .keep), (5, .keep), (6, .keep), (11, .keep)] .skip))
theorem jnE_0 (cf cb : Option Nat) (F B : List Stk) (d i e k : Int) (hc : (chkV F B != (0 : Int)) = false) (hn : ((if ndV d i = true then (0 : Int) else (1 : Int)) != (0 : Int)) = false) (hn2 : ((if ndV e k = true then (0 : Int) else (1 : Int)) != (0 : Int)) = false) (hne : (d == e) = false) (v1 : ndV d i = true) (v2 : ndV e k = true) (hf : ∀ s ∈ F, s.l.length ≤ 4294967296) (hb : ∀ s ∈ B, s.l.length ≤ 4294967296) (hl : (stkAt d i F B).length ≤ 1000000) (hm : (stkAt e k F B).length ≤ 1000000) (hd : d = 0 ∨ d = 1) (h1 : 1 ≤ i) (h2 : i ≤ 40) (he : e = 0 ∨ e = 1) (h3 : 1 ≤ k) (h4 : k ≤ 40) (hA : ∀ t ∈ itms F B, t.2.2.l.length ≤ 4294967296) (hJ : (jnL d (stkAt d i F B) (stkAt e k F B)).length ≤ 4294967296) (hW : ∀ t ∈ itms (stkW (halfT (withT F B d i []) 0)) (stkW (halfT (withT F B d i []) 40)), t.2.2.l.length ≤ 4294967296) (g0 : (chkV F B != (0 : Int)) = false) (g1 : ((if ndV d i = true then (0 : Int) else (1 : Int)) != (0 : Int)) = false) (g2 : ((if ndV e k = true then (0 : Int) else (1 : Int)) != (0 : Int)) = false) (g3 : (d == e) = false) (g4 : ((↑(List.length (List.map Idd.enc (stkAt d i F B))) : Int) == (0 : Int)) = true) : PureC Try.prog 40 [beds (bsl cf F) (bsl cb B), ndl d i, ndl e k]  (AV.tup [AV.agg [niln, niln], it 13]) :=
  funA_ok (H := h40) (n := 68) (ans := [.c, .c, .c, .c, .c, .c, .r (it (chkV F B)), .c, .c, .c, .c, .c, .b false, .c, .r (it (if ndV d i = true then (0 : Int) else (1 : Int))), .c, .c, .c, .c, .b false, .c, .b false, .r (it (if ndV e k = true then (0 : Int) else (1 : Int))), .c, .c, .b false, .c, .b false, .c, .c, .b false, .c, .b false, .c, .c, .c, .b false, .c, .b false, .c, .c, .c, .b false, .c, .b false, .c, .b false, .c, .c, .r (AV.sl Mode.fresh 30 (some (List.length (stkAt d i F B))) (List.map Idd.enc (stkAt d i F B))), .c, .c, .c, .c, .r (AV.sl Mode.fresh 30 (some (List.length (stkAt e k F B))) (List.map Idd.enc (stkAt e k F B))), .c, .c, .c, .c, .c, .c, .c, .b true, .c, .c, .c]) (ps := [PureC Try.prog 31 [view (AV.agg [bsl cf F, bsl cb B])] (it (chkV F B)), (chkV F B != (0 : Int)) = false, PureC Try.prog 56 [AV.agg [ub d, it i]] (it (if ndV d i = true then (0 : Int) else (1 : Int))), ((if ndV d i = true then (0 : Int) else (1 : Int)) != (0 : Int)) = false, ((if ndV d i = true then (0 : Int) else (1 : Int)) != (0 : Int)) = false, PureC Try.prog 56 [AV.agg [ub e, it k]] (it (if ndV e k = true then (0 : Int) else (1 : Int))), ((if ndV d i = true then (0 : Int) else (1 : Int)) != (0 : Int)) = false, ((if ndV d i = true then (0 : Int) else (1 : Int)) != (0 : Int)) = false, ((if ndV e k = true then (0 : Int) else (1 : Int)) != (0 : Int)) = false, ((if ndV e k = true then (0 : Int) else (1 : Int)) != (0 : Int)) = false, ((if ndV e k = true then (0 : Int) else (1 : Int)) != (0 : Int)) = false, ((if ndV e k = true then (0 : Int) else (1 : Int)) != (0 : Int)) = false, ((if ndV e k = true then (0 : Int) else (1 : Int)) != (0 : Int)) = false, ((if ndV e k = true then (0 : Int) else (1 : Int)) != (0 : Int)) = false, (d == e) = false, PureC Try.prog 33 [view (AV.agg [bsl cf F, bsl cb B]), AV.agg [ub d, it i]] (AV.sl Mode.fresh 30 (some (List.length (stkAt d i F B))) (List.map Idd.enc (stkAt d i F B))), PureC Try.prog 33 [view (AV.agg [bsl cf F, bsl cb B]), AV.agg [ub e, it k]] (AV.sl Mode.fresh 30 (some (List.length (stkAt e k F B))) (List.map Idd.enc (stkAt e k F B))), ((↑(List.length (List.map Idd.enc (stkAt d i F B))) : Int) == (0 : Int)) = true]) (base 68 0) Try.func40 rfl (by simp) rfl (by kernel_rfl)  (allp (by (first | rw [view_yn] | rw [view_two] | rw [view_twoI] | rw [view_beds] | rw [view_frW] | rw [view_frN] | rw [view_twoF] | skip); apply chk_c <;> (first | assumption | rfl | (simp at * <;> omega))) (allp g0 (allp (by apply nck_c <;> (first | assumption | rfl | (simp at * <;> omega))) (allp g1 (allp g1 (allp (by apply nck_c <;> (first | assumption | rfl | (simp at * <;> omega))) (allp g1 (allp g1 (allp g2 (allp g2 (allp g2 (allp g2 (allp g2 (allp g2 (allp g3 (allp (by (first | rw [view_yn] | rw [view_two] | rw [view_twoI] | rw [view_beds] | rw [view_frW] | rw [view_frN] | rw [view_twoF] | skip); apply ndlAt_s <;> (first | assumption | rfl | (simp at * <;> omega))) (allp (by (first | rw [view_yn] | rw [view_two] | rw [view_twoI] | rw [view_beds] | rw [view_frW] | rw [view_frN] | rw [view_twoF] | skip); apply ndlAt_s <;> (first | assumption | rfl | (simp at * <;> omega))) (allp g4 allp_nil))))))))))))))))))
theorem jnE_1 (cf cb : Option Nat) (F B : List Stk) (d i e k : Int) (hc : (chkV F B != (0 : Int)) = false) (hn : ((if ndV d i = true then (0 : Int) else (1 : Int)) != (0 : Int)) = false) (hn2 : ((if ndV e k = true then (0 : Int) else (1 : Int)) != (0 : Int)) = false) (hne : (d == e) = false) (v1 : ndV d i = true) (v2 : ndV e k = true) (hf : ∀ s ∈ F, s.l.length ≤ 4294967296) (hb : ∀ s ∈ B, s.l.length ≤ 4294967296) (hl : (stkAt d i F B).length ≤ 1000000) (hm : (stkAt e k F B).length ≤ 1000000) (hd : d = 0 ∨ d = 1) (h1 : 1 ≤ i) (h2 : i ≤ 40) (he : e = 0 ∨ e = 1) (h3 : 1 ≤ k) (h4 : k ≤ 40) (hA : ∀ t ∈ itms F B, t.2.2.l.length ≤ 4294967296) (hJ : (jnL d (stkAt d i F B) (stkAt e k F B)).length ≤ 4294967296) (hW : ∀ t ∈ itms (stkW (halfT (withT F B d i []) 0)) (stkW (halfT (withT F B d i []) 40)), t.2.2.l.length ≤ 4294967296) (g0 : (chkV F B != (0 : Int)) = false) (g1 : ((if ndV d i = true then (0 : Int) else (1 : Int)) != (0 : Int)) = false) (g2 : ((if ndV e k = true then (0 : Int) else (1 : Int)) != (0 : Int)) = false) (g3 : (d == e) = false) (g4 : ((↑(List.length (List.map Idd.enc (stkAt d i F B))) : Int) == (0 : Int)) = false) (g5 : decide ((4 : Int) < IntKind.wrap IntKind.i64 ((↑(List.length (List.map Idd.enc (stkAt d i F B))) : Int) + (↑(List.length (List.map Idd.enc (stkAt e k F B))) : Int))) = true) : PureC Try.prog 40 [beds (bsl cf F) (bsl cb B), ndl d i, ndl e k]  (AV.tup [AV.agg [niln, niln], it 9]) :=
  funA_ok (H := h40) (n := 68) (ans := [.c, .c, .c, .c, .c, .c, .r (it (chkV F B)), .c, .c, .c, .c, .c, .b false, .c, .r (it (if ndV d i = true then (0 : Int) else (1 : Int))), .c, .c, .c, .c, .b false, .c, .b false, .r (it (if ndV e k = true then (0 : Int) else (1 : Int))), .c, .c, .b false, .c, .b false, .c, .c, .b false, .c, .b false, .c, .c, .c, .b false, .c, .b false, .c, .c, .c, .b false, .c, .b false, .c, .b false, .c, .c, .r (AV.sl Mode.fresh 30 (some (List.length (stkAt d i F B))) (List.map Idd.enc (stkAt d i F B))), .c, .c, .c, .c, .r (AV.sl Mode.fresh 30 (some (List.length (stkAt e k F B))) (List.map Idd.enc (stkAt e k F B))), .c, .c, .c, .c, .c, .c, .c, .b false, .c, .c, .c, .c, .c, .c, .b true, .c, .c, .c]) (ps := [PureC Try.prog 31 [view (AV.agg [bsl cf F, bsl cb B])] (it (chkV F B)), (chkV F B != (0 : Int)) = false, PureC Try.prog 56 [AV.agg [ub d, it i]] (it (if ndV d i = true then (0 : Int) else (1 : Int))), ((if ndV d i = true then (0 : Int) else (1 : Int)) != (0 : Int)) = false, ((if ndV d i = true then (0 : Int) else (1 : Int)) != (0 : Int)) = false, PureC Try.prog 56 [AV.agg [ub e, it k]] (it (if ndV e k = true then (0 : Int) else (1 : Int))), ((if ndV d i = true then (0 : Int) else (1 : Int)) != (0 : Int)) = false, ((if ndV d i = true then (0 : Int) else (1 : Int)) != (0 : Int)) = false, ((if ndV e k = true then (0 : Int) else (1 : Int)) != (0 : Int)) = false, ((if ndV e k = true then (0 : Int) else (1 : Int)) != (0 : Int)) = false, ((if ndV e k = true then (0 : Int) else (1 : Int)) != (0 : Int)) = false, ((if ndV e k = true then (0 : Int) else (1 : Int)) != (0 : Int)) = false, ((if ndV e k = true then (0 : Int) else (1 : Int)) != (0 : Int)) = false, ((if ndV e k = true then (0 : Int) else (1 : Int)) != (0 : Int)) = false, (d == e) = false, PureC Try.prog 33 [view (AV.agg [bsl cf F, bsl cb B]), AV.agg [ub d, it i]] (AV.sl Mode.fresh 30 (some (List.length (stkAt d i F B))) (List.map Idd.enc (stkAt d i F B))), PureC Try.prog 33 [view (AV.agg [bsl cf F, bsl cb B]), AV.agg [ub e, it k]] (AV.sl Mode.fresh 30 (some (List.length (stkAt e k F B))) (List.map Idd.enc (stkAt e k F B))), ((↑(List.length (List.map Idd.enc (stkAt d i F B))) : Int) == (0 : Int)) = false, decide ((4 : Int) < IntKind.wrap IntKind.i64 ((↑(List.length (List.map Idd.enc (stkAt d i F B))) : Int) + (↑(List.length (List.map Idd.enc (stkAt e k F B))) : Int))) = true]) (base 68 0) Try.func40 rfl (by simp) rfl (by kernel_rfl)  (allp (by (first | rw [view_yn] | rw [view_two] | rw [view_twoI] | rw [view_beds] | rw [view_frW] | rw [view_frN] | rw [view_twoF] | skip); apply chk_c <;> (first | assumption | rfl | (simp at * <;> omega))) (allp g0 (allp (by apply nck_c <;> (first | assumption | rfl | (simp at * <;> omega))) (allp g1 (allp g1 (allp (by apply nck_c <;> (first | assumption | rfl | (simp at * <;> omega))) (allp g1 (allp g1 (allp g2 (allp g2 (allp g2 (allp g2 (allp g2 (allp g2 (allp g3 (allp (by (first | rw [view_yn] | rw [view_two] | rw [view_twoI] | rw [view_beds] | rw [view_frW] | rw [view_frN] | rw [view_twoF] | skip); apply ndlAt_s <;> (first | assumption | rfl | (simp at * <;> omega))) (allp (by (first | rw [view_yn] | rw [view_two] | rw [view_twoI] | rw [view_beds] | rw [view_frW] | rw [view_frN] | rw [view_twoF] | skip); apply ndlAt_s <;> (first | assumption | rfl | (simp at * <;> omega))) (allp g4 (allp g5 allp_nil)))))))))))))))))))
theorem jnE_2 (cf cb : Option Nat) (F B : List Stk) (d i e k : Int) (hc : (chkV F B != (0 : Int)) = false) (hn : ((if ndV d i = true then (0 : Int) else (1 : Int)) != (0 : Int)) = false) (hn2 : ((if ndV e k = true then (0 : Int) else (1 : Int)) != (0 : Int)) = false) (hne : (d == e) = false) (v1 : ndV d i = true) (v2 : ndV e k = true) (hf : ∀ s ∈ F, s.l.length ≤ 4294967296) (hb : ∀ s ∈ B, s.l.length ≤ 4294967296) (hl : (stkAt d i F B).length ≤ 1000000) (hm : (stkAt e k F B).length ≤ 1000000) (hd : d = 0 ∨ d = 1) (h1 : 1 ≤ i) (h2 : i ≤ 40) (he : e = 0 ∨ e = 1) (h3 : 1 ≤ k) (h4 : k ≤ 40) (hA : ∀ t ∈ itms F B, t.2.2.l.length ≤ 4294967296) (hJ : (jnL d (stkAt d i F B) (stkAt e k F B)).length ≤ 4294967296) (hW : ∀ t ∈ itms (stkW (halfT (withT F B d i []) 0)) (stkW (halfT (withT F B d i []) 40)), t.2.2.l.length ≤ 4294967296) (g0 : (chkV F B != (0 : Int)) = false) (g1 : ((if ndV d i = true then (0 : Int) else (1 : Int)) != (0 : Int)) = false) (g2 : ((if ndV e k = true then (0 : Int) else (1 : Int)) != (0 : Int)) = false) (g3 : (d == e) = false) (g4 : ((↑(List.length (List.map Idd.enc (stkAt d i F B))) : Int) == (0 : Int)) = false) (g5 : decide ((4 : Int) < IntKind.wrap IntKind.i64 ((↑(List.length (List.map Idd.enc (stkAt d i F B))) : Int) + (↑(List.length (List.map Idd.enc (stkAt e k F B))) : Int))) = false) : PureC Try.prog 40 [beds (bsl cf F) (bsl cb B), ndl d i, ndl e k]  (AV.tup [AV.agg [AV.sl Mode.fresh 62 (some (List.length (halfT (joinT F B d i e k (jnL d (stkAt d i F B) (stkAt e k F B))) (0 : Nat)))) (List.map (mapE (remode shareM (11 : Nat))) (List.map FW (halfT (joinT F B d i e k (jnL d (stkAt d i F B) (stkAt e k F B))) (0 : Nat)))), AV.sl Mode.fresh 62 (some (List.length (halfT (joinT F B d i e k (jnL d (stkAt d i F B) (stkAt e k F B))) (40 : Nat)))) (List.map (mapE (remode shareM (11 : Nat))) (List.map FW (halfT (joinT F B d i e k (jnL d (stkAt d i F B) (stkAt e k F B))) (40 : Nat))))], it 0]) :=
  funA_ok (H := h40) (n := 68) (ans := [.c, .c, .c, .c, .c, .c, .r (it (chkV F B)), .c, .c, .c, .c, .c, .b false, .c, .r (it (if ndV d i = true then (0 : Int) else (1 : Int))), .c, .c, .c, .c, .b false, .c, .b false, .r (it (if ndV e k = true then (0 : Int) else (1 : Int))), .c, .c, .b false, .c, .b false, .c, .c, .b false, .c, .b false, .c, .c, .c, .b false, .c, .b false, .c, .c, .c, .b false, .c, .b false, .c, .b false, .c, .c, .r (AV.sl Mode.fresh 30 (some (List.length (stkAt d i F B))) (List.map Idd.enc (stkAt d i F B))), .c, .c, .c, .c, .r (AV.sl Mode.fresh 30 (some (List.length (stkAt e k F B))) (List.map Idd.enc (stkAt e k F B))), .c, .c, .c, .c, .c, .c, .c, .b false, .c, .c, .c, .c, .c, .c, .b false, .cut Ex.normal [(3, AV.box [bsl cf F, bsl cb B]), (4, AV.box [ub d, it i]), (5, AV.box [ub e, it k]), (6, AV.box [niln, niln]), (9, AV.sl Mode.fresh 30 (some (List.length (stkAt d i F B))) (List.map Idd.enc (stkAt d i F B))), (10, AV.sl Mode.fresh 30 (some (List.length (stkAt e k F B))) (List.map Idd.enc (stkAt e k F B))), (11, AV.sl Mode.own 30 none (List.map Idd.enc (stkAt e k F B ++ stkAt d i F B)))], .cut Ex.normal [(3, AV.box [bsl cf F, bsl cb B]), (4, AV.box [ub d, it i]), (5, AV.box [ub e, it k]), (6, AV.box [niln, niln]), (11, AV.sl Mode.own 30 none (List.map Idd.enc (jnL d (stkAt d i F B) (stkAt e k F B))))], .cut Ex.normal [(6, AV.box [AV.sl Mode.fresh 62 (some (List.length (halfT (joinT F B d i e k (jnL d (stkAt d i F B) (stkAt e k F B))) (0 : Nat)))) (List.map FW (halfT (joinT F B d i e k (jnL d (stkAt d i F B) (stkAt e k F B))) (0 : Nat))), AV.sl Mode.fresh 62 (some (List.length (halfT (joinT F B d i e k (jnL d (stkAt d i F B) (stkAt e k F B))) (40 : Nat)))) (List.map FW (halfT (joinT F B d i e k (jnL d (stkAt d i F B) (stkAt e k F B))) (40 : Nat)))]), (7, it 0)]]) (ps := [PureC Try.prog 31 [view (AV.agg [bsl cf F, bsl cb B])] (it (chkV F B)), (chkV F B != (0 : Int)) = false, PureC Try.prog 56 [AV.agg [ub d, it i]] (it (if ndV d i = true then (0 : Int) else (1 : Int))), ((if ndV d i = true then (0 : Int) else (1 : Int)) != (0 : Int)) = false, ((if ndV d i = true then (0 : Int) else (1 : Int)) != (0 : Int)) = false, PureC Try.prog 56 [AV.agg [ub e, it k]] (it (if ndV e k = true then (0 : Int) else (1 : Int))), ((if ndV d i = true then (0 : Int) else (1 : Int)) != (0 : Int)) = false, ((if ndV d i = true then (0 : Int) else (1 : Int)) != (0 : Int)) = false, ((if ndV e k = true then (0 : Int) else (1 : Int)) != (0 : Int)) = false, ((if ndV e k = true then (0 : Int) else (1 : Int)) != (0 : Int)) = false, ((if ndV e k = true then (0 : Int) else (1 : Int)) != (0 : Int)) = false, ((if ndV e k = true then (0 : Int) else (1 : Int)) != (0 : Int)) = false, ((if ndV e k = true then (0 : Int) else (1 : Int)) != (0 : Int)) = false, ((if ndV e k = true then (0 : Int) else (1 : Int)) != (0 : Int)) = false, (d == e) = false, PureC Try.prog 33 [view (AV.agg [bsl cf F, bsl cb B]), AV.agg [ub d, it i]] (AV.sl Mode.fresh 30 (some (List.length (stkAt d i F B))) (List.map Idd.enc (stkAt d i F B))), PureC Try.prog 33 [view (AV.agg [bsl cf F, bsl cb B]), AV.agg [ub e, it k]] (AV.sl Mode.fresh 30 (some (List.length (stkAt e k F B))) (List.map Idd.enc (stkAt e k F B))), ((↑(List.length (List.map Idd.enc (stkAt d i F B))) : Int) == (0 : Int)) = false, decide ((4 : Int) < IntKind.wrap IntKind.i64 ((↑(List.length (List.map Idd.enc (stkAt d i F B))) : Int) + (↑(List.length (List.map Idd.enc (stkAt e k F B))) : Int))) = false, Tri Try.prog (cxN (68 : Nat) (0 : Nat)) (codeAt Try.f40 (11 : Nat)) [(3, AV.box [bsl cf F, bsl cb B]), (4, AV.box [ub d, it i]), (5, AV.box [ub e, it k]), (6, AV.box [niln, niln]), (9, AV.sl Mode.fresh 30 (some (List.length (stkAt d i F B))) (List.map Idd.enc (stkAt d i F B))), (10, AV.sl Mode.fresh 30 (some (List.length (stkAt e k F B))) (List.map Idd.enc (stkAt e k F B))), (49, bb (decide ((4 : Int) < IntKind.wrap IntKind.i64 ((↑(List.length (List.map Idd.enc (stkAt d i F B))) : Int) + (↑(List.length (List.map Idd.enc (stkAt e k F B))) : Int)))))] Ex.normal [(3, AV.box [bsl cf F, bsl cb B]), (4, AV.box [ub d, it i]), (5, AV.box [ub e, it k]), (6, AV.box [niln, niln]), (9, AV.sl Mode.fresh 30 (some (List.length (stkAt d i F B))) (List.map Idd.enc (stkAt d i F B))), (10, AV.sl Mode.fresh 30 (some (List.length (stkAt e k F B))) (List.map Idd.enc (stkAt e k F B))), (11, AV.sl Mode.own 30 none (List.map Idd.enc (stkAt e k F B ++ stkAt d i F B)))], Tri Try.prog (cxN (68 : Nat) (0 : Nat)) (codeAt Try.f40 (12 : Nat)) [(3, AV.box [bsl cf F, bsl cb B]), (4, AV.box [ub d, it i]), (5, AV.box [ub e, it k]), (6, AV.box [niln, niln]), (9, AV.sl Mode.fresh 30 (some (List.length (stkAt d i F B))) (List.map Idd.enc (stkAt d i F B))), (10, AV.sl Mode.fresh 30 (some (List.length (stkAt e k F B))) (List.map Idd.enc (stkAt e k F B))), (11, AV.sl Mode.own 30 none (List.map Idd.enc (stkAt e k F B ++ stkAt d i F B)))] Ex.normal [(3, AV.box [bsl cf F, bsl cb B]), (4, AV.box [ub d, it i]), (5, AV.box [ub e, it k]), (6, AV.box [niln, niln]), (11, AV.sl Mode.own 30 none (List.map Idd.enc (jnL d (stkAt d i F B) (stkAt e k F B))))], Tri Try.prog (cxN (68 : Nat) (0 : Nat)) (codeAt Try.f40 (14 : Nat)) [(3, AV.box [bsl cf F, bsl cb B]), (4, AV.box [ub d, it i]), (5, AV.box [ub e, it k]), (6, AV.box [niln, niln]), (11, AV.sl Mode.own 30 none (List.map Idd.enc (jnL d (stkAt d i F B) (stkAt e k F B))))] Ex.normal [(6, AV.box [AV.sl Mode.fresh 62 (some (List.length (halfT (joinT F B d i e k (jnL d (stkAt d i F B) (stkAt e k F B))) (0 : Nat)))) (List.map FW (halfT (joinT F B d i e k (jnL d (stkAt d i F B) (stkAt e k F B))) (0 : Nat))), AV.sl Mode.fresh 62 (some (List.length (halfT (joinT F B d i e k (jnL d (stkAt d i F B) (stkAt e k F B))) (40 : Nat)))) (List.map FW (halfT (joinT F B d i e k (jnL d (stkAt d i F B) (stkAt e k F B))) (40 : Nat)))]), (7, it 0)]]) (base 68 0) Try.func40 rfl (by simp) rfl (by kernel_rfl)  (allp (by (first | rw [view_yn] | rw [view_two] | rw [view_twoI] | rw [view_beds] | rw [view_frW] | rw [view_frN] | rw [view_twoF] | skip); apply chk_c <;> (first | assumption | rfl | (simp at * <;> omega))) (allp g0 (allp (by apply nck_c <;> (first | assumption | rfl | (simp at * <;> omega))) (allp g1 (allp g1 (allp (by apply nck_c <;> (first | assumption | rfl | (simp at * <;> omega))) (allp g1 (allp g1 (allp g2 (allp g2 (allp g2 (allp g2 (allp g2 (allp g2 (allp g3 (allp (by (first | rw [view_yn] | rw [view_two] | rw [view_twoI] | rw [view_beds] | rw [view_frW] | rw [view_frN] | rw [view_twoF] | skip); apply ndlAt_s <;> (first | assumption | rfl | (simp at * <;> omega))) (allp (by (first | rw [view_yn] | rw [view_two] | rw [view_twoI] | rw [view_beds] | rw [view_frW] | rw [view_frN] | rw [view_twoF] | skip); apply ndlAt_s <;> (first | assumption | rfl | (simp at * <;> omega))) (allp g4 (allp g5 (allp (by first | (apply chk_c <;> (first | assumption | rfl | (simp at * <;> omega))) | (apply nck_c <;> (first | assumption | rfl | (simp at * <;> omega))) | (apply ndlAt_s <;> (first | assumption | rfl | (simp at * <;> omega))) | (apply j11_c <;> (first | assumption | rfl | (simp at * <;> omega))) | (refine Tri.weak [(3, .keep), (4, .keep), (5, .keep), (6, .keep), (9, .keep), (10, .keep)] ?_; apply j11_c <;> (first | assumption | rfl | (simp at * <;> omega))) | (apply j12_c <;> (first | assumption | rfl | (simp at * <;> omega))) | (refine Tri.weak [(3, .keep), (4, .keep), (5, .keep), (6, .keep), (9, .keep), (10, .keep), (11, .keep)] ?_; apply j12_c <;> (first | assumption | rfl | (simp at * <;> omega))) | (apply j14_c <;> (first | assumption | rfl | (simp at * <;> omega))) | (refine Tri.weak [(3, .keep), (4, .keep), (5, .keep), (6, .keep), (11, .keep)] ?_; apply j14_c <;> (first | assumption | rfl | (simp at * <;> omega)))) (allp (by first | (apply chk_c <;> (first | assumption | rfl | (simp at * <;> omega))) | (apply nck_c <;> (first | assumption | rfl | (simp at * <;> omega))) | (apply ndlAt_s <;> (first | assumption | rfl | (simp at * <;> omega))) | (apply j11_c <;> (first | assumption | rfl | (simp at * <;> omega))) | (refine Tri.weak [(3, .keep), (4, .keep), (5, .keep), (6, .keep), (9, .keep), (10, .keep)] ?_; apply j11_c <;> (first | assumption | rfl | (simp at * <;> omega))) | (apply j12_c <;> (first | assumption | rfl | (simp at * <;> omega))) | (refine Tri.weak [(3, .keep), (4, .keep), (5, .keep), (6, .keep), (9, .keep), (10, .keep), (11, .keep)] ?_; apply j12_c <;> (first | assumption | rfl | (simp at * <;> omega))) | (apply j14_c <;> (first | assumption | rfl | (simp at * <;> omega))) | (refine Tri.weak [(3, .keep), (4, .keep), (5, .keep), (6, .keep), (11, .keep)] ?_; apply j14_c <;> (first | assumption | rfl | (simp at * <;> omega)))) (allp (by first | (apply chk_c <;> (first | assumption | rfl | (simp at * <;> omega))) | (apply nck_c <;> (first | assumption | rfl | (simp at * <;> omega))) | (apply ndlAt_s <;> (first | assumption | rfl | (simp at * <;> omega))) | (apply j11_c <;> (first | assumption | rfl | (simp at * <;> omega))) | (refine Tri.weak [(3, .keep), (4, .keep), (5, .keep), (6, .keep), (9, .keep), (10, .keep)] ?_; apply j11_c <;> (first | assumption | rfl | (simp at * <;> omega))) | (apply j12_c <;> (first | assumption | rfl | (simp at * <;> omega))) | (refine Tri.weak [(3, .keep), (4, .keep), (5, .keep), (6, .keep), (9, .keep), (10, .keep), (11, .keep)] ?_; apply j12_c <;> (first | assumption | rfl | (simp at * <;> omega))) | (apply j14_c <;> (first | assumption | rfl | (simp at * <;> omega))) | (refine Tri.weak [(3, .keep), (4, .keep), (5, .keep), (6, .keep), (11, .keep)] ?_; apply j14_c <;> (first | assumption | rfl | (simp at * <;> omega)))) allp_nil))))))))))))))))))))))
end Tst
end

section
open Go Go.Lf Go.Proofs
namespace Tst
def joinV (F B : List Stk) (d i e k : Int) : AV :=
  if chkV F B != 0 then nilR (chkV F B) else if !ndV d i || !ndV e k || d == e then nilR 1
  else if (stkAt d i F B).length = 0 then nilR 13 else if 4 < (stkAt d i F B).length + (stkAt e k F B).length then nilR 9
  else bedsR (halfT (joinT F B d i e k (jnL d (stkAt d i F B) (stkAt e k F B))) 0) (halfT (joinT F B d i e k (jnL d (stkAt d i F B) (stkAt e k F B))) 40)
theorem jnL_len (d : Int) (l m : List Idd) : (jnL d l m).length = l.length + m.length := by
  unfold jnL
  split <;> simp <;> omega
theorem itms_mem_F {F B : List Stk} (hF : F.length ≤ 40) {s : Stk} (h : s ∈ F) : ∃ t ∈ itms F B, t.2.2 = s := by
  obtain ⟨j, hj, rfl⟩ := List.mem_iff_getElem.1 h
  refine ⟨(0, (j : Int) + 1, F[j]), List.mem_append.2 (.inl (List.mem_map.2 ⟨(F[j], j), ?_, rfl⟩)), rfl⟩
  rw [List.take_of_length_le hF]
  exact List.mem_zipIdx_iff_getElem?.2 (by simp [hj])
theorem itms_mem_B {F B : List Stk} (hB : B.length ≤ 40) {s : Stk} (h : s ∈ B) : ∃ t ∈ itms F B, t.2.2 = s := by
  obtain ⟨j, hj, rfl⟩ := List.mem_iff_getElem.1 h
  refine ⟨(1, (j : Int) + 1, B[j]), List.mem_append.2 (.inr (List.mem_map.2 ⟨(B[j], j), ?_, rfl⟩)), rfl⟩
  rw [List.take_of_length_le hB]
  exact List.mem_zipIdx_iff_getElem?.2 (by simp [hj])
theorem stkAt_len {F B : List Stk} {n : Nat} (hf : ∀ s ∈ F, s.l.length ≤ n) (hb : ∀ s ∈ B, s.l.length ≤ n) (d i : Int) : (stkAt d i F B).length ≤ n := by
  unfold stkAt stackOf
  split
  · split
    · have key : ∀ l : List Stk, (∀ s ∈ l, s.l.length ≤ n) → ∀ j, (l.getD j default).l.length ≤ n := by
        intro l hl j
        rw [List.getD_eq_getElem?_getD]
        cases hj : l[j]? with
        | none => exact Nat.zero_le _
        | some s => exact hl s (List.mem_of_getElem? hj)
      first | exact key _ hf _ | exact key _ hb _
    · simp
  · split
    · have key : ∀ l : List Stk, (∀ s ∈ l, s.l.length ≤ n) → ∀ j, (l.getD j default).l.length ≤ n := by
        intro l hl j
        rw [List.getD_eq_getElem?_getD]
        cases hj : l[j]? with
        | none => exact Nat.zero_le _
        | some s => exact hl s (List.mem_of_getElem? hj)
      first | exact key _ hf _ | exact key _ hb _
    · simp
theorem join_c (cf cb : Option Nat) (F B : List Stk) (d i e k : Int) : PureC Try.prog 40 [beds (bsl cf F) (bsl cb B), ndl d i, ndl e k] (joinV F B d i e k) := by
  unfold joinV
  cases hc : (chkV F B != 0) with
  | true => exact jnA_0 cf cb F B d i e k hc hc
  | false =>
    have hc0 : chkV F B = 0 := by simpa using hc
    obtain ⟨hF, hB, hA⟩ := chk_len hc0
    have hf : ∀ s ∈ F, s.l.length ≤ 4 := fun s hs => by obtain ⟨t, ht, rfl⟩ := itms_mem_F (B := B) hF hs; exact hA t ht
    have hb : ∀ s ∈ B, s.l.length ≤ 4 := fun s hs => by obtain ⟨t, ht, rfl⟩ := itms_mem_B (F := F) hB hs; exact hA t ht
    cases v1 : ndV d i with
    | false => exact jnB_0 cf cb F B d i e k hc hc (by rw [v1]; rfl)
    | true =>
      have hn : ((if ndV d i = true then (0 : Int) else (1 : Int)) != (0 : Int)) = false := by rw [v1]; rfl
      cases v2 : ndV e k with
      | false => exact jnB_1 cf cb F B d i e k hc hc hn (by rw [v2]; rfl)
      | true =>
        have hn2 : ((if ndV e k = true then (0 : Int) else (1 : Int)) != (0 : Int)) = false := by rw [v2]; rfl
        cases hne : (d == e) with
        | true => exact jnB_2 cf cb F B d i e k hc hc hn hn2 hne
        | false =>
          obtain ⟨hd, h1, h2⟩ := ndV_in v1
          obtain ⟨he, h3, h4⟩ := ndV_in v2
          have hl := stkAt_len hf hb d i
          have hm := stkAt_len hf hb e k
          have hf' : ∀ s ∈ F, s.l.length ≤ 4294967296 := fun s hs => by have := hf s hs; omega
          have hb' : ∀ s ∈ B, s.l.length ≤ 4294967296 := fun s hs => by have := hb s hs; omega
          have hA' : ∀ t ∈ itms F B, t.2.2.l.length ≤ 4294967296 := fun t ht => by have := hA t ht; omega
          have hJ : (jnL d (stkAt d i F B) (stkAt e k F B)).length ≤ 4294967296 := by rw [jnL_len]; omega
          have hlen := withT_len4 (F := F) (B := B) (d := d) (i := i) (l := []) (n := 4) hA (by simp)
          have hW : ∀ t ∈ itms (stkW (halfT (withT F B d i []) 0)) (stkW (halfT (withT F B d i []) 40)), t.2.2.l.length ≤ 4294967296 := by
            intro t ht
            rcases itms_stkW_mem ht with h | h <;> have := hlen _ (halfT_mem h) <;> omega
          have hw : IntKind.wrap IntKind.i64 ((((stkAt d i F B).map Idd.enc).length : Int) + (((stkAt e k F B).map Idd.enc).length : Int)) = (((stkAt d i F B).length + (stkAt e k F B).length : Nat) : Int) := by
            rw [wrap_id' (by omega) (by simp; omega), List.length_map, List.length_map]; omega
          by_cases g4 : (stkAt d i F B).length = 0
          · simp only [if_pos g4]
            exact jnE_0 cf cb F B d i e k hc hn hn2 hne v1 v2 hf' hb' (by omega) (by omega) hd h1 h2 he h3 h4 hA' hJ hW hc hn hn2 hne (by rw [List.length_map, g4]; rfl)
          · simp only [if_neg g4]
            have g4' : ((((stkAt d i F B).map Idd.enc).length : Int) == 0) = false := by rw [List.length_map, beq_eq_false_iff_ne]; omega
            by_cases g5 : 4 < (stkAt d i F B).length + (stkAt e k F B).length
            · simp only [if_pos g5]
              exact jnE_1 cf cb F B d i e k hc hn hn2 hne v1 v2 hf' hb' (by omega) (by omega) hd h1 h2 he h3 h4 hA' hJ hW hc hn hn2 hne g4' (by rw [hw]; exact decide_eq_true (by omega))
            · simp only [if_neg g5]
              have h := jnE_2 cf cb F B d i e k hc hn hn2 hne v1 v2 hf' hb' (by omega) (by omega) hd h1 h2 he h3 h4 hA' hJ hW hc hn hn2 hne g4' (by rw [hw]; exact decide_eq_false (by omega))
              rw [smap_FW, smap_FW] at h
              exact h
end Tst
end

section
open Go Go.Lf Go.Proofs
namespace Tst
set_option maxHeartbeats 0
theorem f2_len {α β : Type} {R : α → β → Prop} {l : List α} {m : List β} (h : F2 R l m) : l.length = m.length := by
  induction h with
  | nil => rfl
  | cons _ _ ih => simp [ih]
theorem Le.toAny {P : Program} {m : Lf.Mode} (hm : m ≠ .own) {e : TypeId} {c : Option Nat} {xs ys : List AV} (hl : xs.length = ys.length) (hu : ∀ sz, Uni sz xs → Uni sz ys) (hf : F2 (Le P) (flat xs) (flat ys)) : Le P (.sl m e c xs) (.sl .any e c ys) := by
  intro B0 w S n v O hr
  obtain ⟨n, rfl⟩ := hr.pos
  have key : ∀ m', Shs P B0 w S (Rv P B0 w S n) m' e c xs v O → Shs P B0 w S (Rv P B0 w S n) .any e c ys v O := by
    intro m' ⟨A, k, hv, hk, hm, hc, hx, hz, h⟩
    refine ⟨A, k, by rw [hv, hl], by omega, hm, hc, hu _ hx, hz, fun hne => ?_⟩
    obtain ⟨g, off, C, T, fr, h1, h2, h3, h4, h5, h6⟩ := h (fun e => hne (List.eq_nil_of_length_eq_zero (by rw [← hl, e]; rfl)))
    have hfl : (flat xs).length = (flat ys).length := f2_len hf
    exact ⟨g, off, C, T, fr, h1, h2, fun h => by (cases h), h4, by rw [← hfl]; exact h5, by rw [← hfl]; exact Rc.le2 (ys := flat ys) h6 hf⟩
  cases m with
  | own => exact absurd rfl hm
  | fresh => exact key _ hr
  | any => exact key _ hr
theorem flat_ones {xs : List AV} (h : ∀ x ∈ xs, x.ecells = [x]) : flat xs = xs := by
  induction xs with
  | nil => rfl
  | cons x xs ih => rw [flat_cons, h x (by simp), ih fun y hy => h y (by simp [hy])]; rfl
theorem F2.map2 {α β γ : Type} {R : α → β → Prop} {f : γ → α} {g : γ → β} (h : ∀ x, R (f x) (g x)) : ∀ l : List γ, F2 R (l.map f) (l.map g)
  | [] => .nil
  | x :: l => .cons (h x) (F2.map2 h l)
theorem F2.rfl' {P : Program} : ∀ l : List AV, F2 (Le P) l l
  | [] => .nil
  | x :: l => .cons (Le.refl x) (F2.rfl' l)
theorem Le.fwE {P : Program} (l : List Idd) : Le P (FW l) (Stk.enc ⟨some l.length, l⟩) := Le.toAny (by simp) rfl (fun _ h => h) (F2.rfl' _)
theorem Le.frW {P : Program} (x : List (List Idd)) : Le P (frW x) (bsl (some x.length) (stkW x)) := by
  have e : (stkW x).map Stk.enc = x.map fun l => Stk.enc ⟨some l.length, l⟩ := by unfold stkW; rw [List.map_map]; rfl
  show Le P (.sl .fresh 62 (some x.length) (x.map FW)) (.sl .any 62 (some x.length) ((stkW x).map Stk.enc))
  rw [e]
  refine Le.toAny (by simp) (by simp) (fun sz h y hy => ?_) ?_
  · obtain ⟨l, hl, rfl⟩ := List.mem_map.1 hy
    have := h (FW l) (List.mem_map.2 ⟨l, hl, rfl⟩)
    exact this
  · rw [flat_ones (fun y hy => by obtain ⟨l, _, rfl⟩ := List.mem_map.1 hy; rfl), flat_ones (fun y hy => by obtain ⟨l, _, rfl⟩ := List.mem_map.1 hy; rfl)]
    exact F2.map2 (fun l => Le.fwE l) x
abbrev ia : Idd := ⟨1, 0⟩
abbrev ib : Idd := ⟨1, 1⟩
abbrev ic : Idd := ⟨2, 0⟩
abbrev XF : List Stk := [⟨some 0, []⟩, ⟨some 2, [ia, ib]⟩]
abbrev XB : List Stk := [⟨some 0, []⟩, ⟨some 1, [ic]⟩]
abbrev bX : AV := beds (bsl (some 2) XF) (bsl (some 2) XB)
abbrev YB : List Stk := [⟨some 0, []⟩, ⟨some 3, [ic, ia, ib]⟩]
abbrev bY : AV := beds (bsl (some 0) []) (bsl (some 2) YB)
abbrev bZ : AV := beds (bsl (some 2) YB) (bsl (some 0) [])
abbrev VF : List Stk := [⟨some 0, []⟩, ⟨some 1, [ib]⟩]
abbrev VB : List Stk := [⟨some 0, []⟩, ⟨some 1, [ic]⟩]
abbrev bV : AV := beds (bsl (some 2) VF) (bsl (some 2) VB)
theorem x_find : PureC Try.prog 35 [bX, .agg [ub 2, it 0]] (.tup [ndl 1 2, it 0]) :=
  fdy_0 (some 2) (some 2) XF XB ic (by decide) [(0, 1, ⟨some 0, []⟩), (0, 2, ⟨some 2, [ia, ib]⟩), (1, 1, ⟨some 0, []⟩)] (1, 2, ⟨some 1, [ic]⟩) [] rfl (by decide) (by decide)
theorem x_chk : PureC Try.prog 31 [bX] (it 0) := chk_c (some 2) (some 2) XF XB
theorem x_at2 : PureC Try.prog 33 [bX, ndl 0 2] (iow (some 2) [ia, ib]) := ndlAt_v 0 2 (some 2) (some 2) XF XB rfl (by decide) (by decide)
theorem x_at1 : PureC Try.prog 33 [bX, ndl 0 1] (iow (some 0) []) := ndlAt_v 0 1 (some 2) (some 2) XF XB rfl (by decide) (by decide)
theorem x_cnt : PureC Try.prog 36 [bX] (it 3) := cn_0 (some 2) (some 2) XF XB (by decide)
theorem x_jn1 : PureC Try.prog 40 [bX, ndl 0 2, ndl 1 2] (.tup [.agg [.sl .fresh 62 (some 0) [], .sl .fresh 62 (some 2) [.sl .fresh 30 (some 0) [], .sl .fresh 30 (some 3) [Idd.enc ic, Idd.enc ia, Idd.enc ib]]], it 0]) := join_c (some 2) (some 2) XF XB 0 2 1 2
theorem x_jn2 : PureC Try.prog 40 [bX, ndl 1 2, ndl 0 2] (.tup [.agg [.sl .fresh 62 (some 2) [.sl .fresh 30 (some 0) [], .sl .fresh 30 (some 3) [Idd.enc ic, Idd.enc ia, Idd.enc ib]], .sl .fresh 62 (some 0) []], it 0]) := join_c (some 2) (some 2) XF XB 1 2 0 2
theorem x_jn3 : PureC Try.prog 40 [bX, ndl 0 1, ndl 1 1] (nilR 13) := join_c (some 2) (some 2) XF XB 0 1 1 1
theorem x_jn4 : PureC Try.prog 40 [bX, ndl 0 2, ndl 0 3] (nilR 1) := join_c (some 2) (some 2) XF XB 0 2 0 3
theorem x_set1 : PureC Try.prog 38 [bX, ndl 0 1, isl (some 1) [ic]] (nilR 8) := set_c (some 2) (some 2) (some 1) XF XB 0 1 [ic] (by decide)
theorem x_set2 : PureC Try.prog 38 [bX, ndl 0 2, isl (some 1) [ib]] (.tup [.agg [.sl .fresh 62 (some 2) [.sl .fresh 30 (some 0) [], .sl .fresh 30 (some 1) [Idd.enc ib]], .sl .fresh 62 (some 2) [.sl .fresh 30 (some 0) [], .sl .fresh 30 (some 1) [Idd.enc ic]]], it 0]) := set_c (some 2) (some 2) (some 1) XF XB 0 2 [ib] (by decide)
theorem y_at : PureC Try.prog 33 [bY, ndl 1 2] (iow (some 3) [ic, ia, ib]) := ndlAt_v 1 2 (some 0) (some 2) [] YB rfl (by decide) (by decide)
theorem z_at : PureC Try.prog 33 [bZ, ndl 0 2] (iow (some 3) [ic, ia, ib]) := ndlAt_v 0 2 (some 2) (some 0) YB [] rfl (by decide) (by decide)
theorem v_at : PureC Try.prog 33 [bV, ndl 0 2] (iow (some 1) [ib]) := ndlAt_v 0 2 (some 2) (some 2) VF VB rfl (by decide) (by decide)
theorem v_cnt : PureC Try.prog 36 [bV] (it 2) := cn_0 (some 2) (some 2) VF VB (by decide)
theorem s_y : PureC Try.prog 41 [isl (some 3) [ic, ia, ib], isl (some 3) [ic, ia, ib]] (it 1) := s41_c 3 (some 3) [ic, ia, ib] [ic, ia, ib] (by decide)
theorem s_v : PureC Try.prog 41 [isl (some 1) [ib], isl (some 1) [ib]] (it 1) := s41_c 1 (some 1) [ib] [ib] (by decide)
abbrev tXF : AV := .sl .any 62 (some 2) [.sl .any 30 (some 0) [], .sl .any 30 (some 2) [Idd.enc ia, Idd.enc ib]]
abbrev tXB : AV := .sl .any 62 (some 2) [.sl .any 30 (some 0) [], .sl .any 30 (some 1) [Idd.enc ic]]
abbrev tYB : AV := .sl .any 62 (some 2) [.sl .any 30 (some 0) [], .sl .any 30 (some 3) [Idd.enc ic, Idd.enc ia, Idd.enc ib]]
abbrev tVF : AV := .sl .any 62 (some 2) [.sl .any 30 (some 0) [], .sl .any 30 (some 1) [Idd.enc ib]]
abbrev tVB : AV := .sl .any 62 (some 2) [.sl .any 30 (some 0) [], .sl .any 30 (some 1) [Idd.enc ic]]
abbrev tN : AV := .sl .any 62 (some 0) []
abbrev eX : AV := .box [tXF, tXB]
abbrev eY : AV := .box [tN, tYB]
abbrev eZ : AV := .box [tYB, tN]
abbrev eV : AV := .box [tVF, tVB]
end Tst
end

section
open Go Go.Lf Go.Proofs
namespace Tst
set_option maxHeartbeats 0
theorem l0_0 (u : Nat) : Tri Try.prog (cxN 174 0) (regAt Try.f37 0) ([] ) (Ex.normal) ([]) :=
  evA_ok (H := h37) (ans := [.c]) (ps := []) (ans' := []) (base 174 0) cxA_K.1 cxA_K.2 _ (by kernel_rfl)  allp_nil
theorem l1_0 (u : Nat) : Tri Try.prog (cxN 174 0) (regAt Try.f37 1) ([] ) (Ex.normal) ([(1, AV.box [ub 1, it 0]), (2, AV.box [ub 1, it 1]), (3, AV.box [ub 2, it 0])]) :=
  evA_ok (H := h37) (ans := [.c, .c, .c, .c, .c, .c, .c, .c, .c]) (ps := []) (ans' := []) (base 174 0) cxA_K.1 cxA_K.2 _ (by kernel_rfl)  allp_nil
theorem l3_0 (u : Nat) : Tri Try.prog (cxN 174 0) (regAt Try.f37 3) ([(1, .box [ub 1, it 0]), (2, .box [ub 1, it 1]), (3, .box [ub 2, it 0]), (4, eX)] ) (Ex.normal) ([(1, AV.box [ub 1, it 0]), (2, AV.box [ub 1, it 1]), (3, AV.box [ub 2, it 0]), (4, eX), (5, AV.box [ub 0, it 1]), (6, AV.box [ub 0, it 2]), (7, AV.box [ub 1, it 2])]) :=
  evA_ok (H := h37) (ans := [.c, .c, .c, .c, .c, .c, .c, .c, .c]) (ps := []) (ans' := []) (base 174 0) cxA_K.1 cxA_K.2 _ (by kernel_rfl)  allp_nil
theorem l4_0 (u : Nat) : Tri Try.prog (cxN 174 0) (regAt Try.f37 4) ([(1, .box [ub 1, it 0]), (2, .box [ub 1, it 1]), (3, .box [ub 2, it 0]), (4, eX), (5, .box [ub 0, it 1]), (6, .box [ub 0, it 2]), (7, .box [ub 1, it 2])] ) (Ex.normal) ([(1, AV.box [ub 1, it 0]), (2, AV.box [ub 1, it 1]), (3, AV.box [ub 2, it 0]), (4, eX), (5, AV.box [ub 0, it 1]), (6, AV.box [ub 0, it 2]), (7, AV.box [ub 1, it 2]), (8, AV.box [ub 1, it 2]), (9, it 0)]) :=
  evA_ok (H := h37) (ans := [.c, .c, .r (AV.tup [AV.agg [ub 1, it 2], it 0]), .c, .c, .c, .c, .c, .c, .c, .c]) (ps := [PureC Try.prog 35 [view (AV.agg [tXF, tXB]), AV.agg [ub 2, it 0]] (AV.tup [AV.agg [ub 1, it 2], it 0])]) (ans' := []) (base 174 0) cxA_K.1 cxA_K.2 _ (by kernel_rfl)  (allp (by (first | rw [view_yn] | rw [view_two] | rw [view_twoI] | rw [view_beds] | rw [view_frW] | rw [view_frN] | rw [view_twoF] | skip); apply x_find <;> (first | assumption | rfl | (simp at * <;> omega))) allp_nil)
theorem l5_0 (u : Nat) (g0 : AV.sl Mode.own 30 (some 2) [Idd.enc ia, Idd.enc ib] = AV.sl Mode.own 30 (some 2) (List.map Idd.enc [ia, { y := Idd.y ib, n := Idd.n ib }])) (g1 : AV.sl Mode.own 30 (some 0) [] = AV.sl Mode.own 30 (some 0) (List.map Idd.enc [])) : Tri Try.prog (cxN 174 0) (regAt Try.f37 5) ([(1, .box [ub 1, it 0]), (2, .box [ub 1, it 1]), (3, .box [ub 2, it 0]), (4, eX), (5, .box [ub 0, it 1]), (6, .box [ub 0, it 2]), (7, .box [ub 1, it 2]), (8, .box [ub 1, it 2]), (9, it 0)] ) (Ex.normal) ([(1, AV.box [ub 1, it 0]), (2, AV.box [ub 1, it 1]), (3, AV.box [ub 2, it 0]), (4, eX), (5, AV.box [ub 0, it 1]), (6, AV.box [ub 0, it 2]), (7, AV.box [ub 1, it 2]), (67, bb ((0 : Int) != (0 : Int)))]) :=
  evA_ok (H := h37) (ans := [.c, .r (it 0), .c, .c, .c, .c, .c, .c, .c, .c, .c, .r (AV.sl Mode.own 30 (some 2) [Idd.enc ia, Idd.enc ib]), .c, .r (AV.sl Mode.own 30 (some 2) (List.map Idd.enc [ia, { y := Idd.y ib, n := Idd.n ib }])), .c, .c, .c, .c, .c, .c, .c, .c, .c, .c, .c, .c, .r (AV.sl Mode.own 30 (some 0) []), .c, .r (AV.sl Mode.own 30 (some 0) (List.map Idd.enc [])), .c, .c, .c, .c, .c, .c, .c, .c, .c, .c, .r (it 3), .c, .c, .c, .c, .c, .c, .c, .c, .c, .c, .c, .c, .c, .c, .c, .c, .c, .c, .c, .c, .c, .c]) (ps := [PureC Try.prog 31 [view (AV.agg [tXF, tXB])] (it 0), PureC Try.prog 33 [view (AV.agg [tXF, tXB]), AV.agg [ub 0, it 2]] (AV.sl Mode.own 30 (some 2) [Idd.enc ia, Idd.enc ib]), AV.sl Mode.own 30 (some 2) [Idd.enc ia, Idd.enc ib] = AV.sl Mode.own 30 (some 2) (List.map Idd.enc [ia, { y := Idd.y ib, n := Idd.n ib }]), PureC Try.prog 33 [view (AV.agg [tXF, tXB]), AV.agg [ub 0, it 1]] (AV.sl Mode.own 30 (some 0) []), AV.sl Mode.own 30 (some 0) [] = AV.sl Mode.own 30 (some 0) (List.map Idd.enc []), PureC Try.prog 36 [view (AV.agg [tXF, tXB])] (it 3)]) (ans' := []) (base 174 0) cxA_K.1 cxA_K.2 _ (by kernel_rfl)  (allp (by (first | rw [view_yn] | rw [view_two] | rw [view_twoI] | rw [view_beds] | rw [view_frW] | rw [view_frN] | rw [view_twoF] | skip); apply x_chk <;> (first | assumption | rfl | (simp at * <;> omega))) (allp (by (first | rw [view_yn] | rw [view_two] | rw [view_twoI] | rw [view_beds] | rw [view_frW] | rw [view_frN] | rw [view_twoF] | skip); first | (apply x_at2 <;> (first | assumption | rfl | (simp at * <;> omega))) | (apply x_at1 <;> (first | assumption | rfl | (simp at * <;> omega)))) (allp g0 (allp (by (first | rw [view_yn] | rw [view_two] | rw [view_twoI] | rw [view_beds] | rw [view_frW] | rw [view_frN] | rw [view_twoF] | skip); first | (apply x_at2 <;> (first | assumption | rfl | (simp at * <;> omega))) | (apply x_at1 <;> (first | assumption | rfl | (simp at * <;> omega)))) (allp g1 (allp (by (first | rw [view_yn] | rw [view_two] | rw [view_twoI] | rw [view_beds] | rw [view_frW] | rw [view_frN] | rw [view_twoF] | skip); apply x_cnt <;> (first | assumption | rfl | (simp at * <;> omega))) allp_nil))))))
theorem l7_0 (u : Nat) (g0 : AV.agg [AV.sl Mode.fresh 62 (some 0) [], AV.sl Mode.fresh 62 (some 2) [AV.sl Mode.fresh 30 (some 0) [], AV.sl Mode.fresh 30 (some 3) [Idd.enc ic, Idd.enc ia, Idd.enc ib]]] = AV.agg [AV.sl Mode.fresh 62 (some 0) (List.map Stk.enc []), AV.sl Mode.fresh 62 (some 2) [AV.sl Mode.fresh 30 (some 0) [], AV.sl Mode.fresh 30 (some 3) [Idd.enc ic, Idd.enc ia, Idd.enc ib]]]) : Tri Try.prog (cxN 174 0) (regAt Try.f37 7) ([(1, .box [ub 1, it 0]), (2, .box [ub 1, it 1]), (3, .box [ub 2, it 0]), (4, eX), (5, .box [ub 0, it 1]), (6, .box [ub 0, it 2]), (7, .box [ub 1, it 2])] ) (Ex.normal) ([(1, AV.box [ub 1, it 0]), (2, AV.box [ub 1, it 1]), (3, AV.box [ub 2, it 0]), (4, eX), (5, AV.box [ub 0, it 1]), (6, AV.box [ub 0, it 2]), (7, AV.box [ub 1, it 2]), (9, it 0), (10, AV.box [AV.sl Mode.fresh 62 (some 0) [], AV.sl Mode.fresh 62 (some 2) [AV.sl Mode.fresh 30 (some 0) [], AV.sl Mode.fresh 30 (some 3) [Idd.enc ic, Idd.enc ia, Idd.enc ib]]])]) :=
  evA_ok (H := h37) (ans := [.c, .c, .c, .r (AV.tup [AV.agg [AV.sl Mode.fresh 62 (some 0) [], AV.sl Mode.fresh 62 (some 2) [AV.sl Mode.fresh 30 (some 0) [], AV.sl Mode.fresh 30 (some 3) [Idd.enc ic, Idd.enc ia, Idd.enc ib]]], it 0]), .c, .c, .c, .r (AV.agg [AV.sl Mode.fresh 62 (some 0) (List.map Stk.enc []), AV.sl Mode.fresh 62 (some 2) [AV.sl Mode.fresh 30 (some 0) [], AV.sl Mode.fresh 30 (some 3) [Idd.enc ic, Idd.enc ia, Idd.enc ib]]]), .c, .c, .c, .c]) (ps := [PureC Try.prog 40 [view (AV.agg [tXF, tXB]), AV.agg [ub 0, it 2], AV.agg [ub 1, it 2]] (AV.tup [AV.agg [AV.sl Mode.fresh 62 (some 0) [], AV.sl Mode.fresh 62 (some 2) [AV.sl Mode.fresh 30 (some 0) [], AV.sl Mode.fresh 30 (some 3) [Idd.enc ic, Idd.enc ia, Idd.enc ib]]], it 0]), AV.agg [AV.sl Mode.fresh 62 (some 0) [], AV.sl Mode.fresh 62 (some 2) [AV.sl Mode.fresh 30 (some 0) [], AV.sl Mode.fresh 30 (some 3) [Idd.enc ic, Idd.enc ia, Idd.enc ib]]] = AV.agg [AV.sl Mode.fresh 62 (some 0) (List.map Stk.enc []), AV.sl Mode.fresh 62 (some 2) [AV.sl Mode.fresh 30 (some 0) [], AV.sl Mode.fresh 30 (some 3) [Idd.enc ic, Idd.enc ia, Idd.enc ib]]]]) (ans' := []) (base 174 0) cxA_K.1 cxA_K.2 _ (by kernel_rfl)  (allp (by (first | rw [view_yn] | rw [view_two] | rw [view_twoI] | rw [view_beds] | rw [view_frW] | rw [view_frN] | rw [view_twoF] | skip); apply x_jn1 <;> (first | assumption | rfl | (simp at * <;> omega))) (allp g0 allp_nil))
theorem l8_0 (u : Nat) (g0 : AV.agg [AV.sl Mode.fresh 62 (some 2) [AV.sl Mode.fresh 30 (some 0) [], AV.sl Mode.fresh 30 (some 3) [Idd.enc ic, Idd.enc ia, Idd.enc ib]], AV.sl Mode.fresh 62 (some 0) []] = AV.agg [AV.sl Mode.fresh 62 (some 2) [AV.sl Mode.fresh 30 (some 0) [], AV.sl Mode.fresh 30 (some 3) [Idd.enc ic, Idd.enc ia, Idd.enc ib]], AV.sl Mode.fresh 62 (some 0) (List.map Stk.enc [])]) : Tri Try.prog (cxN 174 0) (regAt Try.f37 8) ([(1, .box [ub 1, it 0]), (2, .box [ub 1, it 1]), (3, .box [ub 2, it 0]), (4, eX), (5, .box [ub 0, it 1]), (6, .box [ub 0, it 2]), (7, .box [ub 1, it 2]), (9, it 0), (10, eY)] ) (Ex.normal) ([(1, AV.box [ub 1, it 0]), (2, AV.box [ub 1, it 1]), (3, AV.box [ub 2, it 0]), (4, eX), (5, AV.box [ub 0, it 1]), (6, AV.box [ub 0, it 2]), (7, AV.box [ub 1, it 2]), (9, it 0), (10, eY), (11, AV.box [AV.sl Mode.fresh 62 (some 2) [AV.sl Mode.fresh 30 (some 0) [], AV.sl Mode.fresh 30 (some 3) [Idd.enc ic, Idd.enc ia, Idd.enc ib]], AV.sl Mode.fresh 62 (some 0) []]), (12, it 0)]) :=
  evA_ok (H := h37) (ans := [.c, .c, .c, .r (AV.tup [AV.agg [AV.sl Mode.fresh 62 (some 2) [AV.sl Mode.fresh 30 (some 0) [], AV.sl Mode.fresh 30 (some 3) [Idd.enc ic, Idd.enc ia, Idd.enc ib]], AV.sl Mode.fresh 62 (some 0) []], it 0]), .c, .c, .c, .r (AV.agg [AV.sl Mode.fresh 62 (some 2) [AV.sl Mode.fresh 30 (some 0) [], AV.sl Mode.fresh 30 (some 3) [Idd.enc ic, Idd.enc ia, Idd.enc ib]], AV.sl Mode.fresh 62 (some 0) (List.map Stk.enc [])]), .c, .c, .c, .c]) (ps := [PureC Try.prog 40 [view (AV.agg [tXF, tXB]), AV.agg [ub 1, it 2], AV.agg [ub 0, it 2]] (AV.tup [AV.agg [AV.sl Mode.fresh 62 (some 2) [AV.sl Mode.fresh 30 (some 0) [], AV.sl Mode.fresh 30 (some 3) [Idd.enc ic, Idd.enc ia, Idd.enc ib]], AV.sl Mode.fresh 62 (some 0) []], it 0]), AV.agg [AV.sl Mode.fresh 62 (some 2) [AV.sl Mode.fresh 30 (some 0) [], AV.sl Mode.fresh 30 (some 3) [Idd.enc ic, Idd.enc ia, Idd.enc ib]], AV.sl Mode.fresh 62 (some 0) []] = AV.agg [AV.sl Mode.fresh 62 (some 2) [AV.sl Mode.fresh 30 (some 0) [], AV.sl Mode.fresh 30 (some 3) [Idd.enc ic, Idd.enc ia, Idd.enc ib]], AV.sl Mode.fresh 62 (some 0) (List.map Stk.enc [])]]) (ans' := []) (base 174 0) cxA_K.1 cxA_K.2 _ (by kernel_rfl)  (allp (by (first | rw [view_yn] | rw [view_two] | rw [view_twoI] | rw [view_beds] | rw [view_frW] | rw [view_frN] | rw [view_twoF] | skip); apply x_jn2 <;> (first | assumption | rfl | (simp at * <;> omega))) (allp g0 allp_nil))
theorem l9_0 (u : Nat) : Tri Try.prog (cxN 174 0) (regAt Try.f37 9) ([(1, .box [ub 1, it 0]), (2, .box [ub 1, it 1]), (3, .box [ub 2, it 0]), (4, eX), (5, .box [ub 0, it 1]), (6, .box [ub 0, it 2]), (7, .box [ub 1, it 2]), (9, it 0), (10, eY), (11, eZ), (12, it 0)] ) (Ex.normal) ([(1, AV.box [ub 1, it 0]), (2, AV.box [ub 1, it 1]), (3, AV.box [ub 2, it 0]), (4, eX), (5, AV.box [ub 0, it 1]), (6, AV.box [ub 0, it 2]), (7, AV.box [ub 1, it 2]), (9, it 0), (10, eY), (11, eZ), (12, it 0), (14, it 13)]) :=
  evA_ok (H := h37) (ans := [.c, .c, .c, .r (AV.tup [AV.agg [niln, niln], it 13]), .c, .c, .c, .c, .c, .c, .c, .c]) (ps := [PureC Try.prog 40 [view (AV.agg [tXF, tXB]), AV.agg [ub 0, it 1], AV.agg [ub 1, it 1]] (AV.tup [AV.agg [niln, niln], it 13])]) (ans' := []) (base 174 0) cxA_K.1 cxA_K.2 _ (by kernel_rfl)  (allp (by (first | rw [view_yn] | rw [view_two] | rw [view_twoI] | rw [view_beds] | rw [view_frW] | rw [view_frN] | rw [view_twoF] | skip); apply x_jn3 <;> (first | assumption | rfl | (simp at * <;> omega))) allp_nil)
theorem l10_0 (u : Nat) : Tri Try.prog (cxN 174 0) (regAt Try.f37 10) ([(1, .box [ub 1, it 0]), (2, .box [ub 1, it 1]), (3, .box [ub 2, it 0]), (4, eX), (5, .box [ub 0, it 1]), (6, .box [ub 0, it 2]), (7, .box [ub 1, it 2]), (9, it 0), (10, eY), (11, eZ), (12, it 0), (14, it 13)] ) (Ex.normal) ([(1, AV.box [ub 1, it 0]), (2, AV.box [ub 1, it 1]), (3, AV.box [ub 2, it 0]), (4, eX), (5, AV.box [ub 0, it 1]), (6, AV.box [ub 0, it 2]), (7, AV.box [ub 1, it 2]), (9, it 0), (10, eY), (11, eZ), (12, it 0), (14, it 13), (16, it 1)]) :=
  evA_ok (H := h37) (ans := [.c, .c, .c, .r (AV.tup [AV.agg [niln, niln], it 1]), .c, .c, .c, .c, .c, .c, .c, .c]) (ps := [PureC Try.prog 40 [view (AV.agg [tXF, tXB]), AV.agg [ub 0, it 2], AV.agg [ub 0, it 3]] (AV.tup [AV.agg [niln, niln], it 1])]) (ans' := []) (base 174 0) cxA_K.1 cxA_K.2 _ (by kernel_rfl)  (allp (by (first | rw [view_yn] | rw [view_two] | rw [view_twoI] | rw [view_beds] | rw [view_frW] | rw [view_frN] | rw [view_twoF] | skip); apply x_jn4 <;> (first | assumption | rfl | (simp at * <;> omega))) allp_nil)
theorem l11_0 (u : Nat) (g0 : AV.agg [tN, tYB] = AV.agg [AV.sl Mode.any 62 (some (0 : Nat)) (List.map Stk.enc []), tYB]) (g1 : AV.sl Mode.own 30 (some 3) [Idd.enc ic, Idd.enc ia, Idd.enc ib] = AV.sl Mode.own 30 (some 3) (List.map Idd.enc [{ y := Idd.y ic, n := Idd.n ic }, ia, { y := Idd.y ib, n := Idd.n ib }])) (g2 : AV.sl Mode.own 30 (some 3) [AV.agg [ub 2, it 0], AV.agg [ub 1, it 0], AV.agg [ub 1, it 1]] = AV.sl Mode.own 30 (some (3 : Nat)) (List.map Idd.enc [{ y := (2 : Int), n := (0 : Int) }, { y := (1 : Int), n := (0 : Int) }, { y := (1 : Int), n := (1 : Int) }])) (g3 : List.getD [tN, tYB] (0 : Nat) AV.bad = AV.sl Mode.any 62 (some (0 : Nat)) (List.map Stk.enc [])) (g4 : AV.agg [tYB, tN] = AV.agg [tYB, AV.sl Mode.any 62 (some (0 : Nat)) (List.map Stk.enc [])]) : Tri Try.prog (cxN 174 0) (regAt Try.f37 11) ([(1, .box [ub 1, it 0]), (2, .box [ub 1, it 1]), (3, .box [ub 2, it 0]), (4, eX), (5, .box [ub 0, it 1]), (6, .box [ub 0, it 2]), (7, .box [ub 1, it 2]), (9, it 0), (10, eY), (11, eZ), (12, it 0), (14, it 13), (16, it 1)] ) (Ex.normal) ([(2, AV.box [ub 1, it 1]), (3, AV.box [ub 2, it 0]), (4, eX), (5, AV.box [ub 0, it 1]), (6, AV.box [ub 0, it 2]), (10, eY), (137, bb ((1 : Int) == (0 : Int)))]) :=
  evA_ok (H := h37) (ans := [.c, .c, .c, .c, .c, .c, .c, .c, .c, .c, .c, .c, .c, .c, .c, .c, .c, .c, .c, .c, .c, .c, .c, .c, .c, .r (AV.agg [AV.sl Mode.any 62 (some (0 : Nat)) (List.map Stk.enc []), tYB]), .c, .c, .c, .r (AV.sl Mode.own 30 (some 3) [Idd.enc ic, Idd.enc ia, Idd.enc ib]), .c, .r (AV.sl Mode.own 30 (some 3) (List.map Idd.enc [{ y := Idd.y ic, n := Idd.n ic }, ia, { y := Idd.y ib, n := Idd.n ib }])), .c, .c, .c, .c, .c, .c, .c, .r (AV.sl Mode.own 30 (some (3 : Nat)) (List.map Idd.enc [{ y := (2 : Int), n := (0 : Int) }, { y := (1 : Int), n := (0 : Int) }, { y := (1 : Int), n := (1 : Int) }])), .c, .r (AV.sl Mode.any 30 (some 3) (List.map Idd.enc [{ y := Idd.y ic, n := Idd.n ic }, ia, { y := Idd.y ib, n := Idd.n ib }])), .r (AV.sl Mode.any 30 (some (3 : Nat)) (List.map Idd.enc [{ y := (2 : Int), n := (0 : Int) }, { y := (1 : Int), n := (0 : Int) }, { y := (1 : Int), n := (1 : Int) }])), .r (it 1), .c, .c, .c, .c, .c, .c, .c, .c, .c, .c, .c, .r (AV.sl Mode.any 62 (some (0 : Nat)) (List.map Stk.enc [])), .c, .c, .c, .c, .c, .c, .c, .c, .c, .r (AV.agg [tYB, AV.sl Mode.any 62 (some (0 : Nat)) (List.map Stk.enc [])]), .c, .c, .c, .r (AV.sl Mode.own 30 (some 3) [Idd.enc ic, Idd.enc ia, Idd.enc ib]), .c, .r (AV.sl Mode.own 30 (some 3) (List.map Idd.enc [{ y := Idd.y ic, n := Idd.n ic }, ia, { y := Idd.y ib, n := Idd.n ib }])), .c, .c, .c, .c, .c, .c, .c, .r (AV.sl Mode.own 30 (some (3 : Nat)) (List.map Idd.enc [{ y := (2 : Int), n := (0 : Int) }, { y := (1 : Int), n := (0 : Int) }, { y := (1 : Int), n := (1 : Int) }])), .c, .r (AV.sl Mode.any 30 (some 3) (List.map Idd.enc [{ y := Idd.y ic, n := Idd.n ic }, ia, { y := Idd.y ib, n := Idd.n ib }])), .r (AV.sl Mode.any 30 (some (3 : Nat)) (List.map Idd.enc [{ y := (2 : Int), n := (0 : Int) }, { y := (1 : Int), n := (0 : Int) }, { y := (1 : Int), n := (1 : Int) }])), .r (it 1), .c, .c, .c, .c, .c, .c]) (ps := [AV.agg [tN, tYB] = AV.agg [AV.sl Mode.any 62 (some (0 : Nat)) (List.map Stk.enc []), tYB], PureC Try.prog 33 [view (AV.agg [tN, tYB]), AV.agg [ub 1, it 2]] (AV.sl Mode.own 30 (some 3) [Idd.enc ic, Idd.enc ia, Idd.enc ib]), AV.sl Mode.own 30 (some 3) [Idd.enc ic, Idd.enc ia, Idd.enc ib] = AV.sl Mode.own 30 (some 3) (List.map Idd.enc [{ y := Idd.y ic, n := Idd.n ic }, ia, { y := Idd.y ib, n := Idd.n ib }]), AV.sl Mode.own 30 (some 3) [AV.agg [ub 2, it 0], AV.agg [ub 1, it 0], AV.agg [ub 1, it 1]] = AV.sl Mode.own 30 (some (3 : Nat)) (List.map Idd.enc [{ y := (2 : Int), n := (0 : Int) }, { y := (1 : Int), n := (0 : Int) }, { y := (1 : Int), n := (1 : Int) }]), view (AV.sl Mode.own 30 (some 3) [AV.agg [ub (Idd.y { y := Idd.y ic, n := Idd.n ic }), it (Idd.n { y := Idd.y ic, n := Idd.n ic })], AV.agg [ub (Idd.y ia), it (Idd.n ia)], AV.agg [ub (Idd.y { y := Idd.y ib, n := Idd.n ib }), it (Idd.n { y := Idd.y ib, n := Idd.n ib })]]) = AV.sl Mode.any 30 (some 3) [AV.agg [ub (Idd.y { y := Idd.y ic, n := Idd.n ic }), it (Idd.n { y := Idd.y ic, n := Idd.n ic })], AV.agg [ub (Idd.y ia), it (Idd.n ia)], AV.agg [ub (Idd.y { y := Idd.y ib, n := Idd.n ib }), it (Idd.n { y := Idd.y ib, n := Idd.n ib })]], view (AV.sl Mode.own 30 (some 3) [AV.agg [ub (Idd.y { y := (2 : Int), n := (0 : Int) }), it (Idd.n { y := (2 : Int), n := (0 : Int) })], AV.agg [ub (Idd.y { y := (1 : Int), n := (0 : Int) }), it (Idd.n { y := (1 : Int), n := (0 : Int) })], AV.agg [ub (Idd.y { y := (1 : Int), n := (1 : Int) }), it (Idd.n { y := (1 : Int), n := (1 : Int) })]]) = AV.sl Mode.any 30 (some 3) [AV.agg [ub (Idd.y { y := (2 : Int), n := (0 : Int) }), it (Idd.n { y := (2 : Int), n := (0 : Int) })], AV.agg [ub (Idd.y { y := (1 : Int), n := (0 : Int) }), it (Idd.n { y := (1 : Int), n := (0 : Int) })], AV.agg [ub (Idd.y { y := (1 : Int), n := (1 : Int) }), it (Idd.n { y := (1 : Int), n := (1 : Int) })]], PureC Try.prog 41 [AV.sl Mode.any 30 (some 3) [AV.agg [ub (Idd.y { y := Idd.y ic, n := Idd.n ic }), it (Idd.n { y := Idd.y ic, n := Idd.n ic })], AV.agg [ub (Idd.y ia), it (Idd.n ia)], AV.agg [ub (Idd.y { y := Idd.y ib, n := Idd.n ib }), it (Idd.n { y := Idd.y ib, n := Idd.n ib })]], AV.sl Mode.any 30 (some 3) [AV.agg [ub (Idd.y { y := (2 : Int), n := (0 : Int) }), it (Idd.n { y := (2 : Int), n := (0 : Int) })], AV.agg [ub (Idd.y { y := (1 : Int), n := (0 : Int) }), it (Idd.n { y := (1 : Int), n := (0 : Int) })], AV.agg [ub (Idd.y { y := (1 : Int), n := (1 : Int) }), it (Idd.n { y := (1 : Int), n := (1 : Int) })]]] (it 1), List.getD [tN, tYB] (0 : Nat) AV.bad = AV.sl Mode.any 62 (some (0 : Nat)) (List.map Stk.enc []), AV.agg [tYB, tN] = AV.agg [tYB, AV.sl Mode.any 62 (some (0 : Nat)) (List.map Stk.enc [])], PureC Try.prog 33 [view (AV.agg [tYB, tN]), AV.agg [ub 0, it 2]] (AV.sl Mode.own 30 (some 3) [Idd.enc ic, Idd.enc ia, Idd.enc ib]), AV.sl Mode.own 30 (some 3) [Idd.enc ic, Idd.enc ia, Idd.enc ib] = AV.sl Mode.own 30 (some 3) (List.map Idd.enc [{ y := Idd.y ic, n := Idd.n ic }, ia, { y := Idd.y ib, n := Idd.n ib }]), AV.sl Mode.own 30 (some 3) [AV.agg [ub 2, it 0], AV.agg [ub 1, it 0], AV.agg [ub 1, it 1]] = AV.sl Mode.own 30 (some (3 : Nat)) (List.map Idd.enc [{ y := (2 : Int), n := (0 : Int) }, { y := (1 : Int), n := (0 : Int) }, { y := (1 : Int), n := (1 : Int) }]), view (AV.sl Mode.own 30 (some 3) [AV.agg [ub (Idd.y { y := Idd.y ic, n := Idd.n ic }), it (Idd.n { y := Idd.y ic, n := Idd.n ic })], AV.agg [ub (Idd.y ia), it (Idd.n ia)], AV.agg [ub (Idd.y { y := Idd.y ib, n := Idd.n ib }), it (Idd.n { y := Idd.y ib, n := Idd.n ib })]]) = AV.sl Mode.any 30 (some 3) [AV.agg [ub (Idd.y { y := Idd.y ic, n := Idd.n ic }), it (Idd.n { y := Idd.y ic, n := Idd.n ic })], AV.agg [ub (Idd.y ia), it (Idd.n ia)], AV.agg [ub (Idd.y { y := Idd.y ib, n := Idd.n ib }), it (Idd.n { y := Idd.y ib, n := Idd.n ib })]], view (AV.sl Mode.own 30 (some 3) [AV.agg [ub (Idd.y { y := (2 : Int), n := (0 : Int) }), it (Idd.n { y := (2 : Int), n := (0 : Int) })], AV.agg [ub (Idd.y { y := (1 : Int), n := (0 : Int) }), it (Idd.n { y := (1 : Int), n := (0 : Int) })], AV.agg [ub (Idd.y { y := (1 : Int), n := (1 : Int) }), it (Idd.n { y := (1 : Int), n := (1 : Int) })]]) = AV.sl Mode.any 30 (some 3) [AV.agg [ub (Idd.y { y := (2 : Int), n := (0 : Int) }), it (Idd.n { y := (2 : Int), n := (0 : Int) })], AV.agg [ub (Idd.y { y := (1 : Int), n := (0 : Int) }), it (Idd.n { y := (1 : Int), n := (0 : Int) })], AV.agg [ub (Idd.y { y := (1 : Int), n := (1 : Int) }), it (Idd.n { y := (1 : Int), n := (1 : Int) })]], PureC Try.prog 41 [AV.sl Mode.any 30 (some 3) [AV.agg [ub (Idd.y { y := Idd.y ic, n := Idd.n ic }), it (Idd.n { y := Idd.y ic, n := Idd.n ic })], AV.agg [ub (Idd.y ia), it (Idd.n ia)], AV.agg [ub (Idd.y { y := Idd.y ib, n := Idd.n ib }), it (Idd.n { y := Idd.y ib, n := Idd.n ib })]], AV.sl Mode.any 30 (some 3) [AV.agg [ub (Idd.y { y := (2 : Int), n := (0 : Int) }), it (Idd.n { y := (2 : Int), n := (0 : Int) })], AV.agg [ub (Idd.y { y := (1 : Int), n := (0 : Int) }), it (Idd.n { y := (1 : Int), n := (0 : Int) })], AV.agg [ub (Idd.y { y := (1 : Int), n := (1 : Int) }), it (Idd.n { y := (1 : Int), n := (1 : Int) })]]] (it 1)]) (ans' := []) (base 174 0) cxA_K.1 cxA_K.2 _ (by kernel_rfl)  (allp g0 (allp (by (first | rw [view_yn] | rw [view_two] | rw [view_twoI] | rw [view_beds] | rw [view_frW] | rw [view_frN] | rw [view_twoF] | skip); first | (apply y_at <;> (first | assumption | rfl | (simp at * <;> omega))) | (apply z_at <;> (first | assumption | rfl | (simp at * <;> omega)))) (allp g1 (allp g2 (allp (by first | exact view_ps _ _ _ | exact view_u8 _ _ _ | rfl | exact view_yn _ _ _ _ _ _ _ | exact view_id _ _ _ | exact view_stk _ _ _ | exact view_beds _ _ _ _ _ _ | exact view_pt _ _ _) (allp (by first | exact view_ps _ _ _ | exact view_u8 _ _ _ | rfl | exact view_yn _ _ _ _ _ _ _ | exact view_id _ _ _ | exact view_stk _ _ _ | exact view_beds _ _ _ _ _ _ | exact view_pt _ _ _) (allp (by apply s_y <;> (first | assumption | rfl | (simp at * <;> omega))) (allp g3 (allp g4 (allp (by (first | rw [view_yn] | rw [view_two] | rw [view_twoI] | rw [view_beds] | rw [view_frW] | rw [view_frN] | rw [view_twoF] | skip); first | (apply y_at <;> (first | assumption | rfl | (simp at * <;> omega))) | (apply z_at <;> (first | assumption | rfl | (simp at * <;> omega)))) (allp g1 (allp g2 (allp (by first | exact view_ps _ _ _ | exact view_u8 _ _ _ | rfl | exact view_yn _ _ _ _ _ _ _ | exact view_id _ _ _ | exact view_stk _ _ _ | exact view_beds _ _ _ _ _ _ | exact view_pt _ _ _) (allp (by first | exact view_ps _ _ _ | exact view_u8 _ _ _ | rfl | exact view_yn _ _ _ _ _ _ _ | exact view_id _ _ _ | exact view_stk _ _ _ | exact view_beds _ _ _ _ _ _ | exact view_pt _ _ _) (allp (by apply s_y <;> (first | assumption | rfl | (simp at * <;> omega))) allp_nil)))))))))))))))
theorem l13_0 (u : Nat) (g0 : AV.sl Mode.own 30 (some 1) [AV.agg [ub 2, it 0]] = AV.sl Mode.own 30 (some (1 : Nat)) (List.map Idd.enc [{ y := (2 : Int), n := (0 : Int) }])) : Tri Try.prog (cxN 174 0) (regAt Try.f37 13) ([(2, .box [ub 1, it 1]), (3, .box [ub 2, it 0]), (4, eX), (5, .box [ub 0, it 1]), (6, .box [ub 0, it 2]), (10, eY)] ) (Ex.normal) ([(2, AV.box [ub 1, it 1]), (4, eX), (6, AV.box [ub 0, it 2]), (9, it 8), (10, eY)]) :=
  evA_ok (H := h37) (ans := [.c, .c, .c, .r (AV.sl Mode.own 30 (some (1 : Nat)) (List.map Idd.enc [{ y := (2 : Int), n := (0 : Int) }])), .r (AV.sl Mode.any 30 (some (1 : Nat)) (List.map Idd.enc [{ y := (2 : Int), n := (0 : Int) }])), .r (AV.tup [AV.agg [niln, niln], it 8]), .c, .c, .c, .c, .c, .c]) (ps := [AV.sl Mode.own 30 (some 1) [AV.agg [ub 2, it 0]] = AV.sl Mode.own 30 (some (1 : Nat)) (List.map Idd.enc [{ y := (2 : Int), n := (0 : Int) }]), view (AV.sl Mode.own 30 (some 1) [AV.agg [ub (Idd.y { y := (2 : Int), n := (0 : Int) }), it (Idd.n { y := (2 : Int), n := (0 : Int) })]]) = AV.sl Mode.any 30 (some 1) [AV.agg [ub (Idd.y { y := (2 : Int), n := (0 : Int) }), it (Idd.n { y := (2 : Int), n := (0 : Int) })]], PureC Try.prog 38 [view (AV.agg [tXF, tXB]), AV.agg [ub 0, it 1], AV.sl Mode.any 30 (some 1) [AV.agg [ub (Idd.y { y := (2 : Int), n := (0 : Int) }), it (Idd.n { y := (2 : Int), n := (0 : Int) })]]] (AV.tup [AV.agg [niln, niln], it 8])]) (ans' := []) (base 174 0) cxA_K.1 cxA_K.2 _ (by kernel_rfl)  (allp g0 (allp (by first | exact view_ps _ _ _ | exact view_u8 _ _ _ | rfl | exact view_yn _ _ _ _ _ _ _ | exact view_id _ _ _ | exact view_stk _ _ _ | exact view_beds _ _ _ _ _ _ | exact view_pt _ _ _) (allp (by (first | rw [view_yn] | rw [view_two] | rw [view_twoI] | rw [view_beds] | rw [view_frW] | rw [view_frN] | rw [view_twoF] | skip); apply x_set1 <;> (first | assumption | rfl | (simp at * <;> omega))) allp_nil)))
theorem l14_0 (u : Nat) (g0 : AV.sl Mode.own 30 (some 1) [AV.agg [ub 1, it 1]] = AV.sl Mode.own 30 (some (1 : Nat)) (List.map Idd.enc [{ y := (1 : Int), n := (1 : Int) }])) : Tri Try.prog (cxN 174 0) (regAt Try.f37 14) ([(2, .box [ub 1, it 1]), (4, eX), (6, .box [ub 0, it 2]), (9, it 8), (10, eY)] ) (Ex.normal) ([(2, AV.box [ub 1, it 1]), (6, AV.box [ub 0, it 2]), (9, it 8), (10, AV.box [AV.sl Mode.fresh 62 (some 2) [AV.sl Mode.fresh 30 (some 0) [], AV.sl Mode.fresh 30 (some 1) [Idd.enc ib]], AV.sl Mode.fresh 62 (some 2) [AV.sl Mode.fresh 30 (some 0) [], AV.sl Mode.fresh 30 (some 1) [Idd.enc ic]]]), (12, it 0)]) :=
  evA_ok (H := h37) (ans := [.c, .c, .c, .r (AV.sl Mode.own 30 (some (1 : Nat)) (List.map Idd.enc [{ y := (1 : Int), n := (1 : Int) }])), .r (AV.sl Mode.any 30 (some (1 : Nat)) (List.map Idd.enc [{ y := (1 : Int), n := (1 : Int) }])), .r (AV.tup [AV.agg [AV.sl Mode.fresh 62 (some 2) [AV.sl Mode.fresh 30 (some 0) [], AV.sl Mode.fresh 30 (some 1) [Idd.enc ib]], AV.sl Mode.fresh 62 (some 2) [AV.sl Mode.fresh 30 (some 0) [], AV.sl Mode.fresh 30 (some 1) [Idd.enc ic]]], it 0]), .c, .c, .c, .c, .c, .c, .c]) (ps := [AV.sl Mode.own 30 (some 1) [AV.agg [ub 1, it 1]] = AV.sl Mode.own 30 (some (1 : Nat)) (List.map Idd.enc [{ y := (1 : Int), n := (1 : Int) }]), view (AV.sl Mode.own 30 (some 1) [AV.agg [ub (Idd.y { y := (1 : Int), n := (1 : Int) }), it (Idd.n { y := (1 : Int), n := (1 : Int) })]]) = AV.sl Mode.any 30 (some 1) [AV.agg [ub (Idd.y { y := (1 : Int), n := (1 : Int) }), it (Idd.n { y := (1 : Int), n := (1 : Int) })]], PureC Try.prog 38 [view (AV.agg [tXF, tXB]), AV.agg [ub 0, it 2], AV.sl Mode.any 30 (some 1) [AV.agg [ub (Idd.y { y := (1 : Int), n := (1 : Int) }), it (Idd.n { y := (1 : Int), n := (1 : Int) })]]] (AV.tup [AV.agg [AV.sl Mode.fresh 62 (some 2) [AV.sl Mode.fresh 30 (some 0) [], AV.sl Mode.fresh 30 (some 1) [Idd.enc ib]], AV.sl Mode.fresh 62 (some 2) [AV.sl Mode.fresh 30 (some 0) [], AV.sl Mode.fresh 30 (some 1) [Idd.enc ic]]], it 0])]) (ans' := []) (base 174 0) cxA_K.1 cxA_K.2 _ (by kernel_rfl)  (allp g0 (allp (by first | exact view_ps _ _ _ | exact view_u8 _ _ _ | rfl | exact view_yn _ _ _ _ _ _ _ | exact view_id _ _ _ | exact view_stk _ _ _ | exact view_beds _ _ _ _ _ _ | exact view_pt _ _ _) (allp (by (first | rw [view_yn] | rw [view_two] | rw [view_twoI] | rw [view_beds] | rw [view_frW] | rw [view_frN] | rw [view_twoF] | skip); apply x_set2 <;> (first | assumption | rfl | (simp at * <;> omega))) allp_nil)))
theorem l15_0 (u : Nat) (g0 : AV.sl Mode.own 30 (some 1) [Idd.enc ib] = AV.sl Mode.own 30 (some 1) (List.map Idd.enc [{ y := Idd.y ib, n := Idd.n ib }])) (g1 : AV.sl Mode.own 30 (some 1) [AV.agg [ub 1, it 1]] = AV.sl Mode.own 30 (some (1 : Nat)) (List.map Idd.enc [{ y := (1 : Int), n := (1 : Int) }])) : Tri Try.prog (cxN 174 0) (regAt Try.f37 15) ([(2, .box [ub 1, it 1]), (6, .box [ub 0, it 2]), (9, it 8), (10, eV), (12, it 0)] ) (Ex.normal) ([(0, bb ((2 : Int) == (2 : Int)))]) :=
  evA_ok (H := h37) (ans := [.c, .c, .c, .c, .c, .c, .c, .c, .c, .c, .c, .c, .c, .c, .c, .r (AV.sl Mode.own 30 (some 1) [Idd.enc ib]), .c, .r (AV.sl Mode.own 30 (some 1) (List.map Idd.enc [{ y := Idd.y ib, n := Idd.n ib }])), .c, .c, .c, .r (AV.sl Mode.own 30 (some (1 : Nat)) (List.map Idd.enc [{ y := (1 : Int), n := (1 : Int) }])), .c, .r (AV.sl Mode.any 30 (some 1) (List.map Idd.enc [{ y := Idd.y ib, n := Idd.n ib }])), .r (AV.sl Mode.any 30 (some (1 : Nat)) (List.map Idd.enc [{ y := (1 : Int), n := (1 : Int) }])), .r (it 1), .c, .c, .c, .c, .c, .c, .c, .c, .c, .c, .r (it 2), .c, .c, .c, .c, .c, .c, .c]) (ps := [PureC Try.prog 33 [view (AV.agg [tVF, tXB]), AV.agg [ub 0, it 2]] (AV.sl Mode.own 30 (some 1) [Idd.enc ib]), AV.sl Mode.own 30 (some 1) [Idd.enc ib] = AV.sl Mode.own 30 (some 1) (List.map Idd.enc [{ y := Idd.y ib, n := Idd.n ib }]), AV.sl Mode.own 30 (some 1) [AV.agg [ub 1, it 1]] = AV.sl Mode.own 30 (some (1 : Nat)) (List.map Idd.enc [{ y := (1 : Int), n := (1 : Int) }]), view (AV.sl Mode.own 30 (some 1) [AV.agg [ub (Idd.y { y := Idd.y ib, n := Idd.n ib }), it (Idd.n { y := Idd.y ib, n := Idd.n ib })]]) = AV.sl Mode.any 30 (some 1) [AV.agg [ub (Idd.y { y := Idd.y ib, n := Idd.n ib }), it (Idd.n { y := Idd.y ib, n := Idd.n ib })]], view (AV.sl Mode.own 30 (some 1) [AV.agg [ub (Idd.y { y := (1 : Int), n := (1 : Int) }), it (Idd.n { y := (1 : Int), n := (1 : Int) })]]) = AV.sl Mode.any 30 (some 1) [AV.agg [ub (Idd.y { y := (1 : Int), n := (1 : Int) }), it (Idd.n { y := (1 : Int), n := (1 : Int) })]], PureC Try.prog 41 [AV.sl Mode.any 30 (some 1) [AV.agg [ub (Idd.y { y := Idd.y ib, n := Idd.n ib }), it (Idd.n { y := Idd.y ib, n := Idd.n ib })]], AV.sl Mode.any 30 (some 1) [AV.agg [ub (Idd.y { y := (1 : Int), n := (1 : Int) }), it (Idd.n { y := (1 : Int), n := (1 : Int) })]]] (it 1), PureC Try.prog 36 [view (AV.agg [tVF, tXB])] (it 2)]) (ans' := []) (base 174 0) cxA_K.1 cxA_K.2 _ (by kernel_rfl)  (allp (by (first | rw [view_yn] | rw [view_two] | rw [view_twoI] | rw [view_beds] | rw [view_frW] | rw [view_frN] | rw [view_twoF] | skip); apply v_at <;> (first | assumption | rfl | (simp at * <;> omega))) (allp g0 (allp g1 (allp (by first | exact view_ps _ _ _ | exact view_u8 _ _ _ | rfl | exact view_yn _ _ _ _ _ _ _ | exact view_id _ _ _ | exact view_stk _ _ _ | exact view_beds _ _ _ _ _ _ | exact view_pt _ _ _) (allp (by first | exact view_ps _ _ _ | exact view_u8 _ _ _ | rfl | exact view_yn _ _ _ _ _ _ _ | exact view_id _ _ _ | exact view_stk _ _ _ | exact view_beds _ _ _ _ _ _ | exact view_pt _ _ _) (allp (by apply s_v <;> (first | assumption | rfl | (simp at * <;> omega))) (allp (by (first | rw [view_yn] | rw [view_two] | rw [view_twoI] | rw [view_beds] | rw [view_frW] | rw [view_frN] | rw [view_twoF] | skip); apply v_cnt <;> (first | assumption | rfl | (simp at * <;> omega))) allp_nil)))))))
end Tst
end

section
open Go Go.Lf Go.Proofs
namespace Tst
set_option maxHeartbeats 0
theorem OpsR.grab {P : Program} {cx : Cx} {ops : Array Oper} {env : Env} {r : Nat} {e : TypeId} {cap : Option Nat} {xs : List AV} (hr : lk env r = some (.sl .own e cap xs)) : OpsR P cx ops [] env (· = (r, share (.sl .own e cap xs)) :: env) := by
  intro ρ F B0 w0 S0 ds a w Q rest hag hQ
  obtain ⟨hd, hN, n, S, Os, hn, hgr, hst⟩ := hag
  obtain ⟨n', S', Os', vr, u, m, hn', hst', hS, _, _, _, _, _, hS'⟩ := hst.shareAt (p := []) hr rfl rfl (.inl rfl)
  refine hQ _ rfl a w ⟨hd, hN, n', S', Os', by omega, ⟨fun b hb => hS b (hgr.1 b hb), fun b hb => ?_⟩, hst'⟩
  rcases hS' b hb with h | h
  · exact hgr.2 b h
  · exact .inr (hst.lt r b h).1
abbrev e2 : Env := [(1, .box [ub 1, it 0]), (2, .box [ub 1, it 1]), (3, .box [ub 2, it 0])]
abbrev q20 : AV := .agg [ub 1, it 0]
abbrev q21 : AV := .agg [ub 1, it 1]
abbrev q24 : AV := .agg [ub 2, it 0]
abbrev s22 : AV := .sl .fresh 30 (some 2) [q20, q21]
abbrev s25 : AV := .sl .fresh 30 (some 1) [q24]
abbrev f2 : Env := [(26, .sl .own 62 (some 2) [niln, s25]), (25, s25), (25, .sl .own 30 (some 1) [q24]), (24, q24), (23, .sl .own 62 (some 2) [niln, s22]), (22, s22), (22, .sl .own 30 (some 2) [q20, q21]), (21, q21), (20, q20), (1, .box [ub 1, it 0]), (2, .box [ub 1, it 1]), (3, .box [ub 2, it 0])]
abbrev s23 : AV := .sl .fresh 62 (some 2) [niln, s22]
abbrev s26 : AV := .sl .fresh 62 (some 2) [niln, s25]
theorem r2code : regAt Try.f37 2 = .region 2 (opsAt Try.f37 2) false := by kernel_rfl
theorem r2ops : (opsAt Try.f37 2).toList = (opsAt Try.f37 2).toList.take 7 ++ ([] ++ (opsAt Try.f37 2).toList.drop 7) := by kernel_rfl
abbrev f3 : Env := [(4, .box [s23, s26]), (4, .box [niln, niln]), (27, .agg [s23, s26]), (26, s26)] ++ (23, s23) :: f2
theorem le_nl (l : List Idd) : Le Try.prog (.sl .fresh 30 (some l.length) (l.map Idd.enc)) (.sl .any 30 (some l.length) (l.map Idd.enc)) := Le.toAny (by decide) rfl (fun _ h => h) (F2.rfl' _)
theorem le_el (l : List Idd) : Le Try.prog (.sl .fresh 62 (some 2) [niln, .sl .fresh 30 (some l.length) (l.map Idd.enc)]) (.sl .any 62 (some 2) [.sl .any 30 (some 0) [], .sl .any 30 (some l.length) (l.map Idd.enc)]) := by
  refine Le.toAny (by decide) rfl (fun sz h y hy => ?_) (.cons (Le.nil 30) (.cons (le_nl l) .nil))
  have h1 := h _ (List.mem_cons_self)
  rcases List.mem_cons.1 hy with rfl | hy
  · exact h1
  · rcases List.mem_cons.1 hy with rfl | hy
    · exact h1
    · cases hy
theorem le_e2 (l m : List Idd) : Le Try.prog (.sl .fresh 62 (some 2) [.sl .fresh 30 (some l.length) (l.map Idd.enc), .sl .fresh 30 (some m.length) (m.map Idd.enc)]) (.sl .any 62 (some 2) [.sl .any 30 (some l.length) (l.map Idd.enc), .sl .any 30 (some m.length) (m.map Idd.enc)]) := by
  refine Le.toAny (by decide) rfl (fun sz h y hy => ?_) (.cons (le_nl l) (.cons (le_nl m) .nil))
  have h1 := h _ (List.mem_cons_self)
  rcases List.mem_cons.1 hy with rfl | hy
  · exact h1
  · rcases List.mem_cons.1 hy with rfl | hy
    · exact h1
    · cases hy
theorem le_n : Le Try.prog (.sl .fresh 62 (some 0) []) tN := Le.toAny (by decide) rfl (fun _ h => h) .nil
abbrev E3 : Env := e2 ++ [(4, eX)]
theorem l2_c : Tri Try.prog (cxN 174 0) (regAt Try.f37 2) e2 .normal E3 := by
  have h : Tri Try.prog (cxN 174 0) (regAt Try.f37 2) e2 .normal f3 := by
    rw [r2code]
    refine Tri.ofR (R := (· = f3)) (TriR.region ?_) fun _ h => h
    rw [r2ops]
    refine .seq (OpsR.ev (base 174 0) cxA_K.1 cxA_K.2 (ans := List.replicate 9 .c) (ps := []) (env' := f2) (by kernel_rfl) allp_nil) ?_
    rintro _ rfl
    refine .seq (OpsR.grab (r := 23) rfl) ?_
    rintro _ rfl
    exact OpsR.ev (base 174 0) cxA_K.1 cxA_K.2 (ans := List.replicate 20 .c) (ps := []) (env' := f3) (by kernel_rfl) allp_nil
  refine Tri.less (Tri.after [(1, .keep), (2, .keep), (3, .keep), (4, .keep)] h) ?_
  show EnvLe Try.prog (e2 ++ [(4, .box [s23, s26])]) E3
  exact .cons ⟨rfl, rfl, Le.refl _⟩ (.cons ⟨rfl, rfl, Le.refl _⟩ (.cons ⟨rfl, rfl, Le.refl _⟩ (.cons ⟨rfl, rfl, Le.box (.cons (le_el [ia, ib]) (.cons (le_el [ic]) .nil))⟩ .nil)))
abbrev E7 : Env := [(1, .box [ub 1, it 0]), (2, .box [ub 1, it 1]), (3, .box [ub 2, it 0]), (4, eX), (5, .box [ub 0, it 1]), (6, .box [ub 0, it 2]), (7, .box [ub 1, it 2])]
theorem lives_code : Try.f37.body = some (.seq (regAt Try.f37 0) (.seq (regAt Try.f37 1) (.seq (regAt Try.f37 2) (.seq (regAt Try.f37 3) (.seq (regAt Try.f37 4) (.seq (.seq (regAt Try.f37 5) (.cond (.tmp 67) (.seq (regAt Try.f37 6) .ret) .skip))
    (.seq (regAt Try.f37 7) (.seq (regAt Try.f37 8) (.seq (regAt Try.f37 9) (.seq (regAt Try.f37 10) (.seq (.seq (regAt Try.f37 11) (.cond (.tmp 137) (.seq (regAt Try.f37 12) .ret) .skip)) (.seq (regAt Try.f37 13) (.seq (regAt Try.f37 14) (.seq (regAt Try.f37 15) .ret)))))))))))))) := by kernel_rfl
abbrev E8 : Env := E7 ++ [(9, it 0), (10, eY)]
abbrev E9 : Env := E8 ++ [(11, eZ), (12, it 0)]
abbrev E14 : Env := [(2, .box [ub 1, it 1]), (6, .box [ub 0, it 2]), (9, it 8), (10, eV), (12, it 0)]
theorem lives : PureC Try.prog 37 [] (bb true) := by
  refine pureT ((base 174 0).ok cxA_K.1 cxA_K.2) Try.func37 rfl (by show 0 ≤ 174; omega) rfl lives_code rfl (ex := .ret) (env' := [(0, bb true)]) ?_ rfl
  refine .seq (l0_0 0) (.seq (l1_0 0) (.seq l2_c (.seq (l3_0 0) (.seq (l4_0 0) (.seq (.seq (l5_0 0 rfl rfl) (.cond (b := false) rfl .skip)) ?_)))))
  refine Tri.weak [(1, .keep), (2, .keep), (3, .keep), (4, .keep), (5, .keep), (6, .keep), (7, .keep)] ?_
  refine .seq (Tri.less (env2 := E8) (l7_0 0 rfl) ?_) (.seq (Tri.less (env2 := E9) (l8_0 0 rfl) ?_) (.seq (l9_0 0) (.seq (l10_0 0) (.seq (.seq (l11_0 0 rfl rfl rfl rfl rfl) (.cond (b := false) rfl .skip)) ?_))))
  · exact .cons ⟨rfl, rfl, Le.refl _⟩ (.cons ⟨rfl, rfl, Le.refl _⟩ (.cons ⟨rfl, rfl, Le.refl _⟩ (.cons ⟨rfl, rfl, Le.refl _⟩ (.cons ⟨rfl, rfl, Le.refl _⟩ (.cons ⟨rfl, rfl, Le.refl _⟩ (.cons ⟨rfl, rfl, Le.refl _⟩ (.cons ⟨rfl, rfl, Le.refl _⟩ (.cons ⟨rfl, rfl, Le.box (.cons le_n (.cons (le_e2 [] [ic, ia, ib]) .nil))⟩ .nil))))))))
  · exact .cons ⟨rfl, rfl, Le.refl _⟩ (.cons ⟨rfl, rfl, Le.refl _⟩ (.cons ⟨rfl, rfl, Le.refl _⟩ (.cons ⟨rfl, rfl, Le.refl _⟩ (.cons ⟨rfl, rfl, Le.refl _⟩ (.cons ⟨rfl, rfl, Le.refl _⟩ (.cons ⟨rfl, rfl, Le.refl _⟩ (.cons ⟨rfl, rfl, Le.refl _⟩ (.cons ⟨rfl, rfl, Le.refl _⟩ (.cons ⟨rfl, rfl, Le.box (.cons (le_e2 [] [ic, ia, ib]) (.cons le_n .nil))⟩ (.cons ⟨rfl, rfl, Le.refl _⟩ .nil))))))))))
  refine Tri.weak [(2, .keep), (3, .keep), (4, .keep), (5, .keep), (6, .keep), (10, .keep)] ?_
  refine .seq (l13_0 0 rfl) (.seq (Tri.less (env2 := E14) (l14_0 0 rfl) ?_) (.seq (l15_0 0 rfl rfl) .ret))
  exact .cons ⟨rfl, rfl, Le.refl _⟩ (.cons ⟨rfl, rfl, Le.refl _⟩ (.cons ⟨rfl, rfl, Le.refl _⟩ (.cons ⟨rfl, rfl, Le.box (.cons (le_e2 [] [ib]) (.cons (le_e2 [] [ic]) .nil))⟩ (.cons ⟨rfl, rfl, Le.refl _⟩ .nil))))
end Tst
end

section
open Go Go.Lf Go.Proofs
namespace Tst
theorem fold_zip (d : Int) (j : Nat) : ∀ (L : List Stk) (k : Nat) (tb : List (List Idd)),
    (((L.zipIdx k).map fun q => (d, ((q.2 : Int) + 1), q.1)).foldl putT tb).getD j [] = if d.toNat * 40 + k ≤ j ∧ j < d.toNat * 40 + k + L.length ∧ j < tb.length then (L.getD (j - (d.toNat * 40 + k)) default).l else tb.getD j []
  | [], k, tb => by
    rw [if_neg (by simp; omega)]; rfl
  | s :: L, k, tb => by
    rw [List.zipIdx_cons, List.map_cons, List.foldl_cons, fold_zip d j L (k + 1)]
    have e : putT tb (d, ((k : Int) + 1), s) = tb.set (d.toNat * 40 + k) s.l := by
      show tb.set (d.toNat * 40 + ((k : Int) + 1 - 1).toNat) s.l = _
      rw [show ((k : Int) + 1 - 1).toNat = k by omega]
    show (if _ then _ else (putT tb (d, ((k : Int) + 1), s)).getD j []) = _
    rw [e, List.length_set, List.length_cons]
    generalize d.toNat * 40 = o
    by_cases h1 : o + (k + 1) ≤ j ∧ j < o + (k + 1) + L.length ∧ j < tb.length
    · rw [if_pos h1, if_pos (by omega)]
      obtain ⟨m, hm⟩ : ∃ m, j - (o + k) = m + 1 := ⟨j - (o + k) - 1, by omega⟩
      rw [hm, show j - (o + (k + 1)) = m by omega, List.getD_cons_succ]
    · rw [if_neg h1]
      by_cases h2 : j = o + k
      · subst h2
        by_cases h3 : o + k < tb.length
        · rw [if_pos (by omega), Nat.sub_self, List.getD_cons_zero, List.getD_eq_getElem?_getD, List.getElem?_set_self h3]; rfl
        · rw [if_neg (by omega), List.getD_eq_getElem?_getD, List.getD_eq_getElem?_getD, List.getElem?_eq_none (by simp; omega), List.getElem?_eq_none (by omega)]
      · rw [if_neg (by omega), List.getD_eq_getElem?_getD, List.getElem?_set_ne (by omega), ← List.getD_eq_getElem?_getD]
theorem stackOf_nat (l : List Stk) (j : Nat) : stackOf l (j : Int) = if j < l.length then (l.getD j default).l else [] := by
  unfold stackOf
  by_cases h : j < l.length
  · rw [if_pos (by omega), if_pos h]; rfl
  · rw [if_neg (by omega), if_neg h]
theorem getD_take {α : Type} [Inhabited α] (l : List α) (n j : Nat) (h : j < n) (d : α) : (l.take n).getD j d = l.getD j d := by
  rw [List.getD_eq_getElem?_getD, List.getD_eq_getElem?_getD, List.getElem?_take_of_lt h]
theorem tbOf_get (F B : List Stk) (j : Nat) (hj : j < 80) : (tbOf (itms F B)).getD j [] = stkN F B j := by
  unfold tbOf itms
  rw [List.foldl_append, fold_zip, fold_zip]
  have hl : ∀ (l : List (Int × Int × Stk)) (tb : List (List Idd)), (l.foldl putT tb).length = tb.length := by
    intro l
    induction l with
    | nil => intro tb; rfl
    | cons x l ih => intro tb; rw [List.foldl_cons, ih]; simp [putT]
  rw [hl, List.length_replicate, List.length_take, List.length_take]
  unfold stkN
  rw [stackOf_nat]
  simp only [Int.toNat_one, Int.toNat_zero, Nat.one_mul, Nat.zero_mul, Nat.add_zero, Nat.zero_add, Nat.sub_zero]
  by_cases h : j < 40
  · rw [if_neg (by omega), if_pos h, show j % 40 = j by omega]
    by_cases h2 : j < F.length
    · rw [if_pos (by omega), if_pos h2, getD_take _ _ _ h]
    · rw [if_neg (by omega), if_neg h2]
      rw [List.getD_eq_getElem?_getD, List.getElem?_replicate]; split <;> rfl
  · rw [if_neg h, show j % 40 = j - 40 by omega]
    by_cases h2 : j - 40 < B.length
    · rw [if_pos (by omega), if_pos h2, getD_take _ _ _ (by omega)]
    · rw [if_neg (by omega), if_neg (by omega), if_neg h2]
      rw [List.getD_eq_getElem?_getD, List.getElem?_replicate]; split <;> rfl
structure Rep (F B : List Stk) (tb : List (List Idd)) : Prop where
  f : F.length ≤ 40
  b : B.length ≤ 40
  l : tb.length = 80
  at' : ∀ j, j < 80 → stkN F B j = tb.getD j []
theorem Rep.tb {F B : List Stk} {tb : List (List Idd)} (h : Rep F B tb) : tbOf (itms F B) = tb := by
  apply List.ext_getElem
  · rw [tbOf_len, h.l]
  · intro j h1 h2
    have h3 : j < 80 := by rw [tbOf_len] at h1; exact h1
    have := (tbOf_get F B j h3).trans (h.at' j h3)
    rw [List.getD_eq_getElem?_getD, List.getElem?_eq_getElem h1, List.getD_eq_getElem?_getD, List.getElem?_eq_getElem h2] at this
    exact this
theorem Rep.stk {F B : List Stk} {tb : List (List Idd)} (h : Rep F B tb) {d i : Int} (hd : d = 0 ∨ d = 1) (h1 : 1 ≤ i) (h2 : i ≤ 40) : stkAt d i F B = tb.getD (d.toNat * 40 + (i - 1).toNat) [] := by
  rw [← h.at' _ (by rcases hd with e | e <;> rw [e] <;> simp <;> omega)]
  unfold stkAt stkN
  obtain ⟨m, hm⟩ : ∃ m : Nat, i - 1 = (m : Int) := ⟨(i - 1).toNat, by omega⟩
  rw [hm, Int.toNat_natCast]
  rcases hd with e | e <;> subst e
  · simp only [Int.toNat_zero, Nat.zero_mul, Nat.zero_add]
    rw [if_pos (show m < 40 by omega), show m % 40 = m by omega]; rfl
  · simp only [Int.toNat_one, Nat.one_mul]
    rw [if_neg (show ¬ 40 + m < 40 by omega), show (40 + m) % 40 = m by omega]; rfl
theorem range_flat (F : List Stk) : ∀ n : Nat, (List.range n).flatMap (fun j : Nat => stackOf F (j : Int)) = (F.take n).flatMap Stk.l
  | 0 => by simp
  | n + 1 => by
    rw [List.range_succ, List.flatMap_append, range_flat F n, List.take_add_one, List.flatMap_append]
    congr 1
    rw [List.flatMap_cons, List.flatMap_nil, List.append_nil, stackOf_nat]
    by_cases h : n < F.length
    · rw [if_pos h, List.getElem?_eq_getElem h, List.getD_eq_getElem?_getD, List.getElem?_eq_getElem h]; simp
    · rw [if_neg h, List.getElem?_eq_none (by omega)]; rfl
theorem flatMap_cong {α β : Type} {f g : α → List β} : ∀ {l : List α}, (∀ a ∈ l, f a = g a) → l.flatMap f = l.flatMap g
  | [], _ => rfl
  | a :: l, h => by rw [List.flatMap_cons, List.flatMap_cons, h a (by simp), flatMap_cong fun b hb => h b (by simp [hb])]
theorem Rep.list {F B : List Stk} {tb : List (List Idd)} (h : Rep F B tb) : tb = (List.range 80).map (stkN F B) := by
  apply List.ext_getElem
  · rw [h.l]; simp
  · intro j h1 h2
    have h3 : j < 80 := by rw [h.l] at h1; exact h1
    have := h.at' j h3
    rw [List.getD_eq_getElem?_getD, List.getElem?_eq_getElem h1] at this
    simp [this]
theorem flatMap_zip (d : Int) : ∀ (L : List Stk) (k : Nat), (((L.zipIdx k).map fun q => (d, ((q.2 : Int) + 1), q.1)).flatMap fun t => t.2.2.l) = L.flatMap Stk.l
  | [], _ => rfl
  | s :: L, k => by rw [List.zipIdx_cons, List.map_cons, List.flatMap_cons, List.flatMap_cons, flatMap_zip d L (k + 1)]
theorem Rep.all {F B : List Stk} {tb : List (List Idd)} (h : Rep F B tb) : allI (itms F B) = tb.flatten := by
  unfold allI itms
  rw [List.flatMap_append, flatMap_zip, flatMap_zip, ← range_flat, ← range_flat, h.list, ← List.flatMap_def]
  rw [show List.range 80 = List.range 40 ++ (List.range 40).map (40 + ·) by decide +kernel, List.flatMap_append, List.flatMap_map]
  have a1 : (List.range 40).flatMap (stkN F B) = (List.range 40).flatMap fun j : Nat => stackOf F (j : Int) := flatMap_cong fun j hj => by
    have : j < 40 := List.mem_range.1 hj
    unfold stkN
    rw [if_pos this, show j % 40 = j by omega]
  have a2 : ((List.range 40).flatMap fun j => stkN F B (40 + j)) = (List.range 40).flatMap fun j : Nat => stackOf B (j : Int) := flatMap_cong fun j hj => by
    have : j < 40 := List.mem_range.1 hj
    unfold stkN
    rw [if_neg (by omega), show (40 + j) % 40 = j by omega]
  rw [a1, a2]
structure Good' (tb : List (List Idd)) : Prop where
  s : ∀ i, (tb.getD i []).length ≤ 4
  n : ∀ p ∈ tb.flatten, nmI p = true
  d : tb.flatten.Nodup
theorem Rep.mem {F B : List Stk} {tb : List (List Idd)} (h : Rep F B tb) {s : Stk} (hs : s ∈ F ∨ s ∈ B) : ∃ j, j < 80 ∧ s.l = tb.getD j [] := by
  have hf := h.f
  have hb := h.b
  rcases hs with hs | hs
  · obtain ⟨j, hj, rfl⟩ := List.mem_iff_getElem.1 hs
    refine ⟨j, by omega, ?_⟩
    rw [← h.at' j (by omega)]
    unfold stkN
    rw [if_pos (by omega), show j % 40 = j by omega, stackOf_nat, if_pos hj, List.getD_eq_getElem?_getD, List.getElem?_eq_getElem hj]; rfl
  · obtain ⟨j, hj, rfl⟩ := List.mem_iff_getElem.1 hs
    refine ⟨40 + j, by omega, ?_⟩
    rw [← h.at' (40 + j) (by omega)]
    unfold stkN
    rw [if_neg (by omega), show (40 + j) % 40 = j by omega, stackOf_nat, if_pos hj, List.getD_eq_getElem?_getD, List.getElem?_eq_getElem hj]; rfl
theorem Rep.len {F B : List Stk} {tb : List (List Idd)} (h : Rep F B tb) (g : Good' tb) : ∀ s, s ∈ F ∨ s ∈ B → s.l.length ≤ 4 := fun s hs => by
  obtain ⟨j, _, e⟩ := h.mem hs
  rw [e]; exact g.s j
theorem Rep.chk {F B : List Stk} {tb : List (List Idd)} (h : Rep F B tb) (g : Good' tb) : chkV F B = 0 := by
  have hf := h.f
  have hb := h.b
  have ho : ovV F B = false := by
    unfold ovV
    rw [decide_eq_false (by omega), decide_eq_false (by omega)]
    simp only [Bool.false_or]
    rw [List.any_eq_false]
    intro t ht
    have := h.len g _ (itms_ok ht).2.2.2
    simp; omega
  have hn : nmV F B = true := by
    unfold nmV
    rw [List.all_eq_true]
    intro t ht
    rw [List.all_eq_true]
    intro p hp
    refine g.n p ?_
    rw [← h.all]
    exact List.mem_flatMap.2 ⟨t, ht, hp⟩
  have ht : twV F B = false := by
    unfold twV
    rw [h.all, decide_eq_true g.d]; rfl
  unfold chkV
  rw [ho, hn, ht]; rfl
end Tst
end

section
open Go Go.Lf Go.Proofs
namespace Tst
theorem trimL_empty (l : List Stk) : ∀ n j : Nat, trimL l n ≤ j → j < n → (l.getD j default).l = []
  | 0, j, _, h => by omega
  | n + 1, j, h1, h2 => by
    unfold trimL at h1
    split at h1
    · rename_i h
      by_cases hj : j = n
      · subst hj; exact List.eq_nil_of_length_eq_zero h
      · exact trimL_empty l n j h1 (by omega)
    · omega
theorem shT_get (l : List Stk) (j : Nat) : (shT l).getD j [] = if j < l.length then (l.getD j default).l else [] := by
  have hle := trimL_le l l.length
  unfold shT
  by_cases h : j < trimL l l.length
  · rw [if_pos (by omega), List.getD_eq_getElem?_getD, List.getElem?_map, List.getElem?_take_of_lt h, List.getD_eq_getElem?_getD, List.getElem?_eq_getElem (show j < l.length by omega)]; rfl
  · rw [List.getD_eq_getElem?_getD, List.getElem?_eq_none (by simp; omega)]
    by_cases h2 : j < l.length
    · rw [if_pos h2, trimL_empty l _ j (by omega) h2]; rfl
    · rw [if_neg h2]; rfl
theorem shT_len (l : List Stk) : (shT l).length ≤ l.length := by
  unfold shT; simp; omega
theorem half_get (tb : List (List Idd)) (h : tb.length = 80) (k j : Nat) (hk : k = 0 ∨ k = 40) (hj : j < 40) : (halfT tb k).getD j [] = tb.getD (k + j) [] := by
  unfold halfT
  rw [shT_get, if_pos (by simp; omega), getD_take _ _ _ hj, List.getD_eq_getElem?_getD, List.getElem?_drop, List.getElem?_map, List.getD_eq_getElem?_getD, List.getElem?_eq_getElem (show k + j < tb.length by omega)]; rfl
theorem half_len (tb : List (List Idd)) (k : Nat) : (halfT tb k).length ≤ 40 := by
  unfold halfT
  refine Nat.le_trans (shT_len _) ?_
  simp; omega
theorem stack_mk (mk : List Idd → Stk) (hm : ∀ l, (mk l).l = l) (x : List (List Idd)) (j : Nat) : stackOf (x.map mk) (j : Int) = x.getD j [] := by
  rw [stackOf_nat]
  by_cases h : j < x.length
  · rw [if_pos (by simpa using h), List.getD_eq_getElem?_getD, List.getElem?_map, List.getD_eq_getElem?_getD, List.getElem?_eq_getElem h]
    exact hm _
  · rw [if_neg (by simpa using h), List.getD_eq_getElem?_getD, List.getElem?_eq_none (by omega)]; rfl
theorem rep_mk (mk : List Idd → Stk) (hm : ∀ l, (mk l).l = l) {x y tb : List (List Idd)} (h : tb.length = 80) (hx : x.length ≤ 40) (hy : y.length ≤ 40) (ax : ∀ j, j < 40 → x.getD j [] = tb.getD (0 + j) []) (ay : ∀ j, j < 40 → y.getD j [] = tb.getD (40 + j) []) : Rep (x.map mk) (y.map mk) tb := by
  refine ⟨by simpa using hx, by simpa using hy, h, fun j hj => ?_⟩
  unfold stkN
  by_cases h40 : j < 40
  · rw [if_pos h40, show j % 40 = j by omega, stack_mk mk hm, ax j h40, Nat.zero_add]
  · rw [if_neg h40, show j % 40 = j - 40 by omega, stack_mk mk hm, ay (j - 40) (by omega), show 40 + (j - 40) = j by omega]
theorem rep_half (tb : List (List Idd)) (h : tb.length = 80) : Rep (stkW (halfT tb 0)) (stkW (halfT tb 40)) tb :=
  rep_mk (fun l => ⟨some l.length, l⟩) (fun _ => rfl) h (half_len _ _) (half_len _ _) (fun j hj => half_get tb h 0 j (.inl rfl) hj) (fun j hj => half_get tb h 40 j (.inr rfl) hj)
theorem lenF_keep (tb : List (List Idd)) (o : Nat) : ∀ k a, a ≠ 0 → lenF tb o k a = a
  | 0, a, _ => rfl
  | k + 1, a, h => by
    show lenF tb o k (lenStep tb o k a) = a
    have : lenStep tb o k a = a := by unfold lenStep; rw [if_neg (by omega)]
    rw [this, lenF_keep tb o k a h]
theorem lenF_empty (tb : List (List Idd)) (o : Nat) : ∀ k i, lenF tb o k 0 ≤ i → i < k → tb.getD (o + i) [] = []
  | 0, i, _, h => by omega
  | k + 1, i, h1, h2 => by
    have h1' : lenF tb o k (lenStep tb o k 0) ≤ i := h1
    by_cases hs : 0 < (tb.getD (o + k) []).length
    · have : lenStep tb o k 0 = k + 1 := by unfold lenStep; rw [if_pos ⟨rfl, hs⟩]
      rw [this, lenF_keep _ _ _ _ (by omega)] at h1'
      omega
    · have : lenStep tb o k 0 = 0 := by unfold lenStep; rw [if_neg (by omega)]
      rw [this] at h1'
      by_cases hi : i = k
      · subst hi; exact List.eq_nil_of_length_eq_zero (by omega)
      · exact lenF_empty tb o k i h1' (by omega)
theorem bed_get (tb : List (List Idd)) (o j : Nat) (hj : j < 40) : (bedOfT tb o).getD j [] = tb.getD (o + j) [] := by
  unfold bedOfT
  by_cases h : j < lenF tb o 40 0
  · rw [List.getD_eq_getElem?_getD, List.getElem?_map, List.getElem?_range h]; rfl
  · rw [List.getD_eq_getElem?_getD, List.getElem?_eq_none (by simp; omega), lenF_empty tb o 40 j (by omega) hj]; rfl
theorem rep_bed (tb : List (List Idd)) (h : tb.length = 80) (hl : ∀ o, (bedOfT tb o).length ≤ 40) : Rep (stkF (bedOfT tb 0)) (stkF (bedOfT tb 40)) tb :=
  rep_mk (fun l => ⟨none, l⟩) (fun _ => rfl) h (hl 0) (hl 40) (fun j hj => bed_get tb 0 j hj) (fun j hj => bed_get tb 40 j hj)
theorem set_perm (tb : List (List Idd)) (p : Nat) (l : List Idd) (hp : p < tb.length) : (tb.set p l).flatten.Perm (l ++ (tb.set p []).flatten) := by
  rw [List.set_eq_take_append_cons_drop, if_pos hp, List.set_eq_take_append_cons_drop, if_pos hp, List.flatten_append, List.flatten_append, List.flatten_cons, List.flatten_cons, List.nil_append]
  exact List.perm_append_comm_assoc _ _ _
theorem set_same (tb : List (List Idd)) (p : Nat) : tb.set p (tb.getD p []) = tb := by
  apply List.ext_getElem
  · simp
  · intro j h1 h2
    by_cases h : p = j
    · subst h; rw [List.getElem_set_self, List.getD_eq_getElem?_getD, List.getElem?_eq_getElem h2]; rfl
    · rw [List.getElem_set_ne h]
theorem get_perm (tb : List (List Idd)) (p : Nat) (hp : p < tb.length) : tb.flatten.Perm (tb.getD p [] ++ (tb.set p []).flatten) := by
  have h := set_perm tb p (tb.getD p []) hp
  rwa [set_same] at h
theorem getD_set (tb : List (List Idd)) (p j : Nat) (l : List Idd) (hp : p < tb.length) : (tb.set p l).getD j [] = if j = p then l else tb.getD j [] := by
  by_cases h : j = p
  · subst h; rw [if_pos rfl, List.getD_eq_getElem?_getD, List.getElem?_set_self hp]; rfl
  · rw [if_neg h, List.getD_eq_getElem?_getD, List.getElem?_set_ne (by omega), ← List.getD_eq_getElem?_getD]
end Tst
end

section
open Go Go.Lf Go.Proofs
namespace Tst
structure Inv (s : List (List Idd) × Nat) : Prop where
  l : s.1.length = 80
  p : s.1.flatten.Perm ((List.range s.2).map idAt)
theorem inv_step {s : List (List Idd) × Nat} (h : Inv s) {t : Nat} (ht : t < 80) : Inv (s.1.set t (s.1.getD t [] ++ [idAt s.2]), s.2 + 1) := by
  refine ⟨by simpa using h.l, ?_⟩
  have h1 := set_perm s.1 t (s.1.getD t [] ++ [idAt s.2]) (by rw [h.l]; exact ht)
  have h2 := get_perm s.1 t (by rw [h.l]; exact ht)
  show (s.1.set t (s.1.getD t [] ++ [idAt s.2])).flatten.Perm ((List.range (s.2 + 1)).map idAt)
  rw [List.range_succ, List.map_append]
  refine h1.trans ?_
  rw [List.append_assoc]
  refine (List.perm_append_comm_assoc _ _ _).trans ?_
  refine ((h2.symm.append_left _).trans ?_)
  exact (List.perm_append_comm).trans (h.p.append_right _)
theorem inv_putN {t : Nat} (ht : t < 80) : ∀ (j : Nat) {s : List (List Idd) × Nat}, Inv s → Inv (putN t j s)
  | 0, s, h => h
  | j + 1, s, h => by
    rw [putN]
    split
    · exact inv_putN ht j (inv_step h ht)
    · exact h
theorem inv_ofL : ∀ (l : List Pt) (hl : ∀ p ∈ l, 0 ≤ p.a) {s : List (List Idd) × Nat}, Inv s → Inv (ofL l s)
  | [], _, s, h => h
  | p :: l, hl, s, h => by
    have hp := hl p (by simp)
    exact inv_ofL l (fun q hq => hl q (by simp [hq])) (inv_putN (by have : p.a % 80 < 80 := Int.emod_lt_of_pos _ (by omega); omega) _ h)
theorem n_ofL : ∀ (l : List Pt) (s : List (List Idd) × Nat), (ofL l s).2 ≤ s.2 + 4 * l.length
  | [], s => Nat.le_refl _
  | p :: l, s => by
    refine Nat.le_trans (n_ofL l (putP p s)) ?_
    have h1 : (putP p s).2 ≤ s.2 + (p.m % 5).toNat := putN_n _ _ _
    have h2 : p.m % 5 < 5 := Int.emod_lt_of_pos _ (by omega)
    rw [List.length_cons]; omega
theorem idAt_inj {a b : Nat} (h : idAt a = idAt b) : a = b := by
  unfold idAt at h
  injection h with h1 h2
  omega
theorem inv0 : Inv (List.replicate 80 [], 0) := ⟨by simp, by simp⟩
theorem idAt_ok {n : Nat} (h : n ≤ 160) : nmI (idAt n) = true := by
  unfold nmI idAt namedB
  simp
  omega
theorem good_ofT (x : List Pt) (hx : ∀ p ∈ x, 0 ≤ p.a) : Good' (ofT x) := by
  have hi := inv_ofL (x.take 40) (fun p hp => hx p (List.mem_of_mem_take hp)) inv0
  have hn := n_ofL (x.take 40) (List.replicate 80 [], 0)
  have hl : (x.take 40).length ≤ 40 := by simp; omega
  refine ⟨fun i => ofT_short x i, fun p hp => ?_, ?_⟩
  · obtain ⟨k, hk, rfl⟩ := List.mem_map.1 (hi.p.mem_iff.1 hp)
    have := List.mem_range.1 hk
    exact idAt_ok (by omega)
  · refine hi.p.nodup_iff.2 ?_
    rw [List.nodup_iff_pairwise_ne, List.pairwise_map]
    exact (List.nodup_iff_pairwise_ne.1 List.nodup_range).imp fun h e => h (idAt_inj e)
end Tst
end

section
open Go Go.Lf Go.Proofs
namespace Tst
def SmOk (F B G C : List Stk) (r : Bool) : Prop := (∀ s ∈ F, s.l.length ≤ 4294967296) ∧ (∀ s ∈ B, s.l.length ≤ 4294967296) ∧ max F.length G.length < 2 ^ 62 ∧ max B.length C.length < 2 ^ 62 ∧ (sameB F G && sameB B C) = r
theorem smok (c1 c2 c3 c4 : Option Nat) (F B G C : List Stk) (r : Bool) (h : SmOk F B G C r) : PureC Try.prog 39 [beds (bsl c1 F) (bsl c2 B), beds (bsl c3 G) (bsl c4 C)] (bb r) := by
  obtain ⟨h1, h2, h3, h4, rfl⟩ := h
  exact same_c c1 c2 c3 c4 F B G C h1 h2 h3 h4
abbrev pe (v : Int) : Int := ndB (IntKind.u8.wrap (40 + Int.tmod v 40))
end Tst
end

section
open Go Go.Lf Go.Proofs
namespace Tst
theorem wrap80 {i : Nat} (h : i < 80) : IntKind.wrap IntKind.u8 (i : Int) = (i : Int) := wrap_u8 (by omega) (by omega)
theorem ndB_nat {i : Nat} (h : i < 80) : ndB (i : Int) = ((i / 40 : Nat) : Int) := by
  have := ndB_eq h
  rwa [wrap80 h] at this
theorem ndN_nat {i : Nat} (h : i < 80) : ndN (i : Int) = ((i % 40 + 1 : Nat) : Int) := by
  have := ndN_eq h
  rw [wrap80 h] at this
  rw [this]; omega
theorem ndV_nat {i : Nat} (h : i < 80) : ndV (ndB (i : Int)) (ndN (i : Int)) = true := by
  rw [ndB_nat h, ndN_nat h]
  have h1 : i / 40 = 0 ∨ i / 40 = 1 := by omega
  unfold ndV
  rcases h1 with h1 | h1 <;> rw [h1] <;> simp <;> omega
theorem stk_nat {F B : List Stk} {tb : List (List Idd)} (h : Rep F B tb) {i : Nat} (hi : i < 80) : stkAt (ndB (i : Int)) (ndN (i : Int)) F B = tb.getD i [] := by
  rw [ndB_nat hi, ndN_nat hi, h.stk (by omega) (by omega) (by omega)]
  congr 1
  omega
theorem with_nat {F B : List Stk} {tb : List (List Idd)} (h : Rep F B tb) {i : Nat} (hi : i < 80) (l : List Idd) : withT F B (ndB (i : Int)) (ndN (i : Int)) l = tb.set i l := by
  unfold withT
  rw [h.tb, ndB_nat hi, ndN_nat hi]
  congr 1
  omega
section
variable {F B : List Stk} {tb : List (List Idd)} (h : Rep F B tb) (g : Good' tb) {i k : Nat} (hi : i < 80) (hk : k < 80)
include h g hi hk
end
theorem same_nat {F B G C : List Stk} {tb ub : List (List Idd)} (h : Rep F B tb) (h2 : Rep G C ub) : (sameB F G && sameB B C) = decide (tb = ub) := by
  have hF := h.f
  have hB := h.b
  have hG := h2.f
  have hC := h2.b
  have key : (sameB F G && sameB B C) = true ↔ tb = ub := by
    unfold sameB sameAt
    rw [Bool.and_eq_true, List.all_eq_true, List.all_eq_true]
    constructor
    · rintro ⟨a, b⟩
      rw [h.list, h2.list]
      refine List.map_congr_left fun j hj => ?_
      have hj : j < 80 := List.mem_range.1 hj
      unfold stkN
      by_cases hj2 : j < 40
      · rw [if_pos hj2, if_pos hj2, show j % 40 = j by omega]
        by_cases hm : j < max F.length G.length
        · simpa using a j (List.mem_range.2 hm)
        · rw [stackOf_nat, stackOf_nat, if_neg (by omega), if_neg (by omega)]
      · rw [if_neg hj2, if_neg hj2, show j % 40 = j - 40 by omega]
        by_cases hm : j - 40 < max B.length C.length
        · simpa using b (j - 40) (List.mem_range.2 hm)
        · rw [stackOf_nat, stackOf_nat, if_neg (by omega), if_neg (by omega)]
    · rintro rfl
      constructor
      · intro j hj
        have hj := List.mem_range.1 hj
        have e := (h.at' j (by omega)).trans (h2.at' j (by omega)).symm
        unfold stkN at e
        rw [if_pos (by omega), if_pos (by omega), show j % 40 = j by omega] at e
        simpa using e
      · intro j hj
        have hj := List.mem_range.1 hj
        have e := (h.at' (40 + j) (by omega)).trans (h2.at' (40 + j) (by omega)).symm
        unfold stkN at e
        rw [if_neg (by omega), if_neg (by omega), show (40 + j) % 40 = j by omega] at e
        simpa using e
  by_cases e : tb = ub
  · rw [decide_eq_true e, key.2 e]
  · rw [decide_eq_false e]
    exact Bool.eq_false_iff.2 fun c => e (key.1 c)
theorem smok_nat {F B G C : List Stk} {tb ub : List (List Idd)} (h : Rep F B tb) (h2 : Rep G C ub) (g : Good' tb) {r : Bool} (hr : decide (tb = ub) = r) : SmOk F B G C r := by
  have hF := h.f
  have hB := h.b
  have hG := h2.f
  have hC := h2.b
  exact ⟨fun s hs => by have := h.len g s (.inl hs); omega, fun s hs => by have := h.len g s (.inr hs); omega, by omega, by omega, by rw [same_nat h h2, hr]⟩
end Tst
end

section
open Go Go.Lf Go.Proofs
namespace Tst
set_option maxHeartbeats 0
end Tst
end

section
open Go Go.Lf Go.Proofs
namespace Tst
def nIx (d i : Int) : Int := d * 40 + (i - 1)
def nInv (d i : Int) (j : Nat) : Int := if ndV d i = true ∧ nIx d i < j then nIx d i else -1
theorem nd_match {j : Nat} (hj : j < 80) (d i : Int) : (ndB (IntKind.wrap IntKind.u8 (j : Int)) == d && ndN (IntKind.wrap IntKind.u8 (j : Int)) == i) = decide (ndV d i = true ∧ nIx d i = j) := by
  rw [ndB_eq hj, ndN_eq hj]
  refine Bool.eq_iff_iff.2 ?_
  unfold ndV nIx
  simp only [Bool.and_eq_true, Bool.or_eq_true, beq_iff_eq, Bool.not_eq_true', decide_eq_false_iff_not, decide_eq_true_eq]
  omega
theorem nInv_hit {d i : Int} {j : Nat} (h : decide (ndV d i = true ∧ nIx d i = j) = true) : nInv d i (j + 1) = j := by
  have h := of_decide_eq_true h
  unfold nInv
  rw [if_pos ⟨h.1, by omega⟩, h.2]
theorem nInv_miss {d i : Int} {j : Nat} (h : decide (ndV d i = true ∧ nIx d i = j) = false) : nInv d i (j + 1) = nInv d i j := by
  have h := of_decide_eq_false h
  unfold nInv
  by_cases h1 : ndV d i = true ∧ nIx d i < j
  · rw [if_pos h1, if_pos ⟨h1.1, by omega⟩]
  · rw [if_neg h1, if_neg fun c => h1 ⟨c.1, by have : nIx d i ≠ j := fun e => h ⟨c.1, e⟩; omega⟩]
end Tst
namespace Tst
theorem nInv_0 (d i : Int) : nInv d i 0 = -1 := by
  unfold nInv
  by_cases h : ndV d i = true
  · have := h
    unfold ndV at this
    simp only [Bool.and_eq_true, Bool.or_eq_true, beq_iff_eq, Bool.not_eq_true', decide_eq_false_iff_not] at this
    rw [if_neg fun c => by have := c.2; unfold nIx at this; omega]
  · rw [if_neg fun c => h c.1]
theorem nInv_80 (d i : Int) : nInv d i 80 = if ndV d i = true then nIx d i else -1 := by
  unfold nInv
  by_cases h : ndV d i = true
  · have := h
    unfold ndV at this
    simp only [Bool.and_eq_true, Bool.or_eq_true, beq_iff_eq, Bool.not_eq_true', decide_eq_false_iff_not] at this
    rw [if_pos h, if_pos ⟨h, by unfold nIx; omega⟩]
  · rw [if_neg h, if_neg fun c => h c.1]
end Tst
end

section
open Go Go.Lf Go.Proofs
namespace Tst
theorem view_bedS (g : Nat → List Idd) : view (.agg (bedS g)) = .agg (bedS g) := by
  show AV.agg ((bedS g).map (remode (fun _ => .any) 11)) = _
  unfold bedS
  rw [List.map_map]
  congr 1
  refine List.map_congr_left fun i _ => ?_
  show AV.sl .any 30 none (((g i).map Idd.enc).map (mapE (remode (fun _ => .any) 10))) = _
  rw [List.map_map]; rfl
abbrev bxs (cf : Nat) (F : List Stk) (cb : Nat) (B : List Stk) : AV := beds (bsl (some cf) F) (bsl (some cb) B)
abbrev frE (X : List (List Idd)) : AV := .sl .fresh 62 (some X.length) (X.map FN)
def OfOk (x : List Pt) (g : Nat → List Idd) : Prop := PureC Try.prog 29 [psl none x] (.agg (bed80F g))
theorem ofok (x : List Pt) (g : Nat → List Idd) (h : OfOk x g) : PureC Try.prog 29 [psl none x] (.agg (bed80F g)) := h
def BdOk (g : Nat → List Idd) (X Y : List (List Idd)) : Prop := PureC Try.prog 30 [.agg (bedS g)] (.agg [frE X, frE Y])
theorem bdok (g : Nat → List Idd) (X Y : List (List Idd)) (h : BdOk g X Y) : PureC Try.prog 30 [.agg (bedS g)] (.agg [frE X, frE Y]) := h
def DfOk (g : Nat → List Idd) (cf cb : Nat) (F B : List Stk) (n : Int) : Prop := PureC Try.prog 32 [.agg (bedS g), bxs cf F cb B] (it n)
theorem dfok (g : Nat → List Idd) (cf cb : Nat) (F B : List Stk) (n : Int) (h : DfOk g cf cb F B n) : PureC Try.prog 32 [.agg (bedS g), bxs cf F cb B] (it n) := h
end Tst
end

section
open Go Go.Lf Go.Proofs
namespace Tst
theorem le_tab (g : Nat → List Idd) : Le Try.prog (.box (bed80F g)) (.box (bedS g)) :=
  Le.box (F2.map2 (fun i => Le.toAny (by simp) rfl (fun _ h => h) (F2.rfl' _)) (List.range 80))
theorem le_fnE {P : Program} (l : List Idd) : Le P (FN l) (Stk.enc ⟨none, l⟩) := Le.toAny (by simp) rfl (fun _ h => h) (F2.rfl' _)
theorem le_frE {P : Program} (x : List (List Idd)) : Le P (frE x) (bsl (some x.length) (stkF x)) := by
  have e : (stkF x).map Stk.enc = x.map fun l => Stk.enc ⟨none, l⟩ := by unfold stkF; rw [List.map_map]; rfl
  show Le P (.sl .fresh 62 (some x.length) (x.map FN)) (.sl .any 62 (some x.length) ((stkF x).map Stk.enc))
  rw [e]
  refine Le.toAny (by simp) (by simp) (fun sz h y hy => ?_) ?_
  · obtain ⟨l, hl, rfl⟩ := List.mem_map.1 hy
    have := h (FN l) (List.mem_map.2 ⟨l, hl, rfl⟩)
    exact this
  · rw [flat_ones (fun y hy => by obtain ⟨l, _, rfl⟩ := List.mem_map.1 hy; rfl), flat_ones (fun y hy => by obtain ⟨l, _, rfl⟩ := List.mem_map.1 hy; rfl)]
    exact F2.map2 (fun l => le_fnE l) x
theorem smapFN (k : Nat) (x : List (List Idd)) : (x.map FN).map (mapE (remode shareM (k + 2))) = x.map FN := by
  rw [List.map_map]
  refine List.map_congr_left fun l _ => ?_
  show AV.sl .fresh 30 none ((l.map Idd.enc).map (mapE (remode shareM (k + 1)))) = _
  rw [map_re]; rfl
theorem lenF_last (tb : List (List Idd)) (o : Nat) : ∀ k a, lenF tb o k a = a ∨ (a = 0 ∧ ∃ i, lenF tb o k a = i + 1 ∧ 0 < (tb.getD (o + i) []).length)
  | 0, a => .inl rfl
  | k + 1, a => by
    show lenF tb o k (lenStep tb o k a) = a ∨ (a = 0 ∧ ∃ i, lenF tb o k (lenStep tb o k a) = i + 1 ∧ 0 < (tb.getD (o + i) []).length)
    unfold lenStep
    split
    · rename_i h
      rw [lenF_keep tb o k (k + 1) (by omega)]
      exact .inr ⟨h.1, k, rfl, h.2⟩
    · exact lenF_last tb o k a
theorem capT_bed (tb : List (List Idd)) (o : Nat) : capT (bedOfT tb o).length (stkF (bedOfT tb o)) = 0 := by
  unfold capT
  rw [if_neg]
  rintro (⟨h1, h2⟩ | h)
  · have hl : (stkF (bedOfT tb o)).length = lenF tb o 40 0 := by simp [stkF, bedOfT]
    rcases lenF_last tb o 40 0 with e | ⟨_, i, e, hi⟩
    · omega
    · have h3 : ((stkF (bedOfT tb o)).getD i default).l = tb.getD (o + i) [] := by
        unfold stkF bedOfT
        rw [List.map_map, List.getD_eq_getElem?_getD, List.getElem?_map, List.getElem?_range (by omega)]; rfl
      rw [hl, e, show i + 1 - 1 = i by omega, h3] at h2
      omega
  · exact h (by simp [stkF])
theorem trim_last (l : List Stk) : ∀ n, trimL l n = 0 ∨ ∃ i, trimL l n = i + 1 ∧ (l.getD i default).l.length ≠ 0
  | 0 => .inl rfl
  | n + 1 => by
    unfold trimL
    split
    · exact trim_last l n
    · rename_i h; exact .inr ⟨n, rfl, h⟩
theorem capT_half (tb : List (List Idd)) (k : Nat) : capT (halfT tb k).length (stkW (halfT tb k)) = 0 := by
  unfold halfT
  generalize List.take 40 _ = L
  unfold capT
  rw [if_neg]
  rintro (⟨h1, h2⟩ | h)
  · have hl : (stkW (shT L)).length = trimL L L.length := by unfold stkW; rw [List.length_map, trimL_len]
    rcases trim_last L L.length with e | ⟨i, e, hi⟩
    · omega
    · have h3 := trimL_le L L.length
      have h4 : ((stkW (shT L)).getD i default).l = (L.getD i default).l := by
        unfold stkW shT
        rw [List.map_map, List.getD_eq_getElem?_getD, List.getElem?_map, List.getElem?_take_of_lt (by omega), List.getD_eq_getElem?_getD, List.getElem?_eq_getElem (show i < L.length by omega)]; rfl
      rw [hl, e, show i + 1 - 1 = i by omega, h4] at h2
      exact hi h2
  · exact h (by simp [stkW])
section
variable {F B : List Stk} {tb : List (List Idd)} (h : Rep F B tb)
include h
theorem nNes0 : ∀ k i, i + k = 80 → nNes tb F B k i = 0
  | 0, _, _ => rfl
  | k + 1, i, hi => by
    rw [nNes, nNes0 k (i + 1) (by omega)]
    unfold nNe
    rw [if_pos (h.at' i (by omega))]
variable (g : Good' tb)
include g
theorem df_rep {cf cb : Nat} (c1 : capT cf F = 0) (c2 : capT cb B = 0) : DfOk (fun i => tb.getD i []) cf cb F B 0 := by
  have hf := h.f
  have hb := h.b
  have := differs_c cf cb F B (fun s hs => by have := h.len g s (.inl hs); omega) (fun s hs => by have := h.len g s (.inr hs); omega) (by omega) (by omega) tb h.l g.s
  unfold diffT at this
  rw [nNes0 h 80 0 rfl, c1, c2] at this
  exact this
end
theorem mem_flat {tb : List (List Idd)} {j : Nat} {p : Idd} (h : p ∈ tb.getD j []) : p ∈ tb.flatten := by
  by_cases hj : j < tb.length
  · rw [List.getD_eq_getElem?_getD, List.getElem?_eq_getElem hj] at h
    exact List.mem_flatten.2 ⟨_, List.getElem_mem hj, h⟩
  · rw [List.getD_eq_getElem?_getD, List.getElem?_eq_none (by omega)] at h
    cases h
theorem flat_mem {tb : List (List Idd)} {p : Idd} (h : p ∈ tb.flatten) : ∃ j, j < tb.length ∧ p ∈ tb.getD j [] := by
  obtain ⟨l, hl, hp⟩ := List.mem_flatten.1 h
  obtain ⟨j, hj, rfl⟩ := List.mem_iff_getElem.1 hl
  exact ⟨j, hj, by rw [List.getD_eq_getElem?_getD, List.getElem?_eq_getElem hj]; exact hp⟩
section
variable {F B : List Stk} {tb : List (List Idd)} (h : Rep F B tb) (g : Good' tb)
include h g
end
theorem up64 {k : Nat} (h : k < 2 ^ 61) : IntKind.wrap IntKind.i64 ((k : Int) + 1) = ((k + 1 : Nat) : Int) := by rw [wrap_id' (by omega) (by omega)]; omega
theorem drop_cons {α : Type} (l : List α) {k : Nat} (h : k < l.length) (d : α) : l.drop k = l.getD k d :: l.drop (k + 1) := by
  rw [List.drop_eq_getElem_cons h, List.getD_eq_getElem?_getD, List.getElem?_eq_getElem h]; rfl
theorem id_eq (a b : Idd) : (a.y == b.y && a.n == b.n) = decide (a = b) := by
  cases a; cases b
  refine Bool.eq_iff_iff.2 ?_
  simp only [Bool.and_eq_true, beq_iff_eq, decide_eq_true_eq, Idd.mk.injEq]
end Tst
end

section
open Go Go.Lf Go.Proofs
namespace Tst
abbrev frX (X : List (List Idd)) : AV := .sl .fresh 62 (some X.length) (X.map FW)
def SmO (F B G C : List Stk) (r : Bool) : Prop := ∀ c1 c2 c3 c4, PureC Try.prog 39 [bxs c1 F c2 B, bxs c3 G c4 C] (bb r)
theorem smo (c1 c2 c3 c4 : Nat) (F B G C : List Stk) (r : Bool) (h : SmO F B G C r) : PureC Try.prog 39 [bxs c1 F c2 B, bxs c3 G c4 C] (bb r) := h c1 c2 c3 c4
end Tst
end

section
open Go Go.Lf Go.Proofs
namespace Tst
set_option maxHeartbeats 0
end Tst
end

section
open Go Go.Lf Go.Proofs
namespace Tst
theorem topNo {env : Env} (h : ∀ p ∈ env, leafRoot p.2 = none) (r : Nat) : topOnly r env := by
  intro t y hl hy
  have : ∃ p ∈ env, p.2 = y := by
    clear hy
    induction env with
    | nil => cases hl
    | cons p env ih =>
      obtain ⟨s, z⟩ := p
      unfold Lf.lk at hl
      split at hl
      · injection hl with hl; exact ⟨(s, z), List.mem_cons_self, hl⟩
      · obtain ⟨q, hq, e⟩ := ih (fun q hq => h q (by simp [hq])) hl
        exact ⟨q, by simp [hq], e⟩
  obtain ⟨p, hp, rfl⟩ := this
  rw [h p hp] at hy; cases hy
theorem Tri.moreBox {P : Program} {cx : Cx} {c : Code} {env env' : Env} {ex : Ex} {r : Nat} {cs : List AV} (hr : lk env r = some (.box cs)) (htop : topOnly r env) (h : Tri P cx c ((r, .box (cs.map share)) :: env) ex env') : Tri P cx c env ex env' := by
  intro ρ hρ F B0 w0 S0 ds a w Q hag hQ
  obtain ⟨hd, hN, n, S, Os, hn, hgr, hst⟩ := hag
  obtain ⟨n1, S', Os', g, C, T, _, _, hst', hS, hS', _⟩ := hst.shareBox hr htop
  refine h ρ hρ F B0 w0 S0 ds a w Q ⟨hd, hN, n1 + 1, S', Os', by omega, ⟨fun b hb => hS b (hgr.1 b hb), fun b hb => ?_⟩, hst'⟩ hQ
  rcases hS' b hb with h | h
  · exact hgr.2 b h
  · exact .inr (hst.lt r b h).1
theorem share_SH (l : List Idd) : share (SH l) = SH l := by
  show AV.sl .any 30 none ((l.map Idd.enc).map (mapE (remode shareM 11))) = _
  rw [map_re]; rfl
theorem share_own (c : Option Nat) (l : List Idd) : share (.sl .own 30 c (l.map Idd.enc)) = .sl .fresh 30 c (l.map Idd.enc) := by
  show AV.sl .fresh 30 c ((l.map Idd.enc).map (mapE (remode shareM 11))) = _
  rw [map_re]
theorem le_row {tb : List (List Idd)} {b : Nat} (l : List Idd) {y : AV} (hb : b < tb.length) (hy : Le Try.prog y (SH l)) : Le Try.prog (.box (List.take b (tb.map SH) ++ [y] ++ List.drop (b + 1) (tb.map SH))) (.box ((tb.set b l).map SH)) := by
  rw [← set_SH l hb]
  refine Le.box ?_
  have ap : ∀ {a b c d : List AV}, F2 (Le Try.prog) a b → F2 (Le Try.prog) c d → F2 (Le Try.prog) (a ++ c) (b ++ d) := by
    intro a b c d h1 h2
    induction h1 with
    | nil => exact h2
    | cons h _ ih => exact .cons h ih
  exact ap (ap (F2.rfl' _) (.cons hy .nil)) (F2.rfl' _)
theorem share_row (tb : List (List Idd)) (b : Nat) (c : Option Nat) (l : List Idd) : (List.take b (tb.map SH) ++ [AV.sl .own 30 c (l.map Idd.enc)] ++ List.drop (b + 1) (tb.map SH)).map share = List.take b (tb.map SH) ++ [AV.sl .fresh 30 c (l.map Idd.enc)] ++ List.drop (b + 1) (tb.map SH) := by
  have e : (tb.map SH).map share = tb.map SH := by
    rw [List.map_map]
    exact List.map_congr_left fun l _ => share_SH l
  rw [List.map_append, List.map_append, List.map_take, List.map_drop, e, List.map_cons, List.map_nil, share_own]
theorem le_fr30 (c : Option Nat) (l : List Idd) : Le Try.prog (.sl .fresh 30 c (l.map Idd.enc)) (SH l) := fun B0 w S n v O h => Le.cap B0 w S n v O (Le.toAny (ys := l.map Idd.enc) (by simp) rfl (fun _ h => h) (F2.rfl' _) B0 w S n v O h)
theorem nInv_nat {d i : Int} (h : ndV d i = true) : ∃ I : Nat, I < 80 ∧ d = ndB (I : Int) ∧ i = ndN (I : Int) ∧ nInv d i 80 = (I : Int) := by
  obtain ⟨h1, h2, h3⟩ := ndV_in h
  refine ⟨d.toNat * 40 + (i - 1).toNat, by omega, ?_, ?_, ?_⟩
  · rw [ndB_nat (by omega)]; omega
  · rw [ndN_nat (by omega)]; omega
  · rw [nInv_80, if_pos h]; unfold nIx; omega
end Tst
end

section
open Go Go.Lf Go.Proofs
namespace Tst
def SEr (F B : List Stk) (d i : Int) (l : List Idd) (r : Int) : Prop := ∀ cf cb c, PureC Try.prog 38 [bxs cf F cb B, ndl d i, isl c l] (nilR r)
theorem ser (cf cb : Nat) (c : Option Nat) (F B : List Stk) (d i r : Int) (l : List Idd) (h : SEr F B d i l r) : PureC Try.prog 38 [bxs cf F cb B, ndl d i, isl c l] (nilR r) := h cf cb c
def SO (F B : List Stk) (d i : Int) (l : List Idd) (X Y : List (List Idd)) : Prop := ∀ cf cb c, PureC Try.prog 38 [bxs cf F cb B, ndl d i, isl c l] (.tup [.agg [frX X, frX Y], it 0])
theorem so (cf cb : Nat) (c : Option Nat) (F B : List Stk) (d i : Int) (l : List Idd) (X Y : List (List Idd)) (h : SO F B d i l X Y) : PureC Try.prog 38 [bxs cf F cb B, ndl d i, isl c l] (.tup [.agg [frX X, frX Y], it 0]) := h cf cb c
def AtO (F B : List Stk) (d i : Int) (l : List Idd) : Prop := ∀ cf cb, PureC Try.prog 33 [bxs cf F cb B, ndl d i] (iow (some l.length) l)
theorem ato (cf cb : Nat) (F B : List Stk) (d i : Int) (l : List Idd) (h : AtO F B d i l) : PureC Try.prog 33 [bxs cf F cb B, ndl d i] (iow (some l.length) l) := h cf cb
end Tst
end
