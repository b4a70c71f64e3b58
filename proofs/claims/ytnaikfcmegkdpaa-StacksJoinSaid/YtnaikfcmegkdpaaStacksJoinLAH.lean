/- Part 8 of the evaluator and of the contracts that the claim uses. -/
import Derived.Test.YtnaikfcmegkdpaaStacksJoinLAA
import Derived.Test.YtnaikfcmegkdpaaStacksJoinLAB
import Derived.Test.YtnaikfcmegkdpaaStacksJoinLAC
import Derived.Test.YtnaikfcmegkdpaaStacksJoinLAD
import Derived.Test.YtnaikfcmegkdpaaStacksJoinLAE
import Derived.Test.YtnaikfcmegkdpaaStacksJoinLAF
import Derived.Test.YtnaikfcmegkdpaaStacksJoinLAG
set_option linter.unusedVariables false
set_option linter.unusedSimpArgs false
set_option linter.constructorNameAsVariable false

section
open Go Go.Lf Go.Proofs
namespace Tst
set_option maxHeartbeats 0
theorem jz0_0 (x : List Pt) (d i e k : Int) : Tri Try.prog (cxN 163 0) (regAt Try.f11 0) ([(0, psl none x), (1, ndl d i), (2, ndl e k)] ) (Ex.normal) ([(0, AV.sl Mode.any 87 none (List.map Pt.enc x)), (4, AV.box [ub d, it i]), (5, AV.box [ub e, it k])]) :=
  evA_ok (H := h11) (ans := [.c, .c, .c]) (ps := []) (ans' := []) (base 163 0) cxA_K.1 cxA_K.2 _ (by kernel_rfl)  allp_nil
theorem jz1_0 (x : List Pt) (g : Nat → List Idd) (y4 y5 : List AV) (hg : OfOk x g) : Tri Try.prog (cxN 163 0) (regAt Try.f11 1) ([(0, psl none x), (4, .box y4), (5, .box y5)] ) (Ex.normal) ([(4, AV.box y4), (5, AV.box y5), (7, AV.box (bed80F g))]) :=
  evA_ok (H := h11) (ans := [.c, .r (AV.sl Mode.any 87 none (List.map Pt.enc x)), .r (AV.agg (bed80F g)), .c, .r (AV.agg (bed80F g)), .c, .c]) (ps := [view (AV.sl Mode.any 87 none (List.map Pt.enc x)) = AV.sl Mode.any 87 none (List.map Pt.enc x), PureC Try.prog 29 [AV.sl Mode.any 87 none (List.map Pt.enc x)] (AV.agg (bed80F g)), normR (AV.agg (bed80F g)) = AV.agg (bed80F g)]) (ans' := []) (base 163 0) cxA_K.1 cxA_K.2 _ (by kernel_rfl)  (allp (by first | exact view_ps _ _ _ | exact view_u8 _ _ _ | rfl | exact view_yn _ _ _ _ _ _ _ | exact view_id _ _ _ | exact view_stk _ _ _ | exact view_beds _ _ _ _ _ _ | exact view_pt _ _ _) (allp (by apply ofok <;> (first | assumption | rfl | (simp at * <;> omega))) (allp (by first | rfl | exact normR_bed80F _) allp_nil)))
theorem jz2_0 (g : Nat → List Idd) (X Y : List (List Idd)) (y4 y5 : List AV) (hg : BdOk g X Y) (g0 : AV.agg (bed80F g) = AV.agg (bed80F g)) (g1 : AV.agg [AV.sl Mode.fresh 62 (some (List.length X)) (List.map (mapE (remode shareM (10 : Nat))) (List.map FN X)), AV.sl Mode.fresh 62 (some (List.length Y)) (List.map (mapE (remode shareM (10 : Nat))) (List.map FN Y))] = AV.agg [AV.sl Mode.fresh 62 (some (List.length X)) (List.map FN X), AV.sl Mode.fresh 62 (some (List.length Y)) (List.map FN Y)]) : Tri Try.prog (cxN 163 0) (regAt Try.f11 2) ([(4, .box y4), (5, .box y5), (7, .box (bed80F g))] ) (Ex.normal) ([(4, AV.box y4), (5, AV.box y5), (7, AV.box (bed80F g)), (8, AV.box [AV.sl Mode.fresh 62 (some (List.length X)) (List.map FN X), AV.sl Mode.fresh 62 (some (List.length Y)) (List.map FN Y)])]) :=
  evA_ok (H := h11) (ans := [.r (AV.agg (bed80F g)), .r (AV.agg [AV.sl Mode.fresh 62 (some (List.length X)) (List.map FN X), AV.sl Mode.fresh 62 (some (List.length Y)) (List.map FN Y)]), .c, .r (AV.agg [AV.sl Mode.fresh 62 (some (List.length X)) (List.map FN X), AV.sl Mode.fresh 62 (some (List.length Y)) (List.map FN Y)]), .c, .c]) (ps := [AV.agg (bed80F g) = AV.agg (bed80F g), PureC Try.prog 30 [view (AV.agg (bed80F g))] (AV.agg [AV.sl Mode.fresh 62 (some (List.length X)) (List.map FN X), AV.sl Mode.fresh 62 (some (List.length Y)) (List.map FN Y)]), AV.agg [AV.sl Mode.fresh 62 (some (List.length X)) (List.map (mapE (remode shareM (10 : Nat))) (List.map FN X)), AV.sl Mode.fresh 62 (some (List.length Y)) (List.map (mapE (remode shareM (10 : Nat))) (List.map FN Y))] = AV.agg [AV.sl Mode.fresh 62 (some (List.length X)) (List.map FN X), AV.sl Mode.fresh 62 (some (List.length Y)) (List.map FN Y)]]) (ans' := []) (base 163 0) cxA_K.1 cxA_K.2 _ (by kernel_rfl)  (allp g0 (allp (by (first | rw [view_bed80F, view_frN] | rw [view_bed80F, view_beds] | rw [view_bedS, view_frN] | rw [view_bedS, view_frW] | rw [view_bedS, view_beds] | rw [view_bed80F] | rw [view_bedS]); apply bdok <;> (first | assumption | rfl | (simp at * <;> omega))) (allp g1 allp_nil)))
theorem jz3e_0 (cf cb : Nat) (F B : List Stk) (y7 : List AV) (d i e k r : Int) (hj : JEr F B d i e k r) : Tri Try.prog (cxN 163 0) (regAt Try.f11 3) ([(4, .box [ub d, it i]), (5, .box [ub e, it k]), (7, .box y7), (8, .box [bsl (some cf) F, bsl (some cb) B])] ) (Ex.normal) ([(4, AV.box [ub d, it i]), (5, AV.box [ub e, it k]), (7, AV.box y7), (8, AV.box [bsl (some cf) F, bsl (some cb) B]), (9, AV.box [niln, niln]), (10, it r)]) :=
  evA_ok (H := h11) (ans := [.c, .c, .c, .r (AV.tup [AV.agg [niln, niln], it r]), .c, .c, .c, .c, .c, .c, .c, .c]) (ps := [PureC Try.prog 40 [view (AV.agg [bsl (some cf) F, bsl (some cb) B]), AV.agg [ub d, it i], AV.agg [ub e, it k]] (AV.tup [AV.agg [niln, niln], it r])]) (ans' := []) (base 163 0) cxA_K.1 cxA_K.2 _ (by kernel_rfl)  (allp (by (first | rw [view_frW, view_frN] | rw [view_beds, view_beds] | rw [view_yn] | rw [view_two] | rw [view_twoI] | rw [view_beds] | rw [view_frW] | rw [view_frN] | rw [view_twoF] | skip); apply jer <;> (first | assumption | rfl | (simp at * <;> omega))) allp_nil)
theorem jz3o_0 (cf cb : Nat) (F B : List Stk) (y7 : List AV) (d i e k : Int) (X Y : List (List Idd)) (hj : JO F B d i e k X Y) (g0 : AV.agg [AV.sl Mode.fresh 62 (some (List.length X)) (List.map (mapE (remode shareM (10 : Nat))) (List.map FW X)), AV.sl Mode.fresh 62 (some (List.length Y)) (List.map (mapE (remode shareM (10 : Nat))) (List.map FW Y))] = AV.agg [AV.sl Mode.fresh 62 (some (List.length X)) (List.map FW X), AV.sl Mode.fresh 62 (some (List.length Y)) (List.map FW Y)]) : Tri Try.prog (cxN 163 0) (regAt Try.f11 3) ([(4, .box [ub d, it i]), (5, .box [ub e, it k]), (7, .box y7), (8, .box [bsl (some cf) F, bsl (some cb) B])] ) (Ex.normal) ([(4, AV.box [ub d, it i]), (5, AV.box [ub e, it k]), (7, AV.box y7), (8, AV.box [bsl (some cf) F, bsl (some cb) B]), (9, AV.box [AV.sl Mode.fresh 62 (some (List.length X)) (List.map FW X), AV.sl Mode.fresh 62 (some (List.length Y)) (List.map FW Y)]), (10, it 0)]) :=
  evA_ok (H := h11) (ans := [.c, .c, .c, .r (AV.tup [AV.agg [AV.sl Mode.fresh 62 (some (List.length X)) (List.map FW X), AV.sl Mode.fresh 62 (some (List.length Y)) (List.map FW Y)], it 0]), .c, .c, .c, .r (AV.agg [AV.sl Mode.fresh 62 (some (List.length X)) (List.map FW X), AV.sl Mode.fresh 62 (some (List.length Y)) (List.map FW Y)]), .c, .c, .c, .c]) (ps := [PureC Try.prog 40 [view (AV.agg [bsl (some cf) F, bsl (some cb) B]), AV.agg [ub d, it i], AV.agg [ub e, it k]] (AV.tup [AV.agg [AV.sl Mode.fresh 62 (some (List.length X)) (List.map FW X), AV.sl Mode.fresh 62 (some (List.length Y)) (List.map FW Y)], it 0]), AV.agg [AV.sl Mode.fresh 62 (some (List.length X)) (List.map (mapE (remode shareM (10 : Nat))) (List.map FW X)), AV.sl Mode.fresh 62 (some (List.length Y)) (List.map (mapE (remode shareM (10 : Nat))) (List.map FW Y))] = AV.agg [AV.sl Mode.fresh 62 (some (List.length X)) (List.map FW X), AV.sl Mode.fresh 62 (some (List.length Y)) (List.map FW Y)]]) (ans' := []) (base 163 0) cxA_K.1 cxA_K.2 _ (by kernel_rfl)  (allp (by (first | rw [view_frW, view_frN] | rw [view_beds, view_beds] | rw [view_yn] | rw [view_two] | rw [view_twoI] | rw [view_beds] | rw [view_frW] | rw [view_frN] | rw [view_twoF] | skip); apply jo <;> (first | assumption | rfl | (simp at * <;> omega))) (allp g0 allp_nil))
theorem jz4_0 (y4 y5 y7 y8 y9 : List AV) (r : Int) : Tri Try.prog (cxN 163 0) (regAt Try.f11 4) ([(4, .box y4), (5, .box y5), (7, .box y7), (8, .box y8), (9, .box y9), (10, it r)] ) (Ex.normal) ([(4, AV.box y4), (5, AV.box y5), (7, AV.box y7), (8, AV.box y8), (9, AV.box y9), (10, it r), (11, it (-1)), (12, it (-1))]) :=
  evA_ok (H := h11) (ans := [.c, .c]) (ps := []) (ans' := []) (base 163 0) cxA_K.1 cxA_K.2 _ (by kernel_rfl)  allp_nil
theorem jz5_0 (y4 y5 y7 y8 y9 : List AV) (r a b : Int) : Tri Try.prog (cxN 163 0) (regAt Try.f11 5) ([(4, .box y4), (5, .box y5), (7, .box y7), (8, .box y8), (9, .box y9), (10, it r), (11, it a), (12, it b)] ) (Ex.normal) ([(4, AV.box y4), (5, AV.box y5), (7, AV.box y7), (8, AV.box y8), (9, AV.box y9), (10, it r), (11, it a), (12, it b), (13, it 0)]) :=
  evA_ok (H := h11) (ans := [.c]) (ps := []) (ans' := []) (base 163 0) cxA_K.1 cxA_K.2 _ (by kernel_rfl)  allp_nil
theorem jz12_0 (y4 y5 y7 y8 y9 : List AV) (r a b : Int) : Tri Try.prog (cxN 163 0) (regAt Try.f11 12) ([(4, .box y4), (5, .box y5), (7, .box y7), (8, .box y8), (9, .box y9), (10, it r), (11, it a), (12, it b)] ) (Ex.normal) ([(4, AV.box y4), (5, AV.box y5), (7, AV.box y7), (8, AV.box y8), (9, AV.box y9), (10, it r), (11, it a), (12, it b), (14, it 0)]) :=
  evA_ok (H := h11) (ans := [.c]) (ps := []) (ans' := []) (base 163 0) cxA_K.1 cxA_K.2 _ (by kernel_rfl)  allp_nil
theorem jz13_0 (tb : List (List Idd)) (y8 y9 : List AV) (d i e k r a b : Int) (g0 : decide (a < (0 : Int)) = true) : Tri Try.prog (cxN 163 0) (codeAt Try.f11 13) ([(4, .box [ub d, it i]), (5, .box [ub e, it k]), (7, .box (tb.map SH)), (8, .box y8), (9, .box y9), (10, it r), (11, it a), (12, it b), (14, it 0)] ) (Ex.normal) ([(4, AV.box [ub d, it i]), (5, AV.box [ub e, it k]), (7, AV.box (List.map SH tb)), (8, AV.box y8), (9, AV.box y9), (10, it r), (11, it a), (12, it b), (14, it 1)]) :=
  evA_ok (H := h11) (ans := [.c, .c, .c, .b true, .c, .b true, .c, .b true, .c, .c, .c, .c, .c, .c, .c, .c, .c, .c, .c, .c, .c, .c, .c, .c, .c]) (ps := [decide (a < (0 : Int)) = true, decide (a < (0 : Int)) = true, decide (a < (0 : Int)) = true]) (ans' := []) (base 163 0) cxA_K.1 cxA_K.2 _ (by kernel_rfl)  (allp g0 (allp g0 (allp g0 allp_nil)))
theorem jz13_1 (tb : List (List Idd)) (y8 y9 : List AV) (d i e k r a b : Int) (g0 : decide (a < (0 : Int)) = false) (g1 : decide (b < (0 : Int)) = true) : Tri Try.prog (cxN 163 0) (codeAt Try.f11 13) ([(4, .box [ub d, it i]), (5, .box [ub e, it k]), (7, .box (tb.map SH)), (8, .box y8), (9, .box y9), (10, it r), (11, it a), (12, it b), (14, it 0)] ) (Ex.normal) ([(4, AV.box [ub d, it i]), (5, AV.box [ub e, it k]), (7, AV.box (List.map SH tb)), (8, AV.box y8), (9, AV.box y9), (10, it r), (11, it a), (12, it b), (14, it 1)]) :=
  evA_ok (H := h11) (ans := [.c, .c, .c, .b false, .c, .b false, .c, .b false, .c, .c, .b true, .c, .b true, .c, .b true, .c, .b true, .c, .b true, .c, .b true, .c, .c, .c, .c]) (ps := [decide (a < (0 : Int)) = false, decide (a < (0 : Int)) = false, decide (a < (0 : Int)) = false, decide (b < (0 : Int)) = true, decide (b < (0 : Int)) = true, decide (b < (0 : Int)) = true, decide (b < (0 : Int)) = true, decide (b < (0 : Int)) = true, decide (b < (0 : Int)) = true]) (ans' := []) (base 163 0) cxA_K.1 cxA_K.2 _ (by kernel_rfl)  (allp g0 (allp g0 (allp g0 (allp g1 (allp g1 (allp g1 (allp g1 (allp g1 (allp g1 allp_nil)))))))))
theorem jz13_2 (tb : List (List Idd)) (y8 y9 : List AV) (d i e k r a b : Int) (g0 : decide (a < (0 : Int)) = false) (g1 : decide (b < (0 : Int)) = false) (g2 : (d == e) = true) : Tri Try.prog (cxN 163 0) (codeAt Try.f11 13) ([(4, .box [ub d, it i]), (5, .box [ub e, it k]), (7, .box (tb.map SH)), (8, .box y8), (9, .box y9), (10, it r), (11, it a), (12, it b), (14, it 0)] ) (Ex.normal) ([(4, AV.box [ub d, it i]), (5, AV.box [ub e, it k]), (7, AV.box (List.map SH tb)), (8, AV.box y8), (9, AV.box y9), (10, it r), (11, it a), (12, it b), (14, it 1)]) :=
  evA_ok (H := h11) (ans := [.c, .c, .c, .b false, .c, .b false, .c, .b false, .c, .c, .b false, .c, .b false, .c, .c, .c, .b false, .c, .b false, .c, .c, .c, .b false, .c, .b false, .c, .c, .b true, .c]) (ps := [decide (a < (0 : Int)) = false, decide (a < (0 : Int)) = false, decide (a < (0 : Int)) = false, decide (b < (0 : Int)) = false, decide (b < (0 : Int)) = false, decide (b < (0 : Int)) = false, decide (b < (0 : Int)) = false, decide (b < (0 : Int)) = false, decide (b < (0 : Int)) = false, (d == e) = true]) (ans' := []) (base 163 0) cxA_K.1 cxA_K.2 _ (by kernel_rfl)  (allp g0 (allp g0 (allp g0 (allp g1 (allp g1 (allp g1 (allp g1 (allp g1 (allp g1 (allp g2 allp_nil))))))))))
theorem jz13_3 (tb : List (List Idd)) (y8 y9 : List AV) (d i e k r a b : Int) (g0 : decide (a < (0 : Int)) = false) (g1 : decide (b < (0 : Int)) = false) (g2 : (d == e) = false) (g3 : decide ((0 : Int) ≤ a ∧ a < (↑(80 : Nat) : Int) ∧ (0 : Nat) < (1 : Nat)) = true) (g4 : decide ((0 : Nat) = (0 : Nat) ∧ Int.toNat a * (1 : Nat) < List.length (List.map SH tb)) = true) (g5 : List.getD (List.map SH tb) (Int.toNat a * (1 : Nat)) AV.bad = SH (List.getD tb (Int.toNat a * (1 : Nat)) default)) (g6 : ((↑(List.length (List.map Idd.enc (List.getD tb (Int.toNat a * (1 : Nat)) default))) : Int) == (0 : Int)) = true) : Tri Try.prog (cxN 163 0) (codeAt Try.f11 13) ([(4, .box [ub d, it i]), (5, .box [ub e, it k]), (7, .box (tb.map SH)), (8, .box y8), (9, .box y9), (10, it r), (11, it a), (12, it b), (14, it 0)] ) (Ex.normal) ([(4, AV.box [ub d, it i]), (5, AV.box [ub e, it k]), (7, AV.box (List.map SH tb)), (8, AV.box y8), (9, AV.box y9), (10, it r), (11, it a), (12, it b), (14, it 13)]) :=
  evA_ok (H := h11) (ans := [.c, .c, .c, .b false, .c, .b false, .c, .b false, .c, .c, .b false, .c, .b false, .c, .c, .c, .b false, .c, .b false, .c, .c, .c, .b false, .c, .b false, .c, .c, .b false, .c, .b true, .c, .b true, .r (SH (List.getD tb (Int.toNat a * (1 : Nat)) default)), .c, .c, .c, .c, .b true, .c]) (ps := [decide (a < (0 : Int)) = false, decide (a < (0 : Int)) = false, decide (a < (0 : Int)) = false, decide (b < (0 : Int)) = false, decide (b < (0 : Int)) = false, decide (b < (0 : Int)) = false, decide (b < (0 : Int)) = false, decide (b < (0 : Int)) = false, decide (b < (0 : Int)) = false, (d == e) = false, decide ((0 : Int) ≤ a ∧ a < (↑(80 : Nat) : Int) ∧ (0 : Nat) < (1 : Nat)) = true, decide ((0 : Nat) = (0 : Nat) ∧ Int.toNat a * (1 : Nat) < List.length (List.map SH tb)) = true, List.getD (List.map SH tb) (Int.toNat a * (1 : Nat)) AV.bad = SH (List.getD tb (Int.toNat a * (1 : Nat)) default), ((↑(List.length (List.map Idd.enc (List.getD tb (Int.toNat a * (1 : Nat)) default))) : Int) == (0 : Int)) = true]) (ans' := []) (base 163 0) cxA_K.1 cxA_K.2 _ (by kernel_rfl)  (allp g0 (allp g0 (allp g0 (allp g1 (allp g1 (allp g1 (allp g1 (allp g1 (allp g1 (allp g2 (allp g3 (allp g4 (allp g5 (allp g6 allp_nil))))))))))))))
theorem jz13_4 (tb : List (List Idd)) (y8 y9 : List AV) (d i e k r a b : Int) (g0 : decide (a < (0 : Int)) = false) (g1 : decide (b < (0 : Int)) = false) (g2 : (d == e) = false) (g3 : decide ((0 : Int) ≤ a ∧ a < (↑(80 : Nat) : Int) ∧ (0 : Nat) < (1 : Nat)) = true) (g4 : decide ((0 : Nat) = (0 : Nat) ∧ Int.toNat a * (1 : Nat) < List.length (List.map SH tb)) = true) (g5 : List.getD (List.map SH tb) (Int.toNat a * (1 : Nat)) AV.bad = SH (List.getD tb (Int.toNat a * (1 : Nat)) default)) (g6 : ((↑(List.length (List.map Idd.enc (List.getD tb (Int.toNat a * (1 : Nat)) default))) : Int) == (0 : Int)) = false) (g7 : decide ((0 : Int) ≤ b ∧ b < (↑(80 : Nat) : Int) ∧ (0 : Nat) < (1 : Nat)) = true) (g8 : decide ((0 : Nat) = (0 : Nat) ∧ Int.toNat b * (1 : Nat) < List.length (List.map SH tb)) = true) (g9 : List.getD (List.map SH tb) (Int.toNat b * (1 : Nat)) AV.bad = SH (List.getD tb (Int.toNat b * (1 : Nat)) default)) (g10 : decide ((4 : Int) < IntKind.wrap IntKind.i64 ((↑(List.length (List.map Idd.enc (List.getD tb (Int.toNat a * (1 : Nat)) default))) : Int) + (↑(List.length (List.map Idd.enc (List.getD tb (Int.toNat b * (1 : Nat)) default))) : Int))) = true) : Tri Try.prog (cxN 163 0) (codeAt Try.f11 13) ([(4, .box [ub d, it i]), (5, .box [ub e, it k]), (7, .box (tb.map SH)), (8, .box y8), (9, .box y9), (10, it r), (11, it a), (12, it b), (14, it 0)] ) (Ex.normal) ([(4, AV.box [ub d, it i]), (5, AV.box [ub e, it k]), (7, AV.box (List.map SH tb)), (8, AV.box y8), (9, AV.box y9), (10, it r), (11, it a), (12, it b), (14, it 9)]) :=
  evA_ok (H := h11) (ans := [.c, .c, .c, .b false, .c, .b false, .c, .b false, .c, .c, .b false, .c, .b false, .c, .c, .c, .b false, .c, .b false, .c, .c, .c, .b false, .c, .b false, .c, .c, .b false, .c, .b true, .c, .b true, .r (SH (List.getD tb (Int.toNat a * (1 : Nat)) default)), .c, .c, .c, .c, .b false, .c, .b true, .c, .b true, .r (SH (List.getD tb (Int.toNat a * (1 : Nat)) default)), .c, .c, .c, .b true, .c, .b true, .r (SH (List.getD tb (Int.toNat b * (1 : Nat)) default)), .c, .c, .c, .c, .c, .b true, .c]) (ps := [decide (a < (0 : Int)) = false, decide (a < (0 : Int)) = false, decide (a < (0 : Int)) = false, decide (b < (0 : Int)) = false, decide (b < (0 : Int)) = false, decide (b < (0 : Int)) = false, decide (b < (0 : Int)) = false, decide (b < (0 : Int)) = false, decide (b < (0 : Int)) = false, (d == e) = false, decide ((0 : Int) ≤ a ∧ a < (↑(80 : Nat) : Int) ∧ (0 : Nat) < (1 : Nat)) = true, decide ((0 : Nat) = (0 : Nat) ∧ Int.toNat a * (1 : Nat) < List.length (List.map SH tb)) = true, List.getD (List.map SH tb) (Int.toNat a * (1 : Nat)) AV.bad = SH (List.getD tb (Int.toNat a * (1 : Nat)) default), ((↑(List.length (List.map Idd.enc (List.getD tb (Int.toNat a * (1 : Nat)) default))) : Int) == (0 : Int)) = false, decide ((0 : Int) ≤ a ∧ a < (↑(80 : Nat) : Int) ∧ (0 : Nat) < (1 : Nat)) = true, decide ((0 : Nat) = (0 : Nat) ∧ Int.toNat a * (1 : Nat) < List.length (List.map SH tb)) = true, List.getD (List.map SH tb) (Int.toNat a * (1 : Nat)) AV.bad = SH (List.getD tb (Int.toNat a * (1 : Nat)) default), decide ((0 : Int) ≤ b ∧ b < (↑(80 : Nat) : Int) ∧ (0 : Nat) < (1 : Nat)) = true, decide ((0 : Nat) = (0 : Nat) ∧ Int.toNat b * (1 : Nat) < List.length (List.map SH tb)) = true, List.getD (List.map SH tb) (Int.toNat b * (1 : Nat)) AV.bad = SH (List.getD tb (Int.toNat b * (1 : Nat)) default), decide ((4 : Int) < IntKind.wrap IntKind.i64 ((↑(List.length (List.map Idd.enc (List.getD tb (Int.toNat a * (1 : Nat)) default))) : Int) + (↑(List.length (List.map Idd.enc (List.getD tb (Int.toNat b * (1 : Nat)) default))) : Int))) = true]) (ans' := []) (base 163 0) cxA_K.1 cxA_K.2 _ (by kernel_rfl)  (allp g0 (allp g0 (allp g0 (allp g1 (allp g1 (allp g1 (allp g1 (allp g1 (allp g1 (allp g2 (allp g3 (allp g4 (allp g5 (allp g6 (allp g3 (allp g4 (allp g5 (allp g7 (allp g8 (allp g9 (allp g10 allp_nil)))))))))))))))))))))
theorem jz13_5 (tb : List (List Idd)) (y8 y9 : List AV) (d i e k r a b : Int) (g0 : decide (a < (0 : Int)) = false) (g1 : decide (b < (0 : Int)) = false) (g2 : (d == e) = false) (g3 : decide ((0 : Int) ≤ a ∧ a < (↑(80 : Nat) : Int) ∧ (0 : Nat) < (1 : Nat)) = true) (g4 : decide ((0 : Nat) = (0 : Nat) ∧ Int.toNat a * (1 : Nat) < List.length (List.map SH tb)) = true) (g5 : List.getD (List.map SH tb) (Int.toNat a * (1 : Nat)) AV.bad = SH (List.getD tb (Int.toNat a * (1 : Nat)) default)) (g6 : ((↑(List.length (List.map Idd.enc (List.getD tb (Int.toNat a * (1 : Nat)) default))) : Int) == (0 : Int)) = false) (g7 : decide ((0 : Int) ≤ b ∧ b < (↑(80 : Nat) : Int) ∧ (0 : Nat) < (1 : Nat)) = true) (g8 : decide ((0 : Nat) = (0 : Nat) ∧ Int.toNat b * (1 : Nat) < List.length (List.map SH tb)) = true) (g9 : List.getD (List.map SH tb) (Int.toNat b * (1 : Nat)) AV.bad = SH (List.getD tb (Int.toNat b * (1 : Nat)) default)) (g10 : decide ((4 : Int) < IntKind.wrap IntKind.i64 ((↑(List.length (List.map Idd.enc (List.getD tb (Int.toNat a * (1 : Nat)) default))) : Int) + (↑(List.length (List.map Idd.enc (List.getD tb (Int.toNat b * (1 : Nat)) default))) : Int))) = false) : Tri Try.prog (cxN 163 0) (codeAt Try.f11 13) ([(4, .box [ub d, it i]), (5, .box [ub e, it k]), (7, .box (tb.map SH)), (8, .box y8), (9, .box y9), (10, it r), (11, it a), (12, it b), (14, it 0)] ) (Ex.normal) ([(4, AV.box [ub d, it i]), (5, AV.box [ub e, it k]), (7, AV.box (List.map SH tb)), (8, AV.box y8), (9, AV.box y9), (10, it r), (11, it a), (12, it b), (14, it 0), (65, bb (decide ((4 : Int) < IntKind.wrap IntKind.i64 ((↑(List.length (List.map Idd.enc (List.getD tb (Int.toNat a * (1 : Nat)) default))) : Int) + (↑(List.length (List.map Idd.enc (List.getD tb (Int.toNat b * (1 : Nat)) default))) : Int)))))]) :=
  evA_ok (H := h11) (ans := [.c, .c, .c, .b false, .c, .b false, .c, .b false, .c, .c, .b false, .c, .b false, .c, .c, .c, .b false, .c, .b false, .c, .c, .c, .b false, .c, .b false, .c, .c, .b false, .c, .b true, .c, .b true, .r (SH (List.getD tb (Int.toNat a * (1 : Nat)) default)), .c, .c, .c, .c, .b false, .c, .b true, .c, .b true, .r (SH (List.getD tb (Int.toNat a * (1 : Nat)) default)), .c, .c, .c, .b true, .c, .b true, .r (SH (List.getD tb (Int.toNat b * (1 : Nat)) default)), .c, .c, .c, .c, .c, .b false]) (ps := [decide (a < (0 : Int)) = false, decide (a < (0 : Int)) = false, decide (a < (0 : Int)) = false, decide (b < (0 : Int)) = false, decide (b < (0 : Int)) = false, decide (b < (0 : Int)) = false, decide (b < (0 : Int)) = false, decide (b < (0 : Int)) = false, decide (b < (0 : Int)) = false, (d == e) = false, decide ((0 : Int) ≤ a ∧ a < (↑(80 : Nat) : Int) ∧ (0 : Nat) < (1 : Nat)) = true, decide ((0 : Nat) = (0 : Nat) ∧ Int.toNat a * (1 : Nat) < List.length (List.map SH tb)) = true, List.getD (List.map SH tb) (Int.toNat a * (1 : Nat)) AV.bad = SH (List.getD tb (Int.toNat a * (1 : Nat)) default), ((↑(List.length (List.map Idd.enc (List.getD tb (Int.toNat a * (1 : Nat)) default))) : Int) == (0 : Int)) = false, decide ((0 : Int) ≤ a ∧ a < (↑(80 : Nat) : Int) ∧ (0 : Nat) < (1 : Nat)) = true, decide ((0 : Nat) = (0 : Nat) ∧ Int.toNat a * (1 : Nat) < List.length (List.map SH tb)) = true, List.getD (List.map SH tb) (Int.toNat a * (1 : Nat)) AV.bad = SH (List.getD tb (Int.toNat a * (1 : Nat)) default), decide ((0 : Int) ≤ b ∧ b < (↑(80 : Nat) : Int) ∧ (0 : Nat) < (1 : Nat)) = true, decide ((0 : Nat) = (0 : Nat) ∧ Int.toNat b * (1 : Nat) < List.length (List.map SH tb)) = true, List.getD (List.map SH tb) (Int.toNat b * (1 : Nat)) AV.bad = SH (List.getD tb (Int.toNat b * (1 : Nat)) default), decide ((4 : Int) < IntKind.wrap IntKind.i64 ((↑(List.length (List.map Idd.enc (List.getD tb (Int.toNat a * (1 : Nat)) default))) : Int) + (↑(List.length (List.map Idd.enc (List.getD tb (Int.toNat b * (1 : Nat)) default))) : Int))) = false]) (ans' := []) (base 163 0) cxA_K.1 cxA_K.2 _ (by kernel_rfl)  (allp g0 (allp g0 (allp g0 (allp g1 (allp g1 (allp g1 (allp g1 (allp g1 (allp g1 (allp g2 (allp g3 (allp g4 (allp g5 (allp g6 (allp g3 (allp g4 (allp g5 (allp g7 (allp g8 (allp g9 (allp g10 allp_nil)))))))))))))))))))))
theorem jz19_0 (cf cb : Nat) (F B : List Stk) (g : Nat → List Idd) (y4 y5 y9 : List AV) (r w a b : Int) (q : (r != w) = false) (hd : DfOk g cf cb F B 0) (g0 : (r != w) = false) (g1 : AV.agg (bedS g) = AV.agg (bedS g)) : Tri Try.prog (cxN 163 0) (codeAt Try.f11 19) ([(4, .box y4), (5, .box y5), (7, .box (bedS g)), (8, .box [bsl (some cf) F, bsl (some cb) B]), (9, .box y9), (10, it r), (11, it a), (12, it b), (14, it w)] ) (Ex.normal) ([(4, AV.box y4), (5, AV.box y5), (7, AV.box (bedS g)), (8, AV.box [bsl (some cf) F, bsl (some cb) B]), (9, AV.box y9), (10, it r), (11, it a), (12, it b), (84, bb ((0 : Int) != (0 : Int)))]) :=
  evA_ok (H := h11) (ans := [.c, .c, .c, .c, .b false, .r (AV.agg (bedS g)), .b false, .c, .b false, .r (it 0), .c, .c, .b false, .c, .b false, .c, .c]) (ps := [(r != w) = false, AV.agg (bedS g) = AV.agg (bedS g), (r != w) = false, (r != w) = false, PureC Try.prog 32 [view (AV.agg (bedS g)), view (AV.agg [bsl (some cf) F, bsl (some cb) B])] (it 0), (r != w) = false, (r != w) = false]) (ans' := []) (base 163 0) cxA_K.1 cxA_K.2 _ (by kernel_rfl)  (allp g0 (allp g1 (allp g0 (allp g0 (allp (by (first | rw [view_bed80F, view_frN] | rw [view_bed80F, view_beds] | rw [view_bedS, view_frN] | rw [view_bedS, view_frW] | rw [view_bedS, view_beds] | rw [view_bed80F] | rw [view_bedS]); apply dfok <;> (first | assumption | rfl | (simp at * <;> omega))) (allp g0 (allp g0 allp_nil)))))))
theorem jz21e_0 (r : Int) (q : (r != (0 : Int)) = true) (g0 : (r != (0 : Int)) = true) : Tri Try.prog (cxN 163 0) (codeAt Try.f11 21) ([(9, .box [niln, niln]), (10, it r)] ) (Ex.ret) ([(6, bb true)]) :=
  evA_ok (H := h11) (ans := [.c, .c, .b true, .c, .c, .c, .c, .c, .c, .c, .c, .c, .c, .c, .c, .c, .c, .c, .c, .c, .c, .c, .c, .c, .r (bb true), .c, .c, .c, .c, .c]) (ps := [(r != (0 : Int)) = true, PureC Try.prog 37 [] (bb true)]) (ans' := []) (base 163 0) cxA_K.1 cxA_K.2 _ (by kernel_rfl)  (allp g0 (allp (by apply lives <;> (first | assumption | rfl | (simp at * <;> omega))) allp_nil))
theorem jz21o_0 (y4 y5 y7 y8 y9 : List AV) (a b : Int) : Tri Try.prog (cxN 163 0) (codeAt Try.f11 21) ([(4, .box y4), (5, .box y5), (7, .box y7), (8, .box y8), (9, .box y9), (10, it 0), (11, it a), (12, it b)] ) (Ex.normal) ([(4, AV.box y4), (5, AV.box y5), (7, AV.box y7), (8, AV.box y8), (9, AV.box y9), (11, it a), (12, it b), (86, bb ((0 : Int) != (0 : Int)))]) :=
  evA_ok (H := h11) (ans := [.c, .c, .c]) (ps := []) (ans' := []) (base 163 0) cxA_K.1 cxA_K.2 _ (by kernel_rfl)  allp_nil
theorem jz23_0 (tb : List (List Idd)) (y4 y5 y8 y9 : List AV) (a b : Int) (g0 : decide ((0 : Int) ≤ b ∧ b < (↑(80 : Nat) : Int) ∧ (0 : Nat) < (1 : Nat)) = true) (g1 : decide ((0 : Nat) = (0 : Nat) ∧ Int.toNat b * (1 : Nat) < List.length (List.map SH tb)) = true) (g2 : List.getD (List.map SH tb) (Int.toNat b * (1 : Nat)) AV.bad = SH (List.getD tb (Int.toNat b * (1 : Nat)) default)) : Tri Try.prog (cxN 163 0) (regAt Try.f11 23) ([(4, .box y4), (5, .box y5), (7, .box (tb.map SH)), (8, .box y8), (9, .box y9), (11, it a), (12, it b)] ) (Ex.normal) ([(4, AV.box y4), (5, AV.box y5), (7, AV.box (List.map SH tb)), (8, AV.box y8), (9, AV.box y9), (11, it a), (12, it b), (15, bb ((↑(List.length (List.map Idd.enc (List.getD tb (Int.toNat b * (1 : Nat)) default))) : Int) == (0 : Int)))]) :=
  evA_ok (H := h11) (ans := [.c, .b true, .c, .b true, .r (SH (List.getD tb (Int.toNat b * (1 : Nat)) default)), .c, .c, .c, .c]) (ps := [decide ((0 : Int) ≤ b ∧ b < (↑(80 : Nat) : Int) ∧ (0 : Nat) < (1 : Nat)) = true, decide ((0 : Nat) = (0 : Nat) ∧ Int.toNat b * (1 : Nat) < List.length (List.map SH tb)) = true, List.getD (List.map SH tb) (Int.toNat b * (1 : Nat)) AV.bad = SH (List.getD tb (Int.toNat b * (1 : Nat)) default)]) (ans' := []) (base 163 0) cxA_K.1 cxA_K.2 _ (by kernel_rfl)  (allp g0 (allp g1 (allp g2 allp_nil)))
theorem jz24_0 (g : Nat → List Idd) (y4 y5 y8 y9 : List AV) (a b : Int) (z : Bool) (g0 : AV.agg (bedS g) = AV.agg (bedS g)) : Tri Try.prog (cxN 163 0) (regAt Try.f11 24) ([(4, .box y4), (5, .box y5), (7, .box (bedS g)), (8, .box y8), (9, .box y9), (11, it a), (12, it b), (15, bb z)] ) (Ex.normal) ([(4, AV.box y4), (5, AV.box y5), (7, AV.box (bedS g)), (8, AV.box y8), (9, AV.box y9), (11, it a), (12, it b), (15, bb z), (16, AV.box (bedS g))]) :=
  evA_ok (H := h11) (ans := [.r (AV.agg (bedS g)), .c, .c]) (ps := [AV.agg (bedS g) = AV.agg (bedS g)]) (ans' := []) (base 163 0) cxA_K.1 cxA_K.2 _ (by kernel_rfl)  (allp g0 allp_nil)
theorem jz25_1 (tb : List (List Idd)) (y4 y8 y9 : List AV) (e k a b : Int) (z : Bool) (g0 : (e == (1 : Int)) = true) (g1 : AV.sl Mode.own 30 (some 0) [] = AV.sl Mode.own 30 (some (0 : Nat)) (List.map Idd.enc [])) (g2 : decide ((0 : Int) ≤ b ∧ b < (↑(80 : Nat) : Int) ∧ (0 : Nat) < (1 : Nat)) = true) (g3 : decide ((0 : Nat) = (0 : Nat) ∧ Int.toNat b * (1 : Nat) < List.length (List.map SH tb)) = true) (g4 : List.getD (List.map SH tb) (Int.toNat b * (1 : Nat)) AV.bad = SH (List.getD tb (Int.toNat b * (1 : Nat)) default)) (g5 : decide ((62 : Nat) = (62 : Nat) ∧ (List.all (List.map Idd.enc (List.getD tb (Int.toNat b * (1 : Nat)) default)) fun y => List.all (AV.ecells y) plainA) = true ∧ (List.all (List.map Idd.enc (List.getD tb (Int.toNat b * (1 : Nat)) default)) fun y => decide (List.length (AV.ecells y) = List.length (TInfo.zero { zero := [Value.int IntKind.u8 (0 : Int), Value.int IntKind.i64 (0 : Int)], bytes := (16 : Nat), agg := true, kind := TK.struct [((0 : Nat), (1 : Nat)), ((1 : Nat), (1 : Nat))] }))) = true) = true) (g6 : decide (30 = (30 : TypeId) ∧ List.length (List.map Idd.enc []) + List.length (List.map Idd.enc (List.getD tb (Int.toNat b * (1 : Nat)) default)) ≤ (4294967296 : Nat) ∧ Oper.dst { dst := some (114 : Nat), op := Op.call { callee := Callee.builtin Builtin.append, args := #[Operand.tmp (110 : Nat), Operand.tmp (113 : Nat)], argTypes := #[(62 : Nat), (62 : Nat)] }, type := (62 : Nat), pos := "law.go:232", after := #[{ on := (1 : Nat), ground := Ground.data }, { on := (4 : Nat), ground := Ground.data }], guard := none } ≠ some (110 : Nat)) = true) (g7 : AV.sl Mode.own 30 (if List.length (List.map Idd.enc []) + List.length (List.map Idd.enc (List.getD tb (Int.toNat b * (1 : Nat)) default)) ≤ (0 : Nat) then some (0 : Nat) else none) (List.map Idd.enc [] ++ List.map Idd.enc (List.getD tb (Int.toNat b * (1 : Nat)) default)) = AV.sl Mode.own 30 (if List.length (List.map Idd.enc []) + List.length (List.map Idd.enc (List.getD tb (Int.toNat b * (1 : Nat)) default)) ≤ (0 : Nat) then some (0 : Nat) else none) (List.map Idd.enc ([] ++ List.getD tb (Int.toNat b * (1 : Nat)) default))) (g8 : decide ((0 : Int) ≤ a ∧ a < (↑(80 : Nat) : Int) ∧ (0 : Nat) < (1 : Nat)) = true) (g9 : decide ((0 : Nat) = (0 : Nat) ∧ Int.toNat a * (1 : Nat) < List.length (List.map SH tb)) = true) (g10 : List.getD (List.map SH tb) (Int.toNat a * (1 : Nat)) AV.bad = SH (List.getD tb (Int.toNat a * (1 : Nat)) default)) (g11 : decide ((62 : Nat) = (62 : Nat) ∧ (List.all (List.map Idd.enc (List.getD tb (Int.toNat a * (1 : Nat)) default)) fun y => List.all (AV.ecells y) plainA) = true ∧ (List.all (List.map Idd.enc (List.getD tb (Int.toNat a * (1 : Nat)) default)) fun y => decide (List.length (AV.ecells y) = List.length (TInfo.zero { zero := [Value.int IntKind.u8 (0 : Int), Value.int IntKind.i64 (0 : Int)], bytes := (16 : Nat), agg := true, kind := TK.struct [((0 : Nat), (1 : Nat)), ((1 : Nat), (1 : Nat))] }))) = true) = true) (g12 : decide (30 = (30 : TypeId) ∧ List.length (List.map Idd.enc ([] ++ List.getD tb (Int.toNat b * (1 : Nat)) default)) + List.length (List.map Idd.enc (List.getD tb (Int.toNat a * (1 : Nat)) default)) ≤ (4294967296 : Nat) ∧ Oper.dst { dst := some (118 : Nat), op := Op.call { callee := Callee.builtin Builtin.append, args := #[Operand.tmp (114 : Nat), Operand.tmp (117 : Nat)], argTypes := #[(62 : Nat), (62 : Nat)] }, type := (62 : Nat), pos := "law.go:232", after := #[{ on := (5 : Nat), ground := Ground.data }, { on := (8 : Nat), ground := Ground.data }, { on := (5 : Nat), ground := Ground.chain }], guard := none } ≠ some (114 : Nat)) = true) (g13 : AV.sl Mode.own 30 (match if List.length (List.map Idd.enc []) + List.length (List.map Idd.enc (List.getD tb (Int.toNat b * (1 : Nat)) default)) ≤ (0 : Nat) then some (0 : Nat) else none with | some c => if List.length (List.map Idd.enc ([] ++ List.getD tb (Int.toNat b * (1 : Nat)) default)) + List.length (List.map Idd.enc (List.getD tb (Int.toNat a * (1 : Nat)) default)) ≤ c then some c else none | none => none) (List.map Idd.enc ([] ++ List.getD tb (Int.toNat b * (1 : Nat)) default) ++ List.map Idd.enc (List.getD tb (Int.toNat a * (1 : Nat)) default)) = AV.sl Mode.own 30 (match if List.length (List.map Idd.enc []) + List.length (List.map Idd.enc (List.getD tb (Int.toNat b * (1 : Nat)) default)) ≤ (0 : Nat) then some (0 : Nat) else none with | some c => if List.length (List.map Idd.enc ([] ++ List.getD tb (Int.toNat b * (1 : Nat)) default)) + List.length (List.map Idd.enc (List.getD tb (Int.toNat a * (1 : Nat)) default)) ≤ c then some c else none | none => none) (List.map Idd.enc ([] ++ List.getD tb (Int.toNat b * (1 : Nat)) default ++ List.getD tb (Int.toNat a * (1 : Nat)) default))) (g14 : List.all (List.take (Int.toNat b * (1 : Nat)) (List.map SH tb) ++ [AV.sl Mode.own 30 (match if List.length (List.map Idd.enc []) + List.length (List.map Idd.enc (List.getD tb (Int.toNat b * (1 : Nat)) default)) ≤ (0 : Nat) then some (0 : Nat) else none with | some c => if List.length (List.map Idd.enc ([] ++ List.getD tb (Int.toNat b * (1 : Nat)) default)) + List.length (List.map Idd.enc (List.getD tb (Int.toNat a * (1 : Nat)) default)) ≤ c then some c else none | none => none) (List.map Idd.enc ([] ++ List.getD tb (Int.toNat b * (1 : Nat)) default ++ List.getD tb (Int.toNat a * (1 : Nat)) default))] ++ List.drop (Int.toNat b * (1 : Nat) + (1 : Nat)) (List.map SH tb)) flatC = false) : Tri Try.prog (cxN 163 0) (codeAt Try.f11 25) ([(4, .box y4), (5, .box [ub e, it k]), (7, .box (tb.map SH)), (8, .box y8), (9, .box y9), (11, it a), (12, it b), (15, bb z), (16, .box (tb.map SH))] ) (Ex.normal) ([(4, AV.box y4), (5, AV.box [ub e, it k]), (8, AV.box y8), (9, AV.box y9), (11, it a), (15, bb z), (16, AV.box (List.take (Int.toNat b * (1 : Nat)) (List.map SH tb) ++ [AV.sl Mode.own 30 (match if List.length (List.map Idd.enc []) + List.length (List.map Idd.enc (List.getD tb (Int.toNat b * (1 : Nat)) default)) ≤ (0 : Nat) then some (0 : Nat) else none with | some c => if List.length (List.map Idd.enc ([] ++ List.getD tb (Int.toNat b * (1 : Nat)) default)) + List.length (List.map Idd.enc (List.getD tb (Int.toNat a * (1 : Nat)) default)) ≤ c then some c else none | none => none) (List.map Idd.enc ([] ++ List.getD tb (Int.toNat b * (1 : Nat)) default ++ List.getD tb (Int.toNat a * (1 : Nat)) default))] ++ List.drop (Int.toNat b * (1 : Nat) + (1 : Nat)) (List.map SH tb)))]) :=
  evA_ok (H := h11) (ans := [.c, .c, .c, .c, .c, .b true, .c, .r (AV.sl Mode.own 30 (some (0 : Nat)) (List.map Idd.enc [])), .c, .b true, .c, .b true, .r (SH (List.getD tb (Int.toNat b * (1 : Nat)) default)), .c, .b true, .b true, .r (AV.sl Mode.own 30 (if List.length (List.map Idd.enc []) + List.length (List.map Idd.enc (List.getD tb (Int.toNat b * (1 : Nat)) default)) ≤ (0 : Nat) then some (0 : Nat) else none) (List.map Idd.enc ([] ++ List.getD tb (Int.toNat b * (1 : Nat)) default))), .c, .b true, .c, .b true, .r (SH (List.getD tb (Int.toNat a * (1 : Nat)) default)), .c, .b true, .b true, .r (AV.sl Mode.own 30 (match if List.length (List.map Idd.enc []) + List.length (List.map Idd.enc (List.getD tb (Int.toNat b * (1 : Nat)) default)) ≤ (0 : Nat) then some (0 : Nat) else none with | some c => if List.length (List.map Idd.enc ([] ++ List.getD tb (Int.toNat b * (1 : Nat)) default)) + List.length (List.map Idd.enc (List.getD tb (Int.toNat a * (1 : Nat)) default)) ≤ c then some c else none | none => none) (List.map Idd.enc ([] ++ List.getD tb (Int.toNat b * (1 : Nat)) default ++ List.getD tb (Int.toNat a * (1 : Nat)) default))), .b true, .c, .b true, .r (SH (List.getD tb (Int.toNat b * (1 : Nat)) default)), .c, .b false]) (ps := [(e == (1 : Int)) = true, AV.sl Mode.own 30 (some 0) [] = AV.sl Mode.own 30 (some (0 : Nat)) (List.map Idd.enc []), decide ((0 : Int) ≤ b ∧ b < (↑(80 : Nat) : Int) ∧ (0 : Nat) < (1 : Nat)) = true, decide ((0 : Nat) = (0 : Nat) ∧ Int.toNat b * (1 : Nat) < List.length (List.map SH tb)) = true, List.getD (List.map SH tb) (Int.toNat b * (1 : Nat)) AV.bad = SH (List.getD tb (Int.toNat b * (1 : Nat)) default), decide ((62 : Nat) = (62 : Nat) ∧ (List.all (List.map Idd.enc (List.getD tb (Int.toNat b * (1 : Nat)) default)) fun y => List.all (AV.ecells y) plainA) = true ∧ (List.all (List.map Idd.enc (List.getD tb (Int.toNat b * (1 : Nat)) default)) fun y => decide (List.length (AV.ecells y) = List.length (TInfo.zero { zero := [Value.int IntKind.u8 (0 : Int), Value.int IntKind.i64 (0 : Int)], bytes := (16 : Nat), agg := true, kind := TK.struct [((0 : Nat), (1 : Nat)), ((1 : Nat), (1 : Nat))] }))) = true) = true, decide (30 = (30 : TypeId) ∧ List.length (List.map Idd.enc []) + List.length (List.map Idd.enc (List.getD tb (Int.toNat b * (1 : Nat)) default)) ≤ (4294967296 : Nat) ∧ Oper.dst { dst := some (114 : Nat), op := Op.call { callee := Callee.builtin Builtin.append, args := #[Operand.tmp (110 : Nat), Operand.tmp (113 : Nat)], argTypes := #[(62 : Nat), (62 : Nat)] }, type := (62 : Nat), pos := "law.go:232", after := #[{ on := (1 : Nat), ground := Ground.data }, { on := (4 : Nat), ground := Ground.data }], guard := none } ≠ some (110 : Nat)) = true, AV.sl Mode.own 30 (if List.length (List.map Idd.enc []) + List.length (List.map Idd.enc (List.getD tb (Int.toNat b * (1 : Nat)) default)) ≤ (0 : Nat) then some (0 : Nat) else none) (List.map Idd.enc [] ++ List.map Idd.enc (List.getD tb (Int.toNat b * (1 : Nat)) default)) = AV.sl Mode.own 30 (if List.length (List.map Idd.enc []) + List.length (List.map Idd.enc (List.getD tb (Int.toNat b * (1 : Nat)) default)) ≤ (0 : Nat) then some (0 : Nat) else none) (List.map Idd.enc ([] ++ List.getD tb (Int.toNat b * (1 : Nat)) default)), decide ((0 : Int) ≤ a ∧ a < (↑(80 : Nat) : Int) ∧ (0 : Nat) < (1 : Nat)) = true, decide ((0 : Nat) = (0 : Nat) ∧ Int.toNat a * (1 : Nat) < List.length (List.map SH tb)) = true, List.getD (List.map SH tb) (Int.toNat a * (1 : Nat)) AV.bad = SH (List.getD tb (Int.toNat a * (1 : Nat)) default), decide ((62 : Nat) = (62 : Nat) ∧ (List.all (List.map Idd.enc (List.getD tb (Int.toNat a * (1 : Nat)) default)) fun y => List.all (AV.ecells y) plainA) = true ∧ (List.all (List.map Idd.enc (List.getD tb (Int.toNat a * (1 : Nat)) default)) fun y => decide (List.length (AV.ecells y) = List.length (TInfo.zero { zero := [Value.int IntKind.u8 (0 : Int), Value.int IntKind.i64 (0 : Int)], bytes := (16 : Nat), agg := true, kind := TK.struct [((0 : Nat), (1 : Nat)), ((1 : Nat), (1 : Nat))] }))) = true) = true, decide (30 = (30 : TypeId) ∧ List.length (List.map Idd.enc ([] ++ List.getD tb (Int.toNat b * (1 : Nat)) default)) + List.length (List.map Idd.enc (List.getD tb (Int.toNat a * (1 : Nat)) default)) ≤ (4294967296 : Nat) ∧ Oper.dst { dst := some (118 : Nat), op := Op.call { callee := Callee.builtin Builtin.append, args := #[Operand.tmp (114 : Nat), Operand.tmp (117 : Nat)], argTypes := #[(62 : Nat), (62 : Nat)] }, type := (62 : Nat), pos := "law.go:232", after := #[{ on := (5 : Nat), ground := Ground.data }, { on := (8 : Nat), ground := Ground.data }, { on := (5 : Nat), ground := Ground.chain }], guard := none } ≠ some (114 : Nat)) = true, AV.sl Mode.own 30 (match if List.length (List.map Idd.enc []) + List.length (List.map Idd.enc (List.getD tb (Int.toNat b * (1 : Nat)) default)) ≤ (0 : Nat) then some (0 : Nat) else none with | some c => if List.length (List.map Idd.enc ([] ++ List.getD tb (Int.toNat b * (1 : Nat)) default)) + List.length (List.map Idd.enc (List.getD tb (Int.toNat a * (1 : Nat)) default)) ≤ c then some c else none | none => none) (List.map Idd.enc ([] ++ List.getD tb (Int.toNat b * (1 : Nat)) default) ++ List.map Idd.enc (List.getD tb (Int.toNat a * (1 : Nat)) default)) = AV.sl Mode.own 30 (match if List.length (List.map Idd.enc []) + List.length (List.map Idd.enc (List.getD tb (Int.toNat b * (1 : Nat)) default)) ≤ (0 : Nat) then some (0 : Nat) else none with | some c => if List.length (List.map Idd.enc ([] ++ List.getD tb (Int.toNat b * (1 : Nat)) default)) + List.length (List.map Idd.enc (List.getD tb (Int.toNat a * (1 : Nat)) default)) ≤ c then some c else none | none => none) (List.map Idd.enc ([] ++ List.getD tb (Int.toNat b * (1 : Nat)) default ++ List.getD tb (Int.toNat a * (1 : Nat)) default)), decide ((0 : Int) ≤ b ∧ b < (↑(80 : Nat) : Int) ∧ (0 : Nat) < (1 : Nat)) = true, decide ((0 : Nat) = (0 : Nat) ∧ Int.toNat b * (1 : Nat) < List.length (List.map SH tb)) = true, List.getD (List.map SH tb) (Int.toNat b * (1 : Nat)) AV.bad = SH (List.getD tb (Int.toNat b * (1 : Nat)) default), List.all (List.take (Int.toNat b * (1 : Nat)) (List.map SH tb) ++ [AV.sl Mode.own 30 (match if List.length (List.map Idd.enc []) + List.length (List.map Idd.enc (List.getD tb (Int.toNat b * (1 : Nat)) default)) ≤ (0 : Nat) then some (0 : Nat) else none with | some c => if List.length (List.map Idd.enc ([] ++ List.getD tb (Int.toNat b * (1 : Nat)) default)) + List.length (List.map Idd.enc (List.getD tb (Int.toNat a * (1 : Nat)) default)) ≤ c then some c else none | none => none) (List.map Idd.enc ([] ++ List.getD tb (Int.toNat b * (1 : Nat)) default ++ List.getD tb (Int.toNat a * (1 : Nat)) default))] ++ List.drop (Int.toNat b * (1 : Nat) + (1 : Nat)) (List.map SH tb)) flatC = false]) (ans' := []) (base 163 0) cxA_K.1 cxA_K.2 _ (by kernel_rfl)  (allp g0 (allp g1 (allp g2 (allp g3 (allp g4 (allp g5 (allp g6 (allp g7 (allp g8 (allp g9 (allp g10 (allp g11 (allp g12 (allp g13 (allp g2 (allp g3 (allp g4 (allp g14 allp_nil))))))))))))))))))
theorem jz25_3 (tb : List (List Idd)) (y4 y8 y9 : List AV) (e k a b : Int) (z : Bool) (g0 : (e == (1 : Int)) = false) (g1 : AV.sl Mode.own 30 (some 0) [] = AV.sl Mode.own 30 (some (0 : Nat)) (List.map Idd.enc [])) (g2 : decide ((0 : Int) ≤ a ∧ a < (↑(80 : Nat) : Int) ∧ (0 : Nat) < (1 : Nat)) = true) (g3 : decide ((0 : Nat) = (0 : Nat) ∧ Int.toNat a * (1 : Nat) < List.length (List.map SH tb)) = true) (g4 : List.getD (List.map SH tb) (Int.toNat a * (1 : Nat)) AV.bad = SH (List.getD tb (Int.toNat a * (1 : Nat)) default)) (g5 : decide ((62 : Nat) = (62 : Nat) ∧ (List.all (List.map Idd.enc (List.getD tb (Int.toNat a * (1 : Nat)) default)) fun y => List.all (AV.ecells y) plainA) = true ∧ (List.all (List.map Idd.enc (List.getD tb (Int.toNat a * (1 : Nat)) default)) fun y => decide (List.length (AV.ecells y) = List.length (TInfo.zero { zero := [Value.int IntKind.u8 (0 : Int), Value.int IntKind.i64 (0 : Int)], bytes := (16 : Nat), agg := true, kind := TK.struct [((0 : Nat), (1 : Nat)), ((1 : Nat), (1 : Nat))] }))) = true) = true) (g6 : decide (30 = (30 : TypeId) ∧ List.length (List.map Idd.enc []) + List.length (List.map Idd.enc (List.getD tb (Int.toNat a * (1 : Nat)) default)) ≤ (4294967296 : Nat) ∧ Oper.dst { dst := some (125 : Nat), op := Op.call { callee := Callee.builtin Builtin.append, args := #[Operand.tmp (121 : Nat), Operand.tmp (124 : Nat)], argTypes := #[(62 : Nat), (62 : Nat)] }, type := (62 : Nat), pos := "law.go:234", after := #[{ on := (1 : Nat), ground := Ground.data }, { on := (4 : Nat), ground := Ground.data }], guard := none } ≠ some (121 : Nat)) = true) (g7 : AV.sl Mode.own 30 (if List.length (List.map Idd.enc []) + List.length (List.map Idd.enc (List.getD tb (Int.toNat a * (1 : Nat)) default)) ≤ (0 : Nat) then some (0 : Nat) else none) (List.map Idd.enc [] ++ List.map Idd.enc (List.getD tb (Int.toNat a * (1 : Nat)) default)) = AV.sl Mode.own 30 (if List.length (List.map Idd.enc []) + List.length (List.map Idd.enc (List.getD tb (Int.toNat a * (1 : Nat)) default)) ≤ (0 : Nat) then some (0 : Nat) else none) (List.map Idd.enc ([] ++ List.getD tb (Int.toNat a * (1 : Nat)) default))) (g8 : decide ((0 : Int) ≤ b ∧ b < (↑(80 : Nat) : Int) ∧ (0 : Nat) < (1 : Nat)) = true) (g9 : decide ((0 : Nat) = (0 : Nat) ∧ Int.toNat b * (1 : Nat) < List.length (List.map SH tb)) = true) (g10 : List.getD (List.map SH tb) (Int.toNat b * (1 : Nat)) AV.bad = SH (List.getD tb (Int.toNat b * (1 : Nat)) default)) (g11 : decide ((62 : Nat) = (62 : Nat) ∧ (List.all (List.map Idd.enc (List.getD tb (Int.toNat b * (1 : Nat)) default)) fun y => List.all (AV.ecells y) plainA) = true ∧ (List.all (List.map Idd.enc (List.getD tb (Int.toNat b * (1 : Nat)) default)) fun y => decide (List.length (AV.ecells y) = List.length (TInfo.zero { zero := [Value.int IntKind.u8 (0 : Int), Value.int IntKind.i64 (0 : Int)], bytes := (16 : Nat), agg := true, kind := TK.struct [((0 : Nat), (1 : Nat)), ((1 : Nat), (1 : Nat))] }))) = true) = true) (g12 : decide (30 = (30 : TypeId) ∧ List.length (List.map Idd.enc ([] ++ List.getD tb (Int.toNat a * (1 : Nat)) default)) + List.length (List.map Idd.enc (List.getD tb (Int.toNat b * (1 : Nat)) default)) ≤ (4294967296 : Nat) ∧ Oper.dst { dst := some (129 : Nat), op := Op.call { callee := Callee.builtin Builtin.append, args := #[Operand.tmp (125 : Nat), Operand.tmp (128 : Nat)], argTypes := #[(62 : Nat), (62 : Nat)] }, type := (62 : Nat), pos := "law.go:234", after := #[{ on := (5 : Nat), ground := Ground.data }, { on := (8 : Nat), ground := Ground.data }, { on := (5 : Nat), ground := Ground.chain }], guard := none } ≠ some (125 : Nat)) = true) (g13 : AV.sl Mode.own 30 (match if List.length (List.map Idd.enc []) + List.length (List.map Idd.enc (List.getD tb (Int.toNat a * (1 : Nat)) default)) ≤ (0 : Nat) then some (0 : Nat) else none with | some c => if List.length (List.map Idd.enc ([] ++ List.getD tb (Int.toNat a * (1 : Nat)) default)) + List.length (List.map Idd.enc (List.getD tb (Int.toNat b * (1 : Nat)) default)) ≤ c then some c else none | none => none) (List.map Idd.enc ([] ++ List.getD tb (Int.toNat a * (1 : Nat)) default) ++ List.map Idd.enc (List.getD tb (Int.toNat b * (1 : Nat)) default)) = AV.sl Mode.own 30 (match if List.length (List.map Idd.enc []) + List.length (List.map Idd.enc (List.getD tb (Int.toNat a * (1 : Nat)) default)) ≤ (0 : Nat) then some (0 : Nat) else none with | some c => if List.length (List.map Idd.enc ([] ++ List.getD tb (Int.toNat a * (1 : Nat)) default)) + List.length (List.map Idd.enc (List.getD tb (Int.toNat b * (1 : Nat)) default)) ≤ c then some c else none | none => none) (List.map Idd.enc ([] ++ List.getD tb (Int.toNat a * (1 : Nat)) default ++ List.getD tb (Int.toNat b * (1 : Nat)) default))) (g14 : List.all (List.take (Int.toNat b * (1 : Nat)) (List.map SH tb) ++ [AV.sl Mode.own 30 (match if List.length (List.map Idd.enc []) + List.length (List.map Idd.enc (List.getD tb (Int.toNat a * (1 : Nat)) default)) ≤ (0 : Nat) then some (0 : Nat) else none with | some c => if List.length (List.map Idd.enc ([] ++ List.getD tb (Int.toNat a * (1 : Nat)) default)) + List.length (List.map Idd.enc (List.getD tb (Int.toNat b * (1 : Nat)) default)) ≤ c then some c else none | none => none) (List.map Idd.enc ([] ++ List.getD tb (Int.toNat a * (1 : Nat)) default ++ List.getD tb (Int.toNat b * (1 : Nat)) default))] ++ List.drop (Int.toNat b * (1 : Nat) + (1 : Nat)) (List.map SH tb)) flatC = false) : Tri Try.prog (cxN 163 0) (codeAt Try.f11 25) ([(4, .box y4), (5, .box [ub e, it k]), (7, .box (tb.map SH)), (8, .box y8), (9, .box y9), (11, it a), (12, it b), (15, bb z), (16, .box (tb.map SH))] ) (Ex.normal) ([(4, AV.box y4), (5, AV.box [ub e, it k]), (8, AV.box y8), (9, AV.box y9), (11, it a), (15, bb z), (16, AV.box (List.take (Int.toNat b * (1 : Nat)) (List.map SH tb) ++ [AV.sl Mode.own 30 (match if List.length (List.map Idd.enc []) + List.length (List.map Idd.enc (List.getD tb (Int.toNat a * (1 : Nat)) default)) ≤ (0 : Nat) then some (0 : Nat) else none with | some c => if List.length (List.map Idd.enc ([] ++ List.getD tb (Int.toNat a * (1 : Nat)) default)) + List.length (List.map Idd.enc (List.getD tb (Int.toNat b * (1 : Nat)) default)) ≤ c then some c else none | none => none) (List.map Idd.enc ([] ++ List.getD tb (Int.toNat a * (1 : Nat)) default ++ List.getD tb (Int.toNat b * (1 : Nat)) default))] ++ List.drop (Int.toNat b * (1 : Nat) + (1 : Nat)) (List.map SH tb)))]) :=
  evA_ok (H := h11) (ans := [.c, .c, .c, .c, .c, .b false, .c, .r (AV.sl Mode.own 30 (some (0 : Nat)) (List.map Idd.enc [])), .c, .b true, .c, .b true, .r (SH (List.getD tb (Int.toNat a * (1 : Nat)) default)), .c, .b true, .b true, .r (AV.sl Mode.own 30 (if List.length (List.map Idd.enc []) + List.length (List.map Idd.enc (List.getD tb (Int.toNat a * (1 : Nat)) default)) ≤ (0 : Nat) then some (0 : Nat) else none) (List.map Idd.enc ([] ++ List.getD tb (Int.toNat a * (1 : Nat)) default))), .c, .b true, .c, .b true, .r (SH (List.getD tb (Int.toNat b * (1 : Nat)) default)), .c, .b true, .b true, .r (AV.sl Mode.own 30 (match if List.length (List.map Idd.enc []) + List.length (List.map Idd.enc (List.getD tb (Int.toNat a * (1 : Nat)) default)) ≤ (0 : Nat) then some (0 : Nat) else none with | some c => if List.length (List.map Idd.enc ([] ++ List.getD tb (Int.toNat a * (1 : Nat)) default)) + List.length (List.map Idd.enc (List.getD tb (Int.toNat b * (1 : Nat)) default)) ≤ c then some c else none | none => none) (List.map Idd.enc ([] ++ List.getD tb (Int.toNat a * (1 : Nat)) default ++ List.getD tb (Int.toNat b * (1 : Nat)) default))), .b true, .c, .b true, .r (SH (List.getD tb (Int.toNat b * (1 : Nat)) default)), .c, .b false]) (ps := [(e == (1 : Int)) = false, AV.sl Mode.own 30 (some 0) [] = AV.sl Mode.own 30 (some (0 : Nat)) (List.map Idd.enc []), decide ((0 : Int) ≤ a ∧ a < (↑(80 : Nat) : Int) ∧ (0 : Nat) < (1 : Nat)) = true, decide ((0 : Nat) = (0 : Nat) ∧ Int.toNat a * (1 : Nat) < List.length (List.map SH tb)) = true, List.getD (List.map SH tb) (Int.toNat a * (1 : Nat)) AV.bad = SH (List.getD tb (Int.toNat a * (1 : Nat)) default), decide ((62 : Nat) = (62 : Nat) ∧ (List.all (List.map Idd.enc (List.getD tb (Int.toNat a * (1 : Nat)) default)) fun y => List.all (AV.ecells y) plainA) = true ∧ (List.all (List.map Idd.enc (List.getD tb (Int.toNat a * (1 : Nat)) default)) fun y => decide (List.length (AV.ecells y) = List.length (TInfo.zero { zero := [Value.int IntKind.u8 (0 : Int), Value.int IntKind.i64 (0 : Int)], bytes := (16 : Nat), agg := true, kind := TK.struct [((0 : Nat), (1 : Nat)), ((1 : Nat), (1 : Nat))] }))) = true) = true, decide (30 = (30 : TypeId) ∧ List.length (List.map Idd.enc []) + List.length (List.map Idd.enc (List.getD tb (Int.toNat a * (1 : Nat)) default)) ≤ (4294967296 : Nat) ∧ Oper.dst { dst := some (125 : Nat), op := Op.call { callee := Callee.builtin Builtin.append, args := #[Operand.tmp (121 : Nat), Operand.tmp (124 : Nat)], argTypes := #[(62 : Nat), (62 : Nat)] }, type := (62 : Nat), pos := "law.go:234", after := #[{ on := (1 : Nat), ground := Ground.data }, { on := (4 : Nat), ground := Ground.data }], guard := none } ≠ some (121 : Nat)) = true, AV.sl Mode.own 30 (if List.length (List.map Idd.enc []) + List.length (List.map Idd.enc (List.getD tb (Int.toNat a * (1 : Nat)) default)) ≤ (0 : Nat) then some (0 : Nat) else none) (List.map Idd.enc [] ++ List.map Idd.enc (List.getD tb (Int.toNat a * (1 : Nat)) default)) = AV.sl Mode.own 30 (if List.length (List.map Idd.enc []) + List.length (List.map Idd.enc (List.getD tb (Int.toNat a * (1 : Nat)) default)) ≤ (0 : Nat) then some (0 : Nat) else none) (List.map Idd.enc ([] ++ List.getD tb (Int.toNat a * (1 : Nat)) default)), decide ((0 : Int) ≤ b ∧ b < (↑(80 : Nat) : Int) ∧ (0 : Nat) < (1 : Nat)) = true, decide ((0 : Nat) = (0 : Nat) ∧ Int.toNat b * (1 : Nat) < List.length (List.map SH tb)) = true, List.getD (List.map SH tb) (Int.toNat b * (1 : Nat)) AV.bad = SH (List.getD tb (Int.toNat b * (1 : Nat)) default), decide ((62 : Nat) = (62 : Nat) ∧ (List.all (List.map Idd.enc (List.getD tb (Int.toNat b * (1 : Nat)) default)) fun y => List.all (AV.ecells y) plainA) = true ∧ (List.all (List.map Idd.enc (List.getD tb (Int.toNat b * (1 : Nat)) default)) fun y => decide (List.length (AV.ecells y) = List.length (TInfo.zero { zero := [Value.int IntKind.u8 (0 : Int), Value.int IntKind.i64 (0 : Int)], bytes := (16 : Nat), agg := true, kind := TK.struct [((0 : Nat), (1 : Nat)), ((1 : Nat), (1 : Nat))] }))) = true) = true, decide (30 = (30 : TypeId) ∧ List.length (List.map Idd.enc ([] ++ List.getD tb (Int.toNat a * (1 : Nat)) default)) + List.length (List.map Idd.enc (List.getD tb (Int.toNat b * (1 : Nat)) default)) ≤ (4294967296 : Nat) ∧ Oper.dst { dst := some (129 : Nat), op := Op.call { callee := Callee.builtin Builtin.append, args := #[Operand.tmp (125 : Nat), Operand.tmp (128 : Nat)], argTypes := #[(62 : Nat), (62 : Nat)] }, type := (62 : Nat), pos := "law.go:234", after := #[{ on := (5 : Nat), ground := Ground.data }, { on := (8 : Nat), ground := Ground.data }, { on := (5 : Nat), ground := Ground.chain }], guard := none } ≠ some (125 : Nat)) = true, AV.sl Mode.own 30 (match if List.length (List.map Idd.enc []) + List.length (List.map Idd.enc (List.getD tb (Int.toNat a * (1 : Nat)) default)) ≤ (0 : Nat) then some (0 : Nat) else none with | some c => if List.length (List.map Idd.enc ([] ++ List.getD tb (Int.toNat a * (1 : Nat)) default)) + List.length (List.map Idd.enc (List.getD tb (Int.toNat b * (1 : Nat)) default)) ≤ c then some c else none | none => none) (List.map Idd.enc ([] ++ List.getD tb (Int.toNat a * (1 : Nat)) default) ++ List.map Idd.enc (List.getD tb (Int.toNat b * (1 : Nat)) default)) = AV.sl Mode.own 30 (match if List.length (List.map Idd.enc []) + List.length (List.map Idd.enc (List.getD tb (Int.toNat a * (1 : Nat)) default)) ≤ (0 : Nat) then some (0 : Nat) else none with | some c => if List.length (List.map Idd.enc ([] ++ List.getD tb (Int.toNat a * (1 : Nat)) default)) + List.length (List.map Idd.enc (List.getD tb (Int.toNat b * (1 : Nat)) default)) ≤ c then some c else none | none => none) (List.map Idd.enc ([] ++ List.getD tb (Int.toNat a * (1 : Nat)) default ++ List.getD tb (Int.toNat b * (1 : Nat)) default)), decide ((0 : Int) ≤ b ∧ b < (↑(80 : Nat) : Int) ∧ (0 : Nat) < (1 : Nat)) = true, decide ((0 : Nat) = (0 : Nat) ∧ Int.toNat b * (1 : Nat) < List.length (List.map SH tb)) = true, List.getD (List.map SH tb) (Int.toNat b * (1 : Nat)) AV.bad = SH (List.getD tb (Int.toNat b * (1 : Nat)) default), List.all (List.take (Int.toNat b * (1 : Nat)) (List.map SH tb) ++ [AV.sl Mode.own 30 (match if List.length (List.map Idd.enc []) + List.length (List.map Idd.enc (List.getD tb (Int.toNat a * (1 : Nat)) default)) ≤ (0 : Nat) then some (0 : Nat) else none with | some c => if List.length (List.map Idd.enc ([] ++ List.getD tb (Int.toNat a * (1 : Nat)) default)) + List.length (List.map Idd.enc (List.getD tb (Int.toNat b * (1 : Nat)) default)) ≤ c then some c else none | none => none) (List.map Idd.enc ([] ++ List.getD tb (Int.toNat a * (1 : Nat)) default ++ List.getD tb (Int.toNat b * (1 : Nat)) default))] ++ List.drop (Int.toNat b * (1 : Nat) + (1 : Nat)) (List.map SH tb)) flatC = false]) (ans' := []) (base 163 0) cxA_K.1 cxA_K.2 _ (by kernel_rfl)  (allp g0 (allp g1 (allp g2 (allp g3 (allp g4 (allp g5 (allp g6 (allp g7 (allp g8 (allp g9 (allp g10 (allp g11 (allp g12 (allp g13 (allp g8 (allp g9 (allp g10 (allp g14 allp_nil))))))))))))))))))
theorem jz28_0 (ub : List (List Idd)) (y4 y5 y8 y9 : List AV) (a : Int) (z : Bool) (g0 : decide ((0 : Int) ≤ a ∧ a < (↑(80 : Nat) : Int) ∧ (0 : Nat) < (1 : Nat)) = true) (g1 : decide ((0 : Nat) = (0 : Nat) ∧ Int.toNat a * (1 : Nat) < List.length (List.map SH ub)) = true) (g2 : List.getD (List.map SH ub) (Int.toNat a * (1 : Nat)) AV.bad = SH (List.getD ub (Int.toNat a * (1 : Nat)) default)) : Tri Try.prog (cxN 163 0) (regAt Try.f11 28) ([(4, .box y4), (5, .box y5), (8, .box y8), (9, .box y9), (11, it a), (15, bb z), (16, .box (ub.map SH))] ) (Ex.normal) ([(4, AV.box y4), (5, AV.box y5), (8, AV.box y8), (9, AV.box y9), (15, bb z), (16, AV.box (List.take (Int.toNat a * (1 : Nat)) (List.map SH ub) ++ [AV.atom (Value.slice none (0 : Nat) (0 : Nat))] ++ List.drop (Int.toNat a * (1 : Nat) + (1 : Nat)) (List.map SH ub)))]) :=
  evA_ok (H := h11) (ans := [.c, .b true, .c, .b true, .r (SH (List.getD ub (Int.toNat a * (1 : Nat)) default)), .c]) (ps := [decide ((0 : Int) ≤ a ∧ a < (↑(80 : Nat) : Int) ∧ (0 : Nat) < (1 : Nat)) = true, decide ((0 : Nat) = (0 : Nat) ∧ Int.toNat a * (1 : Nat) < List.length (List.map SH ub)) = true, List.getD (List.map SH ub) (Int.toNat a * (1 : Nat)) AV.bad = SH (List.getD ub (Int.toNat a * (1 : Nat)) default)]) (ans' := []) (base 163 0) cxA_K.1 cxA_K.2 _ (by kernel_rfl)  (allp g0 (allp g1 (allp g2 allp_nil)))
theorem jz29_0 (cf cb df db : Nat) (F B G C : List Stk) (g : Nat → List Idd) (y4 y5 : List AV) (n m : Int) (z : Bool) (hd : DfOk g df db G C 0) (h1 : CtOk G C n) (h2 : CtOk F B m) (q : (n != m) = false) (g0 : AV.agg (bedS g) = AV.agg (bedS g)) (g1 : (n != m) = false) : Tri Try.prog (cxN 163 0) (codeAt Try.f11 29) ([(4, .box y4), (5, .box y5), (8, .box [bsl (some cf) F, bsl (some cb) B]), (9, .box [bsl (some df) G, bsl (some db) C]), (15, bb z), (16, .box (bedS g))] ) (Ex.normal) ([(4, AV.box y4), (5, AV.box y5), (8, AV.box [bsl (some cf) F, bsl (some cb) B]), (9, AV.box [bsl (some df) G, bsl (some db) C]), (15, bb z), (143, bb (n != m))]) :=
  evA_ok (H := h11) (ans := [.r (AV.agg (bedS g)), .c, .r (it 0), .c, .c, .c, .c, .c, .c, .c, .r (it n), .c, .c, .c, .c, .c, .r (it m), .c, .c, .c, .c, .c, .c, .b false]) (ps := [AV.agg (bedS g) = AV.agg (bedS g), PureC Try.prog 32 [view (AV.agg (bedS g)), view (AV.agg [bsl (some df) G, bsl (some db) C])] (it 0), PureC Try.prog 36 [view (AV.agg [bsl (some df) G, bsl (some db) C])] (it n), PureC Try.prog 36 [view (AV.agg [bsl (some cf) F, bsl (some cb) B])] (it m), (n != m) = false]) (ans' := []) (base 163 0) cxA_K.1 cxA_K.2 _ (by kernel_rfl)  (allp g0 (allp (by (first | rw [view_bed80F, view_frN] | rw [view_bed80F, view_beds] | rw [view_bedS, view_frN] | rw [view_bedS, view_frW] | rw [view_bedS, view_beds] | rw [view_bed80F] | rw [view_bedS]); apply dfok <;> (first | assumption | rfl | (simp at * <;> omega))) (allp (by (first | rw [view_frW, view_frN] | rw [view_beds, view_beds] | rw [view_yn] | rw [view_two] | rw [view_twoI] | rw [view_beds] | rw [view_frW] | rw [view_frN] | rw [view_twoF] | skip); apply ctok <;> (first | assumption | rfl | (simp at * <;> omega))) (allp (by (first | rw [view_frW, view_frN] | rw [view_beds, view_beds] | rw [view_yn] | rw [view_two] | rw [view_twoI] | rw [view_beds] | rw [view_frW] | rw [view_frN] | rw [view_twoF] | skip); apply ctok <;> (first | assumption | rfl | (simp at * <;> omega))) (allp g1 allp_nil)))))
theorem jz31_0 (cf cb : Nat) (F B : List Stk) (y8 : List AV) (d i e k : Int) (z : Bool) (X Y : List (List Idd)) (hj : JO F B e k d i X Y) (g0 : AV.agg [AV.sl Mode.fresh 62 (some (List.length X)) (List.map (mapE (remode shareM (10 : Nat))) (List.map FW X)), AV.sl Mode.fresh 62 (some (List.length Y)) (List.map (mapE (remode shareM (10 : Nat))) (List.map FW Y))] = AV.agg [AV.sl Mode.fresh 62 (some (List.length X)) (List.map FW X), AV.sl Mode.fresh 62 (some (List.length Y)) (List.map FW Y)]) : Tri Try.prog (cxN 163 0) (regAt Try.f11 31) ([(4, .box [ub d, it i]), (5, .box [ub e, it k]), (8, .box y8), (9, .box [bsl (some cf) F, bsl (some cb) B]), (15, bb z)] ) (Ex.normal) ([(8, AV.box y8), (10, it 0), (15, bb z), (17, AV.box [AV.sl Mode.fresh 62 (some (List.length X)) (List.map FW X), AV.sl Mode.fresh 62 (some (List.length Y)) (List.map FW Y)])]) :=
  evA_ok (H := h11) (ans := [.c, .c, .c, .r (AV.tup [AV.agg [AV.sl Mode.fresh 62 (some (List.length X)) (List.map FW X), AV.sl Mode.fresh 62 (some (List.length Y)) (List.map FW Y)], it 0]), .c, .c, .c, .r (AV.agg [AV.sl Mode.fresh 62 (some (List.length X)) (List.map FW X), AV.sl Mode.fresh 62 (some (List.length Y)) (List.map FW Y)]), .c, .c, .c, .c]) (ps := [PureC Try.prog 40 [view (AV.agg [bsl (some cf) F, bsl (some cb) B]), AV.agg [ub e, it k], AV.agg [ub d, it i]] (AV.tup [AV.agg [AV.sl Mode.fresh 62 (some (List.length X)) (List.map FW X), AV.sl Mode.fresh 62 (some (List.length Y)) (List.map FW Y)], it 0]), AV.agg [AV.sl Mode.fresh 62 (some (List.length X)) (List.map (mapE (remode shareM (10 : Nat))) (List.map FW X)), AV.sl Mode.fresh 62 (some (List.length Y)) (List.map (mapE (remode shareM (10 : Nat))) (List.map FW Y))] = AV.agg [AV.sl Mode.fresh 62 (some (List.length X)) (List.map FW X), AV.sl Mode.fresh 62 (some (List.length Y)) (List.map FW Y)]]) (ans' := []) (base 163 0) cxA_K.1 cxA_K.2 _ (by kernel_rfl)  (allp (by (first | rw [view_frW, view_frN] | rw [view_beds, view_beds] | rw [view_yn] | rw [view_two] | rw [view_twoI] | rw [view_beds] | rw [view_frW] | rw [view_frN] | rw [view_twoF] | skip); apply jo <;> (first | assumption | rfl | (simp at * <;> omega))) (allp g0 allp_nil))
theorem jz32_0 (y8 y17 : List AV) (z : Bool) : Tri Try.prog (cxN 163 0) (codeAt Try.f11 32) ([(8, .box y8), (10, it 0), (15, bb z), (17, .box y17)] ) (Ex.normal) ([(8, AV.box y8), (15, bb z), (17, AV.box y17), (152, bb ((0 : Int) != (0 : Int)))]) :=
  evA_ok (H := h11) (ans := [.c, .c, .c]) (ps := []) (ans' := []) (base 163 0) cxA_K.1 cxA_K.2 _ (by kernel_rfl)  allp_nil
theorem jz34t_0 (cf cb df db : Nat) (F B G C : List Stk) (hs : SmO G C F B true) : Tri Try.prog (cxN 163 0) (regAt Try.f11 34) ([(8, .box [bsl (some cf) F, bsl (some cb) B]), (15, bb true), (17, .box [bsl (some df) G, bsl (some db) C])] ) (Ex.normal) ([(6, bb true)]) :=
  evA_ok (H := h11) (ans := [.c, .c, .c, .c, .c, .c, .c, .c, .r (bb true), .c, .c, .c, .c, .c, .c, .r (bb true), .c, .c, .c, .c, .c]) (ps := [PureC Try.prog 39 [view (AV.agg [bsl (some df) G, bsl (some db) C]), view (AV.agg [bsl (some cf) F, bsl (some cb) B])] (bb true), PureC Try.prog 37 [] (bb true)]) (ans' := []) (base 163 0) cxA_K.1 cxA_K.2 _ (by kernel_rfl)  (allp (by (first | rw [view_frW, view_frN] | rw [view_beds, view_beds] | rw [view_yn] | rw [view_two] | rw [view_twoI] | rw [view_beds] | rw [view_frW] | rw [view_frN] | rw [view_twoF] | skip); apply smo <;> (first | assumption | rfl | (simp at * <;> omega))) (allp (by apply lives <;> (first | assumption | rfl | (simp at * <;> omega))) allp_nil))
theorem jz34f_0 (y8 y17 : List AV) : Tri Try.prog (cxN 163 0) (regAt Try.f11 34) ([(8, .box y8), (15, bb false), (17, .box y17)] ) (Ex.normal) ([(6, bb true)]) :=
  evA_ok (H := h11) (ans := [.c, .c, .c, .c, .c, .c, .c, .c, .c, .c, .c, .c, .c, .r (bb true), .c, .c, .c, .c, .c]) (ps := [PureC Try.prog 37 [] (bb true)]) (ans' := []) (base 163 0) cxA_K.1 cxA_K.2 _ (by kernel_rfl)  (allp (by apply lives <;> (first | assumption | rfl | (simp at * <;> omega))) allp_nil)
end Tst
end

section
open Go Go.Lf Go.Proofs
namespace Tst
theorem topNo {env : Env} (h : ∀ p ∈ env, leafRoot p.2 = none) (r : Nat) : topOnly r env := by
  intro t y hl hy
  have : ∃ p ∈ env, p.2 = y := by
    clear hy
    induction env with
    | nil => cases hl
    | cons p env ih =>
      obtain ⟨s, z⟩ := p
      unfold Lf.lk at hl
      split at hl
      · injection hl with hl; exact ⟨(s, z), List.mem_cons_self, hl⟩
      · obtain ⟨q, hq, e⟩ := ih (fun q hq => h q (by simp [hq])) hl
        exact ⟨q, by simp [hq], e⟩
  obtain ⟨p, hp, rfl⟩ := this
  rw [h p hp] at hy; cases hy
theorem Tri.moreBox {P : Program} {cx : Cx} {c : Code} {env env' : Env} {ex : Ex} {r : Nat} {cs : List AV} (hr : lk env r = some (.box cs)) (htop : topOnly r env) (h : Tri P cx c ((r, .box (cs.map share)) :: env) ex env') : Tri P cx c env ex env' := by
  intro ρ hρ F B0 w0 S0 ds a w Q hag hQ
  obtain ⟨hd, hN, n, S, Os, hn, hgr, hst⟩ := hag
  obtain ⟨n1, S', Os', g, C, T, _, _, hst', hS, hS', _⟩ := hst.shareBox hr htop
  refine h ρ hρ F B0 w0 S0 ds a w Q ⟨hd, hN, n1 + 1, S', Os', by omega, ⟨fun b hb => hS b (hgr.1 b hb), fun b hb => ?_⟩, hst'⟩ hQ
  rcases hS' b hb with h | h
  · exact hgr.2 b h
  · exact .inr (hst.lt r b h).1
theorem share_SH (l : List Idd) : share (SH l) = SH l := by
  show AV.sl .any 30 none ((l.map Idd.enc).map (mapE (remode shareM 11))) = _
  rw [map_re]; rfl
theorem share_own (c : Option Nat) (l : List Idd) : share (.sl .own 30 c (l.map Idd.enc)) = .sl .fresh 30 c (l.map Idd.enc) := by
  show AV.sl .fresh 30 c ((l.map Idd.enc).map (mapE (remode shareM 11))) = _
  rw [map_re]
theorem le_row {tb : List (List Idd)} {b : Nat} (l : List Idd) {y : AV} (hb : b < tb.length) (hy : Le Try.prog y (SH l)) : Le Try.prog (.box (List.take b (tb.map SH) ++ [y] ++ List.drop (b + 1) (tb.map SH))) (.box ((tb.set b l).map SH)) := by
  rw [← set_SH l hb]
  refine Le.box ?_
  have ap : ∀ {a b c d : List AV}, F2 (Le Try.prog) a b → F2 (Le Try.prog) c d → F2 (Le Try.prog) (a ++ c) (b ++ d) := by
    intro a b c d h1 h2
    induction h1 with
    | nil => exact h2
    | cons h _ ih => exact .cons h ih
  exact ap (ap (F2.rfl' _) (.cons hy .nil)) (F2.rfl' _)
theorem share_row (tb : List (List Idd)) (b : Nat) (c : Option Nat) (l : List Idd) : (List.take b (tb.map SH) ++ [AV.sl .own 30 c (l.map Idd.enc)] ++ List.drop (b + 1) (tb.map SH)).map share = List.take b (tb.map SH) ++ [AV.sl .fresh 30 c (l.map Idd.enc)] ++ List.drop (b + 1) (tb.map SH) := by
  have e : (tb.map SH).map share = tb.map SH := by
    rw [List.map_map]
    exact List.map_congr_left fun l _ => share_SH l
  rw [List.map_append, List.map_append, List.map_take, List.map_drop, e, List.map_cons, List.map_nil, share_own]
theorem le_fr30 (c : Option Nat) (l : List Idd) : Le Try.prog (.sl .fresh 30 c (l.map Idd.enc)) (SH l) := fun B0 w S n v O h => Le.cap B0 w S n v O (Le.toAny (ys := l.map Idd.enc) (by simp) rfl (fun _ h => h) (F2.rfl' _) B0 w S n v O h)
theorem le_nilSH : Le Try.prog niln (SH []) := fun B0 w S n v O h => Le.cap B0 w S n v O (Le.nil 30 B0 w S n v O h)
theorem noflat (tb : List (List Idd)) (b : Nat) (c : Option Nat) (l : List Idd) : (List.take b (tb.map SH) ++ [AV.sl .own 30 c (l.map Idd.enc)] ++ List.drop (b + 1) (tb.map SH)).all flatC = false := by
  rw [List.all_append, List.all_append]
  show (_ && (false && true) && _) = false
  simp
theorem nInv_nat {d i : Int} (h : ndV d i = true) : ∃ I : Nat, I < 80 ∧ d = ndB (I : Int) ∧ i = ndN (I : Int) ∧ nInv d i 80 = (I : Int) := by
  obtain ⟨h1, h2, h3⟩ := ndV_in h
  refine ⟨d.toNat * 40 + (i - 1).toNat, by omega, ?_, ?_, ?_⟩
  · rw [ndB_nat (by omega)]; omega
  · rw [ndN_nat (by omega)]; omega
  · rw [nInv_80, if_pos h]; unfold nIx; omega
end Tst
end

section
open Go Go.Lf Go.Proofs
namespace Tst
theorem jn_body : Try.f11.body = some (.seq (regAt Try.f11 0) (.seq (regAt Try.f11 1) (.seq (regAt Try.f11 2) (.seq (regAt Try.f11 3) (.seq (regAt Try.f11 4) (.seq (.seq (regAt Try.f11 5) (.block 0 (.loop (loopBody Try.f11 0)))) (.seq (regAt Try.f11 12) (.seq (codeAt Try.f11 13) (.seq (codeAt Try.f11 19) (.seq (codeAt Try.f11 21) (.seq (regAt Try.f11 23) (.seq (regAt Try.f11 24) (.seq (codeAt Try.f11 25) (.seq (regAt Try.f11 28) (.seq (codeAt Try.f11 29) (.seq (regAt Try.f11 31) (.seq (codeAt Try.f11 32) (.seq (regAt Try.f11 34) .ret)))))))))))))))))) := by kernel_rfl
section
variable {F B : List Stk} {T : List (List Idd)} (hR : Rep F B T) (hg : Good' T) {cf cb : Nat} (c1 : capT cf F = 0) (c2 : capT cb B = 0) (d i e k : Int)
abbrev jnS (T : List (List Idd)) (cf cb : Nat) (F B : List Stk) (d i e k : Int) (y9 : List AV) (r a b : Int) : Env := [(4, .box [ub d, it i]), (5, .box [ub e, it k]), (7, .box (T.map SH)), (8, .box [bsl (some cf) F, bsl (some cb) B]), (9, .box y9), (10, it r), (11, it a), (12, it b)]
def jnWant (T : List (List Idd)) (d e a b : Int) : Int := if a < 0 ∨ b < 0 ∨ d = e then 1 else if (T.getD a.toNat []).length = 0 then 13 else if 4 < (T.getD a.toNat []).length + (T.getD b.toNat []).length then 9 else 0
theorem jn_want (y8 y9 : List AV) (hT : T.length = 80) (hs : ∀ i, (T.getD i []).length ≤ 4) (r a b : Int) (ha : a < 80) (hb : b < 80) :
    Tri Try.prog (cxN 163 0) (codeAt Try.f11 13) [(4, .box [ub d, it i]), (5, .box [ub e, it k]), (7, .box (T.map SH)), (8, .box y8), (9, .box y9), (10, it r), (11, it a), (12, it b), (14, it 0)] .normal
      [(4, .box [ub d, it i]), (5, .box [ub e, it k]), (7, .box (T.map SH)), (8, .box y8), (9, .box y9), (10, it r), (11, it a), (12, it b), (14, it (jnWant T d e a b))] := by
  have aft : ∀ {w : Int} {env' : Env}, keepE [(4, .keep), (5, .keep), (7, .keep), (8, .keep), (9, .keep), (10, .keep), (11, .keep), (12, .keep), (14, .keep)] env' = [(4, .box [ub d, it i]), (5, .box [ub e, it k]), (7, .box (T.map SH)), (8, .box y8), (9, .box y9), (10, it r), (11, it a), (12, it b), (14, it w)] → jnWant T d e a b = w →
      Tri Try.prog (cxN 163 0) (codeAt Try.f11 13) [(4, .box [ub d, it i]), (5, .box [ub e, it k]), (7, .box (T.map SH)), (8, .box y8), (9, .box y9), (10, it r), (11, it a), (12, it b), (14, it 0)] .normal env' → Tri Try.prog (cxN 163 0) (codeAt Try.f11 13) [(4, .box [ub d, it i]), (5, .box [ub e, it k]), (7, .box (T.map SH)), (8, .box y8), (9, .box y9), (10, it r), (11, it a), (12, it b), (14, it 0)] .normal
      [(4, .box [ub d, it i]), (5, .box [ub e, it k]), (7, .box (T.map SH)), (8, .box y8), (9, .box y9), (10, it r), (11, it a), (12, it b), (14, it (jnWant T d e a b))] := fun h1 h2 h => by
    rw [h2, ← h1]; exact Tri.after _ h
  by_cases h0 : a < 0
  · exact aft rfl (if_pos (.inl h0)) (jz13_0 T y8 y9 d i e k r a b (decide_eq_true h0))
  by_cases h1 : b < 0
  · exact aft rfl (if_pos (.inr (.inl h1))) (jz13_1 T y8 y9 d i e k r a b (decide_eq_false h0) (decide_eq_true h1))
  by_cases h2 : d = e
  · exact aft rfl (if_pos (.inr (.inr h2))) (jz13_2 T y8 y9 d i e k r a b (decide_eq_false h0) (decide_eq_false h1) (by simpa using h2))
  have hn : ¬ (a < 0 ∨ b < 0 ∨ d = e) := by rintro (h | h | h) <;> contradiction
  obtain ⟨I, rfl⟩ := Int.eq_ofNat_of_zero_le (show 0 ≤ a by omega)
  obtain ⟨K, rfl⟩ := Int.eq_ofNat_of_zero_le (show 0 ≤ b by omega)
  have q3 := jz13_3 T y8 y9 d i e k r I K (decide_eq_false h0) (decide_eq_false h1) (by simpa using h2)
  have q4 := jz13_4 T y8 y9 d i e k r I K (decide_eq_false h0) (decide_eq_false h1) (by simpa using h2)
  have q5 := jz13_5 T y8 y9 d i e k r I K (decide_eq_false h0) (decide_eq_false h1) (by simpa using h2)
  have lI := hs I
  have lK := hs K
  have bI : decide ((0 : Int) ≤ (I : Int) ∧ (I : Int) < ((80 : Nat) : Int) ∧ (0 : Nat) < (1 : Nat)) = true := decide_eq_true (by omega)
  have bK : decide ((0 : Int) ≤ (K : Int) ∧ (K : Int) < ((80 : Nat) : Int) ∧ (0 : Nat) < (1 : Nat)) = true := decide_eq_true (by omega)
  have w : IntKind.wrap IntKind.i64 ((((List.map Idd.enc (T.getD I [])).length : Nat) : Int) + (((List.map Idd.enc (T.getD K [])).length : Nat) : Int)) = (((T.getD I []).length + (T.getD K []).length : Nat) : Int) := by
    rw [List.length_map, List.length_map, wrap_id' (by omega) (by omega)]; omega
  simp only [Int.toNat_natCast, Nat.mul_one] at q3 q4 q5
  have e0 : jnWant T d e I K = if (T.getD I []).length = 0 then 13 else if 4 < (T.getD I []).length + (T.getD K []).length then 9 else 0 := if_neg hn
  have gI : List.getD (List.map SH T) I AV.bad = SH (T.getD I []) := getD_SH (by omega)
  have gK : List.getD (List.map SH T) K AV.bad = SH (T.getD K []) := getD_SH (by omega)
  have tI : decide (True ∧ I < (List.map SH T).length) = true := decide_eq_true ⟨trivial, by rw [List.length_map]; omega⟩
  have tK : decide (True ∧ K < (List.map SH T).length) = true := decide_eq_true ⟨trivial, by rw [List.length_map]; omega⟩
  by_cases h3 : (T.getD I []).length = 0
  · exact aft rfl (e0.trans (if_pos h3)) (q3 bI tI gI (by show ((((List.map Idd.enc (T.getD I [])).length : Nat) : Int) == 0) = true; rw [List.length_map, h3]; rfl))
  have n3 : ((((List.map Idd.enc (T.getD I [])).length : Nat) : Int) == 0) = false := by rw [List.length_map]; simp only [beq_eq_false_iff_ne]; omega
  rw [if_neg h3] at e0
  by_cases h4 : 4 < (T.getD I []).length + (T.getD K []).length
  · exact aft rfl (e0.trans (if_pos h4)) (q4 bI tI gI n3 bK tK gK (by show decide (4 < IntKind.wrap IntKind.i64 ((((List.map Idd.enc (T.getD I [])).length : Nat) : Int) + (((List.map Idd.enc (T.getD K [])).length : Nat) : Int))) = true; rw [w]; exact decide_eq_true (by omega)))
  · exact aft rfl (e0.trans (if_neg h4)) (q5 bI tI gI n3 bK tK gK (by show decide (4 < IntKind.wrap IntKind.i64 ((((List.map Idd.enc (T.getD I [])).length : Nat) : Int) + (((List.map Idd.enc (T.getD K [])).length : Nat) : Int))) = false; rw [w]; exact decide_eq_false (by omega)))
include hR hg c1 c2
theorem jn_mid {r : Int} (y9 : List AV) (hw : jnWant T d e (nInv d i 80) (nInv e k 80) = r) {c : Code} {env' : Env}
    (h : Tri Try.prog (cxN 163 0) c (jnS T cf cb F B d i e k y9 r (nInv d i 80) (nInv e k 80)) .ret env') :
    Tri Try.prog (cxN 163 0) (.seq (regAt Try.f11 4) (.seq (.seq (regAt Try.f11 5) (.block 0 (.loop (loopBody Try.f11 0)))) (.seq (regAt Try.f11 12) (.seq (codeAt Try.f11 13) (.seq (codeAt Try.f11 19) c)))))
      [(4, .box [ub d, it i]), (5, .box [ub e, it k]), (7, .box (T.map SH)), (8, .box [bsl (some cf) F, bsl (some cb) B]), (9, .box y9), (10, it r)] .ret env' := by
  have hT := hR.l
  have lt : ∀ d i, nInv d i 80 < 80 := fun d i => by
    by_cases hv : ndV d i = true
    · obtain ⟨I, h1, _, _, h2⟩ := nInv_nat hv
      rw [h2]; omega
    · rw [nInv_80, if_neg hv]; omega
  have hdf := df_rep hR hg c1 c2
  refine .seq (jz4_0 _ _ _ _ _ _) (.seq (.seq (jz5_0 _ _ _ _ _ _ _ _) (.block (ex := .exit 0) (jl_loop (T.map SH) [bsl (some cf) F, bsl (some cb) B] y9 r d e i k) (.inl ⟨rfl, rfl⟩))) (.seq (jz12_0 _ _ _ _ _ _ _ _) ?_))
  refine .seq (jn_want d i e k [bsl (some cf) F, bsl (some cb) B] y9 hT hg.s r (nInv d i 80) (nInv e k 80) (lt _ _) (lt _ _)) ?_
  rw [hw, bedS_eq hT]
  refine .seq (jz19_0 cf cb F B _ _ _ y9 r r _ _ (by simp) hdf (by simp) rfl) ?_
  rw [← bedS_eq hT]
  exact Tri.weak [(4, .keep), (5, .keep), (7, .keep), (8, .keep), (9, .keep), (10, .keep), (11, .keep), (12, .keep)] h
end
end Tst
end

section
open Go Go.Lf Go.Proofs
namespace Tst
theorem jt_back {T : List (List Idd)} (hl : T.length = 80) {I K : Nat} (hi : I < 80) (hk : K < 80) (hne : I ≠ K) (h0 : T.getD K [] = []) :
    jt (jt T I K (jl T I K)) K I (jl (jt T I K (jl T I K)) K I) = T := by
  have eJ : jl T I K = T.getD I [] := by unfold jl; rw [h0]; split <;> simp
  have gk : (jt T I K (jl T I K)).getD K [] = T.getD I [] := by rw [jt_get T _ (by omega) (by omega), if_pos rfl, eJ]
  have gi : (jt T I K (jl T I K)).getD I [] = [] := by rw [jt_get T _ (by omega) (by omega), if_neg hne, if_pos rfl]
  have eJ2 : ∀ T1 : List (List Idd), T1.getD K [] = T.getD I [] → T1.getD I [] = [] → jl T1 K I = T.getD I [] := by
    intro T1 a b
    unfold jl; rw [a, b]; split <;> simp
  have e2 := eJ2 _ gk gi
  have hl1 : (jt T I K (jl T I K)).length = 80 := by rw [jt_len, hl]
  generalize jl (jt T I K (jl T I K)) K I = J2 at *
  have hx : ∀ j, (jt (jt T I K (jl T I K)) K I J2).getD j [] = T.getD j [] := by
    intro j
    rw [jt_get _ _ (by omega) (by omega)]
    split
    · rename_i e; rw [e, e2]
    · split
      · rename_i e; rw [e, h0]
      · rename_i n1 n2
        rw [jt_get T _ (by omega) (by omega), if_neg n2, if_neg n1]
  apply List.ext_getElem
  · rw [jt_len, hl1, hl]
  · intro j h1 h2
    have := hx j
    rw [List.getD_eq_getElem?_getD, List.getElem?_eq_getElem h1, List.getD_eq_getElem?_getD, List.getElem?_eq_getElem h2] at this
    exact this
theorem jer_of {F B : List Stk} {d i e k r : Int} (h : joinV F B d i e k = nilR r) : JEr F B d i e k r := fun cf cb => by
  have := join_c (some cf) (some cb) F B d i e k
  rwa [h] at this
theorem jo_of {F B : List Stk} {d i e k : Int} {X Y : List (List Idd)} (h : joinV F B d i e k = bedsR X Y) : JO F B d i e k X Y := fun cf cb => by
  have := join_c (some cf) (some cb) F B d i e k
  rw [h] at this
  exact this
theorem jn_err (T : List (List Idd)) (cf cb : Nat) (F B : List Stk) (d i e k r a b : Int) (h : r ≠ 0) (c : Code) : Tri Try.prog (cxN 163 0) (.seq (codeAt Try.f11 21) c) (jnS T cf cb F B d i e k [niln, niln] r a b) .ret [(6, bb true)] :=
  .seqX (Tri.weak [(9, .keep), (10, .keep)] (jz21e_0 r (by simpa using h) (by simpa using h))) (by simp)
section
variable {F B : List Stk} {T : List (List Idd)} (hR : Rep F B T) (hg : Good' T) {cf cb : Nat} {I K : Nat} (hi : I < 80) (hk : K < 80) (hIK : I / 40 ≠ K / 40)
include hR hg hi hk hIK
theorem jn_put (y4 y8 y9 : List AV) (i k : Int) (z : Bool) {c : Code} {env' : Env} {ex : Ex}
    (h : Tri Try.prog (cxN 163 0) c [(4, .box y4), (5, .box [ub (ndB (K : Int)), it k]), (8, .box y8), (9, .box y9), (15, bb z), (16, .box ((jt T I K (jl T I K)).map SH))] ex env') :
    Tri Try.prog (cxN 163 0) (.seq (codeAt Try.f11 25) (.seq (regAt Try.f11 28) c)) [(4, .box y4), (5, .box [ub (ndB (K : Int)), it k]), (7, .box (T.map SH)), (8, .box y8), (9, .box y9), (11, it I), (12, it K), (15, bb z), (16, .box (T.map SH))] ex env' := by
  have hT := hR.l
  have lI := hg.s I
  have lK := hg.s K
  have bI : decide ((0 : Int) ≤ (I : Int) ∧ (I : Int) < ((80 : Nat) : Int) ∧ (0 : Nat) < (1 : Nat)) = true := decide_eq_true (by omega)
  have bK : decide ((0 : Int) ≤ (K : Int) ∧ (K : Int) < ((80 : Nat) : Int) ∧ (0 : Nat) < (1 : Nat)) = true := decide_eq_true (by omega)
  have gI : List.getD (List.map SH T) I AV.bad = SH (T.getD I []) := getD_SH (by omega)
  have gK : List.getD (List.map SH T) K AV.bad = SH (T.getD K []) := getD_SH (by omega)
  have tI : decide (True ∧ I < (List.map SH T).length) = true := decide_eq_true ⟨trivial, by rw [List.length_map]; omega⟩
  have tK : decide (True ∧ K < (List.map SH T).length) = true := decide_eq_true ⟨trivial, by rw [List.length_map]; omega⟩
  have h28 : Tri Try.prog (cxN 163 0) (.seq (regAt Try.f11 28) c) [(4, .box y4), (5, .box [ub (ndB (K : Int)), it k]), (8, .box y8), (9, .box y9), (11, it I), (15, bb z), (16, .box ((T.set K (jl T I K)).map SH))] ex env' := by
    have q := jz28_0 (T.set K (jl T I K)) y4 [ub (ndB (K : Int)), it k] y8 y9 I z bI
    simp only [Int.toNat_natCast, Nat.mul_one] at q
    have q2 := q (decide_eq_true ⟨trivial, by rw [List.length_map, List.length_set]; omega⟩) (getD_SH (by rw [List.length_set]; omega)) 
    refine .seq (Tri.less q2 (env2 := [(4, .box y4), (5, .box [ub (ndB (K : Int)), it k]), (8, .box y8), (9, .box y9), (15, bb z), (16, .box ((jt T I K (jl T I K)).map SH))]) ?_) h
    have hs : jt T I K (jl T I K) = (T.set K (jl T I K)).set I [] := by unfold jt; rw [List.set_comm _ _ (by omega)]
    rw [hs]
    exact .cons ⟨rfl, rfl, Le.refl _⟩ (.cons ⟨rfl, rfl, Le.refl _⟩ (.cons ⟨rfl, rfl, Le.refl _⟩ (.cons ⟨rfl, rfl, Le.refl _⟩ (.cons ⟨rfl, rfl, Le.refl _⟩ (.cons ⟨rfl, rfl, le_row [] (by rw [List.length_set]; omega) le_nilSH⟩ .nil)))))
  have mid : ∀ (cap : Option Nat), Tri Try.prog (cxN 163 0) (.seq (regAt Try.f11 28) c) [(4, .box y4), (5, .box [ub (ndB (K : Int)), it k]), (8, .box y8), (9, .box y9), (11, it I), (15, bb z), (16, .box (List.take K (T.map SH) ++ [AV.sl .own 30 cap ((jl T I K).map Idd.enc)] ++ List.drop (K + 1) (T.map SH)))] ex env' := fun cap => by
    refine Tri.moreBox (r := 16) rfl (topNo (by intro p hp; simp only [List.mem_cons, List.not_mem_nil, or_false] at hp; rcases hp with rfl | rfl | rfl | rfl | rfl | rfl | rfl <;> rfl) 16) ?_
    rw [share_row]
    refine Tri.weak [(4, .keep), (5, .keep), (8, .keep), (9, .keep), (11, .keep), (15, .keep), (16, .keep)] ?_
    refine Tri.more h28 ?_
    exact .cons ⟨rfl, rfl, Le.refl _⟩ (.cons ⟨rfl, rfl, Le.refl _⟩ (.cons ⟨rfl, rfl, Le.refl _⟩ (.cons ⟨rfl, rfl, Le.refl _⟩ (.cons ⟨rfl, rfl, Le.refl _⟩ (.cons ⟨rfl, rfl, Le.refl _⟩ (.cons ⟨rfl, rfl, le_row _ (by omega) (le_fr30 _ _)⟩ .nil))))))
  by_cases h40 : K < 40
  · have e0 : (ndB (K : Int) == 1) = false := by rw [ndB_nat hk, show K / 40 = 0 by omega]; rfl
    have eJ : jl T I K = [] ++ T.getD I [] ++ T.getD K [] := by unfold jl; rw [if_neg (by omega)]; rfl
    have q := jz25_3 T y4 y8 y9 (ndB (K : Int)) k I K z e0 rfl bI
    simp only [Int.toNat_natCast, Nat.mul_one] at q
    rw [eJ] at mid
    refine .seq (q tI gI (decide_eq_true (all_enc _)) (decide_eq_true ⟨trivial, by rw [List.length_map, List.length_map]; show 0 + (T.getD I []).length ≤ _; omega, by simp⟩) rfl bK tK gK (decide_eq_true (all_enc _)) (decide_eq_true ⟨trivial, by rw [List.length_map, List.length_map]; show (T.getD I []).length + (T.getD K []).length ≤ _; omega, by simp⟩) (by rw [← List.map_append]) (noflat _ _ _ _)) (mid _)
  · have e0 : (ndB (K : Int) == 1) = true := by rw [ndB_nat hk, show K / 40 = 1 by omega]; rfl
    have eJ : jl T I K = [] ++ T.getD K [] ++ T.getD I [] := by unfold jl; rw [if_pos (by omega)]; rfl
    have q := jz25_1 T y4 y8 y9 (ndB (K : Int)) k I K z e0 rfl bK
    simp only [Int.toNat_natCast, Nat.mul_one] at q
    rw [eJ] at mid
    refine .seq (q tK gK (decide_eq_true (all_enc _)) (decide_eq_true ⟨trivial, by rw [List.length_map, List.length_map]; show 0 + (T.getD K []).length ≤ _; omega, by simp⟩) rfl bI tI gI (decide_eq_true (all_enc _)) (decide_eq_true ⟨trivial, by rw [List.length_map, List.length_map]; show (T.getD K []).length + (T.getD I []).length ≤ _; omega, by simp⟩) (by rw [← List.map_append]) (noflat _ _ _ _)) (mid _)
end
end Tst
end

section
open Go Go.Lf Go.Proofs
namespace Tst
attribute [local irreducible] joinV
theorem law11_c (x : List Pt) (hx : ∀ q ∈ x, 0 ≤ q.a ∧ 0 ≤ q.m) (d i e k : Int) : PureC Try.prog 11 [psl none x, ndl d i, ndl e k] (bb true) := by
  have hof : OfOk x fun i => (ofT x).getD i [] := of_c none x hx
  have hbd : BdOk (fun i => (ofT x).getD i []) (bedOfT (ofT x) 0) (bedOfT (ofT x) 40) := beds_c (ofT x) (ofT_len x) (ofT_short x)
  have hT : (ofT x).length = 80 := ofT_len x
  have hg : Good' (ofT x) := good_ofT x fun q hq => (hx q hq).1
  have hR : Rep (stkF (bedOfT (ofT x) 0)) (stkF (bedOfT (ofT x) 40)) (ofT x) := rep_bed _ hT fun o => bedOfT_len _ o
  have c1 := capT_bed (ofT x) 0
  have c2 := capT_bed (ofT x) 40
  generalize ofT x = T at *
  generalize hX : bedOfT T 0 = X at *
  generalize hY : bedOfT T 40 = Y at *
  obtain ⟨F, hF⟩ : ∃ F, F = stkF X := ⟨_, rfl⟩
  obtain ⟨B, hB⟩ : ∃ B, B = stkF Y := ⟨_, rfl⟩
  have l1 := le_frE (P := Try.prog) X
  have l2 := le_frE (P := Try.prog) Y
  rw [← hF] at hR c1 l1
  rw [← hB] at hR c2 l2
  refine pureT ((base 163 0).ok cxA_K.1 cxA_K.2) Try.func11 rfl (by show 3 ≤ 163; omega) rfl jn_body rfl (ex := .ret) (env' := [(6, bb true)]) ?_ rfl
  refine .seq (jz0_0 x d i e k) (.seq (jz1_0 x _ _ _ hof) (.seq (Tri.less (env2 := [(4, .box [ub d, it i]), (5, .box [ub e, it k]), (7, .box (bedS fun i => T.getD i [])), (8, .box [bsl (some X.length) F, bsl (some Y.length) B])]) (jz2_0 _ X Y _ _ hbd rfl (by rw [smapFN, smapFN])) ?_) ?_))
  · exact .cons ⟨rfl, rfl, Le.refl _⟩ (.cons ⟨rfl, rfl, Le.refl _⟩ (.cons ⟨rfl, rfl, le_tab _⟩ (.cons ⟨rfl, rfl, Le.box (.cons l1 (.cons l2 .nil))⟩ .nil)))
  rw [← bedS_eq hT]
  -- what goes wrong
  have err : ∀ r : Int, r ≠ 0 → joinV F B d i e k = nilR r → jnWant T d e (nInv d i 80) (nInv e k 80) = r → ∀ c : Code, Tri Try.prog (cxN 163 0) (.seq (regAt Try.f11 3) (.seq (regAt Try.f11 4) (.seq (.seq (regAt Try.f11 5) (.block 0 (.loop (loopBody Try.f11 0)))) (.seq (regAt Try.f11 12) (.seq (codeAt Try.f11 13) (.seq (codeAt Try.f11 19) (.seq (codeAt Try.f11 21) c))))))) [(4, .box [ub d, it i]), (5, .box [ub e, it k]), (7, .box (T.map SH)), (8, .box [bsl (some X.length) F, bsl (some Y.length) B])] .ret [(6, bb true)] := fun r h0 hj hw c =>
    .seq (jz3e_0 X.length Y.length F B _ d i e k r (jer_of hj)) (jn_mid hR hg c1 c2 d i e k [niln, niln] hw (jn_err T X.length Y.length F B d i e k r _ _ h0 c))
  by_cases hv : ndV d i = true ∧ ndV e k = true ∧ d ≠ e
  · obtain ⟨v1, v2, hne⟩ := hv
    obtain ⟨I, hI, rfl, rfl, eI⟩ := nInv_nat v1
    obtain ⟨K, hK, rfl, rfl, eK⟩ := nInv_nat v2
    have hIK : I / 40 ≠ K / 40 := fun c => hne (by rw [ndB_nat hI, ndB_nat hK, c])
    have hj := joinV_nat hR hg hI hK
    rw [if_neg hIK] at hj
    have hw : jnWant T (ndB (I : Int)) (ndB (K : Int)) (nInv (ndB (I : Int)) (ndN (I : Int)) 80) (nInv (ndB (K : Int)) (ndN (K : Int)) 80) = if (T.getD I []).length = 0 then 13 else if 4 < (T.getD I []).length + (T.getD K []).length then 9 else 0 := by
      rw [eI, eK]
      unfold jnWant
      rw [if_neg (by rintro (h | h | h); omega; omega; exact hne h), Int.toNat_natCast, Int.toNat_natCast]
    by_cases h0 : (T.getD I []).length = 0
    · rw [if_pos h0] at hj hw
      exact err 13 (by decide) hj hw _
    rw [if_neg h0] at hj hw
    by_cases h4 : 4 < (T.getD I []).length + (T.getD K []).length
    · rw [if_pos h4] at hj hw
      exact err 9 (by decide) hj hw _
    rw [if_neg h4] at hj hw
    have hIKn : I ≠ K := fun c => hIK (by rw [c])
    -- the table behind
    have hg1 := jok_good hg hT hI hK hIKn (by omega)
    have hl1 : (jt T I K (jl T I K)).length = 80 := by rw [jt_len, hT]
    have hR1 := rep_half _ hl1
    have gi : (jt T I K (jl T I K)).getD I [] = [] := by rw [jt_get T _ (by omega) (by omega), if_neg hIKn, if_pos rfl]
    have gk : (jt T I K (jl T I K)).getD K [] = jl T I K := by rw [jt_get T _ (by omega) (by omega), if_pos rfl]
    have ln := jl_len T I K
    have hj2 := joinV_nat hR1 hg1 hK hI
    rw [if_neg (Ne.symm hIK), gk, gi, ln, if_neg (by omega), if_neg (by rw [List.length_nil]; omega)] at hj2
    have hfl := (jt_perm T (jl T I K) (by omega) (by omega) (Ne.symm hIKn) (jl_perm T I K)).length_eq
    have hbk := jt_back hT hI hK hIKn
    have k1 := capT_half (jt T I K (jl T I K)) 0
    have k2 := capT_half (jt T I K (jl T I K)) 40
    have m1 := Le.frW (P := Try.prog) (halfT (jt T I K (jl T I K)) 0)
    have m2 := Le.frW (P := Try.prog) (halfT (jt T I K (jl T I K)) 40)
    have hput := fun (y4 y8 y9 : List AV) (z : Bool) (c : Code) (env' : Env) (ex : Ex) => jn_put hR hg hI hK hIK y4 y8 y9 (ndN (I : Int)) (ndN (K : Int)) z (c := c) (env' := env') (ex := ex)
    generalize hT1 : jt T I K (jl T I K) = T1 at *
    have hg2 := jok_good hg1 hl1 hK hI (Ne.symm hIKn) (by rw [gk, gi, ln, List.length_nil]; omega)
    have hl2 : (jt T1 K I (jl T1 K I)).length = 80 := by rw [jt_len, hl1]
    have hR2 := rep_half _ hl2
    have n1 := Le.frW (P := Try.prog) (halfT (jt T1 K I (jl T1 K I)) 0)
    have n2 := Le.frW (P := Try.prog) (halfT (jt T1 K I (jl T1 K I)) 40)
    generalize hT2 : jt T1 K I (jl T1 K I) = T2 at *
    have d1 := df_rep hR1 hg1 k1 k2
    have t1 := ct_rep hR1 hg1
    have t0 := ct_rep hR hg
    generalize halfT T1 0 = X1 at *
    generalize halfT T1 40 = Y1 at *
    generalize halfT T2 0 = X2 at *
    generalize halfT T2 40 = Y2 at *
    refine .seq (Tri.less (jz3o_0 X.length Y.length F B (T.map SH) _ _ _ _ X1 Y1 (jo_of hj) (by rw [smap_FW, smap_FW])) (env2 := [(4, .box [ub (ndB (I : Int)), it (ndN (I : Int))]), (5, .box [ub (ndB (K : Int)), it (ndN (K : Int))]), (7, .box (T.map SH)), (8, .box [bsl (some X.length) F, bsl (some Y.length) B]), (9, .box [bsl (some X1.length) (stkW X1), bsl (some Y1.length) (stkW Y1)]), (10, it 0)]) ?_) ?_
    · exact .cons ⟨rfl, rfl, Le.refl _⟩ (.cons ⟨rfl, rfl, Le.refl _⟩ (.cons ⟨rfl, rfl, Le.refl _⟩ (.cons ⟨rfl, rfl, Le.refl _⟩ (.cons ⟨rfl, rfl, Le.box (.cons m1 (.cons m2 .nil))⟩ (.cons ⟨rfl, rfl, Le.refl _⟩ .nil)))))
    refine jn_mid hR hg c1 c2 _ _ _ _ _ hw ?_
    rw [eI, eK]
    refine .seq (jz21o_0 _ _ _ _ _ _ _) ?_
    refine Tri.weak [(4, .keep), (5, .keep), (7, .keep), (8, .keep), (9, .keep), (11, .keep), (12, .keep)] ?_
    have q23 := jz23_0 T [ub (ndB (I : Int)), it (ndN (I : Int))] [ub (ndB (K : Int)), it (ndN (K : Int))] [bsl (some X.length) F, bsl (some Y.length) B] [bsl (some X1.length) (stkW X1), bsl (some Y1.length) (stkW Y1)] I K (decide_eq_true (by omega)) (decide_eq_true ⟨rfl, by rw [List.length_map, Int.toNat_natCast]; omega⟩) (by simp only [Int.toNat_natCast, Nat.mul_one]; exact getD_SH (by omega))
    simp only [Int.toNat_natCast, Nat.mul_one] at q23
    have ez : ((((List.map Idd.enc (T.getD K default)).length : Nat) : Int) == (0 : Int)) = decide (T.getD K [] = []) := by
      show ((((List.map Idd.enc (T.getD K [])).length : Nat) : Int) == (0 : Int)) = _
      rw [List.length_map]
      refine Bool.eq_iff_iff.2 ?_
      simp only [beq_iff_eq, decide_eq_true_eq]
      rw [← List.length_eq_zero_iff]; omega
    rw [ez] at q23
    refine .seq q23 ?_
    rw [bedS_eq hT]
    refine .seq (jz24_0 _ _ _ _ _ _ _ _ rfl) ?_
    rw [← bedS_eq hT]
    refine hput _ _ _ _ _ _ _ ?_
    rw [bedS_eq hl1]
    refine .seq (jz29_0 X.length Y.length X1.length Y1.length F B (stkW X1) (stkW Y1) _ _ _ _ _ _ d1 t1 t0 (by rw [hfl]; simp) rfl (by rw [hfl]; simp)) ?_
    refine Tri.weak [(4, .keep), (5, .keep), (8, .keep), (9, .keep), (15, .keep)] ?_
    refine .seq (Tri.less (jz31_0 X1.length Y1.length (stkW X1) (stkW Y1) _ _ _ _ _ _ X2 Y2 (jo_of hj2) (by rw [smap_FW, smap_FW])) (env2 := [(8, .box [bsl (some X.length) F, bsl (some Y.length) B]), (10, it 0), (15, bb (decide (T.getD K [] = []))), (17, .box [bsl (some X2.length) (stkW X2), bsl (some Y2.length) (stkW Y2)])]) ?_) ?_
    · exact .cons ⟨rfl, rfl, Le.refl _⟩ (.cons ⟨rfl, rfl, Le.refl _⟩ (.cons ⟨rfl, rfl, Le.refl _⟩ (.cons ⟨rfl, rfl, Le.box (.cons n1 (.cons n2 .nil))⟩ .nil)))
    refine .seq (jz32_0 _ _ _) ?_
    refine Tri.weak [(8, .keep), (15, .keep), (17, .keep)] ?_
    by_cases hz : T.getD K [] = []
    · rw [decide_eq_true hz]
      have hsm : SmO (stkW X2) (stkW Y2) F B true := fun a1 a2 a3 a4 => smok (some a1) (some a2) (some a3) (some a4) _ _ _ _ true (smok_nat hR2 hR hg2 (decide_eq_true (hbk hz)))
      exact .seq (jz34t_0 X.length Y.length X2.length Y2.length F B _ _ hsm) .ret
    · rw [decide_eq_false hz]
      exact .seq (jz34f_0 _ _) .ret
  · refine err 1 (by decide) ?_ ?_ _
    · unfold joinV
      rw [hR.chk hg, if_neg (by decide), if_pos]
      cases v1 : ndV d i
      · rfl
      · cases v2 : ndV e k
        · rfl
        · simp; exact Classical.byContradiction fun c => hv ⟨v1, v2, c⟩
    · unfold jnWant
      rw [if_pos]
      by_cases v1 : ndV d i = true
      · by_cases v2 : ndV e k = true
        · exact .inr (.inr (Classical.byContradiction fun c => hv ⟨v1, v2, c⟩))
        · exact .inr (.inl (by rw [nInv_80, if_neg v2]; omega))
      · exact .inl (by rw [nInv_80, if_neg v1]; omega)
end Tst
end

section
open Go Go.Lf Go.Proofs
namespace Tst
theorem F2.cons' {α β : Type} {R : α → β → Prop} {x : α} {l : List α} {m : List β} (h : F2 R (x :: l) m) : ∃ y m', m = y :: m' ∧ R x y ∧ F2 R l m' := by
  cases h with
  | cons h t => exact ⟨_, _, rfl, h, t⟩
theorem F2.nil' {α β : Type} {R : α → β → Prop} {m : List β} (h : F2 R [] m) : m = [] := by cases h; rfl
section
variable {P : Program} {t : TypeId} {ys : List AV}
theorem sh_int (m : Nat) {k : IntKind} (hu : P.underlying t = some (.int k)) (h : Shape P (m + 1) t ys) : ∃ i, ys = [.atom (.int k i)] ∧ (Lit.int k i).wf = true := by
  unfold Shape at h; rw [hu] at h; exact h
theorem sh_slice (m : Nat) {e : TypeId} (hu : P.underlying t = some (.slice e)) (h : Shape P (m + 1) t ys) : ∃ xs, ys = [.sl .any e none xs] ∧ xs.length ≤ maxLen ∧ ∀ x ∈ xs, ∃ cs, x = elOf P e cs ∧ cs.length = P.cellsOf e ∧ Shape P m e cs := by
  unfold Shape at h; rw [hu] at h; exact h
theorem sh_struct (m : Nat) {fs : Array Field} (hu : P.underlying t = some (.struct fs)) (h : Shape P (m + 1) t ys) : ∃ yss : List (List AV), ys = yss.flatten ∧ F2 (fun f cs => Shape P m f.type cs) fs.toList yss := by
  unfold Shape at h; rw [hu] at h; exact h
end
theorem choose_map {α : Type} (f : α → AV) (Q : α → Prop) : ∀ xs : List AV, (∀ x ∈ xs, ∃ a, x = f a ∧ Q a) → ∃ l : List α, xs = l.map f ∧ ∀ a ∈ l, Q a
  | [], _ => ⟨[], rfl, by simp⟩
  | x :: xs, h => by
    obtain ⟨a, rfl, ha⟩ := h x (by simp)
    obtain ⟨l, rfl, hl⟩ := choose_map f Q xs fun y hy => h y (by simp [hy])
    exact ⟨a :: l, rfl, by
      intro b hb
      rcases List.mem_cons.1 hb with rfl | hb
      · exact ha
      · exact hl b hb⟩
def U8 (x : Int) : Prop := 0 ≤ x ∧ x ≤ 255
def I64 (x : Int) : Prop := -9223372036854775808 ≤ x ∧ x ≤ 9223372036854775807
theorem u8_wf {i : Int} (h : (Lit.int .u8 i).wf = true) : U8 i := by
  simp only [Lit.wf, Bool.and_eq_true, decide_eq_true_eq] at h
  exact h
theorem i64_wf {i : Int} (h : (Lit.int .i64 i).wf = true) : I64 i := by
  simp only [Lit.wf, Bool.and_eq_true, decide_eq_true_eq] at h
  exact h
structure Ty3 (P : Program) : Prop where
  u3 : P.underlying 3 = some (.int .i64)
  u5 : P.underlying 5 = some (.int .u8)
  u52 : P.underlying 52 = some (.array 2 5)
  a52 : aggT P 52 = true
theorem tyP3 : Ty3 Try.prog := ⟨Try.underlying3, Try.underlying5, Try.underlying52, by kernel_rfl⟩
def Arg (P : Program) (t : TypeId) (x : AV) : Prop := ∃ ys, x = elOf P t ys ∧ Shape P 8 t ys ∧ ys.length = P.cellsOf t
theorem args3 {P : Program} {s t u : TypeId} {xs : List AV} (h : F2 (Arg P) [s, t, u] xs) : ∃ x y z, xs = [x, y, z] ∧ Arg P s x ∧ Arg P t y ∧ Arg P u z := by
  obtain ⟨x, _, rfl, h1, h⟩ := F2.cons' h
  obtain ⟨y, _, rfl, h2, h⟩ := F2.cons' h
  obtain ⟨z, _, rfl, h3, h⟩ := F2.cons' h
  obtain rfl := F2.nil' h
  exact ⟨x, y, z, rfl, h1, h2, h3⟩
end Tst
end

section
open Go Go.Lf Go.Proofs
namespace Tst
structure Ty4 (P : Program) : Prop where
  u58 : P.underlying 58 = some (.slice 87)
  u62 : P.underlying 62 = some (.slice 30)
  u66 : P.underlying 66 = some (.slice 62)
  u59 : P.underlying 59 = some (.int .u8)
  u87 : ∃ a b : Field, P.underlying 87 = some (.struct #[a, b]) ∧ a.type = 5 ∧ b.type = 5
  u61 : ∃ a b : Field, P.underlying 61 = some (.struct #[a, b]) ∧ a.type = 59 ∧ b.type = 3
  u30 : ∃ a b : Field, P.underlying 30 = some (.struct #[a, b]) ∧ a.type = 5 ∧ b.type = 3
  u68 : ∃ a b : Field, P.underlying 68 = some (.struct #[a, b]) ∧ a.type = 66 ∧ b.type = 66
  a87 : aggT P 87 = true
  a61 : aggT P 61 = true
  a30 : aggT P 30 = true
  a68 : aggT P 68 = true
  a58 : aggT P 58 = false
  a62 : aggT P 62 = false
  a66 : aggT P 66 = false
theorem tyP4 : Ty4 Try.prog := ⟨Try.underlying58, Try.underlying62, Try.underlying66, Try.underlying59, ⟨_, _, Try.underlying87, rfl, rfl⟩, ⟨_, _, Try.underlying61, rfl, rfl⟩, ⟨_, _, Try.underlying30, rfl, rfl⟩, ⟨_, _, Try.underlying68, rfl, rfl⟩,
  by kernel_rfl, by kernel_rfl, by kernel_rfl, by kernel_rfl, by kernel_rfl, by kernel_rfl, by kernel_rfl⟩
section
variable {P : Program} {m : Nat}
theorem pt_of (T : Ty3 P) (U : Ty4 P) {cs : List AV} (h : Shape P (m + 2) 87 cs) : ∃ p : Pt, cs = [ub p.a, ub p.m] ∧ U8 p.a ∧ U8 p.m := by
  obtain ⟨fa, fb, hu, ta, tb⟩ := U.u87
  obtain ⟨yss, rfl, hf⟩ := sh_struct (m + 1) hu h
  obtain ⟨c1, _, rfl, h1, hf⟩ := F2.cons' hf
  obtain ⟨c2, _, rfl, h2, hf⟩ := F2.cons' hf
  obtain rfl := F2.nil' hf
  rw [ta] at h1; rw [tb] at h2
  obtain ⟨y, rfl, w1⟩ := sh_int m T.u5 h1
  obtain ⟨n, rfl, w2⟩ := sh_int m T.u5 h2
  exact ⟨⟨y, n⟩, rfl, u8_wf w1, u8_wf w2⟩
theorem nd_of (T : Ty3 P) (U : Ty4 P) {cs : List AV} (h : Shape P (m + 2) 61 cs) : ∃ d i, cs = [ub d, it i] ∧ U8 d ∧ I64 i := by
  obtain ⟨fa, fb, hu, ta, tb⟩ := U.u61
  obtain ⟨yss, rfl, hf⟩ := sh_struct (m + 1) hu h
  obtain ⟨c1, _, rfl, h1, hf⟩ := F2.cons' hf
  obtain ⟨c2, _, rfl, h2, hf⟩ := F2.cons' hf
  obtain rfl := F2.nil' hf
  rw [ta] at h1; rw [tb] at h2
  obtain ⟨y, rfl, w1⟩ := sh_int m U.u59 h1
  obtain ⟨n, rfl, w2⟩ := sh_int m T.u3 h2
  exact ⟨y, n, rfl, u8_wf w1, i64_wf w2⟩
theorem el_no {t : TypeId} (h : aggT P t = false) (x : AV) : elOf P t [x] = x := by unfold elOf; rw [if_neg (Bool.eq_false_iff.1 h)]; rfl
end
section
variable {P : Program}
theorem arg58 (T : Ty3 P) (U : Ty4 P) {x : AV} (h : Arg P 58 x) : ∃ l : List Pt, x = psl none l ∧ (∀ p ∈ l, U8 p.a ∧ U8 p.m) ∧ l.length ≤ maxLen := by
  obtain ⟨ys, rfl, hs, _⟩ := h
  obtain ⟨xs, rfl, hl, hx⟩ := sh_slice 7 U.u58 hs
  obtain ⟨a, rfl, ha⟩ := choose_map Pt.enc (fun p => U8 p.a ∧ U8 p.m) xs fun x hx' => by
    obtain ⟨cs, rfl, _, hc⟩ := hx x hx'
    obtain ⟨p, rfl, w⟩ := pt_of (m := 5) T U hc
    exact ⟨p, by unfold elOf; rw [if_pos U.a87]; rfl, w⟩
  exact ⟨a, el_no U.a58 _, ha, by simpa using hl⟩
theorem arg61 (T : Ty3 P) (U : Ty4 P) {x : AV} (h : Arg P 61 x) : ∃ d i, x = ndl d i ∧ U8 d ∧ I64 i := by
  obtain ⟨ys, rfl, hs, _⟩ := h
  obtain ⟨d, i, rfl, h1, h2⟩ := nd_of (m := 6) T U hs
  exact ⟨d, i, by unfold elOf; rw [if_pos U.a61], h1, h2⟩
end
end Tst
end

section
open Go Go.Lf Go.Proofs Tst
namespace Go.Proofs.Ytnaikfcmegkdpaa.stacksJoin
theorem StacksJoin_pure (xs : List AV) (h : F2 (fun t x => ∃ ys, x = elOf Try.prog t ys ∧ Shape Try.prog 8 t ys ∧ ys.length = Try.prog.cellsOf t) Try.f11.params.toList xs) : PureC Try.prog 11 xs (.atom (.bool true)) := by
  rw [Try.params11] at h
  obtain ⟨x, y, z, rfl, h1, h2, h3⟩ := args3 (P := Try.prog) h
  obtain ⟨l, rfl, hl, _⟩ := arg58 tyP3 tyP4 h1
  obtain ⟨d, i, rfl, hd, _⟩ := arg61 tyP3 tyP4 h2
  obtain ⟨e, k, rfl, he, _⟩ := arg61 tyP3 tyP4 h3
  exact law11_c l (fun q hq => ⟨(hl q hq).1.1, (hl q hq).2.1⟩) d i e k
end Go.Proofs.Ytnaikfcmegkdpaa.stacksJoin
end
