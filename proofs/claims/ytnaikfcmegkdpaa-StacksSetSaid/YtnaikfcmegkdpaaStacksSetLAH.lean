/- Part 8 of the evaluator and of the contracts that the claim uses. -/
import Derived.Test.YtnaikfcmegkdpaaStacksSetLAA
import Derived.Test.YtnaikfcmegkdpaaStacksSetLAB
import Derived.Test.YtnaikfcmegkdpaaStacksSetLAC
import Derived.Test.YtnaikfcmegkdpaaStacksSetLAD
import Derived.Test.YtnaikfcmegkdpaaStacksSetLAE
import Derived.Test.YtnaikfcmegkdpaaStacksSetLAF
import Derived.Test.YtnaikfcmegkdpaaStacksSetLAG
set_option linter.unusedVariables false
set_option linter.unusedSimpArgs false
set_option linter.constructorNameAsVariable false

section
open Go Go.Lf Go.Proofs
namespace Tst
set_option maxHeartbeats 0
theorem sz0_0 (x : List Pt) (d i : Int) (l : List Idd) : Tri Try.prog (cxN 194 0) (regAt Try.f10 0) ([(0, psl none x), (1, ndl d i), (2, isl none l)] ) (Ex.normal) ([(0, AV.sl Mode.any 87 none (List.map Pt.enc x)), (2, AV.sl Mode.any 30 none (List.map Idd.enc l)), (4, AV.box [ub d, it i])]) :=
  evA_ok (H := h10) (ans := [.c, .c]) (ps := []) (ans' := []) (base 194 0) cxA_K.1 cxA_K.2 _ (by kernel_rfl)  allp_nil
theorem sz1t_0 (x : List Pt) (y4 : List AV) (l : List Idd) (q : decide ((6 : Int) < (↑(List.length (List.map Idd.enc l)) : Int)) = true) (g0 : decide ((6 : Int) < (↑(List.length (List.map Idd.enc l)) : Int)) = true) : Tri Try.prog (cxN 194 0) (codeAt Try.f10 1) ([(0, psl none x), (2, isl none l), (4, .box y4)] ) (Ex.ret) ([(6, bb true)]) :=
  evA_ok (H := h10) (ans := [.c, .c, .c, .b true, .r (bb true), .c, .c, .c]) (ps := [decide ((6 : Int) < (↑(List.length (List.map Idd.enc l)) : Int)) = true, PureC Try.prog 37 [] (bb true)]) (ans' := []) (base 194 0) cxA_K.1 cxA_K.2 _ (by kernel_rfl)  (allp g0 (allp (by apply lives <;> (first | assumption | rfl | (simp at * <;> omega))) allp_nil))
theorem sz1f_0 (x : List Pt) (y4 : List AV) (l : List Idd) (q : decide ((6 : Int) < (↑(List.length (List.map Idd.enc l)) : Int)) = false) (g0 : decide ((6 : Int) < (↑(List.length (List.map Idd.enc l)) : Int)) = false) : Tri Try.prog (cxN 194 0) (codeAt Try.f10 1) ([(0, psl none x), (2, isl none l), (4, .box y4)] ) (Ex.normal) ([(0, AV.sl Mode.any 87 none (List.map Pt.enc x)), (2, AV.sl Mode.any 30 none (List.map Idd.enc l)), (4, AV.box y4), (22, bb (decide ((6 : Int) < (↑(List.length (List.map Idd.enc l)) : Int))))]) :=
  evA_ok (H := h10) (ans := [.c, .c, .c, .b false]) (ps := [decide ((6 : Int) < (↑(List.length (List.map Idd.enc l)) : Int)) = false]) (ans' := []) (base 194 0) cxA_K.1 cxA_K.2 _ (by kernel_rfl)  (allp g0 allp_nil)
theorem sz3_0 (x : List Pt) (g : Nat → List Idd) (y4 : List AV) (l : List Idd) (hg : OfOk x g) : Tri Try.prog (cxN 194 0) (regAt Try.f10 3) ([(0, psl none x), (2, isl none l), (4, .box y4)] ) (Ex.normal) ([(2, AV.sl Mode.any 30 none (List.map Idd.enc l)), (4, AV.box y4), (7, AV.box (bed80F g))]) :=
  evA_ok (H := h10) (ans := [.c, .r (AV.sl Mode.any 87 none (List.map Pt.enc x)), .r (AV.agg (bed80F g)), .c, .r (AV.agg (bed80F g)), .c, .c]) (ps := [view (AV.sl Mode.any 87 none (List.map Pt.enc x)) = AV.sl Mode.any 87 none (List.map Pt.enc x), PureC Try.prog 29 [AV.sl Mode.any 87 none (List.map Pt.enc x)] (AV.agg (bed80F g)), normR (AV.agg (bed80F g)) = AV.agg (bed80F g)]) (ans' := []) (base 194 0) cxA_K.1 cxA_K.2 _ (by kernel_rfl)  (allp (by first | exact view_ps _ _ _ | exact view_u8 _ _ _ | rfl | exact view_yn _ _ _ _ _ _ _ | exact view_id _ _ _ | exact view_stk _ _ _ | exact view_beds _ _ _ _ _ _ | exact view_pt _ _ _) (allp (by apply ofok <;> (first | assumption | rfl | (simp at * <;> omega))) (allp (by first | rfl | exact normR_bed80F _) allp_nil)))
theorem sz4_0 (g : Nat → List Idd) (X Y : List (List Idd)) (y4 : List AV) (l : List Idd) (hg : BdOk g X Y) (g0 : AV.agg (bed80F g) = AV.agg (bed80F g)) (g1 : AV.agg [AV.sl Mode.fresh 62 (some (List.length X)) (List.map (mapE (remode shareM (10 : Nat))) (List.map FN X)), AV.sl Mode.fresh 62 (some (List.length Y)) (List.map (mapE (remode shareM (10 : Nat))) (List.map FN Y))] = AV.agg [AV.sl Mode.fresh 62 (some (List.length X)) (List.map FN X), AV.sl Mode.fresh 62 (some (List.length Y)) (List.map FN Y)]) : Tri Try.prog (cxN 194 0) (regAt Try.f10 4) ([(2, isl none l), (4, .box y4), (7, .box (bed80F g))] ) (Ex.normal) ([(2, AV.sl Mode.any 30 none (List.map Idd.enc l)), (4, AV.box y4), (7, AV.box (bed80F g)), (8, AV.box [AV.sl Mode.fresh 62 (some (List.length X)) (List.map FN X), AV.sl Mode.fresh 62 (some (List.length Y)) (List.map FN Y)])]) :=
  evA_ok (H := h10) (ans := [.r (AV.agg (bed80F g)), .r (AV.agg [AV.sl Mode.fresh 62 (some (List.length X)) (List.map FN X), AV.sl Mode.fresh 62 (some (List.length Y)) (List.map FN Y)]), .c, .r (AV.agg [AV.sl Mode.fresh 62 (some (List.length X)) (List.map FN X), AV.sl Mode.fresh 62 (some (List.length Y)) (List.map FN Y)]), .c, .c]) (ps := [AV.agg (bed80F g) = AV.agg (bed80F g), PureC Try.prog 30 [view (AV.agg (bed80F g))] (AV.agg [AV.sl Mode.fresh 62 (some (List.length X)) (List.map FN X), AV.sl Mode.fresh 62 (some (List.length Y)) (List.map FN Y)]), AV.agg [AV.sl Mode.fresh 62 (some (List.length X)) (List.map (mapE (remode shareM (10 : Nat))) (List.map FN X)), AV.sl Mode.fresh 62 (some (List.length Y)) (List.map (mapE (remode shareM (10 : Nat))) (List.map FN Y))] = AV.agg [AV.sl Mode.fresh 62 (some (List.length X)) (List.map FN X), AV.sl Mode.fresh 62 (some (List.length Y)) (List.map FN Y)]]) (ans' := []) (base 194 0) cxA_K.1 cxA_K.2 _ (by kernel_rfl)  (allp g0 (allp (by (first | rw [view_bed80F, view_frN] | rw [view_bed80F, view_beds] | rw [view_bedS, view_frN] | rw [view_bedS, view_frW] | rw [view_bedS, view_beds] | rw [view_bed80F] | rw [view_bedS]); apply bdok <;> (first | assumption | rfl | (simp at * <;> omega))) (allp g1 allp_nil)))
theorem sz5e_0 (cf cb : Nat) (F B : List Stk) (y7 : List AV) (d i r : Int) (l : List Idd) (hj : SEr F B d i l r) : Tri Try.prog (cxN 194 0) (regAt Try.f10 5) ([(2, isl none l), (4, .box [ub d, it i]), (7, .box y7), (8, .box [bsl (some cf) F, bsl (some cb) B])] ) (Ex.normal) ([(2, AV.sl Mode.any 30 none (List.map Idd.enc l)), (4, AV.box [ub d, it i]), (7, AV.box y7), (8, AV.box [bsl (some cf) F, bsl (some cb) B]), (9, AV.box [niln, niln]), (10, it r)]) :=
  evA_ok (H := h10) (ans := [.c, .c, .c, .r (AV.sl Mode.any 30 none (List.map Idd.enc l)), .r (AV.tup [AV.agg [niln, niln], it r]), .c, .c, .c, .c, .c, .c, .c, .c]) (ps := [view (AV.sl Mode.any 30 none (List.map Idd.enc l)) = AV.sl Mode.any 30 none (List.map Idd.enc l), PureC Try.prog 38 [view (AV.agg [bsl (some cf) F, bsl (some cb) B]), AV.agg [ub d, it i], AV.sl Mode.any 30 none (List.map Idd.enc l)] (AV.tup [AV.agg [niln, niln], it r])]) (ans' := []) (base 194 0) cxA_K.1 cxA_K.2 _ (by kernel_rfl)  (allp (by first | exact view_ps _ _ _ | exact view_u8 _ _ _ | rfl | exact view_yn _ _ _ _ _ _ _ | exact view_id _ _ _ | exact view_stk _ _ _ | exact view_beds _ _ _ _ _ _ | exact view_pt _ _ _) (allp (by (first | rw [view_frW, view_frN] | rw [view_beds, view_beds] | rw [view_yn] | rw [view_two] | rw [view_twoI] | rw [view_beds] | rw [view_frW] | rw [view_frN] | rw [view_twoF] | skip); apply ser <;> (first | assumption | rfl | (simp at * <;> omega))) allp_nil))
theorem sz5o_0 (cf cb : Nat) (F B : List Stk) (y7 : List AV) (d i : Int) (l : List Idd) (X Y : List (List Idd)) (hj : SO F B d i l X Y) (g0 : AV.agg [AV.sl Mode.fresh 62 (some (List.length X)) (List.map (mapE (remode shareM (10 : Nat))) (List.map FW X)), AV.sl Mode.fresh 62 (some (List.length Y)) (List.map (mapE (remode shareM (10 : Nat))) (List.map FW Y))] = AV.agg [AV.sl Mode.fresh 62 (some (List.length X)) (List.map FW X), AV.sl Mode.fresh 62 (some (List.length Y)) (List.map FW Y)]) : Tri Try.prog (cxN 194 0) (regAt Try.f10 5) ([(2, isl none l), (4, .box [ub d, it i]), (7, .box y7), (8, .box [bsl (some cf) F, bsl (some cb) B])] ) (Ex.normal) ([(2, AV.sl Mode.any 30 none (List.map Idd.enc l)), (4, AV.box [ub d, it i]), (7, AV.box y7), (8, AV.box [bsl (some cf) F, bsl (some cb) B]), (9, AV.box [AV.sl Mode.fresh 62 (some (List.length X)) (List.map FW X), AV.sl Mode.fresh 62 (some (List.length Y)) (List.map FW Y)]), (10, it 0)]) :=
  evA_ok (H := h10) (ans := [.c, .c, .c, .r (AV.sl Mode.any 30 none (List.map Idd.enc l)), .r (AV.tup [AV.agg [AV.sl Mode.fresh 62 (some (List.length X)) (List.map FW X), AV.sl Mode.fresh 62 (some (List.length Y)) (List.map FW Y)], it 0]), .c, .c, .c, .r (AV.agg [AV.sl Mode.fresh 62 (some (List.length X)) (List.map FW X), AV.sl Mode.fresh 62 (some (List.length Y)) (List.map FW Y)]), .c, .c, .c, .c]) (ps := [view (AV.sl Mode.any 30 none (List.map Idd.enc l)) = AV.sl Mode.any 30 none (List.map Idd.enc l), PureC Try.prog 38 [view (AV.agg [bsl (some cf) F, bsl (some cb) B]), AV.agg [ub d, it i], AV.sl Mode.any 30 none (List.map Idd.enc l)] (AV.tup [AV.agg [AV.sl Mode.fresh 62 (some (List.length X)) (List.map FW X), AV.sl Mode.fresh 62 (some (List.length Y)) (List.map FW Y)], it 0]), AV.agg [AV.sl Mode.fresh 62 (some (List.length X)) (List.map (mapE (remode shareM (10 : Nat))) (List.map FW X)), AV.sl Mode.fresh 62 (some (List.length Y)) (List.map (mapE (remode shareM (10 : Nat))) (List.map FW Y))] = AV.agg [AV.sl Mode.fresh 62 (some (List.length X)) (List.map FW X), AV.sl Mode.fresh 62 (some (List.length Y)) (List.map FW Y)]]) (ans' := []) (base 194 0) cxA_K.1 cxA_K.2 _ (by kernel_rfl)  (allp (by first | exact view_ps _ _ _ | exact view_u8 _ _ _ | rfl | exact view_yn _ _ _ _ _ _ _ | exact view_id _ _ _ | exact view_stk _ _ _ | exact view_beds _ _ _ _ _ _ | exact view_pt _ _ _) (allp (by (first | rw [view_frW, view_frN] | rw [view_beds, view_beds] | rw [view_yn] | rw [view_two] | rw [view_twoI] | rw [view_beds] | rw [view_frW] | rw [view_frN] | rw [view_twoF] | skip); apply so <;> (first | assumption | rfl | (simp at * <;> omega))) (allp g0 allp_nil)))
theorem sz6_0 (y4 y7 y8 y9 : List AV) (l : List Idd) (r : Int) : Tri Try.prog (cxN 194 0) (regAt Try.f10 6) ([(2, isl none l), (4, .box y4), (7, .box y7), (8, .box y8), (9, .box y9), (10, it r)] ) (Ex.normal) ([(2, AV.sl Mode.any 30 none (List.map Idd.enc l)), (4, AV.box y4), (7, AV.box y7), (8, AV.box y8), (9, AV.box y9), (10, it r), (11, it 0)]) :=
  evA_ok (H := h10) (ans := [.c]) (ps := []) (ans' := []) (base 194 0) cxA_K.1 cxA_K.2 _ (by kernel_rfl)  allp_nil
theorem sz7_0 (y4 y7 y8 y9 : List AV) (l : List Idd) (r : Int) : Tri Try.prog (cxN 194 0) (regAt Try.f10 7) ([(2, isl none l), (4, .box y4), (7, .box y7), (8, .box y8), (9, .box y9), (10, it r), (11, it 0)] ) (Ex.normal) ([(2, AV.sl Mode.any 30 none (List.map Idd.enc l)), (4, AV.box y4), (7, AV.box y7), (8, AV.box y8), (9, AV.box y9), (10, it r), (11, it 0), (12, it (-1))]) :=
  evA_ok (H := h10) (ans := [.c]) (ps := []) (ans' := []) (base 194 0) cxA_K.1 cxA_K.2 _ (by kernel_rfl)  allp_nil
theorem sz8_0 (y4 y7 y8 y9 : List AV) (l : List Idd) (r : Int) : Tri Try.prog (cxN 194 0) (regAt Try.f10 8) ([(2, isl none l), (4, .box y4), (7, .box y7), (8, .box y8), (9, .box y9), (10, it r), (11, it 0), (12, it (-1))] ) (Ex.normal) ([(2, AV.sl Mode.any 30 none (List.map Idd.enc l)), (4, AV.box y4), (7, AV.box y7), (8, AV.box y8), (9, AV.box y9), (10, it r), (11, it 0), (12, it (-1)), (13, it 0)]) :=
  evA_ok (H := h10) (ans := [.c]) (ps := []) (ans' := []) (base 194 0) cxA_K.1 cxA_K.2 _ (by kernel_rfl)  allp_nil
theorem sa_0 (y7 y8 y9 : List AV) (l : List Idd) (r d i a j : Int) (g0 : decide (j < (80 : Int)) = true) (g1 : (ndB (IntKind.wrap IntKind.u8 j) == d && ndN (IntKind.wrap IntKind.u8 j) == i) = true) : Tri Try.prog (cxN 194 0) (loopBody Try.f10 0) ([(2, isl none l), (4, .box [ub d, it i]), (7, .box y7), (8, .box y8), (9, .box y9), (10, it r), (11, it 0), (12, it a), (13, it j)] ) (Ex.normal) ([(2, AV.sl Mode.any 30 none (List.map Idd.enc l)), (4, AV.box [ub d, it i]), (7, AV.box y7), (8, AV.box y8), (9, AV.box y9), (10, it r), (11, it 0), (12, it j), (13, it (IntKind.wrap IntKind.i64 (j + (1 : Int))))]) :=
  evA_ok (H := h10) (ans := [.c, .c, .b true, .c, .c, .r (AV.agg [ub (ndB (IntKind.wrap IntKind.u8 j)), it (ndN (IntKind.wrap IntKind.u8 j))]), .c, .c, .c, .c, .b true, .c, .c, .c, .c, .c]) (ps := [decide (j < (80 : Int)) = true, PureC Try.prog 34 [ub (IntKind.wrap IntKind.u8 j)] (AV.agg [ub (ndB (IntKind.wrap IntKind.u8 j)), it (ndN (IntKind.wrap IntKind.u8 j))]), (ndB (IntKind.wrap IntKind.u8 j) == d && ndN (IntKind.wrap IntKind.u8 j) == i) = true]) (ans' := []) (base 194 0) cxA_K.1 cxA_K.2 _ (by kernel_rfl)  (allp g0 (allp (by apply nde_c <;> (first | assumption | rfl | (simp at * <;> omega))) (allp g1 allp_nil)))
theorem sa_1 (y7 y8 y9 : List AV) (l : List Idd) (r d i a j : Int) (g0 : decide (j < (80 : Int)) = true) (g1 : (ndB (IntKind.wrap IntKind.u8 j) == d && ndN (IntKind.wrap IntKind.u8 j) == i) = false) : Tri Try.prog (cxN 194 0) (loopBody Try.f10 0) ([(2, isl none l), (4, .box [ub d, it i]), (7, .box y7), (8, .box y8), (9, .box y9), (10, it r), (11, it 0), (12, it a), (13, it j)] ) (Ex.normal) ([(2, AV.sl Mode.any 30 none (List.map Idd.enc l)), (4, AV.box [ub d, it i]), (7, AV.box y7), (8, AV.box y8), (9, AV.box y9), (10, it r), (11, it 0), (12, it a), (13, it (IntKind.wrap IntKind.i64 (j + (1 : Int))))]) :=
  evA_ok (H := h10) (ans := [.c, .c, .b true, .c, .c, .r (AV.agg [ub (ndB (IntKind.wrap IntKind.u8 j)), it (ndN (IntKind.wrap IntKind.u8 j))]), .c, .c, .c, .c, .b false, .c, .c, .c]) (ps := [decide (j < (80 : Int)) = true, PureC Try.prog 34 [ub (IntKind.wrap IntKind.u8 j)] (AV.agg [ub (ndB (IntKind.wrap IntKind.u8 j)), it (ndN (IntKind.wrap IntKind.u8 j))]), (ndB (IntKind.wrap IntKind.u8 j) == d && ndN (IntKind.wrap IntKind.u8 j) == i) = false]) (ans' := []) (base 194 0) cxA_K.1 cxA_K.2 _ (by kernel_rfl)  (allp g0 (allp (by apply nde_c <;> (first | assumption | rfl | (simp at * <;> omega))) (allp g1 allp_nil)))
theorem sa_2 (y7 y8 y9 : List AV) (l : List Idd) (r d i a j : Int) (g0 : decide (j < (80 : Int)) = false) : Tri Try.prog (cxN 194 0) (loopBody Try.f10 0) ([(2, isl none l), (4, .box [ub d, it i]), (7, .box y7), (8, .box y8), (9, .box y9), (10, it r), (11, it 0), (12, it a), (13, it j)] ) (Ex.exit 0) ([(2, AV.sl Mode.any 30 none (List.map Idd.enc l)), (4, AV.box [ub d, it i]), (7, AV.box y7), (8, AV.box y8), (9, AV.box y9), (10, it r), (11, it 0), (12, it a), (13, it j), (36, bb (decide (j < (80 : Int))))]) :=
  evA_ok (H := h10) (ans := [.c, .c, .b false]) (ps := [decide (j < (80 : Int)) = false]) (ans' := []) (base 194 0) cxA_K.1 cxA_K.2 _ (by kernel_rfl)  (allp g0 allp_nil)
theorem sz13_0 (y4 y7 y8 y9 : List AV) (l : List Idd) (r a : Int) (g0 : decide (a < (0 : Int)) = true) : Tri Try.prog (cxN 194 0) (codeAt Try.f10 13) ([(2, isl none l), (4, .box y4), (7, .box y7), (8, .box y8), (9, .box y9), (10, it r), (11, it 0), (12, it a)] ) (Ex.normal) ([(2, AV.sl Mode.any 30 none (List.map Idd.enc l)), (4, AV.box y4), (7, AV.box y7), (8, AV.box y8), (9, AV.box y9), (10, it r), (11, it 1), (12, it a)]) :=
  evA_ok (H := h10) (ans := [.c, .c, .b true, .c]) (ps := [decide (a < (0 : Int)) = true]) (ans' := []) (base 194 0) cxA_K.1 cxA_K.2 _ (by kernel_rfl)  (allp g0 allp_nil)
theorem sz13_1 (y4 y7 y8 y9 : List AV) (l : List Idd) (r a : Int) (g0 : decide (a < (0 : Int)) = false) : Tri Try.prog (cxN 194 0) (codeAt Try.f10 13) ([(2, isl none l), (4, .box y4), (7, .box y7), (8, .box y8), (9, .box y9), (10, it r), (11, it 0), (12, it a)] ) (Ex.normal) ([(2, AV.sl Mode.any 30 none (List.map Idd.enc l)), (4, AV.box y4), (7, AV.box y7), (8, AV.box y8), (9, AV.box y9), (10, it r), (11, it 0), (12, it a), (46, bb (decide (a < (0 : Int))))]) :=
  evA_ok (H := h10) (ans := [.c, .c, .b false]) (ps := [decide (a < (0 : Int)) = false]) (ans' := []) (base 194 0) cxA_K.1 cxA_K.2 _ (by kernel_rfl)  (allp g0 allp_nil)
theorem sz15_0 (y4 y7 y8 y9 : List AV) (l : List Idd) (r a w : Int) : Tri Try.prog (cxN 194 0) (regAt Try.f10 15) ([(2, isl none l), (4, .box y4), (7, .box y7), (8, .box y8), (9, .box y9), (10, it r), (11, it w), (12, it a)] ) (Ex.normal) ([(2, AV.sl Mode.any 30 none (List.map Idd.enc l)), (4, AV.box y4), (7, AV.box y7), (8, AV.box y8), (9, AV.box y9), (10, it r), (11, it w), (12, it a), (14, it 0)]) :=
  evA_ok (H := h10) (ans := [.c]) (ps := []) (ans' := []) (base 194 0) cxA_K.1 cxA_K.2 _ (by kernel_rfl)  allp_nil
theorem sb_0 (y4 y7 y8 y9 : List AV) (l : List Idd) (r a w k : Int) (g0 : decide (k < (↑(List.length (List.map Idd.enc l)) : Int)) = true) (g1 : decide ((0 : Int) ≤ k ∧ k < (↑(List.length (List.map Idd.enc l)) : Int)) = true) (g2 : List.getD (List.map Idd.enc l) (Int.toNat k) AV.bad = Idd.enc (List.getD l (Int.toNat k) default)) (g3 : decide (Idd.y (List.getD l (Int.toNat k) default) < (1 : Int)) = true) : Tri Try.prog (cxN 194 0) (loopBody Try.f10 1) ([(2, isl none l), (4, .box y4), (7, .box y7), (8, .box y8), (9, .box y9), (10, it r), (11, it w), (12, it a), (14, it k)] ) (Ex.normal) ([(2, AV.sl Mode.any 30 none (List.map Idd.enc l)), (4, AV.box y4), (7, AV.box y7), (8, AV.box y8), (9, AV.box y9), (10, it r), (11, it 1), (12, it a), (14, it (IntKind.wrap IntKind.i64 (k + (1 : Int))))]) :=
  evA_ok (H := h10) (ans := [.c, .c, .c, .c, .b true, .c, .c, .b true, .r (Idd.enc (List.getD l (Int.toNat k) default)), .c, .c, .c, .c, .c, .b true, .c, .b true, .c, .b true, .c, .b true, .c, .b true, .c, .b true, .c, .b true, .c, .c, .c, .c, .c, .c, .c, .c, .c, .c, .c, .c, .c, .c, .c, .c, .c, .c, .c, .c, .c, .c, .c, .c, .c, .c, .c, .c, .c, .c, .c, .c, .c, .c, .c, .c]) (ps := [decide (k < (↑(List.length (List.map Idd.enc l)) : Int)) = true, decide ((0 : Int) ≤ k ∧ k < (↑(List.length (List.map Idd.enc l)) : Int)) = true, List.getD (List.map Idd.enc l) (Int.toNat k) AV.bad = Idd.enc (List.getD l (Int.toNat k) default), decide (Idd.y (List.getD l (Int.toNat k) default) < (1 : Int)) = true, decide (Idd.y (List.getD l (Int.toNat k) default) < (1 : Int)) = true, decide (Idd.y (List.getD l (Int.toNat k) default) < (1 : Int)) = true, decide (Idd.y (List.getD l (Int.toNat k) default) < (1 : Int)) = true, decide (Idd.y (List.getD l (Int.toNat k) default) < (1 : Int)) = true, decide (Idd.y (List.getD l (Int.toNat k) default) < (1 : Int)) = true, decide (Idd.y (List.getD l (Int.toNat k) default) < (1 : Int)) = true]) (ans' := []) (base 194 0) cxA_K.1 cxA_K.2 _ (by kernel_rfl)  (allp g0 (allp g1 (allp g2 (allp g3 (allp g3 (allp g3 (allp g3 (allp g3 (allp g3 (allp g3 allp_nil))))))))))
theorem sb_1 (y4 y7 y8 y9 : List AV) (l : List Idd) (r a w k : Int) (g0 : decide (k < (↑(List.length (List.map Idd.enc l)) : Int)) = true) (g1 : decide ((0 : Int) ≤ k ∧ k < (↑(List.length (List.map Idd.enc l)) : Int)) = true) (g2 : List.getD (List.map Idd.enc l) (Int.toNat k) AV.bad = Idd.enc (List.getD l (Int.toNat k) default)) (g3 : decide (Idd.y (List.getD l (Int.toNat k) default) < (1 : Int)) = false) (g4 : decide ((6 : Int) < Idd.y (List.getD l (Int.toNat k) default)) = true) : Tri Try.prog (cxN 194 0) (loopBody Try.f10 1) ([(2, isl none l), (4, .box y4), (7, .box y7), (8, .box y8), (9, .box y9), (10, it r), (11, it w), (12, it a), (14, it k)] ) (Ex.normal) ([(2, AV.sl Mode.any 30 none (List.map Idd.enc l)), (4, AV.box y4), (7, AV.box y7), (8, AV.box y8), (9, AV.box y9), (10, it r), (11, it 1), (12, it a), (14, it (IntKind.wrap IntKind.i64 (k + (1 : Int))))]) :=
  evA_ok (H := h10) (ans := [.c, .c, .c, .c, .b true, .c, .c, .b true, .r (Idd.enc (List.getD l (Int.toNat k) default)), .c, .c, .c, .c, .c, .b false, .c, .b false, .c, .b false, .b true, .r (Idd.enc (List.getD l (Int.toNat k) default)), .c, .b false, .c, .b false, .c, .b false, .c, .b false, .c, .c, .b true, .c, .b true, .c, .b true, .c, .b true, .c, .b true, .c, .b true, .c, .b true, .c, .c, .c, .c, .c, .c, .c, .c, .c, .c, .c, .c, .c, .c, .c, .c, .c, .c, .c, .c, .c]) (ps := [decide (k < (↑(List.length (List.map Idd.enc l)) : Int)) = true, decide ((0 : Int) ≤ k ∧ k < (↑(List.length (List.map Idd.enc l)) : Int)) = true, List.getD (List.map Idd.enc l) (Int.toNat k) AV.bad = Idd.enc (List.getD l (Int.toNat k) default), decide (Idd.y (List.getD l (Int.toNat k) default) < (1 : Int)) = false, decide (Idd.y (List.getD l (Int.toNat k) default) < (1 : Int)) = false, decide (Idd.y (List.getD l (Int.toNat k) default) < (1 : Int)) = false, decide ((0 : Int) ≤ k ∧ k < (↑(List.length (List.map Idd.enc l)) : Int)) = true, List.getD (List.map Idd.enc l) (Int.toNat k) AV.bad = Idd.enc (List.getD l (Int.toNat k) default), decide (Idd.y (List.getD l (Int.toNat k) default) < (1 : Int)) = false, decide (Idd.y (List.getD l (Int.toNat k) default) < (1 : Int)) = false, decide (Idd.y (List.getD l (Int.toNat k) default) < (1 : Int)) = false, decide (Idd.y (List.getD l (Int.toNat k) default) < (1 : Int)) = false, decide ((6 : Int) < Idd.y (List.getD l (Int.toNat k) default)) = true, decide ((6 : Int) < Idd.y (List.getD l (Int.toNat k) default)) = true, decide ((6 : Int) < Idd.y (List.getD l (Int.toNat k) default)) = true, decide ((6 : Int) < Idd.y (List.getD l (Int.toNat k) default)) = true, decide ((6 : Int) < Idd.y (List.getD l (Int.toNat k) default)) = true, decide ((6 : Int) < Idd.y (List.getD l (Int.toNat k) default)) = true, decide ((6 : Int) < Idd.y (List.getD l (Int.toNat k) default)) = true]) (ans' := []) (base 194 0) cxA_K.1 cxA_K.2 _ (by kernel_rfl)  (allp g0 (allp g1 (allp g2 (allp g3 (allp g3 (allp g3 (allp g1 (allp g2 (allp g3 (allp g3 (allp g3 (allp g3 (allp g4 (allp g4 (allp g4 (allp g4 (allp g4 (allp g4 (allp g4 allp_nil)))))))))))))))))))
theorem sb_2 (y4 y7 y8 y9 : List AV) (l : List Idd) (r a w k : Int) (g0 : decide (k < (↑(List.length (List.map Idd.enc l)) : Int)) = true) (g1 : decide ((0 : Int) ≤ k ∧ k < (↑(List.length (List.map Idd.enc l)) : Int)) = true) (g2 : List.getD (List.map Idd.enc l) (Int.toNat k) AV.bad = Idd.enc (List.getD l (Int.toNat k) default)) (g3 : decide (Idd.y (List.getD l (Int.toNat k) default) < (1 : Int)) = false) (g4 : decide ((6 : Int) < Idd.y (List.getD l (Int.toNat k) default)) = false) (g5 : decide (Idd.n (List.getD l (Int.toNat k) default) < (0 : Int)) = true) : Tri Try.prog (cxN 194 0) (loopBody Try.f10 1) ([(2, isl none l), (4, .box y4), (7, .box y7), (8, .box y8), (9, .box y9), (10, it r), (11, it w), (12, it a), (14, it k)] ) (Ex.normal) ([(2, AV.sl Mode.any 30 none (List.map Idd.enc l)), (4, AV.box y4), (7, AV.box y7), (8, AV.box y8), (9, AV.box y9), (10, it r), (11, it 1), (12, it a), (14, it (IntKind.wrap IntKind.i64 (k + (1 : Int))))]) :=
  evA_ok (H := h10) (ans := [.c, .c, .c, .c, .b true, .c, .c, .b true, .r (Idd.enc (List.getD l (Int.toNat k) default)), .c, .c, .c, .c, .c, .b false, .c, .b false, .c, .b false, .b true, .r (Idd.enc (List.getD l (Int.toNat k) default)), .c, .b false, .c, .b false, .c, .b false, .c, .b false, .c, .c, .b false, .c, .b false, .c, .b false, .b true, .r (Idd.enc (List.getD l (Int.toNat k) default)), .c, .b false, .c, .b false, .c, .b false, .c, .b false, .c, .c, .b true, .c, .b true, .c, .b true, .c, .b true, .c, .b true, .c, .b true, .c, .b true, .c, .c, .c, .c, .c, .c]) (ps := [decide (k < (↑(List.length (List.map Idd.enc l)) : Int)) = true, decide ((0 : Int) ≤ k ∧ k < (↑(List.length (List.map Idd.enc l)) : Int)) = true, List.getD (List.map Idd.enc l) (Int.toNat k) AV.bad = Idd.enc (List.getD l (Int.toNat k) default), decide (Idd.y (List.getD l (Int.toNat k) default) < (1 : Int)) = false, decide (Idd.y (List.getD l (Int.toNat k) default) < (1 : Int)) = false, decide (Idd.y (List.getD l (Int.toNat k) default) < (1 : Int)) = false, decide ((0 : Int) ≤ k ∧ k < (↑(List.length (List.map Idd.enc l)) : Int)) = true, List.getD (List.map Idd.enc l) (Int.toNat k) AV.bad = Idd.enc (List.getD l (Int.toNat k) default), decide (Idd.y (List.getD l (Int.toNat k) default) < (1 : Int)) = false, decide (Idd.y (List.getD l (Int.toNat k) default) < (1 : Int)) = false, decide (Idd.y (List.getD l (Int.toNat k) default) < (1 : Int)) = false, decide (Idd.y (List.getD l (Int.toNat k) default) < (1 : Int)) = false, decide ((6 : Int) < Idd.y (List.getD l (Int.toNat k) default)) = false, decide ((6 : Int) < Idd.y (List.getD l (Int.toNat k) default)) = false, decide ((6 : Int) < Idd.y (List.getD l (Int.toNat k) default)) = false, decide ((0 : Int) ≤ k ∧ k < (↑(List.length (List.map Idd.enc l)) : Int)) = true, List.getD (List.map Idd.enc l) (Int.toNat k) AV.bad = Idd.enc (List.getD l (Int.toNat k) default), decide ((6 : Int) < Idd.y (List.getD l (Int.toNat k) default)) = false, decide ((6 : Int) < Idd.y (List.getD l (Int.toNat k) default)) = false, decide ((6 : Int) < Idd.y (List.getD l (Int.toNat k) default)) = false, decide ((6 : Int) < Idd.y (List.getD l (Int.toNat k) default)) = false, decide (Idd.n (List.getD l (Int.toNat k) default) < (0 : Int)) = true, decide (Idd.n (List.getD l (Int.toNat k) default) < (0 : Int)) = true, decide (Idd.n (List.getD l (Int.toNat k) default) < (0 : Int)) = true, decide (Idd.n (List.getD l (Int.toNat k) default) < (0 : Int)) = true, decide (Idd.n (List.getD l (Int.toNat k) default) < (0 : Int)) = true, decide (Idd.n (List.getD l (Int.toNat k) default) < (0 : Int)) = true, decide (Idd.n (List.getD l (Int.toNat k) default) < (0 : Int)) = true]) (ans' := []) (base 194 0) cxA_K.1 cxA_K.2 _ (by kernel_rfl)  (allp g0 (allp g1 (allp g2 (allp g3 (allp g3 (allp g3 (allp g1 (allp g2 (allp g3 (allp g3 (allp g3 (allp g3 (allp g4 (allp g4 (allp g4 (allp g1 (allp g2 (allp g4 (allp g4 (allp g4 (allp g4 (allp g5 (allp g5 (allp g5 (allp g5 (allp g5 (allp g5 (allp g5 allp_nil))))))))))))))))))))))))))))
theorem sb_3 (y4 y7 y8 y9 : List AV) (l : List Idd) (r a w k : Int) (g0 : decide (k < (↑(List.length (List.map Idd.enc l)) : Int)) = true) (g1 : decide ((0 : Int) ≤ k ∧ k < (↑(List.length (List.map Idd.enc l)) : Int)) = true) (g2 : List.getD (List.map Idd.enc l) (Int.toNat k) AV.bad = Idd.enc (List.getD l (Int.toNat k) default)) (g3 : decide (Idd.y (List.getD l (Int.toNat k) default) < (1 : Int)) = false) (g4 : decide ((6 : Int) < Idd.y (List.getD l (Int.toNat k) default)) = false) (g5 : decide (Idd.n (List.getD l (Int.toNat k) default) < (0 : Int)) = false) (g6 : decide ((2047 : Int) < Idd.n (List.getD l (Int.toNat k) default)) = true) : Tri Try.prog (cxN 194 0) (loopBody Try.f10 1) ([(2, isl none l), (4, .box y4), (7, .box y7), (8, .box y8), (9, .box y9), (10, it r), (11, it w), (12, it a), (14, it k)] ) (Ex.normal) ([(2, AV.sl Mode.any 30 none (List.map Idd.enc l)), (4, AV.box y4), (7, AV.box y7), (8, AV.box y8), (9, AV.box y9), (10, it r), (11, it 1), (12, it a), (14, it (IntKind.wrap IntKind.i64 (k + (1 : Int))))]) :=
  evA_ok (H := h10) (ans := [.c, .c, .c, .c, .b true, .c, .c, .b true, .r (Idd.enc (List.getD l (Int.toNat k) default)), .c, .c, .c, .c, .c, .b false, .c, .b false, .c, .b false, .b true, .r (Idd.enc (List.getD l (Int.toNat k) default)), .c, .b false, .c, .b false, .c, .b false, .c, .b false, .c, .c, .b false, .c, .b false, .c, .b false, .b true, .r (Idd.enc (List.getD l (Int.toNat k) default)), .c, .b false, .c, .b false, .c, .b false, .c, .b false, .c, .c, .b false, .c, .b false, .c, .b false, .b true, .r (Idd.enc (List.getD l (Int.toNat k) default)), .c, .b false, .c, .b false, .c, .b false, .c, .b false, .c, .b true, .c, .c, .c, .c]) (ps := [decide (k < (↑(List.length (List.map Idd.enc l)) : Int)) = true, decide ((0 : Int) ≤ k ∧ k < (↑(List.length (List.map Idd.enc l)) : Int)) = true, List.getD (List.map Idd.enc l) (Int.toNat k) AV.bad = Idd.enc (List.getD l (Int.toNat k) default), decide (Idd.y (List.getD l (Int.toNat k) default) < (1 : Int)) = false, decide (Idd.y (List.getD l (Int.toNat k) default) < (1 : Int)) = false, decide (Idd.y (List.getD l (Int.toNat k) default) < (1 : Int)) = false, decide ((0 : Int) ≤ k ∧ k < (↑(List.length (List.map Idd.enc l)) : Int)) = true, List.getD (List.map Idd.enc l) (Int.toNat k) AV.bad = Idd.enc (List.getD l (Int.toNat k) default), decide (Idd.y (List.getD l (Int.toNat k) default) < (1 : Int)) = false, decide (Idd.y (List.getD l (Int.toNat k) default) < (1 : Int)) = false, decide (Idd.y (List.getD l (Int.toNat k) default) < (1 : Int)) = false, decide (Idd.y (List.getD l (Int.toNat k) default) < (1 : Int)) = false, decide ((6 : Int) < Idd.y (List.getD l (Int.toNat k) default)) = false, decide ((6 : Int) < Idd.y (List.getD l (Int.toNat k) default)) = false, decide ((6 : Int) < Idd.y (List.getD l (Int.toNat k) default)) = false, decide ((0 : Int) ≤ k ∧ k < (↑(List.length (List.map Idd.enc l)) : Int)) = true, List.getD (List.map Idd.enc l) (Int.toNat k) AV.bad = Idd.enc (List.getD l (Int.toNat k) default), decide ((6 : Int) < Idd.y (List.getD l (Int.toNat k) default)) = false, decide ((6 : Int) < Idd.y (List.getD l (Int.toNat k) default)) = false, decide ((6 : Int) < Idd.y (List.getD l (Int.toNat k) default)) = false, decide ((6 : Int) < Idd.y (List.getD l (Int.toNat k) default)) = false, decide (Idd.n (List.getD l (Int.toNat k) default) < (0 : Int)) = false, decide (Idd.n (List.getD l (Int.toNat k) default) < (0 : Int)) = false, decide (Idd.n (List.getD l (Int.toNat k) default) < (0 : Int)) = false, decide ((0 : Int) ≤ k ∧ k < (↑(List.length (List.map Idd.enc l)) : Int)) = true, List.getD (List.map Idd.enc l) (Int.toNat k) AV.bad = Idd.enc (List.getD l (Int.toNat k) default), decide (Idd.n (List.getD l (Int.toNat k) default) < (0 : Int)) = false, decide (Idd.n (List.getD l (Int.toNat k) default) < (0 : Int)) = false, decide (Idd.n (List.getD l (Int.toNat k) default) < (0 : Int)) = false, decide (Idd.n (List.getD l (Int.toNat k) default) < (0 : Int)) = false, decide ((2047 : Int) < Idd.n (List.getD l (Int.toNat k) default)) = true]) (ans' := []) (base 194 0) cxA_K.1 cxA_K.2 _ (by kernel_rfl)  (allp g0 (allp g1 (allp g2 (allp g3 (allp g3 (allp g3 (allp g1 (allp g2 (allp g3 (allp g3 (allp g3 (allp g3 (allp g4 (allp g4 (allp g4 (allp g1 (allp g2 (allp g4 (allp g4 (allp g4 (allp g4 (allp g5 (allp g5 (allp g5 (allp g1 (allp g2 (allp g5 (allp g5 (allp g5 (allp g5 (allp g6 allp_nil)))))))))))))))))))))))))))))))
theorem sb_4 (y4 y7 y8 y9 : List AV) (l : List Idd) (r a w k : Int) (g0 : decide (k < (↑(List.length (List.map Idd.enc l)) : Int)) = true) (g1 : decide ((0 : Int) ≤ k ∧ k < (↑(List.length (List.map Idd.enc l)) : Int)) = true) (g2 : List.getD (List.map Idd.enc l) (Int.toNat k) AV.bad = Idd.enc (List.getD l (Int.toNat k) default)) (g3 : decide (Idd.y (List.getD l (Int.toNat k) default) < (1 : Int)) = false) (g4 : decide ((6 : Int) < Idd.y (List.getD l (Int.toNat k) default)) = false) (g5 : decide (Idd.n (List.getD l (Int.toNat k) default) < (0 : Int)) = false) (g6 : decide ((2047 : Int) < Idd.n (List.getD l (Int.toNat k) default)) = false) : Tri Try.prog (cxN 194 0) (loopBody Try.f10 1) ([(2, isl none l), (4, .box y4), (7, .box y7), (8, .box y8), (9, .box y9), (10, it r), (11, it w), (12, it a), (14, it k)] ) (Ex.normal) ([(2, AV.sl Mode.any 30 none (List.map Idd.enc l)), (4, AV.box y4), (7, AV.box y7), (8, AV.box y8), (9, AV.box y9), (10, it r), (11, it w), (12, it a), (14, it (IntKind.wrap IntKind.i64 (k + (1 : Int))))]) :=
  evA_ok (H := h10) (ans := [.c, .c, .c, .c, .b true, .c, .c, .b true, .r (Idd.enc (List.getD l (Int.toNat k) default)), .c, .c, .c, .c, .c, .b false, .c, .b false, .c, .b false, .b true, .r (Idd.enc (List.getD l (Int.toNat k) default)), .c, .b false, .c, .b false, .c, .b false, .c, .b false, .c, .c, .b false, .c, .b false, .c, .b false, .b true, .r (Idd.enc (List.getD l (Int.toNat k) default)), .c, .b false, .c, .b false, .c, .b false, .c, .b false, .c, .c, .b false, .c, .b false, .c, .b false, .b true, .r (Idd.enc (List.getD l (Int.toNat k) default)), .c, .b false, .c, .b false, .c, .b false, .c, .b false, .c, .b false, .c, .c, .c]) (ps := [decide (k < (↑(List.length (List.map Idd.enc l)) : Int)) = true, decide ((0 : Int) ≤ k ∧ k < (↑(List.length (List.map Idd.enc l)) : Int)) = true, List.getD (List.map Idd.enc l) (Int.toNat k) AV.bad = Idd.enc (List.getD l (Int.toNat k) default), decide (Idd.y (List.getD l (Int.toNat k) default) < (1 : Int)) = false, decide (Idd.y (List.getD l (Int.toNat k) default) < (1 : Int)) = false, decide (Idd.y (List.getD l (Int.toNat k) default) < (1 : Int)) = false, decide ((0 : Int) ≤ k ∧ k < (↑(List.length (List.map Idd.enc l)) : Int)) = true, List.getD (List.map Idd.enc l) (Int.toNat k) AV.bad = Idd.enc (List.getD l (Int.toNat k) default), decide (Idd.y (List.getD l (Int.toNat k) default) < (1 : Int)) = false, decide (Idd.y (List.getD l (Int.toNat k) default) < (1 : Int)) = false, decide (Idd.y (List.getD l (Int.toNat k) default) < (1 : Int)) = false, decide (Idd.y (List.getD l (Int.toNat k) default) < (1 : Int)) = false, decide ((6 : Int) < Idd.y (List.getD l (Int.toNat k) default)) = false, decide ((6 : Int) < Idd.y (List.getD l (Int.toNat k) default)) = false, decide ((6 : Int) < Idd.y (List.getD l (Int.toNat k) default)) = false, decide ((0 : Int) ≤ k ∧ k < (↑(List.length (List.map Idd.enc l)) : Int)) = true, List.getD (List.map Idd.enc l) (Int.toNat k) AV.bad = Idd.enc (List.getD l (Int.toNat k) default), decide ((6 : Int) < Idd.y (List.getD l (Int.toNat k) default)) = false, decide ((6 : Int) < Idd.y (List.getD l (Int.toNat k) default)) = false, decide ((6 : Int) < Idd.y (List.getD l (Int.toNat k) default)) = false, decide ((6 : Int) < Idd.y (List.getD l (Int.toNat k) default)) = false, decide (Idd.n (List.getD l (Int.toNat k) default) < (0 : Int)) = false, decide (Idd.n (List.getD l (Int.toNat k) default) < (0 : Int)) = false, decide (Idd.n (List.getD l (Int.toNat k) default) < (0 : Int)) = false, decide ((0 : Int) ≤ k ∧ k < (↑(List.length (List.map Idd.enc l)) : Int)) = true, List.getD (List.map Idd.enc l) (Int.toNat k) AV.bad = Idd.enc (List.getD l (Int.toNat k) default), decide (Idd.n (List.getD l (Int.toNat k) default) < (0 : Int)) = false, decide (Idd.n (List.getD l (Int.toNat k) default) < (0 : Int)) = false, decide (Idd.n (List.getD l (Int.toNat k) default) < (0 : Int)) = false, decide (Idd.n (List.getD l (Int.toNat k) default) < (0 : Int)) = false, decide ((2047 : Int) < Idd.n (List.getD l (Int.toNat k) default)) = false]) (ans' := []) (base 194 0) cxA_K.1 cxA_K.2 _ (by kernel_rfl)  (allp g0 (allp g1 (allp g2 (allp g3 (allp g3 (allp g3 (allp g1 (allp g2 (allp g3 (allp g3 (allp g3 (allp g3 (allp g4 (allp g4 (allp g4 (allp g1 (allp g2 (allp g4 (allp g4 (allp g4 (allp g4 (allp g5 (allp g5 (allp g5 (allp g1 (allp g2 (allp g5 (allp g5 (allp g5 (allp g5 (allp g6 allp_nil)))))))))))))))))))))))))))))))
theorem sb_5 (y4 y7 y8 y9 : List AV) (l : List Idd) (r a w k : Int) (g0 : decide (k < (↑(List.length (List.map Idd.enc l)) : Int)) = false) : Tri Try.prog (cxN 194 0) (loopBody Try.f10 1) ([(2, isl none l), (4, .box y4), (7, .box y7), (8, .box y8), (9, .box y9), (10, it r), (11, it w), (12, it a), (14, it k)] ) (Ex.exit 2) ([(2, AV.sl Mode.any 30 none (List.map Idd.enc l)), (4, AV.box y4), (7, AV.box y7), (8, AV.box y8), (9, AV.box y9), (10, it r), (11, it w), (12, it a), (14, it k), (50, bb (decide (k < (↑(List.length (List.map Idd.enc l)) : Int))))]) :=
  evA_ok (H := h10) (ans := [.c, .c, .c, .c, .b false]) (ps := [decide (k < (↑(List.length (List.map Idd.enc l)) : Int)) = false]) (ans' := []) (base 194 0) cxA_K.1 cxA_K.2 _ (by kernel_rfl)  (allp g0 allp_nil)
theorem sz20_0 (y4 y7 y8 y9 : List AV) (l : List Idd) (r a w : Int) (g0 : (w == (0 : Int)) = true) (g1 : decide ((4 : Int) < (↑(List.length (List.map Idd.enc l)) : Int)) = true) : Tri Try.prog (cxN 194 0) (codeAt Try.f10 20) ([(2, isl none l), (4, .box y4), (7, .box y7), (8, .box y8), (9, .box y9), (10, it r), (11, it w), (12, it a)] ) (Ex.normal) ([(2, AV.sl Mode.any 30 none (List.map Idd.enc l)), (4, AV.box y4), (7, AV.box y7), (8, AV.box y8), (9, AV.box y9), (10, it r), (11, it 9), (12, it a)]) :=
  evA_ok (H := h10) (ans := [.c, .c, .c, .b true, .c, .b true, .c, .b true, .c, .b true, .c, .b true, .c]) (ps := [(w == (0 : Int)) = true, (w == (0 : Int)) = true, (w == (0 : Int)) = true, (w == (0 : Int)) = true, decide ((4 : Int) < (↑(List.length (List.map Idd.enc l)) : Int)) = true]) (ans' := []) (base 194 0) cxA_K.1 cxA_K.2 _ (by kernel_rfl)  (allp g0 (allp g0 (allp g0 (allp g0 (allp g1 allp_nil)))))
theorem sz20_1 (y4 y7 y8 y9 : List AV) (l : List Idd) (r a w : Int) (g0 : (w == (0 : Int)) = true) (g1 : decide ((4 : Int) < (↑(List.length (List.map Idd.enc l)) : Int)) = false) : Tri Try.prog (cxN 194 0) (codeAt Try.f10 20) ([(2, isl none l), (4, .box y4), (7, .box y7), (8, .box y8), (9, .box y9), (10, it r), (11, it w), (12, it a)] ) (Ex.normal) ([(2, AV.sl Mode.any 30 none (List.map Idd.enc l)), (4, AV.box y4), (7, AV.box y7), (8, AV.box y8), (9, AV.box y9), (10, it r), (11, it w), (12, it a), (89, bb (decide ((4 : Int) < (↑(List.length (List.map Idd.enc l)) : Int))))]) :=
  evA_ok (H := h10) (ans := [.c, .c, .c, .b true, .c, .b true, .c, .b true, .c, .b true, .c, .b false]) (ps := [(w == (0 : Int)) = true, (w == (0 : Int)) = true, (w == (0 : Int)) = true, (w == (0 : Int)) = true, decide ((4 : Int) < (↑(List.length (List.map Idd.enc l)) : Int)) = false]) (ans' := []) (base 194 0) cxA_K.1 cxA_K.2 _ (by kernel_rfl)  (allp g0 (allp g0 (allp g0 (allp g0 (allp g1 allp_nil)))))
theorem sz20_2 (y4 y7 y8 y9 : List AV) (l : List Idd) (r a w : Int) (g0 : (w == (0 : Int)) = false) : Tri Try.prog (cxN 194 0) (codeAt Try.f10 20) ([(2, isl none l), (4, .box y4), (7, .box y7), (8, .box y8), (9, .box y9), (10, it r), (11, it w), (12, it a)] ) (Ex.normal) ([(2, AV.sl Mode.any 30 none (List.map Idd.enc l)), (4, AV.box y4), (7, AV.box y7), (8, AV.box y8), (9, AV.box y9), (10, it r), (11, it w), (12, it a), (89, bb false)]) :=
  evA_ok (H := h10) (ans := [.c, .c, .c, .b false, .c, .b false, .c, .b false, .c, .b false, .c, .c]) (ps := [(w == (0 : Int)) = false, (w == (0 : Int)) = false, (w == (0 : Int)) = false, (w == (0 : Int)) = false]) (ans' := []) (base 194 0) cxA_K.1 cxA_K.2 _ (by kernel_rfl)  (allp g0 (allp g0 (allp g0 (allp g0 allp_nil))))
theorem sz22_0 (y4 y7 y8 y9 : List AV) (l : List Idd) (r a w : Int) : Tri Try.prog (cxN 194 0) (regAt Try.f10 22) ([(2, isl none l), (4, .box y4), (7, .box y7), (8, .box y8), (9, .box y9), (10, it r), (11, it w), (12, it a)] ) (Ex.normal) ([(2, AV.sl Mode.any 30 none (List.map Idd.enc l)), (4, AV.box y4), (7, AV.box y7), (8, AV.box y8), (9, AV.box y9), (10, it r), (11, it w), (12, it a), (15, it 0)]) :=
  evA_ok (H := h10) (ans := [.c]) (ps := []) (ans' := []) (base 194 0) cxA_K.1 cxA_K.2 _ (by kernel_rfl)  allp_nil
theorem sz23_0 (y4 y7 y8 y9 : List AV) (l : List Idd) (r a w i : Int) (g0 : decide (i < (↑(List.length (List.map Idd.enc l)) : Int)) = true) : Tri Try.prog (cxN 194 0) (regAt Try.f10 23) ([(2, isl none l), (4, .box y4), (7, .box y7), (8, .box y8), (9, .box y9), (10, it r), (11, it w), (12, it a), (15, it i)] ) (Ex.normal) ([(2, AV.sl Mode.any 30 none (List.map Idd.enc l)), (4, AV.box y4), (7, AV.box y7), (8, AV.box y8), (9, AV.box y9), (10, it r), (11, it w), (12, it a), (15, it i), (97, bb (w == (0 : Int)))]) :=
  evA_ok (H := h10) (ans := [.c, .c, .c, .c, .c, .b true, .c, .b true, .c, .b true, .c]) (ps := [decide (i < (↑(List.length (List.map Idd.enc l)) : Int)) = true, decide (i < (↑(List.length (List.map Idd.enc l)) : Int)) = true, decide (i < (↑(List.length (List.map Idd.enc l)) : Int)) = true]) (ans' := []) (base 194 0) cxA_K.1 cxA_K.2 _ (by kernel_rfl)  (allp g0 (allp g0 (allp g0 allp_nil)))
theorem sz23_1 (y4 y7 y8 y9 : List AV) (l : List Idd) (r a w i : Int) (g0 : decide (i < (↑(List.length (List.map Idd.enc l)) : Int)) = false) : Tri Try.prog (cxN 194 0) (regAt Try.f10 23) ([(2, isl none l), (4, .box y4), (7, .box y7), (8, .box y8), (9, .box y9), (10, it r), (11, it w), (12, it a), (15, it i)] ) (Ex.normal) ([(2, AV.sl Mode.any 30 none (List.map Idd.enc l)), (4, AV.box y4), (7, AV.box y7), (8, AV.box y8), (9, AV.box y9), (10, it r), (11, it w), (12, it a), (15, it i), (97, bb false)]) :=
  evA_ok (H := h10) (ans := [.c, .c, .c, .c, .c, .b false, .c, .b false, .c, .b false, .c]) (ps := [decide (i < (↑(List.length (List.map Idd.enc l)) : Int)) = false, decide (i < (↑(List.length (List.map Idd.enc l)) : Int)) = false, decide (i < (↑(List.length (List.map Idd.enc l)) : Int)) = false]) (ans' := []) (base 194 0) cxA_K.1 cxA_K.2 _ (by kernel_rfl)  (allp g0 (allp g0 (allp g0 allp_nil)))
theorem sz24_0 (y4 y7 y8 y9 : List AV) (l : List Idd) (r a w i : Int) : Tri Try.prog (cxN 194 0) (regAt Try.f10 24) ([(2, isl none l), (4, .box y4), (7, .box y7), (8, .box y8), (9, .box y9), (10, it r), (11, it w), (12, it a), (15, it i)] ) (Ex.normal) ([(2, AV.sl Mode.any 30 none (List.map Idd.enc l)), (4, AV.box y4), (7, AV.box y7), (8, AV.box y8), (9, AV.box y9), (10, it r), (11, it w), (12, it a), (15, it (IntKind.wrap IntKind.i64 (i + (1 : Int))))]) :=
  evA_ok (H := h10) (ans := [.c, .c, .c]) (ps := []) (ans' := []) (base 194 0) cxA_K.1 cxA_K.2 _ (by kernel_rfl)  allp_nil
theorem sz25_0 (y4 y7 y8 y9 : List AV) (l : List Idd) (r a w i : Int) : Tri Try.prog (cxN 194 0) (regAt Try.f10 25) ([(2, isl none l), (4, .box y4), (7, .box y7), (8, .box y8), (9, .box y9), (10, it r), (11, it w), (12, it a), (15, it i)] ) (Ex.normal) ([(2, AV.sl Mode.any 30 none (List.map Idd.enc l)), (4, AV.box y4), (7, AV.box y7), (8, AV.box y8), (9, AV.box y9), (10, it r), (11, it w), (12, it a), (15, it i), (16, it 0)]) :=
  evA_ok (H := h10) (ans := [.c]) (ps := []) (ans' := []) (base 194 0) cxA_K.1 cxA_K.2 _ (by kernel_rfl)  allp_nil
theorem se_0 (y4 y7 y8 y9 : List AV) (l : List Idd) (r a w i k : Int) (g0 : decide (k < i) = true) (g1 : decide ((0 : Int) ≤ k ∧ k < (↑(List.length (List.map Idd.enc l)) : Int)) = true) (g2 : List.getD (List.map Idd.enc l) (Int.toNat k) AV.bad = Idd.enc (List.getD l (Int.toNat k) default)) (g3 : decide ((0 : Int) ≤ i ∧ i < (↑(List.length (List.map Idd.enc l)) : Int)) = true) (g4 : List.getD (List.map Idd.enc l) (Int.toNat i) AV.bad = Idd.enc (List.getD l (Int.toNat i) default)) (g5 : (Idd.y (List.getD l (Int.toNat k) default) == Idd.y (List.getD l (Int.toNat i) default) && Idd.n (List.getD l (Int.toNat k) default) == Idd.n (List.getD l (Int.toNat i) default)) = true) : Tri Try.prog (cxN 194 0) (loopBody Try.f10 3) ([(2, isl none l), (4, .box y4), (7, .box y7), (8, .box y8), (9, .box y9), (10, it r), (11, it w), (12, it a), (15, it i), (16, it k)] ) (Ex.normal) ([(2, AV.sl Mode.any 30 none (List.map Idd.enc l)), (4, AV.box y4), (7, AV.box y7), (8, AV.box y8), (9, AV.box y9), (10, it r), (11, it 8), (12, it a), (15, it i), (16, it (IntKind.wrap IntKind.i64 (k + (1 : Int))))]) :=
  evA_ok (H := h10) (ans := [.c, .c, .c, .b true, .c, .c, .b true, .r (Idd.enc (List.getD l (Int.toNat k) default)), .c, .c, .c, .c, .b true, .r (Idd.enc (List.getD l (Int.toNat i) default)), .c, .c, .c, .b true, .c, .c, .c, .c]) (ps := [decide (k < i) = true, decide ((0 : Int) ≤ k ∧ k < (↑(List.length (List.map Idd.enc l)) : Int)) = true, List.getD (List.map Idd.enc l) (Int.toNat k) AV.bad = Idd.enc (List.getD l (Int.toNat k) default), decide ((0 : Int) ≤ i ∧ i < (↑(List.length (List.map Idd.enc l)) : Int)) = true, List.getD (List.map Idd.enc l) (Int.toNat i) AV.bad = Idd.enc (List.getD l (Int.toNat i) default), (Idd.y (List.getD l (Int.toNat k) default) == Idd.y (List.getD l (Int.toNat i) default) && Idd.n (List.getD l (Int.toNat k) default) == Idd.n (List.getD l (Int.toNat i) default)) = true]) (ans' := []) (base 194 0) cxA_K.1 cxA_K.2 _ (by kernel_rfl)  (allp g0 (allp g1 (allp g2 (allp g3 (allp g4 (allp g5 allp_nil))))))
theorem se_1 (y4 y7 y8 y9 : List AV) (l : List Idd) (r a w i k : Int) (g0 : decide (k < i) = true) (g1 : decide ((0 : Int) ≤ k ∧ k < (↑(List.length (List.map Idd.enc l)) : Int)) = true) (g2 : List.getD (List.map Idd.enc l) (Int.toNat k) AV.bad = Idd.enc (List.getD l (Int.toNat k) default)) (g3 : decide ((0 : Int) ≤ i ∧ i < (↑(List.length (List.map Idd.enc l)) : Int)) = true) (g4 : List.getD (List.map Idd.enc l) (Int.toNat i) AV.bad = Idd.enc (List.getD l (Int.toNat i) default)) (g5 : (Idd.y (List.getD l (Int.toNat k) default) == Idd.y (List.getD l (Int.toNat i) default) && Idd.n (List.getD l (Int.toNat k) default) == Idd.n (List.getD l (Int.toNat i) default)) = false) : Tri Try.prog (cxN 194 0) (loopBody Try.f10 3) ([(2, isl none l), (4, .box y4), (7, .box y7), (8, .box y8), (9, .box y9), (10, it r), (11, it w), (12, it a), (15, it i), (16, it k)] ) (Ex.normal) ([(2, AV.sl Mode.any 30 none (List.map Idd.enc l)), (4, AV.box y4), (7, AV.box y7), (8, AV.box y8), (9, AV.box y9), (10, it r), (11, it w), (12, it a), (15, it i), (16, it (IntKind.wrap IntKind.i64 (k + (1 : Int))))]) :=
  evA_ok (H := h10) (ans := [.c, .c, .c, .b true, .c, .c, .b true, .r (Idd.enc (List.getD l (Int.toNat k) default)), .c, .c, .c, .c, .b true, .r (Idd.enc (List.getD l (Int.toNat i) default)), .c, .c, .c, .b false, .c, .c, .c]) (ps := [decide (k < i) = true, decide ((0 : Int) ≤ k ∧ k < (↑(List.length (List.map Idd.enc l)) : Int)) = true, List.getD (List.map Idd.enc l) (Int.toNat k) AV.bad = Idd.enc (List.getD l (Int.toNat k) default), decide ((0 : Int) ≤ i ∧ i < (↑(List.length (List.map Idd.enc l)) : Int)) = true, List.getD (List.map Idd.enc l) (Int.toNat i) AV.bad = Idd.enc (List.getD l (Int.toNat i) default), (Idd.y (List.getD l (Int.toNat k) default) == Idd.y (List.getD l (Int.toNat i) default) && Idd.n (List.getD l (Int.toNat k) default) == Idd.n (List.getD l (Int.toNat i) default)) = false]) (ans' := []) (base 194 0) cxA_K.1 cxA_K.2 _ (by kernel_rfl)  (allp g0 (allp g1 (allp g2 (allp g3 (allp g4 (allp g5 allp_nil))))))
theorem se_2 (y4 y7 y8 y9 : List AV) (l : List Idd) (r a w i k : Int) (g0 : decide (k < i) = false) : Tri Try.prog (cxN 194 0) (loopBody Try.f10 3) ([(2, isl none l), (4, .box y4), (7, .box y7), (8, .box y8), (9, .box y9), (10, it r), (11, it w), (12, it a), (15, it i), (16, it k)] ) (Ex.exit 6) ([(2, AV.sl Mode.any 30 none (List.map Idd.enc l)), (4, AV.box y4), (7, AV.box y7), (8, AV.box y8), (9, AV.box y9), (10, it r), (11, it w), (12, it a), (15, it i), (16, it k), (102, bb (decide (k < i)))]) :=
  evA_ok (H := h10) (ans := [.c, .c, .c, .b false]) (ps := [decide (k < i) = false]) (ans' := []) (base 194 0) cxA_K.1 cxA_K.2 _ (by kernel_rfl)  (allp g0 allp_nil)
theorem sz30_0 (y4 y7 y8 y9 : List AV) (l : List Idd) (r a w i : Int) : Tri Try.prog (cxN 194 0) (regAt Try.f10 30) ([(2, isl none l), (4, .box y4), (7, .box y7), (8, .box y8), (9, .box y9), (10, it r), (11, it w), (12, it a), (15, it i)] ) (Ex.normal) ([(2, AV.sl Mode.any 30 none (List.map Idd.enc l)), (4, AV.box y4), (7, AV.box y7), (8, AV.box y8), (9, AV.box y9), (10, it r), (11, it w), (12, it a), (15, it i), (17, it 0)]) :=
  evA_ok (H := h10) (ans := [.c]) (ps := []) (ans' := []) (base 194 0) cxA_K.1 cxA_K.2 _ (by kernel_rfl)  allp_nil
theorem sz31_0 (y4 y7 y8 y9 : List AV) (l : List Idd) (r a w i k : Int) : Tri Try.prog (cxN 194 0) (regAt Try.f10 31) ([(2, isl none l), (4, .box y4), (7, .box y7), (8, .box y8), (9, .box y9), (10, it r), (11, it w), (12, it a), (15, it i), (17, it k)] ) (Ex.normal) ([(2, AV.sl Mode.any 30 none (List.map Idd.enc l)), (4, AV.box y4), (7, AV.box y7), (8, AV.box y8), (9, AV.box y9), (10, it r), (11, it w), (12, it a), (15, it i), (17, it k), (115, bb (decide (k < (80 : Int))))]) :=
  evA_ok (H := h10) (ans := [.c, .c]) (ps := []) (ans' := []) (base 194 0) cxA_K.1 cxA_K.2 _ (by kernel_rfl)  allp_nil
theorem sz32_0 (y4 y7 y8 y9 : List AV) (l : List Idd) (r a w i k : Int) : Tri Try.prog (cxN 194 0) (regAt Try.f10 32) ([(2, isl none l), (4, .box y4), (7, .box y7), (8, .box y8), (9, .box y9), (10, it r), (11, it w), (12, it a), (15, it i), (17, it k)] ) (Ex.normal) ([(2, AV.sl Mode.any 30 none (List.map Idd.enc l)), (4, AV.box y4), (7, AV.box y7), (8, AV.box y8), (9, AV.box y9), (10, it r), (11, it w), (12, it a), (15, it i), (17, it (IntKind.wrap IntKind.i64 (k + (1 : Int))))]) :=
  evA_ok (H := h10) (ans := [.c, .c, .c]) (ps := []) (ans' := []) (base 194 0) cxA_K.1 cxA_K.2 _ (by kernel_rfl)  allp_nil
theorem sz33_0 (y4 y7 y8 y9 : List AV) (l : List Idd) (r a w i k : Int) : Tri Try.prog (cxN 194 0) (regAt Try.f10 33) ([(2, isl none l), (4, .box y4), (7, .box y7), (8, .box y8), (9, .box y9), (10, it r), (11, it w), (12, it a), (15, it i), (17, it k)] ) (Ex.normal) ([(2, AV.sl Mode.any 30 none (List.map Idd.enc l)), (4, AV.box y4), (7, AV.box y7), (8, AV.box y8), (9, AV.box y9), (10, it r), (11, it w), (12, it a), (15, it i), (17, it k), (18, it 0)]) :=
  evA_ok (H := h10) (ans := [.c]) (ps := []) (ans' := []) (base 194 0) cxA_K.1 cxA_K.2 _ (by kernel_rfl)  allp_nil
theorem sf_0 (tb : List (List Idd)) (y4 y8 y9 : List AV) (l : List Idd) (r a w i k m : Int) (g0 : decide ((0 : Int) ≤ k ∧ k < (↑(80 : Nat) : Int) ∧ (0 : Nat) < (1 : Nat)) = true) (g1 : decide ((0 : Nat) = (0 : Nat) ∧ Int.toNat k * (1 : Nat) < List.length (List.map SH tb)) = true) (g2 : List.getD (List.map SH tb) (Int.toNat k * (1 : Nat)) AV.bad = SH (List.getD tb (Int.toNat k * (1 : Nat)) default)) (g3 : decide (m < (↑(List.length (List.map Idd.enc (List.getD tb (Int.toNat k * (1 : Nat)) default))) : Int)) = true) (g4 : (k != a) = true) (g5 : decide ((0 : Int) ≤ m ∧ m < (↑(List.length (List.map Idd.enc (List.getD tb (Int.toNat k * (1 : Nat)) default))) : Int)) = true) (g6 : List.getD (List.map Idd.enc (List.getD tb (Int.toNat k * (1 : Nat)) default)) (Int.toNat m) AV.bad = Idd.enc (List.getD (List.getD tb (Int.toNat k * (1 : Nat)) default) (Int.toNat m) default)) (g7 : decide ((0 : Int) ≤ i ∧ i < (↑(List.length (List.map Idd.enc l)) : Int)) = true) (g8 : List.getD (List.map Idd.enc l) (Int.toNat i) AV.bad = Idd.enc (List.getD l (Int.toNat i) default)) (g9 : (Idd.y (List.getD (List.getD tb (Int.toNat k * (1 : Nat)) default) (Int.toNat m) default) == Idd.y (List.getD l (Int.toNat i) default) && Idd.n (List.getD (List.getD tb (Int.toNat k * (1 : Nat)) default) (Int.toNat m) default) == Idd.n (List.getD l (Int.toNat i) default)) = true) : Tri Try.prog (cxN 194 0) (loopBody Try.f10 5) ([(2, isl none l), (4, .box y4), (7, .box (tb.map SH)), (8, .box y8), (9, .box y9), (10, it r), (11, it w), (12, it a), (15, it i), (17, it k), (18, it m)] ) (Ex.normal) ([(2, AV.sl Mode.any 30 none (List.map Idd.enc l)), (4, AV.box y4), (7, AV.box (List.map SH tb)), (8, AV.box y8), (9, AV.box y9), (10, it r), (11, it 8), (12, it a), (15, it i), (17, it k), (18, it (IntKind.wrap IntKind.i64 (m + (1 : Int))))]) :=
  evA_ok (H := h10) (ans := [.c, .c, .b true, .c, .b true, .r (SH (List.getD tb (Int.toNat k * (1 : Nat)) default)), .c, .c, .c, .c, .b true, .c, .b true, .c, .b true, .c, .b true, .c, .b true, .c, .b true, .c, .b true, .r (SH (List.getD tb (Int.toNat k * (1 : Nat)) default)), .c, .c, .b true, .r (Idd.enc (List.getD (List.getD tb (Int.toNat k * (1 : Nat)) default) (Int.toNat m) default)), .c, .c, .c, .c, .b true, .r (Idd.enc (List.getD l (Int.toNat i) default)), .c, .c, .c, .b true, .c, .c, .c, .c]) (ps := [decide ((0 : Int) ≤ k ∧ k < (↑(80 : Nat) : Int) ∧ (0 : Nat) < (1 : Nat)) = true, decide ((0 : Nat) = (0 : Nat) ∧ Int.toNat k * (1 : Nat) < List.length (List.map SH tb)) = true, List.getD (List.map SH tb) (Int.toNat k * (1 : Nat)) AV.bad = SH (List.getD tb (Int.toNat k * (1 : Nat)) default), decide (m < (↑(List.length (List.map Idd.enc (List.getD tb (Int.toNat k * (1 : Nat)) default))) : Int)) = true, decide (m < (↑(List.length (List.map Idd.enc (List.getD tb (Int.toNat k * (1 : Nat)) default))) : Int)) = true, decide (m < (↑(List.length (List.map Idd.enc (List.getD tb (Int.toNat k * (1 : Nat)) default))) : Int)) = true, decide (m < (↑(List.length (List.map Idd.enc (List.getD tb (Int.toNat k * (1 : Nat)) default))) : Int)) = true, (k != a) = true, decide ((0 : Int) ≤ k ∧ k < (↑(80 : Nat) : Int) ∧ (0 : Nat) < (1 : Nat)) = true, decide ((0 : Nat) = (0 : Nat) ∧ Int.toNat k * (1 : Nat) < List.length (List.map SH tb)) = true, List.getD (List.map SH tb) (Int.toNat k * (1 : Nat)) AV.bad = SH (List.getD tb (Int.toNat k * (1 : Nat)) default), decide ((0 : Int) ≤ m ∧ m < (↑(List.length (List.map Idd.enc (List.getD tb (Int.toNat k * (1 : Nat)) default))) : Int)) = true, List.getD (List.map Idd.enc (List.getD tb (Int.toNat k * (1 : Nat)) default)) (Int.toNat m) AV.bad = Idd.enc (List.getD (List.getD tb (Int.toNat k * (1 : Nat)) default) (Int.toNat m) default), decide ((0 : Int) ≤ i ∧ i < (↑(List.length (List.map Idd.enc l)) : Int)) = true, List.getD (List.map Idd.enc l) (Int.toNat i) AV.bad = Idd.enc (List.getD l (Int.toNat i) default), (Idd.y (List.getD (List.getD tb (Int.toNat k * (1 : Nat)) default) (Int.toNat m) default) == Idd.y (List.getD l (Int.toNat i) default) && Idd.n (List.getD (List.getD tb (Int.toNat k * (1 : Nat)) default) (Int.toNat m) default) == Idd.n (List.getD l (Int.toNat i) default)) = true]) (ans' := []) (base 194 0) cxA_K.1 cxA_K.2 _ (by kernel_rfl)  (allp g0 (allp g1 (allp g2 (allp g3 (allp g3 (allp g3 (allp g3 (allp g4 (allp g0 (allp g1 (allp g2 (allp g5 (allp g6 (allp g7 (allp g8 (allp g9 allp_nil))))))))))))))))
theorem sf_1 (tb : List (List Idd)) (y4 y8 y9 : List AV) (l : List Idd) (r a w i k m : Int) (g0 : decide ((0 : Int) ≤ k ∧ k < (↑(80 : Nat) : Int) ∧ (0 : Nat) < (1 : Nat)) = true) (g1 : decide ((0 : Nat) = (0 : Nat) ∧ Int.toNat k * (1 : Nat) < List.length (List.map SH tb)) = true) (g2 : List.getD (List.map SH tb) (Int.toNat k * (1 : Nat)) AV.bad = SH (List.getD tb (Int.toNat k * (1 : Nat)) default)) (g3 : decide (m < (↑(List.length (List.map Idd.enc (List.getD tb (Int.toNat k * (1 : Nat)) default))) : Int)) = true) (g4 : (k != a) = true) (g5 : decide ((0 : Int) ≤ m ∧ m < (↑(List.length (List.map Idd.enc (List.getD tb (Int.toNat k * (1 : Nat)) default))) : Int)) = true) (g6 : List.getD (List.map Idd.enc (List.getD tb (Int.toNat k * (1 : Nat)) default)) (Int.toNat m) AV.bad = Idd.enc (List.getD (List.getD tb (Int.toNat k * (1 : Nat)) default) (Int.toNat m) default)) (g7 : decide ((0 : Int) ≤ i ∧ i < (↑(List.length (List.map Idd.enc l)) : Int)) = true) (g8 : List.getD (List.map Idd.enc l) (Int.toNat i) AV.bad = Idd.enc (List.getD l (Int.toNat i) default)) (g9 : (Idd.y (List.getD (List.getD tb (Int.toNat k * (1 : Nat)) default) (Int.toNat m) default) == Idd.y (List.getD l (Int.toNat i) default) && Idd.n (List.getD (List.getD tb (Int.toNat k * (1 : Nat)) default) (Int.toNat m) default) == Idd.n (List.getD l (Int.toNat i) default)) = false) : Tri Try.prog (cxN 194 0) (loopBody Try.f10 5) ([(2, isl none l), (4, .box y4), (7, .box (tb.map SH)), (8, .box y8), (9, .box y9), (10, it r), (11, it w), (12, it a), (15, it i), (17, it k), (18, it m)] ) (Ex.normal) ([(2, AV.sl Mode.any 30 none (List.map Idd.enc l)), (4, AV.box y4), (7, AV.box (List.map SH tb)), (8, AV.box y8), (9, AV.box y9), (10, it r), (11, it w), (12, it a), (15, it i), (17, it k), (18, it (IntKind.wrap IntKind.i64 (m + (1 : Int))))]) :=
  evA_ok (H := h10) (ans := [.c, .c, .b true, .c, .b true, .r (SH (List.getD tb (Int.toNat k * (1 : Nat)) default)), .c, .c, .c, .c, .b true, .c, .b true, .c, .b true, .c, .b true, .c, .b true, .c, .b true, .c, .b true, .r (SH (List.getD tb (Int.toNat k * (1 : Nat)) default)), .c, .c, .b true, .r (Idd.enc (List.getD (List.getD tb (Int.toNat k * (1 : Nat)) default) (Int.toNat m) default)), .c, .c, .c, .c, .b true, .r (Idd.enc (List.getD l (Int.toNat i) default)), .c, .c, .c, .b false, .c, .c, .c]) (ps := [decide ((0 : Int) ≤ k ∧ k < (↑(80 : Nat) : Int) ∧ (0 : Nat) < (1 : Nat)) = true, decide ((0 : Nat) = (0 : Nat) ∧ Int.toNat k * (1 : Nat) < List.length (List.map SH tb)) = true, List.getD (List.map SH tb) (Int.toNat k * (1 : Nat)) AV.bad = SH (List.getD tb (Int.toNat k * (1 : Nat)) default), decide (m < (↑(List.length (List.map Idd.enc (List.getD tb (Int.toNat k * (1 : Nat)) default))) : Int)) = true, decide (m < (↑(List.length (List.map Idd.enc (List.getD tb (Int.toNat k * (1 : Nat)) default))) : Int)) = true, decide (m < (↑(List.length (List.map Idd.enc (List.getD tb (Int.toNat k * (1 : Nat)) default))) : Int)) = true, decide (m < (↑(List.length (List.map Idd.enc (List.getD tb (Int.toNat k * (1 : Nat)) default))) : Int)) = true, (k != a) = true, decide ((0 : Int) ≤ k ∧ k < (↑(80 : Nat) : Int) ∧ (0 : Nat) < (1 : Nat)) = true, decide ((0 : Nat) = (0 : Nat) ∧ Int.toNat k * (1 : Nat) < List.length (List.map SH tb)) = true, List.getD (List.map SH tb) (Int.toNat k * (1 : Nat)) AV.bad = SH (List.getD tb (Int.toNat k * (1 : Nat)) default), decide ((0 : Int) ≤ m ∧ m < (↑(List.length (List.map Idd.enc (List.getD tb (Int.toNat k * (1 : Nat)) default))) : Int)) = true, List.getD (List.map Idd.enc (List.getD tb (Int.toNat k * (1 : Nat)) default)) (Int.toNat m) AV.bad = Idd.enc (List.getD (List.getD tb (Int.toNat k * (1 : Nat)) default) (Int.toNat m) default), decide ((0 : Int) ≤ i ∧ i < (↑(List.length (List.map Idd.enc l)) : Int)) = true, List.getD (List.map Idd.enc l) (Int.toNat i) AV.bad = Idd.enc (List.getD l (Int.toNat i) default), (Idd.y (List.getD (List.getD tb (Int.toNat k * (1 : Nat)) default) (Int.toNat m) default) == Idd.y (List.getD l (Int.toNat i) default) && Idd.n (List.getD (List.getD tb (Int.toNat k * (1 : Nat)) default) (Int.toNat m) default) == Idd.n (List.getD l (Int.toNat i) default)) = false]) (ans' := []) (base 194 0) cxA_K.1 cxA_K.2 _ (by kernel_rfl)  (allp g0 (allp g1 (allp g2 (allp g3 (allp g3 (allp g3 (allp g3 (allp g4 (allp g0 (allp g1 (allp g2 (allp g5 (allp g6 (allp g7 (allp g8 (allp g9 allp_nil))))))))))))))))
theorem sf_2 (tb : List (List Idd)) (y4 y8 y9 : List AV) (l : List Idd) (r a w i k m : Int) (g0 : decide ((0 : Int) ≤ k ∧ k < (↑(80 : Nat) : Int) ∧ (0 : Nat) < (1 : Nat)) = true) (g1 : decide ((0 : Nat) = (0 : Nat) ∧ Int.toNat k * (1 : Nat) < List.length (List.map SH tb)) = true) (g2 : List.getD (List.map SH tb) (Int.toNat k * (1 : Nat)) AV.bad = SH (List.getD tb (Int.toNat k * (1 : Nat)) default)) (g3 : decide (m < (↑(List.length (List.map Idd.enc (List.getD tb (Int.toNat k * (1 : Nat)) default))) : Int)) = true) (g4 : (k != a) = false) : Tri Try.prog (cxN 194 0) (loopBody Try.f10 5) ([(2, isl none l), (4, .box y4), (7, .box (tb.map SH)), (8, .box y8), (9, .box y9), (10, it r), (11, it w), (12, it a), (15, it i), (17, it k), (18, it m)] ) (Ex.exit 10) ([(2, AV.sl Mode.any 30 none (List.map Idd.enc l)), (4, AV.box y4), (7, AV.box (List.map SH tb)), (8, AV.box y8), (9, AV.box y9), (10, it r), (11, it w), (12, it a), (15, it i), (17, it k), (18, it m), (128, bb (k != a))]) :=
  evA_ok (H := h10) (ans := [.c, .c, .b true, .c, .b true, .r (SH (List.getD tb (Int.toNat k * (1 : Nat)) default)), .c, .c, .c, .c, .b true, .c, .b true, .c, .b true, .c, .b true, .c, .b false]) (ps := [decide ((0 : Int) ≤ k ∧ k < (↑(80 : Nat) : Int) ∧ (0 : Nat) < (1 : Nat)) = true, decide ((0 : Nat) = (0 : Nat) ∧ Int.toNat k * (1 : Nat) < List.length (List.map SH tb)) = true, List.getD (List.map SH tb) (Int.toNat k * (1 : Nat)) AV.bad = SH (List.getD tb (Int.toNat k * (1 : Nat)) default), decide (m < (↑(List.length (List.map Idd.enc (List.getD tb (Int.toNat k * (1 : Nat)) default))) : Int)) = true, decide (m < (↑(List.length (List.map Idd.enc (List.getD tb (Int.toNat k * (1 : Nat)) default))) : Int)) = true, decide (m < (↑(List.length (List.map Idd.enc (List.getD tb (Int.toNat k * (1 : Nat)) default))) : Int)) = true, decide (m < (↑(List.length (List.map Idd.enc (List.getD tb (Int.toNat k * (1 : Nat)) default))) : Int)) = true, (k != a) = false]) (ans' := []) (base 194 0) cxA_K.1 cxA_K.2 _ (by kernel_rfl)  (allp g0 (allp g1 (allp g2 (allp g3 (allp g3 (allp g3 (allp g3 (allp g4 allp_nil))))))))
theorem sf_3 (tb : List (List Idd)) (y4 y8 y9 : List AV) (l : List Idd) (r a w i k m : Int) (g0 : decide ((0 : Int) ≤ k ∧ k < (↑(80 : Nat) : Int) ∧ (0 : Nat) < (1 : Nat)) = true) (g1 : decide ((0 : Nat) = (0 : Nat) ∧ Int.toNat k * (1 : Nat) < List.length (List.map SH tb)) = true) (g2 : List.getD (List.map SH tb) (Int.toNat k * (1 : Nat)) AV.bad = SH (List.getD tb (Int.toNat k * (1 : Nat)) default)) (g3 : decide (m < (↑(List.length (List.map Idd.enc (List.getD tb (Int.toNat k * (1 : Nat)) default))) : Int)) = false) : Tri Try.prog (cxN 194 0) (loopBody Try.f10 5) ([(2, isl none l), (4, .box y4), (7, .box (tb.map SH)), (8, .box y8), (9, .box y9), (10, it r), (11, it w), (12, it a), (15, it i), (17, it k), (18, it m)] ) (Ex.exit 10) ([(2, AV.sl Mode.any 30 none (List.map Idd.enc l)), (4, AV.box y4), (7, AV.box (List.map SH tb)), (8, AV.box y8), (9, AV.box y9), (10, it r), (11, it w), (12, it a), (15, it i), (17, it k), (18, it m), (128, bb false)]) :=
  evA_ok (H := h10) (ans := [.c, .c, .b true, .c, .b true, .r (SH (List.getD tb (Int.toNat k * (1 : Nat)) default)), .c, .c, .c, .c, .b false, .c, .b false, .c, .b false, .c, .b false, .c, .c]) (ps := [decide ((0 : Int) ≤ k ∧ k < (↑(80 : Nat) : Int) ∧ (0 : Nat) < (1 : Nat)) = true, decide ((0 : Nat) = (0 : Nat) ∧ Int.toNat k * (1 : Nat) < List.length (List.map SH tb)) = true, List.getD (List.map SH tb) (Int.toNat k * (1 : Nat)) AV.bad = SH (List.getD tb (Int.toNat k * (1 : Nat)) default), decide (m < (↑(List.length (List.map Idd.enc (List.getD tb (Int.toNat k * (1 : Nat)) default))) : Int)) = false, decide (m < (↑(List.length (List.map Idd.enc (List.getD tb (Int.toNat k * (1 : Nat)) default))) : Int)) = false, decide (m < (↑(List.length (List.map Idd.enc (List.getD tb (Int.toNat k * (1 : Nat)) default))) : Int)) = false, decide (m < (↑(List.length (List.map Idd.enc (List.getD tb (Int.toNat k * (1 : Nat)) default))) : Int)) = false]) (ans' := []) (base 194 0) cxA_K.1 cxA_K.2 _ (by kernel_rfl)  (allp g0 (allp g1 (allp g2 (allp g3 (allp g3 (allp g3 (allp g3 allp_nil)))))))
theorem sz38_0 (cf cb : Nat) (F B : List Stk) (g : Nat → List Idd) (y4 y9 : List AV) (l : List Idd) (r w a : Int) (q : (r != w) = false) (hd : DfOk g cf cb F B 0) (g0 : (r != w) = false) (g1 : AV.agg (bedS g) = AV.agg (bedS g)) : Tri Try.prog (cxN 194 0) (codeAt Try.f10 38) ([(2, isl none l), (4, .box y4), (7, .box (bedS g)), (8, .box [bsl (some cf) F, bsl (some cb) B]), (9, .box y9), (10, it r), (11, it w), (12, it a)] ) (Ex.normal) ([(2, AV.sl Mode.any 30 none (List.map Idd.enc l)), (4, AV.box y4), (7, AV.box (bedS g)), (9, AV.box y9), (10, it r), (12, it a), (150, bb ((0 : Int) != (0 : Int)))]) :=
  evA_ok (H := h10) (ans := [.c, .c, .c, .c, .b false, .r (AV.agg (bedS g)), .b false, .c, .b false, .r (it 0), .c, .c, .b false, .c, .b false, .c, .c]) (ps := [(r != w) = false, AV.agg (bedS g) = AV.agg (bedS g), (r != w) = false, (r != w) = false, PureC Try.prog 32 [view (AV.agg (bedS g)), view (AV.agg [bsl (some cf) F, bsl (some cb) B])] (it 0), (r != w) = false, (r != w) = false]) (ans' := []) (base 194 0) cxA_K.1 cxA_K.2 _ (by kernel_rfl)  (allp g0 (allp g1 (allp g0 (allp g0 (allp (by (first | rw [view_bed80F, view_frN] | rw [view_bed80F, view_beds] | rw [view_bedS, view_frN] | rw [view_bedS, view_frW] | rw [view_bedS, view_beds] | rw [view_bed80F] | rw [view_bedS]); apply dfok <;> (first | assumption | rfl | (simp at * <;> omega))) (allp g0 (allp g0 allp_nil)))))))
theorem sz40e_0 (r : Int) (q : (r != (0 : Int)) = true) (g0 : (r != (0 : Int)) = true) : Tri Try.prog (cxN 194 0) (codeAt Try.f10 40) ([(9, .box [niln, niln]), (10, it r)] ) (Ex.ret) ([(6, bb true)]) :=
  evA_ok (H := h10) (ans := [.c, .c, .b true, .c, .c, .c, .c, .c, .c, .c, .c, .c, .c, .c, .c, .c, .c, .c, .c, .c, .c, .c, .c, .c, .r (bb true), .c, .c, .c, .c, .c]) (ps := [(r != (0 : Int)) = true, PureC Try.prog 37 [] (bb true)]) (ans' := []) (base 194 0) cxA_K.1 cxA_K.2 _ (by kernel_rfl)  (allp g0 (allp (by apply lives <;> (first | assumption | rfl | (simp at * <;> omega))) allp_nil))
theorem sz40o_0 (y4 y7 y9 : List AV) (l : List Idd) (a : Int) : Tri Try.prog (cxN 194 0) (codeAt Try.f10 40) ([(2, isl none l), (4, .box y4), (7, .box y7), (9, .box y9), (10, it 0), (12, it a)] ) (Ex.normal) ([(2, AV.sl Mode.any 30 none (List.map Idd.enc l)), (4, AV.box y4), (7, AV.box y7), (9, AV.box y9), (12, it a), (152, bb ((0 : Int) != (0 : Int)))]) :=
  evA_ok (H := h10) (ans := [.c, .c, .c]) (ps := []) (ans' := []) (base 194 0) cxA_K.1 cxA_K.2 _ (by kernel_rfl)  allp_nil
theorem sz42_0 (tb : List (List Idd)) (y4 y9 : List AV) (l : List Idd) (a : Int) (g0 : AV.sl Mode.own 30 (some 0) [] = AV.sl Mode.own 30 (some (0 : Nat)) (List.map Idd.enc [])) (g1 : decide ((62 : Nat) = (62 : Nat) ∧ (List.all (List.map Idd.enc l) fun y => List.all (AV.ecells y) plainA) = true ∧ (List.all (List.map Idd.enc l) fun y => decide (List.length (AV.ecells y) = List.length (TInfo.zero { zero := [Value.int IntKind.u8 (0 : Int), Value.int IntKind.i64 (0 : Int)], bytes := (16 : Nat), agg := true, kind := TK.struct [((0 : Nat), (1 : Nat)), ((1 : Nat), (1 : Nat))] }))) = true) = true) (g2 : decide (30 = (30 : TypeId) ∧ List.length (List.map Idd.enc []) + List.length (List.map Idd.enc l) ≤ (4294967296 : Nat) ∧ Oper.dst { dst := some (169 : Nat), op := Op.call { callee := Callee.builtin Builtin.append, args := #[Operand.tmp (167 : Nat), Operand.tmp (168 : Nat)], argTypes := #[(62 : Nat), (62 : Nat)] }, type := (62 : Nat), pos := "law.go:191", after := #[{ on := (1 : Nat), ground := Ground.data }, { on := (2 : Nat), ground := Ground.data }], guard := none } ≠ some (167 : Nat)) = true) (g3 : AV.sl Mode.own 30 (if List.length (List.map Idd.enc []) + List.length (List.map Idd.enc l) ≤ (0 : Nat) then some (0 : Nat) else none) (List.map Idd.enc [] ++ List.map Idd.enc l) = AV.sl Mode.own 30 (if List.length (List.map Idd.enc []) + List.length (List.map Idd.enc l) ≤ (0 : Nat) then some (0 : Nat) else none) (List.map Idd.enc ([] ++ l))) (g4 : decide ((0 : Int) ≤ a ∧ a < (↑(80 : Nat) : Int) ∧ (0 : Nat) < (1 : Nat)) = true) (g5 : decide ((0 : Nat) = (0 : Nat) ∧ Int.toNat a * (1 : Nat) < List.length (List.map SH tb)) = true) (g6 : List.getD (List.map SH tb) (Int.toNat a * (1 : Nat)) AV.bad = SH (List.getD tb (Int.toNat a * (1 : Nat)) default)) : Tri Try.prog (cxN 194 0) (regAt Try.f10 42) ([(2, isl none l), (4, .box y4), (7, .box (tb.map SH)), (9, .box y9), (12, it a)] ) (Ex.normal) ([(4, AV.box y4), (7, AV.box (List.take (Int.toNat a * (1 : Nat)) (List.map SH tb) ++ [AV.sl Mode.own 30 (if List.length (List.map Idd.enc []) + List.length (List.map Idd.enc l) ≤ (0 : Nat) then some (0 : Nat) else none) (List.map Idd.enc ([] ++ l))] ++ List.drop (Int.toNat a * (1 : Nat) + (1 : Nat)) (List.map SH tb))), (9, AV.box y9)]) :=
  evA_ok (H := h10) (ans := [.c, .r (AV.sl Mode.own 30 (some (0 : Nat)) (List.map Idd.enc [])), .c, .b true, .b true, .r (AV.sl Mode.own 30 (if List.length (List.map Idd.enc []) + List.length (List.map Idd.enc l) ≤ (0 : Nat) then some (0 : Nat) else none) (List.map Idd.enc ([] ++ l))), .b true, .c, .b true, .r (SH (List.getD tb (Int.toNat a * (1 : Nat)) default)), .c]) (ps := [AV.sl Mode.own 30 (some 0) [] = AV.sl Mode.own 30 (some (0 : Nat)) (List.map Idd.enc []), decide ((62 : Nat) = (62 : Nat) ∧ (List.all (List.map Idd.enc l) fun y => List.all (AV.ecells y) plainA) = true ∧ (List.all (List.map Idd.enc l) fun y => decide (List.length (AV.ecells y) = List.length (TInfo.zero { zero := [Value.int IntKind.u8 (0 : Int), Value.int IntKind.i64 (0 : Int)], bytes := (16 : Nat), agg := true, kind := TK.struct [((0 : Nat), (1 : Nat)), ((1 : Nat), (1 : Nat))] }))) = true) = true, decide (30 = (30 : TypeId) ∧ List.length (List.map Idd.enc []) + List.length (List.map Idd.enc l) ≤ (4294967296 : Nat) ∧ Oper.dst { dst := some (169 : Nat), op := Op.call { callee := Callee.builtin Builtin.append, args := #[Operand.tmp (167 : Nat), Operand.tmp (168 : Nat)], argTypes := #[(62 : Nat), (62 : Nat)] }, type := (62 : Nat), pos := "law.go:191", after := #[{ on := (1 : Nat), ground := Ground.data }, { on := (2 : Nat), ground := Ground.data }], guard := none } ≠ some (167 : Nat)) = true, AV.sl Mode.own 30 (if List.length (List.map Idd.enc []) + List.length (List.map Idd.enc l) ≤ (0 : Nat) then some (0 : Nat) else none) (List.map Idd.enc [] ++ List.map Idd.enc l) = AV.sl Mode.own 30 (if List.length (List.map Idd.enc []) + List.length (List.map Idd.enc l) ≤ (0 : Nat) then some (0 : Nat) else none) (List.map Idd.enc ([] ++ l)), decide ((0 : Int) ≤ a ∧ a < (↑(80 : Nat) : Int) ∧ (0 : Nat) < (1 : Nat)) = true, decide ((0 : Nat) = (0 : Nat) ∧ Int.toNat a * (1 : Nat) < List.length (List.map SH tb)) = true, List.getD (List.map SH tb) (Int.toNat a * (1 : Nat)) AV.bad = SH (List.getD tb (Int.toNat a * (1 : Nat)) default)]) (ans' := []) (base 194 0) cxA_K.1 cxA_K.2 _ (by kernel_rfl)  (allp g0 (allp g1 (allp g2 (allp g3 (allp g4 (allp g5 (allp g6 allp_nil)))))))
theorem sz43_0 (cf cb : Nat) (F B : List Stk) (g : Nat → List Idd) (y4 : List AV) (hd : DfOk g cf cb F B 0) (g0 : AV.agg (bedS g) = AV.agg (bedS g)) : Tri Try.prog (cxN 194 0) (codeAt Try.f10 43) ([(4, .box y4), (7, .box (bedS g)), (9, .box [bsl (some cf) F, bsl (some cb) B])] ) (Ex.normal) ([(4, AV.box y4), (9, AV.box [bsl (some cf) F, bsl (some cb) B]), (174, bb ((0 : Int) != (0 : Int)))]) :=
  evA_ok (H := h10) (ans := [.r (AV.agg (bedS g)), .c, .r (it 0), .c, .c, .c, .c]) (ps := [AV.agg (bedS g) = AV.agg (bedS g), PureC Try.prog 32 [view (AV.agg (bedS g)), view (AV.agg [bsl (some cf) F, bsl (some cb) B])] (it 0)]) (ans' := []) (base 194 0) cxA_K.1 cxA_K.2 _ (by kernel_rfl)  (allp g0 (allp (by (first | rw [view_bed80F, view_frN] | rw [view_bed80F, view_beds] | rw [view_bedS, view_frN] | rw [view_bedS, view_frW] | rw [view_bedS, view_beds] | rw [view_bed80F] | rw [view_bedS]); apply dfok <;> (first | assumption | rfl | (simp at * <;> omega))) allp_nil))
theorem sz45_0 (cf cb : Nat) (F B : List Stk) (d i : Int) (l : List Idd) (X Y : List (List Idd)) (ha : AtO F B d i l) (hj : SO F B d i l X Y) (g0 : decide ((false || (false || (true || false))) = true → noAny (12 : Nat) (AV.tup [AV.agg [AV.sl Mode.fresh 62 (some (List.length X)) (List.map FW X), AV.sl Mode.fresh 62 (some (List.length Y)) (List.map FW Y)], it 0]) = true) = true) (g1 : AV.agg [AV.sl Mode.fresh 62 (some (List.length X)) (List.map (mapE (remode shareM (10 : Nat))) (List.map FW X)), AV.sl Mode.fresh 62 (some (List.length Y)) (List.map (mapE (remode shareM (10 : Nat))) (List.map FW Y))] = AV.agg [AV.sl Mode.fresh 62 (some (List.length X)) (List.map FW X), AV.sl Mode.fresh 62 (some (List.length Y)) (List.map FW Y)]) : Tri Try.prog (cxN 194 0) (regAt Try.f10 45) ([(4, .box [ub d, it i]), (9, .box [bsl (some cf) F, bsl (some cb) B])] ) (Ex.normal) ([(9, AV.box [bsl (some cf) F, bsl (some cb) B]), (10, it 0), (19, AV.box [AV.sl Mode.fresh 62 (some (List.length X)) (List.map FW X), AV.sl Mode.fresh 62 (some (List.length Y)) (List.map FW Y)])]) :=
  evA_ok (H := h10) (ans := [.c, .c, .c, .c, .r (AV.sl Mode.own 30 (some (List.length l)) (List.map Idd.enc l)), .c, .c, .r (AV.sl Mode.any 30 (some (List.length l)) (List.map Idd.enc l)), .r (AV.tup [AV.agg [AV.sl Mode.fresh 62 (some (List.length X)) (List.map FW X), AV.sl Mode.fresh 62 (some (List.length Y)) (List.map FW Y)], it 0]), .b true, .c, .c, .r (AV.agg [AV.sl Mode.fresh 62 (some (List.length X)) (List.map FW X), AV.sl Mode.fresh 62 (some (List.length Y)) (List.map FW Y)]), .c, .c, .c, .c, .c]) (ps := [PureC Try.prog 33 [view (AV.agg [bsl (some cf) F, bsl (some cb) B]), AV.agg [ub d, it i]] (AV.sl Mode.own 30 (some (List.length l)) (List.map Idd.enc l)), view (AV.sl Mode.own 30 (some (List.length l)) (List.map Idd.enc l)) = AV.sl Mode.any 30 (some (List.length l)) (List.map Idd.enc l), PureC Try.prog 38 [view (AV.agg [bsl (some cf) F, bsl (some cb) B]), AV.agg [ub d, it i], AV.sl Mode.any 30 (some (List.length l)) (List.map Idd.enc l)] (AV.tup [AV.agg [AV.sl Mode.fresh 62 (some (List.length X)) (List.map FW X), AV.sl Mode.fresh 62 (some (List.length Y)) (List.map FW Y)], it 0]), decide ((false || (false || (true || false))) = true → noAny (12 : Nat) (AV.tup [AV.agg [AV.sl Mode.fresh 62 (some (List.length X)) (List.map FW X), AV.sl Mode.fresh 62 (some (List.length Y)) (List.map FW Y)], it 0]) = true) = true, AV.agg [AV.sl Mode.fresh 62 (some (List.length X)) (List.map (mapE (remode shareM (10 : Nat))) (List.map FW X)), AV.sl Mode.fresh 62 (some (List.length Y)) (List.map (mapE (remode shareM (10 : Nat))) (List.map FW Y))] = AV.agg [AV.sl Mode.fresh 62 (some (List.length X)) (List.map FW X), AV.sl Mode.fresh 62 (some (List.length Y)) (List.map FW Y)]]) (ans' := []) (base 194 0) cxA_K.1 cxA_K.2 _ (by kernel_rfl)  (allp (by (first | rw [view_frW, view_frN] | rw [view_beds, view_beds] | rw [view_yn] | rw [view_two] | rw [view_twoI] | rw [view_beds] | rw [view_frW] | rw [view_frN] | rw [view_twoF] | skip); apply ato <;> (first | assumption | rfl | (simp at * <;> omega))) (allp (by first | exact view_ps _ _ _ | exact view_u8 _ _ _ | rfl | exact view_yn _ _ _ _ _ _ _ | exact view_id _ _ _ | exact view_stk _ _ _ | exact view_beds _ _ _ _ _ _ | exact view_pt _ _ _) (allp (by (first | rw [view_frW, view_frN] | rw [view_beds, view_beds] | rw [view_yn] | rw [view_two] | rw [view_twoI] | rw [view_beds] | rw [view_frW] | rw [view_frN] | rw [view_twoF] | skip); apply so <;> (first | assumption | rfl | (simp at * <;> omega))) (allp g0 (allp g1 allp_nil)))))
theorem sz46_0 (cf cb df db : Nat) (F B G C : List Stk) (hs : SmO G C F B true) : Tri Try.prog (cxN 194 0) (regAt Try.f10 46) ([(9, .box [bsl (some cf) F, bsl (some cb) B]), (10, it 0), (19, .box [bsl (some df) G, bsl (some db) C])] ) (Ex.normal) ([(6, bb true)]) :=
  evA_ok (H := h10) (ans := [.c, .c, .c, .c, .c, .c, .c, .c, .r (bb true), .c, .c, .c, .c, .c, .c, .r (bb true), .c, .c, .c, .c, .c]) (ps := [PureC Try.prog 39 [view (AV.agg [bsl (some df) G, bsl (some db) C]), view (AV.agg [bsl (some cf) F, bsl (some cb) B])] (bb true), PureC Try.prog 37 [] (bb true)]) (ans' := []) (base 194 0) cxA_K.1 cxA_K.2 _ (by kernel_rfl)  (allp (by (first | rw [view_frW, view_frN] | rw [view_beds, view_beds] | rw [view_yn] | rw [view_two] | rw [view_twoI] | rw [view_beds] | rw [view_frW] | rw [view_frN] | rw [view_twoF] | skip); apply smo <;> (first | assumption | rfl | (simp at * <;> omega))) (allp (by apply lives <;> (first | assumption | rfl | (simp at * <;> omega))) allp_nil))
end Tst
end

section
open Go Go.Lf Go.Proofs
namespace Tst
abbrev seE (y4 y7 y8 y9 : List AV) (l : List Idd) (r w a : Int) : Env := [(2, isl none l), (4, .box y4), (7, .box y7), (8, .box y8), (9, .box y9), (10, it r), (11, it w), (12, it a)]
abbrev seK : List (Nat × Wk) := [(2, .keep), (4, .keep), (7, .keep), (8, .keep), (9, .keep), (10, .keep), (11, .keep), (12, .keep)]
abbrev seK1 : List (Nat × Wk) := [(2, .keep), (4, .keep), (7, .keep), (8, .keep), (9, .keep), (10, .keep), (11, .keep), (12, .keep), (15, .keep)]
abbrev seK2 : List (Nat × Wk) := [(2, .keep), (4, .keep), (7, .keep), (8, .keep), (9, .keep), (10, .keep), (11, .keep), (12, .keep), (15, .keep), (17, .keep)]
theorem len_lt (l : List Idd) (k : Nat) (h : k < l.length) : decide ((k : Int) < (((List.map Idd.enc l).length : Nat) : Int)) = true := decide_eq_true (by rw [List.length_map]; omega)
theorem len_ge (l : List Idd) (k : Nat) (h : l.length ≤ k) : decide ((k : Int) < (((List.map Idd.enc l).length : Nat) : Int)) = false := decide_eq_false (by rw [List.length_map]; omega)
theorem len_in (l : List Idd) (k : Nat) (h : k < l.length) : decide ((0 : Int) ≤ (k : Int) ∧ (k : Int) < (((List.map Idd.enc l).length : Nat) : Int)) = true := decide_eq_true (by rw [List.length_map]; omega)
section
variable (y4 y7 y8 y9 : List AV) (l : List Idd) (r : Int)
theorem sa_rnd (d i : Int) : ∀ (n j : Nat), j + n = 80 → Rnd Try.prog (cxN 194 0) (loopBody Try.f10 0) (n + 1) (seE [ub d, it i] y7 y8 y9 l r 0 (nInv d i j) ++ [(13, it j)]) (.exit 0) (seE [ub d, it i] y7 y8 y9 l r 0 (nInv d i 80)) := by
  intro n
  induction n with
  | zero =>
    intro j hj
    have e : j = 80 := by omega
    subst e
    exact Rnd.exit (Tri.after seK (sa_2 y7 y8 y9 l r d i _ _ rfl)) (by simp)
  | succ n ih =>
    intro j hj
    have w := up64 (k := j) (by omega)
    have m := nd_match (j := j) (by omega) d i
    have g0 : decide ((j : Int) < (80 : Int)) = true := decide_eq_true (by omega)
    refine Rnd.step (env1 := seE [ub d, it i] y7 y8 y9 l r 0 (nInv d i (j + 1)) ++ [(13, it ((j + 1 : Nat) : Int))]) ?_ (ih (j + 1) (by omega))
    cases h1 : decide (ndV d i = true ∧ nIx d i = j) with
    | true =>
      rw [nInv_hit h1, ← w]
      exact sa_0 y7 y8 y9 l r d i _ j g0 (m.trans h1)
    | false =>
      rw [nInv_miss h1, ← w]
      exact sa_1 y7 y8 y9 l r d i _ j g0 (m.trans h1)
theorem sb_rnd' (a : Int) (hl : l.length ≤ 6) : ∀ (n k : Nat) (w : Int), k + n = l.length → Rnd Try.prog (cxN 194 0) (loopBody Try.f10 1) (n + 1) (seE y4 y7 y8 y9 l r w a ++ [(14, it k)]) (.exit 2) (seE y4 y7 y8 y9 l r (if (l.drop k).all nmI then w else 1) a) := by
  intro n
  induction n with
  | zero =>
    intro k w hk
    rw [List.drop_eq_nil_of_le (by omega)]
    exact Rnd.exit (Tri.after seK (sb_5 y4 y7 y8 y9 l r a w k (len_ge l k (by omega)))) (by simp)
  | succ n ih =>
    intro k w hk
    have hkl : k < l.length := by omega
    have u := up64 (k := k) (by omega)
    rw [drop_cons l hkl default, List.all_cons]
    have g0 := len_lt l k hkl
    have g1 := len_in l k hkl
    have g2 : List.getD (List.map Idd.enc l) k AV.bad = Idd.enc (l.getD k default) := getD_id hkl
    generalize hp : l.getD k default = p at *
    have bad : nmI p = false → Tri Try.prog (cxN 194 0) (loopBody Try.f10 1) (seE y4 y7 y8 y9 l r w a ++ [(14, it k)]) .normal (seE y4 y7 y8 y9 l r 1 a ++ [(14, it ((k + 1 : Nat) : Int))]) → Rnd Try.prog (cxN 194 0) (loopBody Try.f10 1) (n + 1 + 1) (seE y4 y7 y8 y9 l r w a ++ [(14, it k)]) (.exit 2) (seE y4 y7 y8 y9 l r (if (nmI p && (l.drop (k + 1)).all nmI) then w else 1) a) := fun hb h => by
      have := ih (k + 1) 1 (by omega)
      rw [if_neg (by rw [hb]; simp)]
      split at this
      · exact Rnd.step h this
      · exact Rnd.step h this
    by_cases h1 : p.y < 1
    · refine bad (by unfold nmI namedB; simp; omega) ?_
      have q := sb_0 y4 y7 y8 y9 l r a w k
      simp only [Int.toNat_natCast, hp, u] at q
      exact q g0 g1 g2 (decide_eq_true h1)
    by_cases h2 : 6 < p.y
    · refine bad (by unfold nmI namedB; simp; omega) ?_
      have q := sb_1 y4 y7 y8 y9 l r a w k
      simp only [Int.toNat_natCast, hp, u] at q
      exact q g0 g1 g2 (decide_eq_false h1) (decide_eq_true h2)
    by_cases h3 : p.n < 0
    · refine bad (by unfold nmI namedB; simp; omega) ?_
      have q := sb_2 y4 y7 y8 y9 l r a w k
      simp only [Int.toNat_natCast, hp, u] at q
      exact q g0 g1 g2 (decide_eq_false h1) (decide_eq_false h2) (decide_eq_true h3)
    by_cases h4 : 2047 < p.n
    · refine bad (by unfold nmI namedB; simp; omega) ?_
      have q := sb_3 y4 y7 y8 y9 l r a w k
      simp only [Int.toNat_natCast, hp, u] at q
      exact q g0 g1 g2 (decide_eq_false h1) (decide_eq_false h2) (decide_eq_false h3) (decide_eq_true h4)
    have hn : nmI p = true := by unfold nmI namedB; simp; omega
    rw [hn, Bool.true_and]
    have q := sb_4 y4 y7 y8 y9 l r a w k
    simp only [Int.toNat_natCast, hp, u] at q
    exact Rnd.step (q g0 g1 g2 (decide_eq_false h1) (decide_eq_false h2) (decide_eq_false h3) (decide_eq_false h4)) (ih (k + 1) w (by omega))
open Classical in
theorem se_rnd (a : Int) (hl : l.length ≤ 6) {i : Nat} (hi : i < l.length) : ∀ (n k : Nat) (w : Int), k + n = i → Rnd Try.prog (cxN 194 0) (loopBody Try.f10 3) (n + 1) (seE y4 y7 y8 y9 l r w a ++ [(15, it i), (16, it k)]) (.exit 6) (seE y4 y7 y8 y9 l r (if ∃ j, k ≤ j ∧ j < i ∧ l.getD j default = l.getD i default then 8 else w) a ++ [(15, it i)]) := by
  intro n
  induction n with
  | zero =>
    intro k w hk
    rw [if_neg (by rintro ⟨j, h1, h2, _⟩; omega)]
    exact Rnd.exit (Tri.after seK1 (se_2 y4 y7 y8 y9 l r a w i k (decide_eq_false (by omega)))) (by simp)
  | succ n ih =>
    intro k w hk
    have u := up64 (k := k) (by omega)
    by_cases h : l.getD k default = l.getD i default
    · have q := se_0 y4 y7 y8 y9 l r a w i k
      simp only [Int.toNat_natCast, u] at q
      have := ih (k + 1) 8 (by omega)
      rw [if_pos ⟨k, Nat.le_refl _, by omega, h⟩]
      rw [ite_self] at this
      exact Rnd.step (q (decide_eq_true (by omega)) (len_in l k (by omega)) (getD_id (by omega)) (len_in l i hi) (getD_id hi) ((id_eq _ _).trans (decide_eq_true h))) this
    · have q := se_1 y4 y7 y8 y9 l r a w i k
      simp only [Int.toNat_natCast, u] at q
      have := ih (k + 1) w (by omega)
      have e : (∃ j, k ≤ j ∧ j < i ∧ l.getD j default = l.getD i default) ↔ ∃ j, k + 1 ≤ j ∧ j < i ∧ l.getD j default = l.getD i default :=
        ⟨fun ⟨j, h1, h2, h3⟩ => ⟨j, by by_cases c : j = k; · subst c; exact absurd h3 h
                                       · omega, h2, h3⟩, fun ⟨j, h1, h2, h3⟩ => ⟨j, by omega, h2, h3⟩⟩
      simp only [e]
      exact Rnd.step (q (decide_eq_true (by omega)) (len_in l k (by omega)) (getD_id (by omega)) (len_in l i hi) (getD_id hi) ((id_eq _ _).trans (decide_eq_false h))) this
end
section
variable (T : List (List Idd)) (hT : T.length = 80) (hs : ∀ i, (T.getD i []).length ≤ 4) (y4 y8 y9 : List AV) (l : List Idd) (r : Int)
include hT hs
theorem sf_rnd (A : Int) {i : Nat} (hi : i < l.length) {k : Nat} (hk : k < 80) (hA : (k : Int) ≠ A) : ∀ (n m : Nat) (w : Int), m + n = (T.getD k []).length → Rnd Try.prog (cxN 194 0) (loopBody Try.f10 5) (n + 1) (seE y4 (T.map SH) y8 y9 l r w A ++ [(15, it i), (17, it k), (18, it m)]) (.exit 10)
    (seE y4 (T.map SH) y8 y9 l r (if l.getD i default ∈ (T.getD k []).drop m then 8 else w) A ++ [(15, it i), (17, it k)]) := by
  have hsk := hs k
  have b1 : decide ((0 : Int) ≤ (k : Int) ∧ (k : Int) < ((80 : Nat) : Int) ∧ (0 : Nat) < (1 : Nat)) = true := decide_eq_true (by omega)
  have b2 : decide (True ∧ k < (List.map SH T).length) = true := decide_eq_true ⟨trivial, by rw [List.length_map]; omega⟩
  have b3 : List.getD (List.map SH T) k AV.bad = SH (T.getD k []) := getD_SH (by omega)
  have b4 : ((k : Int) != A) = true := by simpa using hA
  intro n
  induction n with
  | zero =>
    intro m w hm
    rw [List.drop_eq_nil_of_le (by omega), if_neg (by simp)]
    have q := sf_3 T y4 y8 y9 l r A w i k m
    simp only [Int.toNat_natCast, Nat.mul_one] at q
    exact Rnd.exit (Tri.after seK2 (q b1 b2 b3 (len_ge (T.getD k []) m (by omega)))) (by simp)
  | succ n ih =>
    intro m w hm
    have hml : m < (T.getD k []).length := by omega
    have u := up64 (k := m) (by omega)
    rw [drop_cons (T.getD k []) hml default]
    by_cases h : (T.getD k []).getD m default = l.getD i default
    · have q := sf_0 T y4 y8 y9 l r A w i k m
      simp only [Int.toNat_natCast, Nat.mul_one, u] at q
      have := ih (m + 1) 8 (by omega)
      rw [ite_self] at this
      rw [if_pos (by rw [h]; simp)]
      exact Rnd.step (q b1 b2 b3 (len_lt _ m hml) b4 (len_in _ m hml) (getD_id hml) (len_in l i hi) (getD_id hi) ((id_eq _ _).trans (decide_eq_true h))) this
    · have q := sf_1 T y4 y8 y9 l r A w i k m
      simp only [Int.toNat_natCast, Nat.mul_one, u] at q
      have := ih (m + 1) w (by omega)
      have e : (l.getD i default ∈ (T.getD k []).getD m default :: (T.getD k []).drop (m + 1)) ↔ l.getD i default ∈ (T.getD k []).drop (m + 1) := by
        rw [List.mem_cons]
        exact ⟨fun c => c.resolve_left fun c => h c.symm, .inr⟩
      simp only [e]
      exact Rnd.step (q b1 b2 b3 (len_lt _ m hml) b4 (len_in _ m hml) (getD_id hml) (len_in l i hi) (getD_id hi) ((id_eq _ _).trans (decide_eq_false h))) this
theorem sf_loop (A w : Int) {i : Nat} (hi : i < l.length) {k : Nat} (hk : k < 80) : Tri Try.prog (cxN 194 0) (.loop (loopBody Try.f10 5)) (seE y4 (T.map SH) y8 y9 l r w A ++ [(15, it i), (17, it k), (18, it 0)]) (.exit 10)
    (seE y4 (T.map SH) y8 y9 l r (if (k : Int) ≠ A ∧ l.getD i default ∈ T.getD k [] then 8 else w) A ++ [(15, it i), (17, it k)]) := by
  by_cases hA : (k : Int) = A
  · rw [if_neg fun c => c.1 hA]
    have b1 : decide ((0 : Int) ≤ (k : Int) ∧ (k : Int) < ((80 : Nat) : Int) ∧ (0 : Nat) < (1 : Nat)) = true := decide_eq_true (by omega)
    have b2 : decide (True ∧ k < (List.map SH T).length) = true := decide_eq_true ⟨trivial, by rw [List.length_map]; omega⟩
    have b3 : List.getD (List.map SH T) k AV.bad = SH (T.getD k []) := getD_SH (by omega)
    refine Rnd.loop (n := 1) (Rnd.exit (ex := .exit 10) ?_ (by simp))
    by_cases h0 : 0 < (T.getD k []).length
    · have q := sf_2 T y4 y8 y9 l r A w i k 0
      simp only [Int.toNat_natCast, Nat.mul_one] at q
      exact Tri.after seK2 (q b1 b2 b3 (len_lt _ 0 h0) (by simpa using hA))
    · have q := sf_3 T y4 y8 y9 l r A w i k 0
      simp only [Int.toNat_natCast, Nat.mul_one] at q
      exact Tri.after seK2 (q b1 b2 b3 (len_ge (T.getD k []) 0 (by omega)))
  · have := Rnd.loop (sf_rnd T hT hs y4 y8 y9 l r A hi hk hA (T.getD k []).length 0 w (by omega))
    rw [List.drop_zero] at this
    have e : ((k : Int) ≠ A ∧ l.getD i default ∈ T.getD k []) ↔ l.getD i default ∈ T.getD k [] := ⟨fun c => c.2, fun c => ⟨hA, c⟩⟩
    simp only [e]
    exact this
omit hT hs in
theorem sl4 : loopBody Try.f10 4 = .seq (.seq (regAt Try.f10 31) (.cond (.tmp 115) .skip (.exit 8))) (.seq (.block 9 (.seq (regAt Try.f10 33) (.block 10 (.loop (loopBody Try.f10 5))))) (regAt Try.f10 32)) := by kernel_rfl
open Classical in
theorem sg_rnd (A : Int) {i : Nat} (hi : i < l.length) : ∀ (n k : Nat) (w : Int), k + n = 80 → Rnd Try.prog (cxN 194 0) (loopBody Try.f10 4) (n + 1) (seE y4 (T.map SH) y8 y9 l r w A ++ [(15, it i), (17, it k)]) (.exit 8)
    (seE y4 (T.map SH) y8 y9 l r (if ∃ j : Nat, k ≤ j ∧ j < 80 ∧ (j : Int) ≠ A ∧ l.getD i default ∈ T.getD j [] then 8 else w) A ++ [(15, it i)]) := by
  intro n
  induction n with
  | zero =>
    intro k w hk
    rw [if_neg (by rintro ⟨j, h1, h2, _⟩; omega)]
    refine Rnd.exit (ex := .exit 8) ?_ (by simp)
    rw [sl4]
    refine Tri.after seK1 (.seqX (.seq (sz31_0 y4 (T.map SH) y8 y9 l r A w i k) (.cond (b := false) ?_ .exit)) (by simp))
    show some (AV.atom (Value.bool (decide ((k : Int) < (80 : Int))))) = _
    rw [decide_eq_false (by omega)]
  | succ n ih =>
    intro k w hk
    have u := up64 (k := k) (by omega)
    have st : Tri Try.prog (cxN 194 0) (loopBody Try.f10 4) (seE y4 (T.map SH) y8 y9 l r w A ++ [(15, it i), (17, it k)]) .normal (seE y4 (T.map SH) y8 y9 l r (if (k : Int) ≠ A ∧ l.getD i default ∈ T.getD k [] then 8 else w) A ++ [(15, it i), (17, it ((k + 1 : Nat) : Int))]) := by
      rw [sl4]
      refine .seq (.seq (sz31_0 y4 (T.map SH) y8 y9 l r A w i k) (.cond (b := true) ?_ .skip)) ?_
      · show some (AV.atom (Value.bool (decide ((k : Int) < (80 : Int))))) = _
        rw [decide_eq_true (by omega)]
      refine Tri.weak seK2 ?_
      have q := sz32_0 y4 (T.map SH) y8 y9 l r A (if (k : Int) ≠ A ∧ l.getD i default ∈ T.getD k [] then 8 else w) i k
      rw [u] at q
      exact .seq (.block (ex := .normal) (.seq (sz33_0 y4 (T.map SH) y8 y9 l r A w i k) (.block (ex := .exit 10) (sf_loop T hT hs y4 y8 y9 l r A w hi (by omega)) (.inl ⟨rfl, rfl⟩))) (.inr ⟨by simp, rfl⟩)) q
    have := ih (k + 1) (if (k : Int) ≠ A ∧ l.getD i default ∈ T.getD k [] then 8 else w) (by omega)
    by_cases h : (k : Int) ≠ A ∧ l.getD i default ∈ T.getD k []
    · rw [if_pos ⟨k, Nat.le_refl _, by omega, h⟩]
      rw [if_pos h] at this st
      rw [ite_self] at this
      exact Rnd.step st this
    · rw [if_neg h] at this st
      have e : (∃ j : Nat, k ≤ j ∧ j < 80 ∧ (j : Int) ≠ A ∧ l.getD i default ∈ T.getD j []) ↔ ∃ j : Nat, k + 1 ≤ j ∧ j < 80 ∧ (j : Int) ≠ A ∧ l.getD i default ∈ T.getD j [] :=
        ⟨fun ⟨j, h1, h2, h3⟩ => ⟨j, by by_cases c : j = k; · subst c; exact absurd h3 h
                                       · omega, h2, h3⟩, fun ⟨j, h1, h2, h3⟩ => ⟨j, by omega, h2, h3⟩⟩
      simp only [e]
      exact Rnd.step st this
def dupAt (T : List (List Idd)) (A : Int) (l : List Idd) (j : Nat) : Prop := (∃ k, k < j ∧ l.getD k default = l.getD j default) ∨ ∃ k : Nat, k < 80 ∧ (k : Int) ≠ A ∧ l.getD j default ∈ T.getD k []
omit hT hs in
theorem sl2 : loopBody Try.f10 2 = .seq (.seq (regAt Try.f10 23) (.cond (.tmp 97) .skip (.exit 4))) (.seq (.block 5 (.seq (.seq (regAt Try.f10 25) (.block 6 (.loop (loopBody Try.f10 3)))) (.seq (regAt Try.f10 30) (.block 8 (.loop (loopBody Try.f10 4)))))) (regAt Try.f10 24)) := by kernel_rfl
open Classical in
theorem sd_rnd (A : Int) (hl : l.length ≤ 6) : ∀ (n i : Nat) (w : Int), i + n = l.length → Rnd Try.prog (cxN 194 0) (loopBody Try.f10 2) (n + 1) (seE y4 (T.map SH) y8 y9 l r w A ++ [(15, it i)]) (.exit 4)
    (seE y4 (T.map SH) y8 y9 l r (if w ≠ 0 then w else if ∃ j, i ≤ j ∧ j < l.length ∧ dupAt T A l j then 8 else 0) A) := by
  have stop : ∀ (n i : Nat) (w : Int), w ≠ 0 → Rnd Try.prog (cxN 194 0) (loopBody Try.f10 2) (n + 1) (seE y4 (T.map SH) y8 y9 l r w A ++ [(15, it i)]) (.exit 4) (seE y4 (T.map SH) y8 y9 l r w A) := fun n i w hw => by
    refine Rnd.exit (ex := .exit 4) ?_ (by simp)
    rw [sl2]
    by_cases hi : i < l.length
    · refine Tri.after seK (.seqX (.seq (sz23_0 y4 (T.map SH) y8 y9 l r A w i (len_lt l i hi)) (.cond (b := false) ?_ .exit)) (by simp))
      show some (AV.atom (Value.bool (w == (0 : Int)))) = _
      rw [show (w == (0 : Int)) = false by simpa using hw]
    · refine Tri.after seK (.seqX (.seq (sz23_1 y4 (T.map SH) y8 y9 l r A w i (len_ge l i (by omega))) (.cond (b := false) ?_ .exit)) (by simp))
      rfl
  intro n
  induction n with
  | zero =>
    intro i w hi
    by_cases hw : w ≠ 0
    · rw [if_pos hw]; exact stop 0 i w hw
    · rw [if_neg hw, if_neg (by rintro ⟨j, h1, h2, _⟩; omega)]
      have hw : w = 0 := by simpa using hw
      subst hw
      refine Rnd.exit (ex := .exit 4) ?_ (by simp)
      rw [sl2]
      refine Tri.after seK (.seqX (.seq (sz23_1 y4 (T.map SH) y8 y9 l r A 0 i (len_ge l i (by omega))) (.cond (b := false) ?_ .exit)) (by simp))
      rfl
  | succ n ih =>
    intro i w hi
    by_cases hw : w ≠ 0
    · rw [if_pos hw]; exact stop (n + 1) i w hw
    rw [if_neg hw]
    have hw : w = 0 := by simpa using hw
    subst hw
    have hil : i < l.length := by omega
    have u := up64 (k := i) (by omega)
    have st : Tri Try.prog (cxN 194 0) (loopBody Try.f10 2) (seE y4 (T.map SH) y8 y9 l r 0 A ++ [(15, it i)]) .normal (seE y4 (T.map SH) y8 y9 l r (if dupAt T A l i then 8 else 0) A ++ [(15, it ((i + 1 : Nat) : Int))]) := by
      rw [sl2]
      refine .seq (.seq (sz23_0 y4 (T.map SH) y8 y9 l r A 0 i (len_lt l i hil)) (.cond (b := true) rfl .skip)) ?_
      refine Tri.weak seK1 ?_
      have h3 := Rnd.loop (se_rnd y4 (T.map SH) y8 y9 l r A hl hil i 0 0 (by omega))
      have h4 := fun w => Rnd.loop (sg_rnd T hT hs y4 y8 y9 l r A hil 80 0 w rfl)
      have q := fun w => sz24_0 y4 (T.map SH) y8 y9 l r A w i
      simp only [u] at q
      have e : (if dupAt T A l i then (8 : Int) else 0) = if ∃ j : Nat, 0 ≤ j ∧ j < 80 ∧ (j : Int) ≠ A ∧ l.getD i default ∈ T.getD j [] then 8 else if ∃ j, 0 ≤ j ∧ j < i ∧ l.getD j default = l.getD i default then 8 else 0 := by
        by_cases c1 : ∃ j : Nat, 0 ≤ j ∧ j < 80 ∧ (j : Int) ≠ A ∧ l.getD i default ∈ T.getD j []
        · rw [if_pos c1, if_pos (show dupAt T A l i by obtain ⟨j, _, h⟩ := c1; exact .inr ⟨j, h⟩)]
        · rw [if_neg c1]
          by_cases c2 : ∃ j, 0 ≤ j ∧ j < i ∧ l.getD j default = l.getD i default
          · rw [if_pos c2, if_pos (show dupAt T A l i by obtain ⟨j, _, h⟩ := c2; exact .inl ⟨j, h⟩)]
          · rw [if_neg c2, if_neg (by rintro (⟨j, h⟩ | ⟨j, h⟩); exact c2 ⟨j, by omega, h⟩; exact c1 ⟨j, by omega, h⟩)]
      rw [e]
      refine .seq (.block (ex := .normal) (.seq (.seq (sz25_0 y4 (T.map SH) y8 y9 l r A 0 i) (.block (ex := .exit 6) h3 (.inl ⟨rfl, rfl⟩))) (.seq (sz30_0 y4 (T.map SH) y8 y9 l r A _ i) (.block (ex := .exit 8) (h4 _) (.inl ⟨rfl, rfl⟩)))) (.inr ⟨by simp, rfl⟩)) (q _)
    have := ih (i + 1) (if dupAt T A l i then 8 else 0) (by omega)
    by_cases h : dupAt T A l i
    · rw [if_pos ⟨i, Nat.le_refl _, hil, h⟩]
      rw [if_pos h] at this st
      rw [if_pos (by decide)] at this
      exact Rnd.step st this
    · rw [if_neg h] at this st
      rw [if_neg (by decide)] at this
      have e : (∃ j, i ≤ j ∧ j < l.length ∧ dupAt T A l j) ↔ ∃ j, i + 1 ≤ j ∧ j < l.length ∧ dupAt T A l j :=
        ⟨fun ⟨j, h1, h2, h3⟩ => ⟨j, by by_cases c : j = i; · subst c; exact absurd h3 h
                                       · omega, h2, h3⟩, fun ⟨j, h1, h2, h3⟩ => ⟨j, by omega, h2, h3⟩⟩
      simp only [e]
      exact Rnd.step st this
end
end Tst
end

section
open Go Go.Lf Go.Proofs
namespace Tst
theorem st_body : Try.f10.body = some (.seq (regAt Try.f10 0) (.seq (codeAt Try.f10 1) (.seq (regAt Try.f10 3) (.seq (regAt Try.f10 4) (.seq (regAt Try.f10 5) (.seq (regAt Try.f10 6) (.seq (regAt Try.f10 7) (.seq (.seq (regAt Try.f10 8) (.block 0 (.loop (loopBody Try.f10 0)))) (.seq (codeAt Try.f10 13) (.seq (.seq (regAt Try.f10 15) (.block 2 (.loop (loopBody Try.f10 1)))) (.seq (codeAt Try.f10 20) (.seq (.seq (regAt Try.f10 22) (.block 4 (.loop (loopBody Try.f10 2)))) (.seq (codeAt Try.f10 38) (.seq (codeAt Try.f10 40) (.seq (regAt Try.f10 42) (.seq (codeAt Try.f10 43) (.seq (regAt Try.f10 45) (.seq (regAt Try.f10 46) .ret)))))))))))))))))) := by kernel_rfl
theorem twV_rep {F B : List Stk} {tb : List (List Idd)} (h : Rep F B tb) : twV F B = !decide tb.flatten.Nodup := by unfold twV; rw [h.all]
theorem dup_iff {T : List (List Idd)} (hT : T.length = 80) (hd : T.flatten.Nodup) {I : Nat} (hI : I < 80) (l : List Idd) : (∃ j, 0 ≤ j ∧ j < l.length ∧ dupAt T (I : Int) l j) ↔ ¬ (T.set I l).flatten.Nodup := by
  rw [(set_perm T I l (by omega)).nodup_iff, List.nodup_append]
  have hR : (T.set I []).flatten.Nodup := (List.nodup_append.1 ((get_perm T I (by omega)).nodup_iff.1 hd)).2.1
  have mR : ∀ p : Idd, p ∈ (T.set I []).flatten ↔ ∃ k : Nat, k < 80 ∧ (k : Int) ≠ I ∧ p ∈ T.getD k [] := fun p => by
    constructor
    · intro h
      obtain ⟨k, hk, hp⟩ := flat_mem h
      rw [List.length_set] at hk
      rw [getD_set _ _ _ _ (by omega)] at hp
      split at hp
      · cases hp
      · rename_i n; exact ⟨k, by omega, by omega, hp⟩
    · rintro ⟨k, hk, hn, hp⟩
      refine mem_flat (j := k) ?_
      rw [getD_set _ _ _ _ (by omega), if_neg (by omega)]; exact hp
  have gd : ∀ j (hj : j < l.length), l.getD j default = l[j] := fun j hj => by rw [List.getD_eq_getElem?_getD, List.getElem?_eq_getElem hj]; rfl
  constructor
  · rintro ⟨j, _, hj, h | h⟩ ⟨h1, _, h3⟩
    · obtain ⟨k, hk, e⟩ := h
      rw [gd k (by omega), gd j hj] at e
      exact (List.pairwise_iff_getElem.1 (List.nodup_iff_pairwise_ne.1 h1)) k j (by omega) hj hk e
    · have := (mR (l.getD j default)).2 h
      exact h3 _ (by rw [gd j hj]; exact List.getElem_mem hj) _ this rfl
  · intro h
    refine Classical.byContradiction fun c => h ⟨?_, hR, ?_⟩
    · rw [List.nodup_iff_pairwise_ne, List.pairwise_iff_getElem]
      intro k j hk hj hkj e
      exact c ⟨j, Nat.zero_le _, hj, .inl ⟨k, hkj, by rw [gd k hk, gd j hj, e]⟩⟩
    · rintro a ha b hb rfl
      obtain ⟨j, hj, rfl⟩ := List.mem_iff_getElem.1 ha
      exact c ⟨j, Nat.zero_le _, hj, .inr (by rw [gd j hj]; exact (mR _).1 hb)⟩
open Classical in
noncomputable def stWant (T : List (List Idd)) (l : List Idd) (a : Int) : Int :=
  if (if (if l.all nmI = true then (if a < 0 then (1 : Int) else 0) else 1) = 0 ∧ 4 < l.length then 9 else (if l.all nmI = true then (if a < 0 then (1 : Int) else 0) else 1)) ≠ 0 then (if (if l.all nmI = true then (if a < 0 then (1 : Int) else 0) else 1) = 0 ∧ 4 < l.length then 9 else (if l.all nmI = true then (if a < 0 then (1 : Int) else 0) else 1))
  else if ∃ j, 0 ≤ j ∧ j < l.length ∧ dupAt T a l j then 8 else 0
theorem st13 (y4 y7 y8 y9 : List AV) (l : List Idd) (r a : Int) : Tri Try.prog (cxN 194 0) (codeAt Try.f10 13) (seE y4 y7 y8 y9 l r 0 a) .normal (seE y4 y7 y8 y9 l r (if a < 0 then 1 else 0) a) := by
  by_cases h : a < 0
  · rw [if_pos h]; exact Tri.after seK (sz13_0 y4 y7 y8 y9 l r a (decide_eq_true h))
  · rw [if_neg h]; exact Tri.after seK (sz13_1 y4 y7 y8 y9 l r a (decide_eq_false h))
theorem st20 (y4 y7 y8 y9 : List AV) (l : List Idd) (r w a : Int) : Tri Try.prog (cxN 194 0) (codeAt Try.f10 20) (seE y4 y7 y8 y9 l r w a) .normal (seE y4 y7 y8 y9 l r (if w = 0 ∧ 4 < l.length then 9 else w) a) := by
  by_cases h : w = 0
  · by_cases h4 : 4 < l.length
    · rw [if_pos ⟨h, h4⟩]; exact Tri.after seK (sz20_0 y4 y7 y8 y9 l r a w (by simpa using h) (decide_eq_true (by rw [List.length_map]; omega)))
    · rw [if_neg fun c => h4 c.2]; exact Tri.after seK (sz20_1 y4 y7 y8 y9 l r a w (by simpa using h) (decide_eq_false (by rw [List.length_map]; omega)))
  · rw [if_neg fun c => h c.1]; exact Tri.after seK (sz20_2 y4 y7 y8 y9 l r a w (by simpa using h))
theorem st_err (y2 y4 y7 : AV) (r : Int) (h : r ≠ 0) (a : Int) (c : Code) : Tri Try.prog (cxN 194 0) (.seq (codeAt Try.f10 40) c) [(2, y2), (4, y4), (7, y7), (9, .box [niln, niln]), (10, it r), (12, it a)] .ret [(6, bb true)] :=
  .seqX (Tri.weak [(9, .keep), (10, .keep)] (sz40e_0 r (by simpa using h) (by simpa using h))) (by simp)
section
variable {F B : List Stk} {T : List (List Idd)} (hR : Rep F B T) (hg : Good' T)
include hR hg
theorem st_mid {cf cb : Nat} (c1 : capT cf F = 0) (c2 : capT cb B = 0) (d i : Int) (l : List Idd) (hl : l.length ≤ 6) {r : Int} (y9 : List AV) (hw : stWant T l (nInv d i 80) = r) {c : Code} {env' : Env}
    (h : Tri Try.prog (cxN 194 0) c [(2, isl none l), (4, .box [ub d, it i]), (7, .box (T.map SH)), (9, .box y9), (10, it r), (12, it (nInv d i 80))] .ret env') :
    Tri Try.prog (cxN 194 0) (.seq (regAt Try.f10 6) (.seq (regAt Try.f10 7) (.seq (.seq (regAt Try.f10 8) (.block 0 (.loop (loopBody Try.f10 0)))) (.seq (codeAt Try.f10 13) (.seq (.seq (regAt Try.f10 15) (.block 2 (.loop (loopBody Try.f10 1)))) (.seq (codeAt Try.f10 20) (.seq (.seq (regAt Try.f10 22) (.block 4 (.loop (loopBody Try.f10 2)))) (.seq (codeAt Try.f10 38) c))))))))
      [(2, isl none l), (4, .box [ub d, it i]), (7, .box (T.map SH)), (8, .box [bsl (some cf) F, bsl (some cb) B]), (9, .box y9), (10, it r)] .ret env' := by
  have hT := hR.l
  have hdf := df_rep hR hg c1 c2
  have h0 := Rnd.loop (sa_rnd (T.map SH) [bsl (some cf) F, bsl (some cb) B] y9 l r d i 80 0 rfl)
  rw [nInv_0] at h0
  have h1 := fun w => Rnd.loop (sb_rnd' [ub d, it i] (T.map SH) [bsl (some cf) F, bsl (some cb) B] y9 l r (nInv d i 80) hl l.length 0 w (by omega))
  simp only [List.drop_zero] at h1
  have h2 := fun w => Rnd.loop (sd_rnd T hT hg.s [ub d, it i] [bsl (some cf) F, bsl (some cb) B] y9 l r (nInv d i 80) hl l.length 0 w (by omega))
  refine .seq (sz6_0 _ _ _ _ _ _) (.seq (sz7_0 _ _ _ _ _ _) (.seq (.seq (sz8_0 _ _ _ _ _ _) (.block (ex := .exit 0) h0 (.inl ⟨rfl, rfl⟩))) (.seq (st13 _ _ _ _ _ _ _) ?_)))
  refine .seq (.seq (sz15_0 _ _ _ _ _ _ _ _) (.block (ex := .exit 2) (h1 _) (.inl ⟨rfl, rfl⟩))) (.seq (st20 _ _ _ _ _ _ _ _) (.seq (.seq (sz22_0 _ _ _ _ _ _ _ _) (.block (ex := .exit 4) (h2 _) (.inl ⟨rfl, rfl⟩))) ?_))
  unfold stWant at hw
  rw [hw, bedS_eq hT]
  refine .seq (sz38_0 cf cb F B _ _ y9 l r r _ (by simp) hdf (by simp) rfl) ?_
  rw [← bedS_eq hT]
  exact Tri.weak [(2, .keep), (4, .keep), (7, .keep), (9, .keep), (10, .keep), (12, .keep)] h
end
end Tst
end

section
open Go Go.Lf Go.Proofs
namespace Tst
theorem ser_of {F B : List Stk} {d i r : Int} {l : List Idd} (hl : l.length ≤ 6) (h : setV F B d i l = nilR r) : SEr F B d i l r := fun cf cb c => by
  have := set_c (some cf) (some cb) c F B d i l (by omega)
  rwa [h] at this
theorem so_of {F B : List Stk} {d i : Int} {l : List Idd} {X Y : List (List Idd)} (hl : l.length ≤ 6) (h : setV F B d i l = bedsR X Y) : SO F B d i l X Y := fun cf cb c => by
  have := set_c (some cf) (some cb) c F B d i l (by omega)
  rw [h] at this
  exact this
theorem set_good {T : List (List Idd)} (g : Good' T) (hT : T.length = 80) {I : Nat} (hI : I < 80) {l : List Idd} (hn : l.all nmI = true) (h4 : l.length ≤ 4) (hd : (T.set I l).flatten.Nodup) : Good' (T.set I l) := by
  refine ⟨fun j => ?_, fun p hp => ?_, hd⟩
  · rw [getD_set _ _ _ _ (by omega)]
    split
    · exact h4
    · exact g.s j
  · obtain ⟨j, hj, hp⟩ := flat_mem hp
    rw [getD_set _ _ _ _ (by omega)] at hp
    split at hp
    · exact List.all_eq_true.1 hn p hp
    · exact g.n p (mem_flat hp)
theorem setV_ok {F B : List Stk} {T : List (List Idd)} (h : Rep F B T) (g : Good' T) {I : Nat} (hI : I < 80) {l : List Idd} (hn : l.all nmI = true) (h4 : l.length ≤ 4) :
    setV F B (ndB (I : Int)) (ndN (I : Int)) l = if (T.set I l).flatten.Nodup then bedsR (halfT (T.set I l) 0) (halfT (T.set I l) 40) else nilR 8 := by
  have hl : (T.set I l).length = 80 := by rw [List.length_set, h.l]
  unfold setV
  rw [h.chk g, if_neg (by decide), ndV_nat hI, hn, if_neg (by decide), if_neg (by omega), with_nat h hI, twV_rep (rep_half _ hl)]
  by_cases c : (T.set I l).flatten.Nodup
  · rw [if_pos c, decide_eq_true c]; rfl
  · rw [if_neg c, decide_eq_false c]; rfl
attribute [local irreducible] setV
theorem law10_c (x : List Pt) (hx : ∀ q ∈ x, 0 ≤ q.a ∧ 0 ≤ q.m) (d i : Int) (l : List Idd) : PureC Try.prog 10 [psl none x, ndl d i, isl none l] (bb true) := by
  have hof : OfOk x fun i => (ofT x).getD i [] := of_c none x hx
  have hbd : BdOk (fun i => (ofT x).getD i []) (bedOfT (ofT x) 0) (bedOfT (ofT x) 40) := beds_c (ofT x) (ofT_len x) (ofT_short x)
  have hT : (ofT x).length = 80 := ofT_len x
  have hg : Good' (ofT x) := good_ofT x fun q hq => (hx q hq).1
  have hR : Rep (stkF (bedOfT (ofT x) 0)) (stkF (bedOfT (ofT x) 40)) (ofT x) := rep_bed _ hT fun o => bedOfT_len _ o
  have c1 := capT_bed (ofT x) 0
  have c2 := capT_bed (ofT x) 40
  generalize ofT x = T at *
  generalize hX : bedOfT T 0 = X at *
  generalize hY : bedOfT T 40 = Y at *
  obtain ⟨F, hF⟩ : ∃ F, F = stkF X := ⟨_, rfl⟩
  obtain ⟨B, hB⟩ : ∃ B, B = stkF Y := ⟨_, rfl⟩
  have l1 := le_frE (P := Try.prog) X
  have l2 := le_frE (P := Try.prog) Y
  rw [← hF] at hR c1 l1
  rw [← hB] at hR c2 l2
  refine pureT ((base 194 0).ok cxA_K.1 cxA_K.2) Try.func10 rfl (by show 3 ≤ 194; omega) rfl st_body rfl (ex := .ret) (env' := [(6, bb true)]) ?_ rfl
  refine .seq (sz0_0 x d i l) ?_
  by_cases h6 : 6 < l.length
  · have q : decide ((6 : Int) < (((List.map Idd.enc l).length : Nat) : Int)) = true := decide_eq_true (by rw [List.length_map]; omega)
    exact .seqX (sz1t_0 x _ l q q) (by simp)
  have q : decide ((6 : Int) < (((List.map Idd.enc l).length : Nat) : Int)) = false := decide_eq_false (by rw [List.length_map]; omega)
  have hl : l.length ≤ 6 := by omega
  refine .seq (sz1f_0 x _ l q q) (Tri.weak [(0, .keep), (2, .keep), (4, .keep)] (.seq (sz3_0 x _ _ l hof) (.seq (Tri.less (env2 := [(2, isl none l), (4, .box [ub d, it i]), (7, .box (bedS fun i => T.getD i [])), (8, .box [bsl (some X.length) F, bsl (some Y.length) B])]) (sz4_0 _ X Y _ l hbd rfl (by rw [smapFN, smapFN])) ?_) ?_)))
  · exact .cons ⟨rfl, rfl, Le.refl _⟩ (.cons ⟨rfl, rfl, Le.refl _⟩ (.cons ⟨rfl, rfl, le_tab _⟩ (.cons ⟨rfl, rfl, Le.box (.cons l1 (.cons l2 .nil))⟩ .nil)))
  rw [← bedS_eq hT]
  have err : ∀ r : Int, r ≠ 0 → setV F B d i l = nilR r → stWant T l (nInv d i 80) = r → ∀ c : Code, Tri Try.prog (cxN 194 0) (.seq (regAt Try.f10 5) (.seq (regAt Try.f10 6) (.seq (regAt Try.f10 7) (.seq (.seq (regAt Try.f10 8) (.block 0 (.loop (loopBody Try.f10 0)))) (.seq (codeAt Try.f10 13) (.seq (.seq (regAt Try.f10 15) (.block 2 (.loop (loopBody Try.f10 1)))) (.seq (codeAt Try.f10 20) (.seq (.seq (regAt Try.f10 22) (.block 4 (.loop (loopBody Try.f10 2)))) (.seq (codeAt Try.f10 38) (.seq (codeAt Try.f10 40) c)))))))))) [(2, isl none l), (4, .box [ub d, it i]), (7, .box (T.map SH)), (8, .box [bsl (some X.length) F, bsl (some Y.length) B])] .ret [(6, bb true)] := fun r h0 hj hw c =>
    .seq (sz5e_0 X.length Y.length F B _ d i r l (ser_of hl hj)) (st_mid hR hg c1 c2 d i l hl [niln, niln] hw (st_err _ _ _ r h0 _ c))
  have hchk := hR.chk hg
  by_cases hv : ndV d i = true
  case neg =>
    refine err 1 (by decide) ?_ ?_ _
    · unfold setV
      rw [hchk, if_neg (by decide), if_pos (by simp at hv; rw [hv]; rfl)]
    · have hn : nInv d i 80 = -1 := by rw [nInv_80, if_neg hv]
      unfold stWant
      rw [hn]
      cases l.all nmI <;> simp
  obtain ⟨I, hI, rfl, rfl, eI⟩ := nInv_nat hv
  by_cases hn : l.all nmI = true
  case neg =>
    refine err 1 (by decide) ?_ ?_ _
    · unfold setV
      rw [hchk, if_neg (by decide), if_pos (by simp only [Bool.not_eq_true] at hn; rw [hn, hv]; rfl)]
    · unfold stWant
      simp only [Bool.not_eq_true] at hn
      rw [hn]; simp
  have w2 : (if l.all nmI = true then (if nInv (ndB (I : Int)) (ndN (I : Int)) 80 < 0 then (1 : Int) else 0) else 1) = 0 := by rw [if_pos hn, eI, if_neg (by omega)]
  by_cases h4 : 4 < l.length
  · refine err 9 (by decide) ?_ ?_ _
    · unfold setV
      rw [hchk, if_neg (by decide), if_neg (by rw [hn, hv]; decide), if_pos h4]
    · unfold stWant
      rw [w2, if_pos (show (0 : Int) = 0 ∧ 4 < l.length from ⟨rfl, h4⟩), if_pos (by decide)]
  have h4' : l.length ≤ 4 := by omega
  have hs := setV_ok hR hg hI hn h4'
  have hdi := dup_iff hT hg.d hI l
  have hw : stWant T l (nInv (ndB (I : Int)) (ndN (I : Int)) 80) = if (T.set I l).flatten.Nodup then 0 else 8 := by
    unfold stWant
    rw [w2, if_neg (show ¬ ((0 : Int) = 0 ∧ 4 < l.length) from fun c => h4 c.2), if_neg (by decide), eI]
    by_cases c : (T.set I l).flatten.Nodup
    · rw [if_pos c, if_neg fun e => hdi.1 e c]
    · rw [if_neg c, if_pos (hdi.2 c)]
  by_cases hd : (T.set I l).flatten.Nodup
  case neg =>
    rw [if_neg hd] at hs hw
    exact err 8 (by decide) hs hw _
  rw [if_pos hd] at hs hw
  have hg1 := set_good hg hT hI hn h4' hd
  have hl1 : (T.set I l).length = 80 := by rw [List.length_set, hT]
  have hR1 := rep_half _ hl1
  have g1 : (T.set I l).getD I [] = l := by rw [getD_set _ _ _ _ (by omega), if_pos rfl]
  have hs2 := setV_ok hR1 hg1 hI hn h4'
  rw [List.set_set, if_pos hd] at hs2
  have k1 := capT_half (T.set I l) 0
  have k2 := capT_half (T.set I l) 40
  have m1 := Le.frW (P := Try.prog) (halfT (T.set I l) 0)
  have m2 := Le.frW (P := Try.prog) (halfT (T.set I l) 40)
  have d1 := df_rep hR1 hg1 k1 k2
  have a1 : AtO (stkW (halfT (T.set I l) 0)) (stkW (halfT (T.set I l) 40)) (ndB (I : Int)) (ndN (I : Int)) l := fun cf cb => by
    have := ndlAt_v (ndB (I : Int)) (ndN (I : Int)) (some cf) (some cb) (stkW (halfT (T.set I l) 0)) (stkW (halfT (T.set I l) 40)) (ndV_nat hI) (fun s hs => by have := hR1.len hg1 s (.inl hs); omega) (fun s hs => by have := hR1.len hg1 s (.inr hs); omega)
    rwa [stk_nat hR1 hI, g1] at this
  have hsm : SmO (stkW (halfT (T.set I l) 0)) (stkW (halfT (T.set I l) 40)) (stkW (halfT (T.set I l) 0)) (stkW (halfT (T.set I l) 40)) true := fun a1 a2 a3 a4 => smok (some a1) (some a2) (some a3) (some a4) _ _ _ _ true (smok_nat hR1 hR1 hg1 (decide_eq_true rfl))
  have lr := fun (y : AV) hy => le_row (tb := T) (b := I) l (y := y) (by omega) hy
  generalize hU : T.set I l = U at *
  generalize halfT U 0 = X1 at *
  generalize halfT U 40 = Y1 at *
  refine .seq (Tri.less (sz5o_0 X.length Y.length F B (T.map SH) _ _ l X1 Y1 (so_of hl hs) (by rw [smap_FW, smap_FW])) (env2 := [(2, isl none l), (4, .box [ub (ndB (I : Int)), it (ndN (I : Int))]), (7, .box (T.map SH)), (8, .box [bsl (some X.length) F, bsl (some Y.length) B]), (9, .box [bsl (some X1.length) (stkW X1), bsl (some Y1.length) (stkW Y1)]), (10, it 0)]) ?_) ?_
  · exact .cons ⟨rfl, rfl, Le.refl _⟩ (.cons ⟨rfl, rfl, Le.refl _⟩ (.cons ⟨rfl, rfl, Le.refl _⟩ (.cons ⟨rfl, rfl, Le.refl _⟩ (.cons ⟨rfl, rfl, Le.box (.cons m1 (.cons m2 .nil))⟩ (.cons ⟨rfl, rfl, Le.refl _⟩ .nil)))))
  refine st_mid hR hg c1 c2 _ _ l hl _ hw ?_
  rw [eI]
  refine .seq (sz40o_0 _ _ _ _ _) ?_
  refine Tri.weak [(2, .keep), (4, .keep), (7, .keep), (9, .keep), (12, .keep)] ?_
  have q42 := sz42_0 T [ub (ndB (I : Int)), it (ndN (I : Int))] [bsl (some X1.length) (stkW X1), bsl (some Y1.length) (stkW Y1)] l I rfl (decide_eq_true ⟨rfl, (all_enc l).2⟩) (decide_eq_true ⟨rfl, by rw [List.length_map, List.length_map]; show 0 + l.length ≤ _; omega, by simp⟩) rfl (decide_eq_true (by omega)) (decide_eq_true ⟨rfl, by rw [List.length_map, Int.toNat_natCast]; omega⟩) (by simp only [Int.toNat_natCast, Nat.mul_one]; exact getD_SH (by omega))
  simp only [Int.toNat_natCast, Nat.mul_one] at q42
  refine .seq q42 ?_
  refine Tri.moreBox (r := 7) rfl (topNo (by intro p hp; simp only [List.mem_cons, List.not_mem_nil, or_false] at hp; rcases hp with rfl | rfl | rfl <;> rfl) 7) ?_
  rw [share_row]
  refine Tri.weak [(4, .keep), (7, .keep), (9, .keep)] ?_
  refine Tri.more (env2 := [(4, .box [ub (ndB (I : Int)), it (ndN (I : Int))]), (7, .box (U.map SH)), (9, .box [bsl (some X1.length) (stkW X1), bsl (some Y1.length) (stkW Y1)])]) ?_ (.cons ⟨rfl, rfl, Le.refl _⟩ (.cons ⟨rfl, rfl, lr _ (le_fr30 _ _)⟩ (.cons ⟨rfl, rfl, Le.refl _⟩ .nil)))
  rw [bedS_eq hl1]
  refine .seq (sz43_0 X1.length Y1.length _ _ _ _ d1 rfl) ?_
  refine Tri.weak [(4, .keep), (9, .keep)] ?_
  refine .seq (Tri.less (sz45_0 X1.length Y1.length _ _ _ _ l X1 Y1 a1 (so_of hl hs2) (decide_eq_true fun _ => ?_) (by rw [smap_FW, smap_FW])) (env2 := [(9, .box [bsl (some X1.length) (stkW X1), bsl (some Y1.length) (stkW Y1)]), (10, it 0), (19, .box [bsl (some X1.length) (stkW X1), bsl (some Y1.length) (stkW Y1)])]) ?_) ?_
  · have nf : ∀ (k : Nat) (x : List (List Idd)), (x.map FW).all (noAny (k + 3)) = true := fun k x => by
      rw [List.all_map, List.all_eq_true]
      intro l _
      show ((true && (l.map Idd.enc).all (noAny (k + 2))) : Bool) = true
      rw [Bool.true_and, List.all_map, List.all_eq_true]
      intro p _
      rfl
    show (((((true && (X1.map FW).all (noAny 9)) && ((true && (Y1.map FW).all (noAny 9)) && true)) : Bool) && _) : Bool) = true
    rw [nf 6, nf 6]; rfl
  · exact .cons ⟨rfl, rfl, Le.refl _⟩ (.cons ⟨rfl, rfl, Le.refl _⟩ (.cons ⟨rfl, rfl, Le.box (.cons m1 (.cons m2 .nil))⟩ .nil))
  exact .seq (sz46_0 X1.length Y1.length X1.length Y1.length _ _ _ _ hsm) .ret
end Tst
end

section
open Go Go.Lf Go.Proofs
namespace Tst
theorem F2.cons' {α β : Type} {R : α → β → Prop} {x : α} {l : List α} {m : List β} (h : F2 R (x :: l) m) : ∃ y m', m = y :: m' ∧ R x y ∧ F2 R l m' := by
  cases h with
  | cons h t => exact ⟨_, _, rfl, h, t⟩
theorem F2.nil' {α β : Type} {R : α → β → Prop} {m : List β} (h : F2 R [] m) : m = [] := by cases h; rfl
section
variable {P : Program} {t : TypeId} {ys : List AV}
theorem sh_int (m : Nat) {k : IntKind} (hu : P.underlying t = some (.int k)) (h : Shape P (m + 1) t ys) : ∃ i, ys = [.atom (.int k i)] ∧ (Lit.int k i).wf = true := by
  unfold Shape at h; rw [hu] at h; exact h
theorem sh_slice (m : Nat) {e : TypeId} (hu : P.underlying t = some (.slice e)) (h : Shape P (m + 1) t ys) : ∃ xs, ys = [.sl .any e none xs] ∧ xs.length ≤ maxLen ∧ ∀ x ∈ xs, ∃ cs, x = elOf P e cs ∧ cs.length = P.cellsOf e ∧ Shape P m e cs := by
  unfold Shape at h; rw [hu] at h; exact h
theorem sh_struct (m : Nat) {fs : Array Field} (hu : P.underlying t = some (.struct fs)) (h : Shape P (m + 1) t ys) : ∃ yss : List (List AV), ys = yss.flatten ∧ F2 (fun f cs => Shape P m f.type cs) fs.toList yss := by
  unfold Shape at h; rw [hu] at h; exact h
end
theorem choose_map {α : Type} (f : α → AV) (Q : α → Prop) : ∀ xs : List AV, (∀ x ∈ xs, ∃ a, x = f a ∧ Q a) → ∃ l : List α, xs = l.map f ∧ ∀ a ∈ l, Q a
  | [], _ => ⟨[], rfl, by simp⟩
  | x :: xs, h => by
    obtain ⟨a, rfl, ha⟩ := h x (by simp)
    obtain ⟨l, rfl, hl⟩ := choose_map f Q xs fun y hy => h y (by simp [hy])
    exact ⟨a :: l, rfl, by
      intro b hb
      rcases List.mem_cons.1 hb with rfl | hb
      · exact ha
      · exact hl b hb⟩
def U8 (x : Int) : Prop := 0 ≤ x ∧ x ≤ 255
def I64 (x : Int) : Prop := -9223372036854775808 ≤ x ∧ x ≤ 9223372036854775807
theorem u8_wf {i : Int} (h : (Lit.int .u8 i).wf = true) : U8 i := by
  simp only [Lit.wf, Bool.and_eq_true, decide_eq_true_eq] at h
  exact h
theorem i64_wf {i : Int} (h : (Lit.int .i64 i).wf = true) : I64 i := by
  simp only [Lit.wf, Bool.and_eq_true, decide_eq_true_eq] at h
  exact h
structure Ty3 (P : Program) : Prop where
  u3 : P.underlying 3 = some (.int .i64)
  u5 : P.underlying 5 = some (.int .u8)
  u52 : P.underlying 52 = some (.array 2 5)
  a52 : aggT P 52 = true
theorem tyP3 : Ty3 Try.prog := ⟨Try.underlying3, Try.underlying5, Try.underlying52, by kernel_rfl⟩
def Arg (P : Program) (t : TypeId) (x : AV) : Prop := ∃ ys, x = elOf P t ys ∧ Shape P 8 t ys ∧ ys.length = P.cellsOf t
theorem args3 {P : Program} {s t u : TypeId} {xs : List AV} (h : F2 (Arg P) [s, t, u] xs) : ∃ x y z, xs = [x, y, z] ∧ Arg P s x ∧ Arg P t y ∧ Arg P u z := by
  obtain ⟨x, _, rfl, h1, h⟩ := F2.cons' h
  obtain ⟨y, _, rfl, h2, h⟩ := F2.cons' h
  obtain ⟨z, _, rfl, h3, h⟩ := F2.cons' h
  obtain rfl := F2.nil' h
  exact ⟨x, y, z, rfl, h1, h2, h3⟩
end Tst
end

section
open Go Go.Lf Go.Proofs
namespace Tst
structure Ty4 (P : Program) : Prop where
  u58 : P.underlying 58 = some (.slice 87)
  u62 : P.underlying 62 = some (.slice 30)
  u66 : P.underlying 66 = some (.slice 62)
  u59 : P.underlying 59 = some (.int .u8)
  u87 : ∃ a b : Field, P.underlying 87 = some (.struct #[a, b]) ∧ a.type = 5 ∧ b.type = 5
  u61 : ∃ a b : Field, P.underlying 61 = some (.struct #[a, b]) ∧ a.type = 59 ∧ b.type = 3
  u30 : ∃ a b : Field, P.underlying 30 = some (.struct #[a, b]) ∧ a.type = 5 ∧ b.type = 3
  u68 : ∃ a b : Field, P.underlying 68 = some (.struct #[a, b]) ∧ a.type = 66 ∧ b.type = 66
  a87 : aggT P 87 = true
  a61 : aggT P 61 = true
  a30 : aggT P 30 = true
  a68 : aggT P 68 = true
  a58 : aggT P 58 = false
  a62 : aggT P 62 = false
  a66 : aggT P 66 = false
theorem tyP4 : Ty4 Try.prog := ⟨Try.underlying58, Try.underlying62, Try.underlying66, Try.underlying59, ⟨_, _, Try.underlying87, rfl, rfl⟩, ⟨_, _, Try.underlying61, rfl, rfl⟩, ⟨_, _, Try.underlying30, rfl, rfl⟩, ⟨_, _, Try.underlying68, rfl, rfl⟩,
  by kernel_rfl, by kernel_rfl, by kernel_rfl, by kernel_rfl, by kernel_rfl, by kernel_rfl, by kernel_rfl⟩
section
variable {P : Program} {m : Nat}
theorem pt_of (T : Ty3 P) (U : Ty4 P) {cs : List AV} (h : Shape P (m + 2) 87 cs) : ∃ p : Pt, cs = [ub p.a, ub p.m] ∧ U8 p.a ∧ U8 p.m := by
  obtain ⟨fa, fb, hu, ta, tb⟩ := U.u87
  obtain ⟨yss, rfl, hf⟩ := sh_struct (m + 1) hu h
  obtain ⟨c1, _, rfl, h1, hf⟩ := F2.cons' hf
  obtain ⟨c2, _, rfl, h2, hf⟩ := F2.cons' hf
  obtain rfl := F2.nil' hf
  rw [ta] at h1; rw [tb] at h2
  obtain ⟨y, rfl, w1⟩ := sh_int m T.u5 h1
  obtain ⟨n, rfl, w2⟩ := sh_int m T.u5 h2
  exact ⟨⟨y, n⟩, rfl, u8_wf w1, u8_wf w2⟩
theorem id_of (T : Ty3 P) (U : Ty4 P) {cs : List AV} (h : Shape P (m + 2) 30 cs) : ∃ p : Idd, cs = [ub p.y, it p.n] ∧ U8 p.y ∧ I64 p.n := by
  obtain ⟨fa, fb, hu, ta, tb⟩ := U.u30
  obtain ⟨yss, rfl, hf⟩ := sh_struct (m + 1) hu h
  obtain ⟨c1, _, rfl, h1, hf⟩ := F2.cons' hf
  obtain ⟨c2, _, rfl, h2, hf⟩ := F2.cons' hf
  obtain rfl := F2.nil' hf
  rw [ta] at h1; rw [tb] at h2
  obtain ⟨y, rfl, w1⟩ := sh_int m T.u5 h1
  obtain ⟨n, rfl, w2⟩ := sh_int m T.u3 h2
  exact ⟨⟨y, n⟩, rfl, u8_wf w1, i64_wf w2⟩
theorem nd_of (T : Ty3 P) (U : Ty4 P) {cs : List AV} (h : Shape P (m + 2) 61 cs) : ∃ d i, cs = [ub d, it i] ∧ U8 d ∧ I64 i := by
  obtain ⟨fa, fb, hu, ta, tb⟩ := U.u61
  obtain ⟨yss, rfl, hf⟩ := sh_struct (m + 1) hu h
  obtain ⟨c1, _, rfl, h1, hf⟩ := F2.cons' hf
  obtain ⟨c2, _, rfl, h2, hf⟩ := F2.cons' hf
  obtain rfl := F2.nil' hf
  rw [ta] at h1; rw [tb] at h2
  obtain ⟨y, rfl, w1⟩ := sh_int m U.u59 h1
  obtain ⟨n, rfl, w2⟩ := sh_int m T.u3 h2
  exact ⟨y, n, rfl, u8_wf w1, i64_wf w2⟩
theorem el_no {t : TypeId} (h : aggT P t = false) (x : AV) : elOf P t [x] = x := by unfold elOf; rw [if_neg (Bool.eq_false_iff.1 h)]; rfl
theorem list_of_id (T : Ty3 P) (U : Ty4 P) {ys : List AV} (h : Shape P (m + 3) 62 ys) : ∃ l : List Idd, ys = [isl none l] ∧ (∀ p ∈ l, U8 p.y ∧ I64 p.n) ∧ l.length ≤ maxLen := by
  obtain ⟨xs, rfl, hl, hx⟩ := sh_slice (m + 2) U.u62 h
  obtain ⟨a, rfl, ha⟩ := choose_map Idd.enc (fun p => U8 p.y ∧ I64 p.n) xs fun x hx' => by
    obtain ⟨cs, rfl, _, hc⟩ := hx x hx'
    obtain ⟨p, rfl, w⟩ := id_of (m := m) T U hc
    exact ⟨p, by unfold elOf; rw [if_pos U.a30]; rfl, w⟩
  exact ⟨a, rfl, ha, by simpa using hl⟩
end
section
variable {P : Program}
theorem arg58 (T : Ty3 P) (U : Ty4 P) {x : AV} (h : Arg P 58 x) : ∃ l : List Pt, x = psl none l ∧ (∀ p ∈ l, U8 p.a ∧ U8 p.m) ∧ l.length ≤ maxLen := by
  obtain ⟨ys, rfl, hs, _⟩ := h
  obtain ⟨xs, rfl, hl, hx⟩ := sh_slice 7 U.u58 hs
  obtain ⟨a, rfl, ha⟩ := choose_map Pt.enc (fun p => U8 p.a ∧ U8 p.m) xs fun x hx' => by
    obtain ⟨cs, rfl, _, hc⟩ := hx x hx'
    obtain ⟨p, rfl, w⟩ := pt_of (m := 5) T U hc
    exact ⟨p, by unfold elOf; rw [if_pos U.a87]; rfl, w⟩
  exact ⟨a, el_no U.a58 _, ha, by simpa using hl⟩
theorem arg61 (T : Ty3 P) (U : Ty4 P) {x : AV} (h : Arg P 61 x) : ∃ d i, x = ndl d i ∧ U8 d ∧ I64 i := by
  obtain ⟨ys, rfl, hs, _⟩ := h
  obtain ⟨d, i, rfl, h1, h2⟩ := nd_of (m := 6) T U hs
  exact ⟨d, i, by unfold elOf; rw [if_pos U.a61], h1, h2⟩
theorem arg62 (T : Ty3 P) (U : Ty4 P) {x : AV} (h : Arg P 62 x) : ∃ l : List Idd, x = isl none l ∧ (∀ p ∈ l, U8 p.y ∧ I64 p.n) ∧ l.length ≤ maxLen := by
  obtain ⟨ys, rfl, hs, _⟩ := h
  obtain ⟨l, rfl, h1, h2⟩ := list_of_id (m := 5) T U hs
  exact ⟨l, el_no U.a62 _, h1, h2⟩
end
end Tst
end

section
open Go Go.Lf Go.Proofs Tst
namespace Go.Proofs.Ytnaikfcmegkdpaa.stacksSet
theorem StacksSet_pure (xs : List AV) (h : F2 (fun t x => ∃ ys, x = elOf Try.prog t ys ∧ Shape Try.prog 8 t ys ∧ ys.length = Try.prog.cellsOf t) Try.f10.params.toList xs) : PureC Try.prog 10 xs (.atom (.bool true)) := by
  rw [Try.params10] at h
  obtain ⟨x, y, z, rfl, h1, h2, h3⟩ := args3 (P := Try.prog) h
  obtain ⟨l, rfl, hl, _⟩ := arg58 tyP3 tyP4 h1
  obtain ⟨d, i, rfl, hd, _⟩ := arg61 tyP3 tyP4 h2
  obtain ⟨m, rfl, _, _⟩ := arg62 tyP3 tyP4 h3
  exact law10_c l (fun q hq => ⟨(hl q hq).1.1, (hl q hq).2.1⟩) d i m
end Go.Proofs.Ytnaikfcmegkdpaa.stacksSet
end
