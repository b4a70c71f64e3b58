/- Part 8 of the evaluator and of the contracts that the claim uses. -/
import Derived.Test.YtnaikfcmegkdpaaStacksAtLAA
import Derived.Test.YtnaikfcmegkdpaaStacksAtLAB
import Derived.Test.YtnaikfcmegkdpaaStacksAtLAC
import Derived.Test.YtnaikfcmegkdpaaStacksAtLAD
import Derived.Test.YtnaikfcmegkdpaaStacksAtLAE
import Derived.Test.YtnaikfcmegkdpaaStacksAtLAF
import Derived.Test.YtnaikfcmegkdpaaStacksAtLAG
set_option linter.unusedVariables false
set_option linter.unusedSimpArgs false
set_option linter.constructorNameAsVariable false

section
open Go Go.Lf Go.Proofs
namespace Tst
set_option maxHeartbeats 0
theorem a0_0 (x : List Pt) (d i : Int) (p : Idd) : Tri Try.prog (cxN 104 0) (regAt Try.f9 0) ([(0, psl none x), (1, ndl d i), (2, .agg [ub p.y, it p.n])] ) (Ex.normal) ([(nat_lit 0, AV.sl Mode.any (nat_lit 87) none (List.map Pt.enc x)), (nat_lit 4, AV.box [AV.atom (Value.int IntKind.u8 d), AV.atom (Value.int IntKind.i64 i)]), (nat_lit 5, AV.box [AV.atom (Value.int IntKind.u8 (Idd.y p)), AV.atom (Value.int IntKind.i64 (Idd.n p))])]) :=
  evA_ok (H := h9) (ans := [Ans.c, Ans.c, Ans.c]) (ps := []) (ans' := []) (base 104 0) cxA_K.1 cxA_K.2 _ (by kernel_rfl)  allp_nil
theorem a1_0 (x : List Pt) (g : Nat → List Idd) (y4 y5 y6 : List AV) (hg : OfOk x g) : Tri Try.prog (cxN 104 0) (regAt Try.f9 1) ([(0, psl none x), (4, .box y4), (5, .box y5)] ) (Ex.normal) ([(nat_lit 4, AV.box y4), (nat_lit 5, AV.box y5), (nat_lit 7, AV.box (bed80F g))]) :=
  evA_ok (H := h9) (ans := [Ans.c, Ans.r (AV.sl Mode.any (nat_lit 87) none (List.map Pt.enc x)), Ans.r (AV.agg (bed80F g)), Ans.c, Ans.r (AV.agg (bed80F g)), Ans.c, Ans.c]) (ps := [view (AV.sl Mode.any (nat_lit 87) none (List.map Pt.enc x)) = AV.sl Mode.any (nat_lit 87) none (List.map Pt.enc x), PureC Try.prog (nat_lit 29) [AV.sl Mode.any (nat_lit 87) none (List.map Pt.enc x)] (AV.agg (bed80F g)), normR (AV.agg (bed80F g)) = AV.agg (bed80F g)]) (ans' := []) (base 104 0) cxA_K.1 cxA_K.2 _ (by kernel_rfl)  (allp (by first | exact view_ps _ _ _ | exact view_u8 _ _ _ | rfl | exact view_yn _ _ _ _ _ _ _ | exact view_id _ _ _ | exact view_stk _ _ _ | exact view_beds _ _ _ _ _ _ | exact view_pt _ _ _) (allp (by first | (apply ofok <;> (first | assumption | rfl | (simp at * <;> omega)))) (allp (by first | rfl | exact normR_bed80F _) allp_nil)))
theorem a2_0 (g : Nat → List Idd) (X Y : List (List Idd)) (y4 y5 y6 : List AV) (hg : BdOk g X Y) (g0 : AV.agg (bed80F g) = AV.agg (bed80F g)) (g1 : AV.agg [AV.sl Mode.fresh (nat_lit 62) (some (List.length X)) (List.map (mapE (remode shareM (10 : Nat))) (List.map FN X)), AV.sl Mode.fresh (nat_lit 62) (some (List.length Y)) (List.map (mapE (remode shareM (10 : Nat))) (List.map FN Y))] = AV.agg [AV.sl Mode.fresh (nat_lit 62) (some (List.length X)) (List.map FN X), AV.sl Mode.fresh (nat_lit 62) (some (List.length Y)) (List.map FN Y)]) : Tri Try.prog (cxN 104 0) (regAt Try.f9 2) ([(4, .box y4), (5, .box y5), (7, .box (bed80F g))] ) (Ex.normal) ([(nat_lit 4, AV.box y4), (nat_lit 5, AV.box y5), (nat_lit 7, AV.box (bed80F g)), (nat_lit 8, AV.box [AV.sl Mode.fresh (nat_lit 62) (some (List.length X)) (List.map FN X), AV.sl Mode.fresh (nat_lit 62) (some (List.length Y)) (List.map FN Y)])]) :=
  evA_ok (H := h9) (ans := [Ans.r (AV.agg (bed80F g)), Ans.r (AV.agg [AV.sl Mode.fresh (nat_lit 62) (some (List.length X)) (List.map FN X), AV.sl Mode.fresh (nat_lit 62) (some (List.length Y)) (List.map FN Y)]), Ans.c, Ans.r (AV.agg [AV.sl Mode.fresh (nat_lit 62) (some (List.length X)) (List.map FN X), AV.sl Mode.fresh (nat_lit 62) (some (List.length Y)) (List.map FN Y)]), Ans.c, Ans.c]) (ps := [AV.agg (bed80F g) = AV.agg (bed80F g), PureC Try.prog (nat_lit 30) [view (AV.agg (bed80F g))] (AV.agg [AV.sl Mode.fresh (nat_lit 62) (some (List.length X)) (List.map FN X), AV.sl Mode.fresh (nat_lit 62) (some (List.length Y)) (List.map FN Y)]), AV.agg [AV.sl Mode.fresh (nat_lit 62) (some (List.length X)) (List.map (mapE (remode shareM (10 : Nat))) (List.map FN X)), AV.sl Mode.fresh (nat_lit 62) (some (List.length Y)) (List.map (mapE (remode shareM (10 : Nat))) (List.map FN Y))] = AV.agg [AV.sl Mode.fresh (nat_lit 62) (some (List.length X)) (List.map FN X), AV.sl Mode.fresh (nat_lit 62) (some (List.length Y)) (List.map FN Y)]]) (ans' := []) (base 104 0) cxA_K.1 cxA_K.2 _ (by kernel_rfl)  (allp g0 (allp (by (first | rw [view_bed80F, view_frN] | rw [view_bed80F, view_beds] | rw [view_bedS, view_frN] | rw [view_bedS, view_frW] | rw [view_bedS, view_beds] | rw [view_bed80F] | rw [view_bedS]); first | (apply bdok <;> (first | assumption | rfl | (simp at * <;> omega)))) (allp g1 allp_nil)))
theorem a3_0 (cf cb : Nat) (F B : List Stk) (g : Nat → List Idd) (y4 y5 : List AV) (hc : ChOk F B 0) (hd : DfOk g cf cb F B 0) (g0 : AV.agg (bedS g) = AV.agg (bedS g)) : Tri Try.prog (cxN 104 0) (regAt Try.f9 3) ([(4, .box y4), (5, .box y5), (7, .box (bedS g)), (8, .box [bsl (some cf) F, bsl (some cb) B])] ) (Ex.normal) ([(nat_lit 4, AV.box y4), (nat_lit 5, AV.box y5), (nat_lit 7, AV.box (bedS g)), (nat_lit 8, AV.box [AV.sl Mode.any (nat_lit 62) (some cf) (List.map Stk.enc F), AV.sl Mode.any (nat_lit 62) (some cb) (List.map Stk.enc B)]), (nat_lit 29, AV.atom (Value.bool ((0 : Int) != (0 : Int))))]) :=
  evA_ok (H := h9) (ans := [Ans.c, Ans.r (AV.atom (Value.int IntKind.i64 (0 : Int))), Ans.c, Ans.c, Ans.c, Ans.c, Ans.c, Ans.r (AV.agg (bedS g)), Ans.c, Ans.c, Ans.c, Ans.r (AV.atom (Value.int IntKind.i64 (0 : Int))), Ans.c, Ans.c, Ans.c, Ans.c, Ans.c, Ans.c]) (ps := [PureC Try.prog (nat_lit 31) [view (AV.agg [AV.sl Mode.any (nat_lit 62) (some cf) (List.map Stk.enc F), AV.sl Mode.any (nat_lit 62) (some cb) (List.map Stk.enc B)])] (AV.atom (Value.int IntKind.i64 (0 : Int))), AV.agg (bedS g) = AV.agg (bedS g), PureC Try.prog (nat_lit 32) [view (AV.agg (bedS g)), view (AV.agg [AV.sl Mode.any (nat_lit 62) (some cf) (List.map Stk.enc F), AV.sl Mode.any (nat_lit 62) (some cb) (List.map Stk.enc B)])] (AV.atom (Value.int IntKind.i64 (0 : Int)))]) (ans' := []) (base 104 0) cxA_K.1 cxA_K.2 _ (by kernel_rfl)  (allp (by (first | rw [view_frW, view_frN] | rw [view_yn] | rw [view_two] | rw [view_twoI] | rw [view_beds] | rw [view_frW] | rw [view_frN] | rw [view_twoF] | skip); first | (apply chok <;> (first | assumption | rfl | (simp at * <;> omega))) | (apply dfok <;> (first | assumption | rfl | (simp at * <;> omega)))) (allp g0 (allp (by (first | rw [view_bed80F, view_frN] | rw [view_bed80F, view_beds] | rw [view_bedS, view_frN] | rw [view_bedS, view_frW] | rw [view_bedS, view_beds] | rw [view_bed80F] | rw [view_bedS]); first | (apply chok <;> (first | assumption | rfl | (simp at * <;> omega))) | (apply dfok <;> (first | assumption | rfl | (simp at * <;> omega)))) allp_nil)))
theorem a5_0 (cf cb : Nat) (F B : List Stk) (y7 y5 : List AV) (d i : Int) (ha : AtNo F B d i) (g0 : decide ((1 : Int) < d) = true) : Tri Try.prog (cxN 104 0) (codeAt Try.f9 5) ([(4, .box [ub d, it i]), (5, .box y5), (7, .box y7), (8, .box [bsl (some cf) F, bsl (some cb) B])] ) (Ex.normal) ([(nat_lit 5, AV.box y5), (nat_lit 7, AV.box y7), (nat_lit 8, AV.box [AV.sl Mode.any (nat_lit 62) (some cf) (List.map Stk.enc F), AV.sl Mode.any (nat_lit 62) (some cb) (List.map Stk.enc B)]), (nat_lit 47, AV.atom (Value.bool ((↑((0 : Nat)) : Int) != (0 : Int))))]) :=
  evA_ok (H := h9) (ans := [Ans.c, Ans.c, Ans.c, Ans.c, Ans.c, Ans.c, Ans.b true, Ans.c, Ans.b true, Ans.c, Ans.b true, Ans.c, Ans.b true, Ans.c, Ans.c, Ans.c, Ans.c, Ans.c, Ans.c, Ans.c, Ans.c, Ans.c, Ans.c, Ans.c, Ans.c, Ans.c, Ans.r (AV.atom (Value.slice none (nat_lit 0) (nat_lit 0))), Ans.c, Ans.c, Ans.c, Ans.c, Ans.c]) (ps := [decide ((1 : Int) < d) = true, decide ((1 : Int) < d) = true, decide ((1 : Int) < d) = true, decide ((1 : Int) < d) = true, PureC Try.prog (nat_lit 33) [view (AV.agg [AV.sl Mode.any (nat_lit 62) (some cf) (List.map Stk.enc F), AV.sl Mode.any (nat_lit 62) (some cb) (List.map Stk.enc B)]), AV.agg [AV.atom (Value.int IntKind.u8 d), AV.atom (Value.int IntKind.i64 i)]] (AV.atom (Value.slice none (nat_lit 0) (nat_lit 0)))]) (ans' := []) (base 104 0) cxA_K.1 cxA_K.2 _ (by kernel_rfl)  (allp g0 (allp g0 (allp g0 (allp g0 (allp (by (first | rw [view_frW, view_frN] | rw [view_yn] | rw [view_two] | rw [view_twoI] | rw [view_beds] | rw [view_frW] | rw [view_frN] | rw [view_twoF] | skip); first | (apply atno <;> (first | assumption | rfl | (simp at * <;> omega)))) allp_nil)))))
theorem a5_1 (cf cb : Nat) (F B : List Stk) (y7 y5 : List AV) (d i : Int) (ha : AtNo F B d i) (g0 : decide ((1 : Int) < d) = false) (g1 : decide (i < (1 : Int)) = true) : Tri Try.prog (cxN 104 0) (codeAt Try.f9 5) ([(4, .box [ub d, it i]), (5, .box y5), (7, .box y7), (8, .box [bsl (some cf) F, bsl (some cb) B])] ) (Ex.normal) ([(nat_lit 5, AV.box y5), (nat_lit 7, AV.box y7), (nat_lit 8, AV.box [AV.sl Mode.any (nat_lit 62) (some cf) (List.map Stk.enc F), AV.sl Mode.any (nat_lit 62) (some cb) (List.map Stk.enc B)]), (nat_lit 47, AV.atom (Value.bool ((↑((0 : Nat)) : Int) != (0 : Int))))]) :=
  evA_ok (H := h9) (ans := [Ans.c, Ans.c, Ans.c, Ans.c, Ans.c, Ans.c, Ans.b false, Ans.c, Ans.b false, Ans.c, Ans.c, Ans.c, Ans.b false, Ans.c, Ans.b false, Ans.c, Ans.c, Ans.b true, Ans.c, Ans.b true, Ans.c, Ans.b true, Ans.c, Ans.b true, Ans.c, Ans.c, Ans.c, Ans.c, Ans.r (AV.atom (Value.slice none (nat_lit 0) (nat_lit 0))), Ans.c, Ans.c, Ans.c, Ans.c, Ans.c]) (ps := [decide ((1 : Int) < d) = false, decide ((1 : Int) < d) = false, decide ((1 : Int) < d) = false, decide ((1 : Int) < d) = false, decide (i < (1 : Int)) = true, decide (i < (1 : Int)) = true, decide (i < (1 : Int)) = true, decide (i < (1 : Int)) = true, PureC Try.prog (nat_lit 33) [view (AV.agg [AV.sl Mode.any (nat_lit 62) (some cf) (List.map Stk.enc F), AV.sl Mode.any (nat_lit 62) (some cb) (List.map Stk.enc B)]), AV.agg [AV.atom (Value.int IntKind.u8 d), AV.atom (Value.int IntKind.i64 i)]] (AV.atom (Value.slice none (nat_lit 0) (nat_lit 0)))]) (ans' := []) (base 104 0) cxA_K.1 cxA_K.2 _ (by kernel_rfl)  (allp g0 (allp g0 (allp g0 (allp g0 (allp g1 (allp g1 (allp g1 (allp g1 (allp (by (first | rw [view_frW, view_frN] | rw [view_yn] | rw [view_two] | rw [view_twoI] | rw [view_beds] | rw [view_frW] | rw [view_frN] | rw [view_twoF] | skip); first | (apply atno <;> (first | assumption | rfl | (simp at * <;> omega)))) allp_nil)))))))))
theorem a5_2 (cf cb : Nat) (F B : List Stk) (y7 y5 : List AV) (d i : Int) (ha : AtNo F B d i) (g0 : decide ((1 : Int) < d) = false) (g1 : decide (i < (1 : Int)) = false) (g2 : decide ((40 : Int) < i) = true) : Tri Try.prog (cxN 104 0) (codeAt Try.f9 5) ([(4, .box [ub d, it i]), (5, .box y5), (7, .box y7), (8, .box [bsl (some cf) F, bsl (some cb) B])] ) (Ex.normal) ([(nat_lit 5, AV.box y5), (nat_lit 7, AV.box y7), (nat_lit 8, AV.box [AV.sl Mode.any (nat_lit 62) (some cf) (List.map Stk.enc F), AV.sl Mode.any (nat_lit 62) (some cb) (List.map Stk.enc B)]), (nat_lit 47, AV.atom (Value.bool ((↑((0 : Nat)) : Int) != (0 : Int))))]) :=
  evA_ok (H := h9) (ans := [Ans.c, Ans.c, Ans.c, Ans.c, Ans.c, Ans.c, Ans.b false, Ans.c, Ans.b false, Ans.c, Ans.c, Ans.c, Ans.b false, Ans.c, Ans.b false, Ans.c, Ans.c, Ans.b false, Ans.c, Ans.b false, Ans.c, Ans.c, Ans.c, Ans.b false, Ans.c, Ans.b false, Ans.c, Ans.b true, Ans.c, Ans.c, Ans.r (AV.atom (Value.slice none (nat_lit 0) (nat_lit 0))), Ans.c, Ans.c, Ans.c, Ans.c, Ans.c]) (ps := [decide ((1 : Int) < d) = false, decide ((1 : Int) < d) = false, decide ((1 : Int) < d) = false, decide ((1 : Int) < d) = false, decide (i < (1 : Int)) = false, decide (i < (1 : Int)) = false, decide (i < (1 : Int)) = false, decide (i < (1 : Int)) = false, decide ((40 : Int) < i) = true, PureC Try.prog (nat_lit 33) [view (AV.agg [AV.sl Mode.any (nat_lit 62) (some cf) (List.map Stk.enc F), AV.sl Mode.any (nat_lit 62) (some cb) (List.map Stk.enc B)]), AV.agg [AV.atom (Value.int IntKind.u8 d), AV.atom (Value.int IntKind.i64 i)]] (AV.atom (Value.slice none (nat_lit 0) (nat_lit 0)))]) (ans' := []) (base 104 0) cxA_K.1 cxA_K.2 _ (by kernel_rfl)  (allp g0 (allp g0 (allp g0 (allp g0 (allp g1 (allp g1 (allp g1 (allp g1 (allp g2 (allp (by (first | rw [view_frW, view_frN] | rw [view_yn] | rw [view_two] | rw [view_twoI] | rw [view_beds] | rw [view_frW] | rw [view_frN] | rw [view_twoF] | skip); first | (apply atno <;> (first | assumption | rfl | (simp at * <;> omega)))) allp_nil))))))))))
theorem av_0 (y8 y7 y5 : List AV) (d i : Int) (q1 : decide ((1 : Int) < d) = false) (q2 : decide (i < (1 : Int)) = false) (q3 : decide ((40 : Int) < i) = false) (g0 : decide ((1 : Int) < d) = false) (g1 : decide (i < (1 : Int)) = false) (g2 : decide ((40 : Int) < i) = false) : Tri Try.prog (cxN 104 0) (codeAt Try.f9 5) ([(4, .box [ub d, it i]), (5, .box y5), (7, .box y7), (8, .box y8)] ) (Ex.normal) ([(nat_lit 4, AV.box [AV.atom (Value.int IntKind.u8 d), AV.atom (Value.int IntKind.i64 i)]), (nat_lit 5, AV.box y5), (nat_lit 7, AV.box y7), (nat_lit 8, AV.box y8), (nat_lit 42, AV.atom (Value.bool (decide ((40 : Int) < i))))]) :=
  evA_ok (H := h9) (ans := [Ans.c, Ans.c, Ans.c, Ans.c, Ans.c, Ans.c, Ans.b false, Ans.c, Ans.b false, Ans.c, Ans.c, Ans.c, Ans.b false, Ans.c, Ans.b false, Ans.c, Ans.c, Ans.b false, Ans.c, Ans.b false, Ans.c, Ans.c, Ans.c, Ans.b false, Ans.c, Ans.b false, Ans.c, Ans.b false]) (ps := [decide ((1 : Int) < d) = false, decide ((1 : Int) < d) = false, decide ((1 : Int) < d) = false, decide ((1 : Int) < d) = false, decide (i < (1 : Int)) = false, decide (i < (1 : Int)) = false, decide (i < (1 : Int)) = false, decide (i < (1 : Int)) = false, decide ((40 : Int) < i) = false]) (ans' := []) (base 104 0) cxA_K.1 cxA_K.2 _ (by kernel_rfl)  (allp g0 (allp g0 (allp g0 (allp g0 (allp g1 (allp g1 (allp g1 (allp g1 (allp g2 allp_nil)))))))))
theorem a8_0 (y5 y7 y8 : List AV) : Tri Try.prog (cxN 104 0) (regAt Try.f9 8) ([(5, .box y5), (7, .box y7), (8, .box y8)] ) (Ex.normal) ([(nat_lit 5, AV.box y5), (nat_lit 7, AV.box y7), (nat_lit 8, AV.box y8), (nat_lit 9, AV.atom (Value.int IntKind.i64 (0 : Int)))]) :=
  evA_ok (H := h9) (ans := [Ans.c]) (ps := []) (ans' := []) (base 104 0) cxA_K.1 cxA_K.2 _ (by kernel_rfl)  allp_nil
theorem a9_0 (y5 y7 y8 : List AV) : Tri Try.prog (cxN 104 0) (regAt Try.f9 9) ([(5, .box y5), (7, .box y7), (8, .box y8), (9, it 0)] ) (Ex.normal) ([(nat_lit 5, AV.box y5), (nat_lit 7, AV.box y7), (nat_lit 8, AV.box y8), (nat_lit 9, AV.atom (Value.int IntKind.i64 (0 : Int))), (nat_lit 10, AV.box [AV.atom (Value.int IntKind.u8 (0 : Int)), AV.atom (Value.int IntKind.i64 (0 : Int))])]) :=
  evA_ok (H := h9) (ans := [Ans.c]) (ps := []) (ans' := []) (base 104 0) cxA_K.1 cxA_K.2 _ (by kernel_rfl)  allp_nil
theorem a10_0 (y5 y7 y8 : List AV) : Tri Try.prog (cxN 104 0) (regAt Try.f9 10) ([(5, .box y5), (7, .box y7), (8, .box y8), (9, it 0), (10, .box [ub 0, it 0])] ) (Ex.normal) ([(nat_lit 5, AV.box y5), (nat_lit 7, AV.box y7), (nat_lit 8, AV.box y8), (nat_lit 9, AV.atom (Value.int IntKind.i64 (0 : Int))), (nat_lit 10, AV.box [AV.atom (Value.int IntKind.u8 (0 : Int)), AV.atom (Value.int IntKind.i64 (0 : Int))]), (nat_lit 11, AV.atom (Value.int IntKind.i64 (0 : Int)))]) :=
  evA_ok (H := h9) (ans := [Ans.c]) (ps := []) (ans' := []) (base 104 0) cxA_K.1 cxA_K.2 _ (by kernel_rfl)  allp_nil
theorem a11_0 (y5 y7 y8 : List AV) : Tri Try.prog (cxN 104 0) (regAt Try.f9 11) ([(5, .box y5), (7, .box y7), (8, .box y8), (9, it 0), (10, .box [ub 0, it 0]), (11, it 0)] ) (Ex.normal) ([(nat_lit 5, AV.box y5), (nat_lit 7, AV.box y7), (nat_lit 8, AV.box y8), (nat_lit 9, AV.atom (Value.int IntKind.i64 (0 : Int))), (nat_lit 10, AV.box [AV.atom (Value.int IntKind.u8 (0 : Int)), AV.atom (Value.int IntKind.i64 (0 : Int))]), (nat_lit 11, AV.atom (Value.int IntKind.i64 (0 : Int))), (nat_lit 12, AV.atom (Value.int IntKind.i64 (0 : Int)))]) :=
  evA_ok (H := h9) (ans := [Ans.c]) (ps := []) (ans' := []) (base 104 0) cxA_K.1 cxA_K.2 _ (by kernel_rfl)  allp_nil
theorem ai_0 (p : Idd) (tb : List (List Idd)) (y8 : List AV) (d i m f j k : Int) (g0 : decide ((0 : Int) ≤ j ∧ j < (↑(80 : Nat) : Int) ∧ (0 : Nat) < (1 : Nat)) = true) (g1 : decide ((0 : Nat) = (0 : Nat) ∧ Int.toNat j * (1 : Nat) < List.length (List.map SH tb)) = true) (g2 : List.getD (List.map SH tb) (Int.toNat j * (1 : Nat)) AV.bad = SH (List.getD tb (Int.toNat j * (1 : Nat)) default)) (g3 : decide (k < (↑(List.length (List.map Idd.enc (List.getD tb (Int.toNat j * (1 : Nat)) default))) : Int)) = true) (g4 : decide ((0 : Int) ≤ k ∧ k < (↑(List.length (List.map Idd.enc (List.getD tb (Int.toNat j * (1 : Nat)) default))) : Int)) = true) (g5 : List.getD (List.map Idd.enc (List.getD tb (Int.toNat j * (1 : Nat)) default)) (Int.toNat k) AV.bad = Idd.enc (List.getD (List.getD tb (Int.toNat j * (1 : Nat)) default) (Int.toNat k) default)) (g6 : (Idd.y (List.getD (List.getD tb (Int.toNat j * (1 : Nat)) default) (Int.toNat k) default) == Idd.y p && Idd.n (List.getD (List.getD tb (Int.toNat j * (1 : Nat)) default) (Int.toNat k) default) == Idd.n p) = true) : Tri Try.prog (cxN 104 0) (loopBody Try.f9 1) ([(5, .box [ub p.y, it p.n]), (7, .box (tb.map SH)), (8, .box y8), (9, it m), (10, .box [ub d, it i]), (11, it f), (12, it j), (13, it k)] ) (Ex.normal) ([(nat_lit 5, AV.box [AV.atom (Value.int IntKind.u8 (Idd.y p)), AV.atom (Value.int IntKind.i64 (Idd.n p))]), (nat_lit 7, AV.box (List.map SH tb)), (nat_lit 8, AV.box y8), (nat_lit 9, AV.atom (Value.int IntKind.i64 m)), (nat_lit 10, AV.box [AV.atom (Value.int IntKind.u8 (ndB (IntKind.wrap IntKind.u8 j))), AV.atom (Value.int IntKind.i64 (ndN (IntKind.wrap IntKind.u8 j)))]), (nat_lit 11, AV.atom (Value.int IntKind.i64 (IntKind.wrap IntKind.i64 (f + (1 : Int))))), (nat_lit 12, AV.atom (Value.int IntKind.i64 j)), (nat_lit 13, AV.atom (Value.int IntKind.i64 (IntKind.wrap IntKind.i64 (k + (1 : Int)))))]) :=
  evA_ok (H := h9) (ans := [Ans.c, Ans.c, Ans.b true, Ans.c, Ans.b true, Ans.r (SH (List.getD tb (Int.toNat j * (1 : Nat)) default)), Ans.c, Ans.c, Ans.c, Ans.b true, Ans.c, Ans.b true, Ans.c, Ans.b true, Ans.r (SH (List.getD tb (Int.toNat j * (1 : Nat)) default)), Ans.c, Ans.c, Ans.b true, Ans.r (Idd.enc (List.getD (List.getD tb (Int.toNat j * (1 : Nat)) default) (Int.toNat k) default)), Ans.c, Ans.c, Ans.c, Ans.c, Ans.b true, Ans.c, Ans.c, Ans.r (AV.agg [AV.atom (Value.int IntKind.u8 (ndB (IntKind.wrap IntKind.u8 j))), AV.atom (Value.int IntKind.i64 (ndN (IntKind.wrap IntKind.u8 j)))]), Ans.c, Ans.c, Ans.c, Ans.c, Ans.c, Ans.c, Ans.c, Ans.c, Ans.c]) (ps := [decide ((0 : Int) ≤ j ∧ j < (↑(80 : Nat) : Int) ∧ (0 : Nat) < (1 : Nat)) = true, decide ((0 : Nat) = (0 : Nat) ∧ Int.toNat j * (1 : Nat) < List.length (List.map SH tb)) = true, List.getD (List.map SH tb) (Int.toNat j * (1 : Nat)) AV.bad = SH (List.getD tb (Int.toNat j * (1 : Nat)) default), decide (k < (↑(List.length (List.map Idd.enc (List.getD tb (Int.toNat j * (1 : Nat)) default))) : Int)) = true, decide ((0 : Int) ≤ j ∧ j < (↑(80 : Nat) : Int) ∧ (0 : Nat) < (1 : Nat)) = true, decide ((0 : Nat) = (0 : Nat) ∧ Int.toNat j * (1 : Nat) < List.length (List.map SH tb)) = true, List.getD (List.map SH tb) (Int.toNat j * (1 : Nat)) AV.bad = SH (List.getD tb (Int.toNat j * (1 : Nat)) default), decide ((0 : Int) ≤ k ∧ k < (↑(List.length (List.map Idd.enc (List.getD tb (Int.toNat j * (1 : Nat)) default))) : Int)) = true, List.getD (List.map Idd.enc (List.getD tb (Int.toNat j * (1 : Nat)) default)) (Int.toNat k) AV.bad = Idd.enc (List.getD (List.getD tb (Int.toNat j * (1 : Nat)) default) (Int.toNat k) default), (Idd.y (List.getD (List.getD tb (Int.toNat j * (1 : Nat)) default) (Int.toNat k) default) == Idd.y p && Idd.n (List.getD (List.getD tb (Int.toNat j * (1 : Nat)) default) (Int.toNat k) default) == Idd.n p) = true, PureC Try.prog (nat_lit 34) [AV.atom (Value.int IntKind.u8 (IntKind.wrap IntKind.u8 j))] (AV.agg [AV.atom (Value.int IntKind.u8 (ndB (IntKind.wrap IntKind.u8 j))), AV.atom (Value.int IntKind.i64 (ndN (IntKind.wrap IntKind.u8 j)))])]) (ans' := []) (base 104 0) cxA_K.1 cxA_K.2 _ (by kernel_rfl)  (allp g0 (allp g1 (allp g2 (allp g3 (allp g0 (allp g1 (allp g2 (allp g4 (allp g5 (allp g6 (allp (by first | (apply nde_c <;> (first | assumption | rfl | (simp at * <;> omega)))) allp_nil)))))))))))
theorem ai_1 (p : Idd) (tb : List (List Idd)) (y8 : List AV) (d i m f j k : Int) (g0 : decide ((0 : Int) ≤ j ∧ j < (↑(80 : Nat) : Int) ∧ (0 : Nat) < (1 : Nat)) = true) (g1 : decide ((0 : Nat) = (0 : Nat) ∧ Int.toNat j * (1 : Nat) < List.length (List.map SH tb)) = true) (g2 : List.getD (List.map SH tb) (Int.toNat j * (1 : Nat)) AV.bad = SH (List.getD tb (Int.toNat j * (1 : Nat)) default)) (g3 : decide (k < (↑(List.length (List.map Idd.enc (List.getD tb (Int.toNat j * (1 : Nat)) default))) : Int)) = true) (g4 : decide ((0 : Int) ≤ k ∧ k < (↑(List.length (List.map Idd.enc (List.getD tb (Int.toNat j * (1 : Nat)) default))) : Int)) = true) (g5 : List.getD (List.map Idd.enc (List.getD tb (Int.toNat j * (1 : Nat)) default)) (Int.toNat k) AV.bad = Idd.enc (List.getD (List.getD tb (Int.toNat j * (1 : Nat)) default) (Int.toNat k) default)) (g6 : (Idd.y (List.getD (List.getD tb (Int.toNat j * (1 : Nat)) default) (Int.toNat k) default) == Idd.y p && Idd.n (List.getD (List.getD tb (Int.toNat j * (1 : Nat)) default) (Int.toNat k) default) == Idd.n p) = false) : Tri Try.prog (cxN 104 0) (loopBody Try.f9 1) ([(5, .box [ub p.y, it p.n]), (7, .box (tb.map SH)), (8, .box y8), (9, it m), (10, .box [ub d, it i]), (11, it f), (12, it j), (13, it k)] ) (Ex.normal) ([(nat_lit 5, AV.box [AV.atom (Value.int IntKind.u8 (Idd.y p)), AV.atom (Value.int IntKind.i64 (Idd.n p))]), (nat_lit 7, AV.box (List.map SH tb)), (nat_lit 8, AV.box y8), (nat_lit 9, AV.atom (Value.int IntKind.i64 m)), (nat_lit 10, AV.box [AV.atom (Value.int IntKind.u8 d), AV.atom (Value.int IntKind.i64 i)]), (nat_lit 11, AV.atom (Value.int IntKind.i64 f)), (nat_lit 12, AV.atom (Value.int IntKind.i64 j)), (nat_lit 13, AV.atom (Value.int IntKind.i64 (IntKind.wrap IntKind.i64 (k + (1 : Int)))))]) :=
  evA_ok (H := h9) (ans := [Ans.c, Ans.c, Ans.b true, Ans.c, Ans.b true, Ans.r (SH (List.getD tb (Int.toNat j * (1 : Nat)) default)), Ans.c, Ans.c, Ans.c, Ans.b true, Ans.c, Ans.b true, Ans.c, Ans.b true, Ans.r (SH (List.getD tb (Int.toNat j * (1 : Nat)) default)), Ans.c, Ans.c, Ans.b true, Ans.r (Idd.enc (List.getD (List.getD tb (Int.toNat j * (1 : Nat)) default) (Int.toNat k) default)), Ans.c, Ans.c, Ans.c, Ans.c, Ans.b false, Ans.c, Ans.c, Ans.c]) (ps := [decide ((0 : Int) ≤ j ∧ j < (↑(80 : Nat) : Int) ∧ (0 : Nat) < (1 : Nat)) = true, decide ((0 : Nat) = (0 : Nat) ∧ Int.toNat j * (1 : Nat) < List.length (List.map SH tb)) = true, List.getD (List.map SH tb) (Int.toNat j * (1 : Nat)) AV.bad = SH (List.getD tb (Int.toNat j * (1 : Nat)) default), decide (k < (↑(List.length (List.map Idd.enc (List.getD tb (Int.toNat j * (1 : Nat)) default))) : Int)) = true, decide ((0 : Int) ≤ j ∧ j < (↑(80 : Nat) : Int) ∧ (0 : Nat) < (1 : Nat)) = true, decide ((0 : Nat) = (0 : Nat) ∧ Int.toNat j * (1 : Nat) < List.length (List.map SH tb)) = true, List.getD (List.map SH tb) (Int.toNat j * (1 : Nat)) AV.bad = SH (List.getD tb (Int.toNat j * (1 : Nat)) default), decide ((0 : Int) ≤ k ∧ k < (↑(List.length (List.map Idd.enc (List.getD tb (Int.toNat j * (1 : Nat)) default))) : Int)) = true, List.getD (List.map Idd.enc (List.getD tb (Int.toNat j * (1 : Nat)) default)) (Int.toNat k) AV.bad = Idd.enc (List.getD (List.getD tb (Int.toNat j * (1 : Nat)) default) (Int.toNat k) default), (Idd.y (List.getD (List.getD tb (Int.toNat j * (1 : Nat)) default) (Int.toNat k) default) == Idd.y p && Idd.n (List.getD (List.getD tb (Int.toNat j * (1 : Nat)) default) (Int.toNat k) default) == Idd.n p) = false]) (ans' := []) (base 104 0) cxA_K.1 cxA_K.2 _ (by kernel_rfl)  (allp g0 (allp g1 (allp g2 (allp g3 (allp g0 (allp g1 (allp g2 (allp g4 (allp g5 (allp g6 allp_nil))))))))))
theorem ai_2 (p : Idd) (tb : List (List Idd)) (y8 : List AV) (d i m f j k : Int) (g0 : decide ((0 : Int) ≤ j ∧ j < (↑(80 : Nat) : Int) ∧ (0 : Nat) < (1 : Nat)) = true) (g1 : decide ((0 : Nat) = (0 : Nat) ∧ Int.toNat j * (1 : Nat) < List.length (List.map SH tb)) = true) (g2 : List.getD (List.map SH tb) (Int.toNat j * (1 : Nat)) AV.bad = SH (List.getD tb (Int.toNat j * (1 : Nat)) default)) (g3 : decide (k < (↑(List.length (List.map Idd.enc (List.getD tb (Int.toNat j * (1 : Nat)) default))) : Int)) = false) : Tri Try.prog (cxN 104 0) (loopBody Try.f9 1) ([(5, .box [ub p.y, it p.n]), (7, .box (tb.map SH)), (8, .box y8), (9, it m), (10, .box [ub d, it i]), (11, it f), (12, it j), (13, it k)] ) (Ex.exit (nat_lit 2)) ([(nat_lit 5, AV.box [AV.atom (Value.int IntKind.u8 (Idd.y p)), AV.atom (Value.int IntKind.i64 (Idd.n p))]), (nat_lit 7, AV.box (List.map SH tb)), (nat_lit 8, AV.box y8), (nat_lit 9, AV.atom (Value.int IntKind.i64 m)), (nat_lit 10, AV.box [AV.atom (Value.int IntKind.u8 d), AV.atom (Value.int IntKind.i64 i)]), (nat_lit 11, AV.atom (Value.int IntKind.i64 f)), (nat_lit 12, AV.atom (Value.int IntKind.i64 j)), (nat_lit 13, AV.atom (Value.int IntKind.i64 k)), (nat_lit 63, AV.atom (Value.bool (decide (k < (↑(List.length (List.map Idd.enc (List.getD tb (Int.toNat j * (1 : Nat)) default))) : Int)))))]) :=
  evA_ok (H := h9) (ans := [Ans.c, Ans.c, Ans.b true, Ans.c, Ans.b true, Ans.r (SH (List.getD tb (Int.toNat j * (1 : Nat)) default)), Ans.c, Ans.c, Ans.c, Ans.b false]) (ps := [decide ((0 : Int) ≤ j ∧ j < (↑(80 : Nat) : Int) ∧ (0 : Nat) < (1 : Nat)) = true, decide ((0 : Nat) = (0 : Nat) ∧ Int.toNat j * (1 : Nat) < List.length (List.map SH tb)) = true, List.getD (List.map SH tb) (Int.toNat j * (1 : Nat)) AV.bad = SH (List.getD tb (Int.toNat j * (1 : Nat)) default), decide (k < (↑(List.length (List.map Idd.enc (List.getD tb (Int.toNat j * (1 : Nat)) default))) : Int)) = false]) (ans' := []) (base 104 0) cxA_K.1 cxA_K.2 _ (by kernel_rfl)  (allp g0 (allp g1 (allp g2 (allp g3 allp_nil))))
theorem a12_0 (y5 y7 y8 y10 : List AV) (m f j : Int) : Tri Try.prog (cxN 104 0) (regAt Try.f9 12) ([(5, .box y5), (7, .box y7), (8, .box y8), (9, it m), (10, .box y10), (11, it f), (12, it j)] ) (Ex.normal) ([(nat_lit 5, AV.box y5), (nat_lit 7, AV.box y7), (nat_lit 8, AV.box y8), (nat_lit 9, AV.atom (Value.int IntKind.i64 m)), (nat_lit 10, AV.box y10), (nat_lit 11, AV.atom (Value.int IntKind.i64 f)), (nat_lit 12, AV.atom (Value.int IntKind.i64 j)), (nat_lit 49, AV.atom (Value.bool (decide (j < (80 : Int)))))]) :=
  evA_ok (H := h9) (ans := [Ans.c, Ans.c]) (ps := []) (ans' := []) (base 104 0) cxA_K.1 cxA_K.2 _ (by kernel_rfl)  allp_nil
theorem a13_0 (y5 y7 y8 y10 : List AV) (m f j : Int) : Tri Try.prog (cxN 104 0) (regAt Try.f9 13) ([(5, .box y5), (7, .box y7), (8, .box y8), (9, it m), (10, .box y10), (11, it f), (12, it j)] ) (Ex.normal) ([(nat_lit 5, AV.box y5), (nat_lit 7, AV.box y7), (nat_lit 8, AV.box y8), (nat_lit 9, AV.atom (Value.int IntKind.i64 m)), (nat_lit 10, AV.box y10), (nat_lit 11, AV.atom (Value.int IntKind.i64 f)), (nat_lit 12, AV.atom (Value.int IntKind.i64 (IntKind.wrap IntKind.i64 (j + (1 : Int)))))]) :=
  evA_ok (H := h9) (ans := [Ans.c, Ans.c, Ans.c]) (ps := []) (ans' := []) (base 104 0) cxA_K.1 cxA_K.2 _ (by kernel_rfl)  allp_nil
theorem a14_0 (tb : List (List Idd)) (y5 y8 y10 : List AV) (m f j : Int) (g0 : decide ((0 : Int) ≤ j ∧ j < (↑(80 : Nat) : Int) ∧ (0 : Nat) < (1 : Nat)) = true) (g1 : decide ((0 : Nat) = (0 : Nat) ∧ Int.toNat j * (1 : Nat) < List.length (List.map SH tb)) = true) (g2 : List.getD (List.map SH tb) (Int.toNat j * (1 : Nat)) AV.bad = SH (List.getD tb (Int.toNat j * (1 : Nat)) default)) : Tri Try.prog (cxN 104 0) (regAt Try.f9 14) ([(5, .box y5), (7, .box (tb.map SH)), (8, .box y8), (9, it m), (10, .box y10), (11, it f), (12, it j)] ) (Ex.normal) ([(nat_lit 5, AV.box y5), (nat_lit 7, AV.box (List.map SH tb)), (nat_lit 8, AV.box y8), (nat_lit 9, AV.atom (Value.int IntKind.i64 (IntKind.wrap IntKind.i64 (m + (↑(List.length (List.map Idd.enc (List.getD tb (Int.toNat j * (1 : Nat)) default))) : Int))))), (nat_lit 10, AV.box y10), (nat_lit 11, AV.atom (Value.int IntKind.i64 f)), (nat_lit 12, AV.atom (Value.int IntKind.i64 j))]) :=
  evA_ok (H := h9) (ans := [Ans.c, Ans.c, Ans.b true, Ans.c, Ans.b true, Ans.r (SH (List.getD tb (Int.toNat j * (1 : Nat)) default)), Ans.c, Ans.c, Ans.c, Ans.c]) (ps := [decide ((0 : Int) ≤ j ∧ j < (↑(80 : Nat) : Int) ∧ (0 : Nat) < (1 : Nat)) = true, decide ((0 : Nat) = (0 : Nat) ∧ Int.toNat j * (1 : Nat) < List.length (List.map SH tb)) = true, List.getD (List.map SH tb) (Int.toNat j * (1 : Nat)) AV.bad = SH (List.getD tb (Int.toNat j * (1 : Nat)) default)]) (ans' := []) (base 104 0) cxA_K.1 cxA_K.2 _ (by kernel_rfl)  (allp g0 (allp g1 (allp g2 allp_nil)))
theorem a15_0 (y5 y7 y8 y10 : List AV) (m f j : Int) : Tri Try.prog (cxN 104 0) (regAt Try.f9 15) ([(5, .box y5), (7, .box y7), (8, .box y8), (9, it m), (10, .box y10), (11, it f), (12, it j)] ) (Ex.normal) ([(nat_lit 5, AV.box y5), (nat_lit 7, AV.box y7), (nat_lit 8, AV.box y8), (nat_lit 9, AV.atom (Value.int IntKind.i64 m)), (nat_lit 10, AV.box y10), (nat_lit 11, AV.atom (Value.int IntKind.i64 f)), (nat_lit 12, AV.atom (Value.int IntKind.i64 j)), (nat_lit 13, AV.atom (Value.int IntKind.i64 (0 : Int)))]) :=
  evA_ok (H := h9) (ans := [Ans.c]) (ps := []) (ans' := []) (base 104 0) cxA_K.1 cxA_K.2 _ (by kernel_rfl)  allp_nil
theorem a21_0 (p : Idd) (cf cb : Nat) (F B : List Stk) (y10 : List AV) (m f d i e : Int) (hf : FdOk F B p d i e) : Tri Try.prog (cxN 104 0) (regAt Try.f9 21) ([(5, .box [ub p.y, it p.n]), (8, .box [bsl (some cf) F, bsl (some cb) B]), (9, it m), (10, .box y10), (11, it f)] ) (Ex.normal) ([(nat_lit 8, AV.box [AV.sl Mode.any (nat_lit 62) (some cf) (List.map Stk.enc F), AV.sl Mode.any (nat_lit 62) (some cb) (List.map Stk.enc B)]), (nat_lit 9, AV.atom (Value.int IntKind.i64 m)), (nat_lit 10, AV.box y10), (nat_lit 11, AV.atom (Value.int IntKind.i64 f)), (nat_lit 14, AV.box [AV.atom (Value.int IntKind.u8 d), AV.atom (Value.int IntKind.i64 i)]), (nat_lit 15, AV.atom (Value.int IntKind.i64 e))]) :=
  evA_ok (H := h9) (ans := [Ans.c, Ans.c, Ans.r (AV.tup [AV.agg [AV.atom (Value.int IntKind.u8 d), AV.atom (Value.int IntKind.i64 i)], AV.atom (Value.int IntKind.i64 e)]), Ans.c, Ans.c, Ans.c, Ans.c, Ans.c, Ans.c, Ans.c, Ans.c]) (ps := [PureC Try.prog (nat_lit 35) [view (AV.agg [AV.sl Mode.any (nat_lit 62) (some cf) (List.map Stk.enc F), AV.sl Mode.any (nat_lit 62) (some cb) (List.map Stk.enc B)]), AV.agg [AV.atom (Value.int IntKind.u8 (Idd.y p)), AV.atom (Value.int IntKind.i64 (Idd.n p))]] (AV.tup [AV.agg [AV.atom (Value.int IntKind.u8 d), AV.atom (Value.int IntKind.i64 i)], AV.atom (Value.int IntKind.i64 e)])]) (ans' := []) (base 104 0) cxA_K.1 cxA_K.2 _ (by kernel_rfl)  (allp (by (first | rw [view_frW, view_frN] | rw [view_yn] | rw [view_two] | rw [view_twoI] | rw [view_beds] | rw [view_frW] | rw [view_frN] | rw [view_twoF] | skip); first | (apply fdok <;> (first | assumption | rfl | (simp at * <;> omega)))) allp_nil)
theorem a22_0 (y8 y10 y14 : List AV) (m f e : Int) : Tri Try.prog (cxN 104 0) (regAt Try.f9 22) ([(8, .box y8), (9, it m), (10, .box y10), (11, it f), (14, .box y14), (15, it e)] ) (Ex.normal) ([(nat_lit 8, AV.box y8), (nat_lit 9, AV.atom (Value.int IntKind.i64 m)), (nat_lit 10, AV.box y10), (nat_lit 11, AV.atom (Value.int IntKind.i64 f)), (nat_lit 14, AV.box y14), (nat_lit 15, AV.atom (Value.int IntKind.i64 e)), (nat_lit 16, AV.atom (Value.int IntKind.i64 (0 : Int)))]) :=
  evA_ok (H := h9) (ans := [Ans.c]) (ps := []) (ans' := []) (base 104 0) cxA_K.1 cxA_K.2 _ (by kernel_rfl)  allp_nil
theorem a23_0 (y8 y10 y14 : List AV) (m f e : Int) (g0 : (f == (0 : Int)) = true) : Tri Try.prog (cxN 104 0) (codeAt Try.f9 23) ([(8, .box y8), (9, it m), (10, .box y10), (11, it f), (14, .box y14), (15, it e), (16, it 0)] ) (Ex.normal) ([(nat_lit 8, AV.box y8), (nat_lit 9, AV.atom (Value.int IntKind.i64 m)), (nat_lit 10, AV.box y10), (nat_lit 14, AV.box y14), (nat_lit 15, AV.atom (Value.int IntKind.i64 e)), (nat_lit 16, AV.atom (Value.int IntKind.i64 (7 : Int)))]) :=
  evA_ok (H := h9) (ans := [Ans.c, Ans.c, Ans.b true, Ans.c]) (ps := [(f == (0 : Int)) = true]) (ans' := []) (base 104 0) cxA_K.1 cxA_K.2 _ (by kernel_rfl)  (allp g0 allp_nil)
theorem a23_1 (y8 y10 y14 : List AV) (m f e : Int) (g0 : (f == (0 : Int)) = false) : Tri Try.prog (cxN 104 0) (codeAt Try.f9 23) ([(8, .box y8), (9, it m), (10, .box y10), (11, it f), (14, .box y14), (15, it e), (16, it 0)] ) (Ex.normal) ([(nat_lit 8, AV.box y8), (nat_lit 9, AV.atom (Value.int IntKind.i64 m)), (nat_lit 10, AV.box y10), (nat_lit 14, AV.box y14), (nat_lit 15, AV.atom (Value.int IntKind.i64 e)), (nat_lit 16, AV.atom (Value.int IntKind.i64 (0 : Int))), (nat_lit 86, AV.atom (Value.bool (f == (0 : Int))))]) :=
  evA_ok (H := h9) (ans := [Ans.c, Ans.c, Ans.b false]) (ps := [(f == (0 : Int)) = false]) (ans' := []) (base 104 0) cxA_K.1 cxA_K.2 _ (by kernel_rfl)  (allp g0 allp_nil)
theorem a25_0 (cf cb : Nat) (F B : List Stk) (m n e w d i d2 i2 : Int) (hc : CtOk F B n) (q1 : (e == w) = true) (q2 : (d == d2 && i == i2) = true) (q3 : (n == m) = true) (g0 : (e == w) = true) (g1 : (d == d2 && i == i2) = true) (g2 : (n == m) = true) : Tri Try.prog (cxN 104 0) (regAt Try.f9 25) ([(8, .box [bsl (some cf) F, bsl (some cb) B]), (9, it m), (10, .box [ub d2, it i2]), (14, .box [ub d, it i]), (15, it e), (16, it w)] ) (Ex.normal) ([(nat_lit 6, AV.atom (Value.bool true))]) :=
  evA_ok (H := h9) (ans := [Ans.c, Ans.c, Ans.c, Ans.c, Ans.b true, Ans.c, Ans.b true, Ans.c, Ans.b true, Ans.c, Ans.b true, Ans.c, Ans.c, Ans.b true, Ans.c, Ans.b true, Ans.r (AV.atom (Value.int IntKind.i64 n)), Ans.c, Ans.c, Ans.b true, Ans.c, Ans.b true, Ans.c, Ans.b true, Ans.c, Ans.c, Ans.b true, Ans.r (AV.atom (Value.bool true)), Ans.c, Ans.c, Ans.b true, Ans.c, Ans.c]) (ps := [(e == w) = true, (e == w) = true, (e == w) = true, (e == w) = true, (d == d2 && i == i2) = true, (d == d2 && i == i2) = true, PureC Try.prog (nat_lit 36) [view (AV.agg [AV.sl Mode.any (nat_lit 62) (some cf) (List.map Stk.enc F), AV.sl Mode.any (nat_lit 62) (some cb) (List.map Stk.enc B)])] (AV.atom (Value.int IntKind.i64 n)), (d == d2 && i == i2) = true, (d == d2 && i == i2) = true, (d == d2 && i == i2) = true, (n == m) = true, PureC Try.prog (nat_lit 37) [] (AV.atom (Value.bool true)), (n == m) = true]) (ans' := []) (base 104 0) cxA_K.1 cxA_K.2 _ (by kernel_rfl)  (allp g0 (allp g0 (allp g0 (allp g0 (allp g1 (allp g1 (allp (by (first | rw [view_frW, view_frN] | rw [view_yn] | rw [view_two] | rw [view_twoI] | rw [view_beds] | rw [view_frW] | rw [view_frN] | rw [view_twoF] | skip); first | (apply ctok <;> (first | assumption | rfl | (simp at * <;> omega))) | (apply lives <;> (first | assumption | rfl | (simp at * <;> omega)))) (allp g1 (allp g1 (allp g1 (allp g2 (allp (by first | (apply ctok <;> (first | assumption | rfl | (simp at * <;> omega))) | (apply lives <;> (first | assumption | rfl | (simp at * <;> omega)))) (allp g2 allp_nil)))))))))))))
end Tst
end

section
open Go Go.Lf Go.Proofs
namespace Tst
theorem le_tab (g : Nat → List Idd) : Le Try.prog (.box (bed80F g)) (.box (bedS g)) :=
  Le.box (F2.map2 (fun i => Le.toAny (by simp) rfl (fun _ h => h) (F2.rfl' _)) (List.range 80))
theorem le_fnE {P : Program} (l : List Idd) : Le P (FN l) (Stk.enc ⟨none, l⟩) := Le.toAny (by simp) rfl (fun _ h => h) (F2.rfl' _)
theorem le_frE {P : Program} (x : List (List Idd)) : Le P (frE x) (bsl (some x.length) (stkF x)) := by
  have e : (stkF x).map Stk.enc = x.map fun l => Stk.enc ⟨none, l⟩ := by unfold stkF; rw [List.map_map]; rfl
  show Le P (.sl .fresh 62 (some x.length) (x.map FN)) (.sl .any 62 (some x.length) ((stkF x).map Stk.enc))
  rw [e]
  refine Le.toAny (by simp) (by simp) (fun sz h y hy => ?_) ?_
  · obtain ⟨l, hl, rfl⟩ := List.mem_map.1 hy
    have := h (FN l) (List.mem_map.2 ⟨l, hl, rfl⟩)
    exact this
  · rw [flat_ones (fun y hy => by obtain ⟨l, _, rfl⟩ := List.mem_map.1 hy; rfl), flat_ones (fun y hy => by obtain ⟨l, _, rfl⟩ := List.mem_map.1 hy; rfl)]
    exact F2.map2 (fun l => le_fnE l) x
theorem smapFN (k : Nat) (x : List (List Idd)) : (x.map FN).map (mapE (remode shareM (k + 2))) = x.map FN := by
  rw [List.map_map]
  refine List.map_congr_left fun l _ => ?_
  show AV.sl .fresh 30 none ((l.map Idd.enc).map (mapE (remode shareM (k + 1)))) = _
  rw [map_re]; rfl
theorem lenF_last (tb : List (List Idd)) (o : Nat) : ∀ k a, lenF tb o k a = a ∨ (a = 0 ∧ ∃ i, lenF tb o k a = i + 1 ∧ 0 < (tb.getD (o + i) []).length)
  | 0, a => .inl rfl
  | k + 1, a => by
    show lenF tb o k (lenStep tb o k a) = a ∨ (a = 0 ∧ ∃ i, lenF tb o k (lenStep tb o k a) = i + 1 ∧ 0 < (tb.getD (o + i) []).length)
    unfold lenStep
    split
    · rename_i h
      rw [lenF_keep tb o k (k + 1) (by omega)]
      exact .inr ⟨h.1, k, rfl, h.2⟩
    · exact lenF_last tb o k a
theorem capT_bed (tb : List (List Idd)) (o : Nat) : capT (bedOfT tb o).length (stkF (bedOfT tb o)) = 0 := by
  unfold capT
  rw [if_neg]
  rintro (⟨h1, h2⟩ | h)
  · have hl : (stkF (bedOfT tb o)).length = lenF tb o 40 0 := by simp [stkF, bedOfT]
    rcases lenF_last tb o 40 0 with e | ⟨_, i, e, hi⟩
    · omega
    · have h3 : ((stkF (bedOfT tb o)).getD i default).l = tb.getD (o + i) [] := by
        unfold stkF bedOfT
        rw [List.map_map, List.getD_eq_getElem?_getD, List.getElem?_map, List.getElem?_range (by omega)]; rfl
      rw [hl, e, show i + 1 - 1 = i by omega, h3] at h2
      omega
  · exact h (by simp [stkF])
section
variable {F B : List Stk} {tb : List (List Idd)} (h : Rep F B tb)
include h
theorem nNes0 : ∀ k i, i + k = 80 → nNes tb F B k i = 0
  | 0, _, _ => rfl
  | k + 1, i, hi => by
    rw [nNes, nNes0 k (i + 1) (by omega)]
    unfold nNe
    rw [if_pos (h.at' i (by omega))]
variable (g : Good' tb)
include g
theorem df_rep {cf cb : Nat} (c1 : capT cf F = 0) (c2 : capT cb B = 0) : DfOk (fun i => tb.getD i []) cf cb F B 0 := by
  have hf := h.f
  have hb := h.b
  have := differs_c cf cb F B (fun s hs => by have := h.len g s (.inl hs); omega) (fun s hs => by have := h.len g s (.inr hs); omega) (by omega) (by omega) tb h.l g.s
  unfold diffT at this
  rw [nNes0 h 80 0 rfl, c1, c2] at this
  exact this
theorem ch_rep : ChOk F B 0 := fun cf cb => by
  have := chk_c (some cf) (some cb) F B
  rwa [h.chk g] at this
omit g in
theorem itms_nat {t : Int × Int × Stk} (ht : t ∈ itms F B) : ∃ j : Nat, j < 80 ∧ t.1 = ndB (j : Int) ∧ t.2.1 = ndN (j : Int) ∧ t.2.2.l = tb.getD j [] := by
  unfold itms at ht
  rcases List.mem_append.1 ht with ht | ht
  · obtain ⟨q, hq, rfl⟩ := List.mem_map.1 ht
    have hg := List.mem_zipIdx_iff_getElem?.1 hq
    obtain ⟨hl, hv⟩ := List.getElem?_eq_some_iff.1 hg
    have hl' := hl
    rw [List.length_take] at hl'
    refine ⟨q.2, by omega, ?_, ?_, ?_⟩
    · rw [ndB_nat (by omega), show q.2 / 40 = 0 by omega]; rfl
    · rw [ndN_nat (by omega), show q.2 % 40 = q.2 by omega]; rfl
    · rw [← h.at' q.2 (by omega)]
      unfold stkN
      rw [if_pos (by omega), show q.2 % 40 = q.2 by omega, stackOf_nat, if_pos (by omega), List.getD_eq_getElem?_getD, List.getElem?_eq_getElem (show q.2 < F.length by omega), ← hv, List.getElem_take]; rfl
  · obtain ⟨q, hq, rfl⟩ := List.mem_map.1 ht
    have hg := List.mem_zipIdx_iff_getElem?.1 hq
    obtain ⟨hl, hv⟩ := List.getElem?_eq_some_iff.1 hg
    have hl' := hl
    rw [List.length_take] at hl'
    refine ⟨40 + q.2, by omega, ?_, ?_, ?_⟩
    · rw [ndB_nat (by omega), show (40 + q.2) / 40 = 1 by omega]; rfl
    · rw [ndN_nat (by omega), show (40 + q.2) % 40 = q.2 by omega]; rfl
    · rw [← h.at' (40 + q.2) (by omega)]
      unfold stkN
      rw [if_neg (by omega), show (40 + q.2) % 40 = q.2 by omega, stackOf_nat, if_pos (by omega), List.getD_eq_getElem?_getD, List.getElem?_eq_getElem (show q.2 < B.length by omega), ← hv, List.getElem_take]; rfl
end
theorem mem_flat {tb : List (List Idd)} {j : Nat} {p : Idd} (h : p ∈ tb.getD j []) : p ∈ tb.flatten := by
  by_cases hj : j < tb.length
  · rw [List.getD_eq_getElem?_getD, List.getElem?_eq_getElem hj] at h
    exact List.mem_flatten.2 ⟨_, List.getElem_mem hj, h⟩
  · rw [List.getD_eq_getElem?_getD, List.getElem?_eq_none (by omega)] at h
    cases h
theorem flat_mem {tb : List (List Idd)} {p : Idd} (h : p ∈ tb.flatten) : ∃ j, j < tb.length ∧ p ∈ tb.getD j [] := by
  obtain ⟨l, hl, hp⟩ := List.mem_flatten.1 h
  obtain ⟨j, hj, rfl⟩ := List.mem_iff_getElem.1 hl
  exact ⟨j, hj, by rw [List.getD_eq_getElem?_getD, List.getElem?_eq_getElem hj]; exact hp⟩
theorem flat_uniq {tb : List (List Idd)} (hd : tb.flatten.Nodup) {i j : Nat} {p : Idd} (h1 : p ∈ tb.getD i []) (h2 : p ∈ tb.getD j []) : i = j := by
  by_cases hi : i < tb.length
  · by_cases e : i = j
    · exact e
    · have h3 := (get_perm tb i hi).nodup_iff.1 hd
      have h4 : p ∈ (tb.set i []).getD j [] := by rw [getD_set _ _ _ _ hi, if_neg (Ne.symm e)]; exact h2
      exact absurd rfl ((List.nodup_append.1 h3).2.2 p h1 p (mem_flat h4))
  · rw [List.getD_eq_getElem?_getD, List.getElem?_eq_none (by omega)] at h1
    cases h1
theorem total_all : ∀ l : List (Int × Int × Stk), total l = ((allI l).length : Nat)
  | [] => rfl
  | t :: l => by
    have := total_all l
    unfold total allI at *
    rw [List.map_cons, List.sum_cons, this, List.flatMap_cons, List.length_append]; omega
theorem flat_len : ∀ tb : List (List Idd), (∀ i, (tb.getD i []).length ≤ 4) → tb.flatten.length ≤ 4 * tb.length
  | [], _ => by simp
  | l :: tb, h => by
    have h0 := h 0
    have := flat_len tb fun i => by simpa using h (i + 1)
    rw [List.flatten_cons, List.length_append, List.length_cons]
    simp only [List.getD_cons_zero] at h0
    omega
section
variable {F B : List Stk} {tb : List (List Idd)} (h : Rep F B tb) (g : Good' tb)
include h g
theorem ct_rep : CtOk F B (tb.flatten.length : Nat) := fun cf cb => by
  have hl := flat_len tb g.s
  rw [h.l] at hl
  have e : total (itms F B) = ((tb.flatten.length : Nat) : Int) := by rw [total_all, h.all]
  have := cn_0 (some cf) (some cb) F B (by rw [e]; omega)
  rwa [e] at this
theorem it_len : ∀ t ∈ itms F B, t.2.2.l.length < 2 ^ 62 := fun t ht => by
  obtain ⟨j, _, _, _, e⟩ := itms_nat h ht
  have := g.s j
  rw [e]; omega
theorem fd_no {p : Idd} (hp : p ∉ tb.flatten) : FdOk F B p 0 0 7 := fun cf cb => fdn_0 (some cf) (some cb) F B p (it_len h g) fun t ht => by
  obtain ⟨j, _, _, _, e⟩ := itms_nat h ht
  rw [e]
  exact decide_eq_false fun c => hp (mem_flat c)
theorem fd_at {p : Idd} {j : Nat} (hj : p ∈ tb.getD j []) : FdOk F B p (ndB (j : Int)) (ndN (j : Int)) 0 := fun cf cb => by
  rcases split_first (fun t : Int × Int × Stk => decide (p ∈ t.2.2.l)) (itms F B) with hn | ⟨pre, x, post, e, h1, h2⟩
  · exfalso
    have : p ∈ allI (itms F B) := by rw [h.all]; exact mem_flat hj
    obtain ⟨t, ht, hp⟩ := List.mem_flatMap.1 this
    have := hn t ht
    simp at this
    exact this hp
  · obtain ⟨k, _, k1, k2, k3⟩ := itms_nat h (t := x) (by rw [e]; simp)
    have hk : k = j := flat_uniq g.d (by rw [← k3]; exact of_decide_eq_true h2) hj
    subst hk
    have := fdy_0 (some cf) (some cb) F B p (it_len h g) pre x post e h1 h2
    rwa [k1, k2] at this
end
def inW (p : Idd) (j : Nat) : List Idd → (Int × Int) × Nat → (Int × Int) × Nat
  | [], s => s
  | q :: l, s => inW p j l (if q = p then ((ndB (j : Int), ndN (j : Int)), s.2 + 1) else s)
def outW (p : Idd) : Nat → List (List Idd) → Nat × (Int × Int) × Nat → Nat × (Int × Int) × Nat
  | _, [], s => s
  | j, l :: r, s => outW p (j + 1) r (s.1 + l.length, inW p j l s.2)
theorem inW_le (p : Idd) (j : Nat) : ∀ (l : List Idd) (s : (Int × Int) × Nat), s.2 ≤ (inW p j l s).2 ∧ (inW p j l s).2 ≤ s.2 + l.length
  | [], s => by simp [inW]
  | q :: l, s => by
    have := inW_le p j l (if q = p then ((ndB (j : Int), ndN (j : Int)), s.2 + 1) else s)
    rw [inW, List.length_cons]
    split at this <;> rename_i c
    · rw [if_pos c]; exact ⟨by have := this.1; simp only at this; omega, by have := this.2; simp only at this; omega⟩
    · rw [if_neg c]; omega
theorem inW_no (p : Idd) (j : Nat) : ∀ (l : List Idd) (s : (Int × Int) × Nat), p ∉ l → inW p j l s = s
  | [], s, _ => rfl
  | q :: l, s, h => by
    rw [inW, if_neg fun e => h (by simp [e])]
    exact inW_no p j l s fun c => h (by simp [c])
theorem inW_yes (p : Idd) (j : Nat) : ∀ (l : List Idd) (s : (Int × Int) × Nat), p ∈ l → (inW p j l s).1 = (ndB (j : Int), ndN (j : Int)) ∧ s.2 < (inW p j l s).2
  | [], s, h => by cases h
  | q :: l, s, h => by
    rw [inW]
    have hle := inW_le p j l (if q = p then ((ndB (j : Int), ndN (j : Int)), s.2 + 1) else s)
    by_cases hl : p ∈ l
    · have := inW_yes p j l (if q = p then ((ndB (j : Int), ndN (j : Int)), s.2 + 1) else s) hl
      refine ⟨this.1, ?_⟩
      have h2 := this.2
      split at h2 <;> rename_i c
      · rw [if_pos c]; simp only at h2; omega
      · rw [if_neg c]; exact h2
    · rcases List.mem_cons.1 h with rfl | h
      · rw [if_pos rfl, inW_no _ j l _ hl]; exact ⟨rfl, by simp⟩
      · exact absurd h hl
theorem outW_app (p : Idd) : ∀ (a b : List (List Idd)) (j : Nat) (s : Nat × (Int × Int) × Nat), outW p j (a ++ b) s = outW p (j + a.length) b (outW p j a s)
  | [], b, j, s => rfl
  | l :: a, b, j, s => by
    rw [List.cons_append, outW, outW_app p a b (j + 1), List.length_cons, outW, show j + 1 + a.length = j + (a.length + 1) by omega]
theorem outW_len (p : Idd) : ∀ (r : List (List Idd)) (j : Nat) (s : Nat × (Int × Int) × Nat), (outW p j r s).1 = s.1 + r.flatten.length
  | [], j, s => by simp [outW]
  | l :: r, j, s => by
    rw [outW, outW_len p r, List.flatten_cons, List.length_append]; simp only; omega
theorem outW_no (p : Idd) : ∀ (r : List (List Idd)) (j : Nat) (s : Nat × (Int × Int) × Nat), p ∉ r.flatten → (outW p j r s).2 = s.2
  | [], j, s, _ => rfl
  | l :: r, j, s, h => by
    rw [List.flatten_cons, List.mem_append] at h
    rw [outW, outW_no p r _ _ fun c => h (.inr c), inW_no p j l _ fun c => h (.inl c)]
theorem outW_yes (p : Idd) {tb : List (List Idd)} (hd : tb.flatten.Nodup) {j : Nat} (hj : p ∈ tb.getD j []) (s : Nat × (Int × Int) × Nat) : (outW p 0 tb s).2.1 = (ndB (j : Int), ndN (j : Int)) ∧ 0 < (outW p 0 tb s).2.2 := by
  have hl : j < tb.length := by
    by_cases hl : j < tb.length
    · exact hl
    · rw [List.getD_eq_getElem?_getD, List.getElem?_eq_none (by omega)] at hj; cases hj
  have e : tb = tb.take j ++ tb.getD j [] :: tb.drop (j + 1) := by
    rw [List.getD_eq_getElem?_getD, List.getElem?_eq_getElem hl]
    exact (List.take_append_drop j tb).symm.trans (by rw [List.drop_eq_getElem_cons hl]; rfl)
  have hn : p ∉ (tb.drop (j + 1)).flatten := fun c => by
    obtain ⟨i, hi, hp⟩ := flat_mem c
    have hp2 : p ∈ tb.getD (j + 1 + i) [] := by
      rw [List.getD_eq_getElem?_getD, List.getElem?_drop] at hp
      rw [List.getD_eq_getElem?_getD]; exact hp
    have := flat_uniq hd hj hp2
    omega
  generalize hz : outW p 0 (tb.take j) s = z
  have h1 : outW p 0 tb s = outW p (j + 1) (tb.drop (j + 1)) (z.1 + (tb.getD j []).length, inW p j (tb.getD j []) z.2) := by
    have h2 := outW_app p (tb.take j) (tb.getD j [] :: tb.drop (j + 1)) 0 s
    rw [← e, hz, List.length_take, Nat.min_eq_left (by omega), Nat.zero_add, outW] at h2
    exact h2
  rw [h1, outW_no p _ _ _ hn]
  have := inW_yes p j (tb.getD j []) z.2 hj
  exact ⟨this.1, by have := this.2; simp only; omega⟩
end Tst
end

section
open Go Go.Lf Go.Proofs
namespace Tst
theorem at_body : Try.f9.body = some (.seq (regAt Try.f9 0) (.seq (regAt Try.f9 1) (.seq (regAt Try.f9 2) (.seq (.seq (regAt Try.f9 3) (.cond (.tmp 29) (.seq (regAt Try.f9 4) .ret) .skip)) (.seq (codeAt Try.f9 5) (.seq (regAt Try.f9 8) (.seq (regAt Try.f9 9) (.seq (regAt Try.f9 10) (.seq (.seq (regAt Try.f9 11) (.block 0 (.loop (loopBody Try.f9 0)))) (.seq (regAt Try.f9 21) (.seq (regAt Try.f9 22) (.seq (codeAt Try.f9 23) (.seq (regAt Try.f9 25) .ret))))))))))))) := by kernel_rfl
theorem at_l0 : loopBody Try.f9 0 = .seq (.seq (regAt Try.f9 12) (.cond (.tmp 49) .skip (.exit 0))) (.seq (.block 1 (.seq (regAt Try.f9 14) (.seq (regAt Try.f9 15) (.block 2 (.loop (loopBody Try.f9 1)))))) (regAt Try.f9 13)) := by kernel_rfl
abbrev waE (p : Idd) (tb : List (List Idd)) (y8 : List AV) (m : Nat) (s : (Int × Int) × Nat) (j : Nat) : Env := [(5, .box [ub p.y, it p.n]), (7, .box (tb.map SH)), (8, .box y8), (9, it m), (10, .box [ub s.1.1, it s.1.2]), (11, it s.2), (12, it j)]
theorem up64 {k : Nat} (h : k < 2 ^ 61) : IntKind.wrap IntKind.i64 ((k : Int) + 1) = ((k + 1 : Nat) : Int) := by rw [wrap_id' (by omega) (by omega)]; omega
theorem drop_cons {α : Type} (l : List α) {k : Nat} (h : k < l.length) (d : α) : l.drop k = l.getD k d :: l.drop (k + 1) := by
  rw [List.drop_eq_getElem_cons h, List.getD_eq_getElem?_getD, List.getElem?_eq_getElem h]; rfl
theorem id_eq (a b : Idd) : (a.y == b.y && a.n == b.n) = decide (a = b) := by
  cases a; cases b
  refine Bool.eq_iff_iff.2 ?_
  simp only [Bool.and_eq_true, beq_iff_eq, decide_eq_true_eq, Idd.mk.injEq]
section
variable (p : Idd) (tb : List (List Idd)) (y8 : List AV) (htb : tb.length = 80) (hs : ∀ i, (tb.getD i []).length ≤ 4)
include htb
theorem in_step (m : Nat) (s : (Int × Int) × Nat) {j k : Nat} (hj : j < 80) (hk : k < (tb.getD j []).length) (hl : (tb.getD j []).length ≤ 4) (hf : s.2 < 2 ^ 60) :
    Tri Try.prog (cxN 104 0) (loopBody Try.f9 1) (waE p tb y8 m s j ++ [(13, it k)]) .normal (waE p tb y8 m (if (tb.getD j []).getD k default = p then ((ndB (j : Int), ndN (j : Int)), s.2 + 1) else s) j ++ [(13, it ((k + 1 : Nat) : Int))]) := by
  have w1 : IntKind.wrap IntKind.i64 ((k : Int) + 1) = ((k + 1 : Nat) : Int) := up64 (by omega)
  have w2 : IntKind.wrap IntKind.i64 ((s.2 : Int) + 1) = ((s.2 + 1 : Nat) : Int) := up64 (by omega)
  have g3 : decide ((k : Int) < (((List.map Idd.enc (tb.getD j [])).length : Nat) : Int)) = true := decide_eq_true (by rw [List.length_map]; omega)
  have g4 : decide ((0 : Int) ≤ (k : Int) ∧ (k : Int) < (((List.map Idd.enc (tb.getD j [])).length : Nat) : Int)) = true := decide_eq_true (by rw [List.length_map]; omega)
  by_cases e : (tb.getD j []).getD k default = p
  · have q := ai_0 p tb y8 s.1.1 s.1.2 m s.2 j k
    simp only [Int.toNat_natCast, Nat.mul_one, w1, w2, wrap80 hj] at q
    rw [if_pos e]
    exact q (decide_eq_true (by omega)) (decide_eq_true ⟨trivial, by rw [List.length_map]; omega⟩) (getD_SH (by omega)) g3 g4 (getD_id hk) ((id_eq _ _).trans (decide_eq_true e))
  · have q := ai_1 p tb y8 s.1.1 s.1.2 m s.2 j k
    simp only [Int.toNat_natCast, Nat.mul_one, w1, wrap80 hj] at q
    rw [if_neg e]
    exact q (decide_eq_true (by omega)) (decide_eq_true ⟨trivial, by rw [List.length_map]; omega⟩) (getD_SH (by omega)) g3 g4 (getD_id hk) ((id_eq _ _).trans (decide_eq_false e))
theorem in_rnd (m : Nat) {j : Nat} (hj : j < 80) (hl : (tb.getD j []).length ≤ 4) : ∀ (n k : Nat) (s : (Int × Int) × Nat), k + n = (tb.getD j []).length → s.2 + n < 2 ^ 60 →
    Rnd Try.prog (cxN 104 0) (loopBody Try.f9 1) (n + 1) (waE p tb y8 m s j ++ [(13, it k)]) (.exit 2) (waE p tb y8 m (inW p j ((tb.getD j []).drop k) s) j) := by
  intro n
  induction n with
  | zero =>
    intro k s hk hf
    have q := ai_2 p tb y8 s.1.1 s.1.2 m s.2 j k
    simp only [Int.toNat_natCast, Nat.mul_one] at q
    rw [List.drop_eq_nil_of_le (by omega)]
    exact Rnd.exit (Tri.after [(5, .keep), (7, .keep), (8, .keep), (9, .keep), (10, .keep), (11, .keep), (12, .keep)] (q (decide_eq_true (by omega)) (decide_eq_true ⟨trivial, by rw [List.length_map]; omega⟩) (getD_SH (by omega)) (decide_eq_false (by
      show ¬ ((k : Int) < (((List.map Idd.enc (tb.getD j [])).length : Nat) : Int))
      rw [List.length_map]; omega)))) (by simp)
  | succ n ih =>
    intro k s hk hf
    have hd : (tb.getD j []).drop k = (tb.getD j []).getD k default :: (tb.getD j []).drop (k + 1) := by
      exact drop_cons _ (by omega) _
    rw [hd, inW]
    exact Rnd.step (in_step p tb y8 htb m s hj (by omega) hl (by omega)) (ih (k + 1) _ (by omega) (by split <;> (try simp only) <;> omega))
include hs
theorem out_step (s : Nat × (Int × Int) × Nat) {j : Nat} (hj : j < 80) (h1 : s.1 ≤ 4 * j) (h2 : s.2.2 ≤ 4 * j) :
    Tri Try.prog (cxN 104 0) (loopBody Try.f9 0) (waE p tb y8 s.1 s.2 j) .normal (waE p tb y8 (s.1 + (tb.getD j []).length) (inW p j (tb.getD j []) s.2) (j + 1)) := by
  have hl := hs j
  have w1 : IntKind.wrap IntKind.i64 ((j : Int) + 1) = ((j + 1 : Nat) : Int) := up64 (by omega)
  have w2 : IntKind.wrap IntKind.i64 ((s.1 : Int) + (((List.map Idd.enc (tb.getD j [])).length : Nat) : Int)) = ((s.1 + (tb.getD j []).length : Nat) : Int) := by
    rw [List.length_map, wrap_id' (by omega) (by omega)]; omega
  rw [at_l0]
  refine .seq (.seq (a12_0 [ub p.y, it p.n] (tb.map SH) y8 [ub s.2.1.1, it s.2.1.2] s.1 s.2.2 j) (.cond (b := true) ?_ .skip)) ?_
  · show some (AV.atom (Value.bool (decide ((j : Int) < (80 : Int))))) = _
    rw [decide_eq_true (by omega)]
  refine Tri.weak [(5, .keep), (7, .keep), (8, .keep), (9, .keep), (10, .keep), (11, .keep), (12, .keep)] ?_
  have q14 := a14_0 tb [ub p.y, it p.n] y8 [ub s.2.1.1, it s.2.1.2] s.1 s.2.2 j (decide_eq_true (by omega)) (decide_eq_true ⟨rfl, by rw [List.length_map, Int.toNat_natCast]; omega⟩) (by simp only [Int.toNat_natCast, Nat.mul_one]; exact getD_SH (by omega))
  simp only [Int.toNat_natCast, Nat.mul_one] at q14
  rw [show (tb.getD j default) = tb.getD j [] from rfl, w2] at q14
  have hr := in_rnd p tb y8 htb (s.1 + (tb.getD j []).length) hj hl (tb.getD j []).length 0 s.2 (by omega) (by omega)
  rw [List.drop_zero] at hr
  have q13 := a13_0 [ub p.y, it p.n] (tb.map SH) y8 [ub (inW p j (tb.getD j []) s.2).1.1, it (inW p j (tb.getD j []) s.2).1.2] ((s.1 + (tb.getD j []).length : Nat) : Int) ((inW p j (tb.getD j []) s.2).2 : Nat) j
  rw [w1] at q13
  exact .seq (.block (ex := .normal) (.seq q14 (.seq (a15_0 [ub p.y, it p.n] (tb.map SH) y8 [ub s.2.1.1, it s.2.1.2] ((s.1 + (tb.getD j []).length : Nat) : Int) s.2.2 j) (.block (ex := .exit 2) (Rnd.loop hr) (.inl ⟨rfl, rfl⟩)))) (.inr ⟨by simp, rfl⟩)) q13
theorem out_rnd : ∀ (n j : Nat) (s : Nat × (Int × Int) × Nat), j + n = 80 → s.1 ≤ 4 * j → s.2.2 ≤ 4 * j →
    Rnd Try.prog (cxN 104 0) (loopBody Try.f9 0) (n + 1) (waE p tb y8 s.1 s.2 j) (.exit 0)
      [(5, .box [ub p.y, it p.n]), (8, .box y8), (9, it (outW p j (tb.drop j) s).1), (10, .box [ub (outW p j (tb.drop j) s).2.1.1, it (outW p j (tb.drop j) s).2.1.2]), (11, it (outW p j (tb.drop j) s).2.2)] := by
  intro n
  induction n with
  | zero =>
    intro j s hj h1 h2
    rw [List.drop_eq_nil_of_le (by omega)]
    refine Rnd.exit (ex := .exit 0) ?_ (by simp)
    rw [at_l0]
    refine Tri.after [(5, .keep), (8, .keep), (9, .keep), (10, .keep), (11, .keep)] (.seqX (.seq (a12_0 [ub p.y, it p.n] (tb.map SH) y8 [ub s.2.1.1, it s.2.1.2] s.1 s.2.2 j) (.cond (b := false) ?_ .exit)) (by simp))
    show some (AV.atom (Value.bool (decide ((j : Int) < (80 : Int))))) = _
    rw [decide_eq_false (by omega)]
  | succ n ih =>
    intro j s hj h1 h2
    have hl := hs j
    have hw := (inW_le p j (tb.getD j []) s.2).2
    have hd : tb.drop j = tb.getD j [] :: tb.drop (j + 1) := by
      exact drop_cons _ (by omega) _
    rw [hd, outW]
    exact Rnd.step (out_step p tb y8 htb hs s (by omega) h1 h2) (ih (j + 1) (s.1 + (tb.getD j []).length, inW p j (tb.getD j []) s.2) (by omega) (by simp only; omega) (by simp only; omega))
end
theorem law9_c (x : List Pt) (hx : ∀ q ∈ x, 0 ≤ q.a ∧ 0 ≤ q.m) (d i : Int) (hd : 0 ≤ d) (p : Idd) : PureC Try.prog 9 [psl none x, ndl d i, .agg [ub p.y, it p.n]] (bb true) := by
  have hof : OfOk x fun i => (ofT x).getD i [] := of_c none x hx
  have hbd : BdOk (fun i => (ofT x).getD i []) (bedOfT (ofT x) 0) (bedOfT (ofT x) 40) := beds_c (ofT x) (ofT_len x) (ofT_short x)
  have hT : (ofT x).length = 80 := ofT_len x
  have hg : Good' (ofT x) := good_ofT x fun q hq => (hx q hq).1
  have hR : Rep (stkF (bedOfT (ofT x) 0)) (stkF (bedOfT (ofT x) 40)) (ofT x) := rep_bed _ hT fun o => bedOfT_len _ o
  have c1 := capT_bed (ofT x) 0
  have c2 := capT_bed (ofT x) 40
  generalize ofT x = T at *
  generalize hX : bedOfT T 0 = X at *
  generalize hY : bedOfT T 40 = Y at *
  obtain ⟨F, hF⟩ : ∃ F, F = stkF X := ⟨_, rfl⟩
  obtain ⟨B, hB⟩ : ∃ B, B = stkF Y := ⟨_, rfl⟩
  have l1 := le_frE (P := Try.prog) X
  have l2 := le_frE (P := Try.prog) Y
  rw [← hF] at hR c1 l1
  rw [← hB] at hR c2 l2
  have hdf := df_rep hR hg c1 c2
  have hch := ch_rep hR hg
  have hct := ct_rep hR hg
  have hfl := flat_len T hg.s
  -- what is found
  obtain ⟨fd, fi, fe, hfd, hw⟩ : ∃ fd fi fe, FdOk F B p fd fi fe ∧ (((outW p 0 T (0, (0, 0), 0)).2.2 = 0 ∧ fe = 7 ∨ 0 < (outW p 0 T (0, (0, 0), 0)).2.2 ∧ fe = 0) ∧ (outW p 0 T (0, (0, 0), 0)).2.1 = (fd, fi)) := by
    by_cases hp : p ∈ T.flatten
    · obtain ⟨j, _, hj⟩ := flat_mem hp
      have hy := outW_yes p hg.d hj (0, (0, 0), 0)
      exact ⟨_, _, _, fd_at hR hg hj, .inr ⟨hy.2, rfl⟩, hy.1⟩
    · have hn := outW_no p T 0 (0, (0, 0), 0) hp
      exact ⟨_, _, _, fd_no hR hg hp, .inl ⟨by rw [hn], rfl⟩, by rw [hn]⟩
  have hm := outW_len p T 0 (0, (0, 0), 0)
  have hrn := out_rnd p T [bsl (some X.length) F, bsl (some Y.length) B] hT hg.s 80 0 (0, (0, 0), 0) rfl (by simp) (by simp)
  rw [List.drop_zero] at hrn
  generalize outW p 0 T (0, (0, 0), 0) = W at *
  simp only [Nat.zero_add] at hm
  refine pureT ((base 104 0).ok cxA_K.1 cxA_K.2) Try.func9 rfl (by show 3 ≤ 104; omega) rfl at_body rfl (ex := .ret) (env' := [(6, bb true)]) ?_ rfl
  refine .seq (a0_0 x d i p) (.seq (a1_0 x _ _ _ [] hof) (.seq (Tri.less (env2 := [(4, .box [ub d, it i]), (5, .box [ub p.y, it p.n]), (7, .box (bedS fun i => T.getD i [])), (8, .box [bsl (some X.length) F, bsl (some Y.length) B])]) (a2_0 _ X Y _ _ [] hbd rfl (by rw [smapFN, smapFN])) ?_) ?_))
  · exact .cons ⟨rfl, rfl, Le.refl _⟩ (.cons ⟨rfl, rfl, Le.refl _⟩ (.cons ⟨rfl, rfl, le_tab _⟩ (.cons ⟨rfl, rfl, Le.box (.cons l1 (.cons l2 .nil))⟩ .nil)))
  refine .seq (.seq (a3_0 X.length Y.length F B _ _ _ hch hdf rfl) (.cond (b := false) rfl .skip)) ?_
  rw [← bedS_eq hT]
  refine Tri.weak [(4, .keep), (5, .keep), (7, .keep), (8, .keep)] ?_
  have h5 : Tri Try.prog (cxN 104 0) (codeAt Try.f9 5) [(4, .box [ub d, it i]), (5, .box [ub p.y, it p.n]), (7, .box (T.map SH)), (8, .box [bsl (some X.length) F, bsl (some Y.length) B])] .normal [(5, .box [ub p.y, it p.n]), (7, .box (T.map SH)), (8, .box [bsl (some X.length) F, bsl (some Y.length) B])] := by
    have ks : ∀ {e e' : Env}, Tri Try.prog (cxN 104 0) (codeAt Try.f9 5) e .normal e' → keepE [(5, .keep), (7, .keep), (8, .keep)] e' = [(5, .box [ub p.y, it p.n]), (7, .box (T.map SH)), (8, .box [bsl (some X.length) F, bsl (some Y.length) B])] → Tri Try.prog (cxN 104 0) (codeAt Try.f9 5) e .normal [(5, .box [ub p.y, it p.n]), (7, .box (T.map SH)), (8, .box [bsl (some X.length) F, bsl (some Y.length) B])] := fun h e => by
      have := Tri.after [(5, .keep), (7, .keep), (8, .keep)] h
      rwa [e] at this
    have no : ndV d i = false → AtNo F B d i := fun hv cf cb => by
      have := ndlAt_c d i (some cf) (some cb) F B (fun s hs => by have := hR.len hg s (.inl hs); omega) (fun s hs => by have := hR.len hg s (.inr hs); omega)
      unfold atV at this
      rwa [if_neg (by rw [hv]; simp)] at this
    by_cases e1 : 1 < d
    · exact ks (a5_0 X.length Y.length F B (T.map SH) [ub p.y, it p.n] d i (no (by unfold ndV; simp; omega)) (decide_eq_true e1)) rfl
    by_cases e2 : i < 1
    · exact ks (a5_1 X.length Y.length F B (T.map SH) [ub p.y, it p.n] d i (no (by unfold ndV; simp; omega)) (decide_eq_false e1) (decide_eq_true e2)) rfl
    by_cases e3 : 40 < i
    · exact ks (a5_2 X.length Y.length F B (T.map SH) [ub p.y, it p.n] d i (no (by unfold ndV; simp; omega)) (decide_eq_false e1) (decide_eq_false e2) (decide_eq_true e3)) rfl
    exact ks (av_0 [bsl (some X.length) F, bsl (some Y.length) B] (T.map SH) [ub p.y, it p.n] d i (decide_eq_false e1) (decide_eq_false e2) (decide_eq_false e3) (decide_eq_false e1) (decide_eq_false e2) (decide_eq_false e3)) rfl
  refine .seq h5 ?_
  refine .seq (a8_0 _ _ _) (.seq (a9_0 _ _ _) (.seq (a10_0 _ _ _) (.seq (.seq (a11_0 _ _ _) (.block (ex := .exit 0) (Rnd.loop hrn) (.inl ⟨rfl, rfl⟩))) ?_)))
  refine .seq (a21_0 p X.length Y.length F B _ _ _ fd fi fe hfd) (.seq (a22_0 _ _ _ _ _ _) ?_)
  have hc := hct
  rw [← hm] at hc
  rcases hw.1 with ⟨h0, rfl⟩ | ⟨h0, rfl⟩
  · refine .seq (a23_0 _ _ _ _ _ _ (by rw [h0]; rfl)) ?_
    exact .seq (a25_0 X.length Y.length F B _ _ _ _ fd fi _ _ hc rfl (by rw [hw.2]; simp) (by simp) rfl (by rw [hw.2]; simp) (by simp)) .ret
  · refine .seq (a23_1 _ _ _ _ _ _ (by simp; omega)) ?_
    refine Tri.weak [(8, .keep), (9, .keep), (10, .keep), (14, .keep), (15, .keep), (16, .keep)] ?_
    exact .seq (a25_0 X.length Y.length F B _ _ _ _ fd fi _ _ hc rfl (by rw [hw.2]; simp) (by simp) rfl (by rw [hw.2]; simp) (by simp)) .ret
end Tst
end

section
open Go Go.Lf Go.Proofs
namespace Tst
theorem F2.cons' {α β : Type} {R : α → β → Prop} {x : α} {l : List α} {m : List β} (h : F2 R (x :: l) m) : ∃ y m', m = y :: m' ∧ R x y ∧ F2 R l m' := by
  cases h with
  | cons h t => exact ⟨_, _, rfl, h, t⟩
theorem F2.nil' {α β : Type} {R : α → β → Prop} {m : List β} (h : F2 R [] m) : m = [] := by cases h; rfl
section
variable {P : Program} {t : TypeId} {ys : List AV}
theorem sh_int (m : Nat) {k : IntKind} (hu : P.underlying t = some (.int k)) (h : Shape P (m + 1) t ys) : ∃ i, ys = [.atom (.int k i)] ∧ (Lit.int k i).wf = true := by
  unfold Shape at h; rw [hu] at h; exact h
theorem sh_slice (m : Nat) {e : TypeId} (hu : P.underlying t = some (.slice e)) (h : Shape P (m + 1) t ys) : ∃ xs, ys = [.sl .any e none xs] ∧ xs.length ≤ maxLen ∧ ∀ x ∈ xs, ∃ cs, x = elOf P e cs ∧ cs.length = P.cellsOf e ∧ Shape P m e cs := by
  unfold Shape at h; rw [hu] at h; exact h
theorem sh_struct (m : Nat) {fs : Array Field} (hu : P.underlying t = some (.struct fs)) (h : Shape P (m + 1) t ys) : ∃ yss : List (List AV), ys = yss.flatten ∧ F2 (fun f cs => Shape P m f.type cs) fs.toList yss := by
  unfold Shape at h; rw [hu] at h; exact h
end
theorem choose_map {α : Type} (f : α → AV) (Q : α → Prop) : ∀ xs : List AV, (∀ x ∈ xs, ∃ a, x = f a ∧ Q a) → ∃ l : List α, xs = l.map f ∧ ∀ a ∈ l, Q a
  | [], _ => ⟨[], rfl, by simp⟩
  | x :: xs, h => by
    obtain ⟨a, rfl, ha⟩ := h x (by simp)
    obtain ⟨l, rfl, hl⟩ := choose_map f Q xs fun y hy => h y (by simp [hy])
    exact ⟨a :: l, rfl, by
      intro b hb
      rcases List.mem_cons.1 hb with rfl | hb
      · exact ha
      · exact hl b hb⟩
def U8 (x : Int) : Prop := 0 ≤ x ∧ x ≤ 255
def I64 (x : Int) : Prop := -9223372036854775808 ≤ x ∧ x ≤ 9223372036854775807
theorem u8_wf {i : Int} (h : (Lit.int .u8 i).wf = true) : U8 i := by
  simp only [Lit.wf, Bool.and_eq_true, decide_eq_true_eq] at h
  exact h
theorem i64_wf {i : Int} (h : (Lit.int .i64 i).wf = true) : I64 i := by
  simp only [Lit.wf, Bool.and_eq_true, decide_eq_true_eq] at h
  exact h
structure Ty3 (P : Program) : Prop where
  u3 : P.underlying 3 = some (.int .i64)
  u5 : P.underlying 5 = some (.int .u8)
  u52 : P.underlying 52 = some (.array 2 5)
  a52 : aggT P 52 = true
theorem tyP3 : Ty3 Try.prog := ⟨Try.underlying3, Try.underlying5, Try.underlying52, by kernel_rfl⟩
def Arg (P : Program) (t : TypeId) (x : AV) : Prop := ∃ ys, x = elOf P t ys ∧ Shape P 8 t ys ∧ ys.length = P.cellsOf t
theorem args3 {P : Program} {s t u : TypeId} {xs : List AV} (h : F2 (Arg P) [s, t, u] xs) : ∃ x y z, xs = [x, y, z] ∧ Arg P s x ∧ Arg P t y ∧ Arg P u z := by
  obtain ⟨x, _, rfl, h1, h⟩ := F2.cons' h
  obtain ⟨y, _, rfl, h2, h⟩ := F2.cons' h
  obtain ⟨z, _, rfl, h3, h⟩ := F2.cons' h
  obtain rfl := F2.nil' h
  exact ⟨x, y, z, rfl, h1, h2, h3⟩
end Tst
end

section
open Go Go.Lf Go.Proofs
namespace Tst
structure Ty4 (P : Program) : Prop where
  u58 : P.underlying 58 = some (.slice 87)
  u62 : P.underlying 62 = some (.slice 30)
  u66 : P.underlying 66 = some (.slice 62)
  u59 : P.underlying 59 = some (.int .u8)
  u87 : ∃ a b : Field, P.underlying 87 = some (.struct #[a, b]) ∧ a.type = 5 ∧ b.type = 5
  u61 : ∃ a b : Field, P.underlying 61 = some (.struct #[a, b]) ∧ a.type = 59 ∧ b.type = 3
  u30 : ∃ a b : Field, P.underlying 30 = some (.struct #[a, b]) ∧ a.type = 5 ∧ b.type = 3
  u68 : ∃ a b : Field, P.underlying 68 = some (.struct #[a, b]) ∧ a.type = 66 ∧ b.type = 66
  a87 : aggT P 87 = true
  a61 : aggT P 61 = true
  a30 : aggT P 30 = true
  a68 : aggT P 68 = true
  a58 : aggT P 58 = false
  a62 : aggT P 62 = false
  a66 : aggT P 66 = false
theorem tyP4 : Ty4 Try.prog := ⟨Try.underlying58, Try.underlying62, Try.underlying66, Try.underlying59, ⟨_, _, Try.underlying87, rfl, rfl⟩, ⟨_, _, Try.underlying61, rfl, rfl⟩, ⟨_, _, Try.underlying30, rfl, rfl⟩, ⟨_, _, Try.underlying68, rfl, rfl⟩,
  by kernel_rfl, by kernel_rfl, by kernel_rfl, by kernel_rfl, by kernel_rfl, by kernel_rfl, by kernel_rfl⟩
section
variable {P : Program} {m : Nat}
theorem pt_of (T : Ty3 P) (U : Ty4 P) {cs : List AV} (h : Shape P (m + 2) 87 cs) : ∃ p : Pt, cs = [ub p.a, ub p.m] ∧ U8 p.a ∧ U8 p.m := by
  obtain ⟨fa, fb, hu, ta, tb⟩ := U.u87
  obtain ⟨yss, rfl, hf⟩ := sh_struct (m + 1) hu h
  obtain ⟨c1, _, rfl, h1, hf⟩ := F2.cons' hf
  obtain ⟨c2, _, rfl, h2, hf⟩ := F2.cons' hf
  obtain rfl := F2.nil' hf
  rw [ta] at h1; rw [tb] at h2
  obtain ⟨y, rfl, w1⟩ := sh_int m T.u5 h1
  obtain ⟨n, rfl, w2⟩ := sh_int m T.u5 h2
  exact ⟨⟨y, n⟩, rfl, u8_wf w1, u8_wf w2⟩
theorem id_of (T : Ty3 P) (U : Ty4 P) {cs : List AV} (h : Shape P (m + 2) 30 cs) : ∃ p : Idd, cs = [ub p.y, it p.n] ∧ U8 p.y ∧ I64 p.n := by
  obtain ⟨fa, fb, hu, ta, tb⟩ := U.u30
  obtain ⟨yss, rfl, hf⟩ := sh_struct (m + 1) hu h
  obtain ⟨c1, _, rfl, h1, hf⟩ := F2.cons' hf
  obtain ⟨c2, _, rfl, h2, hf⟩ := F2.cons' hf
  obtain rfl := F2.nil' hf
  rw [ta] at h1; rw [tb] at h2
  obtain ⟨y, rfl, w1⟩ := sh_int m T.u5 h1
  obtain ⟨n, rfl, w2⟩ := sh_int m T.u3 h2
  exact ⟨⟨y, n⟩, rfl, u8_wf w1, i64_wf w2⟩
theorem nd_of (T : Ty3 P) (U : Ty4 P) {cs : List AV} (h : Shape P (m + 2) 61 cs) : ∃ d i, cs = [ub d, it i] ∧ U8 d ∧ I64 i := by
  obtain ⟨fa, fb, hu, ta, tb⟩ := U.u61
  obtain ⟨yss, rfl, hf⟩ := sh_struct (m + 1) hu h
  obtain ⟨c1, _, rfl, h1, hf⟩ := F2.cons' hf
  obtain ⟨c2, _, rfl, h2, hf⟩ := F2.cons' hf
  obtain rfl := F2.nil' hf
  rw [ta] at h1; rw [tb] at h2
  obtain ⟨y, rfl, w1⟩ := sh_int m U.u59 h1
  obtain ⟨n, rfl, w2⟩ := sh_int m T.u3 h2
  exact ⟨y, n, rfl, u8_wf w1, i64_wf w2⟩
theorem el_no {t : TypeId} (h : aggT P t = false) (x : AV) : elOf P t [x] = x := by unfold elOf; rw [if_neg (Bool.eq_false_iff.1 h)]; rfl
end
section
variable {P : Program}
theorem arg58 (T : Ty3 P) (U : Ty4 P) {x : AV} (h : Arg P 58 x) : ∃ l : List Pt, x = psl none l ∧ (∀ p ∈ l, U8 p.a ∧ U8 p.m) ∧ l.length ≤ maxLen := by
  obtain ⟨ys, rfl, hs, _⟩ := h
  obtain ⟨xs, rfl, hl, hx⟩ := sh_slice 7 U.u58 hs
  obtain ⟨a, rfl, ha⟩ := choose_map Pt.enc (fun p => U8 p.a ∧ U8 p.m) xs fun x hx' => by
    obtain ⟨cs, rfl, _, hc⟩ := hx x hx'
    obtain ⟨p, rfl, w⟩ := pt_of (m := 5) T U hc
    exact ⟨p, by unfold elOf; rw [if_pos U.a87]; rfl, w⟩
  exact ⟨a, el_no U.a58 _, ha, by simpa using hl⟩
theorem arg61 (T : Ty3 P) (U : Ty4 P) {x : AV} (h : Arg P 61 x) : ∃ d i, x = ndl d i ∧ U8 d ∧ I64 i := by
  obtain ⟨ys, rfl, hs, _⟩ := h
  obtain ⟨d, i, rfl, h1, h2⟩ := nd_of (m := 6) T U hs
  exact ⟨d, i, by unfold elOf; rw [if_pos U.a61], h1, h2⟩
theorem arg30 (T : Ty3 P) (U : Ty4 P) {x : AV} (h : Arg P 30 x) : ∃ p : Idd, x = p.enc ∧ U8 p.y ∧ I64 p.n := by
  obtain ⟨ys, rfl, hs, _⟩ := h
  obtain ⟨p, rfl, h1, h2⟩ := id_of (m := 6) T U hs
  exact ⟨p, by unfold elOf; rw [if_pos U.a30]; rfl, h1, h2⟩
end
end Tst
end

section
open Go Go.Lf Go.Proofs Tst
namespace Go.Proofs.Ytnaikfcmegkdpaa.stacksAt
theorem StacksAt_pure (xs : List AV) (h : F2 (fun t x => ∃ ys, x = elOf Try.prog t ys ∧ Shape Try.prog 8 t ys ∧ ys.length = Try.prog.cellsOf t) Try.f9.params.toList xs) : PureC Try.prog 9 xs (.atom (.bool true)) := by
  rw [Try.params9] at h
  obtain ⟨x, y, z, rfl, h1, h2, h3⟩ := args3 (P := Try.prog) h
  obtain ⟨l, rfl, hl, _⟩ := arg58 tyP3 tyP4 h1
  obtain ⟨d, i, rfl, hd, _⟩ := arg61 tyP3 tyP4 h2
  obtain ⟨p, rfl, _, _⟩ := arg30 tyP3 tyP4 h3
  exact law9_c l (fun q hq => ⟨(hl q hq).1.1, (hl q hq).2.1⟩) d i hd.1 p
end Go.Proofs.Ytnaikfcmegkdpaa.stacksAt
end
