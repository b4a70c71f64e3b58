/- Part 9 of the evaluator and of the contracts that the claim uses. -/
import Derived.Test.YtnaikfcmegkdpaaStacksBackLAA
import Derived.Test.YtnaikfcmegkdpaaStacksBackLAB
import Derived.Test.YtnaikfcmegkdpaaStacksBackLAC
import Derived.Test.YtnaikfcmegkdpaaStacksBackLAD
import Derived.Test.YtnaikfcmegkdpaaStacksBackLAE
import Derived.Test.YtnaikfcmegkdpaaStacksBackLAF
import Derived.Test.YtnaikfcmegkdpaaStacksBackLAG
import Derived.Test.YtnaikfcmegkdpaaStacksBackLAH
set_option linter.unusedVariables false
set_option linter.unusedSimpArgs false
set_option linter.constructorNameAsVariable false

section
open Go Go.Lf Go.Proofs
namespace Tst
set_option maxHeartbeats 0
theorem l0_0 (u : Nat) : Tri Try.prog (cxN 174 0) (regAt Try.f37 0) ([] ) (Ex.normal) ([]) :=
  evA_ok (H := h37) (ans := [.c]) (ps := []) (ans' := []) (base 174 0) cxA_K.1 cxA_K.2 _ (by kernel_rfl)  allp_nil
theorem l1_0 (u : Nat) : Tri Try.prog (cxN 174 0) (regAt Try.f37 1) ([] ) (Ex.normal) ([(nat_lit 1, AV.box [ub 1, it 0]), (nat_lit 2, AV.box [ub 1, it 1]), (nat_lit 3, AV.box [ub 2, it 0])]) :=
  evA_ok (H := h37) (ans := [.c, .c, .c, .c, .c, .c, .c, .c, .c]) (ps := []) (ans' := []) (base 174 0) cxA_K.1 cxA_K.2 _ (by kernel_rfl)  allp_nil
theorem l3_0 (u : Nat) : Tri Try.prog (cxN 174 0) (regAt Try.f37 3) ([(1, .box [ub 1, it 0]), (2, .box [ub 1, it 1]), (3, .box [ub 2, it 0]), (4, eX)] ) (Ex.normal) ([(nat_lit 1, AV.box [ub 1, it 0]), (nat_lit 2, AV.box [ub 1, it 1]), (nat_lit 3, AV.box [ub 2, it 0]), (nat_lit 4, eX), (nat_lit 5, AV.box [ub 0, it 1]), (nat_lit 6, AV.box [ub 0, it 2]), (nat_lit 7, AV.box [ub 1, it 2])]) :=
  evA_ok (H := h37) (ans := [.c, .c, .c, .c, .c, .c, .c, .c, .c]) (ps := []) (ans' := []) (base 174 0) cxA_K.1 cxA_K.2 _ (by kernel_rfl)  allp_nil
theorem l4_0 (u : Nat) : Tri Try.prog (cxN 174 0) (regAt Try.f37 4) ([(1, .box [ub 1, it 0]), (2, .box [ub 1, it 1]), (3, .box [ub 2, it 0]), (4, eX), (5, .box [ub 0, it 1]), (6, .box [ub 0, it 2]), (7, .box [ub 1, it 2])] ) (Ex.normal) ([(nat_lit 1, AV.box [ub 1, it 0]), (nat_lit 2, AV.box [ub 1, it 1]), (nat_lit 3, AV.box [ub 2, it 0]), (nat_lit 4, eX), (nat_lit 5, AV.box [ub 0, it 1]), (nat_lit 6, AV.box [ub 0, it 2]), (nat_lit 7, AV.box [ub 1, it 2]), (nat_lit 8, AV.box [ub 1, it 2]), (nat_lit 9, it 0)]) :=
  evA_ok (H := h37) (ans := [.c, .c, .r (AV.tup [AV.agg [ub 1, it 2], it 0]), .c, .c, .c, .c, .c, .c, .c, .c]) (ps := [PureC Try.prog (nat_lit 35) [view (AV.agg [tXF, tXB]), AV.agg [ub 2, it 0]] (AV.tup [AV.agg [ub 1, it 2], it 0])]) (ans' := []) (base 174 0) cxA_K.1 cxA_K.2 _ (by kernel_rfl)  (allp (by (first | rw [view_yn] | rw [view_two] | rw [view_twoI] | rw [view_beds] | rw [view_frW] | rw [view_frN] | rw [view_twoF] | skip); apply x_find <;> (first | assumption | rfl | (simp at * <;> omega))) allp_nil)
theorem l5_0 (u : Nat) (g0 : AV.sl Mode.own (nat_lit 30) (some (nat_lit 2)) [Idd.enc ia, Idd.enc ib] = AV.sl Mode.own (nat_lit 30) (some (nat_lit 2)) (List.map Idd.enc [ia, { y := Idd.y ib, n := Idd.n ib }])) (g1 : AV.sl Mode.own (nat_lit 30) (some (nat_lit 0)) [] = AV.sl Mode.own (nat_lit 30) (some (nat_lit 0)) (List.map Idd.enc [])) : Tri Try.prog (cxN 174 0) (regAt Try.f37 5) ([(1, .box [ub 1, it 0]), (2, .box [ub 1, it 1]), (3, .box [ub 2, it 0]), (4, eX), (5, .box [ub 0, it 1]), (6, .box [ub 0, it 2]), (7, .box [ub 1, it 2]), (8, .box [ub 1, it 2]), (9, it 0)] ) (Ex.normal) ([(nat_lit 1, AV.box [ub 1, it 0]), (nat_lit 2, AV.box [ub 1, it 1]), (nat_lit 3, AV.box [ub 2, it 0]), (nat_lit 4, eX), (nat_lit 5, AV.box [ub 0, it 1]), (nat_lit 6, AV.box [ub 0, it 2]), (nat_lit 7, AV.box [ub 1, it 2]), (nat_lit 67, AV.atom (Value.bool ((0 : Int) != (0 : Int))))]) :=
  evA_ok (H := h37) (ans := [.c, .r (it 0), .c, .c, .c, .c, .c, .c, .c, .c, .c, .r (AV.sl Mode.own (nat_lit 30) (some (nat_lit 2)) [Idd.enc ia, Idd.enc ib]), .c, .r (AV.sl Mode.own (nat_lit 30) (some (nat_lit 2)) (List.map Idd.enc [ia, { y := Idd.y ib, n := Idd.n ib }])), .c, .c, .c, .c, .c, .c, .c, .c, .c, .c, .c, .c, .r (AV.sl Mode.own (nat_lit 30) (some (nat_lit 0)) []), .c, .r (AV.sl Mode.own (nat_lit 30) (some (nat_lit 0)) (List.map Idd.enc [])), .c, .c, .c, .c, .c, .c, .c, .c, .c, .c, .r (it 3), .c, .c, .c, .c, .c, .c, .c, .c, .c, .c, .c, .c, .c, .c, .c, .c, .c, .c, .c, .c, .c, .c]) (ps := [PureC Try.prog (nat_lit 31) [view (AV.agg [tXF, tXB])] (it 0), PureC Try.prog (nat_lit 33) [view (AV.agg [tXF, tXB]), AV.agg [ub 0, it 2]] (AV.sl Mode.own (nat_lit 30) (some (nat_lit 2)) [Idd.enc ia, Idd.enc ib]), AV.sl Mode.own (nat_lit 30) (some (nat_lit 2)) [Idd.enc ia, Idd.enc ib] = AV.sl Mode.own (nat_lit 30) (some (nat_lit 2)) (List.map Idd.enc [ia, { y := Idd.y ib, n := Idd.n ib }]), PureC Try.prog (nat_lit 33) [view (AV.agg [tXF, tXB]), AV.agg [ub 0, it 1]] (AV.sl Mode.own (nat_lit 30) (some (nat_lit 0)) []), AV.sl Mode.own (nat_lit 30) (some (nat_lit 0)) [] = AV.sl Mode.own (nat_lit 30) (some (nat_lit 0)) (List.map Idd.enc []), PureC Try.prog (nat_lit 36) [view (AV.agg [tXF, tXB])] (it 3)]) (ans' := []) (base 174 0) cxA_K.1 cxA_K.2 _ (by kernel_rfl)  (allp (by (first | rw [view_yn] | rw [view_two] | rw [view_twoI] | rw [view_beds] | rw [view_frW] | rw [view_frN] | rw [view_twoF] | skip); apply x_chk <;> (first | assumption | rfl | (simp at * <;> omega))) (allp (by (first | rw [view_yn] | rw [view_two] | rw [view_twoI] | rw [view_beds] | rw [view_frW] | rw [view_frN] | rw [view_twoF] | skip); first | (apply x_at2 <;> (first | assumption | rfl | (simp at * <;> omega))) | (apply x_at1 <;> (first | assumption | rfl | (simp at * <;> omega)))) (allp g0 (allp (by (first | rw [view_yn] | rw [view_two] | rw [view_twoI] | rw [view_beds] | rw [view_frW] | rw [view_frN] | rw [view_twoF] | skip); first | (apply x_at2 <;> (first | assumption | rfl | (simp at * <;> omega))) | (apply x_at1 <;> (first | assumption | rfl | (simp at * <;> omega)))) (allp g1 (allp (by (first | rw [view_yn] | rw [view_two] | rw [view_twoI] | rw [view_beds] | rw [view_frW] | rw [view_frN] | rw [view_twoF] | skip); apply x_cnt <;> (first | assumption | rfl | (simp at * <;> omega))) allp_nil))))))
theorem l7_0 (u : Nat) (g0 : AV.agg [AV.sl Mode.fresh (nat_lit 62) (some (nat_lit 0)) [], AV.sl Mode.fresh (nat_lit 62) (some (nat_lit 2)) [AV.sl Mode.fresh (nat_lit 30) (some (nat_lit 0)) [], AV.sl Mode.fresh (nat_lit 30) (some (nat_lit 3)) [Idd.enc ic, Idd.enc ia, Idd.enc ib]]] = AV.agg [AV.sl Mode.fresh (nat_lit 62) (some (nat_lit 0)) (List.map Stk.enc []), AV.sl Mode.fresh (nat_lit 62) (some (nat_lit 2)) [AV.sl Mode.fresh (nat_lit 30) (some (nat_lit 0)) [], AV.sl Mode.fresh (nat_lit 30) (some (nat_lit 3)) [Idd.enc ic, Idd.enc ia, Idd.enc ib]]]) : Tri Try.prog (cxN 174 0) (regAt Try.f37 7) ([(1, .box [ub 1, it 0]), (2, .box [ub 1, it 1]), (3, .box [ub 2, it 0]), (4, eX), (5, .box [ub 0, it 1]), (6, .box [ub 0, it 2]), (7, .box [ub 1, it 2])] ) (Ex.normal) ([(nat_lit 1, AV.box [ub 1, it 0]), (nat_lit 2, AV.box [ub 1, it 1]), (nat_lit 3, AV.box [ub 2, it 0]), (nat_lit 4, eX), (nat_lit 5, AV.box [ub 0, it 1]), (nat_lit 6, AV.box [ub 0, it 2]), (nat_lit 7, AV.box [ub 1, it 2]), (nat_lit 9, it 0), (nat_lit 10, AV.box [AV.sl Mode.fresh (nat_lit 62) (some (nat_lit 0)) [], AV.sl Mode.fresh (nat_lit 62) (some (nat_lit 2)) [AV.sl Mode.fresh (nat_lit 30) (some (nat_lit 0)) [], AV.sl Mode.fresh (nat_lit 30) (some (nat_lit 3)) [Idd.enc ic, Idd.enc ia, Idd.enc ib]]])]) :=
  evA_ok (H := h37) (ans := [.c, .c, .c, .r (AV.tup [AV.agg [AV.sl Mode.fresh (nat_lit 62) (some (nat_lit 0)) [], AV.sl Mode.fresh (nat_lit 62) (some (nat_lit 2)) [AV.sl Mode.fresh (nat_lit 30) (some (nat_lit 0)) [], AV.sl Mode.fresh (nat_lit 30) (some (nat_lit 3)) [Idd.enc ic, Idd.enc ia, Idd.enc ib]]], it 0]), .c, .c, .c, .r (AV.agg [AV.sl Mode.fresh (nat_lit 62) (some (nat_lit 0)) (List.map Stk.enc []), AV.sl Mode.fresh (nat_lit 62) (some (nat_lit 2)) [AV.sl Mode.fresh (nat_lit 30) (some (nat_lit 0)) [], AV.sl Mode.fresh (nat_lit 30) (some (nat_lit 3)) [Idd.enc ic, Idd.enc ia, Idd.enc ib]]]), .c, .c, .c, .c]) (ps := [PureC Try.prog (nat_lit 40) [view (AV.agg [tXF, tXB]), AV.agg [ub 0, it 2], AV.agg [ub 1, it 2]] (AV.tup [AV.agg [AV.sl Mode.fresh (nat_lit 62) (some (nat_lit 0)) [], AV.sl Mode.fresh (nat_lit 62) (some (nat_lit 2)) [AV.sl Mode.fresh (nat_lit 30) (some (nat_lit 0)) [], AV.sl Mode.fresh (nat_lit 30) (some (nat_lit 3)) [Idd.enc ic, Idd.enc ia, Idd.enc ib]]], it 0]), AV.agg [AV.sl Mode.fresh (nat_lit 62) (some (nat_lit 0)) [], AV.sl Mode.fresh (nat_lit 62) (some (nat_lit 2)) [AV.sl Mode.fresh (nat_lit 30) (some (nat_lit 0)) [], AV.sl Mode.fresh (nat_lit 30) (some (nat_lit 3)) [Idd.enc ic, Idd.enc ia, Idd.enc ib]]] = AV.agg [AV.sl Mode.fresh (nat_lit 62) (some (nat_lit 0)) (List.map Stk.enc []), AV.sl Mode.fresh (nat_lit 62) (some (nat_lit 2)) [AV.sl Mode.fresh (nat_lit 30) (some (nat_lit 0)) [], AV.sl Mode.fresh (nat_lit 30) (some (nat_lit 3)) [Idd.enc ic, Idd.enc ia, Idd.enc ib]]]]) (ans' := []) (base 174 0) cxA_K.1 cxA_K.2 _ (by kernel_rfl)  (allp (by (first | rw [view_yn] | rw [view_two] | rw [view_twoI] | rw [view_beds] | rw [view_frW] | rw [view_frN] | rw [view_twoF] | skip); apply x_jn1 <;> (first | assumption | rfl | (simp at * <;> omega))) (allp g0 allp_nil))
theorem l8_0 (u : Nat) (g0 : AV.agg [AV.sl Mode.fresh (nat_lit 62) (some (nat_lit 2)) [AV.sl Mode.fresh (nat_lit 30) (some (nat_lit 0)) [], AV.sl Mode.fresh (nat_lit 30) (some (nat_lit 3)) [Idd.enc ic, Idd.enc ia, Idd.enc ib]], AV.sl Mode.fresh (nat_lit 62) (some (nat_lit 0)) []] = AV.agg [AV.sl Mode.fresh (nat_lit 62) (some (nat_lit 2)) [AV.sl Mode.fresh (nat_lit 30) (some (nat_lit 0)) [], AV.sl Mode.fresh (nat_lit 30) (some (nat_lit 3)) [Idd.enc ic, Idd.enc ia, Idd.enc ib]], AV.sl Mode.fresh (nat_lit 62) (some (nat_lit 0)) (List.map Stk.enc [])]) : Tri Try.prog (cxN 174 0) (regAt Try.f37 8) ([(1, .box [ub 1, it 0]), (2, .box [ub 1, it 1]), (3, .box [ub 2, it 0]), (4, eX), (5, .box [ub 0, it 1]), (6, .box [ub 0, it 2]), (7, .box [ub 1, it 2]), (9, it 0), (10, eY)] ) (Ex.normal) ([(nat_lit 1, AV.box [ub 1, it 0]), (nat_lit 2, AV.box [ub 1, it 1]), (nat_lit 3, AV.box [ub 2, it 0]), (nat_lit 4, eX), (nat_lit 5, AV.box [ub 0, it 1]), (nat_lit 6, AV.box [ub 0, it 2]), (nat_lit 7, AV.box [ub 1, it 2]), (nat_lit 9, it 0), (nat_lit 10, eY), (nat_lit 11, AV.box [AV.sl Mode.fresh (nat_lit 62) (some (nat_lit 2)) [AV.sl Mode.fresh (nat_lit 30) (some (nat_lit 0)) [], AV.sl Mode.fresh (nat_lit 30) (some (nat_lit 3)) [Idd.enc ic, Idd.enc ia, Idd.enc ib]], AV.sl Mode.fresh (nat_lit 62) (some (nat_lit 0)) []]), (nat_lit 12, it 0)]) :=
  evA_ok (H := h37) (ans := [.c, .c, .c, .r (AV.tup [AV.agg [AV.sl Mode.fresh (nat_lit 62) (some (nat_lit 2)) [AV.sl Mode.fresh (nat_lit 30) (some (nat_lit 0)) [], AV.sl Mode.fresh (nat_lit 30) (some (nat_lit 3)) [Idd.enc ic, Idd.enc ia, Idd.enc ib]], AV.sl Mode.fresh (nat_lit 62) (some (nat_lit 0)) []], it 0]), .c, .c, .c, .r (AV.agg [AV.sl Mode.fresh (nat_lit 62) (some (nat_lit 2)) [AV.sl Mode.fresh (nat_lit 30) (some (nat_lit 0)) [], AV.sl Mode.fresh (nat_lit 30) (some (nat_lit 3)) [Idd.enc ic, Idd.enc ia, Idd.enc ib]], AV.sl Mode.fresh (nat_lit 62) (some (nat_lit 0)) (List.map Stk.enc [])]), .c, .c, .c, .c]) (ps := [PureC Try.prog (nat_lit 40) [view (AV.agg [tXF, tXB]), AV.agg [ub 1, it 2], AV.agg [ub 0, it 2]] (AV.tup [AV.agg [AV.sl Mode.fresh (nat_lit 62) (some (nat_lit 2)) [AV.sl Mode.fresh (nat_lit 30) (some (nat_lit 0)) [], AV.sl Mode.fresh (nat_lit 30) (some (nat_lit 3)) [Idd.enc ic, Idd.enc ia, Idd.enc ib]], AV.sl Mode.fresh (nat_lit 62) (some (nat_lit 0)) []], it 0]), AV.agg [AV.sl Mode.fresh (nat_lit 62) (some (nat_lit 2)) [AV.sl Mode.fresh (nat_lit 30) (some (nat_lit 0)) [], AV.sl Mode.fresh (nat_lit 30) (some (nat_lit 3)) [Idd.enc ic, Idd.enc ia, Idd.enc ib]], AV.sl Mode.fresh (nat_lit 62) (some (nat_lit 0)) []] = AV.agg [AV.sl Mode.fresh (nat_lit 62) (some (nat_lit 2)) [AV.sl Mode.fresh (nat_lit 30) (some (nat_lit 0)) [], AV.sl Mode.fresh (nat_lit 30) (some (nat_lit 3)) [Idd.enc ic, Idd.enc ia, Idd.enc ib]], AV.sl Mode.fresh (nat_lit 62) (some (nat_lit 0)) (List.map Stk.enc [])]]) (ans' := []) (base 174 0) cxA_K.1 cxA_K.2 _ (by kernel_rfl)  (allp (by (first | rw [view_yn] | rw [view_two] | rw [view_twoI] | rw [view_beds] | rw [view_frW] | rw [view_frN] | rw [view_twoF] | skip); apply x_jn2 <;> (first | assumption | rfl | (simp at * <;> omega))) (allp g0 allp_nil))
theorem l9_0 (u : Nat) : Tri Try.prog (cxN 174 0) (regAt Try.f37 9) ([(1, .box [ub 1, it 0]), (2, .box [ub 1, it 1]), (3, .box [ub 2, it 0]), (4, eX), (5, .box [ub 0, it 1]), (6, .box [ub 0, it 2]), (7, .box [ub 1, it 2]), (9, it 0), (10, eY), (11, eZ), (12, it 0)] ) (Ex.normal) ([(nat_lit 1, AV.box [ub 1, it 0]), (nat_lit 2, AV.box [ub 1, it 1]), (nat_lit 3, AV.box [ub 2, it 0]), (nat_lit 4, eX), (nat_lit 5, AV.box [ub 0, it 1]), (nat_lit 6, AV.box [ub 0, it 2]), (nat_lit 7, AV.box [ub 1, it 2]), (nat_lit 9, it 0), (nat_lit 10, eY), (nat_lit 11, eZ), (nat_lit 12, it 0), (nat_lit 14, it 13)]) :=
  evA_ok (H := h37) (ans := [.c, .c, .c, .r (AV.tup [AV.agg [AV.atom (Value.slice none (nat_lit 0) (nat_lit 0)), AV.atom (Value.slice none (nat_lit 0) (nat_lit 0))], it 13]), .c, .c, .c, .c, .c, .c, .c, .c]) (ps := [PureC Try.prog (nat_lit 40) [view (AV.agg [tXF, tXB]), AV.agg [ub 0, it 1], AV.agg [ub 1, it 1]] (AV.tup [AV.agg [AV.atom (Value.slice none (nat_lit 0) (nat_lit 0)), AV.atom (Value.slice none (nat_lit 0) (nat_lit 0))], it 13])]) (ans' := []) (base 174 0) cxA_K.1 cxA_K.2 _ (by kernel_rfl)  (allp (by (first | rw [view_yn] | rw [view_two] | rw [view_twoI] | rw [view_beds] | rw [view_frW] | rw [view_frN] | rw [view_twoF] | skip); apply x_jn3 <;> (first | assumption | rfl | (simp at * <;> omega))) allp_nil)
theorem l10_0 (u : Nat) : Tri Try.prog (cxN 174 0) (regAt Try.f37 10) ([(1, .box [ub 1, it 0]), (2, .box [ub 1, it 1]), (3, .box [ub 2, it 0]), (4, eX), (5, .box [ub 0, it 1]), (6, .box [ub 0, it 2]), (7, .box [ub 1, it 2]), (9, it 0), (10, eY), (11, eZ), (12, it 0), (14, it 13)] ) (Ex.normal) ([(nat_lit 1, AV.box [ub 1, it 0]), (nat_lit 2, AV.box [ub 1, it 1]), (nat_lit 3, AV.box [ub 2, it 0]), (nat_lit 4, eX), (nat_lit 5, AV.box [ub 0, it 1]), (nat_lit 6, AV.box [ub 0, it 2]), (nat_lit 7, AV.box [ub 1, it 2]), (nat_lit 9, it 0), (nat_lit 10, eY), (nat_lit 11, eZ), (nat_lit 12, it 0), (nat_lit 14, it 13), (nat_lit 16, it 1)]) :=
  evA_ok (H := h37) (ans := [.c, .c, .c, .r (AV.tup [AV.agg [AV.atom (Value.slice none (nat_lit 0) (nat_lit 0)), AV.atom (Value.slice none (nat_lit 0) (nat_lit 0))], it 1]), .c, .c, .c, .c, .c, .c, .c, .c]) (ps := [PureC Try.prog (nat_lit 40) [view (AV.agg [tXF, tXB]), AV.agg [ub 0, it 2], AV.agg [ub 0, it 3]] (AV.tup [AV.agg [AV.atom (Value.slice none (nat_lit 0) (nat_lit 0)), AV.atom (Value.slice none (nat_lit 0) (nat_lit 0))], it 1])]) (ans' := []) (base 174 0) cxA_K.1 cxA_K.2 _ (by kernel_rfl)  (allp (by (first | rw [view_yn] | rw [view_two] | rw [view_twoI] | rw [view_beds] | rw [view_frW] | rw [view_frN] | rw [view_twoF] | skip); apply x_jn4 <;> (first | assumption | rfl | (simp at * <;> omega))) allp_nil)
theorem l11_0 (u : Nat) (g0 : AV.agg [tN, tYB] = AV.agg [AV.sl Mode.any (nat_lit 62) (some (0 : Nat)) (List.map Stk.enc []), tYB]) (g1 : AV.sl Mode.own (nat_lit 30) (some (nat_lit 3)) [Idd.enc ic, Idd.enc ia, Idd.enc ib] = AV.sl Mode.own (nat_lit 30) (some (nat_lit 3)) (List.map Idd.enc [{ y := Idd.y ic, n := Idd.n ic }, ia, { y := Idd.y ib, n := Idd.n ib }])) (g2 : AV.sl Mode.own (nat_lit 30) (some (nat_lit 3)) [AV.agg [ub 2, it 0], AV.agg [ub 1, it 0], AV.agg [ub 1, it 1]] = AV.sl Mode.own (nat_lit 30) (some (3 : Nat)) (List.map Idd.enc [{ y := (2 : Int), n := (0 : Int) }, { y := (1 : Int), n := (0 : Int) }, { y := (1 : Int), n := (1 : Int) }])) (g3 : List.getD [tN, tYB] (0 : Nat) AV.bad = AV.sl Mode.any (nat_lit 62) (some (0 : Nat)) (List.map Stk.enc [])) (g4 : AV.agg [tYB, tN] = AV.agg [tYB, AV.sl Mode.any (nat_lit 62) (some (0 : Nat)) (List.map Stk.enc [])]) : Tri Try.prog (cxN 174 0) (regAt Try.f37 11) ([(1, .box [ub 1, it 0]), (2, .box [ub 1, it 1]), (3, .box [ub 2, it 0]), (4, eX), (5, .box [ub 0, it 1]), (6, .box [ub 0, it 2]), (7, .box [ub 1, it 2]), (9, it 0), (10, eY), (11, eZ), (12, it 0), (14, it 13), (16, it 1)] ) (Ex.normal) ([(nat_lit 2, AV.box [ub 1, it 1]), (nat_lit 3, AV.box [ub 2, it 0]), (nat_lit 4, eX), (nat_lit 5, AV.box [ub 0, it 1]), (nat_lit 6, AV.box [ub 0, it 2]), (nat_lit 10, eY), (nat_lit 137, AV.atom (Value.bool ((1 : Int) == (0 : Int))))]) :=
  evA_ok (H := h37) (ans := [.c, .c, .c, .c, .c, .c, .c, .c, .c, .c, .c, .c, .c, .c, .c, .c, .c, .c, .c, .c, .c, .c, .c, .c, .c, .r (AV.agg [AV.sl Mode.any (nat_lit 62) (some (0 : Nat)) (List.map Stk.enc []), tYB]), .c, .c, .c, .r (AV.sl Mode.own (nat_lit 30) (some (nat_lit 3)) [Idd.enc ic, Idd.enc ia, Idd.enc ib]), .c, .r (AV.sl Mode.own (nat_lit 30) (some (nat_lit 3)) (List.map Idd.enc [{ y := Idd.y ic, n := Idd.n ic }, ia, { y := Idd.y ib, n := Idd.n ib }])), .c, .c, .c, .c, .c, .c, .c, .r (AV.sl Mode.own (nat_lit 30) (some (3 : Nat)) (List.map Idd.enc [{ y := (2 : Int), n := (0 : Int) }, { y := (1 : Int), n := (0 : Int) }, { y := (1 : Int), n := (1 : Int) }])), .c, .r (AV.sl Mode.any (nat_lit 30) (some (nat_lit 3)) (List.map Idd.enc [{ y := Idd.y ic, n := Idd.n ic }, ia, { y := Idd.y ib, n := Idd.n ib }])), .r (AV.sl Mode.any (nat_lit 30) (some (3 : Nat)) (List.map Idd.enc [{ y := (2 : Int), n := (0 : Int) }, { y := (1 : Int), n := (0 : Int) }, { y := (1 : Int), n := (1 : Int) }])), .r (it 1), .c, .c, .c, .c, .c, .c, .c, .c, .c, .c, .c, .r (AV.sl Mode.any (nat_lit 62) (some (0 : Nat)) (List.map Stk.enc [])), .c, .c, .c, .c, .c, .c, .c, .c, .c, .r (AV.agg [tYB, AV.sl Mode.any (nat_lit 62) (some (0 : Nat)) (List.map Stk.enc [])]), .c, .c, .c, .r (AV.sl Mode.own (nat_lit 30) (some (nat_lit 3)) [Idd.enc ic, Idd.enc ia, Idd.enc ib]), .c, .r (AV.sl Mode.own (nat_lit 30) (some (nat_lit 3)) (List.map Idd.enc [{ y := Idd.y ic, n := Idd.n ic }, ia, { y := Idd.y ib, n := Idd.n ib }])), .c, .c, .c, .c, .c, .c, .c, .r (AV.sl Mode.own (nat_lit 30) (some (3 : Nat)) (List.map Idd.enc [{ y := (2 : Int), n := (0 : Int) }, { y := (1 : Int), n := (0 : Int) }, { y := (1 : Int), n := (1 : Int) }])), .c, .r (AV.sl Mode.any (nat_lit 30) (some (nat_lit 3)) (List.map Idd.enc [{ y := Idd.y ic, n := Idd.n ic }, ia, { y := Idd.y ib, n := Idd.n ib }])), .r (AV.sl Mode.any (nat_lit 30) (some (3 : Nat)) (List.map Idd.enc [{ y := (2 : Int), n := (0 : Int) }, { y := (1 : Int), n := (0 : Int) }, { y := (1 : Int), n := (1 : Int) }])), .r (it 1), .c, .c, .c, .c, .c, .c]) (ps := [AV.agg [tN, tYB] = AV.agg [AV.sl Mode.any (nat_lit 62) (some (0 : Nat)) (List.map Stk.enc []), tYB], PureC Try.prog (nat_lit 33) [view (AV.agg [tN, tYB]), AV.agg [ub 1, it 2]] (AV.sl Mode.own (nat_lit 30) (some (nat_lit 3)) [Idd.enc ic, Idd.enc ia, Idd.enc ib]), AV.sl Mode.own (nat_lit 30) (some (nat_lit 3)) [Idd.enc ic, Idd.enc ia, Idd.enc ib] = AV.sl Mode.own (nat_lit 30) (some (nat_lit 3)) (List.map Idd.enc [{ y := Idd.y ic, n := Idd.n ic }, ia, { y := Idd.y ib, n := Idd.n ib }]), AV.sl Mode.own (nat_lit 30) (some (nat_lit 3)) [AV.agg [ub 2, it 0], AV.agg [ub 1, it 0], AV.agg [ub 1, it 1]] = AV.sl Mode.own (nat_lit 30) (some (3 : Nat)) (List.map Idd.enc [{ y := (2 : Int), n := (0 : Int) }, { y := (1 : Int), n := (0 : Int) }, { y := (1 : Int), n := (1 : Int) }]), view (AV.sl Mode.own (nat_lit 30) (some (nat_lit 3)) [AV.agg [AV.atom (Value.int IntKind.u8 (Idd.y { y := Idd.y ic, n := Idd.n ic })), AV.atom (Value.int IntKind.i64 (Idd.n { y := Idd.y ic, n := Idd.n ic }))], AV.agg [AV.atom (Value.int IntKind.u8 (Idd.y ia)), AV.atom (Value.int IntKind.i64 (Idd.n ia))], AV.agg [AV.atom (Value.int IntKind.u8 (Idd.y { y := Idd.y ib, n := Idd.n ib })), AV.atom (Value.int IntKind.i64 (Idd.n { y := Idd.y ib, n := Idd.n ib }))]]) = AV.sl Mode.any (nat_lit 30) (some (nat_lit 3)) [AV.agg [AV.atom (Value.int IntKind.u8 (Idd.y { y := Idd.y ic, n := Idd.n ic })), AV.atom (Value.int IntKind.i64 (Idd.n { y := Idd.y ic, n := Idd.n ic }))], AV.agg [AV.atom (Value.int IntKind.u8 (Idd.y ia)), AV.atom (Value.int IntKind.i64 (Idd.n ia))], AV.agg [AV.atom (Value.int IntKind.u8 (Idd.y { y := Idd.y ib, n := Idd.n ib })), AV.atom (Value.int IntKind.i64 (Idd.n { y := Idd.y ib, n := Idd.n ib }))]], view (AV.sl Mode.own (nat_lit 30) (some (nat_lit 3)) [AV.agg [AV.atom (Value.int IntKind.u8 (Idd.y { y := (2 : Int), n := (0 : Int) })), AV.atom (Value.int IntKind.i64 (Idd.n { y := (2 : Int), n := (0 : Int) }))], AV.agg [AV.atom (Value.int IntKind.u8 (Idd.y { y := (1 : Int), n := (0 : Int) })), AV.atom (Value.int IntKind.i64 (Idd.n { y := (1 : Int), n := (0 : Int) }))], AV.agg [AV.atom (Value.int IntKind.u8 (Idd.y { y := (1 : Int), n := (1 : Int) })), AV.atom (Value.int IntKind.i64 (Idd.n { y := (1 : Int), n := (1 : Int) }))]]) = AV.sl Mode.any (nat_lit 30) (some (nat_lit 3)) [AV.agg [AV.atom (Value.int IntKind.u8 (Idd.y { y := (2 : Int), n := (0 : Int) })), AV.atom (Value.int IntKind.i64 (Idd.n { y := (2 : Int), n := (0 : Int) }))], AV.agg [AV.atom (Value.int IntKind.u8 (Idd.y { y := (1 : Int), n := (0 : Int) })), AV.atom (Value.int IntKind.i64 (Idd.n { y := (1 : Int), n := (0 : Int) }))], AV.agg [AV.atom (Value.int IntKind.u8 (Idd.y { y := (1 : Int), n := (1 : Int) })), AV.atom (Value.int IntKind.i64 (Idd.n { y := (1 : Int), n := (1 : Int) }))]], PureC Try.prog (nat_lit 41) [AV.sl Mode.any (nat_lit 30) (some (nat_lit 3)) [AV.agg [AV.atom (Value.int IntKind.u8 (Idd.y { y := Idd.y ic, n := Idd.n ic })), AV.atom (Value.int IntKind.i64 (Idd.n { y := Idd.y ic, n := Idd.n ic }))], AV.agg [AV.atom (Value.int IntKind.u8 (Idd.y ia)), AV.atom (Value.int IntKind.i64 (Idd.n ia))], AV.agg [AV.atom (Value.int IntKind.u8 (Idd.y { y := Idd.y ib, n := Idd.n ib })), AV.atom (Value.int IntKind.i64 (Idd.n { y := Idd.y ib, n := Idd.n ib }))]], AV.sl Mode.any (nat_lit 30) (some (nat_lit 3)) [AV.agg [AV.atom (Value.int IntKind.u8 (Idd.y { y := (2 : Int), n := (0 : Int) })), AV.atom (Value.int IntKind.i64 (Idd.n { y := (2 : Int), n := (0 : Int) }))], AV.agg [AV.atom (Value.int IntKind.u8 (Idd.y { y := (1 : Int), n := (0 : Int) })), AV.atom (Value.int IntKind.i64 (Idd.n { y := (1 : Int), n := (0 : Int) }))], AV.agg [AV.atom (Value.int IntKind.u8 (Idd.y { y := (1 : Int), n := (1 : Int) })), AV.atom (Value.int IntKind.i64 (Idd.n { y := (1 : Int), n := (1 : Int) }))]]] (it 1), List.getD [tN, tYB] (0 : Nat) AV.bad = AV.sl Mode.any (nat_lit 62) (some (0 : Nat)) (List.map Stk.enc []), AV.agg [tYB, tN] = AV.agg [tYB, AV.sl Mode.any (nat_lit 62) (some (0 : Nat)) (List.map Stk.enc [])], PureC Try.prog (nat_lit 33) [view (AV.agg [tYB, tN]), AV.agg [ub 0, it 2]] (AV.sl Mode.own (nat_lit 30) (some (nat_lit 3)) [Idd.enc ic, Idd.enc ia, Idd.enc ib]), AV.sl Mode.own (nat_lit 30) (some (nat_lit 3)) [Idd.enc ic, Idd.enc ia, Idd.enc ib] = AV.sl Mode.own (nat_lit 30) (some (nat_lit 3)) (List.map Idd.enc [{ y := Idd.y ic, n := Idd.n ic }, ia, { y := Idd.y ib, n := Idd.n ib }]), AV.sl Mode.own (nat_lit 30) (some (nat_lit 3)) [AV.agg [ub 2, it 0], AV.agg [ub 1, it 0], AV.agg [ub 1, it 1]] = AV.sl Mode.own (nat_lit 30) (some (3 : Nat)) (List.map Idd.enc [{ y := (2 : Int), n := (0 : Int) }, { y := (1 : Int), n := (0 : Int) }, { y := (1 : Int), n := (1 : Int) }]), view (AV.sl Mode.own (nat_lit 30) (some (nat_lit 3)) [AV.agg [AV.atom (Value.int IntKind.u8 (Idd.y { y := Idd.y ic, n := Idd.n ic })), AV.atom (Value.int IntKind.i64 (Idd.n { y := Idd.y ic, n := Idd.n ic }))], AV.agg [AV.atom (Value.int IntKind.u8 (Idd.y ia)), AV.atom (Value.int IntKind.i64 (Idd.n ia))], AV.agg [AV.atom (Value.int IntKind.u8 (Idd.y { y := Idd.y ib, n := Idd.n ib })), AV.atom (Value.int IntKind.i64 (Idd.n { y := Idd.y ib, n := Idd.n ib }))]]) = AV.sl Mode.any (nat_lit 30) (some (nat_lit 3)) [AV.agg [AV.atom (Value.int IntKind.u8 (Idd.y { y := Idd.y ic, n := Idd.n ic })), AV.atom (Value.int IntKind.i64 (Idd.n { y := Idd.y ic, n := Idd.n ic }))], AV.agg [AV.atom (Value.int IntKind.u8 (Idd.y ia)), AV.atom (Value.int IntKind.i64 (Idd.n ia))], AV.agg [AV.atom (Value.int IntKind.u8 (Idd.y { y := Idd.y ib, n := Idd.n ib })), AV.atom (Value.int IntKind.i64 (Idd.n { y := Idd.y ib, n := Idd.n ib }))]], view (AV.sl Mode.own (nat_lit 30) (some (nat_lit 3)) [AV.agg [AV.atom (Value.int IntKind.u8 (Idd.y { y := (2 : Int), n := (0 : Int) })), AV.atom (Value.int IntKind.i64 (Idd.n { y := (2 : Int), n := (0 : Int) }))], AV.agg [AV.atom (Value.int IntKind.u8 (Idd.y { y := (1 : Int), n := (0 : Int) })), AV.atom (Value.int IntKind.i64 (Idd.n { y := (1 : Int), n := (0 : Int) }))], AV.agg [AV.atom (Value.int IntKind.u8 (Idd.y { y := (1 : Int), n := (1 : Int) })), AV.atom (Value.int IntKind.i64 (Idd.n { y := (1 : Int), n := (1 : Int) }))]]) = AV.sl Mode.any (nat_lit 30) (some (nat_lit 3)) [AV.agg [AV.atom (Value.int IntKind.u8 (Idd.y { y := (2 : Int), n := (0 : Int) })), AV.atom (Value.int IntKind.i64 (Idd.n { y := (2 : Int), n := (0 : Int) }))], AV.agg [AV.atom (Value.int IntKind.u8 (Idd.y { y := (1 : Int), n := (0 : Int) })), AV.atom (Value.int IntKind.i64 (Idd.n { y := (1 : Int), n := (0 : Int) }))], AV.agg [AV.atom (Value.int IntKind.u8 (Idd.y { y := (1 : Int), n := (1 : Int) })), AV.atom (Value.int IntKind.i64 (Idd.n { y := (1 : Int), n := (1 : Int) }))]], PureC Try.prog (nat_lit 41) [AV.sl Mode.any (nat_lit 30) (some (nat_lit 3)) [AV.agg [AV.atom (Value.int IntKind.u8 (Idd.y { y := Idd.y ic, n := Idd.n ic })), AV.atom (Value.int IntKind.i64 (Idd.n { y := Idd.y ic, n := Idd.n ic }))], AV.agg [AV.atom (Value.int IntKind.u8 (Idd.y ia)), AV.atom (Value.int IntKind.i64 (Idd.n ia))], AV.agg [AV.atom (Value.int IntKind.u8 (Idd.y { y := Idd.y ib, n := Idd.n ib })), AV.atom (Value.int IntKind.i64 (Idd.n { y := Idd.y ib, n := Idd.n ib }))]], AV.sl Mode.any (nat_lit 30) (some (nat_lit 3)) [AV.agg [AV.atom (Value.int IntKind.u8 (Idd.y { y := (2 : Int), n := (0 : Int) })), AV.atom (Value.int IntKind.i64 (Idd.n { y := (2 : Int), n := (0 : Int) }))], AV.agg [AV.atom (Value.int IntKind.u8 (Idd.y { y := (1 : Int), n := (0 : Int) })), AV.atom (Value.int IntKind.i64 (Idd.n { y := (1 : Int), n := (0 : Int) }))], AV.agg [AV.atom (Value.int IntKind.u8 (Idd.y { y := (1 : Int), n := (1 : Int) })), AV.atom (Value.int IntKind.i64 (Idd.n { y := (1 : Int), n := (1 : Int) }))]]] (it 1)]) (ans' := []) (base 174 0) cxA_K.1 cxA_K.2 _ (by kernel_rfl)  (allp g0 (allp (by (first | rw [view_yn] | rw [view_two] | rw [view_twoI] | rw [view_beds] | rw [view_frW] | rw [view_frN] | rw [view_twoF] | skip); first | (apply y_at <;> (first | assumption | rfl | (simp at * <;> omega))) | (apply z_at <;> (first | assumption | rfl | (simp at * <;> omega)))) (allp g1 (allp g2 (allp (by first | exact view_ps _ _ _ | exact view_u8 _ _ _ | rfl | exact view_yn _ _ _ _ _ _ _ | exact view_id _ _ _ | exact view_stk _ _ _ | exact view_beds _ _ _ _ _ _ | exact view_pt _ _ _) (allp (by first | exact view_ps _ _ _ | exact view_u8 _ _ _ | rfl | exact view_yn _ _ _ _ _ _ _ | exact view_id _ _ _ | exact view_stk _ _ _ | exact view_beds _ _ _ _ _ _ | exact view_pt _ _ _) (allp (by apply s_y <;> (first | assumption | rfl | (simp at * <;> omega))) (allp g3 (allp g4 (allp (by (first | rw [view_yn] | rw [view_two] | rw [view_twoI] | rw [view_beds] | rw [view_frW] | rw [view_frN] | rw [view_twoF] | skip); first | (apply y_at <;> (first | assumption | rfl | (simp at * <;> omega))) | (apply z_at <;> (first | assumption | rfl | (simp at * <;> omega)))) (allp g1 (allp g2 (allp (by first | exact view_ps _ _ _ | exact view_u8 _ _ _ | rfl | exact view_yn _ _ _ _ _ _ _ | exact view_id _ _ _ | exact view_stk _ _ _ | exact view_beds _ _ _ _ _ _ | exact view_pt _ _ _) (allp (by first | exact view_ps _ _ _ | exact view_u8 _ _ _ | rfl | exact view_yn _ _ _ _ _ _ _ | exact view_id _ _ _ | exact view_stk _ _ _ | exact view_beds _ _ _ _ _ _ | exact view_pt _ _ _) (allp (by apply s_y <;> (first | assumption | rfl | (simp at * <;> omega))) allp_nil)))))))))))))))
theorem l13_0 (u : Nat) (g0 : AV.sl Mode.own (nat_lit 30) (some (nat_lit 1)) [AV.agg [ub 2, it 0]] = AV.sl Mode.own (nat_lit 30) (some (1 : Nat)) (List.map Idd.enc [{ y := (2 : Int), n := (0 : Int) }])) : Tri Try.prog (cxN 174 0) (regAt Try.f37 13) ([(2, .box [ub 1, it 1]), (3, .box [ub 2, it 0]), (4, eX), (5, .box [ub 0, it 1]), (6, .box [ub 0, it 2]), (10, eY)] ) (Ex.normal) ([(nat_lit 2, AV.box [ub 1, it 1]), (nat_lit 4, eX), (nat_lit 6, AV.box [ub 0, it 2]), (nat_lit 9, it 8), (nat_lit 10, eY)]) :=
  evA_ok (H := h37) (ans := [.c, .c, .c, .r (AV.sl Mode.own (nat_lit 30) (some (1 : Nat)) (List.map Idd.enc [{ y := (2 : Int), n := (0 : Int) }])), .r (AV.sl Mode.any (nat_lit 30) (some (1 : Nat)) (List.map Idd.enc [{ y := (2 : Int), n := (0 : Int) }])), .r (AV.tup [AV.agg [AV.atom (Value.slice none (nat_lit 0) (nat_lit 0)), AV.atom (Value.slice none (nat_lit 0) (nat_lit 0))], it 8]), .c, .c, .c, .c, .c, .c]) (ps := [AV.sl Mode.own (nat_lit 30) (some (nat_lit 1)) [AV.agg [ub 2, it 0]] = AV.sl Mode.own (nat_lit 30) (some (1 : Nat)) (List.map Idd.enc [{ y := (2 : Int), n := (0 : Int) }]), view (AV.sl Mode.own (nat_lit 30) (some (nat_lit 1)) [AV.agg [AV.atom (Value.int IntKind.u8 (Idd.y { y := (2 : Int), n := (0 : Int) })), AV.atom (Value.int IntKind.i64 (Idd.n { y := (2 : Int), n := (0 : Int) }))]]) = AV.sl Mode.any (nat_lit 30) (some (nat_lit 1)) [AV.agg [AV.atom (Value.int IntKind.u8 (Idd.y { y := (2 : Int), n := (0 : Int) })), AV.atom (Value.int IntKind.i64 (Idd.n { y := (2 : Int), n := (0 : Int) }))]], PureC Try.prog (nat_lit 38) [view (AV.agg [tXF, tXB]), AV.agg [ub 0, it 1], AV.sl Mode.any (nat_lit 30) (some (nat_lit 1)) [AV.agg [AV.atom (Value.int IntKind.u8 (Idd.y { y := (2 : Int), n := (0 : Int) })), AV.atom (Value.int IntKind.i64 (Idd.n { y := (2 : Int), n := (0 : Int) }))]]] (AV.tup [AV.agg [AV.atom (Value.slice none (nat_lit 0) (nat_lit 0)), AV.atom (Value.slice none (nat_lit 0) (nat_lit 0))], it 8])]) (ans' := []) (base 174 0) cxA_K.1 cxA_K.2 _ (by kernel_rfl)  (allp g0 (allp (by first | exact view_ps _ _ _ | exact view_u8 _ _ _ | rfl | exact view_yn _ _ _ _ _ _ _ | exact view_id _ _ _ | exact view_stk _ _ _ | exact view_beds _ _ _ _ _ _ | exact view_pt _ _ _) (allp (by (first | rw [view_yn] | rw [view_two] | rw [view_twoI] | rw [view_beds] | rw [view_frW] | rw [view_frN] | rw [view_twoF] | skip); apply x_set1 <;> (first | assumption | rfl | (simp at * <;> omega))) allp_nil)))
theorem l14_0 (u : Nat) (g0 : AV.sl Mode.own (nat_lit 30) (some (nat_lit 1)) [AV.agg [ub 1, it 1]] = AV.sl Mode.own (nat_lit 30) (some (1 : Nat)) (List.map Idd.enc [{ y := (1 : Int), n := (1 : Int) }])) : Tri Try.prog (cxN 174 0) (regAt Try.f37 14) ([(2, .box [ub 1, it 1]), (4, eX), (6, .box [ub 0, it 2]), (9, it 8), (10, eY)] ) (Ex.normal) ([(nat_lit 2, AV.box [ub 1, it 1]), (nat_lit 6, AV.box [ub 0, it 2]), (nat_lit 9, it 8), (nat_lit 10, AV.box [AV.sl Mode.fresh (nat_lit 62) (some (nat_lit 2)) [AV.sl Mode.fresh (nat_lit 30) (some (nat_lit 0)) [], AV.sl Mode.fresh (nat_lit 30) (some (nat_lit 1)) [Idd.enc ib]], AV.sl Mode.fresh (nat_lit 62) (some (nat_lit 2)) [AV.sl Mode.fresh (nat_lit 30) (some (nat_lit 0)) [], AV.sl Mode.fresh (nat_lit 30) (some (nat_lit 1)) [Idd.enc ic]]]), (nat_lit 12, it 0)]) :=
  evA_ok (H := h37) (ans := [.c, .c, .c, .r (AV.sl Mode.own (nat_lit 30) (some (1 : Nat)) (List.map Idd.enc [{ y := (1 : Int), n := (1 : Int) }])), .r (AV.sl Mode.any (nat_lit 30) (some (1 : Nat)) (List.map Idd.enc [{ y := (1 : Int), n := (1 : Int) }])), .r (AV.tup [AV.agg [AV.sl Mode.fresh (nat_lit 62) (some (nat_lit 2)) [AV.sl Mode.fresh (nat_lit 30) (some (nat_lit 0)) [], AV.sl Mode.fresh (nat_lit 30) (some (nat_lit 1)) [Idd.enc ib]], AV.sl Mode.fresh (nat_lit 62) (some (nat_lit 2)) [AV.sl Mode.fresh (nat_lit 30) (some (nat_lit 0)) [], AV.sl Mode.fresh (nat_lit 30) (some (nat_lit 1)) [Idd.enc ic]]], it 0]), .c, .c, .c, .c, .c, .c, .c]) (ps := [AV.sl Mode.own (nat_lit 30) (some (nat_lit 1)) [AV.agg [ub 1, it 1]] = AV.sl Mode.own (nat_lit 30) (some (1 : Nat)) (List.map Idd.enc [{ y := (1 : Int), n := (1 : Int) }]), view (AV.sl Mode.own (nat_lit 30) (some (nat_lit 1)) [AV.agg [AV.atom (Value.int IntKind.u8 (Idd.y { y := (1 : Int), n := (1 : Int) })), AV.atom (Value.int IntKind.i64 (Idd.n { y := (1 : Int), n := (1 : Int) }))]]) = AV.sl Mode.any (nat_lit 30) (some (nat_lit 1)) [AV.agg [AV.atom (Value.int IntKind.u8 (Idd.y { y := (1 : Int), n := (1 : Int) })), AV.atom (Value.int IntKind.i64 (Idd.n { y := (1 : Int), n := (1 : Int) }))]], PureC Try.prog (nat_lit 38) [view (AV.agg [tXF, tXB]), AV.agg [ub 0, it 2], AV.sl Mode.any (nat_lit 30) (some (nat_lit 1)) [AV.agg [AV.atom (Value.int IntKind.u8 (Idd.y { y := (1 : Int), n := (1 : Int) })), AV.atom (Value.int IntKind.i64 (Idd.n { y := (1 : Int), n := (1 : Int) }))]]] (AV.tup [AV.agg [AV.sl Mode.fresh (nat_lit 62) (some (nat_lit 2)) [AV.sl Mode.fresh (nat_lit 30) (some (nat_lit 0)) [], AV.sl Mode.fresh (nat_lit 30) (some (nat_lit 1)) [Idd.enc ib]], AV.sl Mode.fresh (nat_lit 62) (some (nat_lit 2)) [AV.sl Mode.fresh (nat_lit 30) (some (nat_lit 0)) [], AV.sl Mode.fresh (nat_lit 30) (some (nat_lit 1)) [Idd.enc ic]]], it 0])]) (ans' := []) (base 174 0) cxA_K.1 cxA_K.2 _ (by kernel_rfl)  (allp g0 (allp (by first | exact view_ps _ _ _ | exact view_u8 _ _ _ | rfl | exact view_yn _ _ _ _ _ _ _ | exact view_id _ _ _ | exact view_stk _ _ _ | exact view_beds _ _ _ _ _ _ | exact view_pt _ _ _) (allp (by (first | rw [view_yn] | rw [view_two] | rw [view_twoI] | rw [view_beds] | rw [view_frW] | rw [view_frN] | rw [view_twoF] | skip); apply x_set2 <;> (first | assumption | rfl | (simp at * <;> omega))) allp_nil)))
theorem l15_0 (u : Nat) (g0 : AV.sl Mode.own (nat_lit 30) (some (nat_lit 1)) [Idd.enc ib] = AV.sl Mode.own (nat_lit 30) (some (nat_lit 1)) (List.map Idd.enc [{ y := Idd.y ib, n := Idd.n ib }])) (g1 : AV.sl Mode.own (nat_lit 30) (some (nat_lit 1)) [AV.agg [ub 1, it 1]] = AV.sl Mode.own (nat_lit 30) (some (1 : Nat)) (List.map Idd.enc [{ y := (1 : Int), n := (1 : Int) }])) : Tri Try.prog (cxN 174 0) (regAt Try.f37 15) ([(2, .box [ub 1, it 1]), (6, .box [ub 0, it 2]), (9, it 8), (10, eV), (12, it 0)] ) (Ex.normal) ([(nat_lit 0, AV.atom (Value.bool ((2 : Int) == (2 : Int))))]) :=
  evA_ok (H := h37) (ans := [.c, .c, .c, .c, .c, .c, .c, .c, .c, .c, .c, .c, .c, .c, .c, .r (AV.sl Mode.own (nat_lit 30) (some (nat_lit 1)) [Idd.enc ib]), .c, .r (AV.sl Mode.own (nat_lit 30) (some (nat_lit 1)) (List.map Idd.enc [{ y := Idd.y ib, n := Idd.n ib }])), .c, .c, .c, .r (AV.sl Mode.own (nat_lit 30) (some (1 : Nat)) (List.map Idd.enc [{ y := (1 : Int), n := (1 : Int) }])), .c, .r (AV.sl Mode.any (nat_lit 30) (some (nat_lit 1)) (List.map Idd.enc [{ y := Idd.y ib, n := Idd.n ib }])), .r (AV.sl Mode.any (nat_lit 30) (some (1 : Nat)) (List.map Idd.enc [{ y := (1 : Int), n := (1 : Int) }])), .r (it 1), .c, .c, .c, .c, .c, .c, .c, .c, .c, .c, .r (it 2), .c, .c, .c, .c, .c, .c, .c]) (ps := [PureC Try.prog (nat_lit 33) [view (AV.agg [tVF, tXB]), AV.agg [ub 0, it 2]] (AV.sl Mode.own (nat_lit 30) (some (nat_lit 1)) [Idd.enc ib]), AV.sl Mode.own (nat_lit 30) (some (nat_lit 1)) [Idd.enc ib] = AV.sl Mode.own (nat_lit 30) (some (nat_lit 1)) (List.map Idd.enc [{ y := Idd.y ib, n := Idd.n ib }]), AV.sl Mode.own (nat_lit 30) (some (nat_lit 1)) [AV.agg [ub 1, it 1]] = AV.sl Mode.own (nat_lit 30) (some (1 : Nat)) (List.map Idd.enc [{ y := (1 : Int), n := (1 : Int) }]), view (AV.sl Mode.own (nat_lit 30) (some (nat_lit 1)) [AV.agg [AV.atom (Value.int IntKind.u8 (Idd.y { y := Idd.y ib, n := Idd.n ib })), AV.atom (Value.int IntKind.i64 (Idd.n { y := Idd.y ib, n := Idd.n ib }))]]) = AV.sl Mode.any (nat_lit 30) (some (nat_lit 1)) [AV.agg [AV.atom (Value.int IntKind.u8 (Idd.y { y := Idd.y ib, n := Idd.n ib })), AV.atom (Value.int IntKind.i64 (Idd.n { y := Idd.y ib, n := Idd.n ib }))]], view (AV.sl Mode.own (nat_lit 30) (some (nat_lit 1)) [AV.agg [AV.atom (Value.int IntKind.u8 (Idd.y { y := (1 : Int), n := (1 : Int) })), AV.atom (Value.int IntKind.i64 (Idd.n { y := (1 : Int), n := (1 : Int) }))]]) = AV.sl Mode.any (nat_lit 30) (some (nat_lit 1)) [AV.agg [AV.atom (Value.int IntKind.u8 (Idd.y { y := (1 : Int), n := (1 : Int) })), AV.atom (Value.int IntKind.i64 (Idd.n { y := (1 : Int), n := (1 : Int) }))]], PureC Try.prog (nat_lit 41) [AV.sl Mode.any (nat_lit 30) (some (nat_lit 1)) [AV.agg [AV.atom (Value.int IntKind.u8 (Idd.y { y := Idd.y ib, n := Idd.n ib })), AV.atom (Value.int IntKind.i64 (Idd.n { y := Idd.y ib, n := Idd.n ib }))]], AV.sl Mode.any (nat_lit 30) (some (nat_lit 1)) [AV.agg [AV.atom (Value.int IntKind.u8 (Idd.y { y := (1 : Int), n := (1 : Int) })), AV.atom (Value.int IntKind.i64 (Idd.n { y := (1 : Int), n := (1 : Int) }))]]] (it 1), PureC Try.prog (nat_lit 36) [view (AV.agg [tVF, tXB])] (it 2)]) (ans' := []) (base 174 0) cxA_K.1 cxA_K.2 _ (by kernel_rfl)  (allp (by (first | rw [view_yn] | rw [view_two] | rw [view_twoI] | rw [view_beds] | rw [view_frW] | rw [view_frN] | rw [view_twoF] | skip); apply v_at <;> (first | assumption | rfl | (simp at * <;> omega))) (allp g0 (allp g1 (allp (by first | exact view_ps _ _ _ | exact view_u8 _ _ _ | rfl | exact view_yn _ _ _ _ _ _ _ | exact view_id _ _ _ | exact view_stk _ _ _ | exact view_beds _ _ _ _ _ _ | exact view_pt _ _ _) (allp (by first | exact view_ps _ _ _ | exact view_u8 _ _ _ | rfl | exact view_yn _ _ _ _ _ _ _ | exact view_id _ _ _ | exact view_stk _ _ _ | exact view_beds _ _ _ _ _ _ | exact view_pt _ _ _) (allp (by apply s_v <;> (first | assumption | rfl | (simp at * <;> omega))) (allp (by (first | rw [view_yn] | rw [view_two] | rw [view_twoI] | rw [view_beds] | rw [view_frW] | rw [view_frN] | rw [view_twoF] | skip); apply v_cnt <;> (first | assumption | rfl | (simp at * <;> omega))) allp_nil)))))))
end Tst
end

section
open Go Go.Lf Go.Proofs
namespace Tst
set_option maxHeartbeats 0
theorem OpsR.grab {P : Program} {cx : Cx} {ops : Array Oper} {env : Env} {r : Nat} {e : TypeId} {cap : Option Nat} {xs : List AV} (hr : lk env r = some (.sl .own e cap xs)) : OpsR P cx ops [] env (· = (r, share (.sl .own e cap xs)) :: env) := by
  intro ρ F B0 w0 S0 ds a w Q rest hag hQ
  obtain ⟨hd, hN, n, S, Os, hn, hgr, hst⟩ := hag
  obtain ⟨n', S', Os', vr, u, m, hn', hst', hS, _, _, _, _, _, hS'⟩ := hst.shareAt (p := []) hr rfl rfl (.inl rfl)
  refine hQ _ rfl a w ⟨hd, hN, n', S', Os', by omega, ⟨fun b hb => hS b (hgr.1 b hb), fun b hb => ?_⟩, hst'⟩
  rcases hS' b hb with h | h
  · exact hgr.2 b h
  · exact .inr (hst.lt r b h).1
abbrev e2 : Env := [(1, .box [ub 1, it 0]), (2, .box [ub 1, it 1]), (3, .box [ub 2, it 0])]
abbrev q20 : AV := .agg [ub 1, it 0]
abbrev q21 : AV := .agg [ub 1, it 1]
abbrev q24 : AV := .agg [ub 2, it 0]
abbrev s22 : AV := .sl .fresh 30 (some 2) [q20, q21]
abbrev s25 : AV := .sl .fresh 30 (some 1) [q24]
abbrev f2 : Env := [(26, .sl .own 62 (some 2) [niln, s25]), (25, s25), (25, .sl .own 30 (some 1) [q24]), (24, q24), (23, .sl .own 62 (some 2) [niln, s22]), (22, s22), (22, .sl .own 30 (some 2) [q20, q21]), (21, q21), (20, q20), (1, .box [ub 1, it 0]), (2, .box [ub 1, it 1]), (3, .box [ub 2, it 0])]
abbrev s23 : AV := .sl .fresh 62 (some 2) [niln, s22]
abbrev s26 : AV := .sl .fresh 62 (some 2) [niln, s25]
theorem r2code : regAt Try.f37 2 = .region 2 (opsAt Try.f37 2) false := by kernel_rfl
theorem r2ops : (opsAt Try.f37 2).toList = (opsAt Try.f37 2).toList.take 7 ++ ([] ++ (opsAt Try.f37 2).toList.drop 7) := by kernel_rfl
abbrev f3 : Env := [(4, .box [s23, s26]), (4, .box [niln, niln]), (27, .agg [s23, s26]), (26, s26)] ++ (23, s23) :: f2
theorem le_nl (l : List Idd) : Le Try.prog (.sl .fresh 30 (some l.length) (l.map Idd.enc)) (.sl .any 30 (some l.length) (l.map Idd.enc)) := Le.toAny (by decide) rfl (fun _ h => h) (F2.rfl' _)
theorem le_el (l : List Idd) : Le Try.prog (.sl .fresh 62 (some 2) [niln, .sl .fresh 30 (some l.length) (l.map Idd.enc)]) (.sl .any 62 (some 2) [.sl .any 30 (some 0) [], .sl .any 30 (some l.length) (l.map Idd.enc)]) := by
  refine Le.toAny (by decide) rfl (fun sz h y hy => ?_) (.cons (Le.nil 30) (.cons (le_nl l) .nil))
  have h1 := h _ (List.mem_cons_self)
  rcases List.mem_cons.1 hy with rfl | hy
  · exact h1
  · rcases List.mem_cons.1 hy with rfl | hy
    · exact h1
    · cases hy
theorem le_e2 (l m : List Idd) : Le Try.prog (.sl .fresh 62 (some 2) [.sl .fresh 30 (some l.length) (l.map Idd.enc), .sl .fresh 30 (some m.length) (m.map Idd.enc)]) (.sl .any 62 (some 2) [.sl .any 30 (some l.length) (l.map Idd.enc), .sl .any 30 (some m.length) (m.map Idd.enc)]) := by
  refine Le.toAny (by decide) rfl (fun sz h y hy => ?_) (.cons (le_nl l) (.cons (le_nl m) .nil))
  have h1 := h _ (List.mem_cons_self)
  rcases List.mem_cons.1 hy with rfl | hy
  · exact h1
  · rcases List.mem_cons.1 hy with rfl | hy
    · exact h1
    · cases hy
theorem le_n : Le Try.prog (.sl .fresh 62 (some 0) []) tN := Le.toAny (by decide) rfl (fun _ h => h) .nil
abbrev E3 : Env := e2 ++ [(4, eX)]
theorem l2_c : Tri Try.prog (cxN 174 0) (regAt Try.f37 2) e2 .normal E3 := by
  have h : Tri Try.prog (cxN 174 0) (regAt Try.f37 2) e2 .normal f3 := by
    rw [r2code]
    refine Tri.ofR (R := (· = f3)) (TriR.region ?_) fun _ h => h
    rw [r2ops]
    refine .seq (OpsR.ev (base 174 0) cxA_K.1 cxA_K.2 (ans := List.replicate 9 .c) (ps := []) (env' := f2) (by kernel_rfl) allp_nil) ?_
    rintro _ rfl
    refine .seq (OpsR.grab (r := 23) rfl) ?_
    rintro _ rfl
    exact OpsR.ev (base 174 0) cxA_K.1 cxA_K.2 (ans := List.replicate 20 .c) (ps := []) (env' := f3) (by kernel_rfl) allp_nil
  refine Tri.less (Tri.after [(1, .keep), (2, .keep), (3, .keep), (4, .keep)] h) ?_
  show EnvLe Try.prog (e2 ++ [(4, .box [s23, s26])]) E3
  exact .cons ⟨rfl, rfl, Le.refl _⟩ (.cons ⟨rfl, rfl, Le.refl _⟩ (.cons ⟨rfl, rfl, Le.refl _⟩ (.cons ⟨rfl, rfl, Le.box (.cons (le_el [ia, ib]) (.cons (le_el [ic]) .nil))⟩ .nil)))
abbrev E7 : Env := [(1, .box [ub 1, it 0]), (2, .box [ub 1, it 1]), (3, .box [ub 2, it 0]), (4, eX), (5, .box [ub 0, it 1]), (6, .box [ub 0, it 2]), (7, .box [ub 1, it 2])]
theorem lives_code : Try.f37.body = some (.seq (regAt Try.f37 0) (.seq (regAt Try.f37 1) (.seq (regAt Try.f37 2) (.seq (regAt Try.f37 3) (.seq (regAt Try.f37 4) (.seq (.seq (regAt Try.f37 5) (.cond (.tmp 67) (.seq (regAt Try.f37 6) .ret) .skip))
    (.seq (regAt Try.f37 7) (.seq (regAt Try.f37 8) (.seq (regAt Try.f37 9) (.seq (regAt Try.f37 10) (.seq (.seq (regAt Try.f37 11) (.cond (.tmp 137) (.seq (regAt Try.f37 12) .ret) .skip)) (.seq (regAt Try.f37 13) (.seq (regAt Try.f37 14) (.seq (regAt Try.f37 15) .ret)))))))))))))) := by kernel_rfl
abbrev E8 : Env := E7 ++ [(9, it 0), (10, eY)]
abbrev E9 : Env := E8 ++ [(11, eZ), (12, it 0)]
abbrev E14 : Env := [(2, .box [ub 1, it 1]), (6, .box [ub 0, it 2]), (9, it 8), (10, eV), (12, it 0)]
theorem lives : PureC Try.prog 37 [] (bb true) := by
  refine pureT ((base 174 0).ok cxA_K.1 cxA_K.2) Try.func37 rfl (by show 0 ≤ 174; omega) rfl lives_code rfl (ex := .ret) (env' := [(0, bb true)]) ?_ rfl
  refine .seq (l0_0 0) (.seq (l1_0 0) (.seq l2_c (.seq (l3_0 0) (.seq (l4_0 0) (.seq (.seq (l5_0 0 rfl rfl) (.cond (b := false) rfl .skip)) ?_)))))
  refine Tri.weak [(1, .keep), (2, .keep), (3, .keep), (4, .keep), (5, .keep), (6, .keep), (7, .keep)] ?_
  refine .seq (Tri.less (env2 := E8) (l7_0 0 rfl) ?_) (.seq (Tri.less (env2 := E9) (l8_0 0 rfl) ?_) (.seq (l9_0 0) (.seq (l10_0 0) (.seq (.seq (l11_0 0 rfl rfl rfl rfl rfl) (.cond (b := false) rfl .skip)) ?_))))
  · exact .cons ⟨rfl, rfl, Le.refl _⟩ (.cons ⟨rfl, rfl, Le.refl _⟩ (.cons ⟨rfl, rfl, Le.refl _⟩ (.cons ⟨rfl, rfl, Le.refl _⟩ (.cons ⟨rfl, rfl, Le.refl _⟩ (.cons ⟨rfl, rfl, Le.refl _⟩ (.cons ⟨rfl, rfl, Le.refl _⟩ (.cons ⟨rfl, rfl, Le.refl _⟩ (.cons ⟨rfl, rfl, Le.box (.cons le_n (.cons (le_e2 [] [ic, ia, ib]) .nil))⟩ .nil))))))))
  · exact .cons ⟨rfl, rfl, Le.refl _⟩ (.cons ⟨rfl, rfl, Le.refl _⟩ (.cons ⟨rfl, rfl, Le.refl _⟩ (.cons ⟨rfl, rfl, Le.refl _⟩ (.cons ⟨rfl, rfl, Le.refl _⟩ (.cons ⟨rfl, rfl, Le.refl _⟩ (.cons ⟨rfl, rfl, Le.refl _⟩ (.cons ⟨rfl, rfl, Le.refl _⟩ (.cons ⟨rfl, rfl, Le.refl _⟩ (.cons ⟨rfl, rfl, Le.box (.cons (le_e2 [] [ic, ia, ib]) (.cons le_n .nil))⟩ (.cons ⟨rfl, rfl, Le.refl _⟩ .nil))))))))))
  refine Tri.weak [(2, .keep), (3, .keep), (4, .keep), (5, .keep), (6, .keep), (10, .keep)] ?_
  refine .seq (l13_0 0 rfl) (.seq (Tri.less (env2 := E14) (l14_0 0 rfl) ?_) (.seq (l15_0 0 rfl rfl) .ret))
  exact .cons ⟨rfl, rfl, Le.refl _⟩ (.cons ⟨rfl, rfl, Le.refl _⟩ (.cons ⟨rfl, rfl, Le.refl _⟩ (.cons ⟨rfl, rfl, Le.box (.cons (le_e2 [] [ib]) (.cons (le_e2 [] [ic]) .nil))⟩ (.cons ⟨rfl, rfl, Le.refl _⟩ .nil))))
end Tst
end

section
open Go Go.Lf Go.Proofs
namespace Tst
theorem fold_zip (d : Int) (j : Nat) : ∀ (L : List Stk) (k : Nat) (tb : List (List Idd)),
    (((L.zipIdx k).map fun q => (d, ((q.2 : Int) + 1), q.1)).foldl putT tb).getD j [] = if d.toNat * 40 + k ≤ j ∧ j < d.toNat * 40 + k + L.length ∧ j < tb.length then (L.getD (j - (d.toNat * 40 + k)) default).l else tb.getD j []
  | [], k, tb => by
    rw [if_neg (by simp; omega)]; rfl
  | s :: L, k, tb => by
    rw [List.zipIdx_cons, List.map_cons, List.foldl_cons, fold_zip d j L (k + 1)]
    have e : putT tb (d, ((k : Int) + 1), s) = tb.set (d.toNat * 40 + k) s.l := by
      show tb.set (d.toNat * 40 + ((k : Int) + 1 - 1).toNat) s.l = _
      rw [show ((k : Int) + 1 - 1).toNat = k by omega]
    show (if _ then _ else (putT tb (d, ((k : Int) + 1), s)).getD j []) = _
    rw [e, List.length_set, List.length_cons]
    generalize d.toNat * 40 = o
    by_cases h1 : o + (k + 1) ≤ j ∧ j < o + (k + 1) + L.length ∧ j < tb.length
    · rw [if_pos h1, if_pos (by omega)]
      obtain ⟨m, hm⟩ : ∃ m, j - (o + k) = m + 1 := ⟨j - (o + k) - 1, by omega⟩
      rw [hm, show j - (o + (k + 1)) = m by omega, List.getD_cons_succ]
    · rw [if_neg h1]
      by_cases h2 : j = o + k
      · subst h2
        by_cases h3 : o + k < tb.length
        · rw [if_pos (by omega), Nat.sub_self, List.getD_cons_zero, List.getD_eq_getElem?_getD, List.getElem?_set_self h3]; rfl
        · rw [if_neg (by omega), List.getD_eq_getElem?_getD, List.getD_eq_getElem?_getD, List.getElem?_eq_none (by simp; omega), List.getElem?_eq_none (by omega)]
      · rw [if_neg (by omega), List.getD_eq_getElem?_getD, List.getElem?_set_ne (by omega), ← List.getD_eq_getElem?_getD]
theorem stackOf_nat (l : List Stk) (j : Nat) : stackOf l (j : Int) = if j < l.length then (l.getD j default).l else [] := by
  unfold stackOf
  by_cases h : j < l.length
  · rw [if_pos (by omega), if_pos h]; rfl
  · rw [if_neg (by omega), if_neg h]
theorem getD_take {α : Type} [Inhabited α] (l : List α) (n j : Nat) (h : j < n) (d : α) : (l.take n).getD j d = l.getD j d := by
  rw [List.getD_eq_getElem?_getD, List.getD_eq_getElem?_getD, List.getElem?_take_of_lt h]
theorem tbOf_get (F B : List Stk) (j : Nat) (hj : j < 80) : (tbOf (itms F B)).getD j [] = stkN F B j := by
  unfold tbOf itms
  rw [List.foldl_append, fold_zip, fold_zip]
  have hl : ∀ (l : List (Int × Int × Stk)) (tb : List (List Idd)), (l.foldl putT tb).length = tb.length := by
    intro l
    induction l with
    | nil => intro tb; rfl
    | cons x l ih => intro tb; rw [List.foldl_cons, ih]; simp [putT]
  rw [hl, List.length_replicate, List.length_take, List.length_take]
  unfold stkN
  rw [stackOf_nat]
  simp only [Int.toNat_one, Int.toNat_zero, Nat.one_mul, Nat.zero_mul, Nat.add_zero, Nat.zero_add, Nat.sub_zero]
  by_cases h : j < 40
  · rw [if_neg (by omega), if_pos h, show j % 40 = j by omega]
    by_cases h2 : j < F.length
    · rw [if_pos (by omega), if_pos h2, getD_take _ _ _ h]
    · rw [if_neg (by omega), if_neg h2]
      rw [List.getD_eq_getElem?_getD, List.getElem?_replicate]; split <;> rfl
  · rw [if_neg h, show j % 40 = j - 40 by omega]
    by_cases h2 : j - 40 < B.length
    · rw [if_pos (by omega), if_pos h2, getD_take _ _ _ (by omega)]
    · rw [if_neg (by omega), if_neg (by omega), if_neg h2]
      rw [List.getD_eq_getElem?_getD, List.getElem?_replicate]; split <;> rfl
structure Rep (F B : List Stk) (tb : List (List Idd)) : Prop where
  f : F.length ≤ 40
  b : B.length ≤ 40
  l : tb.length = 80
  at' : ∀ j, j < 80 → stkN F B j = tb.getD j []
theorem Rep.tb {F B : List Stk} {tb : List (List Idd)} (h : Rep F B tb) : tbOf (itms F B) = tb := by
  apply List.ext_getElem
  · rw [tbOf_len, h.l]
  · intro j h1 h2
    have h3 : j < 80 := by rw [tbOf_len] at h1; exact h1
    have := (tbOf_get F B j h3).trans (h.at' j h3)
    rw [List.getD_eq_getElem?_getD, List.getElem?_eq_getElem h1, List.getD_eq_getElem?_getD, List.getElem?_eq_getElem h2] at this
    exact this
theorem Rep.stk {F B : List Stk} {tb : List (List Idd)} (h : Rep F B tb) {d i : Int} (hd : d = 0 ∨ d = 1) (h1 : 1 ≤ i) (h2 : i ≤ 40) : stkAt d i F B = tb.getD (d.toNat * 40 + (i - 1).toNat) [] := by
  rw [← h.at' _ (by rcases hd with e | e <;> rw [e] <;> simp <;> omega)]
  unfold stkAt stkN
  obtain ⟨m, hm⟩ : ∃ m : Nat, i - 1 = (m : Int) := ⟨(i - 1).toNat, by omega⟩
  rw [hm, Int.toNat_natCast]
  rcases hd with e | e <;> subst e
  · simp only [Int.toNat_zero, Nat.zero_mul, Nat.zero_add]
    rw [if_pos (show m < 40 by omega), show m % 40 = m by omega]; rfl
  · simp only [Int.toNat_one, Nat.one_mul]
    rw [if_neg (show ¬ 40 + m < 40 by omega), show (40 + m) % 40 = m by omega]; rfl
theorem range_flat (F : List Stk) : ∀ n : Nat, (List.range n).flatMap (fun j : Nat => stackOf F (j : Int)) = (F.take n).flatMap Stk.l
  | 0 => by simp
  | n + 1 => by
    rw [List.range_succ, List.flatMap_append, range_flat F n, List.take_add_one, List.flatMap_append]
    congr 1
    rw [List.flatMap_cons, List.flatMap_nil, List.append_nil, stackOf_nat]
    by_cases h : n < F.length
    · rw [if_pos h, List.getElem?_eq_getElem h, List.getD_eq_getElem?_getD, List.getElem?_eq_getElem h]; simp
    · rw [if_neg h, List.getElem?_eq_none (by omega)]; rfl
theorem flatMap_cong {α β : Type} {f g : α → List β} : ∀ {l : List α}, (∀ a ∈ l, f a = g a) → l.flatMap f = l.flatMap g
  | [], _ => rfl
  | a :: l, h => by rw [List.flatMap_cons, List.flatMap_cons, h a (by simp), flatMap_cong fun b hb => h b (by simp [hb])]
theorem Rep.list {F B : List Stk} {tb : List (List Idd)} (h : Rep F B tb) : tb = (List.range 80).map (stkN F B) := by
  apply List.ext_getElem
  · rw [h.l]; simp
  · intro j h1 h2
    have h3 : j < 80 := by rw [h.l] at h1; exact h1
    have := h.at' j h3
    rw [List.getD_eq_getElem?_getD, List.getElem?_eq_getElem h1] at this
    simp [this]
theorem flatMap_zip (d : Int) : ∀ (L : List Stk) (k : Nat), (((L.zipIdx k).map fun q => (d, ((q.2 : Int) + 1), q.1)).flatMap fun t => t.2.2.l) = L.flatMap Stk.l
  | [], _ => rfl
  | s :: L, k => by rw [List.zipIdx_cons, List.map_cons, List.flatMap_cons, List.flatMap_cons, flatMap_zip d L (k + 1)]
theorem Rep.all {F B : List Stk} {tb : List (List Idd)} (h : Rep F B tb) : allI (itms F B) = tb.flatten := by
  unfold allI itms
  rw [List.flatMap_append, flatMap_zip, flatMap_zip, ← range_flat, ← range_flat, h.list, ← List.flatMap_def]
  rw [show List.range 80 = List.range 40 ++ (List.range 40).map (40 + ·) by decide +kernel, List.flatMap_append, List.flatMap_map]
  have a1 : (List.range 40).flatMap (stkN F B) = (List.range 40).flatMap fun j : Nat => stackOf F (j : Int) := flatMap_cong fun j hj => by
    have : j < 40 := List.mem_range.1 hj
    unfold stkN
    rw [if_pos this, show j % 40 = j by omega]
  have a2 : ((List.range 40).flatMap fun j => stkN F B (40 + j)) = (List.range 40).flatMap fun j : Nat => stackOf B (j : Int) := flatMap_cong fun j hj => by
    have : j < 40 := List.mem_range.1 hj
    unfold stkN
    rw [if_neg (by omega), show (40 + j) % 40 = j by omega]
  rw [a1, a2]
structure Good' (tb : List (List Idd)) : Prop where
  s : ∀ i, (tb.getD i []).length ≤ 4
  n : ∀ p ∈ tb.flatten, nmI p = true
  d : tb.flatten.Nodup
theorem Rep.mem {F B : List Stk} {tb : List (List Idd)} (h : Rep F B tb) {s : Stk} (hs : s ∈ F ∨ s ∈ B) : ∃ j, j < 80 ∧ s.l = tb.getD j [] := by
  have hf := h.f
  have hb := h.b
  rcases hs with hs | hs
  · obtain ⟨j, hj, rfl⟩ := List.mem_iff_getElem.1 hs
    refine ⟨j, by omega, ?_⟩
    rw [← h.at' j (by omega)]
    unfold stkN
    rw [if_pos (by omega), show j % 40 = j by omega, stackOf_nat, if_pos hj, List.getD_eq_getElem?_getD, List.getElem?_eq_getElem hj]; rfl
  · obtain ⟨j, hj, rfl⟩ := List.mem_iff_getElem.1 hs
    refine ⟨40 + j, by omega, ?_⟩
    rw [← h.at' (40 + j) (by omega)]
    unfold stkN
    rw [if_neg (by omega), show (40 + j) % 40 = j by omega, stackOf_nat, if_pos hj, List.getD_eq_getElem?_getD, List.getElem?_eq_getElem hj]; rfl
theorem Rep.len {F B : List Stk} {tb : List (List Idd)} (h : Rep F B tb) (g : Good' tb) : ∀ s, s ∈ F ∨ s ∈ B → s.l.length ≤ 4 := fun s hs => by
  obtain ⟨j, _, e⟩ := h.mem hs
  rw [e]; exact g.s j
theorem Rep.chk {F B : List Stk} {tb : List (List Idd)} (h : Rep F B tb) (g : Good' tb) : chkV F B = 0 := by
  have hf := h.f
  have hb := h.b
  have ho : ovV F B = false := by
    unfold ovV
    rw [decide_eq_false (by omega), decide_eq_false (by omega)]
    simp only [Bool.false_or]
    rw [List.any_eq_false]
    intro t ht
    have := h.len g _ (itms_ok ht).2.2.2
    simp; omega
  have hn : nmV F B = true := by
    unfold nmV
    rw [List.all_eq_true]
    intro t ht
    rw [List.all_eq_true]
    intro p hp
    refine g.n p ?_
    rw [← h.all]
    exact List.mem_flatMap.2 ⟨t, ht, hp⟩
  have ht : twV F B = false := by
    unfold twV
    rw [h.all, decide_eq_true g.d]; rfl
  unfold chkV
  rw [ho, hn, ht]; rfl
end Tst
end

section
open Go Go.Lf Go.Proofs
namespace Tst
theorem trimL_empty (l : List Stk) : ∀ n j : Nat, trimL l n ≤ j → j < n → (l.getD j default).l = []
  | 0, j, _, h => by omega
  | n + 1, j, h1, h2 => by
    unfold trimL at h1
    split at h1
    · rename_i h
      by_cases hj : j = n
      · subst hj; exact List.eq_nil_of_length_eq_zero h
      · exact trimL_empty l n j h1 (by omega)
    · omega
theorem shT_get (l : List Stk) (j : Nat) : (shT l).getD j [] = if j < l.length then (l.getD j default).l else [] := by
  have hle := trimL_le l l.length
  unfold shT
  by_cases h : j < trimL l l.length
  · rw [if_pos (by omega), List.getD_eq_getElem?_getD, List.getElem?_map, List.getElem?_take_of_lt h, List.getD_eq_getElem?_getD, List.getElem?_eq_getElem (show j < l.length by omega)]; rfl
  · rw [List.getD_eq_getElem?_getD, List.getElem?_eq_none (by simp; omega)]
    by_cases h2 : j < l.length
    · rw [if_pos h2, trimL_empty l _ j (by omega) h2]; rfl
    · rw [if_neg h2]; rfl
theorem shT_len (l : List Stk) : (shT l).length ≤ l.length := by
  unfold shT; simp; omega
theorem half_get (tb : List (List Idd)) (h : tb.length = 80) (k j : Nat) (hk : k = 0 ∨ k = 40) (hj : j < 40) : (halfT tb k).getD j [] = tb.getD (k + j) [] := by
  unfold halfT
  rw [shT_get, if_pos (by simp; omega), getD_take _ _ _ hj, List.getD_eq_getElem?_getD, List.getElem?_drop, List.getElem?_map, List.getD_eq_getElem?_getD, List.getElem?_eq_getElem (show k + j < tb.length by omega)]; rfl
theorem half_len (tb : List (List Idd)) (k : Nat) : (halfT tb k).length ≤ 40 := by
  unfold halfT
  refine Nat.le_trans (shT_len _) ?_
  simp; omega
theorem stack_mk (mk : List Idd → Stk) (hm : ∀ l, (mk l).l = l) (x : List (List Idd)) (j : Nat) : stackOf (x.map mk) (j : Int) = x.getD j [] := by
  rw [stackOf_nat]
  by_cases h : j < x.length
  · rw [if_pos (by simpa using h), List.getD_eq_getElem?_getD, List.getElem?_map, List.getD_eq_getElem?_getD, List.getElem?_eq_getElem h]
    exact hm _
  · rw [if_neg (by simpa using h), List.getD_eq_getElem?_getD, List.getElem?_eq_none (by omega)]; rfl
theorem rep_mk (mk : List Idd → Stk) (hm : ∀ l, (mk l).l = l) {x y tb : List (List Idd)} (h : tb.length = 80) (hx : x.length ≤ 40) (hy : y.length ≤ 40) (ax : ∀ j, j < 40 → x.getD j [] = tb.getD (0 + j) []) (ay : ∀ j, j < 40 → y.getD j [] = tb.getD (40 + j) []) : Rep (x.map mk) (y.map mk) tb := by
  refine ⟨by simpa using hx, by simpa using hy, h, fun j hj => ?_⟩
  unfold stkN
  by_cases h40 : j < 40
  · rw [if_pos h40, show j % 40 = j by omega, stack_mk mk hm, ax j h40, Nat.zero_add]
  · rw [if_neg h40, show j % 40 = j - 40 by omega, stack_mk mk hm, ay (j - 40) (by omega), show 40 + (j - 40) = j by omega]
theorem rep_half (tb : List (List Idd)) (h : tb.length = 80) : Rep (stkW (halfT tb 0)) (stkW (halfT tb 40)) tb :=
  rep_mk (fun l => ⟨some l.length, l⟩) (fun _ => rfl) h (half_len _ _) (half_len _ _) (fun j hj => half_get tb h 0 j (.inl rfl) hj) (fun j hj => half_get tb h 40 j (.inr rfl) hj)
theorem lenF_keep (tb : List (List Idd)) (o : Nat) : ∀ k a, a ≠ 0 → lenF tb o k a = a
  | 0, a, _ => rfl
  | k + 1, a, h => by
    show lenF tb o k (lenStep tb o k a) = a
    have : lenStep tb o k a = a := by unfold lenStep; rw [if_neg (by omega)]
    rw [this, lenF_keep tb o k a h]
theorem lenF_empty (tb : List (List Idd)) (o : Nat) : ∀ k i, lenF tb o k 0 ≤ i → i < k → tb.getD (o + i) [] = []
  | 0, i, _, h => by omega
  | k + 1, i, h1, h2 => by
    have h1' : lenF tb o k (lenStep tb o k 0) ≤ i := h1
    by_cases hs : 0 < (tb.getD (o + k) []).length
    · have : lenStep tb o k 0 = k + 1 := by unfold lenStep; rw [if_pos ⟨rfl, hs⟩]
      rw [this, lenF_keep _ _ _ _ (by omega)] at h1'
      omega
    · have : lenStep tb o k 0 = 0 := by unfold lenStep; rw [if_neg (by omega)]
      rw [this] at h1'
      by_cases hi : i = k
      · subst hi; exact List.eq_nil_of_length_eq_zero (by omega)
      · exact lenF_empty tb o k i h1' (by omega)
theorem bed_get (tb : List (List Idd)) (o j : Nat) (hj : j < 40) : (bedOfT tb o).getD j [] = tb.getD (o + j) [] := by
  unfold bedOfT
  by_cases h : j < lenF tb o 40 0
  · rw [List.getD_eq_getElem?_getD, List.getElem?_map, List.getElem?_range h]; rfl
  · rw [List.getD_eq_getElem?_getD, List.getElem?_eq_none (by simp; omega), lenF_empty tb o 40 j (by omega) hj]; rfl
theorem rep_bed (tb : List (List Idd)) (h : tb.length = 80) (hl : ∀ o, (bedOfT tb o).length ≤ 40) : Rep (stkF (bedOfT tb 0)) (stkF (bedOfT tb 40)) tb :=
  rep_mk (fun l => ⟨none, l⟩) (fun _ => rfl) h (hl 0) (hl 40) (fun j hj => bed_get tb 0 j hj) (fun j hj => bed_get tb 40 j hj)
theorem set_perm (tb : List (List Idd)) (p : Nat) (l : List Idd) (hp : p < tb.length) : (tb.set p l).flatten.Perm (l ++ (tb.set p []).flatten) := by
  rw [List.set_eq_take_append_cons_drop, if_pos hp, List.set_eq_take_append_cons_drop, if_pos hp, List.flatten_append, List.flatten_append, List.flatten_cons, List.flatten_cons, List.nil_append]
  exact List.perm_append_comm_assoc _ _ _
theorem set_same (tb : List (List Idd)) (p : Nat) : tb.set p (tb.getD p []) = tb := by
  apply List.ext_getElem
  · simp
  · intro j h1 h2
    by_cases h : p = j
    · subst h; rw [List.getElem_set_self, List.getD_eq_getElem?_getD, List.getElem?_eq_getElem h2]; rfl
    · rw [List.getElem_set_ne h]
theorem get_perm (tb : List (List Idd)) (p : Nat) (hp : p < tb.length) : tb.flatten.Perm (tb.getD p [] ++ (tb.set p []).flatten) := by
  have h := set_perm tb p (tb.getD p []) hp
  rwa [set_same] at h
theorem getD_set (tb : List (List Idd)) (p j : Nat) (l : List Idd) (hp : p < tb.length) : (tb.set p l).getD j [] = if j = p then l else tb.getD j [] := by
  by_cases h : j = p
  · subst h; rw [if_pos rfl, List.getD_eq_getElem?_getD, List.getElem?_set_self hp]; rfl
  · rw [if_neg h, List.getD_eq_getElem?_getD, List.getElem?_set_ne (by omega), ← List.getD_eq_getElem?_getD]
def jt (tb : List (List Idd)) (p q : Nat) (J : List Idd) : List (List Idd) := (tb.set p []).set q J
theorem jt_get (tb : List (List Idd)) {p q : Nat} (J : List Idd) (hp : p < tb.length) (hq : q < tb.length) (j : Nat) : (jt tb p q J).getD j [] = if j = q then J else if j = p then [] else tb.getD j [] := by
  unfold jt
  rw [getD_set _ _ _ _ (by simpa using hq), getD_set _ _ _ _ hp]
theorem jt_perm (tb : List (List Idd)) {p q : Nat} (J : List Idd) (hp : p < tb.length) (hq : q < tb.length) (hne : q ≠ p) (hJ : J.Perm (tb.getD p [] ++ tb.getD q [])) : (jt tb p q J).flatten.Perm tb.flatten := by
  unfold jt
  have h1 := set_perm (tb.set p []) q J (by simpa using hq)
  have h2 := get_perm (tb.set p []) q (by simpa using hq)
  rw [getD_set _ _ _ _ hp, if_neg hne] at h2
  have h3 := get_perm tb p hp
  refine h1.trans ((hJ.append_right _).trans ?_)
  rw [List.append_assoc]
  exact ((h2.symm.append_left _).trans h3.symm)
theorem jt_good {tb : List (List Idd)} (g : Good' tb) {p q : Nat} (J : List Idd) (hp : p < tb.length) (hq : q < tb.length) (hne : q ≠ p) (hJ : J.Perm (tb.getD p [] ++ tb.getD q [])) (h4 : J.length ≤ 4) : Good' (jt tb p q J) := by
  have hf := jt_perm tb J hp hq hne hJ
  refine ⟨fun j => ?_, fun x hx => g.n x (hf.mem_iff.1 hx), hf.nodup_iff.2 g.d⟩
  rw [jt_get tb J hp hq]
  split
  · exact h4
  · split
    · simp
    · exact g.s j
end Tst
end

section
open Go Go.Lf Go.Proofs
namespace Tst
structure Inv (s : List (List Idd) × Nat) : Prop where
  l : s.1.length = 80
  p : s.1.flatten.Perm ((List.range s.2).map idAt)
theorem inv_step {s : List (List Idd) × Nat} (h : Inv s) {t : Nat} (ht : t < 80) : Inv (s.1.set t (s.1.getD t [] ++ [idAt s.2]), s.2 + 1) := by
  refine ⟨by simpa using h.l, ?_⟩
  have h1 := set_perm s.1 t (s.1.getD t [] ++ [idAt s.2]) (by rw [h.l]; exact ht)
  have h2 := get_perm s.1 t (by rw [h.l]; exact ht)
  show (s.1.set t (s.1.getD t [] ++ [idAt s.2])).flatten.Perm ((List.range (s.2 + 1)).map idAt)
  rw [List.range_succ, List.map_append]
  refine h1.trans ?_
  rw [List.append_assoc]
  refine (List.perm_append_comm_assoc _ _ _).trans ?_
  refine ((h2.symm.append_left _).trans ?_)
  exact (List.perm_append_comm).trans (h.p.append_right _)
theorem inv_putN {t : Nat} (ht : t < 80) : ∀ (j : Nat) {s : List (List Idd) × Nat}, Inv s → Inv (putN t j s)
  | 0, s, h => h
  | j + 1, s, h => by
    rw [putN]
    split
    · exact inv_putN ht j (inv_step h ht)
    · exact h
theorem inv_ofL : ∀ (l : List Pt) (hl : ∀ p ∈ l, 0 ≤ p.a) {s : List (List Idd) × Nat}, Inv s → Inv (ofL l s)
  | [], _, s, h => h
  | p :: l, hl, s, h => by
    have hp := hl p (by simp)
    exact inv_ofL l (fun q hq => hl q (by simp [hq])) (inv_putN (by have : p.a % 80 < 80 := Int.emod_lt_of_pos _ (by omega); omega) _ h)
theorem n_ofL : ∀ (l : List Pt) (s : List (List Idd) × Nat), (ofL l s).2 ≤ s.2 + 4 * l.length
  | [], s => Nat.le_refl _
  | p :: l, s => by
    refine Nat.le_trans (n_ofL l (putP p s)) ?_
    have h1 : (putP p s).2 ≤ s.2 + (p.m % 5).toNat := putN_n _ _ _
    have h2 : p.m % 5 < 5 := Int.emod_lt_of_pos _ (by omega)
    rw [List.length_cons]; omega
theorem idAt_inj {a b : Nat} (h : idAt a = idAt b) : a = b := by
  unfold idAt at h
  injection h with h1 h2
  omega
theorem inv0 : Inv (List.replicate 80 [], 0) := ⟨by simp, by simp⟩
theorem idAt_ok {n : Nat} (h : n ≤ 160) : nmI (idAt n) = true := by
  unfold nmI idAt namedB
  simp
  omega
theorem good_ofT (x : List Pt) (hx : ∀ p ∈ x, 0 ≤ p.a) : Good' (ofT x) := by
  have hi := inv_ofL (x.take 40) (fun p hp => hx p (List.mem_of_mem_take hp)) inv0
  have hn := n_ofL (x.take 40) (List.replicate 80 [], 0)
  have hl : (x.take 40).length ≤ 40 := by simp; omega
  refine ⟨fun i => ofT_short x i, fun p hp => ?_, ?_⟩
  · obtain ⟨k, hk, rfl⟩ := List.mem_map.1 (hi.p.mem_iff.1 hp)
    have := List.mem_range.1 hk
    exact idAt_ok (by omega)
  · refine hi.p.nodup_iff.2 ?_
    rw [List.nodup_iff_pairwise_ne, List.pairwise_map]
    exact (List.nodup_iff_pairwise_ne.1 List.nodup_range).imp fun h e => h (idAt_inj e)
theorem putN_other (t i : Nat) (h : i ≠ t) : ∀ (j : Nat) (s : List (List Idd) × Nat), (putN t j s).1.getD i [] = s.1.getD i []
  | 0, s => rfl
  | j + 1, s => by
    rw [putN]
    split
    · rw [putN_other t i h j, List.getD_eq_getElem?_getD, List.getElem?_set_ne (by omega), ← List.getD_eq_getElem?_getD]
    · rfl
theorem putN_at (t : Nat) : ∀ (j : Nat) (s : List (List Idd) × Nat), t < s.1.length → (s.1.getD t []).length + j ≤ 4 → ((putN t j s).1.getD t []).length = (s.1.getD t []).length + j
  | 0, s, _, _ => rfl
  | j + 1, s, hl, h => by
    rw [putN, if_pos (by omega)]
    have e : (s.1.set t (s.1.getD t [] ++ [idAt s.2])).getD t [] = s.1.getD t [] ++ [idAt s.2] := by rw [getD_set _ _ _ _ hl, if_pos rfl]
    rw [putN_at t j _ (by simpa using hl) (by show ((s.1.set t _).getD t []).length + j ≤ 4; rw [e, List.length_append, List.length_singleton]; omega)]
    show ((s.1.set t _).getD t []).length + j = _
    rw [e, List.length_append, List.length_singleton]; omega
theorem of_two {a b n m : Nat} (ha : a < 80) (hb : b < 80) (hab : a ≠ b) (hn : n ≤ 4) (hm : m ≤ 4) : ((ofT [⟨a, n⟩, ⟨b, m⟩]).getD a []).length = n ∧ ((ofT [⟨a, n⟩, ⟨b, m⟩]).getD b []).length = m := by
  have e : ofT [⟨a, n⟩, ⟨b, m⟩] = (putN b m (putN a n (List.replicate 80 [], 0))).1 := by
    show (putN ((b : Int) % 80).toNat ((m : Int) % 5).toNat (putN ((a : Int) % 80).toNat ((n : Int) % 5).toNat _)).1 = _
    rw [show ((b : Int) % 80).toNat = b by omega, show ((m : Int) % 5).toNat = m by omega, show ((a : Int) % 80).toNat = a by omega, show ((n : Int) % 5).toNat = n by omega]
  have e0 : ∀ i, (List.replicate 80 ([] : List Idd)).getD i [] = [] := fun i => by rw [List.getD_eq_getElem?_getD, List.getElem?_replicate]; split <;> rfl
  rw [e]
  constructor
  · rw [putN_other b a hab, putN_at a n _ (by simpa using ha) (by rw [e0]; simpa using hn), e0]; simp
  · have h1 : ((putN a n (List.replicate 80 [], 0)).1.getD b []) = [] := by rw [putN_other a b (Ne.symm hab), e0]
    rw [putN_at b m _ (by rw [putN_len]; simpa using hb) (by rw [h1]; simpa using hm), h1]; simp
end Tst
end

section
open Go Go.Lf Go.Proofs
namespace Tst
theorem bk_of (c : Option Nat) (a m b n : Int) (h1 : 0 ≤ a) (h2 : 0 ≤ m) (h3 : 0 ≤ b) (h4 : 0 ≤ n) : PureC Try.prog 42 [psl c [⟨a, m⟩, ⟨b, n⟩]] (.agg [frV (bedOfT (ofT [⟨a, m⟩, ⟨b, n⟩]) 0), frV (bedOfT (ofT [⟨a, m⟩, ⟨b, n⟩]) 40)]) :=
  Of_c c _ (by simp; omega)
def JErr (F B : List Stk) (d i e k r : Int) : Prop := joinV F B d i e k = nilR r
def JOk (F B : List Stk) (d i e k : Int) (X Y : List (List Idd)) : Prop := joinV F B d i e k = bedsR X Y
def AtOk (F B : List Stk) (d i : Int) (l : List Idd) : Prop := ndV d i = true ∧ (∀ s ∈ F, s.l.length ≤ 4294967296) ∧ (∀ s ∈ B, s.l.length ≤ 4294967296) ∧ stkAt d i F B = l
def SmOk (F B G C : List Stk) (r : Bool) : Prop := (∀ s ∈ F, s.l.length ≤ 4294967296) ∧ (∀ s ∈ B, s.l.length ≤ 4294967296) ∧ max F.length G.length < 2 ^ 62 ∧ max B.length C.length < 2 ^ 62 ∧ (sameB F G && sameB B C) = r
theorem jerr (cf cb : Option Nat) (F B : List Stk) (d i e k r : Int) (h : JErr F B d i e k r) : PureC Try.prog 40 [beds (bsl cf F) (bsl cb B), ndl d i, ndl e k] (nilR r) := by
  have h2 := join_c cf cb F B d i e k
  unfold JErr at h
  rw [h] at h2
  exact h2
theorem jok (cf cb : Option Nat) (F B : List Stk) (d i e k : Int) (X Y : List (List Idd)) (h : JOk F B d i e k X Y) : PureC Try.prog 40 [beds (bsl cf F) (bsl cb B), ndl d i, ndl e k] (.tup [.agg [.sl .fresh 62 (some X.length) (X.map FW), .sl .fresh 62 (some Y.length) (Y.map FW)], it 0]) := by
  have h2 := join_c cf cb F B d i e k
  unfold JOk at h
  rw [h] at h2
  exact h2
theorem atok (cf cb : Option Nat) (F B : List Stk) (d i : Int) (l : List Idd) (h : AtOk F B d i l) : PureC Try.prog 33 [beds (bsl cf F) (bsl cb B), ndl d i] (.sl .own 30 (some l.length) (l.map Idd.enc)) := by
  obtain ⟨h1, h2, h3, rfl⟩ := h
  exact ndlAt_v d i cf cb F B h1 h2 h3
theorem smok (c1 c2 c3 c4 : Option Nat) (F B G C : List Stk) (r : Bool) (h : SmOk F B G C r) : PureC Try.prog 39 [beds (bsl c1 F) (bsl c2 B), beds (bsl c3 G) (bsl c4 C)] (bb r) := by
  obtain ⟨h1, h2, h3, h4, rfl⟩ := h
  exact same_c c1 c2 c3 c4 F B G C h1 h2 h3 h4
abbrev px (u0 u1 v0 v1 : Int) : List Pt := [⟨Int.tmod v0 40, Int.tmod u0 5⟩, ⟨IntKind.u8.wrap (40 + Int.tmod v1 40), Int.tmod u1 5⟩]
abbrev pF (u0 u1 v0 v1 : Int) : List Stk := stkF (bedOfT (ofT (px u0 u1 v0 v1)) 0)
abbrev pB (u0 u1 v0 v1 : Int) : List Stk := stkF (bedOfT (ofT (px u0 u1 v0 v1)) 40)
abbrev pd (v : Int) : Int := ndB (Int.tmod v 40)
abbrev pi (v : Int) : Int := ndN (Int.tmod v 40)
abbrev pe (v : Int) : Int := ndB (IntKind.u8.wrap (40 + Int.tmod v 40))
abbrev pk (v : Int) : Int := ndN (IntKind.u8.wrap (40 + Int.tmod v 40))
end Tst
end

section
open Go Go.Lf Go.Proofs
namespace Tst
theorem wrap80 {i : Nat} (h : i < 80) : IntKind.wrap IntKind.u8 (i : Int) = (i : Int) := wrap_u8 (by omega) (by omega)
theorem ndB_nat {i : Nat} (h : i < 80) : ndB (i : Int) = ((i / 40 : Nat) : Int) := by
  have := ndB_eq h
  rwa [wrap80 h] at this
theorem ndN_nat {i : Nat} (h : i < 80) : ndN (i : Int) = ((i % 40 + 1 : Nat) : Int) := by
  have := ndN_eq h
  rw [wrap80 h] at this
  rw [this]; omega
theorem ndV_nat {i : Nat} (h : i < 80) : ndV (ndB (i : Int)) (ndN (i : Int)) = true := by
  rw [ndB_nat h, ndN_nat h]
  have h1 : i / 40 = 0 ∨ i / 40 = 1 := by omega
  unfold ndV
  rcases h1 with h1 | h1 <;> rw [h1] <;> simp <;> omega
theorem stk_nat {F B : List Stk} {tb : List (List Idd)} (h : Rep F B tb) {i : Nat} (hi : i < 80) : stkAt (ndB (i : Int)) (ndN (i : Int)) F B = tb.getD i [] := by
  rw [ndB_nat hi, ndN_nat hi, h.stk (by omega) (by omega) (by omega)]
  congr 1
  omega
theorem with_nat {F B : List Stk} {tb : List (List Idd)} (h : Rep F B tb) {i : Nat} (hi : i < 80) (l : List Idd) : withT F B (ndB (i : Int)) (ndN (i : Int)) l = tb.set i l := by
  unfold withT
  rw [h.tb, ndB_nat hi, ndN_nat hi]
  congr 1
  omega
theorem join_nat {F B : List Stk} {tb : List (List Idd)} (h : Rep F B tb) {i k : Nat} (hi : i < 80) (hk : k < 80) (J : List Idd) : joinT F B (ndB (i : Int)) (ndN (i : Int)) (ndB (k : Int)) (ndN (k : Int)) J = jt tb i k J := by
  unfold joinT jt
  rw [with_nat h hi, with_nat (rep_half (tb.set i []) (by simpa using h.l)) hk]
def jl (tb : List (List Idd)) (i k : Nat) : List Idd := if i < 40 then tb.getD k [] ++ tb.getD i [] else tb.getD i [] ++ tb.getD k []
theorem jl_nat (tb : List (List Idd)) {i k : Nat} (hi : i < 80) : jnL (ndB (i : Int)) (tb.getD i []) (tb.getD k []) = jl tb i k := by
  unfold jnL jl
  rw [ndB_nat hi]
  by_cases h : i < 40
  · rw [if_pos h, if_neg (by simp; omega)]
  · rw [if_neg h, if_pos (by simp; omega)]
theorem jl_perm (tb : List (List Idd)) (i k : Nat) : (jl tb i k).Perm (tb.getD i [] ++ tb.getD k []) := by
  unfold jl
  split
  · exact List.perm_append_comm
  · exact .refl _
theorem jl_len (tb : List (List Idd)) (i k : Nat) : (jl tb i k).length = (tb.getD i []).length + (tb.getD k []).length := by rw [(jl_perm tb i k).length_eq, List.length_append]
section
variable {F B : List Stk} {tb : List (List Idd)} (h : Rep F B tb) (g : Good' tb) {i k : Nat} (hi : i < 80) (hk : k < 80)
include h g hi hk
theorem joinV_nat : joinV F B (ndB (i : Int)) (ndN (i : Int)) (ndB (k : Int)) (ndN (k : Int)) = if i / 40 = k / 40 then nilR 1 else if (tb.getD i []).length = 0 then nilR 13 else if 4 < (tb.getD i []).length + (tb.getD k []).length then nilR 9 else bedsR (halfT (jt tb i k (jl tb i k)) 0) (halfT (jt tb i k (jl tb i k)) 40) := by
  unfold joinV
  rw [h.chk g, stk_nat h hi, stk_nat h hk, jl_nat tb hi, join_nat h hi hk, ndV_nat hi, ndV_nat hk]
  rw [if_neg (by decide)]
  by_cases e : i / 40 = k / 40
  · rw [if_pos (by rw [ndB_nat hi, ndB_nat hk, e]; simp), if_pos e]
  · rw [if_neg (by rw [ndB_nat hi, ndB_nat hk]; simp; omega), if_neg e]
end
theorem jok_good {tb : List (List Idd)} (g : Good' tb) (hl : tb.length = 80) {i k : Nat} (hi : i < 80) (hk : k < 80) (hne : i ≠ k) (h4 : (tb.getD i []).length + (tb.getD k []).length ≤ 4) : Good' (jt tb i k (jl tb i k)) :=
  jt_good g _ (by omega) (by omega) (Ne.symm hne) (jl_perm tb i k) (by rw [jl_len]; exact h4)
theorem jt_len (tb : List (List Idd)) (p q : Nat) (J : List Idd) : (jt tb p q J).length = tb.length := by unfold jt; simp
theorem atok_nat {F B : List Stk} {tb : List (List Idd)} (h : Rep F B tb) (g : Good' tb) {i : Nat} (hi : i < 80) : AtOk F B (ndB (i : Int)) (ndN (i : Int)) (tb.getD i []) :=
  ⟨ndV_nat hi, fun s hs => by have := h.len g s (.inl hs); omega, fun s hs => by have := h.len g s (.inr hs); omega, stk_nat h hi⟩
theorem same_nat {F B G C : List Stk} {tb ub : List (List Idd)} (h : Rep F B tb) (h2 : Rep G C ub) : (sameB F G && sameB B C) = decide (tb = ub) := by
  have hF := h.f
  have hB := h.b
  have hG := h2.f
  have hC := h2.b
  have key : (sameB F G && sameB B C) = true ↔ tb = ub := by
    unfold sameB sameAt
    rw [Bool.and_eq_true, List.all_eq_true, List.all_eq_true]
    constructor
    · rintro ⟨a, b⟩
      rw [h.list, h2.list]
      refine List.map_congr_left fun j hj => ?_
      have hj : j < 80 := List.mem_range.1 hj
      unfold stkN
      by_cases hj2 : j < 40
      · rw [if_pos hj2, if_pos hj2, show j % 40 = j by omega]
        by_cases hm : j < max F.length G.length
        · simpa using a j (List.mem_range.2 hm)
        · rw [stackOf_nat, stackOf_nat, if_neg (by omega), if_neg (by omega)]
      · rw [if_neg hj2, if_neg hj2, show j % 40 = j - 40 by omega]
        by_cases hm : j - 40 < max B.length C.length
        · simpa using b (j - 40) (List.mem_range.2 hm)
        · rw [stackOf_nat, stackOf_nat, if_neg (by omega), if_neg (by omega)]
    · rintro rfl
      constructor
      · intro j hj
        have hj := List.mem_range.1 hj
        have e := (h.at' j (by omega)).trans (h2.at' j (by omega)).symm
        unfold stkN at e
        rw [if_pos (by omega), if_pos (by omega), show j % 40 = j by omega] at e
        simpa using e
      · intro j hj
        have hj := List.mem_range.1 hj
        have e := (h.at' (40 + j) (by omega)).trans (h2.at' (40 + j) (by omega)).symm
        unfold stkN at e
        rw [if_neg (by omega), if_neg (by omega), show (40 + j) % 40 = j by omega] at e
        simpa using e
  by_cases e : tb = ub
  · rw [decide_eq_true e, key.2 e]
  · rw [decide_eq_false e]
    exact Bool.eq_false_iff.2 fun c => e (key.1 c)
theorem smok_nat {F B G C : List Stk} {tb ub : List (List Idd)} (h : Rep F B tb) (h2 : Rep G C ub) (g : Good' tb) {r : Bool} (hr : decide (tb = ub) = r) : SmOk F B G C r := by
  have hF := h.f
  have hB := h.b
  have hG := h2.f
  have hC := h2.b
  exact ⟨fun s hs => by have := h.len g s (.inl hs); omega, fun s hs => by have := h.len g s (.inr hs); omega, by omega, by omega, by rw [same_nat h h2, hr]⟩
end Tst
end

section
open Go Go.Lf Go.Proofs
namespace Tst
set_option maxHeartbeats 0
attribute [local irreducible] ofT bedOfT joinV stkAt sameB
theorem bkA_0 (u0 u1 v0 v1 : Int) (t1 : 0 ≤ Int.tmod v0 40) (t2 : 0 ≤ Int.tmod u0 5) (t3 : 0 ≤ IntKind.u8.wrap (40 + Int.tmod v1 40)) (t4 : 0 ≤ Int.tmod u1 5) (hj : JErr (pF u0 u1 v0 v1) (pB u0 u1 v0 v1) (pd v0) (pi v0) (pe v1) (pk v1) 13) (q0 : (IntKind.wrap IntKind.i64 (Int.tmod u0 (5 : Int)) == (0 : Int)) = true) (g0 : AV.sl Mode.own (nat_lit 87) (some (nat_lit 2)) [AV.agg [AV.atom (Value.int IntKind.u8 (Int.tmod v0 (40 : Int))), AV.atom (Value.int IntKind.u8 (Int.tmod u0 (5 : Int)))], AV.agg [AV.atom (Value.int IntKind.u8 (IntKind.wrap IntKind.u8 ((40 : Int) + Int.tmod v1 (40 : Int)))), AV.atom (Value.int IntKind.u8 (Int.tmod u1 (5 : Int)))]] = AV.sl Mode.own (nat_lit 87) (some (2 : Nat)) (List.map Pt.enc (px u0 u1 v0 v1))) (g1 : decide ((true || false) = true → noAny (12 : Nat) (AV.agg [AV.sl Mode.fresh (nat_lit 62) none (List.map FN (bedOfT (ofT (px u0 u1 v0 v1)) (0 : Nat))), AV.sl Mode.fresh (nat_lit 62) none (List.map FN (bedOfT (ofT (px u0 u1 v0 v1)) (40 : Nat)))]) = true) = true) (g2 : AV.agg [AV.sl Mode.fresh (nat_lit 62) none (List.map (mapE (remode shareM (10 : Nat))) (List.map FN (bedOfT (ofT (px u0 u1 v0 v1)) (0 : Nat)))), AV.sl Mode.fresh (nat_lit 62) none (List.map (mapE (remode shareM (10 : Nat))) (List.map FN (bedOfT (ofT (px u0 u1 v0 v1)) (40 : Nat))))] = AV.agg [AV.sl Mode.fresh (nat_lit 62) none (List.map FN (bedOfT (ofT (px u0 u1 v0 v1)) (0 : Nat))), AV.sl Mode.fresh (nat_lit 62) none (List.map FN (bedOfT (ofT (px u0 u1 v0 v1)) (40 : Nat)))]) (g3 : (IntKind.wrap IntKind.i64 (Int.tmod u0 (5 : Int)) == (0 : Int)) = true) : PureC Try.prog 14 [.agg [ub u0, ub u1], .agg [ub v0, ub v1]]  (AV.atom (Value.bool true)) :=
  funA_ok (H := h14) (n := 123) (ans := [.c, .c, .c, .c, .c, .c, .c, .c, .c, .r (AV.agg [AV.atom (Value.int IntKind.u8 (pd v0)), AV.atom (Value.int IntKind.i64 (pi v0))]), .c, .c, .c, .c, .c, .c, .c, .c, .c, .r (AV.agg [AV.atom (Value.int IntKind.u8 (pe v1)), AV.atom (Value.int IntKind.i64 (pk v1))]), .c, .c, .c, .c, .c, .c, .c, .c, .c, .c, .c, .c, .c, .c, .c, .c, .c, .c, .c, .c, .c, .c, .c, .c, .c, .c, .c, .c, .c, .c, .c, .c, .c, .c, .c, .r (AV.sl Mode.own (nat_lit 87) (some (2 : Nat)) (List.map Pt.enc (px u0 u1 v0 v1))), .c, .c, .r (AV.sl Mode.any (nat_lit 87) (some (2 : Nat)) (List.map Pt.enc (px u0 u1 v0 v1))), .r (AV.agg [AV.sl Mode.fresh (nat_lit 62) none (List.map FN (bedOfT (ofT (px u0 u1 v0 v1)) (0 : Nat))), AV.sl Mode.fresh (nat_lit 62) none (List.map FN (bedOfT (ofT (px u0 u1 v0 v1)) (40 : Nat)))]), .b true, .r (AV.agg [AV.sl Mode.fresh (nat_lit 62) none (List.map FN (bedOfT (ofT (px u0 u1 v0 v1)) (0 : Nat))), AV.sl Mode.fresh (nat_lit 62) none (List.map FN (bedOfT (ofT (px u0 u1 v0 v1)) (40 : Nat)))]), .c, .c, .c, .c, .c, .c, .c, .c, .c, .c, .c, .c, .c, .c, .c, .c, .c, .c, .c, .c, .c, .r (AV.tup [AV.agg [AV.atom (Value.slice none (nat_lit 0) (nat_lit 0)), AV.atom (Value.slice none (nat_lit 0) (nat_lit 0))], it 13]), .c, .c, .c, .c, .c, .c, .c, .c, .c, .c, .c, .b true, .c, .c, .c, .c, .r (AV.atom (Value.bool true)), .c, .c, .c, .c, .c]) (ps := [PureC Try.prog (nat_lit 34) [AV.atom (Value.int IntKind.u8 (Int.tmod v0 (40 : Int)))] (AV.agg [AV.atom (Value.int IntKind.u8 (pd v0)), AV.atom (Value.int IntKind.i64 (pi v0))]), PureC Try.prog (nat_lit 34) [AV.atom (Value.int IntKind.u8 (IntKind.wrap IntKind.u8 ((40 : Int) + Int.tmod v1 (40 : Int))))] (AV.agg [AV.atom (Value.int IntKind.u8 (pe v1)), AV.atom (Value.int IntKind.i64 (pk v1))]), AV.sl Mode.own (nat_lit 87) (some (nat_lit 2)) [AV.agg [AV.atom (Value.int IntKind.u8 (Int.tmod v0 (40 : Int))), AV.atom (Value.int IntKind.u8 (Int.tmod u0 (5 : Int)))], AV.agg [AV.atom (Value.int IntKind.u8 (IntKind.wrap IntKind.u8 ((40 : Int) + Int.tmod v1 (40 : Int)))), AV.atom (Value.int IntKind.u8 (Int.tmod u1 (5 : Int)))]] = AV.sl Mode.own (nat_lit 87) (some (2 : Nat)) (List.map Pt.enc (px u0 u1 v0 v1)), view (AV.sl Mode.own (nat_lit 87) (some (nat_lit 2)) [AV.agg [AV.atom (Value.int IntKind.u8 (Pt.a { a := Int.tmod v0 (40 : Int), m := Int.tmod u0 (5 : Int) })), AV.atom (Value.int IntKind.u8 (Pt.m { a := Int.tmod v0 (40 : Int), m := Int.tmod u0 (5 : Int) }))], AV.agg [AV.atom (Value.int IntKind.u8 (Pt.a { a := IntKind.wrap IntKind.u8 ((40 : Int) + Int.tmod v1 (40 : Int)), m := Int.tmod u1 (5 : Int) })), AV.atom (Value.int IntKind.u8 (Pt.m { a := IntKind.wrap IntKind.u8 ((40 : Int) + Int.tmod v1 (40 : Int)), m := Int.tmod u1 (5 : Int) }))]]) = AV.sl Mode.any (nat_lit 87) (some (nat_lit 2)) [AV.agg [AV.atom (Value.int IntKind.u8 (Pt.a { a := Int.tmod v0 (40 : Int), m := Int.tmod u0 (5 : Int) })), AV.atom (Value.int IntKind.u8 (Pt.m { a := Int.tmod v0 (40 : Int), m := Int.tmod u0 (5 : Int) }))], AV.agg [AV.atom (Value.int IntKind.u8 (Pt.a { a := IntKind.wrap IntKind.u8 ((40 : Int) + Int.tmod v1 (40 : Int)), m := Int.tmod u1 (5 : Int) })), AV.atom (Value.int IntKind.u8 (Pt.m { a := IntKind.wrap IntKind.u8 ((40 : Int) + Int.tmod v1 (40 : Int)), m := Int.tmod u1 (5 : Int) }))]], PureC Try.prog (nat_lit 42) [AV.sl Mode.any (nat_lit 87) (some (nat_lit 2)) [AV.agg [AV.atom (Value.int IntKind.u8 (Pt.a { a := Int.tmod v0 (40 : Int), m := Int.tmod u0 (5 : Int) })), AV.atom (Value.int IntKind.u8 (Pt.m { a := Int.tmod v0 (40 : Int), m := Int.tmod u0 (5 : Int) }))], AV.agg [AV.atom (Value.int IntKind.u8 (Pt.a { a := IntKind.wrap IntKind.u8 ((40 : Int) + Int.tmod v1 (40 : Int)), m := Int.tmod u1 (5 : Int) })), AV.atom (Value.int IntKind.u8 (Pt.m { a := IntKind.wrap IntKind.u8 ((40 : Int) + Int.tmod v1 (40 : Int)), m := Int.tmod u1 (5 : Int) }))]]] (AV.agg [AV.sl Mode.fresh (nat_lit 62) none (List.map FN (bedOfT (ofT (px u0 u1 v0 v1)) (0 : Nat))), AV.sl Mode.fresh (nat_lit 62) none (List.map FN (bedOfT (ofT (px u0 u1 v0 v1)) (40 : Nat)))]), decide ((true || false) = true → noAny (12 : Nat) (AV.agg [AV.sl Mode.fresh (nat_lit 62) none (List.map FN (bedOfT (ofT (px u0 u1 v0 v1)) (0 : Nat))), AV.sl Mode.fresh (nat_lit 62) none (List.map FN (bedOfT (ofT (px u0 u1 v0 v1)) (40 : Nat)))]) = true) = true, AV.agg [AV.sl Mode.fresh (nat_lit 62) none (List.map (mapE (remode shareM (10 : Nat))) (List.map FN (bedOfT (ofT (px u0 u1 v0 v1)) (0 : Nat)))), AV.sl Mode.fresh (nat_lit 62) none (List.map (mapE (remode shareM (10 : Nat))) (List.map FN (bedOfT (ofT (px u0 u1 v0 v1)) (40 : Nat))))] = AV.agg [AV.sl Mode.fresh (nat_lit 62) none (List.map FN (bedOfT (ofT (px u0 u1 v0 v1)) (0 : Nat))), AV.sl Mode.fresh (nat_lit 62) none (List.map FN (bedOfT (ofT (px u0 u1 v0 v1)) (40 : Nat)))], PureC Try.prog (nat_lit 40) [view (AV.agg [AV.sl Mode.fresh (nat_lit 62) none (List.map FN (bedOfT (ofT (px u0 u1 v0 v1)) (0 : Nat))), AV.sl Mode.fresh (nat_lit 62) none (List.map FN (bedOfT (ofT (px u0 u1 v0 v1)) (40 : Nat)))]), AV.agg [AV.atom (Value.int IntKind.u8 (pd v0)), AV.atom (Value.int IntKind.i64 (pi v0))], AV.agg [AV.atom (Value.int IntKind.u8 (pe v1)), AV.atom (Value.int IntKind.i64 (pk v1))]] (AV.tup [AV.agg [AV.atom (Value.slice none (nat_lit 0) (nat_lit 0)), AV.atom (Value.slice none (nat_lit 0) (nat_lit 0))], it 13]), (IntKind.wrap IntKind.i64 (Int.tmod u0 (5 : Int)) == (0 : Int)) = true, PureC Try.prog (nat_lit 37) [] (AV.atom (Value.bool true))]) (base 123 0) Try.func14 rfl (by simp) rfl (by kernel_rfl)  (allp (by apply nde_c <;> (first | assumption | rfl | (simp at * <;> omega))) (allp (by apply nde_c <;> (first | assumption | rfl | (simp at * <;> omega))) (allp g0 (allp (by first | exact view_ps _ _ _ | exact view_u8 _ _ _ | rfl | exact view_yn _ _ _ _ _ _ _ | exact view_id _ _ _ | exact view_stk _ _ _ | exact view_beds _ _ _ _ _ _ | exact view_pt _ _ _) (allp (by apply bk_of <;> (first | assumption | rfl | (simp at * <;> omega))) (allp g1 (allp g2 (allp (by (first | rw [view_frW, view_frN] | rw [view_yn] | rw [view_two] | rw [view_twoI] | rw [view_beds] | rw [view_frW] | rw [view_frN] | rw [view_twoF] | skip); apply jerr <;> (first | assumption | rfl | (simp at * <;> omega))) (allp g3 (allp (by apply lives <;> (first | assumption | rfl | (simp at * <;> omega))) allp_nil))))))))))
theorem bkB_0 (u0 u1 v0 v1 : Int) (t1 : 0 ≤ Int.tmod v0 40) (t2 : 0 ≤ Int.tmod u0 5) (t3 : 0 ≤ IntKind.u8.wrap (40 + Int.tmod v1 40)) (t4 : 0 ≤ Int.tmod u1 5) (hj : JErr (pF u0 u1 v0 v1) (pB u0 u1 v0 v1) (pd v0) (pi v0) (pe v1) (pk v1) 9) (q0 : (IntKind.wrap IntKind.i64 (Int.tmod u0 (5 : Int)) == (0 : Int)) = false) (q1 : decide ((4 : Int) < IntKind.wrap IntKind.i64 (IntKind.wrap IntKind.i64 (Int.tmod u0 (5 : Int)) + IntKind.wrap IntKind.i64 (Int.tmod u1 (5 : Int)))) = true) (g0 : AV.sl Mode.own (nat_lit 87) (some (nat_lit 2)) [AV.agg [AV.atom (Value.int IntKind.u8 (Int.tmod v0 (40 : Int))), AV.atom (Value.int IntKind.u8 (Int.tmod u0 (5 : Int)))], AV.agg [AV.atom (Value.int IntKind.u8 (IntKind.wrap IntKind.u8 ((40 : Int) + Int.tmod v1 (40 : Int)))), AV.atom (Value.int IntKind.u8 (Int.tmod u1 (5 : Int)))]] = AV.sl Mode.own (nat_lit 87) (some (2 : Nat)) (List.map Pt.enc (px u0 u1 v0 v1))) (g1 : decide ((true || false) = true → noAny (12 : Nat) (AV.agg [AV.sl Mode.fresh (nat_lit 62) none (List.map FN (bedOfT (ofT (px u0 u1 v0 v1)) (0 : Nat))), AV.sl Mode.fresh (nat_lit 62) none (List.map FN (bedOfT (ofT (px u0 u1 v0 v1)) (40 : Nat)))]) = true) = true) (g2 : AV.agg [AV.sl Mode.fresh (nat_lit 62) none (List.map (mapE (remode shareM (10 : Nat))) (List.map FN (bedOfT (ofT (px u0 u1 v0 v1)) (0 : Nat)))), AV.sl Mode.fresh (nat_lit 62) none (List.map (mapE (remode shareM (10 : Nat))) (List.map FN (bedOfT (ofT (px u0 u1 v0 v1)) (40 : Nat))))] = AV.agg [AV.sl Mode.fresh (nat_lit 62) none (List.map FN (bedOfT (ofT (px u0 u1 v0 v1)) (0 : Nat))), AV.sl Mode.fresh (nat_lit 62) none (List.map FN (bedOfT (ofT (px u0 u1 v0 v1)) (40 : Nat)))]) (g3 : (IntKind.wrap IntKind.i64 (Int.tmod u0 (5 : Int)) == (0 : Int)) = false) (g4 : decide ((4 : Int) < IntKind.wrap IntKind.i64 (IntKind.wrap IntKind.i64 (Int.tmod u0 (5 : Int)) + IntKind.wrap IntKind.i64 (Int.tmod u1 (5 : Int)))) = true) : PureC Try.prog 14 [.agg [ub u0, ub u1], .agg [ub v0, ub v1]]  (AV.atom (Value.bool true)) :=
  funA_ok (H := h14) (n := 123) (ans := [.c, .c, .c, .c, .c, .c, .c, .c, .c, .r (AV.agg [AV.atom (Value.int IntKind.u8 (pd v0)), AV.atom (Value.int IntKind.i64 (pi v0))]), .c, .c, .c, .c, .c, .c, .c, .c, .c, .r (AV.agg [AV.atom (Value.int IntKind.u8 (pe v1)), AV.atom (Value.int IntKind.i64 (pk v1))]), .c, .c, .c, .c, .c, .c, .c, .c, .c, .c, .c, .c, .c, .c, .c, .c, .c, .c, .c, .c, .c, .c, .c, .c, .c, .c, .c, .c, .c, .c, .c, .c, .c, .c, .c, .r (AV.sl Mode.own (nat_lit 87) (some (2 : Nat)) (List.map Pt.enc (px u0 u1 v0 v1))), .c, .c, .r (AV.sl Mode.any (nat_lit 87) (some (2 : Nat)) (List.map Pt.enc (px u0 u1 v0 v1))), .r (AV.agg [AV.sl Mode.fresh (nat_lit 62) none (List.map FN (bedOfT (ofT (px u0 u1 v0 v1)) (0 : Nat))), AV.sl Mode.fresh (nat_lit 62) none (List.map FN (bedOfT (ofT (px u0 u1 v0 v1)) (40 : Nat)))]), .b true, .r (AV.agg [AV.sl Mode.fresh (nat_lit 62) none (List.map FN (bedOfT (ofT (px u0 u1 v0 v1)) (0 : Nat))), AV.sl Mode.fresh (nat_lit 62) none (List.map FN (bedOfT (ofT (px u0 u1 v0 v1)) (40 : Nat)))]), .c, .c, .c, .c, .c, .c, .c, .c, .c, .c, .c, .c, .c, .c, .c, .c, .c, .c, .c, .c, .c, .r (AV.tup [AV.agg [AV.atom (Value.slice none (nat_lit 0) (nat_lit 0)), AV.atom (Value.slice none (nat_lit 0) (nat_lit 0))], it 9]), .c, .c, .c, .c, .c, .c, .c, .c, .c, .c, .c, .b false, .c, .c, .c, .c, .c, .b true, .c, .c, .c, .c, .r (AV.atom (Value.bool true)), .c, .c, .c, .c, .c]) (ps := [PureC Try.prog (nat_lit 34) [AV.atom (Value.int IntKind.u8 (Int.tmod v0 (40 : Int)))] (AV.agg [AV.atom (Value.int IntKind.u8 (pd v0)), AV.atom (Value.int IntKind.i64 (pi v0))]), PureC Try.prog (nat_lit 34) [AV.atom (Value.int IntKind.u8 (IntKind.wrap IntKind.u8 ((40 : Int) + Int.tmod v1 (40 : Int))))] (AV.agg [AV.atom (Value.int IntKind.u8 (pe v1)), AV.atom (Value.int IntKind.i64 (pk v1))]), AV.sl Mode.own (nat_lit 87) (some (nat_lit 2)) [AV.agg [AV.atom (Value.int IntKind.u8 (Int.tmod v0 (40 : Int))), AV.atom (Value.int IntKind.u8 (Int.tmod u0 (5 : Int)))], AV.agg [AV.atom (Value.int IntKind.u8 (IntKind.wrap IntKind.u8 ((40 : Int) + Int.tmod v1 (40 : Int)))), AV.atom (Value.int IntKind.u8 (Int.tmod u1 (5 : Int)))]] = AV.sl Mode.own (nat_lit 87) (some (2 : Nat)) (List.map Pt.enc (px u0 u1 v0 v1)), view (AV.sl Mode.own (nat_lit 87) (some (nat_lit 2)) [AV.agg [AV.atom (Value.int IntKind.u8 (Pt.a { a := Int.tmod v0 (40 : Int), m := Int.tmod u0 (5 : Int) })), AV.atom (Value.int IntKind.u8 (Pt.m { a := Int.tmod v0 (40 : Int), m := Int.tmod u0 (5 : Int) }))], AV.agg [AV.atom (Value.int IntKind.u8 (Pt.a { a := IntKind.wrap IntKind.u8 ((40 : Int) + Int.tmod v1 (40 : Int)), m := Int.tmod u1 (5 : Int) })), AV.atom (Value.int IntKind.u8 (Pt.m { a := IntKind.wrap IntKind.u8 ((40 : Int) + Int.tmod v1 (40 : Int)), m := Int.tmod u1 (5 : Int) }))]]) = AV.sl Mode.any (nat_lit 87) (some (nat_lit 2)) [AV.agg [AV.atom (Value.int IntKind.u8 (Pt.a { a := Int.tmod v0 (40 : Int), m := Int.tmod u0 (5 : Int) })), AV.atom (Value.int IntKind.u8 (Pt.m { a := Int.tmod v0 (40 : Int), m := Int.tmod u0 (5 : Int) }))], AV.agg [AV.atom (Value.int IntKind.u8 (Pt.a { a := IntKind.wrap IntKind.u8 ((40 : Int) + Int.tmod v1 (40 : Int)), m := Int.tmod u1 (5 : Int) })), AV.atom (Value.int IntKind.u8 (Pt.m { a := IntKind.wrap IntKind.u8 ((40 : Int) + Int.tmod v1 (40 : Int)), m := Int.tmod u1 (5 : Int) }))]], PureC Try.prog (nat_lit 42) [AV.sl Mode.any (nat_lit 87) (some (nat_lit 2)) [AV.agg [AV.atom (Value.int IntKind.u8 (Pt.a { a := Int.tmod v0 (40 : Int), m := Int.tmod u0 (5 : Int) })), AV.atom (Value.int IntKind.u8 (Pt.m { a := Int.tmod v0 (40 : Int), m := Int.tmod u0 (5 : Int) }))], AV.agg [AV.atom (Value.int IntKind.u8 (Pt.a { a := IntKind.wrap IntKind.u8 ((40 : Int) + Int.tmod v1 (40 : Int)), m := Int.tmod u1 (5 : Int) })), AV.atom (Value.int IntKind.u8 (Pt.m { a := IntKind.wrap IntKind.u8 ((40 : Int) + Int.tmod v1 (40 : Int)), m := Int.tmod u1 (5 : Int) }))]]] (AV.agg [AV.sl Mode.fresh (nat_lit 62) none (List.map FN (bedOfT (ofT (px u0 u1 v0 v1)) (0 : Nat))), AV.sl Mode.fresh (nat_lit 62) none (List.map FN (bedOfT (ofT (px u0 u1 v0 v1)) (40 : Nat)))]), decide ((true || false) = true → noAny (12 : Nat) (AV.agg [AV.sl Mode.fresh (nat_lit 62) none (List.map FN (bedOfT (ofT (px u0 u1 v0 v1)) (0 : Nat))), AV.sl Mode.fresh (nat_lit 62) none (List.map FN (bedOfT (ofT (px u0 u1 v0 v1)) (40 : Nat)))]) = true) = true, AV.agg [AV.sl Mode.fresh (nat_lit 62) none (List.map (mapE (remode shareM (10 : Nat))) (List.map FN (bedOfT (ofT (px u0 u1 v0 v1)) (0 : Nat)))), AV.sl Mode.fresh (nat_lit 62) none (List.map (mapE (remode shareM (10 : Nat))) (List.map FN (bedOfT (ofT (px u0 u1 v0 v1)) (40 : Nat))))] = AV.agg [AV.sl Mode.fresh (nat_lit 62) none (List.map FN (bedOfT (ofT (px u0 u1 v0 v1)) (0 : Nat))), AV.sl Mode.fresh (nat_lit 62) none (List.map FN (bedOfT (ofT (px u0 u1 v0 v1)) (40 : Nat)))], PureC Try.prog (nat_lit 40) [view (AV.agg [AV.sl Mode.fresh (nat_lit 62) none (List.map FN (bedOfT (ofT (px u0 u1 v0 v1)) (0 : Nat))), AV.sl Mode.fresh (nat_lit 62) none (List.map FN (bedOfT (ofT (px u0 u1 v0 v1)) (40 : Nat)))]), AV.agg [AV.atom (Value.int IntKind.u8 (pd v0)), AV.atom (Value.int IntKind.i64 (pi v0))], AV.agg [AV.atom (Value.int IntKind.u8 (pe v1)), AV.atom (Value.int IntKind.i64 (pk v1))]] (AV.tup [AV.agg [AV.atom (Value.slice none (nat_lit 0) (nat_lit 0)), AV.atom (Value.slice none (nat_lit 0) (nat_lit 0))], it 9]), (IntKind.wrap IntKind.i64 (Int.tmod u0 (5 : Int)) == (0 : Int)) = false, decide ((4 : Int) < IntKind.wrap IntKind.i64 (IntKind.wrap IntKind.i64 (Int.tmod u0 (5 : Int)) + IntKind.wrap IntKind.i64 (Int.tmod u1 (5 : Int)))) = true, PureC Try.prog (nat_lit 37) [] (AV.atom (Value.bool true))]) (base 123 0) Try.func14 rfl (by simp) rfl (by kernel_rfl)  (allp (by apply nde_c <;> (first | assumption | rfl | (simp at * <;> omega))) (allp (by apply nde_c <;> (first | assumption | rfl | (simp at * <;> omega))) (allp g0 (allp (by first | exact view_ps _ _ _ | exact view_u8 _ _ _ | rfl | exact view_yn _ _ _ _ _ _ _ | exact view_id _ _ _ | exact view_stk _ _ _ | exact view_beds _ _ _ _ _ _ | exact view_pt _ _ _) (allp (by apply bk_of <;> (first | assumption | rfl | (simp at * <;> omega))) (allp g1 (allp g2 (allp (by (first | rw [view_frW, view_frN] | rw [view_yn] | rw [view_two] | rw [view_twoI] | rw [view_beds] | rw [view_frW] | rw [view_frN] | rw [view_twoF] | skip); apply jerr <;> (first | assumption | rfl | (simp at * <;> omega))) (allp g3 (allp g4 (allp (by apply lives <;> (first | assumption | rfl | (simp at * <;> omega))) allp_nil)))))))))))
theorem bkC_2 (u0 u1 v0 v1 : Int) (t1 : 0 ≤ Int.tmod v0 40) (t2 : 0 ≤ Int.tmod u0 5) (t3 : 0 ≤ IntKind.u8.wrap (40 + Int.tmod v1 40)) (t4 : 0 ≤ Int.tmod u1 5) (X Y X2 Y2 : List (List Idd)) (z l m : List Idd) (hj : JOk (pF u0 u1 v0 v1) (pB u0 u1 v0 v1) (pd v0) (pi v0) (pe v1) (pk v1) X Y) (q0 : (IntKind.wrap IntKind.i64 (Int.tmod u0 (5 : Int)) == (0 : Int)) = false) (q1 : decide ((4 : Int) < IntKind.wrap IntKind.i64 (IntKind.wrap IntKind.i64 (Int.tmod u0 (5 : Int)) + IntKind.wrap IntKind.i64 (Int.tmod u1 (5 : Int)))) = false) (a1 : AtOk (stkW X) (stkW Y) (pd v0) (pi v0) z) (a2 : AtOk (stkW X) (stkW Y) (pe v1) (pk v1) l) (hj2 : JOk (stkW X) (stkW Y) (pe v1) (pk v1) (pd v0) (pi v0) X2 Y2) (a3 : AtOk (stkW X2) (stkW Y2) (pd v0) (pi v0) m) (hs : SmOk (stkW X2) (stkW Y2) (pF u0 u1 v0 v1) (pB u0 u1 v0 v1) (IntKind.wrap IntKind.i64 (Int.tmod u1 (5 : Int)) == (0 : Int))) (g0 : AV.sl Mode.own (nat_lit 87) (some (nat_lit 2)) [AV.agg [AV.atom (Value.int IntKind.u8 (Int.tmod v0 (40 : Int))), AV.atom (Value.int IntKind.u8 (Int.tmod u0 (5 : Int)))], AV.agg [AV.atom (Value.int IntKind.u8 (IntKind.wrap IntKind.u8 ((40 : Int) + Int.tmod v1 (40 : Int)))), AV.atom (Value.int IntKind.u8 (Int.tmod u1 (5 : Int)))]] = AV.sl Mode.own (nat_lit 87) (some (2 : Nat)) (List.map Pt.enc (px u0 u1 v0 v1))) (g1 : decide ((true || false) = true → noAny (12 : Nat) (AV.agg [AV.sl Mode.fresh (nat_lit 62) none (List.map FN (bedOfT (ofT (px u0 u1 v0 v1)) (0 : Nat))), AV.sl Mode.fresh (nat_lit 62) none (List.map FN (bedOfT (ofT (px u0 u1 v0 v1)) (40 : Nat)))]) = true) = true) (g2 : AV.agg [AV.sl Mode.fresh (nat_lit 62) none (List.map (mapE (remode shareM (10 : Nat))) (List.map FN (bedOfT (ofT (px u0 u1 v0 v1)) (0 : Nat)))), AV.sl Mode.fresh (nat_lit 62) none (List.map (mapE (remode shareM (10 : Nat))) (List.map FN (bedOfT (ofT (px u0 u1 v0 v1)) (40 : Nat))))] = AV.agg [AV.sl Mode.fresh (nat_lit 62) none (List.map FN (bedOfT (ofT (px u0 u1 v0 v1)) (0 : Nat))), AV.sl Mode.fresh (nat_lit 62) none (List.map FN (bedOfT (ofT (px u0 u1 v0 v1)) (40 : Nat)))]) (g3 : AV.agg [AV.sl Mode.fresh (nat_lit 62) (some (List.length X)) (List.map (mapE (remode shareM (10 : Nat))) (List.map FW X)), AV.sl Mode.fresh (nat_lit 62) (some (List.length Y)) (List.map (mapE (remode shareM (10 : Nat))) (List.map FW Y))] = AV.agg [AV.sl Mode.fresh (nat_lit 62) (some (List.length X)) (List.map FW X), AV.sl Mode.fresh (nat_lit 62) (some (List.length Y)) (List.map FW Y)]) (g4 : (IntKind.wrap IntKind.i64 (Int.tmod u0 (5 : Int)) == (0 : Int)) = false) (g5 : decide ((4 : Int) < IntKind.wrap IntKind.i64 (IntKind.wrap IntKind.i64 (Int.tmod u0 (5 : Int)) + IntKind.wrap IntKind.i64 (Int.tmod u1 (5 : Int)))) = false) (g6 : ((↑(List.length (List.map Idd.enc z)) : Int) != (0 : Int)) = false) (g7 : ((↑(List.length (List.map Idd.enc l)) : Int) != IntKind.wrap IntKind.i64 (IntKind.wrap IntKind.i64 (Int.tmod u0 (5 : Int)) + IntKind.wrap IntKind.i64 (Int.tmod u1 (5 : Int)))) = false) (g8 : AV.agg [AV.sl Mode.fresh (nat_lit 62) (some (List.length X2)) (List.map (mapE (remode shareM (10 : Nat))) (List.map FW X2)), AV.sl Mode.fresh (nat_lit 62) (some (List.length Y2)) (List.map (mapE (remode shareM (10 : Nat))) (List.map FW Y2))] = AV.agg [AV.sl Mode.fresh (nat_lit 62) (some (List.length X2)) (List.map FW X2), AV.sl Mode.fresh (nat_lit 62) (some (List.length Y2)) (List.map FW Y2)]) (g9 : ((↑(List.length (List.map Idd.enc m)) : Int) == IntKind.wrap IntKind.i64 (IntKind.wrap IntKind.i64 (Int.tmod u0 (5 : Int)) + IntKind.wrap IntKind.i64 (Int.tmod u1 (5 : Int)))) = true) (g10 : ((IntKind.wrap IntKind.i64 (Int.tmod u1 (5 : Int)) == (0 : Int)) == (IntKind.wrap IntKind.i64 (Int.tmod u1 (5 : Int)) == (0 : Int))) = true) : PureC Try.prog 14 [.agg [ub u0, ub u1], .agg [ub v0, ub v1]]  (AV.atom (Value.bool true)) :=
  funA_ok (H := h14) (n := 123) (ans := [.c, .c, .c, .c, .c, .c, .c, .c, .c, .r (AV.agg [AV.atom (Value.int IntKind.u8 (pd v0)), AV.atom (Value.int IntKind.i64 (pi v0))]), .c, .c, .c, .c, .c, .c, .c, .c, .c, .r (AV.agg [AV.atom (Value.int IntKind.u8 (pe v1)), AV.atom (Value.int IntKind.i64 (pk v1))]), .c, .c, .c, .c, .c, .c, .c, .c, .c, .c, .c, .c, .c, .c, .c, .c, .c, .c, .c, .c, .c, .c, .c, .c, .c, .c, .c, .c, .c, .c, .c, .c, .c, .c, .c, .r (AV.sl Mode.own (nat_lit 87) (some (2 : Nat)) (List.map Pt.enc (px u0 u1 v0 v1))), .c, .c, .r (AV.sl Mode.any (nat_lit 87) (some (2 : Nat)) (List.map Pt.enc (px u0 u1 v0 v1))), .r (AV.agg [AV.sl Mode.fresh (nat_lit 62) none (List.map FN (bedOfT (ofT (px u0 u1 v0 v1)) (0 : Nat))), AV.sl Mode.fresh (nat_lit 62) none (List.map FN (bedOfT (ofT (px u0 u1 v0 v1)) (40 : Nat)))]), .b true, .r (AV.agg [AV.sl Mode.fresh (nat_lit 62) none (List.map FN (bedOfT (ofT (px u0 u1 v0 v1)) (0 : Nat))), AV.sl Mode.fresh (nat_lit 62) none (List.map FN (bedOfT (ofT (px u0 u1 v0 v1)) (40 : Nat)))]), .c, .c, .c, .c, .c, .c, .c, .c, .c, .c, .c, .c, .c, .c, .c, .c, .c, .c, .c, .c, .c, .r (AV.tup [AV.agg [AV.sl Mode.fresh (nat_lit 62) (some (List.length X)) (List.map FW X), AV.sl Mode.fresh (nat_lit 62) (some (List.length Y)) (List.map FW Y)], it 0]), .c, .c, .c, .r (AV.agg [AV.sl Mode.fresh (nat_lit 62) (some (List.length X)) (List.map FW X), AV.sl Mode.fresh (nat_lit 62) (some (List.length Y)) (List.map FW Y)]), .c, .c, .c, .c, .c, .c, .c, .b false, .c, .c, .c, .c, .c, .b false, .c, .c, .c, .c, .c, .c, .c, .c, .r (AV.sl Mode.own (nat_lit 30) (some (List.length z)) (List.map Idd.enc z)), .c, .c, .c, .c, .c, .c, .c, .c, .c, .b false, .c, .b false, .c, .b false, .r (AV.sl Mode.own (nat_lit 30) (some (List.length l)) (List.map Idd.enc l)), .c, .c, .b false, .c, .b false, .c, .b false, .c, .b false, .c, .b false, .c, .b false, .c, .b false, .c, .c, .c, .r (AV.tup [AV.agg [AV.sl Mode.fresh (nat_lit 62) (some (List.length X2)) (List.map FW X2), AV.sl Mode.fresh (nat_lit 62) (some (List.length Y2)) (List.map FW Y2)], it 0]), .c, .c, .c, .r (AV.agg [AV.sl Mode.fresh (nat_lit 62) (some (List.length X2)) (List.map FW X2), AV.sl Mode.fresh (nat_lit 62) (some (List.length Y2)) (List.map FW Y2)]), .c, .c, .c, .c, .c, .c, .c, .c, .c, .c, .c, .c, .r (AV.sl Mode.own (nat_lit 30) (some (List.length m)) (List.map Idd.enc m)), .c, .c, .c, .c, .c, .c, .c, .c, .c, .c, .c, .c, .c, .c, .c, .b true, .c, .b true, .c, .b true, .r (AV.atom (Value.bool (IntKind.wrap IntKind.i64 (Int.tmod u1 (5 : Int)) == (0 : Int)))), .c, .c, .b true, .c, .b true, .c, .b true, .c, .b true, .c, .c, .b true, .r (AV.atom (Value.bool true)), .c, .c, .b true, .c, .c]) (ps := [PureC Try.prog (nat_lit 34) [AV.atom (Value.int IntKind.u8 (Int.tmod v0 (40 : Int)))] (AV.agg [AV.atom (Value.int IntKind.u8 (pd v0)), AV.atom (Value.int IntKind.i64 (pi v0))]), PureC Try.prog (nat_lit 34) [AV.atom (Value.int IntKind.u8 (IntKind.wrap IntKind.u8 ((40 : Int) + Int.tmod v1 (40 : Int))))] (AV.agg [AV.atom (Value.int IntKind.u8 (pe v1)), AV.atom (Value.int IntKind.i64 (pk v1))]), AV.sl Mode.own (nat_lit 87) (some (nat_lit 2)) [AV.agg [AV.atom (Value.int IntKind.u8 (Int.tmod v0 (40 : Int))), AV.atom (Value.int IntKind.u8 (Int.tmod u0 (5 : Int)))], AV.agg [AV.atom (Value.int IntKind.u8 (IntKind.wrap IntKind.u8 ((40 : Int) + Int.tmod v1 (40 : Int)))), AV.atom (Value.int IntKind.u8 (Int.tmod u1 (5 : Int)))]] = AV.sl Mode.own (nat_lit 87) (some (2 : Nat)) (List.map Pt.enc (px u0 u1 v0 v1)), view (AV.sl Mode.own (nat_lit 87) (some (nat_lit 2)) [AV.agg [AV.atom (Value.int IntKind.u8 (Pt.a { a := Int.tmod v0 (40 : Int), m := Int.tmod u0 (5 : Int) })), AV.atom (Value.int IntKind.u8 (Pt.m { a := Int.tmod v0 (40 : Int), m := Int.tmod u0 (5 : Int) }))], AV.agg [AV.atom (Value.int IntKind.u8 (Pt.a { a := IntKind.wrap IntKind.u8 ((40 : Int) + Int.tmod v1 (40 : Int)), m := Int.tmod u1 (5 : Int) })), AV.atom (Value.int IntKind.u8 (Pt.m { a := IntKind.wrap IntKind.u8 ((40 : Int) + Int.tmod v1 (40 : Int)), m := Int.tmod u1 (5 : Int) }))]]) = AV.sl Mode.any (nat_lit 87) (some (nat_lit 2)) [AV.agg [AV.atom (Value.int IntKind.u8 (Pt.a { a := Int.tmod v0 (40 : Int), m := Int.tmod u0 (5 : Int) })), AV.atom (Value.int IntKind.u8 (Pt.m { a := Int.tmod v0 (40 : Int), m := Int.tmod u0 (5 : Int) }))], AV.agg [AV.atom (Value.int IntKind.u8 (Pt.a { a := IntKind.wrap IntKind.u8 ((40 : Int) + Int.tmod v1 (40 : Int)), m := Int.tmod u1 (5 : Int) })), AV.atom (Value.int IntKind.u8 (Pt.m { a := IntKind.wrap IntKind.u8 ((40 : Int) + Int.tmod v1 (40 : Int)), m := Int.tmod u1 (5 : Int) }))]], PureC Try.prog (nat_lit 42) [AV.sl Mode.any (nat_lit 87) (some (nat_lit 2)) [AV.agg [AV.atom (Value.int IntKind.u8 (Pt.a { a := Int.tmod v0 (40 : Int), m := Int.tmod u0 (5 : Int) })), AV.atom (Value.int IntKind.u8 (Pt.m { a := Int.tmod v0 (40 : Int), m := Int.tmod u0 (5 : Int) }))], AV.agg [AV.atom (Value.int IntKind.u8 (Pt.a { a := IntKind.wrap IntKind.u8 ((40 : Int) + Int.tmod v1 (40 : Int)), m := Int.tmod u1 (5 : Int) })), AV.atom (Value.int IntKind.u8 (Pt.m { a := IntKind.wrap IntKind.u8 ((40 : Int) + Int.tmod v1 (40 : Int)), m := Int.tmod u1 (5 : Int) }))]]] (AV.agg [AV.sl Mode.fresh (nat_lit 62) none (List.map FN (bedOfT (ofT (px u0 u1 v0 v1)) (0 : Nat))), AV.sl Mode.fresh (nat_lit 62) none (List.map FN (bedOfT (ofT (px u0 u1 v0 v1)) (40 : Nat)))]), decide ((true || false) = true → noAny (12 : Nat) (AV.agg [AV.sl Mode.fresh (nat_lit 62) none (List.map FN (bedOfT (ofT (px u0 u1 v0 v1)) (0 : Nat))), AV.sl Mode.fresh (nat_lit 62) none (List.map FN (bedOfT (ofT (px u0 u1 v0 v1)) (40 : Nat)))]) = true) = true, AV.agg [AV.sl Mode.fresh (nat_lit 62) none (List.map (mapE (remode shareM (10 : Nat))) (List.map FN (bedOfT (ofT (px u0 u1 v0 v1)) (0 : Nat)))), AV.sl Mode.fresh (nat_lit 62) none (List.map (mapE (remode shareM (10 : Nat))) (List.map FN (bedOfT (ofT (px u0 u1 v0 v1)) (40 : Nat))))] = AV.agg [AV.sl Mode.fresh (nat_lit 62) none (List.map FN (bedOfT (ofT (px u0 u1 v0 v1)) (0 : Nat))), AV.sl Mode.fresh (nat_lit 62) none (List.map FN (bedOfT (ofT (px u0 u1 v0 v1)) (40 : Nat)))], PureC Try.prog (nat_lit 40) [view (AV.agg [AV.sl Mode.fresh (nat_lit 62) none (List.map FN (bedOfT (ofT (px u0 u1 v0 v1)) (0 : Nat))), AV.sl Mode.fresh (nat_lit 62) none (List.map FN (bedOfT (ofT (px u0 u1 v0 v1)) (40 : Nat)))]), AV.agg [AV.atom (Value.int IntKind.u8 (pd v0)), AV.atom (Value.int IntKind.i64 (pi v0))], AV.agg [AV.atom (Value.int IntKind.u8 (pe v1)), AV.atom (Value.int IntKind.i64 (pk v1))]] (AV.tup [AV.agg [AV.sl Mode.fresh (nat_lit 62) (some (List.length X)) (List.map FW X), AV.sl Mode.fresh (nat_lit 62) (some (List.length Y)) (List.map FW Y)], it 0]), AV.agg [AV.sl Mode.fresh (nat_lit 62) (some (List.length X)) (List.map (mapE (remode shareM (10 : Nat))) (List.map FW X)), AV.sl Mode.fresh (nat_lit 62) (some (List.length Y)) (List.map (mapE (remode shareM (10 : Nat))) (List.map FW Y))] = AV.agg [AV.sl Mode.fresh (nat_lit 62) (some (List.length X)) (List.map FW X), AV.sl Mode.fresh (nat_lit 62) (some (List.length Y)) (List.map FW Y)], (IntKind.wrap IntKind.i64 (Int.tmod u0 (5 : Int)) == (0 : Int)) = false, decide ((4 : Int) < IntKind.wrap IntKind.i64 (IntKind.wrap IntKind.i64 (Int.tmod u0 (5 : Int)) + IntKind.wrap IntKind.i64 (Int.tmod u1 (5 : Int)))) = false, PureC Try.prog (nat_lit 33) [view (AV.agg [AV.sl Mode.fresh (nat_lit 62) (some (List.length X)) (List.map FW X), AV.sl Mode.fresh (nat_lit 62) (some (List.length Y)) (List.map FW Y)]), AV.agg [AV.atom (Value.int IntKind.u8 (pd v0)), AV.atom (Value.int IntKind.i64 (pi v0))]] (AV.sl Mode.own (nat_lit 30) (some (List.length z)) (List.map Idd.enc z)), ((↑(List.length (List.map Idd.enc z)) : Int) != (0 : Int)) = false, ((↑(List.length (List.map Idd.enc z)) : Int) != (0 : Int)) = false, ((↑(List.length (List.map Idd.enc z)) : Int) != (0 : Int)) = false, PureC Try.prog (nat_lit 33) [view (AV.agg [AV.sl Mode.fresh (nat_lit 62) (some (List.length X)) (List.map FW X), AV.sl Mode.fresh (nat_lit 62) (some (List.length Y)) (List.map FW Y)]), AV.agg [AV.atom (Value.int IntKind.u8 (pe v1)), AV.atom (Value.int IntKind.i64 (pk v1))]] (AV.sl Mode.own (nat_lit 30) (some (List.length l)) (List.map Idd.enc l)), ((↑(List.length (List.map Idd.enc z)) : Int) != (0 : Int)) = false, ((↑(List.length (List.map Idd.enc z)) : Int) != (0 : Int)) = false, ((↑(List.length (List.map Idd.enc z)) : Int) != (0 : Int)) = false, ((↑(List.length (List.map Idd.enc z)) : Int) != (0 : Int)) = false, ((↑(List.length (List.map Idd.enc z)) : Int) != (0 : Int)) = false, ((↑(List.length (List.map Idd.enc z)) : Int) != (0 : Int)) = false, ((↑(List.length (List.map Idd.enc l)) : Int) != IntKind.wrap IntKind.i64 (IntKind.wrap IntKind.i64 (Int.tmod u0 (5 : Int)) + IntKind.wrap IntKind.i64 (Int.tmod u1 (5 : Int)))) = false, PureC Try.prog (nat_lit 40) [view (AV.agg [AV.sl Mode.fresh (nat_lit 62) (some (List.length X)) (List.map FW X), AV.sl Mode.fresh (nat_lit 62) (some (List.length Y)) (List.map FW Y)]), AV.agg [AV.atom (Value.int IntKind.u8 (pe v1)), AV.atom (Value.int IntKind.i64 (pk v1))], AV.agg [AV.atom (Value.int IntKind.u8 (pd v0)), AV.atom (Value.int IntKind.i64 (pi v0))]] (AV.tup [AV.agg [AV.sl Mode.fresh (nat_lit 62) (some (List.length X2)) (List.map FW X2), AV.sl Mode.fresh (nat_lit 62) (some (List.length Y2)) (List.map FW Y2)], it 0]), AV.agg [AV.sl Mode.fresh (nat_lit 62) (some (List.length X2)) (List.map (mapE (remode shareM (10 : Nat))) (List.map FW X2)), AV.sl Mode.fresh (nat_lit 62) (some (List.length Y2)) (List.map (mapE (remode shareM (10 : Nat))) (List.map FW Y2))] = AV.agg [AV.sl Mode.fresh (nat_lit 62) (some (List.length X2)) (List.map FW X2), AV.sl Mode.fresh (nat_lit 62) (some (List.length Y2)) (List.map FW Y2)], PureC Try.prog (nat_lit 33) [view (AV.agg [AV.sl Mode.fresh (nat_lit 62) (some (List.length X2)) (List.map FW X2), AV.sl Mode.fresh (nat_lit 62) (some (List.length Y2)) (List.map FW Y2)]), AV.agg [AV.atom (Value.int IntKind.u8 (pd v0)), AV.atom (Value.int IntKind.i64 (pi v0))]] (AV.sl Mode.own (nat_lit 30) (some (List.length m)) (List.map Idd.enc m)), ((↑(List.length (List.map Idd.enc m)) : Int) == IntKind.wrap IntKind.i64 (IntKind.wrap IntKind.i64 (Int.tmod u0 (5 : Int)) + IntKind.wrap IntKind.i64 (Int.tmod u1 (5 : Int)))) = true, ((↑(List.length (List.map Idd.enc m)) : Int) == IntKind.wrap IntKind.i64 (IntKind.wrap IntKind.i64 (Int.tmod u0 (5 : Int)) + IntKind.wrap IntKind.i64 (Int.tmod u1 (5 : Int)))) = true, ((↑(List.length (List.map Idd.enc m)) : Int) == IntKind.wrap IntKind.i64 (IntKind.wrap IntKind.i64 (Int.tmod u0 (5 : Int)) + IntKind.wrap IntKind.i64 (Int.tmod u1 (5 : Int)))) = true, PureC Try.prog (nat_lit 39) [view (AV.agg [AV.sl Mode.fresh (nat_lit 62) (some (List.length X2)) (List.map FW X2), AV.sl Mode.fresh (nat_lit 62) (some (List.length Y2)) (List.map FW Y2)]), view (AV.agg [AV.sl Mode.fresh (nat_lit 62) none (List.map FN (bedOfT (ofT (px u0 u1 v0 v1)) (0 : Nat))), AV.sl Mode.fresh (nat_lit 62) none (List.map FN (bedOfT (ofT (px u0 u1 v0 v1)) (40 : Nat)))])] (AV.atom (Value.bool (IntKind.wrap IntKind.i64 (Int.tmod u1 (5 : Int)) == (0 : Int)))), ((↑(List.length (List.map Idd.enc m)) : Int) == IntKind.wrap IntKind.i64 (IntKind.wrap IntKind.i64 (Int.tmod u0 (5 : Int)) + IntKind.wrap IntKind.i64 (Int.tmod u1 (5 : Int)))) = true, ((↑(List.length (List.map Idd.enc m)) : Int) == IntKind.wrap IntKind.i64 (IntKind.wrap IntKind.i64 (Int.tmod u0 (5 : Int)) + IntKind.wrap IntKind.i64 (Int.tmod u1 (5 : Int)))) = true, ((↑(List.length (List.map Idd.enc m)) : Int) == IntKind.wrap IntKind.i64 (IntKind.wrap IntKind.i64 (Int.tmod u0 (5 : Int)) + IntKind.wrap IntKind.i64 (Int.tmod u1 (5 : Int)))) = true, ((↑(List.length (List.map Idd.enc m)) : Int) == IntKind.wrap IntKind.i64 (IntKind.wrap IntKind.i64 (Int.tmod u0 (5 : Int)) + IntKind.wrap IntKind.i64 (Int.tmod u1 (5 : Int)))) = true, ((IntKind.wrap IntKind.i64 (Int.tmod u1 (5 : Int)) == (0 : Int)) == (IntKind.wrap IntKind.i64 (Int.tmod u1 (5 : Int)) == (0 : Int))) = true, PureC Try.prog (nat_lit 37) [] (AV.atom (Value.bool true)), ((IntKind.wrap IntKind.i64 (Int.tmod u1 (5 : Int)) == (0 : Int)) == (IntKind.wrap IntKind.i64 (Int.tmod u1 (5 : Int)) == (0 : Int))) = true]) (base 123 0) Try.func14 rfl (by simp) rfl (by kernel_rfl)  (allp (by apply nde_c <;> (first | assumption | rfl | (simp at * <;> omega))) (allp (by apply nde_c <;> (first | assumption | rfl | (simp at * <;> omega))) (allp g0 (allp (by first | exact view_ps _ _ _ | exact view_u8 _ _ _ | rfl | exact view_yn _ _ _ _ _ _ _ | exact view_id _ _ _ | exact view_stk _ _ _ | exact view_beds _ _ _ _ _ _ | exact view_pt _ _ _) (allp (by apply bk_of <;> (first | assumption | rfl | (simp at * <;> omega))) (allp g1 (allp g2 (allp (by (first | rw [view_frW, view_frN] | rw [view_yn] | rw [view_two] | rw [view_twoI] | rw [view_beds] | rw [view_frW] | rw [view_frN] | rw [view_twoF] | skip); apply jok <;> (first | assumption | rfl | (simp at * <;> omega))) (allp g3 (allp g4 (allp g5 (allp (by (first | rw [view_frW, view_frN] | rw [view_yn] | rw [view_two] | rw [view_twoI] | rw [view_beds] | rw [view_frW] | rw [view_frN] | rw [view_twoF] | skip); apply atok <;> (first | assumption | rfl | (simp at * <;> omega))) (allp g6 (allp g6 (allp g6 (allp (by (first | rw [view_frW, view_frN] | rw [view_yn] | rw [view_two] | rw [view_twoI] | rw [view_beds] | rw [view_frW] | rw [view_frN] | rw [view_twoF] | skip); apply atok <;> (first | assumption | rfl | (simp at * <;> omega))) (allp g6 (allp g6 (allp g6 (allp g6 (allp g6 (allp g6 (allp g7 (allp (by (first | rw [view_frW, view_frN] | rw [view_yn] | rw [view_two] | rw [view_twoI] | rw [view_beds] | rw [view_frW] | rw [view_frN] | rw [view_twoF] | skip); apply jok <;> (first | assumption | rfl | (simp at * <;> omega))) (allp g8 (allp (by (first | rw [view_frW, view_frN] | rw [view_yn] | rw [view_two] | rw [view_twoI] | rw [view_beds] | rw [view_frW] | rw [view_frN] | rw [view_twoF] | skip); apply atok <;> (first | assumption | rfl | (simp at * <;> omega))) (allp g9 (allp g9 (allp g9 (allp (by (first | rw [view_frW, view_frN] | rw [view_yn] | rw [view_two] | rw [view_twoI] | rw [view_beds] | rw [view_frW] | rw [view_frN] | rw [view_twoF] | skip); apply smok <;> (first | assumption | rfl | (simp at * <;> omega))) (allp g9 (allp g9 (allp g9 (allp g9 (allp g10 (allp (by apply lives <;> (first | assumption | rfl | (simp at * <;> omega))) (allp g10 allp_nil)))))))))))))))))))))))))))))))))))))
end Tst
end

section
open Go Go.Lf Go.Proofs
namespace Tst
theorem noAny_FN (k : Nat) (x : List (List Idd)) : (x.map FN).all (noAny (k + 3)) = true := by
  rw [List.all_map, List.all_eq_true]
  intro l _
  show ((true && (l.map Idd.enc).all (noAny (k + 2))) : Bool) = true
  rw [Bool.true_and, List.all_map, List.all_eq_true]
  intro p _
  rfl
theorem noAny_bn (x y : List (List Idd)) (c c' : Option Nat) : noAny 12 (AV.agg [AV.sl Mode.fresh 62 c (x.map FN), AV.sl Mode.fresh 62 c' (y.map FN)]) = true := by
  show (((true && (x.map FN).all (noAny 10)) && ((true && (y.map FN).all (noAny 10)) && true)) : Bool) = true
  rw [noAny_FN 7, noAny_FN 7]; rfl
theorem smap_FN (k : Nat) (x : List (List Idd)) : (x.map FN).map (mapE (remode shareM (k + 2))) = x.map FN := by
  rw [List.map_map]
  refine List.map_congr_left fun l _ => ?_
  show AV.sl .fresh 30 none ((l.map Idd.enc).map (mapE (remode shareM (k + 1)))) = _
  rw [map_re]; rfl
attribute [local irreducible] ofT bedOfT joinV stkAt sameB
theorem tmod_nat (x k : Nat) : Int.tmod (x : Int) (k : Int) = ((x % k : Nat) : Int) := by
  rw [Int.tmod_eq_emod_of_nonneg (by omega)]; omega
theorem law14_c (u0 u1 v0 v1 : Int) (hu0 : 0 ≤ u0 ∧ u0 ≤ 255) (hu1 : 0 ≤ u1 ∧ u1 ≤ 255) (hv0 : 0 ≤ v0 ∧ v0 ≤ 255) (hv1 : 0 ≤ v1 ∧ v1 ≤ 255) : PureC Try.prog 14 [.agg [ub u0, ub u1], .agg [ub v0, ub v1]] (bb true) := by
  obtain ⟨x0, rfl⟩ := Int.eq_ofNat_of_zero_le hu0.1
  obtain ⟨x1, rfl⟩ := Int.eq_ofNat_of_zero_le hu1.1
  obtain ⟨y0, rfl⟩ := Int.eq_ofNat_of_zero_le hv0.1
  obtain ⟨y1, rfl⟩ := Int.eq_ofNat_of_zero_le hv1.1
  have ea : Int.tmod (y0 : Int) 40 = ((y0 % 40 : Nat) : Int) := tmod_nat y0 40
  have eb : IntKind.u8.wrap (40 + Int.tmod (y1 : Int) 40) = ((40 + y1 % 40 : Nat) : Int) := by
    rw [show Int.tmod (y1 : Int) 40 = ((y1 % 40 : Nat) : Int) from tmod_nat y1 40, show (40 : Int) + ((y1 % 40 : Nat) : Int) = ((40 + y1 % 40 : Nat) : Int) by omega]
    exact wrap_u8 (by omega) (by omega)
  have en : Int.tmod (x0 : Int) 5 = ((x0 % 5 : Nat) : Int) := tmod_nat x0 5
  have em : Int.tmod (x1 : Int) 5 = ((x1 % 5 : Nat) : Int) := tmod_nat x1 5
  have wn : IntKind.wrap IntKind.i64 (Int.tmod (x0 : Int) 5) = ((x0 % 5 : Nat) : Int) := by rw [en]; exact wrap_id' (by omega) (by omega)
  have wm : IntKind.wrap IntKind.i64 (Int.tmod (x1 : Int) 5) = ((x1 % 5 : Nat) : Int) := by rw [em]; exact wrap_id' (by omega) (by omega)
  have ws : IntKind.wrap IntKind.i64 (IntKind.wrap IntKind.i64 (Int.tmod (x0 : Int) 5) + IntKind.wrap IntKind.i64 (Int.tmod (x1 : Int) 5)) = ((x0 % 5 + x1 % 5 : Nat) : Int) := by
    rw [wn, wm, wrap_id' (by omega) (by omega)]; omega
  generalize hT : ofT (px x0 x1 y0 y1) = T
  have hx : px x0 x1 y0 y1 = [⟨((y0 % 40 : Nat) : Int), ((x0 % 5 : Nat) : Int)⟩, ⟨((40 + y1 % 40 : Nat) : Int), ((x1 % 5 : Nat) : Int)⟩] := by
    show [_, _] = _
    rw [ea, eb, en, em]
  have hg : Good' T := by rw [← hT]; exact good_ofT _ (by rw [hx]; simp; omega)
  have hl : T.length = 80 := by rw [← hT]; exact ofT_len _
  have hR : Rep (pF x0 x1 y0 y1) (pB x0 x1 y0 y1) T := by
    show Rep (stkF (bedOfT (ofT (px x0 x1 y0 y1)) 0)) (stkF (bedOfT (ofT (px x0 x1 y0 y1)) 40)) T
    rw [hT]; exact rep_bed T hl fun o => bedOfT_len T o
  have h2 : (T.getD (y0 % 40) []).length = x0 % 5 ∧ (T.getD (40 + y1 % 40) []).length = x1 % 5 := by
    rw [← hT, hx]; exact of_two (by omega) (by omega) (by omega) (by omega) (by omega)
  have hi : y0 % 40 < 80 := by omega
  have hk : 40 + y1 % 40 < 80 := by omega
  have hne : y0 % 40 ≠ 40 + y1 % 40 := by omega
  have hj := joinV_nat hR hg hi hk
  rw [if_neg (by omega), h2.1, h2.2, ← ea, ← eb] at hj
  have t1 : 0 ≤ Int.tmod (y0 : Int) 40 := by rw [ea]; omega
  have t2 : 0 ≤ Int.tmod (x0 : Int) 5 := by rw [en]; omega
  have t3 : 0 ≤ IntKind.u8.wrap (40 + Int.tmod (y1 : Int) 40) := by rw [eb]; omega
  have t4 : 0 ≤ Int.tmod (x1 : Int) 5 := by rw [em]; omega
  by_cases c0 : x0 % 5 = 0
  · rw [if_pos c0] at hj
    have q0 : (IntKind.wrap IntKind.i64 (Int.tmod (x0 : Int) (5 : Int)) == (0 : Int)) = true := by rw [wn, c0]; rfl
    exact bkA_0 _ _ _ _ t1 t2 t3 t4 hj q0 rfl (decide_eq_true fun _ => noAny_bn _ _ _ _) (by rw [smap_FN, smap_FN]) q0
  · rw [if_neg c0] at hj
    have q0 : (IntKind.wrap IntKind.i64 (Int.tmod (x0 : Int) (5 : Int)) == (0 : Int)) = false := by rw [wn]; simp; omega
    by_cases c1 : 4 < x0 % 5 + x1 % 5
    · rw [if_pos c1] at hj
      have q1 : decide ((4 : Int) < IntKind.wrap IntKind.i64 (IntKind.wrap IntKind.i64 (Int.tmod (x0 : Int) (5 : Int)) + IntKind.wrap IntKind.i64 (Int.tmod (x1 : Int) (5 : Int)))) = true := by rw [ws]; simp; omega
      exact bkB_0 _ _ _ _ t1 t2 t3 t4 hj q0 q1 rfl (decide_eq_true fun _ => noAny_bn _ _ _ _) (by rw [smap_FN, smap_FN]) q0 q1
    · rw [if_neg c1] at hj
      have q1 : decide ((4 : Int) < IntKind.wrap IntKind.i64 (IntKind.wrap IntKind.i64 (Int.tmod (x0 : Int) (5 : Int)) + IntKind.wrap IntKind.i64 (Int.tmod (x1 : Int) (5 : Int)))) = false := by rw [ws]; simp; omega
      have hg1 := jok_good hg hl hi hk hne (by rw [h2.1, h2.2]; omega)
      have hl1 : (jt T (y0 % 40) (40 + y1 % 40) (jl T (y0 % 40) (40 + y1 % 40))).length = 80 := by rw [jt_len, hl]
      have hR1 := rep_half _ hl1
      have gi : (jt T (y0 % 40) (40 + y1 % 40) (jl T (y0 % 40) (40 + y1 % 40))).getD (y0 % 40) [] = [] := by rw [jt_get T _ (by omega) (by omega), if_neg hne, if_pos rfl]
      have gk : (jt T (y0 % 40) (40 + y1 % 40) (jl T (y0 % 40) (40 + y1 % 40))).getD (40 + y1 % 40) [] = jl T (y0 % 40) (40 + y1 % 40) := by rw [jt_get T _ (by omega) (by omega), if_pos rfl]
      have ln := jl_len T (y0 % 40) (40 + y1 % 40)
      rw [h2.1, h2.2] at ln
      have a1 := atok_nat hR1 hg1 hi
      have a2 := atok_nat hR1 hg1 hk
      have hj2 := joinV_nat hR1 hg1 hk hi
      rw [if_neg (by omega), gk, gi, ln, if_neg (by omega), if_neg (by simp; omega), ← ea, ← eb] at hj2
      rw [gi, ← ea] at a1
      rw [gk, ← eb] at a2
      generalize hT1 : jt T (y0 % 40) (40 + y1 % 40) (jl T (y0 % 40) (40 + y1 % 40)) = T1 at *
      have hg2 := jok_good hg1 hl1 hk hi (Ne.symm hne) (by rw [gk, gi, ln]; simp; omega)
      have hl2 : (jt T1 (40 + y1 % 40) (y0 % 40) (jl T1 (40 + y1 % 40) (y0 % 40))).length = 80 := by rw [jt_len, hl1]
      have hR2 := rep_half _ hl2
      have e2 : jl T1 (40 + y1 % 40) (y0 % 40) = T.getD (40 + y1 % 40) [] ++ T.getD (y0 % 40) [] := by
        unfold jl
        rw [if_neg (by omega), gk, gi, List.append_nil]
        unfold jl
        rw [if_pos (by omega)]
      have fi : (jt T1 (40 + y1 % 40) (y0 % 40) (jl T1 (40 + y1 % 40) (y0 % 40))).getD (y0 % 40) [] = T.getD (40 + y1 % 40) [] ++ T.getD (y0 % 40) [] := by rw [jt_get T1 _ (by omega) (by omega), if_pos rfl, e2]
      have fk : (jt T1 (40 + y1 % 40) (y0 % 40) (jl T1 (40 + y1 % 40) (y0 % 40))).getD (40 + y1 % 40) [] = [] := by rw [jt_get T1 _ (by omega) (by omega), if_neg (Ne.symm hne), if_pos rfl]
      have a3 := atok_nat hR2 hg2 hi
      rw [fi, ← ea] at a3
      have hs : SmOk (stkW (halfT (jt T1 (40 + y1 % 40) (y0 % 40) (jl T1 (40 + y1 % 40) (y0 % 40))) 0)) (stkW (halfT (jt T1 (40 + y1 % 40) (y0 % 40) (jl T1 (40 + y1 % 40) (y0 % 40))) 40)) (pF x0 x1 y0 y1) (pB x0 x1 y0 y1) (IntKind.wrap IntKind.i64 (Int.tmod (x1 : Int) (5 : Int)) == (0 : Int)) := by
        refine smok_nat hR2 hR hg2 ?_
        rw [wm]
        by_cases c2 : x1 % 5 = 0
        · rw [c2]
          have e0 : T.getD (40 + y1 % 40) [] = [] := List.eq_nil_of_length_eq_zero (by rw [h2.2, c2])
          refine (decide_eq_true ?_).trans rfl
          apply List.ext_getElem
          · rw [hl2, hl]
          · intro j h3 h4
            have : (jt T1 (40 + y1 % 40) (y0 % 40) (jl T1 (40 + y1 % 40) (y0 % 40))).getD j [] = T.getD j [] := by
              rw [jt_get T1 _ (by omega) (by omega), e2]
              split
              · rename_i e; rw [e, e0, List.nil_append]
              · split
                · rename_i e; rw [e, e0]
                · rename_i n1 n2
                  rw [← hT1, jt_get T _ (by omega) (by omega), if_neg n2, if_neg n1]
            rw [List.getD_eq_getElem?_getD, List.getElem?_eq_getElem h3, List.getD_eq_getElem?_getD, List.getElem?_eq_getElem h4] at this
            exact this
        · have e0 : ((x1 % 5 : Nat) : Int) ≠ 0 := by omega
          rw [decide_eq_false fun c => by rw [c] at fk; rw [fk] at h2; simp at h2; omega]
          simp; omega
      have s1 : (((List.length (List.map Idd.enc (jl T (y0 % 40) (40 + y1 % 40))) : Nat) : Int) != IntKind.wrap IntKind.i64 (IntKind.wrap IntKind.i64 (Int.tmod (x0 : Int) (5 : Int)) + IntKind.wrap IntKind.i64 (Int.tmod (x1 : Int) (5 : Int)))) = false := by rw [ws, List.length_map, ln]; simp
      have s2 : (((List.length (List.map Idd.enc (T.getD (40 + y1 % 40) [] ++ T.getD (y0 % 40) [])) : Nat) : Int) == IntKind.wrap IntKind.i64 (IntKind.wrap IntKind.i64 (Int.tmod (x0 : Int) (5 : Int)) + IntKind.wrap IntKind.i64 (Int.tmod (x1 : Int) (5 : Int)))) = true := by rw [ws, List.length_map, List.length_append, h2.1, h2.2, Nat.add_comm]; simp
      exact bkC_2 _ _ _ _ t1 t2 t3 t4 _ _ _ _ _ _ _ hj q0 q1 a1 a2 hj2 a3 hs rfl (decide_eq_true fun _ => noAny_bn _ _ _ _) (by rw [smap_FN, smap_FN]) (by rw [smap_FW, smap_FW]) q0 q1 rfl s1 (by rw [smap_FW, smap_FW]) s2 (by simp)
end Tst
end

section
open Go Go.Lf Go.Proofs
namespace Tst
theorem F2.cons' {α β : Type} {R : α → β → Prop} {x : α} {l : List α} {m : List β} (h : F2 R (x :: l) m) : ∃ y m', m = y :: m' ∧ R x y ∧ F2 R l m' := by
  cases h with
  | cons h t => exact ⟨_, _, rfl, h, t⟩
theorem F2.nil' {α β : Type} {R : α → β → Prop} {m : List β} (h : F2 R [] m) : m = [] := by cases h; rfl
section
variable {P : Program} {t : TypeId} {ys : List AV}
theorem sh_int (m : Nat) {k : IntKind} (hu : P.underlying t = some (.int k)) (h : Shape P (m + 1) t ys) : ∃ i, ys = [.atom (.int k i)] ∧ (Lit.int k i).wf = true := by
  unfold Shape at h; rw [hu] at h; exact h
theorem sh_bool (m : Nat) (hu : P.underlying t = some .bool) (h : Shape P (m + 1) t ys) : ∃ b, ys = [.atom (.bool b)] := by
  unfold Shape at h; rw [hu] at h; exact h
theorem sh_slice (m : Nat) {e : TypeId} (hu : P.underlying t = some (.slice e)) (h : Shape P (m + 1) t ys) : ∃ xs, ys = [.sl .any e none xs] ∧ xs.length ≤ maxLen ∧ ∀ x ∈ xs, ∃ cs, x = elOf P e cs ∧ cs.length = P.cellsOf e ∧ Shape P m e cs := by
  unfold Shape at h; rw [hu] at h; exact h
theorem sh_array (m : Nat) {n : Nat} {e : TypeId} (hu : P.underlying t = some (.array n e)) (h : Shape P (m + 1) t ys) : ∃ yss : List (List AV), ys = yss.flatten ∧ yss.length = n ∧ ∀ cs ∈ yss, Shape P m e cs := by
  unfold Shape at h; rw [hu] at h; exact h
theorem sh_struct (m : Nat) {fs : Array Field} (hu : P.underlying t = some (.struct fs)) (h : Shape P (m + 1) t ys) : ∃ yss : List (List AV), ys = yss.flatten ∧ F2 (fun f cs => Shape P m f.type cs) fs.toList yss := by
  unfold Shape at h; rw [hu] at h; exact h
end
theorem choose_map {α : Type} (f : α → AV) (Q : α → Prop) : ∀ xs : List AV, (∀ x ∈ xs, ∃ a, x = f a ∧ Q a) → ∃ l : List α, xs = l.map f ∧ ∀ a ∈ l, Q a
  | [], _ => ⟨[], rfl, by simp⟩
  | x :: xs, h => by
    obtain ⟨a, rfl, ha⟩ := h x (by simp)
    obtain ⟨l, rfl, hl⟩ := choose_map f Q xs fun y hy => h y (by simp [hy])
    exact ⟨a :: l, rfl, by
      intro b hb
      rcases List.mem_cons.1 hb with rfl | hb
      · exact ha
      · exact hl b hb⟩
def U8 (x : Int) : Prop := 0 ≤ x ∧ x ≤ 255
def I64 (x : Int) : Prop := -9223372036854775808 ≤ x ∧ x ≤ 9223372036854775807
theorem u8_wf {i : Int} (h : (Lit.int .u8 i).wf = true) : U8 i := by
  simp only [Lit.wf, Bool.and_eq_true, decide_eq_true_eq] at h
  exact h
theorem i64_wf {i : Int} (h : (Lit.int .i64 i).wf = true) : I64 i := by
  simp only [Lit.wf, Bool.and_eq_true, decide_eq_true_eq] at h
  exact h
structure Ty3 (P : Program) : Prop where
  u3 : P.underlying 3 = some (.int .i64)
  u5 : P.underlying 5 = some (.int .u8)
  u52 : P.underlying 52 = some (.array 2 5)
  a52 : aggT P 52 = true
theorem tyP3 : Ty3 Try.prog := ⟨Try.underlying3, Try.underlying5, Try.underlying52, by kernel_rfl⟩
def Arg (P : Program) (t : TypeId) (x : AV) : Prop := ∃ ys, x = elOf P t ys ∧ Shape P 8 t ys ∧ ys.length = P.cellsOf t
theorem args2 {P : Program} {s t : TypeId} {xs : List AV} (h : F2 (Arg P) [s, t] xs) : ∃ x y, xs = [x, y] ∧ Arg P s x ∧ Arg P t y := by
  obtain ⟨x, _, rfl, h1, h⟩ := F2.cons' h
  obtain ⟨y, _, rfl, h2, h⟩ := F2.cons' h
  obtain rfl := F2.nil' h
  exact ⟨x, y, rfl, h1, h2⟩
theorem args3 {P : Program} {s t u : TypeId} {xs : List AV} (h : F2 (Arg P) [s, t, u] xs) : ∃ x y z, xs = [x, y, z] ∧ Arg P s x ∧ Arg P t y ∧ Arg P u z := by
  obtain ⟨x, _, rfl, h1, h⟩ := F2.cons' h
  obtain ⟨y, _, rfl, h2, h⟩ := F2.cons' h
  obtain ⟨z, _, rfl, h3, h⟩ := F2.cons' h
  obtain rfl := F2.nil' h
  exact ⟨x, y, z, rfl, h1, h2, h3⟩
theorem args1 {P : Program} {s : TypeId} {xs : List AV} (h : F2 (Arg P) [s] xs) : ∃ x, xs = [x] ∧ Arg P s x := by
  obtain ⟨x, _, rfl, h1, h⟩ := F2.cons' h
  obtain rfl := F2.nil' h
  exact ⟨x, rfl, h1⟩
theorem arg52 {P : Program} (T : Ty3 P) {x : AV} (h : Arg P 52 x) : ∃ u v, x = .agg [.atom (.int .u8 u), .atom (.int .u8 v)] ∧ U8 u ∧ U8 v := by
  obtain ⟨ys, rfl, hs, _⟩ := h
  obtain ⟨yss, rfl, hl, hy⟩ := sh_array 7 T.u52 hs
  match yss, hl with
  | [c1, c2], _ =>
    obtain ⟨u, rfl, hu⟩ := sh_int 6 T.u5 (hy c1 (by simp))
    obtain ⟨v, rfl, hv⟩ := sh_int 6 T.u5 (hy c2 (by simp))
    exact ⟨u, v, by unfold elOf; rw [if_pos T.a52]; rfl, u8_wf hu, u8_wf hv⟩
end Tst
end

section
open Go Go.Lf Go.Proofs Tst
namespace Go.Proofs.Ytnaikfcmegkdpaa.stacksBack
theorem StacksBack_pure (xs : List AV) (h : F2 (fun t x => ∃ ys, x = elOf Try.prog t ys ∧ Shape Try.prog 8 t ys ∧ ys.length = Try.prog.cellsOf t) Try.f14.params.toList xs) : PureC Try.prog 14 xs (.atom (.bool true)) := by
  rw [Try.params14] at h
  obtain ⟨x, y, rfl, h1, h2⟩ := args2 (P := Try.prog) h
  obtain ⟨u0, u1, rfl, hu0, hu1⟩ := arg52 tyP3 h1
  obtain ⟨v0, v1, rfl, hv0, hv1⟩ := arg52 tyP3 h2
  exact law14_c u0 u1 v0 v1 hu0 hu1 hv0 hv1
end Go.Proofs.Ytnaikfcmegkdpaa.stacksBack
end
