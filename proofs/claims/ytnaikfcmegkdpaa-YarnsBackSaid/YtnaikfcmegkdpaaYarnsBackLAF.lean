/- Part 6 of the evaluator and of the contracts that the claim uses. -/
import Derived.Test.YtnaikfcmegkdpaaYarnsBackLAA
import Derived.Test.YtnaikfcmegkdpaaYarnsBackLAB
import Derived.Test.YtnaikfcmegkdpaaYarnsBackLAC
import Derived.Test.YtnaikfcmegkdpaaYarnsBackLAD
import Derived.Test.YtnaikfcmegkdpaaYarnsBackLAE
set_option linter.unusedVariables false
set_option linter.unusedSimpArgs false
set_option linter.constructorNameAsVariable false

section
open Go Go.Lf Go.Proofs
namespace Tst
theorem grw_0 (n : Int) (h0 : 0 ≤ n) (hn : n ≤ 4294967296) (g0 : decide (n < (0 : Int)) = false) (g1 : decide ((0 : Int) < IntKind.wrap IntKind.i64 (n - IntKind.wrap IntKind.i64 ((↑(0 : Nat) : Int) - (↑((0 : Nat)) : Int)))) = true) (g2 : decide ((0 : Int) ≤ IntKind.wrap IntKind.i64 (n - IntKind.wrap IntKind.i64 ((↑(0 : Nat) : Int) - (↑((0 : Nat)) : Int))) ∧ IntKind.wrap IntKind.i64 (n - IntKind.wrap IntKind.i64 ((↑(0 : Nat) : Int) - (↑((0 : Nat)) : Int))) ≤ (4294967296 : Int)) = true) (g3 : decide (List.length (List.replicate (Int.toNat (IntKind.wrap IntKind.i64 (n - IntKind.wrap IntKind.i64 ((↑(0 : Nat) : Int) - (↑((0 : Nat)) : Int))))) (zeroEl { zero := [Value.int IntKind.u8 (0 : Int), Value.int IntKind.i64 (0 : Int), Value.bool false, Value.int IntKind.u8 (0 : Int)], bytes := (24 : Nat), agg := true, kind := TK.struct [((0 : Nat), (2 : Nat)), ((2 : Nat), (1 : Nat)), ((3 : Nat), (1 : Nat))] })) ≤ (4294967296 : Nat)) = true) (g4 : AV.sl Mode.own (nat_lit 33) (if (0 : Nat) + List.length (List.replicate (Int.toNat (IntKind.wrap IntKind.i64 (n - IntKind.wrap IntKind.i64 ((↑(0 : Nat) : Int) - (↑((0 : Nat)) : Int))))) (zeroEl { zero := [Value.int IntKind.u8 (0 : Int), Value.int IntKind.i64 (0 : Int), Value.bool false, Value.int IntKind.u8 (0 : Int)], bytes := (24 : Nat), agg := true, kind := TK.struct [((0 : Nat), (2 : Nat)), ((2 : Nat), (1 : Nat)), ((3 : Nat), (1 : Nat))] })) ≤ (0 : Nat) then some (0 : Nat) else none) ([] ++ List.replicate (Int.toNat (IntKind.wrap IntKind.i64 (n - IntKind.wrap IntKind.i64 ((↑(0 : Nat) : Int) - (↑((0 : Nat)) : Int))))) (zeroEl { zero := [Value.int IntKind.u8 (0 : Int), Value.int IntKind.i64 (0 : Int), Value.bool false, Value.int IntKind.u8 (0 : Int)], bytes := (24 : Nat), agg := true, kind := TK.struct [((0 : Nat), (2 : Nat)), ((2 : Nat), (1 : Nat)), ((3 : Nat), (1 : Nat))] })) = AV.sl Mode.own (nat_lit 33) (if (0 : Nat) + List.length (List.replicate (Int.toNat (IntKind.wrap IntKind.i64 (n - IntKind.wrap IntKind.i64 ((↑(0 : Nat) : Int) - (↑((0 : Nat)) : Int))))) (zeroEl { zero := [Value.int IntKind.u8 (0 : Int), Value.int IntKind.i64 (0 : Int), Value.bool false, Value.int IntKind.u8 (0 : Int)], bytes := (24 : Nat), agg := true, kind := TK.struct [((0 : Nat), (2 : Nat)), ((2 : Nat), (1 : Nat)), ((3 : Nat), (1 : Nat))] })) ≤ (0 : Nat) then some (0 : Nat) else none) (List.map Ps.enc ([] ++ List.replicate (Int.toNat (IntKind.wrap IntKind.i64 (n - IntKind.wrap IntKind.i64 ((↑(0 : Nat) : Int) - (↑((0 : Nat)) : Int))))) { y := (0 : Int), n := (0 : Int), f := false, d := (0 : Int) }))) : PureC Try.prog 66 [nilp, it n]  (AV.sl Mode.own (nat_lit 33) (if (0 : Nat) + List.length (List.replicate (Int.toNat (IntKind.wrap IntKind.i64 (n - IntKind.wrap IntKind.i64 ((↑(0 : Nat) : Int) - (↑((0 : Nat)) : Int))))) (zeroEl { zero := [Value.int IntKind.u8 (0 : Int), Value.int IntKind.i64 (0 : Int), Value.bool false, Value.int IntKind.u8 (0 : Int)], bytes := (24 : Nat), agg := true, kind := TK.struct [((0 : Nat), (2 : Nat)), ((2 : Nat), (1 : Nat)), ((3 : Nat), (1 : Nat))] })) ≤ (0 : Nat) then some (0 : Nat) else none) []) :=
  funA_ok (H := h66) (n := 27) (ans := [Ans.c, Ans.c, Ans.c, Ans.b false, Ans.c, Ans.c, Ans.c, Ans.c, Ans.c, Ans.c, Ans.c, Ans.c, Ans.c, Ans.c, Ans.b true, Ans.c, Ans.c, Ans.c, Ans.c, Ans.c, Ans.c, Ans.c, Ans.b true, Ans.b true, Ans.r (AV.sl Mode.own (nat_lit 33) (if (0 : Nat) + List.length (List.replicate (Int.toNat (IntKind.wrap IntKind.i64 (n - IntKind.wrap IntKind.i64 ((↑(0 : Nat) : Int) - (↑((0 : Nat)) : Int))))) (zeroEl { zero := [Value.int IntKind.u8 (0 : Int), Value.int IntKind.i64 (0 : Int), Value.bool false, Value.int IntKind.u8 (0 : Int)], bytes := (24 : Nat), agg := true, kind := TK.struct [((0 : Nat), (2 : Nat)), ((2 : Nat), (1 : Nat)), ((3 : Nat), (1 : Nat))] })) ≤ (0 : Nat) then some (0 : Nat) else none) (List.map Ps.enc ([] ++ List.replicate (Int.toNat (IntKind.wrap IntKind.i64 (n - IntKind.wrap IntKind.i64 ((↑(0 : Nat) : Int) - (↑((0 : Nat)) : Int))))) { y := (0 : Int), n := (0 : Int), f := false, d := (0 : Int) }))), Ans.c, Ans.c, Ans.c, Ans.c, Ans.c, Ans.c, Ans.c, Ans.c]) (ps := [decide (n < (0 : Int)) = false, decide ((0 : Int) < IntKind.wrap IntKind.i64 (n - IntKind.wrap IntKind.i64 ((↑(0 : Nat) : Int) - (↑((0 : Nat)) : Int)))) = true, decide ((0 : Int) ≤ IntKind.wrap IntKind.i64 (n - IntKind.wrap IntKind.i64 ((↑(0 : Nat) : Int) - (↑((0 : Nat)) : Int))) ∧ IntKind.wrap IntKind.i64 (n - IntKind.wrap IntKind.i64 ((↑(0 : Nat) : Int) - (↑((0 : Nat)) : Int))) ≤ (4294967296 : Int)) = true, decide (List.length (List.replicate (Int.toNat (IntKind.wrap IntKind.i64 (n - IntKind.wrap IntKind.i64 ((↑(0 : Nat) : Int) - (↑((0 : Nat)) : Int))))) (zeroEl { zero := [Value.int IntKind.u8 (0 : Int), Value.int IntKind.i64 (0 : Int), Value.bool false, Value.int IntKind.u8 (0 : Int)], bytes := (24 : Nat), agg := true, kind := TK.struct [((0 : Nat), (2 : Nat)), ((2 : Nat), (1 : Nat)), ((3 : Nat), (1 : Nat))] })) ≤ (4294967296 : Nat)) = true, AV.sl Mode.own (nat_lit 33) (if (0 : Nat) + List.length (List.replicate (Int.toNat (IntKind.wrap IntKind.i64 (n - IntKind.wrap IntKind.i64 ((↑(0 : Nat) : Int) - (↑((0 : Nat)) : Int))))) (zeroEl { zero := [Value.int IntKind.u8 (0 : Int), Value.int IntKind.i64 (0 : Int), Value.bool false, Value.int IntKind.u8 (0 : Int)], bytes := (24 : Nat), agg := true, kind := TK.struct [((0 : Nat), (2 : Nat)), ((2 : Nat), (1 : Nat)), ((3 : Nat), (1 : Nat))] })) ≤ (0 : Nat) then some (0 : Nat) else none) ([] ++ List.replicate (Int.toNat (IntKind.wrap IntKind.i64 (n - IntKind.wrap IntKind.i64 ((↑(0 : Nat) : Int) - (↑((0 : Nat)) : Int))))) (zeroEl { zero := [Value.int IntKind.u8 (0 : Int), Value.int IntKind.i64 (0 : Int), Value.bool false, Value.int IntKind.u8 (0 : Int)], bytes := (24 : Nat), agg := true, kind := TK.struct [((0 : Nat), (2 : Nat)), ((2 : Nat), (1 : Nat)), ((3 : Nat), (1 : Nat))] })) = AV.sl Mode.own (nat_lit 33) (if (0 : Nat) + List.length (List.replicate (Int.toNat (IntKind.wrap IntKind.i64 (n - IntKind.wrap IntKind.i64 ((↑(0 : Nat) : Int) - (↑((0 : Nat)) : Int))))) (zeroEl { zero := [Value.int IntKind.u8 (0 : Int), Value.int IntKind.i64 (0 : Int), Value.bool false, Value.int IntKind.u8 (0 : Int)], bytes := (24 : Nat), agg := true, kind := TK.struct [((0 : Nat), (2 : Nat)), ((2 : Nat), (1 : Nat)), ((3 : Nat), (1 : Nat))] })) ≤ (0 : Nat) then some (0 : Nat) else none) (List.map Ps.enc ([] ++ List.replicate (Int.toNat (IntKind.wrap IntKind.i64 (n - IntKind.wrap IntKind.i64 ((↑(0 : Nat) : Int) - (↑((0 : Nat)) : Int))))) { y := (0 : Int), n := (0 : Int), f := false, d := (0 : Int) }))]) (base 27 0) Try.func66 rfl (by simp) rfl (by kernel_rfl)  (allp g0 (allp g1 (allp g2 (allp g3 (allp g4 allp_nil)))))
theorem grw_1 (n : Int) (h0 : 0 ≤ n) (hn : n ≤ 4294967296) (g0 : decide (n < (0 : Int)) = false) (g1 : decide ((0 : Int) < IntKind.wrap IntKind.i64 (n - IntKind.wrap IntKind.i64 ((↑(0 : Nat) : Int) - (↑((0 : Nat)) : Int)))) = false) : PureC Try.prog 66 [nilp, it n]  (AV.atom (Value.slice none (nat_lit 0) (nat_lit 0))) :=
  funA_ok (H := h66) (n := 27) (ans := [Ans.c, Ans.c, Ans.c, Ans.b false, Ans.c, Ans.c, Ans.c, Ans.c, Ans.c, Ans.c, Ans.c, Ans.c, Ans.c, Ans.c, Ans.b false, Ans.c, Ans.c]) (ps := [decide (n < (0 : Int)) = false, decide ((0 : Int) < IntKind.wrap IntKind.i64 (n - IntKind.wrap IntKind.i64 ((↑(0 : Nat) : Int) - (↑((0 : Nat)) : Int)))) = false]) (base 27 0) Try.func66 rfl (by simp) rfl (by kernel_rfl)  (allp g0 (allp g1 allp_nil))


end Tst
end

section
open Go Go.Lf Go.Proofs
namespace Tst
theorem grow_c (n : Int) (h0 : 0 ≤ n) (hn : n ≤ 4294967296) : PureC Try.prog 66 [nilp, it n] (ow none []) := by
  have w : IntKind.wrap IntKind.i64 (n - IntKind.wrap IntKind.i64 ((((0 : Nat) : Nat) : Int) - (((0 : Nat)) : Int))) = n := by
    rw [wrap_id (n := (((0 : Nat) : Nat) : Int) - (((0 : Nat)) : Int)) (by omega) (by omega), wrap_id (by omega) (by omega)]; omega
  by_cases hp : 0 < n
  · refine PureC.res (grw_0 n h0 hn (by simp; omega) (by rw [w]; simpa using hp) (by rw [w]; simp; omega) (by rw [w]; simp; omega) (by rw [List.nil_append, List.nil_append, List.map_replicate]; rfl)) Le.cap
  · refine PureC.res (PureC.res (grw_1 n h0 hn (by simp; omega) (by rw [w]; simpa using hp)) (Le.nilOwn 33)) Le.cap
abbrev two (ca cb : Option Nat) (l m : List Ps) : AV := .sl .any 23 (some 2) [sl ca l, sl cb m]
theorem rem_ps (f : Lf.Mode → Lf.Mode) (n : Nat) (m : Lf.Mode) (c : Option Nat) (l : List Ps) : remode f (n + 2) (.sl m 33 c (l.map Ps.enc)) = .sl (f m) 33 c (l.map Ps.enc) := by
  show AV.sl (f m) 33 c ((l.map Ps.enc).map _) = _
  rw [List.map_map]; rfl
theorem view_two (ca cb : Option Nat) (l m : List Ps) : view (.sl .own 23 (some 2) [sl ca l, sl cb m]) = two ca cb l m := by
  show AV.sl .any 23 (some 2) [remode (fun _ => .any) 11 (sl ca l), remode (fun _ => .any) 11 (sl cb m)] = _
  rw [rem_ps, rem_ps]
theorem ccA0_0 (ca cb : Option Nat) (l m : List Ps) (hl : l.length ≤ 1000000) (hm : m.length ≤ 1000000) (g0 : decide (IntKind.wrap IntKind.i64 ((0 : Int) + (↑(List.length (List.map Ps.enc l)) : Int)) < (0 : Int)) = false) : Tri Try.prog (cxN 36 0) (loopBody Try.f50 0) ([(0, two ca cb l m), (3, it 0), (9, two ca cb l m), (10, it 2), (11, it 0)] ) (Ex.normal) ([(nat_lit 0, AV.sl Mode.any (nat_lit 23) (some (nat_lit 2)) [AV.sl Mode.any (nat_lit 33) ca (List.map Ps.enc l), AV.sl Mode.any (nat_lit 33) cb (List.map Ps.enc m)]), (nat_lit 3, AV.atom (Value.int IntKind.i64 (IntKind.wrap IntKind.i64 ((0 : Int) + (↑(List.length (List.map Ps.enc l)) : Int))))), (nat_lit 9, AV.sl Mode.any (nat_lit 23) (some (nat_lit 2)) [AV.sl Mode.any (nat_lit 33) ca (List.map Ps.enc l), AV.sl Mode.any (nat_lit 33) cb (List.map Ps.enc m)]), (nat_lit 10, AV.atom (Value.int IntKind.i64 (2 : Int))), (nat_lit 11, AV.atom (Value.int IntKind.i64 (IntKind.wrap IntKind.i64 ((0 : Int) + (1 : Int)))))]) :=
  evA_ok (H := h50) (ans := [Ans.c, Ans.c, Ans.c, Ans.c, Ans.c, Ans.c, Ans.c, Ans.c, Ans.c, Ans.c, Ans.c, Ans.c, Ans.c, Ans.c, Ans.b false, Ans.c, Ans.c]) (ps := [decide (IntKind.wrap IntKind.i64 ((0 : Int) + (↑(List.length (List.map Ps.enc l)) : Int)) < (0 : Int)) = false]) (ans' := []) (base 36 0) cxA_K.1 cxA_K.2 _ (by kernel_rfl)  (allp g0 allp_nil)


theorem ccA1_0 (ca cb : Option Nat) (l m : List Ps) (s : Int) (hl : l.length ≤ 1000000) (hm : m.length ≤ 1000000) (g0 : decide (IntKind.wrap IntKind.i64 (s + (↑(List.length (List.map Ps.enc m)) : Int)) < (0 : Int)) = false) : Tri Try.prog (cxN 36 0) (loopBody Try.f50 0) ([(0, two ca cb l m), (3, it s), (9, two ca cb l m), (10, it 2), (11, it 1)] ) (Ex.normal) ([(nat_lit 0, AV.sl Mode.any (nat_lit 23) (some (nat_lit 2)) [AV.sl Mode.any (nat_lit 33) ca (List.map Ps.enc l), AV.sl Mode.any (nat_lit 33) cb (List.map Ps.enc m)]), (nat_lit 3, AV.atom (Value.int IntKind.i64 (IntKind.wrap IntKind.i64 (s + (↑(List.length (List.map Ps.enc m)) : Int))))), (nat_lit 9, AV.sl Mode.any (nat_lit 23) (some (nat_lit 2)) [AV.sl Mode.any (nat_lit 33) ca (List.map Ps.enc l), AV.sl Mode.any (nat_lit 33) cb (List.map Ps.enc m)]), (nat_lit 10, AV.atom (Value.int IntKind.i64 (2 : Int))), (nat_lit 11, AV.atom (Value.int IntKind.i64 (IntKind.wrap IntKind.i64 ((1 : Int) + (1 : Int)))))]) :=
  evA_ok (H := h50) (ans := [Ans.c, Ans.c, Ans.c, Ans.c, Ans.c, Ans.c, Ans.c, Ans.c, Ans.c, Ans.c, Ans.c, Ans.c, Ans.c, Ans.c, Ans.b false, Ans.c, Ans.c]) (ps := [decide (IntKind.wrap IntKind.i64 (s + (↑(List.length (List.map Ps.enc m)) : Int)) < (0 : Int)) = false]) (ans' := []) (base 36 0) cxA_K.1 cxA_K.2 _ (by kernel_rfl)  (allp g0 allp_nil)


theorem ccA2_0 (ca cb : Option Nat) (l m : List Ps) (s : Int) (hl : l.length ≤ 1000000) (hm : m.length ≤ 1000000) : Tri Try.prog (cxN 36 0) (loopBody Try.f50 0) ([(0, two ca cb l m), (3, it s), (9, two ca cb l m), (10, it 2), (11, it 2)] ) (Ex.exit (nat_lit 0)) ([(nat_lit 0, AV.sl Mode.any (nat_lit 23) (some (nat_lit 2)) [AV.sl Mode.any (nat_lit 33) ca (List.map Ps.enc l), AV.sl Mode.any (nat_lit 33) cb (List.map Ps.enc m)]), (nat_lit 3, AV.atom (Value.int IntKind.i64 s)), (nat_lit 9, AV.sl Mode.any (nat_lit 23) (some (nat_lit 2)) [AV.sl Mode.any (nat_lit 33) ca (List.map Ps.enc l), AV.sl Mode.any (nat_lit 33) cb (List.map Ps.enc m)]), (nat_lit 10, AV.atom (Value.int IntKind.i64 (2 : Int))), (nat_lit 11, AV.atom (Value.int IntKind.i64 (2 : Int))), (nat_lit 12, AV.atom (Value.bool (decide ((2 : Int) < (2 : Int)))))]) :=
  evA_ok (H := h50) (ans := [Ans.c, Ans.c]) (ps := []) (ans' := []) (base 36 0) cxA_K.1 cxA_K.2 _ (by kernel_rfl)  allp_nil


theorem ccB0_0 (ca cb : Option Nat) (l m t : List Ps) (hl : l.length ≤ 1000000) (hm : m.length ≤ 1000000) (g0 : decide ((23 : Nat) = (23 : Nat) ∧ (List.all (List.map Ps.enc l) fun y => List.all (AV.ecells y) plainA) = true ∧ (List.all (List.map Ps.enc l) fun y => decide (List.length (AV.ecells y) = List.length (TInfo.zero { zero := [Value.int IntKind.u8 (0 : Int), Value.int IntKind.i64 (0 : Int), Value.bool false, Value.int IntKind.u8 (0 : Int)], bytes := (24 : Nat), agg := true, kind := TK.struct [((0 : Nat), (2 : Nat)), ((2 : Nat), (1 : Nat)), ((3 : Nat), (1 : Nat))] }))) = true) = true) (g1 : decide (List.length (List.map Ps.enc t) + List.length (List.map Ps.enc l) ≤ (4294967296 : Nat)) = true) (g2 : AV.sl Mode.own (nat_lit 33) none (List.map Ps.enc t ++ List.map Ps.enc l) = AV.sl Mode.own (nat_lit 33) none (List.map Ps.enc (t ++ l))) : Tri Try.prog (cxN 36 0) (loopBody Try.f50 1) ([(6, ow none t), (25, two ca cb l m), (26, it 2), (27, it 0)] ) (Ex.normal) ([(nat_lit 6, AV.sl Mode.own (nat_lit 33) none (List.map Ps.enc (t ++ l))), (nat_lit 25, AV.sl Mode.any (nat_lit 23) (some (nat_lit 2)) [AV.sl Mode.any (nat_lit 33) ca (List.map Ps.enc l), AV.sl Mode.any (nat_lit 33) cb (List.map Ps.enc m)]), (nat_lit 26, AV.atom (Value.int IntKind.i64 (2 : Int))), (nat_lit 27, AV.atom (Value.int IntKind.i64 (IntKind.wrap IntKind.i64 ((0 : Int) + (1 : Int)))))]) :=
  evA_ok (H := h50) (ans := [Ans.c, Ans.c, Ans.c, Ans.c, Ans.c, Ans.c, Ans.c, Ans.c, Ans.c, Ans.b true, Ans.b true, Ans.r (AV.sl Mode.own (nat_lit 33) none (List.map Ps.enc (t ++ l))), Ans.c, Ans.c, Ans.c]) (ps := [decide ((23 : Nat) = (23 : Nat) ∧ (List.all (List.map Ps.enc l) fun y => List.all (AV.ecells y) plainA) = true ∧ (List.all (List.map Ps.enc l) fun y => decide (List.length (AV.ecells y) = List.length (TInfo.zero { zero := [Value.int IntKind.u8 (0 : Int), Value.int IntKind.i64 (0 : Int), Value.bool false, Value.int IntKind.u8 (0 : Int)], bytes := (24 : Nat), agg := true, kind := TK.struct [((0 : Nat), (2 : Nat)), ((2 : Nat), (1 : Nat)), ((3 : Nat), (1 : Nat))] }))) = true) = true, decide (List.length (List.map Ps.enc t) + List.length (List.map Ps.enc l) ≤ (4294967296 : Nat)) = true, AV.sl Mode.own (nat_lit 33) none (List.map Ps.enc t ++ List.map Ps.enc l) = AV.sl Mode.own (nat_lit 33) none (List.map Ps.enc (t ++ l))]) (ans' := []) (base 36 0) cxA_K.1 cxA_K.2 _ (by kernel_rfl)  (allp g0 (allp g1 (allp g2 allp_nil)))


theorem ccB1_0 (ca cb : Option Nat) (l m t : List Ps) (hl : l.length ≤ 1000000) (hm : m.length ≤ 1000000) (g0 : decide ((23 : Nat) = (23 : Nat) ∧ (List.all (List.map Ps.enc m) fun y => List.all (AV.ecells y) plainA) = true ∧ (List.all (List.map Ps.enc m) fun y => decide (List.length (AV.ecells y) = List.length (TInfo.zero { zero := [Value.int IntKind.u8 (0 : Int), Value.int IntKind.i64 (0 : Int), Value.bool false, Value.int IntKind.u8 (0 : Int)], bytes := (24 : Nat), agg := true, kind := TK.struct [((0 : Nat), (2 : Nat)), ((2 : Nat), (1 : Nat)), ((3 : Nat), (1 : Nat))] }))) = true) = true) (g1 : decide (List.length (List.map Ps.enc t) + List.length (List.map Ps.enc m) ≤ (4294967296 : Nat)) = true) (g2 : AV.sl Mode.own (nat_lit 33) none (List.map Ps.enc t ++ List.map Ps.enc m) = AV.sl Mode.own (nat_lit 33) none (List.map Ps.enc (t ++ m))) : Tri Try.prog (cxN 36 0) (loopBody Try.f50 1) ([(6, ow none t), (25, two ca cb l m), (26, it 2), (27, it 1)] ) (Ex.normal) ([(nat_lit 6, AV.sl Mode.own (nat_lit 33) none (List.map Ps.enc (t ++ m))), (nat_lit 25, AV.sl Mode.any (nat_lit 23) (some (nat_lit 2)) [AV.sl Mode.any (nat_lit 33) ca (List.map Ps.enc l), AV.sl Mode.any (nat_lit 33) cb (List.map Ps.enc m)]), (nat_lit 26, AV.atom (Value.int IntKind.i64 (2 : Int))), (nat_lit 27, AV.atom (Value.int IntKind.i64 (IntKind.wrap IntKind.i64 ((1 : Int) + (1 : Int)))))]) :=
  evA_ok (H := h50) (ans := [Ans.c, Ans.c, Ans.c, Ans.c, Ans.c, Ans.c, Ans.c, Ans.c, Ans.c, Ans.b true, Ans.b true, Ans.r (AV.sl Mode.own (nat_lit 33) none (List.map Ps.enc (t ++ m))), Ans.c, Ans.c, Ans.c]) (ps := [decide ((23 : Nat) = (23 : Nat) ∧ (List.all (List.map Ps.enc m) fun y => List.all (AV.ecells y) plainA) = true ∧ (List.all (List.map Ps.enc m) fun y => decide (List.length (AV.ecells y) = List.length (TInfo.zero { zero := [Value.int IntKind.u8 (0 : Int), Value.int IntKind.i64 (0 : Int), Value.bool false, Value.int IntKind.u8 (0 : Int)], bytes := (24 : Nat), agg := true, kind := TK.struct [((0 : Nat), (2 : Nat)), ((2 : Nat), (1 : Nat)), ((3 : Nat), (1 : Nat))] }))) = true) = true, decide (List.length (List.map Ps.enc t) + List.length (List.map Ps.enc m) ≤ (4294967296 : Nat)) = true, AV.sl Mode.own (nat_lit 33) none (List.map Ps.enc t ++ List.map Ps.enc m) = AV.sl Mode.own (nat_lit 33) none (List.map Ps.enc (t ++ m))]) (ans' := []) (base 36 0) cxA_K.1 cxA_K.2 _ (by kernel_rfl)  (allp g0 (allp g1 (allp g2 allp_nil)))


theorem ccB2_0 (ca cb : Option Nat) (l m t : List Ps) (hl : l.length ≤ 1000000) (hm : m.length ≤ 1000000) : Tri Try.prog (cxN 36 0) (loopBody Try.f50 1) ([(6, ow none t), (25, two ca cb l m), (26, it 2), (27, it 2)] ) (Ex.exit (nat_lit 2)) ([(nat_lit 6, AV.sl Mode.own (nat_lit 33) none (List.map Ps.enc t)), (nat_lit 25, AV.sl Mode.any (nat_lit 23) (some (nat_lit 2)) [AV.sl Mode.any (nat_lit 33) ca (List.map Ps.enc l), AV.sl Mode.any (nat_lit 33) cb (List.map Ps.enc m)]), (nat_lit 26, AV.atom (Value.int IntKind.i64 (2 : Int))), (nat_lit 27, AV.atom (Value.int IntKind.i64 (2 : Int))), (nat_lit 28, AV.atom (Value.bool (decide ((2 : Int) < (2 : Int)))))]) :=
  evA_ok (H := h50) (ans := [Ans.c, Ans.c]) (ps := []) (ans' := []) (base 36 0) cxA_K.1 cxA_K.2 _ (by kernel_rfl)  allp_nil


end Tst
end

section
open Go Go.Lf Go.Proofs
namespace Tst
theorem cc_A (ca cb : Option Nat) (l m : List Ps) (hl : l.length ≤ 1000000) (hm : m.length ≤ 1000000) : Tri Try.prog (cxN 36 0) (.loop (loopBody Try.f50 0)) [(0, two ca cb l m), (3, it 0), (9, two ca cb l m), (10, it 2), (11, it 0)] (.exit 0) [(0, two ca cb l m), (3, it ((l.length + m.length : Nat) : Int))] := by
  have w0 : IntKind.i64.wrap ((0 : Int) + 1) = 1 := by decide
  have w1 : IntKind.i64.wrap ((1 : Int) + 1) = 2 := by decide
  have h0 := ccA0_0 ca cb l m hl hm (by rw [List.length_map, wrap_id (by omega) (by omega)]; simp; try omega)
  rw [w0, wrap_id (n := (0 : Int) + _) (by omega) (by simp; omega)] at h0
  have h1 := ccA1_0 ca cb l m (0 + ((l.map Ps.enc).length : Int)) hl hm (by rw [List.length_map, List.length_map, wrap_id (by omega) (by omega)]; simp; try omega)
  rw [w1, wrap_id (by simp; omega) (by simp; omega)] at h1
  have h2 := Tri.after [(0, .keep), (3, .keep)] (ccA2_0 ca cb l m (0 + ((l.map Ps.enc).length : Int) + ((m.map Ps.enc).length : Int)) hl hm)
  have e : (0 + ((l.map Ps.enc).length : Int) + ((m.map Ps.enc).length : Int)) = ((l.length + m.length : Nat) : Int) := by simp
  rw [e] at h2 h1
  exact Rnd.loop (Rnd.step h0 (Rnd.step h1 (Rnd.exit (n := 0) h2 (by simp))))
theorem cc_B (ca cb : Option Nat) (l m : List Ps) (hl : l.length ≤ 1000000) (hm : m.length ≤ 1000000) : Tri Try.prog (cxN 36 0) (.loop (loopBody Try.f50 1)) [(6, ow none []), (25, two ca cb l m), (26, it 2), (27, it 0)] (.exit 2) [(6, ow none (l ++ m))] := by
  have w0 : IntKind.i64.wrap ((0 : Int) + 1) = 1 := by decide
  have w1 : IntKind.i64.wrap ((1 : Int) + 1) = 2 := by decide
  have h0 := ccB0_0 ca cb l m [] hl hm (by simp only [decide_eq_true_eq]; exact ⟨trivial, all_plain _, all_four _⟩) (by simp; omega) (by simp)
  rw [w0] at h0
  have h1 := ccB1_0 ca cb l m ([] ++ l) hl hm (by simp only [decide_eq_true_eq]; exact ⟨trivial, all_plain _, all_four _⟩) (by simp; omega) (by simp)
  rw [w1] at h1
  have h2 := Tri.after [(6, .keep)] (ccB2_0 ca cb l m ([] ++ l ++ m) hl hm)
  rw [List.nil_append] at h2 h1 h0
  exact Rnd.loop (Rnd.step h0 (Rnd.step h1 (Rnd.exit (n := 0) h2 (by simp))))
theorem con_0 (ca cb : Option Nat) (l m : List Ps) (hl : l.length ≤ 1000000) (hm : m.length ≤ 1000000) (g0 : AV.sl Mode.own (nat_lit 33) none [] = AV.sl Mode.own (nat_lit 33) none (List.map Ps.enc [])) : PureC Try.prog 50 [two ca cb l m]  (AV.sl Mode.own (nat_lit 33) none (List.map Ps.enc (l ++ m))) :=
  funA_ok (H := h50) (n := 36) (ans := [Ans.c, Ans.c, Ans.c, Ans.c, Ans.c, Ans.lp (Ex.exit (nat_lit 0)) [(nat_lit 0, AV.sl Mode.any (nat_lit 23) (some (nat_lit 2)) [AV.sl Mode.any (nat_lit 33) ca (List.map Ps.enc l), AV.sl Mode.any (nat_lit 33) cb (List.map Ps.enc m)]), (nat_lit 3, AV.atom (Value.int IntKind.i64 (↑(List.length l + List.length m) : Int)))], Ans.c, Ans.r (AV.sl Mode.own (nat_lit 33) none []), Ans.c, Ans.r (AV.sl Mode.own (nat_lit 33) none (List.map Ps.enc [])), Ans.c, Ans.c, Ans.c, Ans.c, Ans.lp (Ex.exit (nat_lit 2)) [(nat_lit 6, AV.sl Mode.own (nat_lit 33) none (List.map Ps.enc (l ++ m)))], Ans.c, Ans.c]) (ps := [Tri Try.prog (cxN (36 : Nat) (0 : Nat)) (Code.loop (loopBody Try.f50 (0 : Nat))) [(nat_lit 0, AV.sl Mode.any (nat_lit 23) (some (nat_lit 2)) [AV.sl Mode.any (nat_lit 33) ca (List.map Ps.enc l), AV.sl Mode.any (nat_lit 33) cb (List.map Ps.enc m)]), (nat_lit 3, AV.atom (Value.int IntKind.i64 (0 : Int))), (nat_lit 9, AV.sl Mode.any (nat_lit 23) (some (nat_lit 2)) [AV.sl Mode.any (nat_lit 33) ca (List.map Ps.enc l), AV.sl Mode.any (nat_lit 33) cb (List.map Ps.enc m)]), (nat_lit 10, AV.atom (Value.int IntKind.i64 (↑(List.length [sl ca l, sl cb m]) : Int))), (nat_lit 11, AV.atom (Value.int IntKind.i64 (0 : Int)))] (Ex.exit (nat_lit 0)) [(nat_lit 0, AV.sl Mode.any (nat_lit 23) (some (nat_lit 2)) [AV.sl Mode.any (nat_lit 33) ca (List.map Ps.enc l), AV.sl Mode.any (nat_lit 33) cb (List.map Ps.enc m)]), (nat_lit 3, AV.atom (Value.int IntKind.i64 (↑(List.length l + List.length m) : Int)))], PureC Try.prog (nat_lit 66) [AV.atom (Value.slice none (nat_lit 0) (nat_lit 0)), AV.atom (Value.int IntKind.i64 (↑(List.length l + List.length m) : Int))] (AV.sl Mode.own (nat_lit 33) none []), AV.sl Mode.own (nat_lit 33) none [] = AV.sl Mode.own (nat_lit 33) none (List.map Ps.enc []), Tri Try.prog (cxN (36 : Nat) (0 : Nat)) (Code.loop (loopBody Try.f50 (1 : Nat))) [(nat_lit 6, AV.sl Mode.own (nat_lit 33) none []), (nat_lit 25, AV.sl Mode.any (nat_lit 23) (some (nat_lit 2)) [AV.sl Mode.any (nat_lit 33) ca (List.map Ps.enc l), AV.sl Mode.any (nat_lit 33) cb (List.map Ps.enc m)]), (nat_lit 26, AV.atom (Value.int IntKind.i64 (↑(List.length [AV.sl Mode.any (nat_lit 33) ca (List.map Ps.enc l), AV.sl Mode.any (nat_lit 33) cb (List.map Ps.enc m)]) : Int))), (nat_lit 27, AV.atom (Value.int IntKind.i64 (0 : Int)))] (Ex.exit (nat_lit 2)) [(nat_lit 6, AV.sl Mode.own (nat_lit 33) none (List.map Ps.enc (l ++ m)))]]) (base 36 0) Try.func50 rfl (by simp) rfl (by kernel_rfl)  (allp (by first | (apply cc_A <;> (first | assumption | rfl | (simp at *; done) | (simp at *; omega))) | (apply cc_B <;> (first | assumption | rfl | (simp at *; done) | (simp at *; omega))) | (apply grow_c <;> (first | assumption | rfl | (simp at *; done) | (simp at *; omega)))) (allp (by first | (apply cc_A <;> (first | assumption | rfl | (simp at *; done) | (simp at *; omega))) | (apply cc_B <;> (first | assumption | rfl | (simp at *; done) | (simp at *; omega))) | (apply grow_c <;> (first | assumption | rfl | (simp at *; done) | (simp at *; omega)))) (allp g0 (allp (by first | (apply cc_A <;> (first | assumption | rfl | (simp at *; done) | (simp at *; omega))) | (apply cc_B <;> (first | assumption | rfl | (simp at *; done) | (simp at *; omega))) | (apply grow_c <;> (first | assumption | rfl | (simp at *; done) | (simp at *; omega)))) allp_nil))))


theorem con_c (ca cb : Option Nat) (l m : List Ps) (hl : l.length ≤ 1000000) (hm : m.length ≤ 1000000) : PureC Try.prog 50 [two ca cb l m] (ow none (l ++ m)) := con_0 ca cb l m hl hm rfl

end Tst
end

section
open Go Go.Lf Go.Proofs
namespace Tst
theorem go_0 (i n : Bool) (p c q : Int) (ca cb : Option Nat) (l m : List Ps) (hl : l.length ≤ 1000000) (hm : m.length ≤ 1000000) (hA : l.length < 2 ^ 62) (hB : m.length < 2 ^ 62) (hlm : (l ++ m).length ≤ 4294967296) (hn : (nf (l ++ m)).length ≤ 4294967296) (g0 : ((if chkB i p c n l = true then (0 : Int) else (1 : Int)) != (0 : Int)) = true) : PureC Try.prog 25 [yn i p c n (sl ca l), it q, sl cb m]  (AV.tup [AV.agg [AV.atom (Value.bool false), AV.atom (Value.int IntKind.i64 (0 : Int)), AV.atom (Value.int IntKind.i64 (0 : Int)), AV.atom (Value.bool false), AV.atom (Value.slice none (nat_lit 0) (nat_lit 0))], AV.atom (Value.int IntKind.i64 (if chkB i p c n l = true then (0 : Int) else (1 : Int)))]) :=
  funA_ok (H := h25) (n := 46) (ans := [Ans.c, Ans.c, Ans.c, Ans.c, Ans.r (AV.atom (Value.int IntKind.i64 (if chkB i p c n l = true then (0 : Int) else (1 : Int)))), Ans.c, Ans.c, Ans.c, Ans.c, Ans.c, Ans.b true, Ans.c, Ans.c, Ans.c, Ans.c]) (ps := [PureC Try.prog (nat_lit 27) [view (AV.agg [AV.atom (Value.bool i), AV.atom (Value.int IntKind.i64 p), AV.atom (Value.int IntKind.i64 c), AV.atom (Value.bool n), AV.sl Mode.any (nat_lit 33) ca (List.map Ps.enc l)])] (AV.atom (Value.int IntKind.i64 (if chkB i p c n l = true then (0 : Int) else (1 : Int)))), ((if chkB i p c n l = true then (0 : Int) else (1 : Int)) != (0 : Int)) = true]) (base 46 0) Try.func25 rfl (by simp) rfl (by kernel_rfl)  (allp (by (first | rw [view_yn] | rw [view_two] | skip); first | (apply chk_n <;> (first | assumption | rfl | (simp at *; done) | (simp at *; omega))) | (apply chk_c <;> (first | assumption | rfl | (simp at *; done) | (simp at *; omega))) | (apply placeValid_c <;> (first | assumption | rfl | (simp at *; done) | (simp at *; omega))) | (apply valid_c <;> (first | assumption | rfl | (simp at *; done) | (simp at *; omega))) | (apply con_c <;> (first | assumption | rfl | (simp at *; done) | (simp at *; omega))) | (apply red_c <;> (first | assumption | rfl | (simp at *; done) | (simp at *; omega)))) (allp g0 allp_nil))
theorem go_1 (i n : Bool) (p c q : Int) (ca cb : Option Nat) (l m : List Ps) (hl : l.length ≤ 1000000) (hm : m.length ≤ 1000000) (hA : l.length < 2 ^ 62) (hB : m.length < 2 ^ 62) (hlm : (l ++ m).length ≤ 4294967296) (hn : (nf (l ++ m)).length ≤ 4294967296) (g0 : ((if chkB i p c n l = true then (0 : Int) else (1 : Int)) != (0 : Int)) = false) (g1 : (!placeB q) = true) : PureC Try.prog 25 [yn i p c n (sl ca l), it q, sl cb m]  (AV.tup [AV.agg [AV.atom (Value.bool false), AV.atom (Value.int IntKind.i64 (0 : Int)), AV.atom (Value.int IntKind.i64 (0 : Int)), AV.atom (Value.bool false), AV.atom (Value.slice none (nat_lit 0) (nat_lit 0))], AV.atom (Value.int IntKind.i64 (1 : Int))]) :=
  funA_ok (H := h25) (n := 46) (ans := [Ans.c, Ans.c, Ans.c, Ans.c, Ans.r (AV.atom (Value.int IntKind.i64 (if chkB i p c n l = true then (0 : Int) else (1 : Int)))), Ans.c, Ans.c, Ans.c, Ans.c, Ans.c, Ans.b false, Ans.c, Ans.r (AV.atom (Value.bool (placeB q))), Ans.c, Ans.c, Ans.c, Ans.c, Ans.b true, Ans.c, Ans.b true, Ans.c, Ans.b true, Ans.c, Ans.b true, Ans.c, Ans.c, Ans.c, Ans.c, Ans.c]) (ps := [PureC Try.prog (nat_lit 27) [view (AV.agg [AV.atom (Value.bool i), AV.atom (Value.int IntKind.i64 p), AV.atom (Value.int IntKind.i64 c), AV.atom (Value.bool n), AV.sl Mode.any (nat_lit 33) ca (List.map Ps.enc l)])] (AV.atom (Value.int IntKind.i64 (if chkB i p c n l = true then (0 : Int) else (1 : Int)))), ((if chkB i p c n l = true then (0 : Int) else (1 : Int)) != (0 : Int)) = false, PureC Try.prog (nat_lit 48) [AV.atom (Value.int IntKind.i64 q)] (AV.atom (Value.bool (placeB q))), (!placeB q) = true, (!placeB q) = true, (!placeB q) = true, (!placeB q) = true]) (base 46 0) Try.func25 rfl (by simp) rfl (by kernel_rfl)  (allp (by (first | rw [view_yn] | rw [view_two] | skip); first | (apply chk_n <;> (first | assumption | rfl | (simp at *; done) | (simp at *; omega))) | (apply chk_c <;> (first | assumption | rfl | (simp at *; done) | (simp at *; omega))) | (apply placeValid_c <;> (first | assumption | rfl | (simp at *; done) | (simp at *; omega))) | (apply valid_c <;> (first | assumption | rfl | (simp at *; done) | (simp at *; omega))) | (apply con_c <;> (first | assumption | rfl | (simp at *; done) | (simp at *; omega))) | (apply red_c <;> (first | assumption | rfl | (simp at *; done) | (simp at *; omega)))) (allp g0 (allp (by first | (apply chk_n <;> (first | assumption | rfl | (simp at *; done) | (simp at *; omega))) | (apply chk_c <;> (first | assumption | rfl | (simp at *; done) | (simp at *; omega))) | (apply placeValid_c <;> (first | assumption | rfl | (simp at *; done) | (simp at *; omega))) | (apply valid_c <;> (first | assumption | rfl | (simp at *; done) | (simp at *; omega))) | (apply con_c <;> (first | assumption | rfl | (simp at *; done) | (simp at *; omega))) | (apply red_c <;> (first | assumption | rfl | (simp at *; done) | (simp at *; omega)))) (allp g1 (allp g1 (allp g1 (allp g1 allp_nil)))))))
theorem go_2 (i n : Bool) (p c q : Int) (ca cb : Option Nat) (l m : List Ps) (hl : l.length ≤ 1000000) (hm : m.length ≤ 1000000) (hA : l.length < 2 ^ 62) (hB : m.length < 2 ^ 62) (hlm : (l ++ m).length ≤ 4294967296) (hn : (nf (l ++ m)).length ≤ 4294967296) (g0 : ((if chkB i p c n l = true then (0 : Int) else (1 : Int)) != (0 : Int)) = false) (g1 : (!placeB q) = false) (g2 : (!List.all m validP) = true) : PureC Try.prog 25 [yn i p c n (sl ca l), it q, sl cb m]  (AV.tup [AV.agg [AV.atom (Value.bool false), AV.atom (Value.int IntKind.i64 (0 : Int)), AV.atom (Value.int IntKind.i64 (0 : Int)), AV.atom (Value.bool false), AV.atom (Value.slice none (nat_lit 0) (nat_lit 0))], AV.atom (Value.int IntKind.i64 (1 : Int))]) :=
  funA_ok (H := h25) (n := 46) (ans := [Ans.c, Ans.c, Ans.c, Ans.c, Ans.r (AV.atom (Value.int IntKind.i64 (if chkB i p c n l = true then (0 : Int) else (1 : Int)))), Ans.c, Ans.c, Ans.c, Ans.c, Ans.c, Ans.b false, Ans.c, Ans.r (AV.atom (Value.bool (placeB q))), Ans.c, Ans.c, Ans.c, Ans.c, Ans.b false, Ans.c, Ans.b false, Ans.r (AV.sl Mode.any (nat_lit 33) cb (List.map Ps.enc m)), Ans.r (AV.atom (Value.bool (List.all m validP))), Ans.c, Ans.c, Ans.b false, Ans.c, Ans.b false, Ans.c, Ans.b true, Ans.c, Ans.c, Ans.c]) (ps := [PureC Try.prog (nat_lit 27) [view (AV.agg [AV.atom (Value.bool i), AV.atom (Value.int IntKind.i64 p), AV.atom (Value.int IntKind.i64 c), AV.atom (Value.bool n), AV.sl Mode.any (nat_lit 33) ca (List.map Ps.enc l)])] (AV.atom (Value.int IntKind.i64 (if chkB i p c n l = true then (0 : Int) else (1 : Int)))), ((if chkB i p c n l = true then (0 : Int) else (1 : Int)) != (0 : Int)) = false, PureC Try.prog (nat_lit 48) [AV.atom (Value.int IntKind.i64 q)] (AV.atom (Value.bool (placeB q))), (!placeB q) = false, (!placeB q) = false, view (AV.sl Mode.any (nat_lit 33) cb (List.map Ps.enc m)) = AV.sl Mode.any (nat_lit 33) cb (List.map Ps.enc m), PureC Try.prog (nat_lit 49) [AV.sl Mode.any (nat_lit 33) cb (List.map Ps.enc m)] (AV.atom (Value.bool (List.all m validP))), (!placeB q) = false, (!placeB q) = false, (!List.all m validP) = true]) (base 46 0) Try.func25 rfl (by simp) rfl (by kernel_rfl)  (allp (by (first | rw [view_yn] | rw [view_two] | skip); first | (apply chk_n <;> (first | assumption | rfl | (simp at *; done) | (simp at *; omega))) | (apply chk_c <;> (first | assumption | rfl | (simp at *; done) | (simp at *; omega))) | (apply placeValid_c <;> (first | assumption | rfl | (simp at *; done) | (simp at *; omega))) | (apply valid_c <;> (first | assumption | rfl | (simp at *; done) | (simp at *; omega))) | (apply con_c <;> (first | assumption | rfl | (simp at *; done) | (simp at *; omega))) | (apply red_c <;> (first | assumption | rfl | (simp at *; done) | (simp at *; omega)))) (allp g0 (allp (by first | (apply chk_n <;> (first | assumption | rfl | (simp at *; done) | (simp at *; omega))) | (apply chk_c <;> (first | assumption | rfl | (simp at *; done) | (simp at *; omega))) | (apply placeValid_c <;> (first | assumption | rfl | (simp at *; done) | (simp at *; omega))) | (apply valid_c <;> (first | assumption | rfl | (simp at *; done) | (simp at *; omega))) | (apply con_c <;> (first | assumption | rfl | (simp at *; done) | (simp at *; omega))) | (apply red_c <;> (first | assumption | rfl | (simp at *; done) | (simp at *; omega)))) (allp g1 (allp g1 (allp (by first | exact view_ps _ _ _ | exact view_u8 _ _ _ | rfl | exact view_yn _ _ _ _ _ _ _) (allp (by first | (apply chk_n <;> (first | assumption | rfl | (simp at *; done) | (simp at *; omega))) | (apply chk_c <;> (first | assumption | rfl | (simp at *; done) | (simp at *; omega))) | (apply placeValid_c <;> (first | assumption | rfl | (simp at *; done) | (simp at *; omega))) | (apply valid_c <;> (first | assumption | rfl | (simp at *; done) | (simp at *; omega))) | (apply con_c <;> (first | assumption | rfl | (simp at *; done) | (simp at *; omega))) | (apply red_c <;> (first | assumption | rfl | (simp at *; done) | (simp at *; omega)))) (allp g1 (allp g1 (allp g2 allp_nil))))))))))
theorem go_3 (i n : Bool) (p c q : Int) (ca cb : Option Nat) (l m : List Ps) (hl : l.length ≤ 1000000) (hm : m.length ≤ 1000000) (hA : l.length < 2 ^ 62) (hB : m.length < 2 ^ 62) (hlm : (l ++ m).length ≤ 4294967296) (hn : (nf (l ++ m)).length ≤ 4294967296) (g0 : ((if chkB i p c n l = true then (0 : Int) else (1 : Int)) != (0 : Int)) = false) (g1 : (!placeB q) = false) (g2 : (!List.all m validP) = false) (g3 : (!i) = true) : PureC Try.prog 25 [yn i p c n (sl ca l), it q, sl cb m]  (AV.tup [AV.agg [AV.atom (Value.bool false), AV.atom (Value.int IntKind.i64 (0 : Int)), AV.atom (Value.int IntKind.i64 (0 : Int)), AV.atom (Value.bool false), AV.atom (Value.slice none (nat_lit 0) (nat_lit 0))], AV.atom (Value.int IntKind.i64 (12 : Int))]) :=
  funA_ok (H := h25) (n := 46) (ans := [Ans.c, Ans.c, Ans.c, Ans.c, Ans.r (AV.atom (Value.int IntKind.i64 (if chkB i p c n l = true then (0 : Int) else (1 : Int)))), Ans.c, Ans.c, Ans.c, Ans.c, Ans.c, Ans.b false, Ans.c, Ans.r (AV.atom (Value.bool (placeB q))), Ans.c, Ans.c, Ans.c, Ans.c, Ans.b false, Ans.c, Ans.b false, Ans.r (AV.sl Mode.any (nat_lit 33) cb (List.map Ps.enc m)), Ans.r (AV.atom (Value.bool (List.all m validP))), Ans.c, Ans.c, Ans.b false, Ans.c, Ans.b false, Ans.c, Ans.b false, Ans.c, Ans.c, Ans.c, Ans.b true, Ans.c, Ans.c, Ans.c]) (ps := [PureC Try.prog (nat_lit 27) [view (AV.agg [AV.atom (Value.bool i), AV.atom (Value.int IntKind.i64 p), AV.atom (Value.int IntKind.i64 c), AV.atom (Value.bool n), AV.sl Mode.any (nat_lit 33) ca (List.map Ps.enc l)])] (AV.atom (Value.int IntKind.i64 (if chkB i p c n l = true then (0 : Int) else (1 : Int)))), ((if chkB i p c n l = true then (0 : Int) else (1 : Int)) != (0 : Int)) = false, PureC Try.prog (nat_lit 48) [AV.atom (Value.int IntKind.i64 q)] (AV.atom (Value.bool (placeB q))), (!placeB q) = false, (!placeB q) = false, view (AV.sl Mode.any (nat_lit 33) cb (List.map Ps.enc m)) = AV.sl Mode.any (nat_lit 33) cb (List.map Ps.enc m), PureC Try.prog (nat_lit 49) [AV.sl Mode.any (nat_lit 33) cb (List.map Ps.enc m)] (AV.atom (Value.bool (List.all m validP))), (!placeB q) = false, (!placeB q) = false, (!List.all m validP) = false, (!i) = true]) (base 46 0) Try.func25 rfl (by simp) rfl (by kernel_rfl)  (allp (by (first | rw [view_yn] | rw [view_two] | skip); first | (apply chk_n <;> (first | assumption | rfl | (simp at *; done) | (simp at *; omega))) | (apply chk_c <;> (first | assumption | rfl | (simp at *; done) | (simp at *; omega))) | (apply placeValid_c <;> (first | assumption | rfl | (simp at *; done) | (simp at *; omega))) | (apply valid_c <;> (first | assumption | rfl | (simp at *; done) | (simp at *; omega))) | (apply con_c <;> (first | assumption | rfl | (simp at *; done) | (simp at *; omega))) | (apply red_c <;> (first | assumption | rfl | (simp at *; done) | (simp at *; omega)))) (allp g0 (allp (by first | (apply chk_n <;> (first | assumption | rfl | (simp at *; done) | (simp at *; omega))) | (apply chk_c <;> (first | assumption | rfl | (simp at *; done) | (simp at *; omega))) | (apply placeValid_c <;> (first | assumption | rfl | (simp at *; done) | (simp at *; omega))) | (apply valid_c <;> (first | assumption | rfl | (simp at *; done) | (simp at *; omega))) | (apply con_c <;> (first | assumption | rfl | (simp at *; done) | (simp at *; omega))) | (apply red_c <;> (first | assumption | rfl | (simp at *; done) | (simp at *; omega)))) (allp g1 (allp g1 (allp (by first | exact view_ps _ _ _ | exact view_u8 _ _ _ | rfl | exact view_yn _ _ _ _ _ _ _) (allp (by first | (apply chk_n <;> (first | assumption | rfl | (simp at *; done) | (simp at *; omega))) | (apply chk_c <;> (first | assumption | rfl | (simp at *; done) | (simp at *; omega))) | (apply placeValid_c <;> (first | assumption | rfl | (simp at *; done) | (simp at *; omega))) | (apply valid_c <;> (first | assumption | rfl | (simp at *; done) | (simp at *; omega))) | (apply con_c <;> (first | assumption | rfl | (simp at *; done) | (simp at *; omega))) | (apply red_c <;> (first | assumption | rfl | (simp at *; done) | (simp at *; omega)))) (allp g1 (allp g1 (allp g2 (allp g3 allp_nil)))))))))))
theorem go_4 (i n : Bool) (p c q : Int) (ca cb : Option Nat) (l m : List Ps) (hl : l.length ≤ 1000000) (hm : m.length ≤ 1000000) (hA : l.length < 2 ^ 62) (hB : m.length < 2 ^ 62) (hlm : (l ++ m).length ≤ 4294967296) (hn : (nf (l ++ m)).length ≤ 4294967296) (g0 : ((if chkB i p c n l = true then (0 : Int) else (1 : Int)) != (0 : Int)) = false) (g1 : (!placeB q) = false) (g2 : (!List.all m validP) = false) (g3 : (!i) = false) (g4 : decide ((true || false) = true → noAny (12 : Nat) (AV.sl Mode.own (nat_lit 33) none (List.map Ps.enc (l ++ m))) = true) = true) (g5 : decide ((true || false) = true → noAny (12 : Nat) (AV.sl Mode.own (nat_lit 33) (some (List.length (nf (l ++ m)))) (List.map Ps.enc (nf (l ++ m)))) = true) = true) (g6 : decide ((4096 : Int) < (↑(List.length (List.map Ps.enc (nf (l ++ m)))) : Int)) = true) : PureC Try.prog 25 [yn i p c n (sl ca l), it q, sl cb m]  (AV.tup [AV.agg [AV.atom (Value.bool false), AV.atom (Value.int IntKind.i64 (0 : Int)), AV.atom (Value.int IntKind.i64 (0 : Int)), AV.atom (Value.bool false), AV.atom (Value.slice none (nat_lit 0) (nat_lit 0))], AV.atom (Value.int IntKind.i64 (3 : Int))]) :=
  funA_ok (H := h25) (n := 46) (ans := [Ans.c, Ans.c, Ans.c, Ans.c, Ans.r (AV.atom (Value.int IntKind.i64 (if chkB i p c n l = true then (0 : Int) else (1 : Int)))), Ans.c, Ans.c, Ans.c, Ans.c, Ans.c, Ans.b false, Ans.c, Ans.r (AV.atom (Value.bool (placeB q))), Ans.c, Ans.c, Ans.c, Ans.c, Ans.b false, Ans.c, Ans.b false, Ans.r (AV.sl Mode.any (nat_lit 33) cb (List.map Ps.enc m)), Ans.r (AV.atom (Value.bool (List.all m validP))), Ans.c, Ans.c, Ans.b false, Ans.c, Ans.b false, Ans.c, Ans.b false, Ans.c, Ans.c, Ans.c, Ans.b false, Ans.c, Ans.c, Ans.c, Ans.c, Ans.c, Ans.r (AV.sl Mode.own (nat_lit 33) none (List.map Ps.enc (l ++ m))), Ans.b true, Ans.c, Ans.r (AV.sl Mode.any (nat_lit 33) none (List.map Ps.enc (l ++ m))), Ans.r (AV.sl Mode.own (nat_lit 33) (some (List.length (nf (l ++ m)))) (List.map Ps.enc (nf (l ++ m)))), Ans.b true, Ans.c, Ans.c, Ans.c, Ans.c, Ans.c, Ans.b true, Ans.c, Ans.c, Ans.c]) (ps := [PureC Try.prog (nat_lit 27) [view (AV.agg [AV.atom (Value.bool i), AV.atom (Value.int IntKind.i64 p), AV.atom (Value.int IntKind.i64 c), AV.atom (Value.bool n), AV.sl Mode.any (nat_lit 33) ca (List.map Ps.enc l)])] (AV.atom (Value.int IntKind.i64 (if chkB i p c n l = true then (0 : Int) else (1 : Int)))), ((if chkB i p c n l = true then (0 : Int) else (1 : Int)) != (0 : Int)) = false, PureC Try.prog (nat_lit 48) [AV.atom (Value.int IntKind.i64 q)] (AV.atom (Value.bool (placeB q))), (!placeB q) = false, (!placeB q) = false, view (AV.sl Mode.any (nat_lit 33) cb (List.map Ps.enc m)) = AV.sl Mode.any (nat_lit 33) cb (List.map Ps.enc m), PureC Try.prog (nat_lit 49) [AV.sl Mode.any (nat_lit 33) cb (List.map Ps.enc m)] (AV.atom (Value.bool (List.all m validP))), (!placeB q) = false, (!placeB q) = false, (!List.all m validP) = false, (!i) = false, PureC Try.prog (nat_lit 50) [view (AV.sl Mode.own (nat_lit 23) (some (nat_lit 2)) [AV.sl Mode.any (nat_lit 33) ca (List.map Ps.enc l), AV.sl Mode.any (nat_lit 33) cb (List.map Ps.enc m)])] (AV.sl Mode.own (nat_lit 33) none (List.map Ps.enc (l ++ m))), decide ((true || false) = true → noAny (12 : Nat) (AV.sl Mode.own (nat_lit 33) none (List.map Ps.enc (l ++ m))) = true) = true, view (AV.sl Mode.own (nat_lit 33) none (List.map Ps.enc (l ++ m))) = AV.sl Mode.any (nat_lit 33) none (List.map Ps.enc (l ++ m)), PureC Try.prog (nat_lit 17) [AV.sl Mode.any (nat_lit 33) none (List.map Ps.enc (l ++ m))] (AV.sl Mode.own (nat_lit 33) (some (List.length (nf (l ++ m)))) (List.map Ps.enc (nf (l ++ m)))), decide ((true || false) = true → noAny (12 : Nat) (AV.sl Mode.own (nat_lit 33) (some (List.length (nf (l ++ m)))) (List.map Ps.enc (nf (l ++ m)))) = true) = true, decide ((4096 : Int) < (↑(List.length (List.map Ps.enc (nf (l ++ m)))) : Int)) = true]) (base 46 0) Try.func25 rfl (by simp) rfl (by kernel_rfl)  (allp (by (first | rw [view_yn] | rw [view_two] | skip); first | (apply chk_n <;> (first | assumption | rfl | (simp at *; done) | (simp at *; omega))) | (apply chk_c <;> (first | assumption | rfl | (simp at *; done) | (simp at *; omega))) | (apply placeValid_c <;> (first | assumption | rfl | (simp at *; done) | (simp at *; omega))) | (apply valid_c <;> (first | assumption | rfl | (simp at *; done) | (simp at *; omega))) | (apply con_c <;> (first | assumption | rfl | (simp at *; done) | (simp at *; omega))) | (apply red_c <;> (first | assumption | rfl | (simp at *; done) | (simp at *; omega)))) (allp g0 (allp (by first | (apply chk_n <;> (first | assumption | rfl | (simp at *; done) | (simp at *; omega))) | (apply chk_c <;> (first | assumption | rfl | (simp at *; done) | (simp at *; omega))) | (apply placeValid_c <;> (first | assumption | rfl | (simp at *; done) | (simp at *; omega))) | (apply valid_c <;> (first | assumption | rfl | (simp at *; done) | (simp at *; omega))) | (apply con_c <;> (first | assumption | rfl | (simp at *; done) | (simp at *; omega))) | (apply red_c <;> (first | assumption | rfl | (simp at *; done) | (simp at *; omega)))) (allp g1 (allp g1 (allp (by first | exact view_ps _ _ _ | exact view_u8 _ _ _ | rfl | exact view_yn _ _ _ _ _ _ _) (allp (by first | (apply chk_n <;> (first | assumption | rfl | (simp at *; done) | (simp at *; omega))) | (apply chk_c <;> (first | assumption | rfl | (simp at *; done) | (simp at *; omega))) | (apply placeValid_c <;> (first | assumption | rfl | (simp at *; done) | (simp at *; omega))) | (apply valid_c <;> (first | assumption | rfl | (simp at *; done) | (simp at *; omega))) | (apply con_c <;> (first | assumption | rfl | (simp at *; done) | (simp at *; omega))) | (apply red_c <;> (first | assumption | rfl | (simp at *; done) | (simp at *; omega)))) (allp g1 (allp g1 (allp g2 (allp g3 (allp (by (first | rw [view_yn] | rw [view_two] | skip); first | (apply chk_n <;> (first | assumption | rfl | (simp at *; done) | (simp at *; omega))) | (apply chk_c <;> (first | assumption | rfl | (simp at *; done) | (simp at *; omega))) | (apply placeValid_c <;> (first | assumption | rfl | (simp at *; done) | (simp at *; omega))) | (apply valid_c <;> (first | assumption | rfl | (simp at *; done) | (simp at *; omega))) | (apply con_c <;> (first | assumption | rfl | (simp at *; done) | (simp at *; omega))) | (apply red_c <;> (first | assumption | rfl | (simp at *; done) | (simp at *; omega)))) (allp g4 (allp (by first | exact view_ps _ _ _ | exact view_u8 _ _ _ | rfl | exact view_yn _ _ _ _ _ _ _) (allp (by first | (apply chk_n <;> (first | assumption | rfl | (simp at *; done) | (simp at *; omega))) | (apply chk_c <;> (first | assumption | rfl | (simp at *; done) | (simp at *; omega))) | (apply placeValid_c <;> (first | assumption | rfl | (simp at *; done) | (simp at *; omega))) | (apply valid_c <;> (first | assumption | rfl | (simp at *; done) | (simp at *; omega))) | (apply con_c <;> (first | assumption | rfl | (simp at *; done) | (simp at *; omega))) | (apply red_c <;> (first | assumption | rfl | (simp at *; done) | (simp at *; omega)))) (allp g5 (allp g6 allp_nil)))))))))))))))))
theorem go_5 (i n : Bool) (p c q : Int) (ca cb : Option Nat) (l m : List Ps) (hl : l.length ≤ 1000000) (hm : m.length ≤ 1000000) (hA : l.length < 2 ^ 62) (hB : m.length < 2 ^ 62) (hlm : (l ++ m).length ≤ 4294967296) (hn : (nf (l ++ m)).length ≤ 4294967296) (g0 : ((if chkB i p c n l = true then (0 : Int) else (1 : Int)) != (0 : Int)) = false) (g1 : (!placeB q) = false) (g2 : (!List.all m validP) = false) (g3 : (!i) = false) (g4 : decide ((true || false) = true → noAny (12 : Nat) (AV.sl Mode.own (nat_lit 33) none (List.map Ps.enc (l ++ m))) = true) = true) (g5 : decide ((true || false) = true → noAny (12 : Nat) (AV.sl Mode.own (nat_lit 33) (some (List.length (nf (l ++ m)))) (List.map Ps.enc (nf (l ++ m)))) = true) = true) (g6 : decide ((4096 : Int) < (↑(List.length (List.map Ps.enc (nf (l ++ m)))) : Int)) = false) (g7 : AV.sl Mode.fresh (nat_lit 33) (some (List.length (nf (l ++ m)))) (List.map (mapE (remode shareM (11 : Nat))) (List.map Ps.enc (nf (l ++ m)))) = AV.sl Mode.fresh (nat_lit 33) (some (List.length (nf (l ++ m)))) (List.map Ps.enc (nf (l ++ m)))) : PureC Try.prog 25 [yn i p c n (sl ca l), it q, sl cb m]  (AV.tup [AV.agg [AV.atom (Value.bool true), AV.atom (Value.int IntKind.i64 q), AV.atom (Value.int IntKind.i64 c), AV.atom (Value.bool n), AV.sl Mode.fresh (nat_lit 33) (some (List.length (nf (l ++ m)))) (List.map (mapE (remode shareM (11 : Nat))) (List.map Ps.enc (nf (l ++ m))))], AV.atom (Value.int IntKind.i64 (0 : Int))]) :=
  funA_ok (H := h25) (n := 46) (ans := [Ans.c, Ans.c, Ans.c, Ans.c, Ans.r (AV.atom (Value.int IntKind.i64 (if chkB i p c n l = true then (0 : Int) else (1 : Int)))), Ans.c, Ans.c, Ans.c, Ans.c, Ans.c, Ans.b false, Ans.c, Ans.r (AV.atom (Value.bool (placeB q))), Ans.c, Ans.c, Ans.c, Ans.c, Ans.b false, Ans.c, Ans.b false, Ans.r (AV.sl Mode.any (nat_lit 33) cb (List.map Ps.enc m)), Ans.r (AV.atom (Value.bool (List.all m validP))), Ans.c, Ans.c, Ans.b false, Ans.c, Ans.b false, Ans.c, Ans.b false, Ans.c, Ans.c, Ans.c, Ans.b false, Ans.c, Ans.c, Ans.c, Ans.c, Ans.c, Ans.r (AV.sl Mode.own (nat_lit 33) none (List.map Ps.enc (l ++ m))), Ans.b true, Ans.c, Ans.r (AV.sl Mode.any (nat_lit 33) none (List.map Ps.enc (l ++ m))), Ans.r (AV.sl Mode.own (nat_lit 33) (some (List.length (nf (l ++ m)))) (List.map Ps.enc (nf (l ++ m)))), Ans.b true, Ans.c, Ans.c, Ans.c, Ans.c, Ans.c, Ans.b false, Ans.c, Ans.c, Ans.c, Ans.c, Ans.c, Ans.c, Ans.r (AV.sl Mode.fresh (nat_lit 33) (some (List.length (nf (l ++ m)))) (List.map Ps.enc (nf (l ++ m)))), Ans.c, Ans.c, Ans.c]) (ps := [PureC Try.prog (nat_lit 27) [view (AV.agg [AV.atom (Value.bool i), AV.atom (Value.int IntKind.i64 p), AV.atom (Value.int IntKind.i64 c), AV.atom (Value.bool n), AV.sl Mode.any (nat_lit 33) ca (List.map Ps.enc l)])] (AV.atom (Value.int IntKind.i64 (if chkB i p c n l = true then (0 : Int) else (1 : Int)))), ((if chkB i p c n l = true then (0 : Int) else (1 : Int)) != (0 : Int)) = false, PureC Try.prog (nat_lit 48) [AV.atom (Value.int IntKind.i64 q)] (AV.atom (Value.bool (placeB q))), (!placeB q) = false, (!placeB q) = false, view (AV.sl Mode.any (nat_lit 33) cb (List.map Ps.enc m)) = AV.sl Mode.any (nat_lit 33) cb (List.map Ps.enc m), PureC Try.prog (nat_lit 49) [AV.sl Mode.any (nat_lit 33) cb (List.map Ps.enc m)] (AV.atom (Value.bool (List.all m validP))), (!placeB q) = false, (!placeB q) = false, (!List.all m validP) = false, (!i) = false, PureC Try.prog (nat_lit 50) [view (AV.sl Mode.own (nat_lit 23) (some (nat_lit 2)) [AV.sl Mode.any (nat_lit 33) ca (List.map Ps.enc l), AV.sl Mode.any (nat_lit 33) cb (List.map Ps.enc m)])] (AV.sl Mode.own (nat_lit 33) none (List.map Ps.enc (l ++ m))), decide ((true || false) = true → noAny (12 : Nat) (AV.sl Mode.own (nat_lit 33) none (List.map Ps.enc (l ++ m))) = true) = true, view (AV.sl Mode.own (nat_lit 33) none (List.map Ps.enc (l ++ m))) = AV.sl Mode.any (nat_lit 33) none (List.map Ps.enc (l ++ m)), PureC Try.prog (nat_lit 17) [AV.sl Mode.any (nat_lit 33) none (List.map Ps.enc (l ++ m))] (AV.sl Mode.own (nat_lit 33) (some (List.length (nf (l ++ m)))) (List.map Ps.enc (nf (l ++ m)))), decide ((true || false) = true → noAny (12 : Nat) (AV.sl Mode.own (nat_lit 33) (some (List.length (nf (l ++ m)))) (List.map Ps.enc (nf (l ++ m)))) = true) = true, decide ((4096 : Int) < (↑(List.length (List.map Ps.enc (nf (l ++ m)))) : Int)) = false, AV.sl Mode.fresh (nat_lit 33) (some (List.length (nf (l ++ m)))) (List.map (mapE (remode shareM (11 : Nat))) (List.map Ps.enc (nf (l ++ m)))) = AV.sl Mode.fresh (nat_lit 33) (some (List.length (nf (l ++ m)))) (List.map Ps.enc (nf (l ++ m)))]) (base 46 0) Try.func25 rfl (by simp) rfl (by kernel_rfl)  (allp (by (first | rw [view_yn] | rw [view_two] | skip); first | (apply chk_n <;> (first | assumption | rfl | (simp at *; done) | (simp at *; omega))) | (apply chk_c <;> (first | assumption | rfl | (simp at *; done) | (simp at *; omega))) | (apply placeValid_c <;> (first | assumption | rfl | (simp at *; done) | (simp at *; omega))) | (apply valid_c <;> (first | assumption | rfl | (simp at *; done) | (simp at *; omega))) | (apply con_c <;> (first | assumption | rfl | (simp at *; done) | (simp at *; omega))) | (apply red_c <;> (first | assumption | rfl | (simp at *; done) | (simp at *; omega)))) (allp g0 (allp (by first | (apply chk_n <;> (first | assumption | rfl | (simp at *; done) | (simp at *; omega))) | (apply chk_c <;> (first | assumption | rfl | (simp at *; done) | (simp at *; omega))) | (apply placeValid_c <;> (first | assumption | rfl | (simp at *; done) | (simp at *; omega))) | (apply valid_c <;> (first | assumption | rfl | (simp at *; done) | (simp at *; omega))) | (apply con_c <;> (first | assumption | rfl | (simp at *; done) | (simp at *; omega))) | (apply red_c <;> (first | assumption | rfl | (simp at *; done) | (simp at *; omega)))) (allp g1 (allp g1 (allp (by first | exact view_ps _ _ _ | exact view_u8 _ _ _ | rfl | exact view_yn _ _ _ _ _ _ _) (allp (by first | (apply chk_n <;> (first | assumption | rfl | (simp at *; done) | (simp at *; omega))) | (apply chk_c <;> (first | assumption | rfl | (simp at *; done) | (simp at *; omega))) | (apply placeValid_c <;> (first | assumption | rfl | (simp at *; done) | (simp at *; omega))) | (apply valid_c <;> (first | assumption | rfl | (simp at *; done) | (simp at *; omega))) | (apply con_c <;> (first | assumption | rfl | (simp at *; done) | (simp at *; omega))) | (apply red_c <;> (first | assumption | rfl | (simp at *; done) | (simp at *; omega)))) (allp g1 (allp g1 (allp g2 (allp g3 (allp (by (first | rw [view_yn] | rw [view_two] | skip); first | (apply chk_n <;> (first | assumption | rfl | (simp at *; done) | (simp at *; omega))) | (apply chk_c <;> (first | assumption | rfl | (simp at *; done) | (simp at *; omega))) | (apply placeValid_c <;> (first | assumption | rfl | (simp at *; done) | (simp at *; omega))) | (apply valid_c <;> (first | assumption | rfl | (simp at *; done) | (simp at *; omega))) | (apply con_c <;> (first | assumption | rfl | (simp at *; done) | (simp at *; omega))) | (apply red_c <;> (first | assumption | rfl | (simp at *; done) | (simp at *; omega)))) (allp g4 (allp (by first | exact view_ps _ _ _ | exact view_u8 _ _ _ | rfl | exact view_yn _ _ _ _ _ _ _) (allp (by first | (apply chk_n <;> (first | assumption | rfl | (simp at *; done) | (simp at *; omega))) | (apply chk_c <;> (first | assumption | rfl | (simp at *; done) | (simp at *; omega))) | (apply placeValid_c <;> (first | assumption | rfl | (simp at *; done) | (simp at *; omega))) | (apply valid_c <;> (first | assumption | rfl | (simp at *; done) | (simp at *; omega))) | (apply con_c <;> (first | assumption | rfl | (simp at *; done) | (simp at *; omega))) | (apply red_c <;> (first | assumption | rfl | (simp at *; done) | (simp at *; omega)))) (allp g5 (allp g6 (allp g7 allp_nil))))))))))))))))))


end Tst
end

section
open Go Go.Lf Go.Proofs
namespace Tst
abbrev fr (cap : Option Nat) (l : List Ps) : AV := .sl .fresh 33 cap (l.map Ps.enc)
theorem Le_nilF : Le Try.prog nilp (fr (some 0) []) := by
  intro B0 w S n v O h
  obtain ⟨n, rfl⟩ := h.pos
  obtain ⟨rfl, hz⟩ := h
  exact ⟨none, 0, rfl, Nat.le_refl _, Nat.zero_le _, rfl, fun x hx => by simp at hx, hz, fun h => absurd rfl h⟩
theorem map_enc (f : Lf.Mode → Lf.Mode) (k : Nat) (l : List Ps) : List.map (mapE (remode f (k + 1))) (List.map Ps.enc l) = List.map Ps.enc l := by
  rw [List.map_map]; rfl
/-- a carrier and its yarn -/
structure Y where
  i : Bool
  p : Int
  c : Int
  n : Bool
  l : List Ps
def Y.zero : Y := ⟨false, 0, 0, false, []⟩
abbrev Y.an (ca : Option Nat) (y : Y) : AV := yn y.i y.p y.c y.n (sl ca y.l)
abbrev Y.fr (y : Y) : AV := yn y.i y.p y.c y.n (Tst.fr (some y.l.length) y.l)
def Y.ok (y : Y) : Bool := chkB y.i y.p y.c y.n y.l
theorem Le_yn (i n : Bool) (p c : Int) : Le Try.prog (yn i p c n nilp) (Y.fr ⟨i, p, c, n, []⟩) :=
  Le.agg (.cons (Le.refl _) (.cons (Le.refl _) (.cons (Le.refl _) (.cons (Le.refl _) (.cons Le_nilF .nil)))))
theorem Le_tup {x y : AV} (e : AV) (h : Le Try.prog x y) : Le Try.prog (.tup [x, e]) (.tup [y, e]) := Le.tup (.cons h (.cons (Le.refl _) .nil))
theorem Le_tup3 {x y x' y' : AV} (e : AV) (h : Le Try.prog x y) (h' : Le Try.prog x' y') : Le Try.prog (.tup [x, x', e]) (.tup [y, y', e]) := Le.tup (.cons h (.cons h' (.cons (Le.refl _) .nil)))
theorem cast2 {f : FuncId} {xs : List AV} {b : Y × Int} (a : Y × Int) (h : PureC Try.prog f xs (.tup [a.1.fr, it a.2])) (e : b = a) : PureC Try.prog f xs (.tup [b.1.fr, it b.2]) := e ▸ h
def enterY (y : Y) (d : Int) : Y × Int :=
  if y.ok = false then (Y.zero, 1) else if (d == 0 || d == 1) = false then (Y.zero, 1) else if y.i then (Y.zero, 12) else (⟨true, if d == 1 then 179 else -13, y.c, true, []⟩, 0)
theorem enter_c (ca : Option Nat) (y : Y) (d : Int) (hA : y.l.length < 2 ^ 62) : PureC Try.prog 23 [y.an ca, .atom (.int .u8 d)] (.tup [(enterY y d).1.fr, it (enterY y d).2]) := by
  obtain ⟨i, p, c, n, l⟩ := y
  cases h0 : Y.ok ⟨i, p, c, n, l⟩ with
  | false =>
    have h0' : chkB i p c n l = false := h0
    have := ent_0 i n p c d ca l hA (by rw [h0']; rfl)
    rw [h0'] at this
    exact cast2 (Y.zero, 1) (this.res (Le_tup _ (Le_yn _ _ _ _))) (by first | (simp only [enterY, h0]; done) | (simp only [enterY, h0]; simp; done) | (simp only [enterY, h0]; simp_all; done) | (simp [enterY, h0]; done) | (simp_all [enterY]; done))
  | true =>
    have h0' : chkB i p c n l = true := h0
    cases h1 : (d == 0 || d == 1) with
    | false =>
      have := ent_1 i n p c d ca l hA (by rw [h0']; rfl) (by rw [h1]; rfl)
      exact cast2 (Y.zero, 1) (this.res (Le_tup _ (Le_yn _ _ _ _))) (by first | (simp only [enterY, h0, h1]; done) | (simp only [enterY, h0, h1]; simp; done) | (simp only [enterY, h0]; simp_all; done) | (simp [enterY, h0, h1]; done) | (simp_all [enterY]; done))
    | true =>
      cases i with
      | true =>
        have := ent_2 true n p c d ca l hA (by rw [h0']; rfl) (by rw [h1]; rfl) rfl
        exact cast2 (Y.zero, 12) (this.res (Le_tup _ (Le_yn _ _ _ _))) (by first | (simp only [enterY, h0, h1]; done) | (simp only [enterY, h0, h1]; simp; done) | (simp only [enterY, h0]; simp_all; done) | (simp [enterY, h0, h1]; done) | (simp_all [enterY]; done))
      | false =>
        cases h2 : (d == 1) with
        | true =>
          have := ent_3 false n p c d ca l hA (by rw [h0']; rfl) (by rw [h1]; rfl) rfl h2
          exact cast2 (⟨true, 179, c, true, []⟩, 0) (this.res (Le_tup _ (Le_yn _ _ _ _))) (by first | (simp only [enterY, h0, h1, h2]; done) | (simp only [enterY, h0, h1, h2]; simp; done) | (simp only [enterY, h0]; simp_all; done) | (simp [enterY, h0, h1, h2]; done) | (simp_all [enterY]; done))
        | false =>
          have := ent_4 false n p c d ca l hA (by rw [h0']; rfl) (by rw [h1]; rfl) rfl h2
          exact cast2 (⟨true, -13, c, true, []⟩, 0) (this.res (Le_tup _ (Le_yn _ _ _ _))) (by first | (simp only [enterY, h0, h1, h2]; done) | (simp only [enterY, h0, h1, h2]; simp; done) | (simp only [enterY, h0]; simp_all; done) | (simp [enterY, h0, h1, h2]; done) | (simp_all [enterY]; done))
def leaveY (y : Y) : Y × Int := if y.ok = false then (Y.zero, 1) else if y.i = false then (Y.zero, 12) else (⟨false, 0, y.c, false, []⟩, 0)
theorem leave_c (ca : Option Nat) (y : Y) (hA : y.l.length < 2 ^ 62) : PureC Try.prog 24 [y.an ca] (.tup [(leaveY y).1.fr, it (leaveY y).2]) := by
  obtain ⟨i, p, c, n, l⟩ := y
  cases h0 : Y.ok ⟨i, p, c, n, l⟩ with
  | false =>
    have h0' : chkB i p c n l = false := h0
    have := lve_0 i n p c ca l hA (by rw [h0']; rfl)
    rw [h0'] at this
    exact cast2 (Y.zero, 1) (this.res (Le_tup _ (Le_yn _ _ _ _))) (by first | (simp only [leaveY, h0]; done) | (simp only [leaveY, h0]; simp; done) | (simp only [leaveY, h0]; simp_all; done) | (simp [leaveY, h0]; done) | (simp_all [leaveY]; done))
  | true =>
    have h0' : chkB i p c n l = true := h0
    cases i with
    | false =>
      have := lve_1 false n p c ca l hA (by rw [h0']; rfl) rfl
      exact cast2 (Y.zero, 12) (this.res (Le_tup _ (Le_yn _ _ _ _))) (by first | (simp only [leaveY, h0]; done) | (simp only [leaveY, h0]; simp; done) | (simp only [leaveY, h0]; simp_all; done) | (simp [leaveY, h0]; done) | (simp_all [leaveY]; done))
    | true =>
      have := lve_2 true n p c ca l hA (by rw [h0']; rfl) rfl
      exact cast2 (⟨false, 0, c, false, []⟩, 0) (this.res (Le_tup _ (Le_yn _ _ _ _))) (by first | (simp only [leaveY, h0]; done) | (simp only [leaveY, h0]; simp; done) | (simp only [leaveY, h0]; simp_all; done) | (simp [leaveY, h0]; done) | (simp_all [leaveY]; done))
def goY (y : Y) (q : Int) (m : List Ps) : Y × Int :=
  if y.ok = false then (Y.zero, 1) else if (placeB q && m.all validP) = false then (Y.zero, 1) else if y.i = false then (Y.zero, 12) else if 4096 < (nf (y.l ++ m)).length then (Y.zero, 3) else (⟨true, q, y.c, y.n, nf (y.l ++ m)⟩, 0)
theorem go_c (ca cb : Option Nat) (y : Y) (q : Int) (m : List Ps) (hl : y.l.length ≤ 1000000) (hm : m.length ≤ 1000000) : PureC Try.prog 25 [y.an ca, it q, sl cb m] (.tup [(goY y q m).1.fr, it (goY y q m).2]) := by
  obtain ⟨i, p, c, n, l⟩ := y
  have hl : l.length ≤ 1000000 := hl
  have hlm : (l ++ m).length ≤ 4294967296 := by simp; omega
  have hn := Nat.le_trans (nf_len (l ++ m)) hlm
  have hA : l.length < 2 ^ 62 := by omega
  have hB : m.length < 2 ^ 62 := by omega
  cases h0 : Y.ok ⟨i, p, c, n, l⟩ with
  | false =>
    have h0' : chkB i p c n l = false := h0
    have := go_0 i n p c q ca cb l m hl hm hA hB hlm hn (by rw [h0']; rfl)
    rw [h0'] at this
    exact cast2 (Y.zero, 1) (this.res (Le_tup _ (Le_yn _ _ _ _))) (by first | (simp only [goY, h0]; done) | (simp only [goY, h0]; simp; done) | (simp only [goY, h0]; simp_all; done) | (simp [goY, h0]; done) | (simp_all [goY]; done))
  | true =>
    have h0' : chkB i p c n l = true := h0
    cases h1 : placeB q with
    | false =>
      have := go_1 i n p c q ca cb l m hl hm hA hB hlm hn (by rw [h0']; rfl) (by rw [h1]; rfl)
      exact cast2 (Y.zero, 1) (this.res (Le_tup _ (Le_yn _ _ _ _))) (by first | (simp only [goY, h0, h1]; done) | (simp only [goY, h0, h1]; simp; done) | (simp only [goY, h0]; simp_all; done) | (simp [goY, h0, h1]; done) | (simp_all [goY]; done))
    | true =>
      cases h2 : m.all validP with
      | false =>
        have := go_2 i n p c q ca cb l m hl hm hA hB hlm hn (by rw [h0']; rfl) (by rw [h1]; rfl) (by rw [h2]; rfl)
        exact cast2 (Y.zero, 1) (this.res (Le_tup _ (Le_yn _ _ _ _))) (by first | (simp only [goY, h0, h1, h2]; done) | (simp only [goY, h0, h1, h2]; simp; done) | (simp only [goY, h0]; simp_all; done) | (simp [goY, h0, h1, h2]; done) | (simp_all [goY]; done))
      | true =>
        cases i with
        | false =>
          have := go_3 false n p c q ca cb l m hl hm hA hB hlm hn (by rw [h0']; rfl) (by rw [h1]; rfl) (by rw [h2]; rfl) rfl
          exact cast2 (Y.zero, 12) (this.res (Le_tup _ (Le_yn _ _ _ _))) (by first | (simp only [goY, h0, h1, h2]; done) | (simp only [goY, h0, h1, h2]; simp; done) | (simp only [goY, h0]; simp_all; done) | (simp [goY, h0, h1, h2]; done) | (simp_all [goY]; done))
        | true =>
          by_cases h3 : 4096 < (nf (l ++ m)).length
          · have := go_4 true n p c q ca cb l m hl hm hA hB hlm hn (by rw [h0']; rfl) (by rw [h1]; rfl) (by rw [h2]; rfl) rfl (by simp only [decide_eq_true_eq]; intro _; exact all_noAny _ _) (by simp only [decide_eq_true_eq]; intro _; exact all_noAny _ _) (by simp; omega)
            exact cast2 (Y.zero, 3) (this.res (Le_tup _ (Le_yn _ _ _ _))) (by first | (simp only [goY, h0, h1, h2, h3]; done) | (simp only [goY, h0, h1, h2, h3]; simp; done) | (simp only [goY, h0]; simp_all; done) | (simp [goY, h0, h1, h2, h3]; done) | (simp_all [goY]; done))
          · have := go_5 true n p c q ca cb l m hl hm hA hB hlm hn (by rw [h0']; rfl) (by rw [h1]; rfl) (by rw [h2]; rfl) rfl (by simp only [decide_eq_true_eq]; intro _; exact all_noAny _ _) (by simp only [decide_eq_true_eq]; intro _; exact all_noAny _ _) (by simp; omega) (by rw [map_enc])
            rw [map_enc] at this
            exact cast2 (⟨true, q, c, n, nf (l ++ m)⟩, 0) (this) (by first | (simp only [goY, h0, h1, h2, h3]; done) | (simp only [goY, h0, h1, h2, h3]; simp; done) | (simp only [goY, h0]; simp_all; done) | (simp [goY, h0, h1, h2, h3]; done) | (simp_all [goY]; done))
def makeY (y : Y) : Y × (Int × Bool × List Ps) × Int :=
  if y.ok = false then (Y.zero, (0, false, []), 1) else if y.i = false then (Y.zero, (0, false, []), 12) else if y.c == 2048 then (Y.zero, (0, false, []), 3) else (⟨true, y.p, y.c + 1, false, []⟩, (y.c, y.n, y.l), 0)
abbrev mdn (a : Int) (n : Bool) (pe : AV) : AV := .agg [it a, .atom (.bool n), pe]
abbrev md (m : Int × Bool × List Ps) : AV := mdn m.1 m.2.1 (fr (some m.2.2.length) m.2.2)
theorem Le_md (a : Int) (n : Bool) : Le Try.prog (mdn a n nilp) (md (a, n, [])) := Le.agg (.cons (Le.refl _) (.cons (Le.refl _) (.cons Le_nilF .nil)))
theorem cast3 {f : FuncId} {xs : List AV} {b : Y × (Int × Bool × List Ps) × Int} (a : Y × (Int × Bool × List Ps) × Int) (h : PureC Try.prog f xs (.tup [a.1.fr, md a.2.1, it a.2.2])) (e : b = a) : PureC Try.prog f xs (.tup [b.1.fr, md b.2.1, it b.2.2]) := e ▸ h
theorem make_c (ca : Option Nat) (y : Y) (hA : y.l.length ≤ 4294967296) : PureC Try.prog 26 [y.an ca] (.tup [(makeY y).1.fr, md (makeY y).2.1, it (makeY y).2.2]) := by
  obtain ⟨i, p, c, n, l⟩ := y
  have hA : l.length ≤ 4294967296 := hA
  cases h0 : Y.ok ⟨i, p, c, n, l⟩ with
  | false =>
    have h0' : chkB i p c n l = false := h0
    have := mak_0 i n p c ca l hA (by rw [h0']; rfl)
    rw [h0'] at this
    exact cast3 (Y.zero, (0, false, []), 1) (this.res (Le_tup3 _ (Le_yn _ _ _ _) (Le_md _ _))) (by first | (simp only [makeY, h0]; done) | (simp only [makeY, h0]; simp; done) | (simp only [makeY, h0]; simp_all; done) | (simp [makeY, h0]; done) | (simp_all [makeY]; done))
  | true =>
    have h0' : chkB i p c n l = true := h0
    cases i with
    | false =>
      have := mak_1 false n p c ca l hA (by rw [h0']; rfl) rfl
      exact cast3 (Y.zero, (0, false, []), 12) (this.res (Le_tup3 _ (Le_yn _ _ _ _) (Le_md _ _))) (by first | (simp only [makeY, h0]; done) | (simp only [makeY, h0]; simp; done) | (simp only [makeY, h0]; simp_all; done) | (simp [makeY, h0]; done) | (simp_all [makeY]; done))
    | true =>
      cases h2 : (c == 2048) with
      | true =>
        have := mak_2 true n p c ca l hA (by rw [h0']; rfl) rfl h2
        exact cast3 (Y.zero, (0, false, []), 3) (this.res (Le_tup3 _ (Le_yn _ _ _ _) (Le_md _ _))) (by first | (simp only [makeY, h0, h2]; done) | (simp only [makeY, h0, h2]; simp; done) | (simp only [makeY, h0]; simp_all; done) | (simp [makeY, h0, h2]; done) | (simp_all [makeY]; done))
      | false =>
        have := mak_3 true n p c ca l hA (by rw [h0']; rfl) rfl h2 (by rw [map_enc])
        have hc : 0 ≤ c ∧ c ≤ 2048 := by simp [chkB] at h0'; omega
        rw [map_enc, wrap_id (by omega) (by omega)] at this
        exact cast3 (⟨true, p, c + 1, false, []⟩, (c, n, l), 0) (this.res (Le_tup3 _ (Le_yn _ _ _ _) (Le.refl _))) (by first | (simp only [makeY, h0, h2]; done) | (simp only [makeY, h0, h2]; simp; done) | (simp only [makeY, h0]; simp_all; done) | (simp [makeY, h0, h2]; done) | (simp_all [makeY]; done))
end Tst
end

section
open Go Go.Lf Go.Proofs
namespace Tst
theorem ofP_tt2 {x : Int} (h : 0 ≤ x ∧ x ≤ 255) : turnP (turnP (ofP x)) = ofP x := by
  have h0 : 0 ≤ Int.tmod x 2 := Int.tmod_nonneg _ h.1
  have h1 : Int.tmod x 2 < 2 := Int.tmod_lt_of_pos _ (by decide)
  have : Int.tmod x 2 = 0 ∨ Int.tmod x 2 = 1 := by omega
  rcases this with e | e <;> simp [turnP, ofP, e]
theorem ent5 : PureC Try.prog 23 [yn false 0 5 false nilp, .atom (.int .u8 0)] (.tup [yn true (-13) 5 true (fr (some 0) []), it 0]) := by
  have h := enter_c (some 0) ⟨false, 0, 5, false, []⟩ 0 (by simp)
  have h2 := h.args (xs := [yn false 0 5 false nilp, .atom (.int .u8 0)]) (.cons (yn_nil false false 0 5) (.cons (Le.refl _) .nil))
  exact h2
theorem go1 (cb : Option Nat) (q : Int) (m : List Ps) (hm : m.length ≤ 20) (hq : placeB q = true) (hv : m.all validP = true) : PureC Try.prog 25 [yn true (-13) 5 true (.sl .any 33 (some 0) []), it q, sl cb m] (.tup [yn true q 5 true (fr (some (nf m).length) (nf m)), it 0]) := by
  have h := go_c (some 0) cb ⟨true, -13, 5, true, []⟩ q m (by simp) (by omega)
  have hl := nf_len m
  have e : goY ⟨true, -13, 5, true, []⟩ q m = (⟨true, q, 5, true, nf m⟩, 0) := by
    have e0 : Y.ok ⟨true, -13, 5, true, []⟩ = true := by rfl
    have e1 : ¬ (4096 < (nf m).length) := by omega
    simp only [goY, e0, hq, hv, List.nil_append, e1]
    simp
  rw [e] at h
  exact h
theorem go2 (ca cb : Option Nat) (p q : Int) (l m : List Ps) (hl : l.length ≤ 40) (hm : m.length ≤ 20) (hk : chkB true p 5 true l = true) (hq : placeB q = true) (hv : m.all validP = true) : PureC Try.prog 25 [yn true p 5 true (sl ca l), it q, sl cb m] (.tup [yn true q 5 true (fr (some (nf (l ++ m)).length) (nf (l ++ m))), it 0]) := by
  have h := go_c ca cb ⟨true, p, 5, true, l⟩ q m (by show l.length ≤ _; omega) (by omega)
  have hn := nf_len (l ++ m)
  rw [List.length_append] at hn
  have e : goY ⟨true, p, 5, true, l⟩ q m = (⟨true, q, 5, true, nf (l ++ m)⟩, 0) := by
    have e0 : Y.ok ⟨true, p, 5, true, l⟩ = true := hk
    have e1 : ¬ (4096 < (nf (l ++ m)).length) := by omega
    simp only [goY, e0, hq, hv, e1]
    simp
  rw [e] at h
  exact h
end Tst
end

section
open Go Go.Lf Go.Proofs
namespace Tst
set_option maxHeartbeats 0
abbrev plc (u : Int) : Int := IntKind.wrap IntKind.i64 ((-13 : Int) + IntKind.wrap IntKind.i64 ((2 : Int) * IntKind.wrap IntKind.i64 (Int.tmod u (97 : Int))))
theorem yb_0 (ca cb : Option Nat) (a b : List Int) (u v : Int) (x1 : decide ((20 : Int) < ((List.length (List.map u8 a) : Nat) : Int)) = false) (x2 : decide ((20 : Int) < ((List.length (List.map u8 b) : Nat) : Int)) = false) (hpu : placeB (plc u) = true) (hpv : placeB (plc v) = true) (la : (List.map ofP a).length ≤ 20) (lb : (List.map ofP b).length ≤ 20) (la' : a.length ≤ 4294967296) (lb' : b.length ≤ 4294967296) (lbr : (List.map turnP (List.reverse (List.map ofP b))).length ≤ 20) (va : (List.map ofP a).all validP = true) (vb : (List.map ofP b).all validP = true) (vbi : (List.map turnP (List.reverse (List.map ofP b))).all validP = true) (k1 : chkB true (plc u) 5 true (nf (List.map ofP a)) = true) (k2 : chkB true (plc v) 5 true (nf (nf (List.map ofP a) ++ List.map ofP b)) = true) (l1 : (nf (List.map ofP a)).length ≤ 40) (l2 : (nf (nf (List.map ofP a) ++ List.map ofP b)).length ≤ 40) (hback : nf (nf (nf (List.map ofP a) ++ List.map ofP b) ++ List.map turnP (List.reverse (List.map ofP b))) = nf (List.map ofP a)) (l3 : (nf (nf (nf (List.map ofP a) ++ List.map ofP b) ++ List.map turnP (List.reverse (List.map ofP b)))).length < 2 ^ 62) (e10 : (plc u == plc u) = true) (e11 : (plc v == plc v) = true) (g0 : decide ((20 : Int) < (↑(List.length (List.map u8 a)) : Int)) = false) (g1 : decide ((20 : Int) < (↑(List.length (List.map u8 b)) : Int)) = false) (g2 : AV.agg [AV.atom (Value.bool true), AV.atom (Value.int IntKind.i64 (-13 : Int)), AV.atom (Value.int IntKind.i64 (5 : Int)), AV.atom (Value.bool true), AV.sl Mode.fresh (nat_lit 33) (some (nat_lit 0)) []] = AV.agg [AV.atom (Value.bool true), AV.atom (Value.int IntKind.i64 (-13 : Int)), AV.atom (Value.int IntKind.i64 (5 : Int)), AV.atom (Value.bool true), AV.sl Mode.fresh (nat_lit 33) (some (nat_lit 0)) (List.map Ps.enc [])]) (g3 : decide ((false || (false || (true || false))) = true → noAny (12 : Nat) (AV.tup [AV.agg [AV.atom (Value.bool true), AV.atom (Value.int IntKind.i64 (IntKind.wrap IntKind.i64 ((-13 : Int) + IntKind.wrap IntKind.i64 ((2 : Int) * IntKind.wrap IntKind.i64 (Int.tmod u (97 : Int)))))), AV.atom (Value.int IntKind.i64 (5 : Int)), AV.atom (Value.bool true), AV.sl Mode.fresh (nat_lit 33) (some (List.length (nf (List.map ofP a)))) (List.map Ps.enc (nf (List.map ofP a)))], AV.atom (Value.int IntKind.i64 (0 : Int))]) = true) = true) (g4 : AV.agg [AV.atom (Value.bool true), AV.atom (Value.int IntKind.i64 (IntKind.wrap IntKind.i64 ((-13 : Int) + IntKind.wrap IntKind.i64 ((2 : Int) * IntKind.wrap IntKind.i64 (Int.tmod u (97 : Int)))))), AV.atom (Value.int IntKind.i64 (5 : Int)), AV.atom (Value.bool true), AV.sl Mode.fresh (nat_lit 33) (some (List.length (nf (List.map ofP a)))) (List.map (mapE (remode shareM (10 : Nat))) (List.map Ps.enc (nf (List.map ofP a))))] = AV.agg [AV.atom (Value.bool true), AV.atom (Value.int IntKind.i64 (IntKind.wrap IntKind.i64 ((-13 : Int) + IntKind.wrap IntKind.i64 ((2 : Int) * IntKind.wrap IntKind.i64 (Int.tmod u (97 : Int)))))), AV.atom (Value.int IntKind.i64 (5 : Int)), AV.atom (Value.bool true), AV.sl Mode.fresh (nat_lit 33) (some (List.length (nf (List.map ofP a)))) (List.map Ps.enc (nf (List.map ofP a)))]) (g5 : decide ((false || (false || (true || false))) = true → noAny (12 : Nat) (AV.tup [AV.agg [AV.atom (Value.bool true), AV.atom (Value.int IntKind.i64 (IntKind.wrap IntKind.i64 ((-13 : Int) + IntKind.wrap IntKind.i64 ((2 : Int) * IntKind.wrap IntKind.i64 (Int.tmod v (97 : Int)))))), AV.atom (Value.int IntKind.i64 (5 : Int)), AV.atom (Value.bool true), AV.sl Mode.fresh (nat_lit 33) (some (List.length (nf (nf (List.map ofP a) ++ List.map ofP b)))) (List.map Ps.enc (nf (nf (List.map ofP a) ++ List.map ofP b)))], AV.atom (Value.int IntKind.i64 (0 : Int))]) = true) = true) (g6 : AV.agg [AV.atom (Value.bool true), AV.atom (Value.int IntKind.i64 (IntKind.wrap IntKind.i64 ((-13 : Int) + IntKind.wrap IntKind.i64 ((2 : Int) * IntKind.wrap IntKind.i64 (Int.tmod v (97 : Int)))))), AV.atom (Value.int IntKind.i64 (5 : Int)), AV.atom (Value.bool true), AV.sl Mode.fresh (nat_lit 33) (some (List.length (nf (nf (List.map ofP a) ++ List.map ofP b)))) (List.map (mapE (remode shareM (10 : Nat))) (List.map Ps.enc (nf (nf (List.map ofP a) ++ List.map ofP b))))] = AV.agg [AV.atom (Value.bool true), AV.atom (Value.int IntKind.i64 (IntKind.wrap IntKind.i64 ((-13 : Int) + IntKind.wrap IntKind.i64 ((2 : Int) * IntKind.wrap IntKind.i64 (Int.tmod v (97 : Int)))))), AV.atom (Value.int IntKind.i64 (5 : Int)), AV.atom (Value.bool true), AV.sl Mode.fresh (nat_lit 33) (some (List.length (nf (nf (List.map ofP a) ++ List.map ofP b)))) (List.map Ps.enc (nf (nf (List.map ofP a) ++ List.map ofP b)))]) (g7 : decide ((true || false) = true → noAny (12 : Nat) (AV.sl Mode.own (nat_lit 33) (some (List.length (List.map ofP b))) (List.map Ps.enc (List.map turnP (List.reverse (List.map ofP b))))) = true) = true) (g8 : decide ((false || (false || (true || false))) = true → noAny (12 : Nat) (AV.tup [AV.agg [AV.atom (Value.bool true), AV.atom (Value.int IntKind.i64 (IntKind.wrap IntKind.i64 ((-13 : Int) + IntKind.wrap IntKind.i64 ((2 : Int) * IntKind.wrap IntKind.i64 (Int.tmod u (97 : Int)))))), AV.atom (Value.int IntKind.i64 (5 : Int)), AV.atom (Value.bool true), AV.sl Mode.fresh (nat_lit 33) (some (List.length (nf (nf (nf (List.map ofP a) ++ List.map ofP b) ++ List.map turnP (List.reverse (List.map ofP b)))))) (List.map Ps.enc (nf (nf (nf (List.map ofP a) ++ List.map ofP b) ++ List.map turnP (List.reverse (List.map ofP b)))))], AV.atom (Value.int IntKind.i64 (0 : Int))]) = true) = true) (g9 : AV.agg [AV.atom (Value.bool true), AV.atom (Value.int IntKind.i64 (IntKind.wrap IntKind.i64 ((-13 : Int) + IntKind.wrap IntKind.i64 ((2 : Int) * IntKind.wrap IntKind.i64 (Int.tmod u (97 : Int)))))), AV.atom (Value.int IntKind.i64 (5 : Int)), AV.atom (Value.bool true), AV.sl Mode.fresh (nat_lit 33) (some (List.length (nf (nf (nf (List.map ofP a) ++ List.map ofP b) ++ List.map turnP (List.reverse (List.map ofP b)))))) (List.map (mapE (remode shareM (10 : Nat))) (List.map Ps.enc (nf (nf (nf (List.map ofP a) ++ List.map ofP b) ++ List.map turnP (List.reverse (List.map ofP b))))))] = AV.agg [AV.atom (Value.bool true), AV.atom (Value.int IntKind.i64 (IntKind.wrap IntKind.i64 ((-13 : Int) + IntKind.wrap IntKind.i64 ((2 : Int) * IntKind.wrap IntKind.i64 (Int.tmod u (97 : Int)))))), AV.atom (Value.int IntKind.i64 (5 : Int)), AV.atom (Value.bool true), AV.sl Mode.fresh (nat_lit 33) (some (List.length (nf (nf (nf (List.map ofP a) ++ List.map ofP b) ++ List.map turnP (List.reverse (List.map ofP b)))))) (List.map Ps.enc (nf (nf (nf (List.map ofP a) ++ List.map ofP b) ++ List.map turnP (List.reverse (List.map ofP b)))))]) (g10 : (IntKind.wrap IntKind.i64 ((-13 : Int) + IntKind.wrap IntKind.i64 ((2 : Int) * IntKind.wrap IntKind.i64 (Int.tmod u (97 : Int)))) == IntKind.wrap IntKind.i64 ((-13 : Int) + IntKind.wrap IntKind.i64 ((2 : Int) * IntKind.wrap IntKind.i64 (Int.tmod u (97 : Int))))) = true) (g11 : (IntKind.wrap IntKind.i64 ((-13 : Int) + IntKind.wrap IntKind.i64 ((2 : Int) * IntKind.wrap IntKind.i64 (Int.tmod v (97 : Int)))) == IntKind.wrap IntKind.i64 ((-13 : Int) + IntKind.wrap IntKind.i64 ((2 : Int) * IntKind.wrap IntKind.i64 (Int.tmod v (97 : Int))))) = true) : PureC Try.prog 6 [pl ca a, pl cb b, .agg [.atom (.int .u8 u), .atom (.int .u8 v)]]  (AV.atom (Value.bool true)) :=
  funA_ok (H := h6) (n := 109) (ans := [Ans.c, Ans.c, Ans.c, Ans.c, Ans.c, Ans.c, Ans.b false, Ans.c, Ans.b false, Ans.c, Ans.b false, Ans.c, Ans.b false, Ans.c, Ans.b false, Ans.c, Ans.c, Ans.c, Ans.c, Ans.c, Ans.c, Ans.c, Ans.c, Ans.c, Ans.c, Ans.c, Ans.c, Ans.c, Ans.c, Ans.c, Ans.r (AV.tup [AV.agg [AV.atom (Value.bool true), AV.atom (Value.int IntKind.i64 (-13 : Int)), AV.atom (Value.int IntKind.i64 (5 : Int)), AV.atom (Value.bool true), AV.sl Mode.fresh (nat_lit 33) (some (nat_lit 0)) []], AV.atom (Value.int IntKind.i64 (0 : Int))]), Ans.c, Ans.c, Ans.c, Ans.r (AV.agg [AV.atom (Value.bool true), AV.atom (Value.int IntKind.i64 (-13 : Int)), AV.atom (Value.int IntKind.i64 (5 : Int)), AV.atom (Value.bool true), AV.sl Mode.fresh (nat_lit 33) (some (nat_lit 0)) (List.map Ps.enc [])]), Ans.c, Ans.c, Ans.c, Ans.c, Ans.c, Ans.c, Ans.c, Ans.c, Ans.c, Ans.c, Ans.r (AV.sl Mode.any (nat_lit 89) ca (List.map u8 a)), Ans.r (AV.sl Mode.own (nat_lit 33) none (List.map Ps.enc (List.map ofP a))), Ans.c, Ans.c, Ans.r (AV.sl Mode.any (nat_lit 33) none (List.map Ps.enc (List.map ofP a))), Ans.r (AV.tup [AV.agg [AV.atom (Value.bool true), AV.atom (Value.int IntKind.i64 (IntKind.wrap IntKind.i64 ((-13 : Int) + IntKind.wrap IntKind.i64 ((2 : Int) * IntKind.wrap IntKind.i64 (Int.tmod u (97 : Int)))))), AV.atom (Value.int IntKind.i64 (5 : Int)), AV.atom (Value.bool true), AV.sl Mode.fresh (nat_lit 33) (some (List.length (nf (List.map ofP a)))) (List.map Ps.enc (nf (List.map ofP a)))], AV.atom (Value.int IntKind.i64 (0 : Int))]), Ans.b true, Ans.c, Ans.c, Ans.r (AV.agg [AV.atom (Value.bool true), AV.atom (Value.int IntKind.i64 (IntKind.wrap IntKind.i64 ((-13 : Int) + IntKind.wrap IntKind.i64 ((2 : Int) * IntKind.wrap IntKind.i64 (Int.tmod u (97 : Int)))))), AV.atom (Value.int IntKind.i64 (5 : Int)), AV.atom (Value.bool true), AV.sl Mode.fresh (nat_lit 33) (some (List.length (nf (List.map ofP a)))) (List.map Ps.enc (nf (List.map ofP a)))]), Ans.c, Ans.c, Ans.c, Ans.c, Ans.c, Ans.c, Ans.r (AV.sl Mode.any (nat_lit 89) cb (List.map u8 b)), Ans.r (AV.sl Mode.own (nat_lit 33) none (List.map Ps.enc (List.map ofP b))), Ans.c, Ans.c, Ans.r (AV.sl Mode.any (nat_lit 33) none (List.map Ps.enc (List.map ofP b))), Ans.r (AV.tup [AV.agg [AV.atom (Value.bool true), AV.atom (Value.int IntKind.i64 (IntKind.wrap IntKind.i64 ((-13 : Int) + IntKind.wrap IntKind.i64 ((2 : Int) * IntKind.wrap IntKind.i64 (Int.tmod v (97 : Int)))))), AV.atom (Value.int IntKind.i64 (5 : Int)), AV.atom (Value.bool true), AV.sl Mode.fresh (nat_lit 33) (some (List.length (nf (nf (List.map ofP a) ++ List.map ofP b)))) (List.map Ps.enc (nf (nf (List.map ofP a) ++ List.map ofP b)))], AV.atom (Value.int IntKind.i64 (0 : Int))]), Ans.b true, Ans.c, Ans.c, Ans.r (AV.agg [AV.atom (Value.bool true), AV.atom (Value.int IntKind.i64 (IntKind.wrap IntKind.i64 ((-13 : Int) + IntKind.wrap IntKind.i64 ((2 : Int) * IntKind.wrap IntKind.i64 (Int.tmod v (97 : Int)))))), AV.atom (Value.int IntKind.i64 (5 : Int)), AV.atom (Value.bool true), AV.sl Mode.fresh (nat_lit 33) (some (List.length (nf (nf (List.map ofP a) ++ List.map ofP b)))) (List.map Ps.enc (nf (nf (List.map ofP a) ++ List.map ofP b)))]), Ans.c, Ans.c, Ans.c, Ans.c, Ans.c, Ans.c, Ans.c, Ans.r (AV.sl Mode.any (nat_lit 89) cb (List.map u8 b)), Ans.r (AV.sl Mode.own (nat_lit 33) none (List.map Ps.enc (List.map ofP b))), Ans.c, Ans.c, Ans.r (AV.sl Mode.any (nat_lit 33) none (List.map Ps.enc (List.map ofP b))), Ans.r (AV.sl Mode.own (nat_lit 33) (some (List.length (List.map ofP b))) (List.map Ps.enc (List.map turnP (List.reverse (List.map ofP b))))), Ans.b true, Ans.c, Ans.r (AV.sl Mode.any (nat_lit 33) (some (List.length (List.map ofP b))) (List.map Ps.enc (List.map turnP (List.reverse (List.map ofP b))))), Ans.r (AV.tup [AV.agg [AV.atom (Value.bool true), AV.atom (Value.int IntKind.i64 (IntKind.wrap IntKind.i64 ((-13 : Int) + IntKind.wrap IntKind.i64 ((2 : Int) * IntKind.wrap IntKind.i64 (Int.tmod u (97 : Int)))))), AV.atom (Value.int IntKind.i64 (5 : Int)), AV.atom (Value.bool true), AV.sl Mode.fresh (nat_lit 33) (some (List.length (nf (nf (nf (List.map ofP a) ++ List.map ofP b) ++ List.map turnP (List.reverse (List.map ofP b)))))) (List.map Ps.enc (nf (nf (nf (List.map ofP a) ++ List.map ofP b) ++ List.map turnP (List.reverse (List.map ofP b)))))], AV.atom (Value.int IntKind.i64 (0 : Int))]), Ans.b true, Ans.c, Ans.c, Ans.r (AV.agg [AV.atom (Value.bool true), AV.atom (Value.int IntKind.i64 (IntKind.wrap IntKind.i64 ((-13 : Int) + IntKind.wrap IntKind.i64 ((2 : Int) * IntKind.wrap IntKind.i64 (Int.tmod u (97 : Int)))))), AV.atom (Value.int IntKind.i64 (5 : Int)), AV.atom (Value.bool true), AV.sl Mode.fresh (nat_lit 33) (some (List.length (nf (nf (nf (List.map ofP a) ++ List.map ofP b) ++ List.map turnP (List.reverse (List.map ofP b)))))) (List.map Ps.enc (nf (nf (nf (List.map ofP a) ++ List.map ofP b) ++ List.map turnP (List.reverse (List.map ofP b)))))]), Ans.c, Ans.c, Ans.c, Ans.c, Ans.c, Ans.c, Ans.c, Ans.c, Ans.c, Ans.c, Ans.c, Ans.c, Ans.c, Ans.c, Ans.c, Ans.c, Ans.c, Ans.c, Ans.c, Ans.c, Ans.c, Ans.c, Ans.c, Ans.c, Ans.c, Ans.c, Ans.c, Ans.b true, Ans.c, Ans.b true, Ans.c, Ans.b true, Ans.c, Ans.b true, Ans.c, Ans.c, Ans.c, Ans.c, Ans.c, Ans.c, Ans.c, Ans.c, Ans.c, Ans.c, Ans.c, Ans.c, Ans.c, Ans.c, Ans.c, Ans.c, Ans.c, Ans.c, Ans.c, Ans.c, Ans.b true, Ans.c, Ans.b true, Ans.c, Ans.b true, Ans.c, Ans.b true, Ans.c, Ans.b true, Ans.r (AV.sl Mode.any (nat_lit 33) (some (List.length (nf (nf (nf (List.map ofP a) ++ List.map ofP b) ++ List.map turnP (List.reverse (List.map ofP b)))))) (List.map Ps.enc (nf (nf (nf (List.map ofP a) ++ List.map ofP b) ++ List.map turnP (List.reverse (List.map ofP b)))))), Ans.r (AV.sl Mode.any (nat_lit 33) (some (List.length (nf (List.map ofP a)))) (List.map Ps.enc (nf (List.map ofP a)))), Ans.r (AV.atom (Value.int IntKind.i64 (1 : Int))), Ans.c, Ans.c, Ans.b true, Ans.c, Ans.b true, Ans.c, Ans.c, Ans.c, Ans.r (AV.atom (Value.bool true)), Ans.c, Ans.c, Ans.c, Ans.c, Ans.c]) (ps := [decide ((20 : Int) < (↑(List.length (List.map u8 a)) : Int)) = false, decide ((20 : Int) < (↑(List.length (List.map u8 a)) : Int)) = false, decide ((20 : Int) < (↑(List.length (List.map u8 a)) : Int)) = false, decide ((20 : Int) < (↑(List.length (List.map u8 a)) : Int)) = false, decide ((20 : Int) < (↑(List.length (List.map u8 b)) : Int)) = false, PureC Try.prog (nat_lit 23) [AV.agg [AV.atom (Value.bool false), AV.atom (Value.int IntKind.i64 (0 : Int)), AV.atom (Value.int IntKind.i64 (5 : Int)), AV.atom (Value.bool false), AV.atom (Value.slice none (nat_lit 0) (nat_lit 0))], AV.atom (Value.int IntKind.u8 (0 : Int))] (AV.tup [AV.agg [AV.atom (Value.bool true), AV.atom (Value.int IntKind.i64 (-13 : Int)), AV.atom (Value.int IntKind.i64 (5 : Int)), AV.atom (Value.bool true), AV.sl Mode.fresh (nat_lit 33) (some (nat_lit 0)) []], AV.atom (Value.int IntKind.i64 (0 : Int))]), AV.agg [AV.atom (Value.bool true), AV.atom (Value.int IntKind.i64 (-13 : Int)), AV.atom (Value.int IntKind.i64 (5 : Int)), AV.atom (Value.bool true), AV.sl Mode.fresh (nat_lit 33) (some (nat_lit 0)) []] = AV.agg [AV.atom (Value.bool true), AV.atom (Value.int IntKind.i64 (-13 : Int)), AV.atom (Value.int IntKind.i64 (5 : Int)), AV.atom (Value.bool true), AV.sl Mode.fresh (nat_lit 33) (some (nat_lit 0)) (List.map Ps.enc [])], view (AV.sl Mode.any (nat_lit 89) ca (List.map u8 a)) = AV.sl Mode.any (nat_lit 89) ca (List.map u8 a), PureC Try.prog (nat_lit 16) [AV.sl Mode.any (nat_lit 89) ca (List.map u8 a)] (AV.sl Mode.own (nat_lit 33) none (List.map Ps.enc (List.map ofP a))), view (AV.sl Mode.own (nat_lit 33) none (List.map Ps.enc (List.map ofP a))) = AV.sl Mode.any (nat_lit 33) none (List.map Ps.enc (List.map ofP a)), PureC Try.prog (nat_lit 25) [view (AV.agg [AV.atom (Value.bool true), AV.atom (Value.int IntKind.i64 (-13 : Int)), AV.atom (Value.int IntKind.i64 (5 : Int)), AV.atom (Value.bool true), AV.sl Mode.fresh (nat_lit 33) (some (nat_lit 0)) []]), AV.atom (Value.int IntKind.i64 (IntKind.wrap IntKind.i64 ((-13 : Int) + IntKind.wrap IntKind.i64 ((2 : Int) * IntKind.wrap IntKind.i64 (Int.tmod u (97 : Int)))))), AV.sl Mode.any (nat_lit 33) none (List.map Ps.enc (List.map ofP a))] (AV.tup [AV.agg [AV.atom (Value.bool true), AV.atom (Value.int IntKind.i64 (IntKind.wrap IntKind.i64 ((-13 : Int) + IntKind.wrap IntKind.i64 ((2 : Int) * IntKind.wrap IntKind.i64 (Int.tmod u (97 : Int)))))), AV.atom (Value.int IntKind.i64 (5 : Int)), AV.atom (Value.bool true), AV.sl Mode.fresh (nat_lit 33) (some (List.length (nf (List.map ofP a)))) (List.map Ps.enc (nf (List.map ofP a)))], AV.atom (Value.int IntKind.i64 (0 : Int))]), decide ((false || (false || (true || false))) = true → noAny (12 : Nat) (AV.tup [AV.agg [AV.atom (Value.bool true), AV.atom (Value.int IntKind.i64 (IntKind.wrap IntKind.i64 ((-13 : Int) + IntKind.wrap IntKind.i64 ((2 : Int) * IntKind.wrap IntKind.i64 (Int.tmod u (97 : Int)))))), AV.atom (Value.int IntKind.i64 (5 : Int)), AV.atom (Value.bool true), AV.sl Mode.fresh (nat_lit 33) (some (List.length (nf (List.map ofP a)))) (List.map Ps.enc (nf (List.map ofP a)))], AV.atom (Value.int IntKind.i64 (0 : Int))]) = true) = true, AV.agg [AV.atom (Value.bool true), AV.atom (Value.int IntKind.i64 (IntKind.wrap IntKind.i64 ((-13 : Int) + IntKind.wrap IntKind.i64 ((2 : Int) * IntKind.wrap IntKind.i64 (Int.tmod u (97 : Int)))))), AV.atom (Value.int IntKind.i64 (5 : Int)), AV.atom (Value.bool true), AV.sl Mode.fresh (nat_lit 33) (some (List.length (nf (List.map ofP a)))) (List.map (mapE (remode shareM (10 : Nat))) (List.map Ps.enc (nf (List.map ofP a))))] = AV.agg [AV.atom (Value.bool true), AV.atom (Value.int IntKind.i64 (IntKind.wrap IntKind.i64 ((-13 : Int) + IntKind.wrap IntKind.i64 ((2 : Int) * IntKind.wrap IntKind.i64 (Int.tmod u (97 : Int)))))), AV.atom (Value.int IntKind.i64 (5 : Int)), AV.atom (Value.bool true), AV.sl Mode.fresh (nat_lit 33) (some (List.length (nf (List.map ofP a)))) (List.map Ps.enc (nf (List.map ofP a)))], view (AV.sl Mode.any (nat_lit 89) cb (List.map u8 b)) = AV.sl Mode.any (nat_lit 89) cb (List.map u8 b), PureC Try.prog (nat_lit 16) [AV.sl Mode.any (nat_lit 89) cb (List.map u8 b)] (AV.sl Mode.own (nat_lit 33) none (List.map Ps.enc (List.map ofP b))), view (AV.sl Mode.own (nat_lit 33) none (List.map Ps.enc (List.map ofP b))) = AV.sl Mode.any (nat_lit 33) none (List.map Ps.enc (List.map ofP b)), PureC Try.prog (nat_lit 25) [view (AV.agg [AV.atom (Value.bool true), AV.atom (Value.int IntKind.i64 (IntKind.wrap IntKind.i64 ((-13 : Int) + IntKind.wrap IntKind.i64 ((2 : Int) * IntKind.wrap IntKind.i64 (Int.tmod u (97 : Int)))))), AV.atom (Value.int IntKind.i64 (5 : Int)), AV.atom (Value.bool true), AV.sl Mode.fresh (nat_lit 33) (some (List.length (nf (List.map ofP a)))) (List.map Ps.enc (nf (List.map ofP a)))]), AV.atom (Value.int IntKind.i64 (IntKind.wrap IntKind.i64 ((-13 : Int) + IntKind.wrap IntKind.i64 ((2 : Int) * IntKind.wrap IntKind.i64 (Int.tmod v (97 : Int)))))), AV.sl Mode.any (nat_lit 33) none (List.map Ps.enc (List.map ofP b))] (AV.tup [AV.agg [AV.atom (Value.bool true), AV.atom (Value.int IntKind.i64 (IntKind.wrap IntKind.i64 ((-13 : Int) + IntKind.wrap IntKind.i64 ((2 : Int) * IntKind.wrap IntKind.i64 (Int.tmod v (97 : Int)))))), AV.atom (Value.int IntKind.i64 (5 : Int)), AV.atom (Value.bool true), AV.sl Mode.fresh (nat_lit 33) (some (List.length (nf (nf (List.map ofP a) ++ List.map ofP b)))) (List.map Ps.enc (nf (nf (List.map ofP a) ++ List.map ofP b)))], AV.atom (Value.int IntKind.i64 (0 : Int))]), decide ((false || (false || (true || false))) = true → noAny (12 : Nat) (AV.tup [AV.agg [AV.atom (Value.bool true), AV.atom (Value.int IntKind.i64 (IntKind.wrap IntKind.i64 ((-13 : Int) + IntKind.wrap IntKind.i64 ((2 : Int) * IntKind.wrap IntKind.i64 (Int.tmod v (97 : Int)))))), AV.atom (Value.int IntKind.i64 (5 : Int)), AV.atom (Value.bool true), AV.sl Mode.fresh (nat_lit 33) (some (List.length (nf (nf (List.map ofP a) ++ List.map ofP b)))) (List.map Ps.enc (nf (nf (List.map ofP a) ++ List.map ofP b)))], AV.atom (Value.int IntKind.i64 (0 : Int))]) = true) = true, AV.agg [AV.atom (Value.bool true), AV.atom (Value.int IntKind.i64 (IntKind.wrap IntKind.i64 ((-13 : Int) + IntKind.wrap IntKind.i64 ((2 : Int) * IntKind.wrap IntKind.i64 (Int.tmod v (97 : Int)))))), AV.atom (Value.int IntKind.i64 (5 : Int)), AV.atom (Value.bool true), AV.sl Mode.fresh (nat_lit 33) (some (List.length (nf (nf (List.map ofP a) ++ List.map ofP b)))) (List.map (mapE (remode shareM (10 : Nat))) (List.map Ps.enc (nf (nf (List.map ofP a) ++ List.map ofP b))))] = AV.agg [AV.atom (Value.bool true), AV.atom (Value.int IntKind.i64 (IntKind.wrap IntKind.i64 ((-13 : Int) + IntKind.wrap IntKind.i64 ((2 : Int) * IntKind.wrap IntKind.i64 (Int.tmod v (97 : Int)))))), AV.atom (Value.int IntKind.i64 (5 : Int)), AV.atom (Value.bool true), AV.sl Mode.fresh (nat_lit 33) (some (List.length (nf (nf (List.map ofP a) ++ List.map ofP b)))) (List.map Ps.enc (nf (nf (List.map ofP a) ++ List.map ofP b)))], view (AV.sl Mode.any (nat_lit 89) cb (List.map u8 b)) = AV.sl Mode.any (nat_lit 89) cb (List.map u8 b), PureC Try.prog (nat_lit 16) [AV.sl Mode.any (nat_lit 89) cb (List.map u8 b)] (AV.sl Mode.own (nat_lit 33) none (List.map Ps.enc (List.map ofP b))), view (AV.sl Mode.own (nat_lit 33) none (List.map Ps.enc (List.map ofP b))) = AV.sl Mode.any (nat_lit 33) none (List.map Ps.enc (List.map ofP b)), PureC Try.prog (nat_lit 22) [AV.sl Mode.any (nat_lit 33) none (List.map Ps.enc (List.map ofP b))] (AV.sl Mode.own (nat_lit 33) (some (List.length (List.map ofP b))) (List.map Ps.enc (List.map turnP (List.reverse (List.map ofP b))))), decide ((true || false) = true → noAny (12 : Nat) (AV.sl Mode.own (nat_lit 33) (some (List.length (List.map ofP b))) (List.map Ps.enc (List.map turnP (List.reverse (List.map ofP b))))) = true) = true, view (AV.sl Mode.own (nat_lit 33) (some (List.length (List.map ofP b))) (List.map Ps.enc (List.map turnP (List.reverse (List.map ofP b))))) = AV.sl Mode.any (nat_lit 33) (some (List.length (List.map ofP b))) (List.map Ps.enc (List.map turnP (List.reverse (List.map ofP b)))), PureC Try.prog (nat_lit 25) [view (AV.agg [AV.atom (Value.bool true), AV.atom (Value.int IntKind.i64 (IntKind.wrap IntKind.i64 ((-13 : Int) + IntKind.wrap IntKind.i64 ((2 : Int) * IntKind.wrap IntKind.i64 (Int.tmod v (97 : Int)))))), AV.atom (Value.int IntKind.i64 (5 : Int)), AV.atom (Value.bool true), AV.sl Mode.fresh (nat_lit 33) (some (List.length (nf (nf (List.map ofP a) ++ List.map ofP b)))) (List.map Ps.enc (nf (nf (List.map ofP a) ++ List.map ofP b)))]), AV.atom (Value.int IntKind.i64 (IntKind.wrap IntKind.i64 ((-13 : Int) + IntKind.wrap IntKind.i64 ((2 : Int) * IntKind.wrap IntKind.i64 (Int.tmod u (97 : Int)))))), AV.sl Mode.any (nat_lit 33) (some (List.length (List.map ofP b))) (List.map Ps.enc (List.map turnP (List.reverse (List.map ofP b))))] (AV.tup [AV.agg [AV.atom (Value.bool true), AV.atom (Value.int IntKind.i64 (IntKind.wrap IntKind.i64 ((-13 : Int) + IntKind.wrap IntKind.i64 ((2 : Int) * IntKind.wrap IntKind.i64 (Int.tmod u (97 : Int)))))), AV.atom (Value.int IntKind.i64 (5 : Int)), AV.atom (Value.bool true), AV.sl Mode.fresh (nat_lit 33) (some (List.length (nf (nf (nf (List.map ofP a) ++ List.map ofP b) ++ List.map turnP (List.reverse (List.map ofP b)))))) (List.map Ps.enc (nf (nf (nf (List.map ofP a) ++ List.map ofP b) ++ List.map turnP (List.reverse (List.map ofP b)))))], AV.atom (Value.int IntKind.i64 (0 : Int))]), decide ((false || (false || (true || false))) = true → noAny (12 : Nat) (AV.tup [AV.agg [AV.atom (Value.bool true), AV.atom (Value.int IntKind.i64 (IntKind.wrap IntKind.i64 ((-13 : Int) + IntKind.wrap IntKind.i64 ((2 : Int) * IntKind.wrap IntKind.i64 (Int.tmod u (97 : Int)))))), AV.atom (Value.int IntKind.i64 (5 : Int)), AV.atom (Value.bool true), AV.sl Mode.fresh (nat_lit 33) (some (List.length (nf (nf (nf (List.map ofP a) ++ List.map ofP b) ++ List.map turnP (List.reverse (List.map ofP b)))))) (List.map Ps.enc (nf (nf (nf (List.map ofP a) ++ List.map ofP b) ++ List.map turnP (List.reverse (List.map ofP b)))))], AV.atom (Value.int IntKind.i64 (0 : Int))]) = true) = true, AV.agg [AV.atom (Value.bool true), AV.atom (Value.int IntKind.i64 (IntKind.wrap IntKind.i64 ((-13 : Int) + IntKind.wrap IntKind.i64 ((2 : Int) * IntKind.wrap IntKind.i64 (Int.tmod u (97 : Int)))))), AV.atom (Value.int IntKind.i64 (5 : Int)), AV.atom (Value.bool true), AV.sl Mode.fresh (nat_lit 33) (some (List.length (nf (nf (nf (List.map ofP a) ++ List.map ofP b) ++ List.map turnP (List.reverse (List.map ofP b)))))) (List.map (mapE (remode shareM (10 : Nat))) (List.map Ps.enc (nf (nf (nf (List.map ofP a) ++ List.map ofP b) ++ List.map turnP (List.reverse (List.map ofP b))))))] = AV.agg [AV.atom (Value.bool true), AV.atom (Value.int IntKind.i64 (IntKind.wrap IntKind.i64 ((-13 : Int) + IntKind.wrap IntKind.i64 ((2 : Int) * IntKind.wrap IntKind.i64 (Int.tmod u (97 : Int)))))), AV.atom (Value.int IntKind.i64 (5 : Int)), AV.atom (Value.bool true), AV.sl Mode.fresh (nat_lit 33) (some (List.length (nf (nf (nf (List.map ofP a) ++ List.map ofP b) ++ List.map turnP (List.reverse (List.map ofP b)))))) (List.map Ps.enc (nf (nf (nf (List.map ofP a) ++ List.map ofP b) ++ List.map turnP (List.reverse (List.map ofP b)))))], (IntKind.wrap IntKind.i64 ((-13 : Int) + IntKind.wrap IntKind.i64 ((2 : Int) * IntKind.wrap IntKind.i64 (Int.tmod u (97 : Int)))) == IntKind.wrap IntKind.i64 ((-13 : Int) + IntKind.wrap IntKind.i64 ((2 : Int) * IntKind.wrap IntKind.i64 (Int.tmod u (97 : Int))))) = true, (IntKind.wrap IntKind.i64 ((-13 : Int) + IntKind.wrap IntKind.i64 ((2 : Int) * IntKind.wrap IntKind.i64 (Int.tmod u (97 : Int)))) == IntKind.wrap IntKind.i64 ((-13 : Int) + IntKind.wrap IntKind.i64 ((2 : Int) * IntKind.wrap IntKind.i64 (Int.tmod u (97 : Int))))) = true, (IntKind.wrap IntKind.i64 ((-13 : Int) + IntKind.wrap IntKind.i64 ((2 : Int) * IntKind.wrap IntKind.i64 (Int.tmod u (97 : Int)))) == IntKind.wrap IntKind.i64 ((-13 : Int) + IntKind.wrap IntKind.i64 ((2 : Int) * IntKind.wrap IntKind.i64 (Int.tmod u (97 : Int))))) = true, (IntKind.wrap IntKind.i64 ((-13 : Int) + IntKind.wrap IntKind.i64 ((2 : Int) * IntKind.wrap IntKind.i64 (Int.tmod u (97 : Int)))) == IntKind.wrap IntKind.i64 ((-13 : Int) + IntKind.wrap IntKind.i64 ((2 : Int) * IntKind.wrap IntKind.i64 (Int.tmod u (97 : Int))))) = true, (IntKind.wrap IntKind.i64 ((-13 : Int) + IntKind.wrap IntKind.i64 ((2 : Int) * IntKind.wrap IntKind.i64 (Int.tmod v (97 : Int)))) == IntKind.wrap IntKind.i64 ((-13 : Int) + IntKind.wrap IntKind.i64 ((2 : Int) * IntKind.wrap IntKind.i64 (Int.tmod v (97 : Int))))) = true, (IntKind.wrap IntKind.i64 ((-13 : Int) + IntKind.wrap IntKind.i64 ((2 : Int) * IntKind.wrap IntKind.i64 (Int.tmod v (97 : Int)))) == IntKind.wrap IntKind.i64 ((-13 : Int) + IntKind.wrap IntKind.i64 ((2 : Int) * IntKind.wrap IntKind.i64 (Int.tmod v (97 : Int))))) = true, (IntKind.wrap IntKind.i64 ((-13 : Int) + IntKind.wrap IntKind.i64 ((2 : Int) * IntKind.wrap IntKind.i64 (Int.tmod v (97 : Int)))) == IntKind.wrap IntKind.i64 ((-13 : Int) + IntKind.wrap IntKind.i64 ((2 : Int) * IntKind.wrap IntKind.i64 (Int.tmod v (97 : Int))))) = true, (IntKind.wrap IntKind.i64 ((-13 : Int) + IntKind.wrap IntKind.i64 ((2 : Int) * IntKind.wrap IntKind.i64 (Int.tmod v (97 : Int)))) == IntKind.wrap IntKind.i64 ((-13 : Int) + IntKind.wrap IntKind.i64 ((2 : Int) * IntKind.wrap IntKind.i64 (Int.tmod v (97 : Int))))) = true, (IntKind.wrap IntKind.i64 ((-13 : Int) + IntKind.wrap IntKind.i64 ((2 : Int) * IntKind.wrap IntKind.i64 (Int.tmod v (97 : Int)))) == IntKind.wrap IntKind.i64 ((-13 : Int) + IntKind.wrap IntKind.i64 ((2 : Int) * IntKind.wrap IntKind.i64 (Int.tmod v (97 : Int))))) = true, view (AV.sl Mode.fresh (nat_lit 33) (some (List.length (nf (nf (nf (List.map ofP a) ++ List.map ofP b) ++ List.map turnP (List.reverse (List.map ofP b)))))) (List.map Ps.enc (nf (nf (nf (List.map ofP a) ++ List.map ofP b) ++ List.map turnP (List.reverse (List.map ofP b)))))) = AV.sl Mode.any (nat_lit 33) (some (List.length (nf (nf (nf (List.map ofP a) ++ List.map ofP b) ++ List.map turnP (List.reverse (List.map ofP b)))))) (List.map Ps.enc (nf (nf (nf (List.map ofP a) ++ List.map ofP b) ++ List.map turnP (List.reverse (List.map ofP b))))), view (AV.sl Mode.fresh (nat_lit 33) (some (List.length (nf (List.map ofP a)))) (List.map Ps.enc (nf (List.map ofP a)))) = AV.sl Mode.any (nat_lit 33) (some (List.length (nf (List.map ofP a)))) (List.map Ps.enc (nf (List.map ofP a))), PureC Try.prog (nat_lit 19) [AV.sl Mode.any (nat_lit 33) (some (List.length (nf (nf (nf (List.map ofP a) ++ List.map ofP b) ++ List.map turnP (List.reverse (List.map ofP b)))))) (List.map Ps.enc (nf (nf (nf (List.map ofP a) ++ List.map ofP b) ++ List.map turnP (List.reverse (List.map ofP b))))), AV.sl Mode.any (nat_lit 33) (some (List.length (nf (List.map ofP a)))) (List.map Ps.enc (nf (List.map ofP a)))] (AV.atom (Value.int IntKind.i64 (1 : Int))), (IntKind.wrap IntKind.i64 ((-13 : Int) + IntKind.wrap IntKind.i64 ((2 : Int) * IntKind.wrap IntKind.i64 (Int.tmod v (97 : Int)))) == IntKind.wrap IntKind.i64 ((-13 : Int) + IntKind.wrap IntKind.i64 ((2 : Int) * IntKind.wrap IntKind.i64 (Int.tmod v (97 : Int))))) = true, (IntKind.wrap IntKind.i64 ((-13 : Int) + IntKind.wrap IntKind.i64 ((2 : Int) * IntKind.wrap IntKind.i64 (Int.tmod v (97 : Int)))) == IntKind.wrap IntKind.i64 ((-13 : Int) + IntKind.wrap IntKind.i64 ((2 : Int) * IntKind.wrap IntKind.i64 (Int.tmod v (97 : Int))))) = true, PureC Try.prog (nat_lit 15) [] (AV.atom (Value.bool true))]) (base 109 0) Try.func6 rfl (by simp) rfl (by kernel_rfl)  (allp g0 (allp g0 (allp g0 (allp g0 (allp g1 (allp (by first | (apply ent5 <;> (first | assumption | rfl | (simp at *; done) | (simp at *; omega))) | (apply go1 <;> (first | assumption | rfl | (simp at *; done) | (simp at *; omega))) | (apply go2 <;> (first | assumption | rfl | (simp at *; done) | (simp at *; omega))) | (apply of_c <;> (first | assumption | rfl | (simp at *; done) | (simp at *; omega))) | (apply inv_c <;> (first | assumption | rfl | (simp at *; done) | (simp at *; omega))) | (apply same1 <;> (first | assumption | rfl | (simp at *; done) | (simp at *; omega))) | (apply lives_ok <;> (first | assumption | rfl | (simp at *; done) | (simp at *; omega)))) (allp g2 (allp (by first | exact view_ps _ _ _ | exact view_u8 _ _ _ | rfl | exact view_yn _ _ _ _ _ _ _) (allp (by first | (apply ent5 <;> (first | assumption | rfl | (simp at *; done) | (simp at *; omega))) | (apply go1 <;> (first | assumption | rfl | (simp at *; done) | (simp at *; omega))) | (apply go2 <;> (first | assumption | rfl | (simp at *; done) | (simp at *; omega))) | (apply of_c <;> (first | assumption | rfl | (simp at *; done) | (simp at *; omega))) | (apply inv_c <;> (first | assumption | rfl | (simp at *; done) | (simp at *; omega))) | (apply same1 <;> (first | assumption | rfl | (simp at *; done) | (simp at *; omega))) | (apply lives_ok <;> (first | assumption | rfl | (simp at *; done) | (simp at *; omega)))) (allp (by first | exact view_ps _ _ _ | exact view_u8 _ _ _ | rfl | exact view_yn _ _ _ _ _ _ _) (allp (by (first | rw [view_yn] | rw [view_two] | skip); first | (apply ent5 <;> (first | assumption | rfl | (simp at *; done) | (simp at *; omega))) | (apply go1 <;> (first | assumption | rfl | (simp at *; done) | (simp at *; omega))) | (apply go2 <;> (first | assumption | rfl | (simp at *; done) | (simp at *; omega))) | (apply of_c <;> (first | assumption | rfl | (simp at *; done) | (simp at *; omega))) | (apply inv_c <;> (first | assumption | rfl | (simp at *; done) | (simp at *; omega))) | (apply same1 <;> (first | assumption | rfl | (simp at *; done) | (simp at *; omega))) | (apply lives_ok <;> (first | assumption | rfl | (simp at *; done) | (simp at *; omega)))) (allp g3 (allp g4 (allp (by first | exact view_ps _ _ _ | exact view_u8 _ _ _ | rfl | exact view_yn _ _ _ _ _ _ _) (allp (by first | (apply ent5 <;> (first | assumption | rfl | (simp at *; done) | (simp at *; omega))) | (apply go1 <;> (first | assumption | rfl | (simp at *; done) | (simp at *; omega))) | (apply go2 <;> (first | assumption | rfl | (simp at *; done) | (simp at *; omega))) | (apply of_c <;> (first | assumption | rfl | (simp at *; done) | (simp at *; omega))) | (apply inv_c <;> (first | assumption | rfl | (simp at *; done) | (simp at *; omega))) | (apply same1 <;> (first | assumption | rfl | (simp at *; done) | (simp at *; omega))) | (apply lives_ok <;> (first | assumption | rfl | (simp at *; done) | (simp at *; omega)))) (allp (by first | exact view_ps _ _ _ | exact view_u8 _ _ _ | rfl | exact view_yn _ _ _ _ _ _ _) (allp (by (first | rw [view_yn] | rw [view_two] | skip); first | (apply ent5 <;> (first | assumption | rfl | (simp at *; done) | (simp at *; omega))) | (apply go1 <;> (first | assumption | rfl | (simp at *; done) | (simp at *; omega))) | (apply go2 <;> (first | assumption | rfl | (simp at *; done) | (simp at *; omega))) | (apply of_c <;> (first | assumption | rfl | (simp at *; done) | (simp at *; omega))) | (apply inv_c <;> (first | assumption | rfl | (simp at *; done) | (simp at *; omega))) | (apply same1 <;> (first | assumption | rfl | (simp at *; done) | (simp at *; omega))) | (apply lives_ok <;> (first | assumption | rfl | (simp at *; done) | (simp at *; omega)))) (allp g5 (allp g6 (allp (by first | exact view_ps _ _ _ | exact view_u8 _ _ _ | rfl | exact view_yn _ _ _ _ _ _ _) (allp (by first | (apply ent5 <;> (first | assumption | rfl | (simp at *; done) | (simp at *; omega))) | (apply go1 <;> (first | assumption | rfl | (simp at *; done) | (simp at *; omega))) | (apply go2 <;> (first | assumption | rfl | (simp at *; done) | (simp at *; omega))) | (apply of_c <;> (first | assumption | rfl | (simp at *; done) | (simp at *; omega))) | (apply inv_c <;> (first | assumption | rfl | (simp at *; done) | (simp at *; omega))) | (apply same1 <;> (first | assumption | rfl | (simp at *; done) | (simp at *; omega))) | (apply lives_ok <;> (first | assumption | rfl | (simp at *; done) | (simp at *; omega)))) (allp (by first | exact view_ps _ _ _ | exact view_u8 _ _ _ | rfl | exact view_yn _ _ _ _ _ _ _) (allp (by first | (apply ent5 <;> (first | assumption | rfl | (simp at *; done) | (simp at *; omega))) | (apply go1 <;> (first | assumption | rfl | (simp at *; done) | (simp at *; omega))) | (apply go2 <;> (first | assumption | rfl | (simp at *; done) | (simp at *; omega))) | (apply of_c <;> (first | assumption | rfl | (simp at *; done) | (simp at *; omega))) | (apply inv_c <;> (first | assumption | rfl | (simp at *; done) | (simp at *; omega))) | (apply same1 <;> (first | assumption | rfl | (simp at *; done) | (simp at *; omega))) | (apply lives_ok <;> (first | assumption | rfl | (simp at *; done) | (simp at *; omega)))) (allp g7 (allp (by first | exact view_ps _ _ _ | exact view_u8 _ _ _ | rfl | exact view_yn _ _ _ _ _ _ _) (allp (by (first | rw [view_yn] | rw [view_two] | skip); first | (apply ent5 <;> (first | assumption | rfl | (simp at *; done) | (simp at *; omega))) | (apply go1 <;> (first | assumption | rfl | (simp at *; done) | (simp at *; omega))) | (apply go2 <;> (first | assumption | rfl | (simp at *; done) | (simp at *; omega))) | (apply of_c <;> (first | assumption | rfl | (simp at *; done) | (simp at *; omega))) | (apply inv_c <;> (first | assumption | rfl | (simp at *; done) | (simp at *; omega))) | (apply same1 <;> (first | assumption | rfl | (simp at *; done) | (simp at *; omega))) | (apply lives_ok <;> (first | assumption | rfl | (simp at *; done) | (simp at *; omega)))) (allp g8 (allp g9 (allp g10 (allp g10 (allp g10 (allp g10 (allp g11 (allp g11 (allp g11 (allp g11 (allp g11 (allp (by first | exact view_ps _ _ _ | exact view_u8 _ _ _ | rfl | exact view_yn _ _ _ _ _ _ _) (allp (by first | exact view_ps _ _ _ | exact view_u8 _ _ _ | rfl | exact view_yn _ _ _ _ _ _ _) (allp (by first | (apply ent5 <;> (first | assumption | rfl | (simp at *; done) | (simp at *; omega))) | (apply go1 <;> (first | assumption | rfl | (simp at *; done) | (simp at *; omega))) | (apply go2 <;> (first | assumption | rfl | (simp at *; done) | (simp at *; omega))) | (apply of_c <;> (first | assumption | rfl | (simp at *; done) | (simp at *; omega))) | (apply inv_c <;> (first | assumption | rfl | (simp at *; done) | (simp at *; omega))) | (apply same1 <;> (first | assumption | rfl | (simp at *; done) | (simp at *; omega))) | (apply lives_ok <;> (first | assumption | rfl | (simp at *; done) | (simp at *; omega)))) (allp g11 (allp g11 (allp (by first | (apply ent5 <;> (first | assumption | rfl | (simp at *; done) | (simp at *; omega))) | (apply go1 <;> (first | assumption | rfl | (simp at *; done) | (simp at *; omega))) | (apply go2 <;> (first | assumption | rfl | (simp at *; done) | (simp at *; omega))) | (apply of_c <;> (first | assumption | rfl | (simp at *; done) | (simp at *; omega))) | (apply inv_c <;> (first | assumption | rfl | (simp at *; done) | (simp at *; omega))) | (apply same1 <;> (first | assumption | rfl | (simp at *; done) | (simp at *; omega))) | (apply lives_ok <;> (first | assumption | rfl | (simp at *; done) | (simp at *; omega)))) allp_nil)))))))))))))))))))))))))))))))))))))))))))


end Tst
end

section
open Go Go.Lf Go.Proofs
namespace Tst
theorem F2.cons' {α β : Type} {R : α → β → Prop} {x : α} {l : List α} {m : List β} (h : F2 R (x :: l) m) : ∃ y m', m = y :: m' ∧ R x y ∧ F2 R l m' := by
  cases h with
  | cons h t => exact ⟨_, _, rfl, h, t⟩
theorem F2.nil' {α β : Type} {R : α → β → Prop} {m : List β} (h : F2 R [] m) : m = [] := by cases h; rfl
section
variable {P : Program} {t : TypeId} {ys : List AV}
theorem sh_int (m : Nat) {k : IntKind} (hu : P.underlying t = some (.int k)) (h : Shape P (m + 1) t ys) : ∃ i, ys = [.atom (.int k i)] ∧ (Lit.int k i).wf = true := by
  unfold Shape at h; rw [hu] at h; exact h
theorem sh_bool (m : Nat) (hu : P.underlying t = some .bool) (h : Shape P (m + 1) t ys) : ∃ b, ys = [.atom (.bool b)] := by
  unfold Shape at h; rw [hu] at h; exact h
theorem sh_slice (m : Nat) {e : TypeId} (hu : P.underlying t = some (.slice e)) (h : Shape P (m + 1) t ys) : ∃ xs, ys = [.sl .any e none xs] ∧ xs.length ≤ maxLen ∧ ∀ x ∈ xs, ∃ cs, x = elOf P e cs ∧ cs.length = P.cellsOf e ∧ Shape P m e cs := by
  unfold Shape at h; rw [hu] at h; exact h
theorem sh_array (m : Nat) {n : Nat} {e : TypeId} (hu : P.underlying t = some (.array n e)) (h : Shape P (m + 1) t ys) : ∃ yss : List (List AV), ys = yss.flatten ∧ yss.length = n ∧ ∀ cs ∈ yss, Shape P m e cs := by
  unfold Shape at h; rw [hu] at h; exact h
theorem sh_struct (m : Nat) {fs : Array Field} (hu : P.underlying t = some (.struct fs)) (h : Shape P (m + 1) t ys) : ∃ yss : List (List AV), ys = yss.flatten ∧ F2 (fun f cs => Shape P m f.type cs) fs.toList yss := by
  unfold Shape at h; rw [hu] at h; exact h
end
theorem choose_map {α : Type} (f : α → AV) (Q : α → Prop) : ∀ xs : List AV, (∀ x ∈ xs, ∃ a, x = f a ∧ Q a) → ∃ l : List α, xs = l.map f ∧ ∀ a ∈ l, Q a
  | [], _ => ⟨[], rfl, by simp⟩
  | x :: xs, h => by
    obtain ⟨a, rfl, ha⟩ := h x (by simp)
    obtain ⟨l, rfl, hl⟩ := choose_map f Q xs fun y hy => h y (by simp [hy])
    exact ⟨a :: l, rfl, by
      intro b hb
      rcases List.mem_cons.1 hb with rfl | hb
      · exact ha
      · exact hl b hb⟩
def U8 (x : Int) : Prop := 0 ≤ x ∧ x ≤ 255
def I64 (x : Int) : Prop := -9223372036854775808 ≤ x ∧ x ≤ 9223372036854775807
structure WfP (p : Ps) : Prop where
  y : U8 p.y
  n : I64 p.n
  d : U8 p.d
theorem u8_wf {i : Int} (h : (Lit.int .u8 i).wf = true) : U8 i := by
  simp only [Lit.wf, Bool.and_eq_true, decide_eq_true_eq] at h
  exact h
theorem i64_wf {i : Int} (h : (Lit.int .i64 i).wf = true) : I64 i := by
  simp only [Lit.wf, Bool.and_eq_true, decide_eq_true_eq] at h
  exact h
structure Ty (P : Program) : Prop where
  u3 : P.underlying 3 = some (.int .i64)
  u4 : P.underlying 4 = some .bool
  u5 : P.underlying 5 = some (.int .u8)
  u31 : P.underlying 31 = some (.int .u8)
  u89 : P.underlying 89 = some (.int .u8)
  u22 : P.underlying 22 = some (.slice 89)
  u23 : P.underlying 23 = some (.slice 33)
  u30 : ∃ a b : Field, P.underlying 30 = some (.struct #[a, b]) ∧ a.type = 5 ∧ b.type = 3
  u33 : ∃ a b c : Field, P.underlying 33 = some (.struct #[a, b, c]) ∧ a.type = 30 ∧ b.type = 4 ∧ c.type = 31
  u38 : ∃ a b c d e : Field, P.underlying 38 = some (.struct #[a, b, c, d, e]) ∧ a.type = 4 ∧ b.type = 3 ∧ c.type = 3 ∧ d.type = 4 ∧ e.type = 23
  a33 : aggT P 33 = true
  a89 : aggT P 89 = false
  a22 : aggT P 22 = false
  a23 : aggT P 23 = false
theorem tyP : Ty Try.prog := ⟨Try.underlying3, Try.underlying4, Try.underlying5, Try.underlying31, Try.underlying89, Try.underlying22, Try.underlying23,
  ⟨_, _, Try.underlying30, rfl, rfl⟩, ⟨_, _, _, Try.underlying33, rfl, rfl, rfl⟩, ⟨_, _, _, _, _, Try.underlying38, rfl, rfl, rfl, rfl, rfl⟩, by kernel_rfl, by kernel_rfl, by kernel_rfl, by kernel_rfl⟩
section
variable {P : Program} {m : Nat}
theorem id_of (T : Ty P) {cs : List AV} (h : Shape P (m + 2) 30 cs) : ∃ y n, cs = [.atom (.int .u8 y), .atom (.int .i64 n)] ∧ U8 y ∧ I64 n := by
  obtain ⟨fa, fb, hu, ta, tb⟩ := T.u30
  obtain ⟨yss, rfl, hf⟩ := sh_struct (m + 1) hu h
  obtain ⟨c1, _, rfl, h1, hf⟩ := F2.cons' hf
  obtain ⟨c2, _, rfl, h2, hf⟩ := F2.cons' hf
  obtain rfl := F2.nil' hf
  rw [ta] at h1; rw [tb] at h2
  obtain ⟨y, rfl, w1⟩ := sh_int m T.u5 h1
  obtain ⟨n, rfl, w2⟩ := sh_int m T.u3 h2
  exact ⟨y, n, rfl, u8_wf w1, i64_wf w2⟩
theorem pass_of (T : Ty P) {cs : List AV} (h : Shape P (m + 3) 33 cs) : ∃ p : Ps, cs = [.atom (.int .u8 p.y), .atom (.int .i64 p.n), .atom (.bool p.f), .atom (.int .u8 p.d)] ∧ WfP p := by
  obtain ⟨fa, fb, fc, hu, ta, tb, tc⟩ := T.u33
  obtain ⟨yss, rfl, hf⟩ := sh_struct (m + 2) hu h
  obtain ⟨c1, _, rfl, h1, hf⟩ := F2.cons' hf
  obtain ⟨c2, _, rfl, h2, hf⟩ := F2.cons' hf
  obtain ⟨c3, _, rfl, h3, hf⟩ := F2.cons' hf
  obtain rfl := F2.nil' hf
  rw [ta] at h1; rw [tb] at h2; rw [tc] at h3
  obtain ⟨y, n, rfl, w1, w2⟩ := id_of (m := m) T h1
  obtain ⟨f, rfl⟩ := sh_bool (m + 1) T.u4 h2
  obtain ⟨d, rfl, w3⟩ := sh_int (m + 1) T.u31 h3
  exact ⟨⟨y, n, f, d⟩, rfl, ⟨w1, w2, u8_wf w3⟩⟩
theorem el_ps (T : Ty P) (p : Ps) : elOf P 33 [.atom (.int .u8 p.y), .atom (.int .i64 p.n), .atom (.bool p.f), .atom (.int .u8 p.d)] = p.enc := by unfold elOf; rw [if_pos T.a33]; rfl
theorem list_of_u8 (T : Ty P) {ys : List AV} (h : Shape P (m + 2) 22 ys) : ∃ a, ys = [pl none a] ∧ (∀ x ∈ a, U8 x) ∧ a.length ≤ maxLen := by
  obtain ⟨xs, rfl, hl, hx⟩ := sh_slice (m + 1) T.u22 h
  obtain ⟨a, rfl, ha⟩ := choose_map u8 U8 xs fun x hx' => by
    obtain ⟨cs, rfl, _, hc⟩ := hx x hx'
    obtain ⟨i, rfl, hi⟩ := sh_int m T.u89 hc
    exact ⟨i, by unfold elOf; rw [if_neg (Bool.eq_false_iff.1 T.a89)]; rfl, u8_wf hi⟩
  exact ⟨a, rfl, ha, by simpa using hl⟩
theorem list_of_ps (T : Ty P) {ys : List AV} (h : Shape P (m + 4) 23 ys) : ∃ b, ys = [sl none b] ∧ (∀ x ∈ b, WfP x) ∧ b.length ≤ maxLen := by
  obtain ⟨xs, rfl, hl, hx⟩ := sh_slice (m + 3) T.u23 h
  obtain ⟨a, rfl, ha⟩ := choose_map Ps.enc WfP xs fun x hx' => by
    obtain ⟨cs, rfl, _, hc⟩ := hx x hx'
    obtain ⟨p, rfl, w⟩ := pass_of (m := m) T hc
    exact ⟨p, el_ps T p, w⟩
  exact ⟨a, rfl, ha, by simpa using hl⟩
theorem el22 (T : Ty P) (x : AV) : elOf P 22 [x] = x := by unfold elOf; rw [if_neg (Bool.eq_false_iff.1 T.a22)]; rfl
theorem el23 (T : Ty P) (x : AV) : elOf P 23 [x] = x := by unfold elOf; rw [if_neg (Bool.eq_false_iff.1 T.a23)]; rfl
end
def Arg (P : Program) (t : TypeId) (x : AV) : Prop := ∃ ys, x = elOf P t ys ∧ Shape P 8 t ys ∧ ys.length = P.cellsOf t
theorem arg22 {P : Program} (T : Ty P) {x : AV} (h : Arg P 22 x) : ∃ a, x = pl none a ∧ (∀ x ∈ a, U8 x) ∧ a.length ≤ maxLen := by
  obtain ⟨ys, rfl, hs, _⟩ := h
  obtain ⟨a, rfl, ha, hl⟩ := list_of_u8 (m := 6) T hs
  exact ⟨a, el22 T _, ha, hl⟩
theorem arg23 {P : Program} (T : Ty P) {x : AV} (h : Arg P 23 x) : ∃ a, x = sl none a ∧ (∀ x ∈ a, WfP x) ∧ a.length ≤ maxLen := by
  obtain ⟨ys, rfl, hs, _⟩ := h
  obtain ⟨a, rfl, ha, hl⟩ := list_of_ps (m := 4) T hs
  exact ⟨a, el23 T _, ha, hl⟩
theorem args2 {P : Program} {s t : TypeId} {xs : List AV} (h : F2 (Arg P) [s, t] xs) : ∃ x y, xs = [x, y] ∧ Arg P s x ∧ Arg P t y := by
  obtain ⟨x, _, rfl, h1, h⟩ := F2.cons' h
  obtain ⟨y, _, rfl, h2, h⟩ := F2.cons' h
  obtain rfl := F2.nil' h
  exact ⟨x, y, rfl, h1, h2⟩
theorem args3 {P : Program} {s t u : TypeId} {xs : List AV} (h : F2 (Arg P) [s, t, u] xs) : ∃ x y z, xs = [x, y, z] ∧ Arg P s x ∧ Arg P t y ∧ Arg P u z := by
  obtain ⟨x, _, rfl, h1, h⟩ := F2.cons' h
  obtain ⟨y, _, rfl, h2, h⟩ := F2.cons' h
  obtain ⟨z, _, rfl, h3, h⟩ := F2.cons' h
  obtain rfl := F2.nil' h
  exact ⟨x, y, z, rfl, h1, h2, h3⟩
theorem args1 {P : Program} {s : TypeId} {xs : List AV} (h : F2 (Arg P) [s] xs) : ∃ x, xs = [x] ∧ Arg P s x := by
  obtain ⟨x, _, rfl, h1, h⟩ := F2.cons' h
  obtain rfl := F2.nil' h
  exact ⟨x, rfl, h1⟩
theorem ofP_wf {x : Int} (h : U8 x) : 0 ≤ (ofP x).d := Int.tmod_nonneg _ h.1
end Tst
end

section
open Go Go.Lf Go.Proofs
namespace Tst
theorem ybS_0 (ca cb : Option Nat) (a b : List Int) (u v : Int) (x1 : decide ((20 : Int) < ((List.length (List.map u8 a) : Nat) : Int)) = true) (g0 : decide ((20 : Int) < (↑(List.length (List.map u8 a)) : Int)) = true) : PureC Try.prog 6 [pl ca a, pl cb b, .agg [.atom (.int .u8 u), .atom (.int .u8 v)]]  (AV.atom (Value.bool true)) :=
  funA_ok (H := h6) (n := 109) (ans := [Ans.c, Ans.c, Ans.c, Ans.c, Ans.c, Ans.c, Ans.b true, Ans.c, Ans.b true, Ans.c, Ans.b true, Ans.c, Ans.b true, Ans.c, Ans.c, Ans.r (AV.atom (Value.bool true)), Ans.c, Ans.c, Ans.c]) (ps := [decide ((20 : Int) < (↑(List.length (List.map u8 a)) : Int)) = true, decide ((20 : Int) < (↑(List.length (List.map u8 a)) : Int)) = true, decide ((20 : Int) < (↑(List.length (List.map u8 a)) : Int)) = true, decide ((20 : Int) < (↑(List.length (List.map u8 a)) : Int)) = true, PureC Try.prog (nat_lit 15) [] (AV.atom (Value.bool true))]) (base 109 0) Try.func6 rfl (by simp) rfl (by kernel_rfl)  (allp g0 (allp g0 (allp g0 (allp g0 (allp (by first | (apply lives_ok <;> (first | assumption | rfl | (simp at *; done) | (simp at *; omega)))) allp_nil)))))


theorem ybT_0 (ca cb : Option Nat) (a b : List Int) (u v : Int) (x1 : decide ((20 : Int) < ((List.length (List.map u8 a) : Nat) : Int)) = false) (x2 : decide ((20 : Int) < ((List.length (List.map u8 b) : Nat) : Int)) = true) (g0 : decide ((20 : Int) < (↑(List.length (List.map u8 a)) : Int)) = false) (g1 : decide ((20 : Int) < (↑(List.length (List.map u8 b)) : Int)) = true) : PureC Try.prog 6 [pl ca a, pl cb b, .agg [.atom (.int .u8 u), .atom (.int .u8 v)]]  (AV.atom (Value.bool true)) :=
  funA_ok (H := h6) (n := 109) (ans := [Ans.c, Ans.c, Ans.c, Ans.c, Ans.c, Ans.c, Ans.b false, Ans.c, Ans.b false, Ans.c, Ans.b false, Ans.c, Ans.b false, Ans.c, Ans.b true, Ans.r (AV.atom (Value.bool true)), Ans.c, Ans.c, Ans.c]) (ps := [decide ((20 : Int) < (↑(List.length (List.map u8 a)) : Int)) = false, decide ((20 : Int) < (↑(List.length (List.map u8 a)) : Int)) = false, decide ((20 : Int) < (↑(List.length (List.map u8 a)) : Int)) = false, decide ((20 : Int) < (↑(List.length (List.map u8 a)) : Int)) = false, decide ((20 : Int) < (↑(List.length (List.map u8 b)) : Int)) = true, PureC Try.prog (nat_lit 15) [] (AV.atom (Value.bool true))]) (base 109 0) Try.func6 rfl (by simp) rfl (by kernel_rfl)  (allp g0 (allp g0 (allp g0 (allp g0 (allp g1 (allp (by first | (apply lives_ok <;> (first | assumption | rfl | (simp at *; done) | (simp at *; omega)))) allp_nil))))))


theorem irrB_of : ∀ (l : List Ps), (∀ i, i + 1 < l.length → can (l.getD i default) (l.getD (i + 1) default) = false) → irrB l = true
  | [], _ => rfl
  | [p], _ => rfl
  | p :: q :: l, h => by
    have h0 := h 0 (by simp)
    have h1 := irrB_of (q :: l) fun i hi => by
      have := h (i + 1) (by simp at hi ⊢; omega)
      simpa using this
    simp only [irrB, Bool.and_eq_true, Bool.not_eq_true']
    exact ⟨by simpa using h0, h1⟩
theorem irrB_nf (l : List Ps) : irrB (nf l) = true := irrB_of _ fun i hi => irr_can (nf l) (irr_nf l) i hi
theorem wrap_u8 {n : Int} (h1 : 0 ≤ n) (h2 : n ≤ 255) : IntKind.u8.wrap n = n := by
  simp [IntKind.wrap, IntKind.bits, IntKind.signed]; omega
theorem noAny_yn (i n : Bool) (p c e : Int) (cap : Option Nat) (l : List Ps) : noAny 12 (.tup [yn i p c n (fr cap l), it e]) = true := by
  simp only [noAny, List.all_cons, List.all_nil, Bool.and_true, Bool.true_and]
  exact all_noAny _ _
theorem ofP_valid {x : Int} (h : U8 x) : validP (ofP x) = true := by
  have h0 : 0 ≤ Int.tmod x 2 := Int.tmod_nonneg _ h.1
  have h1 : Int.tmod x 2 < 2 := Int.tmod_lt_of_pos _ (by decide)
  have e4 : Int.tdiv x 4 = x / 4 := Int.tdiv_eq_ediv_of_nonneg h.1
  have e8 : Int.tdiv x 8 = x / 8 := Int.tdiv_eq_ediv_of_nonneg h.1
  have e3 : Int.tmod (x / 8) 3 = (x / 8) % 3 := Int.tmod_eq_emod_of_nonneg (by have := h.1; omega)
  have e2 : Int.tmod (x / 4) 2 = (x / 4) % 2 := Int.tmod_eq_emod_of_nonneg (by have := h.1; omega)
  have u0 := h.1
  have u1 := h.2
  rw [validP, ofP, namedB]
  simp only [e4, e8]
  rw [wrap_u8 (n := x / 4) (by omega) (by omega), wrap_u8 (n := x / 8) (by omega) (by omega), e2, e3, wrap_u8 (by omega) (by omega), wrap_id (by omega) (by omega)]
  simp
  omega
theorem turn_valid {p : Ps} (h : validP p = true) : validP (turnP p) = true := by
  simp only [validP, turnP, Bool.and_eq_true] at h ⊢
  refine ⟨h.1, ?_⟩
  split <;> simp
theorem all_valid_of {l : List Int} (h : ∀ x ∈ l, U8 x) : (List.map ofP l).all validP = true := by
  simp only [List.all_eq_true, List.mem_map]
  rintro p ⟨x, hx, rfl⟩
  exact ofP_valid (h x hx)
theorem nf_valid {l : List Ps} (h : l.all validP = true) : (nf l).all validP = true := by
  rw [List.all_eq_true] at h ⊢
  exact fun p hp => h p (nf_mem hp)
theorem chk_nf {p c : Int} {n : Bool} {l : List Ps} (hp : placeB p = true) (hc : 0 ≤ c ∧ c ≤ 2048) (hl : (nf l).length ≤ 4096) (hv : l.all validP = true) : chkB true p c n (nf l) = true := by
  have e1 : decide (c < 0) = false := by simp; omega
  have e2 : decide (2048 < c) = false := by simp; omega
  have e3 : decide ((nf l).length ≤ 4096) = true := by simp [hl]
  simp only [chkB, inV, e1, e2, e3, hp, nf_valid hv, irrB_nf]
  rfl
theorem plc_ok {u : Int} (h : U8 u) : placeB (plc u) = true := by
  have h0 : 0 ≤ Int.tmod u 97 := Int.tmod_nonneg _ h.1
  have h1 : Int.tmod u 97 < 97 := Int.tmod_lt_of_pos _ (by decide)
  have e : plc u = -13 + 2 * Int.tmod u 97 := by
    unfold plc
    rw [wrap_id (n := Int.tmod u 97) (by omega) (by omega), wrap_id (n := 2 * Int.tmod u 97) (by omega) (by omega), wrap_id (by omega) (by omega)]
  rw [e]
  generalize Int.tmod u 97 = k at *
  have h2 : (-13 + 2 * k).tmod 2 ≠ 0 := by
    intro h
    have := Int.dvd_of_tmod_eq_zero h
    omega
  simp [placeB, h2]
  omega
theorem nf_left (X Z : List Ps) : nf (nf X ++ Z) = nf (X ++ Z) := by
  rw [← nf_append (nf X) Z, nf_nf, nf_append]
theorem back_nf (A B : List Ps) (h : ∀ p ∈ B, turnP (turnP p) = p) : nf (nf (nf A ++ B) ++ List.map turnP (List.reverse B)) = nf A := by
  rw [nf_left, List.append_assoc, ← nf_append (nf A), inv_nf B h, List.append_nil, nf_nf, nf_nf]
theorem law6_c (ca cb : Option Nat) (a b : List Int) (u v : Int) (ha : ∀ x ∈ a, U8 x) (hb : ∀ x ∈ b, U8 x) (hu : U8 u) (hv : U8 v) : PureC Try.prog 6 [pl ca a, pl cb b, .agg [.atom (.int .u8 u), .atom (.int .u8 v)]] (.atom (.bool true)) := by
  by_cases h1 : 20 < a.length
  · exact ybS_0 ca cb a b u v (by simp; omega) (by simp; omega)
  by_cases h2 : 20 < b.length
  · exact ybT_0 ca cb a b u v (by simp; omega) (by simp; omega) (by simp; omega) (by simp; omega)
  have tt : ∀ p ∈ List.map ofP b, turnP (turnP p) = p := by
    intro p hp
    obtain ⟨x, hx, rfl⟩ := List.mem_map.1 hp
    exact ofP_tt2 (hb x hx)
  have va := all_valid_of ha
  have vb := all_valid_of hb
  have vbi : (List.map turnP (List.reverse (List.map ofP b))).all validP = true := by
    rw [List.all_eq_true] at vb ⊢
    intro p hp
    obtain ⟨q, hq, rfl⟩ := List.mem_map.1 hp
    exact turn_valid (vb q (List.mem_reverse.1 hq))
  have lA : (List.map ofP a).length ≤ 20 := by simp; omega
  have lB : (List.map ofP b).length ≤ 20 := by simp; omega
  have n1 := nf_len (List.map ofP a)
  have n2 := nf_len (nf (List.map ofP a) ++ List.map ofP b)
  rw [List.length_append] at n2
  have bk := back_nf (List.map ofP a) (List.map ofP b) tt
  have v2 : (nf (List.map ofP a) ++ List.map ofP b).all validP = true := by rw [List.all_append, nf_valid va, vb]; rfl
  have pu := plc_ok hu
  have pv := plc_ok hv
  apply yb_0 ca cb a b u v (by simp; omega) (by simp; omega) pu pv lA lB (by omega) (by omega) (by simp; omega) va vb vbi (chk_nf pu (by decide) (by omega) va) (chk_nf pv (by decide) (by omega) v2) (by omega) (by omega) bk (by rw [bk]; omega) (by simp) (by simp)
  all_goals first
    | rfl
    | (simp only [map_enc]; done)
    | (simp only [decide_eq_true_eq]; intro _; exact noAny_yn _ _ _ _ _ _ _)
    | (simp only [decide_eq_true_eq]; intro _; exact all_noAny _ _)
    | (simp; done)
    | (simp; omega)
    | skip
end Tst
end

section
open Go Go.Lf Go.Proofs
namespace Tst
structure Ty2 (P : Program) : Prop where
  u52 : P.underlying 52 = some (.array 2 5)
  u36 : P.underlying 36 = some (.slice 40)
  u40 : ∃ a b c d : Field, P.underlying 40 = some (.struct #[a, b, c, d]) ∧ a.type = 5 ∧ b.type = 3 ∧ c.type = 5 ∧ d.type = 22
  a52 : aggT P 52 = true
  a38 : aggT P 38 = true
  a30 : aggT P 30 = true
  a40 : aggT P 40 = true
  a36 : aggT P 36 = false
  a5 : aggT P 5 = false
theorem tyP2 : Ty2 Try.prog := ⟨Try.underlying52, Try.underlying36, ⟨_, _, _, _, Try.underlying40, rfl, rfl, rfl, rfl⟩, by kernel_rfl, by kernel_rfl, by kernel_rfl, by kernel_rfl, by kernel_rfl, by kernel_rfl⟩
section
variable {P : Program}
theorem arg5 (T : Ty P) (T2 : Ty2 P) {x : AV} (h : Arg P 5 x) : ∃ i, x = .atom (.int .u8 i) ∧ U8 i := by
  obtain ⟨ys, rfl, hs, _⟩ := h
  obtain ⟨i, rfl, hi⟩ := sh_int 7 T.u5 hs
  exact ⟨i, by unfold elOf; rw [if_neg (Bool.eq_false_iff.1 T2.a5)]; rfl, u8_wf hi⟩
theorem arg52 (T : Ty P) (T2 : Ty2 P) {x : AV} (h : Arg P 52 x) : ∃ u v, x = .agg [.atom (.int .u8 u), .atom (.int .u8 v)] ∧ U8 u ∧ U8 v := by
  obtain ⟨ys, rfl, hs, _⟩ := h
  obtain ⟨yss, rfl, hl, hy⟩ := sh_array 7 T2.u52 hs
  match yss, hl with
  | [c1, c2], _ =>
    obtain ⟨u, rfl, hu⟩ := sh_int 6 T.u5 (hy c1 (by simp))
    obtain ⟨v, rfl, hv⟩ := sh_int 6 T.u5 (hy c2 (by simp))
    exact ⟨u, v, by unfold elOf; rw [if_pos T2.a52]; rfl, u8_wf hu, u8_wf hv⟩
theorem arg33 (T : Ty P) {x : AV} (h : Arg P 33 x) : ∃ p : Ps, x = p.enc ∧ WfP p := by
  obtain ⟨ys, rfl, hs, _⟩ := h
  obtain ⟨p, rfl, w⟩ := pass_of (m := 5) T hs
  exact ⟨p, el_ps T p, w⟩
theorem arg30 (T : Ty P) (T2 : Ty2 P) {x : AV} (h : Arg P 30 x) : ∃ y n, x = .agg [.atom (.int .u8 y), .atom (.int .i64 n)] ∧ U8 y ∧ I64 n := by
  obtain ⟨ys, rfl, hs, _⟩ := h
  obtain ⟨y, n, rfl, h1, h2⟩ := id_of (m := 6) T hs
  exact ⟨y, n, by unfold elOf; rw [if_pos T2.a30], h1, h2⟩
theorem arg38 (T : Ty P) (T2 : Ty2 P) {x : AV} (h : Arg P 38 x) : ∃ y : Y, x = y.an none ∧ I64 y.p ∧ I64 y.c ∧ (∀ q ∈ y.l, WfP q) ∧ y.l.length ≤ maxLen := by
  obtain ⟨ys, rfl, hs, _⟩ := h
  obtain ⟨fa, fb, fc, fd, fe, hu, ta, tb, tc, td, te⟩ := T.u38
  obtain ⟨yss, rfl, hf⟩ := sh_struct 7 hu hs
  obtain ⟨c1, _, rfl, h1, hf⟩ := F2.cons' hf
  obtain ⟨c2, _, rfl, h2, hf⟩ := F2.cons' hf
  obtain ⟨c3, _, rfl, h3, hf⟩ := F2.cons' hf
  obtain ⟨c4, _, rfl, h4, hf⟩ := F2.cons' hf
  obtain ⟨c5, _, rfl, h5, hf⟩ := F2.cons' hf
  obtain rfl := F2.nil' hf
  rw [ta] at h1; rw [tb] at h2; rw [tc] at h3; rw [td] at h4; rw [te] at h5
  obtain ⟨i, rfl⟩ := sh_bool 6 T.u4 h1
  obtain ⟨p, rfl, w2⟩ := sh_int 6 T.u3 h2
  obtain ⟨c, rfl, w3⟩ := sh_int 6 T.u3 h3
  obtain ⟨n, rfl⟩ := sh_bool 6 T.u4 h4
  obtain ⟨l, rfl, wl, hl⟩ := list_of_ps (m := 3) T h5
  exact ⟨⟨i, p, c, n, l⟩, by unfold elOf; rw [if_pos T2.a38]; rfl, i64_wf w2, i64_wf w3, wl, hl⟩
end
end Tst
end

section
open Go Go.Lf Go.Proofs Tst
namespace Go.Proofs.Ytnaikfcmegkdpaa.yarnsBack
theorem YarnsBack_pure (xs : List AV) (h : F2 (fun t x => ∃ ys, x = elOf Try.prog t ys ∧ Shape Try.prog 8 t ys ∧ ys.length = Try.prog.cellsOf t) Try.f6.params.toList xs) : PureC Try.prog 6 xs (.atom (.bool true)) := by
  rw [Try.params6] at h
  obtain ⟨x, y, z, rfl, h1, h2, h3⟩ := args3 (P := Try.prog) h
  obtain ⟨a, rfl, ha, _⟩ := arg22 tyP h1
  obtain ⟨b, rfl, hb, _⟩ := arg22 tyP h2
  obtain ⟨u, v, rfl, hu, hv⟩ := arg52 tyP tyP2 h3
  exact law6_c none none a b u v ha hb hu hv
end Go.Proofs.Ytnaikfcmegkdpaa.yarnsBack
end
