/- Part 7 of the evaluator and of the contracts that the claim uses. -/
import Derived.Test.YtnaikfcmegkdpaaLAA
import Derived.Test.YtnaikfcmegkdpaaLAB
import Derived.Test.YtnaikfcmegkdpaaLAC
import Derived.Test.YtnaikfcmegkdpaaLAD
import Derived.Test.YtnaikfcmegkdpaaLAE
import Derived.Test.YtnaikfcmegkdpaaLAF
set_option linter.unusedVariables false
set_option linter.unusedSimpArgs false
set_option linter.constructorNameAsVariable false

section
open Go Go.Lf Go.Proofs
namespace Tst
theorem yr_0 (ca cb : Option Nat) (a : List Int) (b : List Ps) (hwf : ∀ p ∈ ([] ++ b) ++ a.map ofP, 0 ≤ p.d) (hb : (([] ++ b) ++ a.map ofP).length ≤ 50) (hn : (nf (([] ++ b) ++ a.map ofP)).length ≤ 50) (hl : ∀ i, i + 1 < (nf (([] ++ b) ++ a.map ofP)).length → lcan ((nf (([] ++ b) ++ a.map ofP)).getD i default) ((nf (([] ++ b) ++ a.map ofP)).getD (i + 1) default) = false) (hnn : nf (nf (([] ++ b) ++ a.map ofP)) = nf (([] ++ b) ++ a.map ofP)) (hn2 : (nf (nf (([] ++ b) ++ a.map ofP))).length < 2 ^ 62) (ha : a.length ≤ 4294967296) (g0 : decide ((40 : Int) < (↑(List.length (List.map u8 a)) : Int)) = true) : PureC Try.prog 3 [pl ca a, sl cb b]  (AV.atom (Value.bool true)) :=
  funA_ok (H := h3) (n := 77) (ans := [Ans.c, Ans.c, Ans.c, Ans.c, Ans.c, Ans.b true, Ans.b true, Ans.b true, Ans.b true, Ans.c, Ans.c, Ans.r (AV.atom (Value.bool true)), Ans.c, Ans.c, Ans.c]) (ps := [decide ((40 : Int) < (↑(List.length (List.map u8 a)) : Int)) = true, decide ((40 : Int) < (↑(List.length (List.map u8 a)) : Int)) = true, decide ((40 : Int) < (↑(List.length (List.map u8 a)) : Int)) = true, decide ((40 : Int) < (↑(List.length (List.map u8 a)) : Int)) = true, PureC Try.prog (nat_lit 15) [] (AV.atom (Value.bool true))]) (base 77 0) Try.func3 rfl (by simp) rfl (by kernel_rfl)  (allp g0 (allp g0 (allp g0 (allp g0 (allp (by first | (apply of_c <;> (first | assumption | rfl | (simp at *; done) | (simp at *; omega))) | (apply red_c <;> (first | assumption | rfl | (simp at *; done) | (simp at *; omega))) | (apply lredu_c <;> (first | assumption | rfl | (simp at *; done) | (simp at *; omega))) | (apply lback_c <;> (first | assumption | rfl | (simp at *; done) | (simp at *; omega))) | (apply same1 <;> (first | assumption | rfl | (simp at *; done) | (simp at *; omega))) | (apply lives_ok <;> (first | assumption | rfl | (simp at *; done) | (simp at *; omega))) | (apply yr_loop <;> (first | assumption | rfl | (simp at *; done) | (simp at *; omega)))) allp_nil)))))
theorem yr_1 (ca cb : Option Nat) (a : List Int) (b : List Ps) (hwf : ∀ p ∈ ([] ++ b) ++ a.map ofP, 0 ≤ p.d) (hb : (([] ++ b) ++ a.map ofP).length ≤ 50) (hn : (nf (([] ++ b) ++ a.map ofP)).length ≤ 50) (hl : ∀ i, i + 1 < (nf (([] ++ b) ++ a.map ofP)).length → lcan ((nf (([] ++ b) ++ a.map ofP)).getD i default) ((nf (([] ++ b) ++ a.map ofP)).getD (i + 1) default) = false) (hnn : nf (nf (([] ++ b) ++ a.map ofP)) = nf (([] ++ b) ++ a.map ofP)) (hn2 : (nf (nf (([] ++ b) ++ a.map ofP))).length < 2 ^ 62) (ha : a.length ≤ 4294967296) (g0 : decide ((40 : Int) < (↑(List.length (List.map u8 a)) : Int)) = false) (g1 : decide ((5 : Int) < (↑(List.length (List.map Ps.enc b)) : Int)) = true) : PureC Try.prog 3 [pl ca a, sl cb b]  (AV.atom (Value.bool true)) :=
  funA_ok (H := h3) (n := 77) (ans := [Ans.c, Ans.c, Ans.c, Ans.c, Ans.c, Ans.b false, Ans.c, Ans.b false, Ans.c, Ans.b false, Ans.c, Ans.b false, Ans.c, Ans.b true, Ans.r (AV.atom (Value.bool true)), Ans.c, Ans.c, Ans.c]) (ps := [decide ((40 : Int) < (↑(List.length (List.map u8 a)) : Int)) = false, decide ((40 : Int) < (↑(List.length (List.map u8 a)) : Int)) = false, decide ((40 : Int) < (↑(List.length (List.map u8 a)) : Int)) = false, decide ((40 : Int) < (↑(List.length (List.map u8 a)) : Int)) = false, decide ((5 : Int) < (↑(List.length (List.map Ps.enc b)) : Int)) = true, PureC Try.prog (nat_lit 15) [] (AV.atom (Value.bool true))]) (base 77 0) Try.func3 rfl (by simp) rfl (by kernel_rfl)  (allp g0 (allp g0 (allp g0 (allp g0 (allp g1 (allp (by first | (apply of_c <;> (first | assumption | rfl | (simp at *; done) | (simp at *; omega))) | (apply red_c <;> (first | assumption | rfl | (simp at *; done) | (simp at *; omega))) | (apply lredu_c <;> (first | assumption | rfl | (simp at *; done) | (simp at *; omega))) | (apply lback_c <;> (first | assumption | rfl | (simp at *; done) | (simp at *; omega))) | (apply same1 <;> (first | assumption | rfl | (simp at *; done) | (simp at *; omega))) | (apply lives_ok <;> (first | assumption | rfl | (simp at *; done) | (simp at *; omega))) | (apply yr_loop <;> (first | assumption | rfl | (simp at *; done) | (simp at *; omega)))) allp_nil))))))
theorem yr_2 (ca cb : Option Nat) (a : List Int) (b : List Ps) (hwf : ∀ p ∈ ([] ++ b) ++ a.map ofP, 0 ≤ p.d) (hb : (([] ++ b) ++ a.map ofP).length ≤ 50) (hn : (nf (([] ++ b) ++ a.map ofP)).length ≤ 50) (hl : ∀ i, i + 1 < (nf (([] ++ b) ++ a.map ofP)).length → lcan ((nf (([] ++ b) ++ a.map ofP)).getD i default) ((nf (([] ++ b) ++ a.map ofP)).getD (i + 1) default) = false) (hnn : nf (nf (([] ++ b) ++ a.map ofP)) = nf (([] ++ b) ++ a.map ofP)) (hn2 : (nf (nf (([] ++ b) ++ a.map ofP))).length < 2 ^ 62) (ha : a.length ≤ 4294967296) (g0 : decide ((40 : Int) < (↑(List.length (List.map u8 a)) : Int)) = false) (g1 : decide ((5 : Int) < (↑(List.length (List.map Ps.enc b)) : Int)) = false) (g2 : AV.sl Mode.own (nat_lit 33) (some (nat_lit 0)) [] = AV.sl Mode.own (nat_lit 33) (some (0 : Nat)) (List.map Ps.enc [])) (g3 : decide ((23 : Nat) = (23 : Nat) ∧ (List.all (List.map Ps.enc b) fun y => List.all (AV.ecells y) plainA) = true ∧ (List.all (List.map Ps.enc b) fun y => decide (List.length (AV.ecells y) = List.length (TInfo.zero { zero := [Value.int IntKind.u8 (0 : Int), Value.int IntKind.i64 (0 : Int), Value.bool false, Value.int IntKind.u8 (0 : Int)], bytes := (24 : Nat), agg := true, kind := TK.struct [((0 : Nat), (2 : Nat)), ((2 : Nat), (1 : Nat)), ((3 : Nat), (1 : Nat))] }))) = true) = true) (g4 : decide (nat_lit 33 = (33 : TypeId) ∧ List.length (List.map Ps.enc []) + List.length (List.map Ps.enc b) ≤ (4294967296 : Nat) ∧ Oper.dst { dst := some (21 : Nat), op := Op.call { callee := Callee.builtin Builtin.append, args := #[Operand.tmp (19 : Nat), Operand.tmp (20 : Nat)], argTypes := #[(23 : Nat), (23 : Nat)] }, type := (23 : Nat), pos := "law.go:97", after := #[{ on := (0 : Nat), ground := Ground.data }, { on := (1 : Nat), ground := Ground.data }], guard := none } ≠ some (19 : Nat)) = true) (g5 : AV.sl Mode.own (nat_lit 33) (if List.length (List.map Ps.enc []) + List.length (List.map Ps.enc b) ≤ (0 : Nat) then some (0 : Nat) else none) (List.map Ps.enc [] ++ List.map Ps.enc b) = AV.sl Mode.own (nat_lit 33) (if List.length (List.map Ps.enc []) + List.length (List.map Ps.enc b) ≤ (0 : Nat) then some (0 : Nat) else none) (List.map Ps.enc ([] ++ b))) (g6 : decide ((23 : Nat) = (23 : Nat) ∧ (List.all (List.map Ps.enc (List.map ofP a)) fun y => List.all (AV.ecells y) plainA) = true ∧ (List.all (List.map Ps.enc (List.map ofP a)) fun y => decide (List.length (AV.ecells y) = List.length (TInfo.zero { zero := [Value.int IntKind.u8 (0 : Int), Value.int IntKind.i64 (0 : Int), Value.bool false, Value.int IntKind.u8 (0 : Int)], bytes := (24 : Nat), agg := true, kind := TK.struct [((0 : Nat), (2 : Nat)), ((2 : Nat), (1 : Nat)), ((3 : Nat), (1 : Nat))] }))) = true) = true) (g7 : decide (nat_lit 33 = (33 : TypeId) ∧ List.length (List.map Ps.enc ([] ++ b)) + List.length (List.map Ps.enc (List.map ofP a)) ≤ (4294967296 : Nat) ∧ Oper.dst { dst := some (24 : Nat), op := Op.call { callee := Callee.builtin Builtin.append, args := #[Operand.tmp (21 : Nat), Operand.tmp (23 : Nat)], argTypes := #[(23 : Nat), (23 : Nat)] }, type := (23 : Nat), pos := "law.go:97", after := #[{ on := (2 : Nat), ground := Ground.data }, { on := (4 : Nat), ground := Ground.data }, { on := (4 : Nat), ground := Ground.chain }], guard := none } ≠ some (21 : Nat)) = true) (g8 : AV.sl Mode.own (nat_lit 33)
    (match if List.length (List.map Ps.enc []) + List.length (List.map Ps.enc b) ≤ (0 : Nat) then some (0 : Nat) else none with
    | some c => if List.length (List.map Ps.enc ([] ++ b)) + List.length (List.map Ps.enc (List.map ofP a)) ≤ c then some c else none
    | none => none)
    (List.map Ps.enc ([] ++ b) ++ List.map Ps.enc (List.map ofP a)) =
  AV.sl Mode.own (nat_lit 33)
    (match if List.length (List.map Ps.enc []) + List.length (List.map Ps.enc b) ≤ (0 : Nat) then some (0 : Nat) else none with
    | some c => if List.length (List.map Ps.enc ([] ++ b)) + List.length (List.map Ps.enc (List.map ofP a)) ≤ c then some c else none
    | none => none)
    (List.map Ps.enc ([] ++ b ++ List.map ofP a))) (g9 : decide ((0 : Int) ≤ (0 : Int) ∧ (0 : Int) ≤ (↑(List.length (List.map Ps.enc ([] ++ b ++ List.map ofP a))) : Int) ∧ (↑(List.length (List.map Ps.enc ([] ++ b ++ List.map ofP a))) : Int) ≤ (4294967296 : Int) ∧ TInfo.bytes { zero := [Value.int IntKind.u8 (0 : Int), Value.int IntKind.i64 (0 : Int), Value.bool false, Value.int IntKind.u8 (0 : Int)], bytes := (24 : Nat), agg := true, kind := TK.struct [((0 : Nat), (2 : Nat)), ((2 : Nat), (1 : Nat)), ((3 : Nat), (1 : Nat))] } ≤ (4096 : Nat) ∧ (0 : Nat) < List.length (TInfo.zero { zero := [Value.int IntKind.u8 (0 : Int), Value.int IntKind.i64 (0 : Int), Value.bool false, Value.int IntKind.u8 (0 : Int)], bytes := (24 : Nat), agg := true, kind := TK.struct [((0 : Nat), (2 : Nat)), ((2 : Nat), (1 : Nat)), ((3 : Nat), (1 : Nat))] })) = true) (g10 : AV.sl Mode.own (nat_lit 33) (some (Int.toNat (↑(List.length (List.map Ps.enc ([] ++ b ++ List.map ofP a))) : Int))) [] = AV.sl Mode.own (nat_lit 33) (some (Int.toNat (↑(List.length (List.map Ps.enc ([] ++ b ++ List.map ofP a))) : Int))) (List.map Ps.enc (List.replicate (Int.toNat (0 : Int)) { y := (0 : Int), n := (0 : Int), f := false, d := (0 : Int) }))) (g11 : decide ((23 : Nat) = (23 : Nat) ∧ (List.all (List.map Ps.enc ([] ++ b ++ List.map ofP a)) fun y => List.all (AV.ecells y) plainA) = true ∧ (List.all (List.map Ps.enc ([] ++ b ++ List.map ofP a)) fun y => decide (List.length (AV.ecells y) = List.length (TInfo.zero { zero := [Value.int IntKind.u8 (0 : Int), Value.int IntKind.i64 (0 : Int), Value.bool false, Value.int IntKind.u8 (0 : Int)], bytes := (24 : Nat), agg := true, kind := TK.struct [((0 : Nat), (2 : Nat)), ((2 : Nat), (1 : Nat)), ((3 : Nat), (1 : Nat))] }))) = true) = true) (g12 : decide (nat_lit 33 = (33 : TypeId) ∧ List.length (List.map Ps.enc (List.replicate (Int.toNat (0 : Int)) { y := (0 : Int), n := (0 : Int), f := false, d := (0 : Int) })) + List.length (List.map Ps.enc ([] ++ b ++ List.map ofP a)) ≤ (4294967296 : Nat) ∧ Oper.dst { dst := some (29 : Nat), op := Op.call { callee := Callee.builtin Builtin.append, args := #[Operand.tmp (27 : Nat), Operand.tmp (28 : Nat)], argTypes := #[(23 : Nat), (23 : Nat)] }, type := (23 : Nat), pos := "law.go:98", after := #[{ on := (2 : Nat), ground := Ground.data }, { on := (3 : Nat), ground := Ground.data }], guard := none } ≠ some (27 : Nat)) = true) (g13 : AV.sl Mode.own (nat_lit 33) (if List.length (List.map Ps.enc (List.replicate (Int.toNat (0 : Int)) { y := (0 : Int), n := (0 : Int), f := false, d := (0 : Int) })) + List.length (List.map Ps.enc ([] ++ b ++ List.map ofP a)) ≤ Int.toNat (↑(List.length (List.map Ps.enc ([] ++ b ++ List.map ofP a))) : Int) then some (Int.toNat (↑(List.length (List.map Ps.enc ([] ++ b ++ List.map ofP a))) : Int)) else none) (List.map Ps.enc (List.replicate (Int.toNat (0 : Int)) { y := (0 : Int), n := (0 : Int), f := false, d := (0 : Int) }) ++ List.map Ps.enc ([] ++ b ++ List.map ofP a)) = AV.sl Mode.own (nat_lit 33) (some (Int.toNat (↑(List.length (List.map Ps.enc ([] ++ b ++ List.map ofP a))) : Int))) (List.map Ps.enc (List.replicate (Int.toNat (0 : Int)) { y := (0 : Int), n := (0 : Int), f := false, d := (0 : Int) } ++ ([] ++ b ++ List.map ofP a)))) (g14 : decide ((true || false) = true → noAny (12 : Nat) (AV.sl Mode.own (nat_lit 33) (some (List.length (nf ([] ++ b ++ List.map ofP a)))) (List.map Ps.enc (nf ([] ++ b ++ List.map ofP a)))) = true) = true) (g15 : decide ((true || false) = true → noAny (12 : Nat) (AV.sl Mode.own (nat_lit 33) none (List.map Ps.enc (nf ([] ++ b ++ List.map ofP a)))) = true) = true) (g16 : decide ((true || false) = true → noAny (12 : Nat) (AV.sl Mode.own (nat_lit 33) (some (List.length (nf (nf ([] ++ b ++ List.map ofP a))))) (List.map Ps.enc (nf (nf ([] ++ b ++ List.map ofP a))))) = true) = true) : PureC Try.prog 3 [pl ca a, sl cb b]  (AV.atom (Value.bool true)) :=
  funA_ok (H := h3) (n := 77) (ans := [Ans.c, Ans.c, Ans.c, Ans.c, Ans.c, Ans.b false, Ans.c, Ans.b false, Ans.c, Ans.b false, Ans.c, Ans.b false, Ans.c, Ans.b false, Ans.r (AV.sl Mode.own (nat_lit 33) (some (0 : Nat)) (List.map Ps.enc [])), Ans.c, Ans.b true, Ans.b true, Ans.r (AV.sl Mode.own (nat_lit 33) (if List.length (List.map Ps.enc []) + List.length (List.map Ps.enc b) ≤ (0 : Nat) then some (0 : Nat) else none) (List.map Ps.enc ([] ++ b))), Ans.c, Ans.r (AV.sl Mode.any (nat_lit 89) ca (List.map u8 a)), Ans.r (AV.sl Mode.own (nat_lit 33) none (List.map Ps.enc (List.map ofP a))), Ans.c, Ans.c, Ans.b true, Ans.b true, Ans.r
  (AV.sl Mode.own (nat_lit 33)
    (match if List.length (List.map Ps.enc []) + List.length (List.map Ps.enc b) ≤ (0 : Nat) then some (0 : Nat) else none with
    | some c => if List.length (List.map Ps.enc ([] ++ b)) + List.length (List.map Ps.enc (List.map ofP a)) ≤ c then some c else none
    | none => none)
    (List.map Ps.enc ([] ++ b ++ List.map ofP a))), Ans.c, Ans.c, Ans.c, Ans.b true, Ans.r (AV.sl Mode.own (nat_lit 33) (some (Int.toNat (↑(List.length (List.map Ps.enc ([] ++ b ++ List.map ofP a))) : Int))) (List.map Ps.enc (List.replicate (Int.toNat (0 : Int)) { y := (0 : Int), n := (0 : Int), f := false, d := (0 : Int) }))), Ans.c, Ans.b true, Ans.b true, Ans.r (AV.sl Mode.own (nat_lit 33) (some (Int.toNat (↑(List.length (List.map Ps.enc ([] ++ b ++ List.map ofP a))) : Int))) (List.map Ps.enc (List.replicate (Int.toNat (0 : Int)) { y := (0 : Int), n := (0 : Int), f := false, d := (0 : Int) } ++ ([] ++ b ++ List.map ofP a)))), Ans.c, Ans.c, Ans.r
  (AV.sl Mode.any (nat_lit 33)
    (match if List.length (List.map Ps.enc []) + List.length (List.map Ps.enc b) ≤ (0 : Nat) then some (0 : Nat) else none with
    | some c => if List.length (List.map Ps.enc ([] ++ b)) + List.length (List.map Ps.enc (List.map ofP a)) ≤ c then some c else none
    | none => none)
    (List.map Ps.enc ([] ++ b ++ List.map ofP a))), Ans.r (AV.sl Mode.own (nat_lit 33) (some (List.length (nf ([] ++ b ++ List.map ofP a)))) (List.map Ps.enc (nf ([] ++ b ++ List.map ofP a)))), Ans.b true, Ans.c, Ans.c, Ans.c, Ans.r
  (AV.sl Mode.any (nat_lit 33)
    (match if List.length (List.map Ps.enc []) + List.length (List.map Ps.enc b) ≤ (0 : Nat) then some (0 : Nat) else none with
    | some c => if List.length (List.map Ps.enc ([] ++ b)) + List.length (List.map Ps.enc (List.map ofP a)) ≤ c then some c else none
    | none => none)
    (List.map Ps.enc ([] ++ b ++ List.map ofP a))), Ans.r (AV.sl Mode.own (nat_lit 33) (some (List.length (nf ([] ++ b ++ List.map ofP a)))) (List.map Ps.enc (nf ([] ++ b ++ List.map ofP a)))), Ans.b true, Ans.c, Ans.c, Ans.c, Ans.c, Ans.r (AV.sl Mode.any (nat_lit 33) (some (List.length (nf ([] ++ b ++ List.map ofP a)))) (List.map Ps.enc (nf ([] ++ b ++ List.map ofP a)))), Ans.r (AV.sl Mode.any (nat_lit 33) (some (List.length (nf ([] ++ b ++ List.map ofP a)))) (List.map Ps.enc (nf ([] ++ b ++ List.map ofP a)))), Ans.r (AV.atom (Value.int IntKind.i64 (1 : Int))), Ans.c, Ans.c, Ans.c, Ans.c, Ans.c, Ans.c, Ans.c, Ans.c, Ans.c, Ans.r
  (AV.sl Mode.any (nat_lit 33)
    (match if List.length (List.map Ps.enc []) + List.length (List.map Ps.enc b) ≤ (0 : Nat) then some (0 : Nat) else none with
    | some c => if List.length (List.map Ps.enc ([] ++ b)) + List.length (List.map Ps.enc (List.map ofP a)) ≤ c then some c else none
    | none => none)
    (List.map Ps.enc ([] ++ b ++ List.map ofP a))), Ans.r (AV.sl Mode.own (nat_lit 33) none (List.map Ps.enc (nf ([] ++ b ++ List.map ofP a)))), Ans.b true, Ans.c, Ans.c, Ans.r (AV.sl Mode.any (nat_lit 33) (some (List.length (nf ([] ++ b ++ List.map ofP a)))) (List.map Ps.enc (nf ([] ++ b ++ List.map ofP a)))), Ans.r (AV.sl Mode.any (nat_lit 33) none (List.map Ps.enc (nf ([] ++ b ++ List.map ofP a)))), Ans.r (AV.atom (Value.int IntKind.i64 (1 : Int))), Ans.c, Ans.c, Ans.c, Ans.c, Ans.c, Ans.c, Ans.c, Ans.c, Ans.c, Ans.c, Ans.c, Ans.c, Ans.r (AV.sl Mode.any (nat_lit 33) (some (Int.toNat (↑(List.length (List.map Ps.enc ([] ++ b ++ List.map ofP a))) : Int))) (List.map Ps.enc (List.replicate (Int.toNat (0 : Int)) { y := (0 : Int), n := (0 : Int), f := false, d := (0 : Int) } ++ ([] ++ b ++ List.map ofP a)))), Ans.r
  (AV.sl Mode.any (nat_lit 33)
    (match if List.length (List.map Ps.enc []) + List.length (List.map Ps.enc b) ≤ (0 : Nat) then some (0 : Nat) else none with
    | some c => if List.length (List.map Ps.enc ([] ++ b)) + List.length (List.map Ps.enc (List.map ofP a)) ≤ c then some c else none
    | none => none)
    (List.map Ps.enc ([] ++ b ++ List.map ofP a))), Ans.r (AV.atom (Value.int IntKind.i64 (1 : Int))), Ans.c, Ans.c, Ans.c, Ans.c, Ans.c, Ans.c, Ans.c, Ans.c, Ans.lp (Ex.exit (nat_lit 0)) [(nat_lit 7, AV.sl Mode.own (nat_lit 33) (some (List.length (nf ([] ++ b ++ List.map ofP a)))) (List.map Ps.enc (nf ([] ++ b ++ List.map ofP a))))], Ans.c, Ans.r (AV.sl Mode.any (nat_lit 33) (some (List.length (nf ([] ++ b ++ List.map ofP a)))) (List.map Ps.enc (nf ([] ++ b ++ List.map ofP a)))), Ans.r (AV.sl Mode.own (nat_lit 33) (some (List.length (nf (nf ([] ++ b ++ List.map ofP a))))) (List.map Ps.enc (nf (nf ([] ++ b ++ List.map ofP a))))), Ans.b true, Ans.c, Ans.c, Ans.r (AV.sl Mode.any (nat_lit 33) (some (List.length (nf (nf ([] ++ b ++ List.map ofP a))))) (List.map Ps.enc (nf (nf ([] ++ b ++ List.map ofP a))))), Ans.r (AV.sl Mode.any (nat_lit 33) (some (List.length (nf ([] ++ b ++ List.map ofP a)))) (List.map Ps.enc (nf ([] ++ b ++ List.map ofP a)))), Ans.r (AV.atom (Value.int IntKind.i64 (1 : Int))), Ans.c, Ans.c, Ans.c, Ans.c, Ans.c, Ans.r (AV.atom (Value.bool true)), Ans.c, Ans.c, Ans.c, Ans.c, Ans.c]) (ps := [decide ((40 : Int) < (↑(List.length (List.map u8 a)) : Int)) = false, decide ((40 : Int) < (↑(List.length (List.map u8 a)) : Int)) = false, decide ((40 : Int) < (↑(List.length (List.map u8 a)) : Int)) = false, decide ((40 : Int) < (↑(List.length (List.map u8 a)) : Int)) = false, decide ((5 : Int) < (↑(List.length (List.map Ps.enc b)) : Int)) = false, AV.sl Mode.own (nat_lit 33) (some (nat_lit 0)) [] = AV.sl Mode.own (nat_lit 33) (some (0 : Nat)) (List.map Ps.enc []), decide ((23 : Nat) = (23 : Nat) ∧ (List.all (List.map Ps.enc b) fun y => List.all (AV.ecells y) plainA) = true ∧ (List.all (List.map Ps.enc b) fun y => decide (List.length (AV.ecells y) = List.length (TInfo.zero { zero := [Value.int IntKind.u8 (0 : Int), Value.int IntKind.i64 (0 : Int), Value.bool false, Value.int IntKind.u8 (0 : Int)], bytes := (24 : Nat), agg := true, kind := TK.struct [((0 : Nat), (2 : Nat)), ((2 : Nat), (1 : Nat)), ((3 : Nat), (1 : Nat))] }))) = true) = true, decide (nat_lit 33 = (33 : TypeId) ∧ List.length (List.map Ps.enc []) + List.length (List.map Ps.enc b) ≤ (4294967296 : Nat) ∧ Oper.dst { dst := some (21 : Nat), op := Op.call { callee := Callee.builtin Builtin.append, args := #[Operand.tmp (19 : Nat), Operand.tmp (20 : Nat)], argTypes := #[(23 : Nat), (23 : Nat)] }, type := (23 : Nat), pos := "law.go:97", after := #[{ on := (0 : Nat), ground := Ground.data }, { on := (1 : Nat), ground := Ground.data }], guard := none } ≠ some (19 : Nat)) = true, AV.sl Mode.own (nat_lit 33) (if List.length (List.map Ps.enc []) + List.length (List.map Ps.enc b) ≤ (0 : Nat) then some (0 : Nat) else none) (List.map Ps.enc [] ++ List.map Ps.enc b) = AV.sl Mode.own (nat_lit 33) (if List.length (List.map Ps.enc []) + List.length (List.map Ps.enc b) ≤ (0 : Nat) then some (0 : Nat) else none) (List.map Ps.enc ([] ++ b)), view (AV.sl Mode.any (nat_lit 89) ca (List.map u8 a)) = AV.sl Mode.any (nat_lit 89) ca (List.map u8 a), PureC Try.prog (nat_lit 16) [AV.sl Mode.any (nat_lit 89) ca (List.map u8 a)] (AV.sl Mode.own (nat_lit 33) none (List.map Ps.enc (List.map ofP a))), decide ((23 : Nat) = (23 : Nat) ∧ (List.all (List.map Ps.enc (List.map ofP a)) fun y => List.all (AV.ecells y) plainA) = true ∧ (List.all (List.map Ps.enc (List.map ofP a)) fun y => decide (List.length (AV.ecells y) = List.length (TInfo.zero { zero := [Value.int IntKind.u8 (0 : Int), Value.int IntKind.i64 (0 : Int), Value.bool false, Value.int IntKind.u8 (0 : Int)], bytes := (24 : Nat), agg := true, kind := TK.struct [((0 : Nat), (2 : Nat)), ((2 : Nat), (1 : Nat)), ((3 : Nat), (1 : Nat))] }))) = true) = true, decide (nat_lit 33 = (33 : TypeId) ∧ List.length (List.map Ps.enc ([] ++ b)) + List.length (List.map Ps.enc (List.map ofP a)) ≤ (4294967296 : Nat) ∧ Oper.dst { dst := some (24 : Nat), op := Op.call { callee := Callee.builtin Builtin.append, args := #[Operand.tmp (21 : Nat), Operand.tmp (23 : Nat)], argTypes := #[(23 : Nat), (23 : Nat)] }, type := (23 : Nat), pos := "law.go:97", after := #[{ on := (2 : Nat), ground := Ground.data }, { on := (4 : Nat), ground := Ground.data }, { on := (4 : Nat), ground := Ground.chain }], guard := none } ≠ some (21 : Nat)) = true, AV.sl Mode.own (nat_lit 33)
    (match if List.length (List.map Ps.enc []) + List.length (List.map Ps.enc b) ≤ (0 : Nat) then some (0 : Nat) else none with
    | some c => if List.length (List.map Ps.enc ([] ++ b)) + List.length (List.map Ps.enc (List.map ofP a)) ≤ c then some c else none
    | none => none)
    (List.map Ps.enc ([] ++ b) ++ List.map Ps.enc (List.map ofP a)) =
  AV.sl Mode.own (nat_lit 33)
    (match if List.length (List.map Ps.enc []) + List.length (List.map Ps.enc b) ≤ (0 : Nat) then some (0 : Nat) else none with
    | some c => if List.length (List.map Ps.enc ([] ++ b)) + List.length (List.map Ps.enc (List.map ofP a)) ≤ c then some c else none
    | none => none)
    (List.map Ps.enc ([] ++ b ++ List.map ofP a)), decide ((0 : Int) ≤ (0 : Int) ∧ (0 : Int) ≤ (↑(List.length (List.map Ps.enc ([] ++ b ++ List.map ofP a))) : Int) ∧ (↑(List.length (List.map Ps.enc ([] ++ b ++ List.map ofP a))) : Int) ≤ (4294967296 : Int) ∧ TInfo.bytes { zero := [Value.int IntKind.u8 (0 : Int), Value.int IntKind.i64 (0 : Int), Value.bool false, Value.int IntKind.u8 (0 : Int)], bytes := (24 : Nat), agg := true, kind := TK.struct [((0 : Nat), (2 : Nat)), ((2 : Nat), (1 : Nat)), ((3 : Nat), (1 : Nat))] } ≤ (4096 : Nat) ∧ (0 : Nat) < List.length (TInfo.zero { zero := [Value.int IntKind.u8 (0 : Int), Value.int IntKind.i64 (0 : Int), Value.bool false, Value.int IntKind.u8 (0 : Int)], bytes := (24 : Nat), agg := true, kind := TK.struct [((0 : Nat), (2 : Nat)), ((2 : Nat), (1 : Nat)), ((3 : Nat), (1 : Nat))] })) = true, AV.sl Mode.own (nat_lit 33) (some (Int.toNat (↑(List.length (List.map Ps.enc ([] ++ b ++ List.map ofP a))) : Int))) [] = AV.sl Mode.own (nat_lit 33) (some (Int.toNat (↑(List.length (List.map Ps.enc ([] ++ b ++ List.map ofP a))) : Int))) (List.map Ps.enc (List.replicate (Int.toNat (0 : Int)) { y := (0 : Int), n := (0 : Int), f := false, d := (0 : Int) })), decide ((23 : Nat) = (23 : Nat) ∧ (List.all (List.map Ps.enc ([] ++ b ++ List.map ofP a)) fun y => List.all (AV.ecells y) plainA) = true ∧ (List.all (List.map Ps.enc ([] ++ b ++ List.map ofP a)) fun y => decide (List.length (AV.ecells y) = List.length (TInfo.zero { zero := [Value.int IntKind.u8 (0 : Int), Value.int IntKind.i64 (0 : Int), Value.bool false, Value.int IntKind.u8 (0 : Int)], bytes := (24 : Nat), agg := true, kind := TK.struct [((0 : Nat), (2 : Nat)), ((2 : Nat), (1 : Nat)), ((3 : Nat), (1 : Nat))] }))) = true) = true, decide (nat_lit 33 = (33 : TypeId) ∧ List.length (List.map Ps.enc (List.replicate (Int.toNat (0 : Int)) { y := (0 : Int), n := (0 : Int), f := false, d := (0 : Int) })) + List.length (List.map Ps.enc ([] ++ b ++ List.map ofP a)) ≤ (4294967296 : Nat) ∧ Oper.dst { dst := some (29 : Nat), op := Op.call { callee := Callee.builtin Builtin.append, args := #[Operand.tmp (27 : Nat), Operand.tmp (28 : Nat)], argTypes := #[(23 : Nat), (23 : Nat)] }, type := (23 : Nat), pos := "law.go:98", after := #[{ on := (2 : Nat), ground := Ground.data }, { on := (3 : Nat), ground := Ground.data }], guard := none } ≠ some (27 : Nat)) = true, AV.sl Mode.own (nat_lit 33) (if List.length (List.map Ps.enc (List.replicate (Int.toNat (0 : Int)) { y := (0 : Int), n := (0 : Int), f := false, d := (0 : Int) })) + List.length (List.map Ps.enc ([] ++ b ++ List.map ofP a)) ≤ Int.toNat (↑(List.length (List.map Ps.enc ([] ++ b ++ List.map ofP a))) : Int) then some (Int.toNat (↑(List.length (List.map Ps.enc ([] ++ b ++ List.map ofP a))) : Int)) else none) (List.map Ps.enc (List.replicate (Int.toNat (0 : Int)) { y := (0 : Int), n := (0 : Int), f := false, d := (0 : Int) }) ++ List.map Ps.enc ([] ++ b ++ List.map ofP a)) = AV.sl Mode.own (nat_lit 33) (some (Int.toNat (↑(List.length (List.map Ps.enc ([] ++ b ++ List.map ofP a))) : Int))) (List.map Ps.enc (List.replicate (Int.toNat (0 : Int)) { y := (0 : Int), n := (0 : Int), f := false, d := (0 : Int) } ++ ([] ++ b ++ List.map ofP a))), view
    (AV.sl Mode.own (nat_lit 33)
      (match if List.length (List.map Ps.enc []) + List.length (List.map Ps.enc b) ≤ (0 : Nat) then some (0 : Nat) else none with
      | some c => if List.length (List.map Ps.enc ([] ++ b)) + List.length (List.map Ps.enc (List.map ofP a)) ≤ c then some c else none
      | none => none)
      (List.map Ps.enc ([] ++ b ++ List.map ofP a))) =
  AV.sl Mode.any (nat_lit 33)
    (match if List.length (List.map Ps.enc []) + List.length (List.map Ps.enc b) ≤ (0 : Nat) then some (0 : Nat) else none with
    | some c => if List.length (List.map Ps.enc ([] ++ b)) + List.length (List.map Ps.enc (List.map ofP a)) ≤ c then some c else none
    | none => none)
    (List.map Ps.enc ([] ++ b ++ List.map ofP a)), PureC Try.prog (nat_lit 17)
  [AV.sl Mode.any (nat_lit 33)
      (match if List.length (List.map Ps.enc []) + List.length (List.map Ps.enc b) ≤ (0 : Nat) then some (0 : Nat) else none with
      | some c => if List.length (List.map Ps.enc ([] ++ b)) + List.length (List.map Ps.enc (List.map ofP a)) ≤ c then some c else none
      | none => none)
      (List.map Ps.enc ([] ++ b ++ List.map ofP a))]
  (AV.sl Mode.own (nat_lit 33) (some (List.length (nf ([] ++ b ++ List.map ofP a)))) (List.map Ps.enc (nf ([] ++ b ++ List.map ofP a)))), decide ((true || false) = true → noAny (12 : Nat) (AV.sl Mode.own (nat_lit 33) (some (List.length (nf ([] ++ b ++ List.map ofP a)))) (List.map Ps.enc (nf ([] ++ b ++ List.map ofP a)))) = true) = true, view
    (AV.sl Mode.own (nat_lit 33)
      (match if List.length (List.map Ps.enc []) + List.length (List.map Ps.enc b) ≤ (0 : Nat) then some (0 : Nat) else none with
      | some c => if List.length (List.map Ps.enc ([] ++ b)) + List.length (List.map Ps.enc (List.map ofP a)) ≤ c then some c else none
      | none => none)
      (List.map Ps.enc ([] ++ b ++ List.map ofP a))) =
  AV.sl Mode.any (nat_lit 33)
    (match if List.length (List.map Ps.enc []) + List.length (List.map Ps.enc b) ≤ (0 : Nat) then some (0 : Nat) else none with
    | some c => if List.length (List.map Ps.enc ([] ++ b)) + List.length (List.map Ps.enc (List.map ofP a)) ≤ c then some c else none
    | none => none)
    (List.map Ps.enc ([] ++ b ++ List.map ofP a)), PureC Try.prog (nat_lit 18)
  [AV.sl Mode.any (nat_lit 33)
      (match if List.length (List.map Ps.enc []) + List.length (List.map Ps.enc b) ≤ (0 : Nat) then some (0 : Nat) else none with
      | some c => if List.length (List.map Ps.enc ([] ++ b)) + List.length (List.map Ps.enc (List.map ofP a)) ≤ c then some c else none
      | none => none)
      (List.map Ps.enc ([] ++ b ++ List.map ofP a))]
  (AV.sl Mode.own (nat_lit 33) (some (List.length (nf ([] ++ b ++ List.map ofP a)))) (List.map Ps.enc (nf ([] ++ b ++ List.map ofP a)))), decide ((true || false) = true → noAny (12 : Nat) (AV.sl Mode.own (nat_lit 33) (some (List.length (nf ([] ++ b ++ List.map ofP a)))) (List.map Ps.enc (nf ([] ++ b ++ List.map ofP a)))) = true) = true, view (AV.sl Mode.own (nat_lit 33) (some (List.length (nf ([] ++ b ++ List.map ofP a)))) (List.map Ps.enc (nf ([] ++ b ++ List.map ofP a)))) = AV.sl Mode.any (nat_lit 33) (some (List.length (nf ([] ++ b ++ List.map ofP a)))) (List.map Ps.enc (nf ([] ++ b ++ List.map ofP a))), view (AV.sl Mode.own (nat_lit 33) (some (List.length (nf ([] ++ b ++ List.map ofP a)))) (List.map Ps.enc (nf ([] ++ b ++ List.map ofP a)))) = AV.sl Mode.any (nat_lit 33) (some (List.length (nf ([] ++ b ++ List.map ofP a)))) (List.map Ps.enc (nf ([] ++ b ++ List.map ofP a))), PureC Try.prog (nat_lit 19) [AV.sl Mode.any (nat_lit 33) (some (List.length (nf ([] ++ b ++ List.map ofP a)))) (List.map Ps.enc (nf ([] ++ b ++ List.map ofP a))), AV.sl Mode.any (nat_lit 33) (some (List.length (nf ([] ++ b ++ List.map ofP a)))) (List.map Ps.enc (nf ([] ++ b ++ List.map ofP a)))] (AV.atom (Value.int IntKind.i64 (1 : Int))), view
    (AV.sl Mode.own (nat_lit 33)
      (match if List.length (List.map Ps.enc []) + List.length (List.map Ps.enc b) ≤ (0 : Nat) then some (0 : Nat) else none with
      | some c => if List.length (List.map Ps.enc ([] ++ b)) + List.length (List.map Ps.enc (List.map ofP a)) ≤ c then some c else none
      | none => none)
      (List.map Ps.enc ([] ++ b ++ List.map ofP a))) =
  AV.sl Mode.any (nat_lit 33)
    (match if List.length (List.map Ps.enc []) + List.length (List.map Ps.enc b) ≤ (0 : Nat) then some (0 : Nat) else none with
    | some c => if List.length (List.map Ps.enc ([] ++ b)) + List.length (List.map Ps.enc (List.map ofP a)) ≤ c then some c else none
    | none => none)
    (List.map Ps.enc ([] ++ b ++ List.map ofP a)), PureC Try.prog (nat_lit 20)
  [AV.sl Mode.any (nat_lit 33)
      (match if List.length (List.map Ps.enc []) + List.length (List.map Ps.enc b) ≤ (0 : Nat) then some (0 : Nat) else none with
      | some c => if List.length (List.map Ps.enc ([] ++ b)) + List.length (List.map Ps.enc (List.map ofP a)) ≤ c then some c else none
      | none => none)
      (List.map Ps.enc ([] ++ b ++ List.map ofP a))]
  (AV.sl Mode.own (nat_lit 33) none (List.map Ps.enc (nf ([] ++ b ++ List.map ofP a)))), decide ((true || false) = true → noAny (12 : Nat) (AV.sl Mode.own (nat_lit 33) none (List.map Ps.enc (nf ([] ++ b ++ List.map ofP a)))) = true) = true, view (AV.sl Mode.own (nat_lit 33) (some (List.length (nf ([] ++ b ++ List.map ofP a)))) (List.map Ps.enc (nf ([] ++ b ++ List.map ofP a)))) = AV.sl Mode.any (nat_lit 33) (some (List.length (nf ([] ++ b ++ List.map ofP a)))) (List.map Ps.enc (nf ([] ++ b ++ List.map ofP a))), view (AV.sl Mode.own (nat_lit 33) none (List.map Ps.enc (nf ([] ++ b ++ List.map ofP a)))) = AV.sl Mode.any (nat_lit 33) none (List.map Ps.enc (nf ([] ++ b ++ List.map ofP a))), PureC Try.prog (nat_lit 19) [AV.sl Mode.any (nat_lit 33) (some (List.length (nf ([] ++ b ++ List.map ofP a)))) (List.map Ps.enc (nf ([] ++ b ++ List.map ofP a))), AV.sl Mode.any (nat_lit 33) none (List.map Ps.enc (nf ([] ++ b ++ List.map ofP a)))] (AV.atom (Value.int IntKind.i64 (1 : Int))), view (AV.sl Mode.own (nat_lit 33) (some (Int.toNat (↑(List.length (List.map Ps.enc ([] ++ b ++ List.map ofP a))) : Int))) (List.map Ps.enc (List.replicate (Int.toNat (0 : Int)) { y := (0 : Int), n := (0 : Int), f := false, d := (0 : Int) } ++ ([] ++ b ++ List.map ofP a)))) = AV.sl Mode.any (nat_lit 33) (some (Int.toNat (↑(List.length (List.map Ps.enc ([] ++ b ++ List.map ofP a))) : Int))) (List.map Ps.enc (List.replicate (Int.toNat (0 : Int)) { y := (0 : Int), n := (0 : Int), f := false, d := (0 : Int) } ++ ([] ++ b ++ List.map ofP a))), view
    (AV.sl Mode.own (nat_lit 33)
      (match if List.length (List.map Ps.enc []) + List.length (List.map Ps.enc b) ≤ (0 : Nat) then some (0 : Nat) else none with
      | some c => if List.length (List.map Ps.enc ([] ++ b)) + List.length (List.map Ps.enc (List.map ofP a)) ≤ c then some c else none
      | none => none)
      (List.map Ps.enc ([] ++ b ++ List.map ofP a))) =
  AV.sl Mode.any (nat_lit 33)
    (match if List.length (List.map Ps.enc []) + List.length (List.map Ps.enc b) ≤ (0 : Nat) then some (0 : Nat) else none with
    | some c => if List.length (List.map Ps.enc ([] ++ b)) + List.length (List.map Ps.enc (List.map ofP a)) ≤ c then some c else none
    | none => none)
    (List.map Ps.enc ([] ++ b ++ List.map ofP a)), PureC Try.prog (nat_lit 19)
  [AV.sl Mode.any (nat_lit 33) (some (Int.toNat (↑(List.length (List.map Ps.enc ([] ++ b ++ List.map ofP a))) : Int))) (List.map Ps.enc (List.replicate (Int.toNat (0 : Int)) { y := (0 : Int), n := (0 : Int), f := false, d := (0 : Int) } ++ ([] ++ b ++ List.map ofP a))),
    AV.sl Mode.any (nat_lit 33)
      (match if List.length (List.map Ps.enc []) + List.length (List.map Ps.enc b) ≤ (0 : Nat) then some (0 : Nat) else none with
      | some c => if List.length (List.map Ps.enc ([] ++ b)) + List.length (List.map Ps.enc (List.map ofP a)) ≤ c then some c else none
      | none => none)
      (List.map Ps.enc ([] ++ b ++ List.map ofP a))]
  (AV.atom (Value.int IntKind.i64 (1 : Int))), Tri Try.prog (cxN (77 : Nat) (0 : Nat)) (Code.loop (loopBody Try.f3 (0 : Nat))) [(nat_lit 7, AV.sl Mode.own (nat_lit 33) (some (List.length (nf ([] ++ b ++ List.map ofP a)))) (List.map Ps.enc (nf ([] ++ b ++ List.map ofP a)))), (nat_lit 9, AV.atom (Value.int IntKind.i64 (0 : Int)))] (Ex.exit (nat_lit 0)) [(nat_lit 7, AV.sl Mode.own (nat_lit 33) (some (List.length (nf ([] ++ b ++ List.map ofP a)))) (List.map Ps.enc (nf ([] ++ b ++ List.map ofP a))))], view (AV.sl Mode.own (nat_lit 33) (some (List.length (nf ([] ++ b ++ List.map ofP a)))) (List.map Ps.enc (nf ([] ++ b ++ List.map ofP a)))) = AV.sl Mode.any (nat_lit 33) (some (List.length (nf ([] ++ b ++ List.map ofP a)))) (List.map Ps.enc (nf ([] ++ b ++ List.map ofP a))), PureC Try.prog (nat_lit 17) [AV.sl Mode.any (nat_lit 33) (some (List.length (nf ([] ++ b ++ List.map ofP a)))) (List.map Ps.enc (nf ([] ++ b ++ List.map ofP a)))] (AV.sl Mode.own (nat_lit 33) (some (List.length (nf (nf ([] ++ b ++ List.map ofP a))))) (List.map Ps.enc (nf (nf ([] ++ b ++ List.map ofP a))))), decide ((true || false) = true → noAny (12 : Nat) (AV.sl Mode.own (nat_lit 33) (some (List.length (nf (nf ([] ++ b ++ List.map ofP a))))) (List.map Ps.enc (nf (nf ([] ++ b ++ List.map ofP a))))) = true) = true, view (AV.sl Mode.own (nat_lit 33) (some (List.length (nf (nf ([] ++ b ++ List.map ofP a))))) (List.map Ps.enc (nf (nf ([] ++ b ++ List.map ofP a))))) = AV.sl Mode.any (nat_lit 33) (some (List.length (nf (nf ([] ++ b ++ List.map ofP a))))) (List.map Ps.enc (nf (nf ([] ++ b ++ List.map ofP a)))), view (AV.sl Mode.own (nat_lit 33) (some (List.length (nf ([] ++ b ++ List.map ofP a)))) (List.map Ps.enc (nf ([] ++ b ++ List.map ofP a)))) = AV.sl Mode.any (nat_lit 33) (some (List.length (nf ([] ++ b ++ List.map ofP a)))) (List.map Ps.enc (nf ([] ++ b ++ List.map ofP a))), PureC Try.prog (nat_lit 19) [AV.sl Mode.any (nat_lit 33) (some (List.length (nf (nf ([] ++ b ++ List.map ofP a))))) (List.map Ps.enc (nf (nf ([] ++ b ++ List.map ofP a)))), AV.sl Mode.any (nat_lit 33) (some (List.length (nf ([] ++ b ++ List.map ofP a)))) (List.map Ps.enc (nf ([] ++ b ++ List.map ofP a)))] (AV.atom (Value.int IntKind.i64 (1 : Int))), PureC Try.prog (nat_lit 15) [] (AV.atom (Value.bool true))]) (base 77 0) Try.func3 rfl (by simp) rfl (by kernel_rfl)  (allp g0 (allp g0 (allp g0 (allp g0 (allp g1 (allp g2 (allp g3 (allp g4 (allp g5 (allp (by first | exact view_ps _ _ _ | exact view_u8 _ _ _ | rfl) (allp (by first | (apply of_c <;> (first | assumption | rfl | (simp at *; done) | (simp at *; omega))) | (apply red_c <;> (first | assumption | rfl | (simp at *; done) | (simp at *; omega))) | (apply lredu_c <;> (first | assumption | rfl | (simp at *; done) | (simp at *; omega))) | (apply lback_c <;> (first | assumption | rfl | (simp at *; done) | (simp at *; omega))) | (apply same1 <;> (first | assumption | rfl | (simp at *; done) | (simp at *; omega))) | (apply lives_ok <;> (first | assumption | rfl | (simp at *; done) | (simp at *; omega))) | (apply yr_loop <;> (first | assumption | rfl | (simp at *; done) | (simp at *; omega)))) (allp g6 (allp g7 (allp g8 (allp g9 (allp g10 (allp g11 (allp g12 (allp g13 (allp (by first | exact view_ps _ _ _ | exact view_u8 _ _ _ | rfl) (allp (by first | (apply of_c <;> (first | assumption | rfl | (simp at *; done) | (simp at *; omega))) | (apply red_c <;> (first | assumption | rfl | (simp at *; done) | (simp at *; omega))) | (apply lredu_c <;> (first | assumption | rfl | (simp at *; done) | (simp at *; omega))) | (apply lback_c <;> (first | assumption | rfl | (simp at *; done) | (simp at *; omega))) | (apply same1 <;> (first | assumption | rfl | (simp at *; done) | (simp at *; omega))) | (apply lives_ok <;> (first | assumption | rfl | (simp at *; done) | (simp at *; omega))) | (apply yr_loop <;> (first | assumption | rfl | (simp at *; done) | (simp at *; omega)))) (allp g14 (allp (by first | exact view_ps _ _ _ | exact view_u8 _ _ _ | rfl) (allp (by first | (apply of_c <;> (first | assumption | rfl | (simp at *; done) | (simp at *; omega))) | (apply red_c <;> (first | assumption | rfl | (simp at *; done) | (simp at *; omega))) | (apply lredu_c <;> (first | assumption | rfl | (simp at *; done) | (simp at *; omega))) | (apply lback_c <;> (first | assumption | rfl | (simp at *; done) | (simp at *; omega))) | (apply same1 <;> (first | assumption | rfl | (simp at *; done) | (simp at *; omega))) | (apply lives_ok <;> (first | assumption | rfl | (simp at *; done) | (simp at *; omega))) | (apply yr_loop <;> (first | assumption | rfl | (simp at *; done) | (simp at *; omega)))) (allp g14 (allp (by first | exact view_ps _ _ _ | exact view_u8 _ _ _ | rfl) (allp (by first | exact view_ps _ _ _ | exact view_u8 _ _ _ | rfl) (allp (by first | (apply of_c <;> (first | assumption | rfl | (simp at *; done) | (simp at *; omega))) | (apply red_c <;> (first | assumption | rfl | (simp at *; done) | (simp at *; omega))) | (apply lredu_c <;> (first | assumption | rfl | (simp at *; done) | (simp at *; omega))) | (apply lback_c <;> (first | assumption | rfl | (simp at *; done) | (simp at *; omega))) | (apply same1 <;> (first | assumption | rfl | (simp at *; done) | (simp at *; omega))) | (apply lives_ok <;> (first | assumption | rfl | (simp at *; done) | (simp at *; omega))) | (apply yr_loop <;> (first | assumption | rfl | (simp at *; done) | (simp at *; omega)))) (allp (by first | exact view_ps _ _ _ | exact view_u8 _ _ _ | rfl) (allp (by first | (apply of_c <;> (first | assumption | rfl | (simp at *; done) | (simp at *; omega))) | (apply red_c <;> (first | assumption | rfl | (simp at *; done) | (simp at *; omega))) | (apply lredu_c <;> (first | assumption | rfl | (simp at *; done) | (simp at *; omega))) | (apply lback_c <;> (first | assumption | rfl | (simp at *; done) | (simp at *; omega))) | (apply same1 <;> (first | assumption | rfl | (simp at *; done) | (simp at *; omega))) | (apply lives_ok <;> (first | assumption | rfl | (simp at *; done) | (simp at *; omega))) | (apply yr_loop <;> (first | assumption | rfl | (simp at *; done) | (simp at *; omega)))) (allp g15 (allp (by first | exact view_ps _ _ _ | exact view_u8 _ _ _ | rfl) (allp (by first | exact view_ps _ _ _ | exact view_u8 _ _ _ | rfl) (allp (by first | (apply of_c <;> (first | assumption | rfl | (simp at *; done) | (simp at *; omega))) | (apply red_c <;> (first | assumption | rfl | (simp at *; done) | (simp at *; omega))) | (apply lredu_c <;> (first | assumption | rfl | (simp at *; done) | (simp at *; omega))) | (apply lback_c <;> (first | assumption | rfl | (simp at *; done) | (simp at *; omega))) | (apply same1 <;> (first | assumption | rfl | (simp at *; done) | (simp at *; omega))) | (apply lives_ok <;> (first | assumption | rfl | (simp at *; done) | (simp at *; omega))) | (apply yr_loop <;> (first | assumption | rfl | (simp at *; done) | (simp at *; omega)))) (allp (by first | exact view_ps _ _ _ | exact view_u8 _ _ _ | rfl) (allp (by first | exact view_ps _ _ _ | exact view_u8 _ _ _ | rfl) (allp (by first | (apply of_c <;> (first | assumption | rfl | (simp at *; done) | (simp at *; omega))) | (apply red_c <;> (first | assumption | rfl | (simp at *; done) | (simp at *; omega))) | (apply lredu_c <;> (first | assumption | rfl | (simp at *; done) | (simp at *; omega))) | (apply lback_c <;> (first | assumption | rfl | (simp at *; done) | (simp at *; omega))) | (apply same1 <;> (first | assumption | rfl | (simp at *; done) | (simp at *; omega))) | (apply lives_ok <;> (first | assumption | rfl | (simp at *; done) | (simp at *; omega))) | (apply yr_loop <;> (first | assumption | rfl | (simp at *; done) | (simp at *; omega)))) (allp (by first | (apply of_c <;> (first | assumption | rfl | (simp at *; done) | (simp at *; omega))) | (apply red_c <;> (first | assumption | rfl | (simp at *; done) | (simp at *; omega))) | (apply lredu_c <;> (first | assumption | rfl | (simp at *; done) | (simp at *; omega))) | (apply lback_c <;> (first | assumption | rfl | (simp at *; done) | (simp at *; omega))) | (apply same1 <;> (first | assumption | rfl | (simp at *; done) | (simp at *; omega))) | (apply lives_ok <;> (first | assumption | rfl | (simp at *; done) | (simp at *; omega))) | (apply yr_loop <;> (first | assumption | rfl | (simp at *; done) | (simp at *; omega)))) (allp (by first | exact view_ps _ _ _ | exact view_u8 _ _ _ | rfl) (allp (by first | (apply of_c <;> (first | assumption | rfl | (simp at *; done) | (simp at *; omega))) | (apply red_c <;> (first | assumption | rfl | (simp at *; done) | (simp at *; omega))) | (apply lredu_c <;> (first | assumption | rfl | (simp at *; done) | (simp at *; omega))) | (apply lback_c <;> (first | assumption | rfl | (simp at *; done) | (simp at *; omega))) | (apply same1 <;> (first | assumption | rfl | (simp at *; done) | (simp at *; omega))) | (apply lives_ok <;> (first | assumption | rfl | (simp at *; done) | (simp at *; omega))) | (apply yr_loop <;> (first | assumption | rfl | (simp at *; done) | (simp at *; omega)))) (allp g16 (allp (by first | exact view_ps _ _ _ | exact view_u8 _ _ _ | rfl) (allp (by first | exact view_ps _ _ _ | exact view_u8 _ _ _ | rfl) (allp (by first | (apply of_c <;> (first | assumption | rfl | (simp at *; done) | (simp at *; omega))) | (apply red_c <;> (first | assumption | rfl | (simp at *; done) | (simp at *; omega))) | (apply lredu_c <;> (first | assumption | rfl | (simp at *; done) | (simp at *; omega))) | (apply lback_c <;> (first | assumption | rfl | (simp at *; done) | (simp at *; omega))) | (apply same1 <;> (first | assumption | rfl | (simp at *; done) | (simp at *; omega))) | (apply lives_ok <;> (first | assumption | rfl | (simp at *; done) | (simp at *; omega))) | (apply yr_loop <;> (first | assumption | rfl | (simp at *; done) | (simp at *; omega)))) (allp (by first | (apply of_c <;> (first | assumption | rfl | (simp at *; done) | (simp at *; omega))) | (apply red_c <;> (first | assumption | rfl | (simp at *; done) | (simp at *; omega))) | (apply lredu_c <;> (first | assumption | rfl | (simp at *; done) | (simp at *; omega))) | (apply lback_c <;> (first | assumption | rfl | (simp at *; done) | (simp at *; omega))) | (apply same1 <;> (first | assumption | rfl | (simp at *; done) | (simp at *; omega))) | (apply lives_ok <;> (first | assumption | rfl | (simp at *; done) | (simp at *; omega))) | (apply yr_loop <;> (first | assumption | rfl | (simp at *; done) | (simp at *; omega)))) allp_nil)))))))))))))))))))))))))))))))))))))))))))))


theorem yrA_0 (ca cb : Option Nat) (a : List Int) (b : List Ps) (g0 : decide ((40 : Int) < (↑(List.length (List.map u8 a)) : Int)) = true) : PureC Try.prog 3 [pl ca a, sl cb b]  (AV.atom (Value.bool true)) :=
  funA_ok (H := h3) (n := 77) (ans := [Ans.c, Ans.c, Ans.c, Ans.c, Ans.c, Ans.b true, Ans.b true, Ans.b true, Ans.b true, Ans.c, Ans.c, Ans.r (AV.atom (Value.bool true)), Ans.c, Ans.c, Ans.c]) (ps := [decide ((40 : Int) < (↑(List.length (List.map u8 a)) : Int)) = true, decide ((40 : Int) < (↑(List.length (List.map u8 a)) : Int)) = true, decide ((40 : Int) < (↑(List.length (List.map u8 a)) : Int)) = true, decide ((40 : Int) < (↑(List.length (List.map u8 a)) : Int)) = true, PureC Try.prog (nat_lit 15) [] (AV.atom (Value.bool true))]) (base 77 0) Try.func3 rfl (by simp) rfl (by kernel_rfl)  (allp g0 (allp g0 (allp g0 (allp g0 (allp (by first | (apply lives_ok <;> (first | assumption | rfl | (simp at *; done) | (simp at *; omega)))) allp_nil)))))
theorem yrA_1 (ca cb : Option Nat) (a : List Int) (b : List Ps) (g0 : decide ((40 : Int) < (↑(List.length (List.map u8 a)) : Int)) = false) (g1 : decide ((5 : Int) < (↑(List.length (List.map Ps.enc b)) : Int)) = true) : PureC Try.prog 3 [pl ca a, sl cb b]  (AV.atom (Value.bool true)) :=
  funA_ok (H := h3) (n := 77) (ans := [Ans.c, Ans.c, Ans.c, Ans.c, Ans.c, Ans.b false, Ans.c, Ans.b false, Ans.c, Ans.b false, Ans.c, Ans.b false, Ans.c, Ans.b true, Ans.r (AV.atom (Value.bool true)), Ans.c, Ans.c, Ans.c]) (ps := [decide ((40 : Int) < (↑(List.length (List.map u8 a)) : Int)) = false, decide ((40 : Int) < (↑(List.length (List.map u8 a)) : Int)) = false, decide ((40 : Int) < (↑(List.length (List.map u8 a)) : Int)) = false, decide ((40 : Int) < (↑(List.length (List.map u8 a)) : Int)) = false, decide ((5 : Int) < (↑(List.length (List.map Ps.enc b)) : Int)) = true, PureC Try.prog (nat_lit 15) [] (AV.atom (Value.bool true))]) (base 77 0) Try.func3 rfl (by simp) rfl (by kernel_rfl)  (allp g0 (allp g0 (allp g0 (allp g0 (allp g1 (allp (by first | (apply lives_ok <;> (first | assumption | rfl | (simp at *; done) | (simp at *; omega)))) allp_nil))))))


end Tst
end

section
open Go Go.Lf Go.Proofs
namespace Tst
theorem F2.cons' {α β : Type} {R : α → β → Prop} {x : α} {l : List α} {m : List β} (h : F2 R (x :: l) m) : ∃ y m', m = y :: m' ∧ R x y ∧ F2 R l m' := by
  cases h with
  | cons h t => exact ⟨_, _, rfl, h, t⟩
theorem F2.nil' {α β : Type} {R : α → β → Prop} {m : List β} (h : F2 R [] m) : m = [] := by cases h; rfl
section
variable {P : Program} {t : TypeId} {ys : List AV}
theorem sh_int (m : Nat) {k : IntKind} (hu : P.underlying t = some (.int k)) (h : Shape P (m + 1) t ys) : ∃ i, ys = [.atom (.int k i)] ∧ (Lit.int k i).wf = true := by
  unfold Shape at h; rw [hu] at h; exact h
theorem sh_bool (m : Nat) (hu : P.underlying t = some .bool) (h : Shape P (m + 1) t ys) : ∃ b, ys = [.atom (.bool b)] := by
  unfold Shape at h; rw [hu] at h; exact h
theorem sh_slice (m : Nat) {e : TypeId} (hu : P.underlying t = some (.slice e)) (h : Shape P (m + 1) t ys) : ∃ xs, ys = [.sl .any e none xs] ∧ xs.length ≤ maxLen ∧ ∀ x ∈ xs, ∃ cs, x = elOf P e cs ∧ cs.length = P.cellsOf e ∧ Shape P m e cs := by
  unfold Shape at h; rw [hu] at h; exact h
theorem sh_array (m : Nat) {n : Nat} {e : TypeId} (hu : P.underlying t = some (.array n e)) (h : Shape P (m + 1) t ys) : ∃ yss : List (List AV), ys = yss.flatten ∧ yss.length = n ∧ ∀ cs ∈ yss, Shape P m e cs := by
  unfold Shape at h; rw [hu] at h; exact h
theorem sh_struct (m : Nat) {fs : Array Field} (hu : P.underlying t = some (.struct fs)) (h : Shape P (m + 1) t ys) : ∃ yss : List (List AV), ys = yss.flatten ∧ F2 (fun f cs => Shape P m f.type cs) fs.toList yss := by
  unfold Shape at h; rw [hu] at h; exact h
end
theorem choose_map {α : Type} (f : α → AV) (Q : α → Prop) : ∀ xs : List AV, (∀ x ∈ xs, ∃ a, x = f a ∧ Q a) → ∃ l : List α, xs = l.map f ∧ ∀ a ∈ l, Q a
  | [], _ => ⟨[], rfl, by simp⟩
  | x :: xs, h => by
    obtain ⟨a, rfl, ha⟩ := h x (by simp)
    obtain ⟨l, rfl, hl⟩ := choose_map f Q xs fun y hy => h y (by simp [hy])
    exact ⟨a :: l, rfl, by
      intro b hb
      rcases List.mem_cons.1 hb with rfl | hb
      · exact ha
      · exact hl b hb⟩
def U8 (x : Int) : Prop := 0 ≤ x ∧ x ≤ 255
def I64 (x : Int) : Prop := -9223372036854775808 ≤ x ∧ x ≤ 9223372036854775807
structure WfP (p : Ps) : Prop where
  y : U8 p.y
  n : I64 p.n
  d : U8 p.d
theorem u8_wf {i : Int} (h : (Lit.int .u8 i).wf = true) : U8 i := by
  simp only [Lit.wf, Bool.and_eq_true, decide_eq_true_eq] at h
  exact h
theorem i64_wf {i : Int} (h : (Lit.int .i64 i).wf = true) : I64 i := by
  simp only [Lit.wf, Bool.and_eq_true, decide_eq_true_eq] at h
  exact h
structure Ty (P : Program) : Prop where
  u3 : P.underlying 3 = some (.int .i64)
  u4 : P.underlying 4 = some .bool
  u5 : P.underlying 5 = some (.int .u8)
  u31 : P.underlying 31 = some (.int .u8)
  u89 : P.underlying 89 = some (.int .u8)
  u22 : P.underlying 22 = some (.slice 89)
  u23 : P.underlying 23 = some (.slice 33)
  u30 : ∃ a b : Field, P.underlying 30 = some (.struct #[a, b]) ∧ a.type = 5 ∧ b.type = 3
  u33 : ∃ a b c : Field, P.underlying 33 = some (.struct #[a, b, c]) ∧ a.type = 30 ∧ b.type = 4 ∧ c.type = 31
  u38 : ∃ a b c d e : Field, P.underlying 38 = some (.struct #[a, b, c, d, e]) ∧ a.type = 4 ∧ b.type = 3 ∧ c.type = 3 ∧ d.type = 4 ∧ e.type = 23
  a33 : aggT P 33 = true
  a89 : aggT P 89 = false
  a22 : aggT P 22 = false
  a23 : aggT P 23 = false
theorem tyP : Ty Try.prog := ⟨Try.underlying3, Try.underlying4, Try.underlying5, Try.underlying31, Try.underlying89, Try.underlying22, Try.underlying23,
  ⟨_, _, Try.underlying30, rfl, rfl⟩, ⟨_, _, _, Try.underlying33, rfl, rfl, rfl⟩, ⟨_, _, _, _, _, Try.underlying38, rfl, rfl, rfl, rfl, rfl⟩, by kernel_rfl, by kernel_rfl, by kernel_rfl, by kernel_rfl⟩
section
variable {P : Program} {m : Nat}
theorem id_of (T : Ty P) {cs : List AV} (h : Shape P (m + 2) 30 cs) : ∃ y n, cs = [.atom (.int .u8 y), .atom (.int .i64 n)] ∧ U8 y ∧ I64 n := by
  obtain ⟨fa, fb, hu, ta, tb⟩ := T.u30
  obtain ⟨yss, rfl, hf⟩ := sh_struct (m + 1) hu h
  obtain ⟨c1, _, rfl, h1, hf⟩ := F2.cons' hf
  obtain ⟨c2, _, rfl, h2, hf⟩ := F2.cons' hf
  obtain rfl := F2.nil' hf
  rw [ta] at h1; rw [tb] at h2
  obtain ⟨y, rfl, w1⟩ := sh_int m T.u5 h1
  obtain ⟨n, rfl, w2⟩ := sh_int m T.u3 h2
  exact ⟨y, n, rfl, u8_wf w1, i64_wf w2⟩
theorem pass_of (T : Ty P) {cs : List AV} (h : Shape P (m + 3) 33 cs) : ∃ p : Ps, cs = [.atom (.int .u8 p.y), .atom (.int .i64 p.n), .atom (.bool p.f), .atom (.int .u8 p.d)] ∧ WfP p := by
  obtain ⟨fa, fb, fc, hu, ta, tb, tc⟩ := T.u33
  obtain ⟨yss, rfl, hf⟩ := sh_struct (m + 2) hu h
  obtain ⟨c1, _, rfl, h1, hf⟩ := F2.cons' hf
  obtain ⟨c2, _, rfl, h2, hf⟩ := F2.cons' hf
  obtain ⟨c3, _, rfl, h3, hf⟩ := F2.cons' hf
  obtain rfl := F2.nil' hf
  rw [ta] at h1; rw [tb] at h2; rw [tc] at h3
  obtain ⟨y, n, rfl, w1, w2⟩ := id_of (m := m) T h1
  obtain ⟨f, rfl⟩ := sh_bool (m + 1) T.u4 h2
  obtain ⟨d, rfl, w3⟩ := sh_int (m + 1) T.u31 h3
  exact ⟨⟨y, n, f, d⟩, rfl, ⟨w1, w2, u8_wf w3⟩⟩
theorem el_ps (T : Ty P) (p : Ps) : elOf P 33 [.atom (.int .u8 p.y), .atom (.int .i64 p.n), .atom (.bool p.f), .atom (.int .u8 p.d)] = p.enc := by unfold elOf; rw [if_pos T.a33]; rfl
theorem list_of_u8 (T : Ty P) {ys : List AV} (h : Shape P (m + 2) 22 ys) : ∃ a, ys = [pl none a] ∧ (∀ x ∈ a, U8 x) ∧ a.length ≤ maxLen := by
  obtain ⟨xs, rfl, hl, hx⟩ := sh_slice (m + 1) T.u22 h
  obtain ⟨a, rfl, ha⟩ := choose_map u8 U8 xs fun x hx' => by
    obtain ⟨cs, rfl, _, hc⟩ := hx x hx'
    obtain ⟨i, rfl, hi⟩ := sh_int m T.u89 hc
    exact ⟨i, by unfold elOf; rw [if_neg (Bool.eq_false_iff.1 T.a89)]; rfl, u8_wf hi⟩
  exact ⟨a, rfl, ha, by simpa using hl⟩
theorem list_of_ps (T : Ty P) {ys : List AV} (h : Shape P (m + 4) 23 ys) : ∃ b, ys = [sl none b] ∧ (∀ x ∈ b, WfP x) ∧ b.length ≤ maxLen := by
  obtain ⟨xs, rfl, hl, hx⟩ := sh_slice (m + 3) T.u23 h
  obtain ⟨a, rfl, ha⟩ := choose_map Ps.enc WfP xs fun x hx' => by
    obtain ⟨cs, rfl, _, hc⟩ := hx x hx'
    obtain ⟨p, rfl, w⟩ := pass_of (m := m) T hc
    exact ⟨p, el_ps T p, w⟩
  exact ⟨a, rfl, ha, by simpa using hl⟩
theorem el22 (T : Ty P) (x : AV) : elOf P 22 [x] = x := by unfold elOf; rw [if_neg (Bool.eq_false_iff.1 T.a22)]; rfl
theorem el23 (T : Ty P) (x : AV) : elOf P 23 [x] = x := by unfold elOf; rw [if_neg (Bool.eq_false_iff.1 T.a23)]; rfl
end
def Arg (P : Program) (t : TypeId) (x : AV) : Prop := ∃ ys, x = elOf P t ys ∧ Shape P 8 t ys ∧ ys.length = P.cellsOf t
theorem arg22 {P : Program} (T : Ty P) {x : AV} (h : Arg P 22 x) : ∃ a, x = pl none a ∧ (∀ x ∈ a, U8 x) ∧ a.length ≤ maxLen := by
  obtain ⟨ys, rfl, hs, _⟩ := h
  obtain ⟨a, rfl, ha, hl⟩ := list_of_u8 (m := 6) T hs
  exact ⟨a, el22 T _, ha, hl⟩
theorem arg23 {P : Program} (T : Ty P) {x : AV} (h : Arg P 23 x) : ∃ a, x = sl none a ∧ (∀ x ∈ a, WfP x) ∧ a.length ≤ maxLen := by
  obtain ⟨ys, rfl, hs, _⟩ := h
  obtain ⟨a, rfl, ha, hl⟩ := list_of_ps (m := 4) T hs
  exact ⟨a, el23 T _, ha, hl⟩
theorem args2 {P : Program} {s t : TypeId} {xs : List AV} (h : F2 (Arg P) [s, t] xs) : ∃ x y, xs = [x, y] ∧ Arg P s x ∧ Arg P t y := by
  obtain ⟨x, _, rfl, h1, h⟩ := F2.cons' h
  obtain ⟨y, _, rfl, h2, h⟩ := F2.cons' h
  obtain rfl := F2.nil' h
  exact ⟨x, y, rfl, h1, h2⟩
theorem args3 {P : Program} {s t u : TypeId} {xs : List AV} (h : F2 (Arg P) [s, t, u] xs) : ∃ x y z, xs = [x, y, z] ∧ Arg P s x ∧ Arg P t y ∧ Arg P u z := by
  obtain ⟨x, _, rfl, h1, h⟩ := F2.cons' h
  obtain ⟨y, _, rfl, h2, h⟩ := F2.cons' h
  obtain ⟨z, _, rfl, h3, h⟩ := F2.cons' h
  obtain rfl := F2.nil' h
  exact ⟨x, y, z, rfl, h1, h2, h3⟩
theorem args1 {P : Program} {s : TypeId} {xs : List AV} (h : F2 (Arg P) [s] xs) : ∃ x, xs = [x] ∧ Arg P s x := by
  obtain ⟨x, _, rfl, h1, h⟩ := F2.cons' h
  obtain rfl := F2.nil' h
  exact ⟨x, rfl, h1⟩
theorem ofP_wf {x : Int} (h : U8 x) : 0 ≤ (ofP x).d := Int.tmod_nonneg _ h.1
end Tst
end

section
open Go Go.Lf Go.Proofs
namespace Tst
theorem law3_c (ca cb : Option Nat) (a : List Int) (b : List Ps) (ha : ∀ x ∈ a, U8 x) (hb : ∀ p ∈ b, WfP p) : PureC Try.prog 3 [pl ca a, sl cb b] (.atom (.bool true)) := by
  by_cases h1 : 40 < a.length
  · exact yrA_0 ca cb a b (by simp; omega)
  by_cases h2 : 5 < b.length
  · exact yrA_1 ca cb a b (by simp; omega) (by simp; omega)
  have hlen : (([] ++ b) ++ a.map ofP).length ≤ 50 := by simp; omega
  have hwf : ∀ p ∈ ([] ++ b) ++ a.map ofP, 0 ≤ p.d := by
    intro p hp
    simp only [List.nil_append, List.mem_append, List.mem_map] at hp
    rcases hp with hp | ⟨x, hx, rfl⟩
    · exact (hb p hp).d.1
    · exact ofP_wf (ha x hx)
  have hn := Nat.le_trans (nf_len (([] ++ b) ++ a.map ofP)) hlen
  have hnn := nf_nf (([] ++ b) ++ a.map ofP)
  apply yr_2 ca cb a b hwf hlen hn (fun i hi => lcan_nf hwf i hi) hnn (by rw [hnn]; omega) (by omega)
  all_goals first
    | rfl
    | (simp only [decide_eq_true_eq]; exact ⟨trivial, all_plain _, all_four _⟩)
    | (simp only [decide_eq_true_eq]; intro _; exact all_noAny _ _)
    | (simp; done)
    | (simp; omega)
    | (simp at *; omega)
    | skip
end Tst
end

section
open Go Go.Lf Go.Proofs
namespace Tst
theorem ofP_tt {x : Int} (h : U8 x) : turnP (turnP (ofP x)) = ofP x := by
  have h0 : 0 ≤ Int.tmod x 2 := Int.tmod_nonneg _ h.1
  have h1 : Int.tmod x 2 < 2 := Int.tmod_lt_of_pos _ (by decide)
  have : Int.tmod x 2 = 0 ∨ Int.tmod x 2 = 1 := by omega
  rcases this with e | e <;> simp [turnP, ofP, e]
theorem law4_c (ca cb cr : Option Nat) (a b : List Int) (r : List Ps) (ha : ∀ x ∈ a, U8 x) (hb : ∀ x ∈ b, U8 x) : PureC Try.prog 4 [pl ca a, pl cb b, sl cr r] (.atom (.bool true)) := by
  by_cases h1 : 20 < a.length
  · exact yiA_0 ca cb cr a b r (by simp; omega)
  by_cases h2 : 20 < b.length
  · exact yiA_1 ca cb cr a b r (by simp; omega) (by simp; omega)
  by_cases h3 : 20 < r.length
  · exact yiA_2 ca cb cr a b r (by simp; omega) (by simp; omega) (by simp; omega)
  have hA : ∀ p ∈ a.map ofP, turnP (turnP p) = p := by
    intro p hp
    obtain ⟨x, hx, rfl⟩ := List.mem_map.1 hp
    exact ofP_tt (ha x hx)
  have hab : (([] ++ a.map ofP) ++ b.map ofP).length ≤ 40 := by simp; omega
  have hn := Nat.le_trans (nf_len (([] ++ a.map ofP) ++ b.map ofP)) hab
  have na : (nf (a.map ofP)).length ≤ 20 := Nat.le_trans (nf_len _) (by simp; omega)
  have nb : (nf (b.map ofP)).length ≤ 20 := Nat.le_trans (nf_len _) (by simp; omega)
  have hq : nf (([] ++ a.map ofP) ++ b.map ofP) = nf (([] ++ nf (a.map ofP)) ++ nf (b.map ofP)) := by
    rw [List.nil_append, List.nil_append, nf_append]
  apply yi_5 ca cb cr a b r (by omega) (by omega) (by omega) hA (by simpa using hA) hab hn na nb hq (inv_inv _ hA)
  all_goals first
    | rfl
    | (simp only [decide_eq_true_eq]; exact ⟨trivial, all_plain _, all_four _⟩)
    | (simp only [decide_eq_true_eq]; intro _; exact all_noAny _ _)
    | (simp; done)
    | (simp; omega)
    | (simp at *; omega)
    | skip
end Tst
end

section
open Go Go.Lf Go.Proofs Tst
namespace Go.Proofs.Ytnaikfcmegkdpaa.yarnsInverse
theorem YarnsInverse_pure (xs : List AV) (h : F2 (fun t x => ∃ ys, x = elOf Try.prog t ys ∧ Shape Try.prog 8 t ys ∧ ys.length = Try.prog.cellsOf t) Try.f4.params.toList xs) : PureC Try.prog 4 xs (.atom (.bool true)) := by
  rw [Try.params4] at h
  obtain ⟨x, y, z, rfl, h1, h2, h3⟩ := args3 (P := Try.prog) h
  obtain ⟨a, rfl, ha, _⟩ := arg22 tyP h1
  obtain ⟨b, rfl, hb, _⟩ := arg22 tyP h2
  obtain ⟨r, rfl, hr, _⟩ := arg23 tyP h3
  exact law4_c none none none a b r ha hb
end Go.Proofs.Ytnaikfcmegkdpaa.yarnsInverse
end
