/- Part 5 of the evaluator and of the contracts that the claim uses. -/
import Derived.RangeFuncSeq
import Derived.Test.YtnaikfcmegkdpaaStacksSameLAA
import Derived.Test.YtnaikfcmegkdpaaStacksSameLAB
import Derived.Test.YtnaikfcmegkdpaaStacksSameLAC
import Derived.Test.YtnaikfcmegkdpaaStacksSameLAD
set_option linter.unusedVariables false
set_option linter.unusedSimpArgs false
set_option linter.constructorNameAsVariable false

section
open Go Go.Lf Go.Proofs
namespace Tst
set_option maxHeartbeats 0
def SH (l : List Idd) : AV := .sl .any 30 none (l.map Idd.enc)
abbrev nilT : AV := .atom (.slice none 0 0)
abbrev slN (a : Nat) : AV := .sl .own 62 (some a) (List.replicate a nilT)
def slO (f : List (List Idd)) : AV := .sl .own 62 (some f.length) (f.map ON)
theorem bdA_0 (ys : List AV) (tb : List (List Idd)) (a b : Nat) (i : Int) (h0 : 0 ≤ i) (g0 : decide ((0 : Int) ≤ i) = true) (g1 : ((↑(List.length (List.replicate a nilT)) : Int) == (0 : Int)) = true) (g2 : decide ((0 : Int) ≤ i ∧ i < (↑(80 : Nat) : Int) ∧ (0 : Nat) < List.length (TInfo.zero ti62)) = true) (g3 : decide ((0 : Nat) = (0 : Nat) ∧ Int.toNat i * List.length (TInfo.zero ti62) < List.length (List.map SH tb)) = true) (g4 : List.getD (List.map SH tb) (Int.toNat i * List.length (TInfo.zero ti62)) AV.bad = SH (List.getD tb (Int.toNat i * List.length (TInfo.zero ti62)) default)) (g5 : decide ((0 : Int) < (↑(List.length (List.map Idd.enc (List.getD tb (Int.toNat i * List.length (TInfo.zero ti62)) default))) : Int)) = true) (g6 : decide ((0 : Int) ≤ IntKind.wrap IntKind.i64 (i + (1 : Int)) ∧ IntKind.wrap IntKind.i64 (i + (1 : Int)) ≤ IntKind.wrap IntKind.i64 (i + (1 : Int)) ∧ IntKind.wrap IntKind.i64 (i + (1 : Int)) ≤ (4294967296 : Int) ∧ TInfo.bytes { zero := [Value.slice none (0 : Nat) (0 : Nat)], bytes := (24 : Nat), agg := false, kind := TK.slice (30 : TypeId) } ≤ (4096 : Nat) ∧ (0 : Nat) < List.length (TInfo.zero ti62)) = true) (g7 : ((↑(List.length (List.replicate b nilT)) : Int) == (0 : Int)) = true) (g8 : decide ((0 : Int) ≤ IntKind.wrap IntKind.i64 ((40 : Int) + i) ∧ IntKind.wrap IntKind.i64 ((40 : Int) + i) < (↑(80 : Nat) : Int) ∧ (0 : Nat) < List.length (TInfo.zero ti62)) = true) (g9 : decide ((0 : Nat) = (0 : Nat) ∧ Int.toNat (IntKind.wrap IntKind.i64 ((40 : Int) + i)) * List.length (TInfo.zero ti62) < List.length (List.map SH tb)) = true) (g10 : List.getD (List.map SH tb) (Int.toNat (IntKind.wrap IntKind.i64 ((40 : Int) + i)) * List.length (TInfo.zero ti62)) AV.bad = SH (List.getD tb (Int.toNat (IntKind.wrap IntKind.i64 ((40 : Int) + i)) * List.length (TInfo.zero ti62)) default)) (g11 : decide ((0 : Int) < (↑(List.length (List.map Idd.enc (List.getD tb (Int.toNat (IntKind.wrap IntKind.i64 ((40 : Int) + i)) * List.length (TInfo.zero ti62)) default))) : Int)) = true) : Tri Try.prog (cxN 76 0) (loopBody Try.f30 0) ([(1, .box (tb.map SH)), (2, .box ys), (3, .box [slN a, slN b]), (4, it i)] ) (Ex.normal) ([(1, AV.box (List.map SH tb)), (2, AV.box ys), (3, AV.box [AV.sl Mode.own 62 (some (Int.toNat (IntKind.wrap IntKind.i64 (i + (1 : Int))))) (List.replicate (Int.toNat (IntKind.wrap IntKind.i64 (i + (1 : Int)))) (zeroEl { zero := [Value.slice none (0 : Nat) (0 : Nat)], bytes := (24 : Nat), agg := false, kind := TK.slice (30 : TypeId) })), AV.sl Mode.own 62 (some (Int.toNat (IntKind.wrap IntKind.i64 (i + (1 : Int))))) (List.replicate (Int.toNat (IntKind.wrap IntKind.i64 (i + (1 : Int)))) (zeroEl { zero := [Value.slice none (0 : Nat) (0 : Nat)], bytes := (24 : Nat), agg := false, kind := TK.slice (30 : TypeId) }))]), (4, it (IntKind.wrap IntKind.i64 (i - (1 : Int))))]) :=
  evA_ok (H := h30) (ans := [.c, .c, .b true, .c, .c, .c, .c, .c, .c, .c, .c, .c, .b true, .c, .b true, .b true, .c, .b true, .b true, .r (SH (List.getD tb (Int.toNat i * List.length (TInfo.zero ti62)) default)), .c, .b true, .c, .b true, .c, .b true, .c, .b true, .c, .c, .b true, .c, .c, .c, .c, .c, .c, .c, .c, .c, .c, .c, .c, .c, .c, .b true, .c, .b true, .c, .b true, .b true, .c, .b true, .b true, .r (SH (List.getD tb (Int.toNat (IntKind.wrap IntKind.i64 ((40 : Int) + i)) * List.length (TInfo.zero ti62)) default)), .c, .b true, .c, .b true, .c, .b true, .c, .b true, .c, .c, .b true, .c, .c, .c, .c, .c, .c, .c, .c]) (ps := [decide ((0 : Int) ≤ i) = true, ((↑(List.length (List.replicate a nilT)) : Int) == (0 : Int)) = true, ((↑(List.length (List.replicate a nilT)) : Int) == (0 : Int)) = true, decide ((0 : Int) ≤ i ∧ i < (↑(80 : Nat) : Int) ∧ (0 : Nat) < List.length (TInfo.zero ti62)) = true, ((↑(List.length (List.replicate a nilT)) : Int) == (0 : Int)) = true, decide ((0 : Nat) = (0 : Nat) ∧ Int.toNat i * List.length (TInfo.zero ti62) < List.length (List.map SH tb)) = true, List.getD (List.map SH tb) (Int.toNat i * List.length (TInfo.zero ti62)) AV.bad = SH (List.getD tb (Int.toNat i * List.length (TInfo.zero ti62)) default), ((↑(List.length (List.replicate a nilT)) : Int) == (0 : Int)) = true, ((↑(List.length (List.replicate a nilT)) : Int) == (0 : Int)) = true, ((↑(List.length (List.replicate a nilT)) : Int) == (0 : Int)) = true, decide ((0 : Int) < (↑(List.length (List.map Idd.enc (List.getD tb (Int.toNat i * List.length (TInfo.zero ti62)) default))) : Int)) = true, decide ((0 : Int) ≤ IntKind.wrap IntKind.i64 (i + (1 : Int)) ∧ IntKind.wrap IntKind.i64 (i + (1 : Int)) ≤ IntKind.wrap IntKind.i64 (i + (1 : Int)) ∧ IntKind.wrap IntKind.i64 (i + (1 : Int)) ≤ (4294967296 : Int) ∧ TInfo.bytes { zero := [Value.slice none (0 : Nat) (0 : Nat)], bytes := (24 : Nat), agg := false, kind := TK.slice (30 : TypeId) } ≤ (4096 : Nat) ∧ (0 : Nat) < List.length (TInfo.zero ti62)) = true, ((↑(List.length (List.replicate b nilT)) : Int) == (0 : Int)) = true, ((↑(List.length (List.replicate b nilT)) : Int) == (0 : Int)) = true, ((↑(List.length (List.replicate b nilT)) : Int) == (0 : Int)) = true, decide ((0 : Int) ≤ IntKind.wrap IntKind.i64 ((40 : Int) + i) ∧ IntKind.wrap IntKind.i64 ((40 : Int) + i) < (↑(80 : Nat) : Int) ∧ (0 : Nat) < List.length (TInfo.zero ti62)) = true, ((↑(List.length (List.replicate b nilT)) : Int) == (0 : Int)) = true, decide ((0 : Nat) = (0 : Nat) ∧ Int.toNat (IntKind.wrap IntKind.i64 ((40 : Int) + i)) * List.length (TInfo.zero ti62) < List.length (List.map SH tb)) = true, List.getD (List.map SH tb) (Int.toNat (IntKind.wrap IntKind.i64 ((40 : Int) + i)) * List.length (TInfo.zero ti62)) AV.bad = SH (List.getD tb (Int.toNat (IntKind.wrap IntKind.i64 ((40 : Int) + i)) * List.length (TInfo.zero ti62)) default), ((↑(List.length (List.replicate b nilT)) : Int) == (0 : Int)) = true, ((↑(List.length (List.replicate b nilT)) : Int) == (0 : Int)) = true, ((↑(List.length (List.replicate b nilT)) : Int) == (0 : Int)) = true, decide ((0 : Int) < (↑(List.length (List.map Idd.enc (List.getD tb (Int.toNat (IntKind.wrap IntKind.i64 ((40 : Int) + i)) * List.length (TInfo.zero ti62)) default))) : Int)) = true, decide ((0 : Int) ≤ IntKind.wrap IntKind.i64 (i + (1 : Int)) ∧ IntKind.wrap IntKind.i64 (i + (1 : Int)) ≤ IntKind.wrap IntKind.i64 (i + (1 : Int)) ∧ IntKind.wrap IntKind.i64 (i + (1 : Int)) ≤ (4294967296 : Int) ∧ TInfo.bytes { zero := [Value.slice none (0 : Nat) (0 : Nat)], bytes := (24 : Nat), agg := false, kind := TK.slice (30 : TypeId) } ≤ (4096 : Nat) ∧ (0 : Nat) < List.length (TInfo.zero ti62)) = true]) (ans' := []) (base 76 0) cxA_K.1 cxA_K.2 _ (by kernel_rfl)  (allp g0 (allp g1 (allp g1 (allp g2 (allp g1 (allp g3 (allp g4 (allp g1 (allp g1 (allp g1 (allp g5 (allp g6 (allp g7 (allp g7 (allp g7 (allp g8 (allp g7 (allp g9 (allp g10 (allp g7 (allp g7 (allp g7 (allp g11 (allp g6 allp_nil))))))))))))))))))))))))
theorem bdA_1 (ys : List AV) (tb : List (List Idd)) (a b : Nat) (i : Int) (h0 : 0 ≤ i) (g0 : decide ((0 : Int) ≤ i) = true) (g1 : ((↑(List.length (List.replicate a nilT)) : Int) == (0 : Int)) = true) (g2 : decide ((0 : Int) ≤ i ∧ i < (↑(80 : Nat) : Int) ∧ (0 : Nat) < List.length (TInfo.zero ti62)) = true) (g3 : decide ((0 : Nat) = (0 : Nat) ∧ Int.toNat i * List.length (TInfo.zero ti62) < List.length (List.map SH tb)) = true) (g4 : List.getD (List.map SH tb) (Int.toNat i * List.length (TInfo.zero ti62)) AV.bad = SH (List.getD tb (Int.toNat i * List.length (TInfo.zero ti62)) default)) (g5 : decide ((0 : Int) < (↑(List.length (List.map Idd.enc (List.getD tb (Int.toNat i * List.length (TInfo.zero ti62)) default))) : Int)) = true) (g6 : decide ((0 : Int) ≤ IntKind.wrap IntKind.i64 (i + (1 : Int)) ∧ IntKind.wrap IntKind.i64 (i + (1 : Int)) ≤ IntKind.wrap IntKind.i64 (i + (1 : Int)) ∧ IntKind.wrap IntKind.i64 (i + (1 : Int)) ≤ (4294967296 : Int) ∧ TInfo.bytes { zero := [Value.slice none (0 : Nat) (0 : Nat)], bytes := (24 : Nat), agg := false, kind := TK.slice (30 : TypeId) } ≤ (4096 : Nat) ∧ (0 : Nat) < List.length (TInfo.zero ti62)) = true) (g7 : ((↑(List.length (List.replicate b nilT)) : Int) == (0 : Int)) = true) (g8 : decide ((0 : Int) ≤ IntKind.wrap IntKind.i64 ((40 : Int) + i) ∧ IntKind.wrap IntKind.i64 ((40 : Int) + i) < (↑(80 : Nat) : Int) ∧ (0 : Nat) < List.length (TInfo.zero ti62)) = true) (g9 : decide ((0 : Nat) = (0 : Nat) ∧ Int.toNat (IntKind.wrap IntKind.i64 ((40 : Int) + i)) * List.length (TInfo.zero ti62) < List.length (List.map SH tb)) = true) (g10 : List.getD (List.map SH tb) (Int.toNat (IntKind.wrap IntKind.i64 ((40 : Int) + i)) * List.length (TInfo.zero ti62)) AV.bad = SH (List.getD tb (Int.toNat (IntKind.wrap IntKind.i64 ((40 : Int) + i)) * List.length (TInfo.zero ti62)) default)) (g11 : decide ((0 : Int) < (↑(List.length (List.map Idd.enc (List.getD tb (Int.toNat (IntKind.wrap IntKind.i64 ((40 : Int) + i)) * List.length (TInfo.zero ti62)) default))) : Int)) = false) : Tri Try.prog (cxN 76 0) (loopBody Try.f30 0) ([(1, .box (tb.map SH)), (2, .box ys), (3, .box [slN a, slN b]), (4, it i)] ) (Ex.normal) ([(1, AV.box (List.map SH tb)), (2, AV.box ys), (3, AV.box [AV.sl Mode.own 62 (some (Int.toNat (IntKind.wrap IntKind.i64 (i + (1 : Int))))) (List.replicate (Int.toNat (IntKind.wrap IntKind.i64 (i + (1 : Int)))) (zeroEl { zero := [Value.slice none (0 : Nat) (0 : Nat)], bytes := (24 : Nat), agg := false, kind := TK.slice (30 : TypeId) })), AV.sl Mode.own 62 (some b) (List.replicate b nilT)]), (4, it (IntKind.wrap IntKind.i64 (i - (1 : Int))))]) :=
  evA_ok (H := h30) (ans := [.c, .c, .b true, .c, .c, .c, .c, .c, .c, .c, .c, .c, .b true, .c, .b true, .b true, .c, .b true, .b true, .r (SH (List.getD tb (Int.toNat i * List.length (TInfo.zero ti62)) default)), .c, .b true, .c, .b true, .c, .b true, .c, .b true, .c, .c, .b true, .c, .c, .c, .c, .c, .c, .c, .c, .c, .c, .c, .c, .c, .c, .b true, .c, .b true, .c, .b true, .b true, .c, .b true, .b true, .r (SH (List.getD tb (Int.toNat (IntKind.wrap IntKind.i64 ((40 : Int) + i)) * List.length (TInfo.zero ti62)) default)), .c, .b true, .c, .b true, .c, .b true, .c, .b false, .c, .c, .c]) (ps := [decide ((0 : Int) ≤ i) = true, ((↑(List.length (List.replicate a nilT)) : Int) == (0 : Int)) = true, ((↑(List.length (List.replicate a nilT)) : Int) == (0 : Int)) = true, decide ((0 : Int) ≤ i ∧ i < (↑(80 : Nat) : Int) ∧ (0 : Nat) < List.length (TInfo.zero ti62)) = true, ((↑(List.length (List.replicate a nilT)) : Int) == (0 : Int)) = true, decide ((0 : Nat) = (0 : Nat) ∧ Int.toNat i * List.length (TInfo.zero ti62) < List.length (List.map SH tb)) = true, List.getD (List.map SH tb) (Int.toNat i * List.length (TInfo.zero ti62)) AV.bad = SH (List.getD tb (Int.toNat i * List.length (TInfo.zero ti62)) default), ((↑(List.length (List.replicate a nilT)) : Int) == (0 : Int)) = true, ((↑(List.length (List.replicate a nilT)) : Int) == (0 : Int)) = true, ((↑(List.length (List.replicate a nilT)) : Int) == (0 : Int)) = true, decide ((0 : Int) < (↑(List.length (List.map Idd.enc (List.getD tb (Int.toNat i * List.length (TInfo.zero ti62)) default))) : Int)) = true, decide ((0 : Int) ≤ IntKind.wrap IntKind.i64 (i + (1 : Int)) ∧ IntKind.wrap IntKind.i64 (i + (1 : Int)) ≤ IntKind.wrap IntKind.i64 (i + (1 : Int)) ∧ IntKind.wrap IntKind.i64 (i + (1 : Int)) ≤ (4294967296 : Int) ∧ TInfo.bytes { zero := [Value.slice none (0 : Nat) (0 : Nat)], bytes := (24 : Nat), agg := false, kind := TK.slice (30 : TypeId) } ≤ (4096 : Nat) ∧ (0 : Nat) < List.length (TInfo.zero ti62)) = true, ((↑(List.length (List.replicate b nilT)) : Int) == (0 : Int)) = true, ((↑(List.length (List.replicate b nilT)) : Int) == (0 : Int)) = true, ((↑(List.length (List.replicate b nilT)) : Int) == (0 : Int)) = true, decide ((0 : Int) ≤ IntKind.wrap IntKind.i64 ((40 : Int) + i) ∧ IntKind.wrap IntKind.i64 ((40 : Int) + i) < (↑(80 : Nat) : Int) ∧ (0 : Nat) < List.length (TInfo.zero ti62)) = true, ((↑(List.length (List.replicate b nilT)) : Int) == (0 : Int)) = true, decide ((0 : Nat) = (0 : Nat) ∧ Int.toNat (IntKind.wrap IntKind.i64 ((40 : Int) + i)) * List.length (TInfo.zero ti62) < List.length (List.map SH tb)) = true, List.getD (List.map SH tb) (Int.toNat (IntKind.wrap IntKind.i64 ((40 : Int) + i)) * List.length (TInfo.zero ti62)) AV.bad = SH (List.getD tb (Int.toNat (IntKind.wrap IntKind.i64 ((40 : Int) + i)) * List.length (TInfo.zero ti62)) default), ((↑(List.length (List.replicate b nilT)) : Int) == (0 : Int)) = true, ((↑(List.length (List.replicate b nilT)) : Int) == (0 : Int)) = true, ((↑(List.length (List.replicate b nilT)) : Int) == (0 : Int)) = true, decide ((0 : Int) < (↑(List.length (List.map Idd.enc (List.getD tb (Int.toNat (IntKind.wrap IntKind.i64 ((40 : Int) + i)) * List.length (TInfo.zero ti62)) default))) : Int)) = false]) (ans' := []) (base 76 0) cxA_K.1 cxA_K.2 _ (by kernel_rfl)  (allp g0 (allp g1 (allp g1 (allp g2 (allp g1 (allp g3 (allp g4 (allp g1 (allp g1 (allp g1 (allp g5 (allp g6 (allp g7 (allp g7 (allp g7 (allp g8 (allp g7 (allp g9 (allp g10 (allp g7 (allp g7 (allp g7 (allp g11 allp_nil)))))))))))))))))))))))
theorem bdA_2 (ys : List AV) (tb : List (List Idd)) (a b : Nat) (i : Int) (h0 : 0 ≤ i) (g0 : decide ((0 : Int) ≤ i) = true) (g1 : ((↑(List.length (List.replicate a nilT)) : Int) == (0 : Int)) = true) (g2 : decide ((0 : Int) ≤ i ∧ i < (↑(80 : Nat) : Int) ∧ (0 : Nat) < List.length (TInfo.zero ti62)) = true) (g3 : decide ((0 : Nat) = (0 : Nat) ∧ Int.toNat i * List.length (TInfo.zero ti62) < List.length (List.map SH tb)) = true) (g4 : List.getD (List.map SH tb) (Int.toNat i * List.length (TInfo.zero ti62)) AV.bad = SH (List.getD tb (Int.toNat i * List.length (TInfo.zero ti62)) default)) (g5 : decide ((0 : Int) < (↑(List.length (List.map Idd.enc (List.getD tb (Int.toNat i * List.length (TInfo.zero ti62)) default))) : Int)) = true) (g6 : decide ((0 : Int) ≤ IntKind.wrap IntKind.i64 (i + (1 : Int)) ∧ IntKind.wrap IntKind.i64 (i + (1 : Int)) ≤ IntKind.wrap IntKind.i64 (i + (1 : Int)) ∧ IntKind.wrap IntKind.i64 (i + (1 : Int)) ≤ (4294967296 : Int) ∧ TInfo.bytes { zero := [Value.slice none (0 : Nat) (0 : Nat)], bytes := (24 : Nat), agg := false, kind := TK.slice (30 : TypeId) } ≤ (4096 : Nat) ∧ (0 : Nat) < List.length (TInfo.zero ti62)) = true) (g7 : ((↑(List.length (List.replicate b nilT)) : Int) == (0 : Int)) = false) : Tri Try.prog (cxN 76 0) (loopBody Try.f30 0) ([(1, .box (tb.map SH)), (2, .box ys), (3, .box [slN a, slN b]), (4, it i)] ) (Ex.normal) ([(1, AV.box (List.map SH tb)), (2, AV.box ys), (3, AV.box [AV.sl Mode.own 62 (some (Int.toNat (IntKind.wrap IntKind.i64 (i + (1 : Int))))) (List.replicate (Int.toNat (IntKind.wrap IntKind.i64 (i + (1 : Int)))) (zeroEl { zero := [Value.slice none (0 : Nat) (0 : Nat)], bytes := (24 : Nat), agg := false, kind := TK.slice (30 : TypeId) })), AV.sl Mode.own 62 (some b) (List.replicate b nilT)]), (4, it (IntKind.wrap IntKind.i64 (i - (1 : Int))))]) :=
  evA_ok (H := h30) (ans := [.c, .c, .b true, .c, .c, .c, .c, .c, .c, .c, .c, .c, .b true, .c, .b true, .b true, .c, .b true, .b true, .r (SH (List.getD tb (Int.toNat i * List.length (TInfo.zero ti62)) default)), .c, .b true, .c, .b true, .c, .b true, .c, .b true, .c, .c, .b true, .c, .c, .c, .c, .c, .c, .c, .c, .c, .c, .c, .c, .c, .c, .b false, .c, .b false, .c, .b false, .c, .b false, .c, .b false, .c, .b false, .c, .b false, .c, .c, .c, .c, .c]) (ps := [decide ((0 : Int) ≤ i) = true, ((↑(List.length (List.replicate a nilT)) : Int) == (0 : Int)) = true, ((↑(List.length (List.replicate a nilT)) : Int) == (0 : Int)) = true, decide ((0 : Int) ≤ i ∧ i < (↑(80 : Nat) : Int) ∧ (0 : Nat) < List.length (TInfo.zero ti62)) = true, ((↑(List.length (List.replicate a nilT)) : Int) == (0 : Int)) = true, decide ((0 : Nat) = (0 : Nat) ∧ Int.toNat i * List.length (TInfo.zero ti62) < List.length (List.map SH tb)) = true, List.getD (List.map SH tb) (Int.toNat i * List.length (TInfo.zero ti62)) AV.bad = SH (List.getD tb (Int.toNat i * List.length (TInfo.zero ti62)) default), ((↑(List.length (List.replicate a nilT)) : Int) == (0 : Int)) = true, ((↑(List.length (List.replicate a nilT)) : Int) == (0 : Int)) = true, ((↑(List.length (List.replicate a nilT)) : Int) == (0 : Int)) = true, decide ((0 : Int) < (↑(List.length (List.map Idd.enc (List.getD tb (Int.toNat i * List.length (TInfo.zero ti62)) default))) : Int)) = true, decide ((0 : Int) ≤ IntKind.wrap IntKind.i64 (i + (1 : Int)) ∧ IntKind.wrap IntKind.i64 (i + (1 : Int)) ≤ IntKind.wrap IntKind.i64 (i + (1 : Int)) ∧ IntKind.wrap IntKind.i64 (i + (1 : Int)) ≤ (4294967296 : Int) ∧ TInfo.bytes { zero := [Value.slice none (0 : Nat) (0 : Nat)], bytes := (24 : Nat), agg := false, kind := TK.slice (30 : TypeId) } ≤ (4096 : Nat) ∧ (0 : Nat) < List.length (TInfo.zero ti62)) = true, ((↑(List.length (List.replicate b nilT)) : Int) == (0 : Int)) = false, ((↑(List.length (List.replicate b nilT)) : Int) == (0 : Int)) = false, ((↑(List.length (List.replicate b nilT)) : Int) == (0 : Int)) = false, ((↑(List.length (List.replicate b nilT)) : Int) == (0 : Int)) = false, ((↑(List.length (List.replicate b nilT)) : Int) == (0 : Int)) = false, ((↑(List.length (List.replicate b nilT)) : Int) == (0 : Int)) = false, ((↑(List.length (List.replicate b nilT)) : Int) == (0 : Int)) = false]) (ans' := []) (base 76 0) cxA_K.1 cxA_K.2 _ (by kernel_rfl)  (allp g0 (allp g1 (allp g1 (allp g2 (allp g1 (allp g3 (allp g4 (allp g1 (allp g1 (allp g1 (allp g5 (allp g6 (allp g7 (allp g7 (allp g7 (allp g7 (allp g7 (allp g7 (allp g7 allp_nil)))))))))))))))))))
theorem bdA_3 (ys : List AV) (tb : List (List Idd)) (a b : Nat) (i : Int) (h0 : 0 ≤ i) (g0 : decide ((0 : Int) ≤ i) = true) (g1 : ((↑(List.length (List.replicate a nilT)) : Int) == (0 : Int)) = true) (g2 : decide ((0 : Int) ≤ i ∧ i < (↑(80 : Nat) : Int) ∧ (0 : Nat) < List.length (TInfo.zero ti62)) = true) (g3 : decide ((0 : Nat) = (0 : Nat) ∧ Int.toNat i * List.length (TInfo.zero ti62) < List.length (List.map SH tb)) = true) (g4 : List.getD (List.map SH tb) (Int.toNat i * List.length (TInfo.zero ti62)) AV.bad = SH (List.getD tb (Int.toNat i * List.length (TInfo.zero ti62)) default)) (g5 : decide ((0 : Int) < (↑(List.length (List.map Idd.enc (List.getD tb (Int.toNat i * List.length (TInfo.zero ti62)) default))) : Int)) = false) (g6 : ((↑(List.length (List.replicate b nilT)) : Int) == (0 : Int)) = true) (g7 : decide ((0 : Int) ≤ IntKind.wrap IntKind.i64 ((40 : Int) + i) ∧ IntKind.wrap IntKind.i64 ((40 : Int) + i) < (↑(80 : Nat) : Int) ∧ (0 : Nat) < List.length (TInfo.zero ti62)) = true) (g8 : decide ((0 : Nat) = (0 : Nat) ∧ Int.toNat (IntKind.wrap IntKind.i64 ((40 : Int) + i)) * List.length (TInfo.zero ti62) < List.length (List.map SH tb)) = true) (g9 : List.getD (List.map SH tb) (Int.toNat (IntKind.wrap IntKind.i64 ((40 : Int) + i)) * List.length (TInfo.zero ti62)) AV.bad = SH (List.getD tb (Int.toNat (IntKind.wrap IntKind.i64 ((40 : Int) + i)) * List.length (TInfo.zero ti62)) default)) (g10 : decide ((0 : Int) < (↑(List.length (List.map Idd.enc (List.getD tb (Int.toNat (IntKind.wrap IntKind.i64 ((40 : Int) + i)) * List.length (TInfo.zero ti62)) default))) : Int)) = true) (g11 : decide ((0 : Int) ≤ IntKind.wrap IntKind.i64 (i + (1 : Int)) ∧ IntKind.wrap IntKind.i64 (i + (1 : Int)) ≤ IntKind.wrap IntKind.i64 (i + (1 : Int)) ∧ IntKind.wrap IntKind.i64 (i + (1 : Int)) ≤ (4294967296 : Int) ∧ TInfo.bytes { zero := [Value.slice none (0 : Nat) (0 : Nat)], bytes := (24 : Nat), agg := false, kind := TK.slice (30 : TypeId) } ≤ (4096 : Nat) ∧ (0 : Nat) < List.length (TInfo.zero ti62)) = true) : Tri Try.prog (cxN 76 0) (loopBody Try.f30 0) ([(1, .box (tb.map SH)), (2, .box ys), (3, .box [slN a, slN b]), (4, it i)] ) (Ex.normal) ([(1, AV.box (List.map SH tb)), (2, AV.box ys), (3, AV.box [AV.sl Mode.own 62 (some a) (List.replicate a nilT), AV.sl Mode.own 62 (some (Int.toNat (IntKind.wrap IntKind.i64 (i + (1 : Int))))) (List.replicate (Int.toNat (IntKind.wrap IntKind.i64 (i + (1 : Int)))) (zeroEl { zero := [Value.slice none (0 : Nat) (0 : Nat)], bytes := (24 : Nat), agg := false, kind := TK.slice (30 : TypeId) }))]), (4, it (IntKind.wrap IntKind.i64 (i - (1 : Int))))]) :=
  evA_ok (H := h30) (ans := [.c, .c, .b true, .c, .c, .c, .c, .c, .c, .c, .c, .c, .b true, .c, .b true, .b true, .c, .b true, .b true, .r (SH (List.getD tb (Int.toNat i * List.length (TInfo.zero ti62)) default)), .c, .b true, .c, .b true, .c, .b true, .c, .b false, .c, .c, .c, .c, .c, .c, .c, .c, .c, .b true, .c, .b true, .c, .b true, .b true, .c, .b true, .b true, .r (SH (List.getD tb (Int.toNat (IntKind.wrap IntKind.i64 ((40 : Int) + i)) * List.length (TInfo.zero ti62)) default)), .c, .b true, .c, .b true, .c, .b true, .c, .b true, .c, .c, .b true, .c, .c, .c, .c, .c, .c, .c, .c]) (ps := [decide ((0 : Int) ≤ i) = true, ((↑(List.length (List.replicate a nilT)) : Int) == (0 : Int)) = true, ((↑(List.length (List.replicate a nilT)) : Int) == (0 : Int)) = true, decide ((0 : Int) ≤ i ∧ i < (↑(80 : Nat) : Int) ∧ (0 : Nat) < List.length (TInfo.zero ti62)) = true, ((↑(List.length (List.replicate a nilT)) : Int) == (0 : Int)) = true, decide ((0 : Nat) = (0 : Nat) ∧ Int.toNat i * List.length (TInfo.zero ti62) < List.length (List.map SH tb)) = true, List.getD (List.map SH tb) (Int.toNat i * List.length (TInfo.zero ti62)) AV.bad = SH (List.getD tb (Int.toNat i * List.length (TInfo.zero ti62)) default), ((↑(List.length (List.replicate a nilT)) : Int) == (0 : Int)) = true, ((↑(List.length (List.replicate a nilT)) : Int) == (0 : Int)) = true, ((↑(List.length (List.replicate a nilT)) : Int) == (0 : Int)) = true, decide ((0 : Int) < (↑(List.length (List.map Idd.enc (List.getD tb (Int.toNat i * List.length (TInfo.zero ti62)) default))) : Int)) = false, ((↑(List.length (List.replicate b nilT)) : Int) == (0 : Int)) = true, ((↑(List.length (List.replicate b nilT)) : Int) == (0 : Int)) = true, ((↑(List.length (List.replicate b nilT)) : Int) == (0 : Int)) = true, decide ((0 : Int) ≤ IntKind.wrap IntKind.i64 ((40 : Int) + i) ∧ IntKind.wrap IntKind.i64 ((40 : Int) + i) < (↑(80 : Nat) : Int) ∧ (0 : Nat) < List.length (TInfo.zero ti62)) = true, ((↑(List.length (List.replicate b nilT)) : Int) == (0 : Int)) = true, decide ((0 : Nat) = (0 : Nat) ∧ Int.toNat (IntKind.wrap IntKind.i64 ((40 : Int) + i)) * List.length (TInfo.zero ti62) < List.length (List.map SH tb)) = true, List.getD (List.map SH tb) (Int.toNat (IntKind.wrap IntKind.i64 ((40 : Int) + i)) * List.length (TInfo.zero ti62)) AV.bad = SH (List.getD tb (Int.toNat (IntKind.wrap IntKind.i64 ((40 : Int) + i)) * List.length (TInfo.zero ti62)) default), ((↑(List.length (List.replicate b nilT)) : Int) == (0 : Int)) = true, ((↑(List.length (List.replicate b nilT)) : Int) == (0 : Int)) = true, ((↑(List.length (List.replicate b nilT)) : Int) == (0 : Int)) = true, decide ((0 : Int) < (↑(List.length (List.map Idd.enc (List.getD tb (Int.toNat (IntKind.wrap IntKind.i64 ((40 : Int) + i)) * List.length (TInfo.zero ti62)) default))) : Int)) = true, decide ((0 : Int) ≤ IntKind.wrap IntKind.i64 (i + (1 : Int)) ∧ IntKind.wrap IntKind.i64 (i + (1 : Int)) ≤ IntKind.wrap IntKind.i64 (i + (1 : Int)) ∧ IntKind.wrap IntKind.i64 (i + (1 : Int)) ≤ (4294967296 : Int) ∧ TInfo.bytes { zero := [Value.slice none (0 : Nat) (0 : Nat)], bytes := (24 : Nat), agg := false, kind := TK.slice (30 : TypeId) } ≤ (4096 : Nat) ∧ (0 : Nat) < List.length (TInfo.zero ti62)) = true]) (ans' := []) (base 76 0) cxA_K.1 cxA_K.2 _ (by kernel_rfl)  (allp g0 (allp g1 (allp g1 (allp g2 (allp g1 (allp g3 (allp g4 (allp g1 (allp g1 (allp g1 (allp g5 (allp g6 (allp g6 (allp g6 (allp g7 (allp g6 (allp g8 (allp g9 (allp g6 (allp g6 (allp g6 (allp g10 (allp g11 allp_nil)))))))))))))))))))))))
theorem bdA_4 (ys : List AV) (tb : List (List Idd)) (a b : Nat) (i : Int) (h0 : 0 ≤ i) (g0 : decide ((0 : Int) ≤ i) = true) (g1 : ((↑(List.length (List.replicate a nilT)) : Int) == (0 : Int)) = true) (g2 : decide ((0 : Int) ≤ i ∧ i < (↑(80 : Nat) : Int) ∧ (0 : Nat) < List.length (TInfo.zero ti62)) = true) (g3 : decide ((0 : Nat) = (0 : Nat) ∧ Int.toNat i * List.length (TInfo.zero ti62) < List.length (List.map SH tb)) = true) (g4 : List.getD (List.map SH tb) (Int.toNat i * List.length (TInfo.zero ti62)) AV.bad = SH (List.getD tb (Int.toNat i * List.length (TInfo.zero ti62)) default)) (g5 : decide ((0 : Int) < (↑(List.length (List.map Idd.enc (List.getD tb (Int.toNat i * List.length (TInfo.zero ti62)) default))) : Int)) = false) (g6 : ((↑(List.length (List.replicate b nilT)) : Int) == (0 : Int)) = true) (g7 : decide ((0 : Int) ≤ IntKind.wrap IntKind.i64 ((40 : Int) + i) ∧ IntKind.wrap IntKind.i64 ((40 : Int) + i) < (↑(80 : Nat) : Int) ∧ (0 : Nat) < List.length (TInfo.zero ti62)) = true) (g8 : decide ((0 : Nat) = (0 : Nat) ∧ Int.toNat (IntKind.wrap IntKind.i64 ((40 : Int) + i)) * List.length (TInfo.zero ti62) < List.length (List.map SH tb)) = true) (g9 : List.getD (List.map SH tb) (Int.toNat (IntKind.wrap IntKind.i64 ((40 : Int) + i)) * List.length (TInfo.zero ti62)) AV.bad = SH (List.getD tb (Int.toNat (IntKind.wrap IntKind.i64 ((40 : Int) + i)) * List.length (TInfo.zero ti62)) default)) (g10 : decide ((0 : Int) < (↑(List.length (List.map Idd.enc (List.getD tb (Int.toNat (IntKind.wrap IntKind.i64 ((40 : Int) + i)) * List.length (TInfo.zero ti62)) default))) : Int)) = false) : Tri Try.prog (cxN 76 0) (loopBody Try.f30 0) ([(1, .box (tb.map SH)), (2, .box ys), (3, .box [slN a, slN b]), (4, it i)] ) (Ex.normal) ([(1, AV.box (List.map SH tb)), (2, AV.box ys), (3, AV.box [AV.sl Mode.own 62 (some a) (List.replicate a nilT), AV.sl Mode.own 62 (some b) (List.replicate b nilT)]), (4, it (IntKind.wrap IntKind.i64 (i - (1 : Int))))]) :=
  evA_ok (H := h30) (ans := [.c, .c, .b true, .c, .c, .c, .c, .c, .c, .c, .c, .c, .b true, .c, .b true, .b true, .c, .b true, .b true, .r (SH (List.getD tb (Int.toNat i * List.length (TInfo.zero ti62)) default)), .c, .b true, .c, .b true, .c, .b true, .c, .b false, .c, .c, .c, .c, .c, .c, .c, .c, .c, .b true, .c, .b true, .c, .b true, .b true, .c, .b true, .b true, .r (SH (List.getD tb (Int.toNat (IntKind.wrap IntKind.i64 ((40 : Int) + i)) * List.length (TInfo.zero ti62)) default)), .c, .b true, .c, .b true, .c, .b true, .c, .b false, .c, .c, .c]) (ps := [decide ((0 : Int) ≤ i) = true, ((↑(List.length (List.replicate a nilT)) : Int) == (0 : Int)) = true, ((↑(List.length (List.replicate a nilT)) : Int) == (0 : Int)) = true, decide ((0 : Int) ≤ i ∧ i < (↑(80 : Nat) : Int) ∧ (0 : Nat) < List.length (TInfo.zero ti62)) = true, ((↑(List.length (List.replicate a nilT)) : Int) == (0 : Int)) = true, decide ((0 : Nat) = (0 : Nat) ∧ Int.toNat i * List.length (TInfo.zero ti62) < List.length (List.map SH tb)) = true, List.getD (List.map SH tb) (Int.toNat i * List.length (TInfo.zero ti62)) AV.bad = SH (List.getD tb (Int.toNat i * List.length (TInfo.zero ti62)) default), ((↑(List.length (List.replicate a nilT)) : Int) == (0 : Int)) = true, ((↑(List.length (List.replicate a nilT)) : Int) == (0 : Int)) = true, ((↑(List.length (List.replicate a nilT)) : Int) == (0 : Int)) = true, decide ((0 : Int) < (↑(List.length (List.map Idd.enc (List.getD tb (Int.toNat i * List.length (TInfo.zero ti62)) default))) : Int)) = false, ((↑(List.length (List.replicate b nilT)) : Int) == (0 : Int)) = true, ((↑(List.length (List.replicate b nilT)) : Int) == (0 : Int)) = true, ((↑(List.length (List.replicate b nilT)) : Int) == (0 : Int)) = true, decide ((0 : Int) ≤ IntKind.wrap IntKind.i64 ((40 : Int) + i) ∧ IntKind.wrap IntKind.i64 ((40 : Int) + i) < (↑(80 : Nat) : Int) ∧ (0 : Nat) < List.length (TInfo.zero ti62)) = true, ((↑(List.length (List.replicate b nilT)) : Int) == (0 : Int)) = true, decide ((0 : Nat) = (0 : Nat) ∧ Int.toNat (IntKind.wrap IntKind.i64 ((40 : Int) + i)) * List.length (TInfo.zero ti62) < List.length (List.map SH tb)) = true, List.getD (List.map SH tb) (Int.toNat (IntKind.wrap IntKind.i64 ((40 : Int) + i)) * List.length (TInfo.zero ti62)) AV.bad = SH (List.getD tb (Int.toNat (IntKind.wrap IntKind.i64 ((40 : Int) + i)) * List.length (TInfo.zero ti62)) default), ((↑(List.length (List.replicate b nilT)) : Int) == (0 : Int)) = true, ((↑(List.length (List.replicate b nilT)) : Int) == (0 : Int)) = true, ((↑(List.length (List.replicate b nilT)) : Int) == (0 : Int)) = true, decide ((0 : Int) < (↑(List.length (List.map Idd.enc (List.getD tb (Int.toNat (IntKind.wrap IntKind.i64 ((40 : Int) + i)) * List.length (TInfo.zero ti62)) default))) : Int)) = false]) (ans' := []) (base 76 0) cxA_K.1 cxA_K.2 _ (by kernel_rfl)  (allp g0 (allp g1 (allp g1 (allp g2 (allp g1 (allp g3 (allp g4 (allp g1 (allp g1 (allp g1 (allp g5 (allp g6 (allp g6 (allp g6 (allp g7 (allp g6 (allp g8 (allp g9 (allp g6 (allp g6 (allp g6 (allp g10 allp_nil))))))))))))))))))))))
theorem bdA_5 (ys : List AV) (tb : List (List Idd)) (a b : Nat) (i : Int) (h0 : 0 ≤ i) (g0 : decide ((0 : Int) ≤ i) = true) (g1 : ((↑(List.length (List.replicate a nilT)) : Int) == (0 : Int)) = true) (g2 : decide ((0 : Int) ≤ i ∧ i < (↑(80 : Nat) : Int) ∧ (0 : Nat) < List.length (TInfo.zero ti62)) = true) (g3 : decide ((0 : Nat) = (0 : Nat) ∧ Int.toNat i * List.length (TInfo.zero ti62) < List.length (List.map SH tb)) = true) (g4 : List.getD (List.map SH tb) (Int.toNat i * List.length (TInfo.zero ti62)) AV.bad = SH (List.getD tb (Int.toNat i * List.length (TInfo.zero ti62)) default)) (g5 : decide ((0 : Int) < (↑(List.length (List.map Idd.enc (List.getD tb (Int.toNat i * List.length (TInfo.zero ti62)) default))) : Int)) = false) (g6 : ((↑(List.length (List.replicate b nilT)) : Int) == (0 : Int)) = false) : Tri Try.prog (cxN 76 0) (loopBody Try.f30 0) ([(1, .box (tb.map SH)), (2, .box ys), (3, .box [slN a, slN b]), (4, it i)] ) (Ex.normal) ([(1, AV.box (List.map SH tb)), (2, AV.box ys), (3, AV.box [AV.sl Mode.own 62 (some a) (List.replicate a nilT), AV.sl Mode.own 62 (some b) (List.replicate b nilT)]), (4, it (IntKind.wrap IntKind.i64 (i - (1 : Int))))]) :=
  evA_ok (H := h30) (ans := [.c, .c, .b true, .c, .c, .c, .c, .c, .c, .c, .c, .c, .b true, .c, .b true, .b true, .c, .b true, .b true, .r (SH (List.getD tb (Int.toNat i * List.length (TInfo.zero ti62)) default)), .c, .b true, .c, .b true, .c, .b true, .c, .b false, .c, .c, .c, .c, .c, .c, .c, .c, .c, .b false, .c, .b false, .c, .b false, .c, .b false, .c, .b false, .c, .b false, .c, .b false, .c, .c, .c, .c, .c]) (ps := [decide ((0 : Int) ≤ i) = true, ((↑(List.length (List.replicate a nilT)) : Int) == (0 : Int)) = true, ((↑(List.length (List.replicate a nilT)) : Int) == (0 : Int)) = true, decide ((0 : Int) ≤ i ∧ i < (↑(80 : Nat) : Int) ∧ (0 : Nat) < List.length (TInfo.zero ti62)) = true, ((↑(List.length (List.replicate a nilT)) : Int) == (0 : Int)) = true, decide ((0 : Nat) = (0 : Nat) ∧ Int.toNat i * List.length (TInfo.zero ti62) < List.length (List.map SH tb)) = true, List.getD (List.map SH tb) (Int.toNat i * List.length (TInfo.zero ti62)) AV.bad = SH (List.getD tb (Int.toNat i * List.length (TInfo.zero ti62)) default), ((↑(List.length (List.replicate a nilT)) : Int) == (0 : Int)) = true, ((↑(List.length (List.replicate a nilT)) : Int) == (0 : Int)) = true, ((↑(List.length (List.replicate a nilT)) : Int) == (0 : Int)) = true, decide ((0 : Int) < (↑(List.length (List.map Idd.enc (List.getD tb (Int.toNat i * List.length (TInfo.zero ti62)) default))) : Int)) = false, ((↑(List.length (List.replicate b nilT)) : Int) == (0 : Int)) = false, ((↑(List.length (List.replicate b nilT)) : Int) == (0 : Int)) = false, ((↑(List.length (List.replicate b nilT)) : Int) == (0 : Int)) = false, ((↑(List.length (List.replicate b nilT)) : Int) == (0 : Int)) = false, ((↑(List.length (List.replicate b nilT)) : Int) == (0 : Int)) = false, ((↑(List.length (List.replicate b nilT)) : Int) == (0 : Int)) = false, ((↑(List.length (List.replicate b nilT)) : Int) == (0 : Int)) = false]) (ans' := []) (base 76 0) cxA_K.1 cxA_K.2 _ (by kernel_rfl)  (allp g0 (allp g1 (allp g1 (allp g2 (allp g1 (allp g3 (allp g4 (allp g1 (allp g1 (allp g1 (allp g5 (allp g6 (allp g6 (allp g6 (allp g6 (allp g6 (allp g6 (allp g6 allp_nil))))))))))))))))))
theorem bdA_6 (ys : List AV) (tb : List (List Idd)) (a b : Nat) (i : Int) (h0 : 0 ≤ i) (g0 : decide ((0 : Int) ≤ i) = true) (g1 : ((↑(List.length (List.replicate a nilT)) : Int) == (0 : Int)) = false) (g2 : ((↑(List.length (List.replicate b nilT)) : Int) == (0 : Int)) = true) (g3 : decide ((0 : Int) ≤ IntKind.wrap IntKind.i64 ((40 : Int) + i) ∧ IntKind.wrap IntKind.i64 ((40 : Int) + i) < (↑(80 : Nat) : Int) ∧ (0 : Nat) < List.length (TInfo.zero ti62)) = true) (g4 : decide ((0 : Nat) = (0 : Nat) ∧ Int.toNat (IntKind.wrap IntKind.i64 ((40 : Int) + i)) * List.length (TInfo.zero ti62) < List.length (List.map SH tb)) = true) (g5 : List.getD (List.map SH tb) (Int.toNat (IntKind.wrap IntKind.i64 ((40 : Int) + i)) * List.length (TInfo.zero ti62)) AV.bad = SH (List.getD tb (Int.toNat (IntKind.wrap IntKind.i64 ((40 : Int) + i)) * List.length (TInfo.zero ti62)) default)) (g6 : decide ((0 : Int) < (↑(List.length (List.map Idd.enc (List.getD tb (Int.toNat (IntKind.wrap IntKind.i64 ((40 : Int) + i)) * List.length (TInfo.zero ti62)) default))) : Int)) = true) (g7 : decide ((0 : Int) ≤ IntKind.wrap IntKind.i64 (i + (1 : Int)) ∧ IntKind.wrap IntKind.i64 (i + (1 : Int)) ≤ IntKind.wrap IntKind.i64 (i + (1 : Int)) ∧ IntKind.wrap IntKind.i64 (i + (1 : Int)) ≤ (4294967296 : Int) ∧ TInfo.bytes { zero := [Value.slice none (0 : Nat) (0 : Nat)], bytes := (24 : Nat), agg := false, kind := TK.slice (30 : TypeId) } ≤ (4096 : Nat) ∧ (0 : Nat) < List.length (TInfo.zero ti62)) = true) : Tri Try.prog (cxN 76 0) (loopBody Try.f30 0) ([(1, .box (tb.map SH)), (2, .box ys), (3, .box [slN a, slN b]), (4, it i)] ) (Ex.normal) ([(1, AV.box (List.map SH tb)), (2, AV.box ys), (3, AV.box [AV.sl Mode.own 62 (some a) (List.replicate a nilT), AV.sl Mode.own 62 (some (Int.toNat (IntKind.wrap IntKind.i64 (i + (1 : Int))))) (List.replicate (Int.toNat (IntKind.wrap IntKind.i64 (i + (1 : Int)))) (zeroEl { zero := [Value.slice none (0 : Nat) (0 : Nat)], bytes := (24 : Nat), agg := false, kind := TK.slice (30 : TypeId) }))]), (4, it (IntKind.wrap IntKind.i64 (i - (1 : Int))))]) :=
  evA_ok (H := h30) (ans := [.c, .c, .b true, .c, .c, .c, .c, .c, .c, .c, .c, .c, .b false, .c, .b false, .c, .b false, .c, .b false, .c, .b false, .c, .b false, .c, .c, .c, .c, .c, .c, .c, .c, .c, .c, .c, .b true, .c, .b true, .c, .b true, .b true, .c, .b true, .b true, .r (SH (List.getD tb (Int.toNat (IntKind.wrap IntKind.i64 ((40 : Int) + i)) * List.length (TInfo.zero ti62)) default)), .c, .b true, .c, .b true, .c, .b true, .c, .b true, .c, .c, .b true, .c, .c, .c, .c, .c, .c, .c, .c]) (ps := [decide ((0 : Int) ≤ i) = true, ((↑(List.length (List.replicate a nilT)) : Int) == (0 : Int)) = false, ((↑(List.length (List.replicate a nilT)) : Int) == (0 : Int)) = false, ((↑(List.length (List.replicate a nilT)) : Int) == (0 : Int)) = false, ((↑(List.length (List.replicate a nilT)) : Int) == (0 : Int)) = false, ((↑(List.length (List.replicate a nilT)) : Int) == (0 : Int)) = false, ((↑(List.length (List.replicate a nilT)) : Int) == (0 : Int)) = false, ((↑(List.length (List.replicate b nilT)) : Int) == (0 : Int)) = true, ((↑(List.length (List.replicate b nilT)) : Int) == (0 : Int)) = true, ((↑(List.length (List.replicate b nilT)) : Int) == (0 : Int)) = true, decide ((0 : Int) ≤ IntKind.wrap IntKind.i64 ((40 : Int) + i) ∧ IntKind.wrap IntKind.i64 ((40 : Int) + i) < (↑(80 : Nat) : Int) ∧ (0 : Nat) < List.length (TInfo.zero ti62)) = true, ((↑(List.length (List.replicate b nilT)) : Int) == (0 : Int)) = true, decide ((0 : Nat) = (0 : Nat) ∧ Int.toNat (IntKind.wrap IntKind.i64 ((40 : Int) + i)) * List.length (TInfo.zero ti62) < List.length (List.map SH tb)) = true, List.getD (List.map SH tb) (Int.toNat (IntKind.wrap IntKind.i64 ((40 : Int) + i)) * List.length (TInfo.zero ti62)) AV.bad = SH (List.getD tb (Int.toNat (IntKind.wrap IntKind.i64 ((40 : Int) + i)) * List.length (TInfo.zero ti62)) default), ((↑(List.length (List.replicate b nilT)) : Int) == (0 : Int)) = true, ((↑(List.length (List.replicate b nilT)) : Int) == (0 : Int)) = true, ((↑(List.length (List.replicate b nilT)) : Int) == (0 : Int)) = true, decide ((0 : Int) < (↑(List.length (List.map Idd.enc (List.getD tb (Int.toNat (IntKind.wrap IntKind.i64 ((40 : Int) + i)) * List.length (TInfo.zero ti62)) default))) : Int)) = true, decide ((0 : Int) ≤ IntKind.wrap IntKind.i64 (i + (1 : Int)) ∧ IntKind.wrap IntKind.i64 (i + (1 : Int)) ≤ IntKind.wrap IntKind.i64 (i + (1 : Int)) ∧ IntKind.wrap IntKind.i64 (i + (1 : Int)) ≤ (4294967296 : Int) ∧ TInfo.bytes { zero := [Value.slice none (0 : Nat) (0 : Nat)], bytes := (24 : Nat), agg := false, kind := TK.slice (30 : TypeId) } ≤ (4096 : Nat) ∧ (0 : Nat) < List.length (TInfo.zero ti62)) = true]) (ans' := []) (base 76 0) cxA_K.1 cxA_K.2 _ (by kernel_rfl)  (allp g0 (allp g1 (allp g1 (allp g1 (allp g1 (allp g1 (allp g1 (allp g2 (allp g2 (allp g2 (allp g3 (allp g2 (allp g4 (allp g5 (allp g2 (allp g2 (allp g2 (allp g6 (allp g7 allp_nil)))))))))))))))))))
theorem bdA_7 (ys : List AV) (tb : List (List Idd)) (a b : Nat) (i : Int) (h0 : 0 ≤ i) (g0 : decide ((0 : Int) ≤ i) = true) (g1 : ((↑(List.length (List.replicate a nilT)) : Int) == (0 : Int)) = false) (g2 : ((↑(List.length (List.replicate b nilT)) : Int) == (0 : Int)) = true) (g3 : decide ((0 : Int) ≤ IntKind.wrap IntKind.i64 ((40 : Int) + i) ∧ IntKind.wrap IntKind.i64 ((40 : Int) + i) < (↑(80 : Nat) : Int) ∧ (0 : Nat) < List.length (TInfo.zero ti62)) = true) (g4 : decide ((0 : Nat) = (0 : Nat) ∧ Int.toNat (IntKind.wrap IntKind.i64 ((40 : Int) + i)) * List.length (TInfo.zero ti62) < List.length (List.map SH tb)) = true) (g5 : List.getD (List.map SH tb) (Int.toNat (IntKind.wrap IntKind.i64 ((40 : Int) + i)) * List.length (TInfo.zero ti62)) AV.bad = SH (List.getD tb (Int.toNat (IntKind.wrap IntKind.i64 ((40 : Int) + i)) * List.length (TInfo.zero ti62)) default)) (g6 : decide ((0 : Int) < (↑(List.length (List.map Idd.enc (List.getD tb (Int.toNat (IntKind.wrap IntKind.i64 ((40 : Int) + i)) * List.length (TInfo.zero ti62)) default))) : Int)) = false) : Tri Try.prog (cxN 76 0) (loopBody Try.f30 0) ([(1, .box (tb.map SH)), (2, .box ys), (3, .box [slN a, slN b]), (4, it i)] ) (Ex.normal) ([(1, AV.box (List.map SH tb)), (2, AV.box ys), (3, AV.box [AV.sl Mode.own 62 (some a) (List.replicate a nilT), AV.sl Mode.own 62 (some b) (List.replicate b nilT)]), (4, it (IntKind.wrap IntKind.i64 (i - (1 : Int))))]) :=
  evA_ok (H := h30) (ans := [.c, .c, .b true, .c, .c, .c, .c, .c, .c, .c, .c, .c, .b false, .c, .b false, .c, .b false, .c, .b false, .c, .b false, .c, .b false, .c, .c, .c, .c, .c, .c, .c, .c, .c, .c, .c, .b true, .c, .b true, .c, .b true, .b true, .c, .b true, .b true, .r (SH (List.getD tb (Int.toNat (IntKind.wrap IntKind.i64 ((40 : Int) + i)) * List.length (TInfo.zero ti62)) default)), .c, .b true, .c, .b true, .c, .b true, .c, .b false, .c, .c, .c]) (ps := [decide ((0 : Int) ≤ i) = true, ((↑(List.length (List.replicate a nilT)) : Int) == (0 : Int)) = false, ((↑(List.length (List.replicate a nilT)) : Int) == (0 : Int)) = false, ((↑(List.length (List.replicate a nilT)) : Int) == (0 : Int)) = false, ((↑(List.length (List.replicate a nilT)) : Int) == (0 : Int)) = false, ((↑(List.length (List.replicate a nilT)) : Int) == (0 : Int)) = false, ((↑(List.length (List.replicate a nilT)) : Int) == (0 : Int)) = false, ((↑(List.length (List.replicate b nilT)) : Int) == (0 : Int)) = true, ((↑(List.length (List.replicate b nilT)) : Int) == (0 : Int)) = true, ((↑(List.length (List.replicate b nilT)) : Int) == (0 : Int)) = true, decide ((0 : Int) ≤ IntKind.wrap IntKind.i64 ((40 : Int) + i) ∧ IntKind.wrap IntKind.i64 ((40 : Int) + i) < (↑(80 : Nat) : Int) ∧ (0 : Nat) < List.length (TInfo.zero ti62)) = true, ((↑(List.length (List.replicate b nilT)) : Int) == (0 : Int)) = true, decide ((0 : Nat) = (0 : Nat) ∧ Int.toNat (IntKind.wrap IntKind.i64 ((40 : Int) + i)) * List.length (TInfo.zero ti62) < List.length (List.map SH tb)) = true, List.getD (List.map SH tb) (Int.toNat (IntKind.wrap IntKind.i64 ((40 : Int) + i)) * List.length (TInfo.zero ti62)) AV.bad = SH (List.getD tb (Int.toNat (IntKind.wrap IntKind.i64 ((40 : Int) + i)) * List.length (TInfo.zero ti62)) default), ((↑(List.length (List.replicate b nilT)) : Int) == (0 : Int)) = true, ((↑(List.length (List.replicate b nilT)) : Int) == (0 : Int)) = true, ((↑(List.length (List.replicate b nilT)) : Int) == (0 : Int)) = true, decide ((0 : Int) < (↑(List.length (List.map Idd.enc (List.getD tb (Int.toNat (IntKind.wrap IntKind.i64 ((40 : Int) + i)) * List.length (TInfo.zero ti62)) default))) : Int)) = false]) (ans' := []) (base 76 0) cxA_K.1 cxA_K.2 _ (by kernel_rfl)  (allp g0 (allp g1 (allp g1 (allp g1 (allp g1 (allp g1 (allp g1 (allp g2 (allp g2 (allp g2 (allp g3 (allp g2 (allp g4 (allp g5 (allp g2 (allp g2 (allp g2 (allp g6 allp_nil))))))))))))))))))
theorem bdA_8 (ys : List AV) (tb : List (List Idd)) (a b : Nat) (i : Int) (h0 : 0 ≤ i) (g0 : decide ((0 : Int) ≤ i) = true) (g1 : ((↑(List.length (List.replicate a nilT)) : Int) == (0 : Int)) = false) (g2 : ((↑(List.length (List.replicate b nilT)) : Int) == (0 : Int)) = false) : Tri Try.prog (cxN 76 0) (loopBody Try.f30 0) ([(1, .box (tb.map SH)), (2, .box ys), (3, .box [slN a, slN b]), (4, it i)] ) (Ex.normal) ([(1, AV.box (List.map SH tb)), (2, AV.box ys), (3, AV.box [AV.sl Mode.own 62 (some a) (List.replicate a nilT), AV.sl Mode.own 62 (some b) (List.replicate b nilT)]), (4, it (IntKind.wrap IntKind.i64 (i - (1 : Int))))]) :=
  evA_ok (H := h30) (ans := [.c, .c, .b true, .c, .c, .c, .c, .c, .c, .c, .c, .c, .b false, .c, .b false, .c, .b false, .c, .b false, .c, .b false, .c, .b false, .c, .c, .c, .c, .c, .c, .c, .c, .c, .c, .c, .b false, .c, .b false, .c, .b false, .c, .b false, .c, .b false, .c, .b false, .c, .b false, .c, .c, .c, .c, .c]) (ps := [decide ((0 : Int) ≤ i) = true, ((↑(List.length (List.replicate a nilT)) : Int) == (0 : Int)) = false, ((↑(List.length (List.replicate a nilT)) : Int) == (0 : Int)) = false, ((↑(List.length (List.replicate a nilT)) : Int) == (0 : Int)) = false, ((↑(List.length (List.replicate a nilT)) : Int) == (0 : Int)) = false, ((↑(List.length (List.replicate a nilT)) : Int) == (0 : Int)) = false, ((↑(List.length (List.replicate a nilT)) : Int) == (0 : Int)) = false, ((↑(List.length (List.replicate b nilT)) : Int) == (0 : Int)) = false, ((↑(List.length (List.replicate b nilT)) : Int) == (0 : Int)) = false, ((↑(List.length (List.replicate b nilT)) : Int) == (0 : Int)) = false, ((↑(List.length (List.replicate b nilT)) : Int) == (0 : Int)) = false, ((↑(List.length (List.replicate b nilT)) : Int) == (0 : Int)) = false, ((↑(List.length (List.replicate b nilT)) : Int) == (0 : Int)) = false, ((↑(List.length (List.replicate b nilT)) : Int) == (0 : Int)) = false]) (ans' := []) (base 76 0) cxA_K.1 cxA_K.2 _ (by kernel_rfl)  (allp g0 (allp g1 (allp g1 (allp g1 (allp g1 (allp g1 (allp g1 (allp g2 (allp g2 (allp g2 (allp g2 (allp g2 (allp g2 (allp g2 allp_nil))))))))))))))
theorem bdX_0 (ys : List AV) (tb : List (List Idd)) (a b : Nat) (i : Int) (x1 : decide ((0 : Int) ≤ i) = false) (g0 : decide ((0 : Int) ≤ i) = false) : Tri Try.prog (cxN 76 0) (loopBody Try.f30 0) ([(1, .box (tb.map SH)), (2, .box ys), (3, .box [slN a, slN b]), (4, it i)] ) (Ex.exit 0) ([(1, AV.box (List.map SH tb)), (2, AV.box ys), (3, AV.box [AV.sl Mode.own 62 (some a) (List.replicate a nilT), AV.sl Mode.own 62 (some b) (List.replicate b nilT)]), (4, it i), (8, bb (decide ((0 : Int) ≤ i)))]) :=
  evA_ok (H := h30) (ans := [.c, .c, .b false]) (ps := [decide ((0 : Int) ≤ i) = false]) (ans' := []) (base 76 0) cxA_K.1 cxA_K.2 _ (by kernel_rfl)  (allp g0 allp_nil)
theorem bdF_0 (ys : List AV) (tb f b : List (List Idd)) (i : Int) (g0 : decide (i < (↑(List.length (List.map ON f)) : Int)) = true) (g1 : AV.sl Mode.own 30 (some 0) [] = AV.sl Mode.own 30 (some (0 : Nat)) (List.map Idd.enc [])) (g2 : decide ((0 : Int) ≤ i ∧ i < (↑(80 : Nat) : Int) ∧ (0 : Nat) < List.length (TInfo.zero ti62)) = true) (g3 : decide ((0 : Nat) = (0 : Nat) ∧ Int.toNat i * List.length (TInfo.zero ti62) < List.length (List.map SH tb)) = true) (g4 : List.getD (List.map SH tb) (Int.toNat i * List.length (TInfo.zero ti62)) AV.bad = SH (List.getD tb (Int.toNat i * List.length (TInfo.zero ti62)) default)) (g5 : decide ((62 : Nat) = (62 : Nat) ∧ (List.all (List.map Idd.enc (List.getD tb (Int.toNat i * List.length (TInfo.zero ti62)) default)) fun y => List.all (AV.ecells y) plainA) = true ∧ (List.all (List.map Idd.enc (List.getD tb (Int.toNat i * List.length (TInfo.zero ti62)) default)) fun y => decide (List.length (AV.ecells y) = List.length (TInfo.zero { zero := [Value.int IntKind.u8 (0 : Int), Value.int IntKind.i64 (0 : Int)], bytes := (16 : Nat), agg := true, kind := TK.struct [((0 : Nat), (1 : Nat)), ((1 : Nat), (1 : Nat))] }))) = true) = true) (g6 : decide (30 = (30 : TypeId) ∧ List.length (List.map Idd.enc []) + List.length (List.map Idd.enc (List.getD tb (Int.toNat i * List.length (TInfo.zero ti62)) default)) ≤ (4294967296 : Nat) ∧ Oper.dst { dst := some (56 : Nat), op := Op.call { callee := Callee.builtin Builtin.append, args := #[Operand.tmp (52 : Nat), Operand.tmp (55 : Nat)], argTypes := #[(62 : Nat), (62 : Nat)] }, type := (62 : Nat), pos := "law.go:83", after := #[{ on := (3 : Nat), ground := Ground.data }, { on := (6 : Nat), ground := Ground.data }], guard := none } ≠ some (52 : Nat)) = true) (g7 : AV.sl Mode.own 30 (if List.length (List.map Idd.enc []) + List.length (List.map Idd.enc (List.getD tb (Int.toNat i * List.length (TInfo.zero ti62)) default)) ≤ (0 : Nat) then some (0 : Nat) else none) (List.map Idd.enc [] ++ List.map Idd.enc (List.getD tb (Int.toNat i * List.length (TInfo.zero ti62)) default)) = AV.sl Mode.own 30 (if List.length (List.map Idd.enc []) + List.length (List.map Idd.enc (List.getD tb (Int.toNat i * List.length (TInfo.zero ti62)) default)) ≤ (0 : Nat) then some (0 : Nat) else none) (List.map Idd.enc ([] ++ List.getD tb (Int.toNat i * List.length (TInfo.zero ti62)) default))) (g8 : decide ((0 : Int) ≤ i ∧ i < (↑(List.length (List.map ON f)) : Int)) = true) (g9 : decide (Int.toNat i < List.length (List.map ON f)) = true) (g10 : List.getD (List.map ON f) (Int.toNat i) AV.bad = ON (List.getD f (Int.toNat i) default)) : Tri Try.prog (cxN 76 0) (loopBody Try.f30 1) ([(1, .box (tb.map SH)), (2, .box ys), (3, .box [slO f, slO b]), (5, it i)] ) (Ex.normal) ([(1, AV.box (List.map SH tb)), (2, AV.box ys), (3, AV.box [AV.sl Mode.own 62 (some (List.length f)) (List.set (List.map ON f) (Int.toNat i) (setE (List.getD (List.map ON f) (Int.toNat i) AV.bad) (0 : Nat) [AV.sl Mode.own 30 (if List.length (List.map Idd.enc []) + List.length (List.map Idd.enc (List.getD tb (Int.toNat i * List.length (TInfo.zero ti62)) default)) ≤ (0 : Nat) then some (0 : Nat) else none) (List.map Idd.enc ([] ++ List.getD tb (Int.toNat i * List.length (TInfo.zero ti62)) default))])), AV.sl Mode.own 62 (some (List.length b)) (List.map ON b)]), (5, it (IntKind.wrap IntKind.i64 (i + (1 : Int))))]) :=
  evA_ok (H := h30) (ans := [.c, .c, .c, .c, .c, .c, .c, .c, .c, .b true, .c, .c, .c, .c, .c, .r (AV.sl Mode.own 30 (some (0 : Nat)) (List.map Idd.enc [])), .c, .b true, .c, .b true, .r (SH (List.getD tb (Int.toNat i * List.length (TInfo.zero ti62)) default)), .c, .b true, .b true, .r (AV.sl Mode.own 30 (if List.length (List.map Idd.enc []) + List.length (List.map Idd.enc (List.getD tb (Int.toNat i * List.length (TInfo.zero ti62)) default)) ≤ (0 : Nat) then some (0 : Nat) else none) (List.map Idd.enc ([] ++ List.getD tb (Int.toNat i * List.length (TInfo.zero ti62)) default))), .c, .c, .b true, .c, .c, .c, .b true, .r (ON (List.getD f (Int.toNat i) default)), .c, .c, .c, .c, .c, .c, .c]) (ps := [decide (i < (↑(List.length (List.map ON f)) : Int)) = true, AV.sl Mode.own 30 (some 0) [] = AV.sl Mode.own 30 (some (0 : Nat)) (List.map Idd.enc []), decide ((0 : Int) ≤ i ∧ i < (↑(80 : Nat) : Int) ∧ (0 : Nat) < List.length (TInfo.zero ti62)) = true, decide ((0 : Nat) = (0 : Nat) ∧ Int.toNat i * List.length (TInfo.zero ti62) < List.length (List.map SH tb)) = true, List.getD (List.map SH tb) (Int.toNat i * List.length (TInfo.zero ti62)) AV.bad = SH (List.getD tb (Int.toNat i * List.length (TInfo.zero ti62)) default), decide ((62 : Nat) = (62 : Nat) ∧ (List.all (List.map Idd.enc (List.getD tb (Int.toNat i * List.length (TInfo.zero ti62)) default)) fun y => List.all (AV.ecells y) plainA) = true ∧ (List.all (List.map Idd.enc (List.getD tb (Int.toNat i * List.length (TInfo.zero ti62)) default)) fun y => decide (List.length (AV.ecells y) = List.length (TInfo.zero { zero := [Value.int IntKind.u8 (0 : Int), Value.int IntKind.i64 (0 : Int)], bytes := (16 : Nat), agg := true, kind := TK.struct [((0 : Nat), (1 : Nat)), ((1 : Nat), (1 : Nat))] }))) = true) = true, decide (30 = (30 : TypeId) ∧ List.length (List.map Idd.enc []) + List.length (List.map Idd.enc (List.getD tb (Int.toNat i * List.length (TInfo.zero ti62)) default)) ≤ (4294967296 : Nat) ∧ Oper.dst { dst := some (56 : Nat), op := Op.call { callee := Callee.builtin Builtin.append, args := #[Operand.tmp (52 : Nat), Operand.tmp (55 : Nat)], argTypes := #[(62 : Nat), (62 : Nat)] }, type := (62 : Nat), pos := "law.go:83", after := #[{ on := (3 : Nat), ground := Ground.data }, { on := (6 : Nat), ground := Ground.data }], guard := none } ≠ some (52 : Nat)) = true, AV.sl Mode.own 30 (if List.length (List.map Idd.enc []) + List.length (List.map Idd.enc (List.getD tb (Int.toNat i * List.length (TInfo.zero ti62)) default)) ≤ (0 : Nat) then some (0 : Nat) else none) (List.map Idd.enc [] ++ List.map Idd.enc (List.getD tb (Int.toNat i * List.length (TInfo.zero ti62)) default)) = AV.sl Mode.own 30 (if List.length (List.map Idd.enc []) + List.length (List.map Idd.enc (List.getD tb (Int.toNat i * List.length (TInfo.zero ti62)) default)) ≤ (0 : Nat) then some (0 : Nat) else none) (List.map Idd.enc ([] ++ List.getD tb (Int.toNat i * List.length (TInfo.zero ti62)) default)), decide ((0 : Int) ≤ i ∧ i < (↑(List.length (List.map ON f)) : Int)) = true, decide (Int.toNat i < List.length (List.map ON f)) = true, List.getD (List.map ON f) (Int.toNat i) AV.bad = ON (List.getD f (Int.toNat i) default)]) (ans' := []) (base 76 0) cxA_K.1 cxA_K.2 _ (by kernel_rfl)  (allp g0 (allp g1 (allp g2 (allp g3 (allp g4 (allp g5 (allp g6 (allp g7 (allp g8 (allp g9 (allp g10 allp_nil)))))))))))
theorem bdF_1 (ys : List AV) (tb f b : List (List Idd)) (i : Int) (g0 : decide (i < (↑(List.length (List.map ON f)) : Int)) = false) : Tri Try.prog (cxN 76 0) (loopBody Try.f30 1) ([(1, .box (tb.map SH)), (2, .box ys), (3, .box [slO f, slO b]), (5, it i)] ) (Ex.exit 2) ([(1, AV.box (List.map SH tb)), (2, AV.box ys), (3, AV.box [AV.sl Mode.own 62 (some (List.length f)) (List.map ON f), AV.sl Mode.own 62 (some (List.length b)) (List.map ON b)]), (5, it i), (46, bb (decide (i < (↑(List.length (List.map ON f)) : Int))))]) :=
  evA_ok (H := h30) (ans := [.c, .c, .c, .c, .c, .c, .c, .c, .c, .b false]) (ps := [decide (i < (↑(List.length (List.map ON f)) : Int)) = false]) (ans' := []) (base 76 0) cxA_K.1 cxA_K.2 _ (by kernel_rfl)  (allp g0 allp_nil)
theorem bdB_0 (ys : List AV) (tb f b : List (List Idd)) (i : Int) (g0 : decide (i < (↑(List.length (List.map ON b)) : Int)) = true) (g1 : AV.sl Mode.own 30 (some 0) [] = AV.sl Mode.own 30 (some (0 : Nat)) (List.map Idd.enc [])) (g2 : decide ((0 : Int) ≤ IntKind.wrap IntKind.i64 ((40 : Int) + i) ∧ IntKind.wrap IntKind.i64 ((40 : Int) + i) < (↑(80 : Nat) : Int) ∧ (0 : Nat) < List.length (TInfo.zero ti62)) = true) (g3 : decide ((0 : Nat) = (0 : Nat) ∧ Int.toNat (IntKind.wrap IntKind.i64 ((40 : Int) + i)) * List.length (TInfo.zero ti62) < List.length (List.map SH tb)) = true) (g4 : List.getD (List.map SH tb) (Int.toNat (IntKind.wrap IntKind.i64 ((40 : Int) + i)) * List.length (TInfo.zero ti62)) AV.bad = SH (List.getD tb (Int.toNat (IntKind.wrap IntKind.i64 ((40 : Int) + i)) * List.length (TInfo.zero ti62)) default)) (g5 : decide ((62 : Nat) = (62 : Nat) ∧ (List.all (List.map Idd.enc (List.getD tb (Int.toNat (IntKind.wrap IntKind.i64 ((40 : Int) + i)) * List.length (TInfo.zero ti62)) default)) fun y => List.all (AV.ecells y) plainA) = true ∧ (List.all (List.map Idd.enc (List.getD tb (Int.toNat (IntKind.wrap IntKind.i64 ((40 : Int) + i)) * List.length (TInfo.zero ti62)) default)) fun y => decide (List.length (AV.ecells y) = List.length (TInfo.zero { zero := [Value.int IntKind.u8 (0 : Int), Value.int IntKind.i64 (0 : Int)], bytes := (16 : Nat), agg := true, kind := TK.struct [((0 : Nat), (1 : Nat)), ((1 : Nat), (1 : Nat))] }))) = true) = true) (g6 : decide (30 = (30 : TypeId) ∧ List.length (List.map Idd.enc []) + List.length (List.map Idd.enc (List.getD tb (Int.toNat (IntKind.wrap IntKind.i64 ((40 : Int) + i)) * List.length (TInfo.zero ti62)) default)) ≤ (4294967296 : Nat) ∧ Oper.dst { dst := some (73 : Nat), op := Op.call { callee := Callee.builtin Builtin.append, args := #[Operand.tmp (68 : Nat), Operand.tmp (72 : Nat)], argTypes := #[(62 : Nat), (62 : Nat)] }, type := (62 : Nat), pos := "law.go:86", after := #[{ on := (3 : Nat), ground := Ground.data }, { on := (7 : Nat), ground := Ground.data }], guard := none } ≠ some (68 : Nat)) = true) (g7 : AV.sl Mode.own 30 (if List.length (List.map Idd.enc []) + List.length (List.map Idd.enc (List.getD tb (Int.toNat (IntKind.wrap IntKind.i64 ((40 : Int) + i)) * List.length (TInfo.zero ti62)) default)) ≤ (0 : Nat) then some (0 : Nat) else none) (List.map Idd.enc [] ++ List.map Idd.enc (List.getD tb (Int.toNat (IntKind.wrap IntKind.i64 ((40 : Int) + i)) * List.length (TInfo.zero ti62)) default)) = AV.sl Mode.own 30 (if List.length (List.map Idd.enc []) + List.length (List.map Idd.enc (List.getD tb (Int.toNat (IntKind.wrap IntKind.i64 ((40 : Int) + i)) * List.length (TInfo.zero ti62)) default)) ≤ (0 : Nat) then some (0 : Nat) else none) (List.map Idd.enc ([] ++ List.getD tb (Int.toNat (IntKind.wrap IntKind.i64 ((40 : Int) + i)) * List.length (TInfo.zero ti62)) default))) (g8 : decide ((0 : Int) ≤ i ∧ i < (↑(List.length (List.map ON b)) : Int)) = true) (g9 : decide (Int.toNat i < List.length (List.map ON b)) = true) (g10 : List.getD (List.map ON b) (Int.toNat i) AV.bad = ON (List.getD b (Int.toNat i) default)) : Tri Try.prog (cxN 76 0) (loopBody Try.f30 2) ([(1, .box (tb.map SH)), (2, .box ys), (3, .box [slO f, slO b]), (6, it i)] ) (Ex.normal) ([(1, AV.box (List.map SH tb)), (2, AV.box ys), (3, AV.box [AV.sl Mode.own 62 (some (List.length f)) (List.map ON f), AV.sl Mode.own 62 (some (List.length b)) (List.set (List.map ON b) (Int.toNat i) (setE (List.getD (List.map ON b) (Int.toNat i) AV.bad) (0 : Nat) [AV.sl Mode.own 30 (if List.length (List.map Idd.enc []) + List.length (List.map Idd.enc (List.getD tb (Int.toNat (IntKind.wrap IntKind.i64 ((40 : Int) + i)) * List.length (TInfo.zero ti62)) default)) ≤ (0 : Nat) then some (0 : Nat) else none) (List.map Idd.enc ([] ++ List.getD tb (Int.toNat (IntKind.wrap IntKind.i64 ((40 : Int) + i)) * List.length (TInfo.zero ti62)) default))]))]), (6, it (IntKind.wrap IntKind.i64 (i + (1 : Int))))]) :=
  evA_ok (H := h30) (ans := [.c, .c, .c, .c, .c, .c, .c, .c, .c, .b true, .c, .c, .c, .c, .c, .r (AV.sl Mode.own 30 (some (0 : Nat)) (List.map Idd.enc [])), .c, .c, .b true, .c, .b true, .r (SH (List.getD tb (Int.toNat (IntKind.wrap IntKind.i64 ((40 : Int) + i)) * List.length (TInfo.zero ti62)) default)), .c, .b true, .b true, .r (AV.sl Mode.own 30 (if List.length (List.map Idd.enc []) + List.length (List.map Idd.enc (List.getD tb (Int.toNat (IntKind.wrap IntKind.i64 ((40 : Int) + i)) * List.length (TInfo.zero ti62)) default)) ≤ (0 : Nat) then some (0 : Nat) else none) (List.map Idd.enc ([] ++ List.getD tb (Int.toNat (IntKind.wrap IntKind.i64 ((40 : Int) + i)) * List.length (TInfo.zero ti62)) default))), .c, .c, .b true, .c, .c, .c, .b true, .r (ON (List.getD b (Int.toNat i) default)), .c, .c, .c, .c, .c, .c, .c]) (ps := [decide (i < (↑(List.length (List.map ON b)) : Int)) = true, AV.sl Mode.own 30 (some 0) [] = AV.sl Mode.own 30 (some (0 : Nat)) (List.map Idd.enc []), decide ((0 : Int) ≤ IntKind.wrap IntKind.i64 ((40 : Int) + i) ∧ IntKind.wrap IntKind.i64 ((40 : Int) + i) < (↑(80 : Nat) : Int) ∧ (0 : Nat) < List.length (TInfo.zero ti62)) = true, decide ((0 : Nat) = (0 : Nat) ∧ Int.toNat (IntKind.wrap IntKind.i64 ((40 : Int) + i)) * List.length (TInfo.zero ti62) < List.length (List.map SH tb)) = true, List.getD (List.map SH tb) (Int.toNat (IntKind.wrap IntKind.i64 ((40 : Int) + i)) * List.length (TInfo.zero ti62)) AV.bad = SH (List.getD tb (Int.toNat (IntKind.wrap IntKind.i64 ((40 : Int) + i)) * List.length (TInfo.zero ti62)) default), decide ((62 : Nat) = (62 : Nat) ∧ (List.all (List.map Idd.enc (List.getD tb (Int.toNat (IntKind.wrap IntKind.i64 ((40 : Int) + i)) * List.length (TInfo.zero ti62)) default)) fun y => List.all (AV.ecells y) plainA) = true ∧ (List.all (List.map Idd.enc (List.getD tb (Int.toNat (IntKind.wrap IntKind.i64 ((40 : Int) + i)) * List.length (TInfo.zero ti62)) default)) fun y => decide (List.length (AV.ecells y) = List.length (TInfo.zero { zero := [Value.int IntKind.u8 (0 : Int), Value.int IntKind.i64 (0 : Int)], bytes := (16 : Nat), agg := true, kind := TK.struct [((0 : Nat), (1 : Nat)), ((1 : Nat), (1 : Nat))] }))) = true) = true, decide (30 = (30 : TypeId) ∧ List.length (List.map Idd.enc []) + List.length (List.map Idd.enc (List.getD tb (Int.toNat (IntKind.wrap IntKind.i64 ((40 : Int) + i)) * List.length (TInfo.zero ti62)) default)) ≤ (4294967296 : Nat) ∧ Oper.dst { dst := some (73 : Nat), op := Op.call { callee := Callee.builtin Builtin.append, args := #[Operand.tmp (68 : Nat), Operand.tmp (72 : Nat)], argTypes := #[(62 : Nat), (62 : Nat)] }, type := (62 : Nat), pos := "law.go:86", after := #[{ on := (3 : Nat), ground := Ground.data }, { on := (7 : Nat), ground := Ground.data }], guard := none } ≠ some (68 : Nat)) = true, AV.sl Mode.own 30 (if List.length (List.map Idd.enc []) + List.length (List.map Idd.enc (List.getD tb (Int.toNat (IntKind.wrap IntKind.i64 ((40 : Int) + i)) * List.length (TInfo.zero ti62)) default)) ≤ (0 : Nat) then some (0 : Nat) else none) (List.map Idd.enc [] ++ List.map Idd.enc (List.getD tb (Int.toNat (IntKind.wrap IntKind.i64 ((40 : Int) + i)) * List.length (TInfo.zero ti62)) default)) = AV.sl Mode.own 30 (if List.length (List.map Idd.enc []) + List.length (List.map Idd.enc (List.getD tb (Int.toNat (IntKind.wrap IntKind.i64 ((40 : Int) + i)) * List.length (TInfo.zero ti62)) default)) ≤ (0 : Nat) then some (0 : Nat) else none) (List.map Idd.enc ([] ++ List.getD tb (Int.toNat (IntKind.wrap IntKind.i64 ((40 : Int) + i)) * List.length (TInfo.zero ti62)) default)), decide ((0 : Int) ≤ i ∧ i < (↑(List.length (List.map ON b)) : Int)) = true, decide (Int.toNat i < List.length (List.map ON b)) = true, List.getD (List.map ON b) (Int.toNat i) AV.bad = ON (List.getD b (Int.toNat i) default)]) (ans' := []) (base 76 0) cxA_K.1 cxA_K.2 _ (by kernel_rfl)  (allp g0 (allp g1 (allp g2 (allp g3 (allp g4 (allp g5 (allp g6 (allp g7 (allp g8 (allp g9 (allp g10 allp_nil)))))))))))
theorem bdB_1 (ys : List AV) (tb f b : List (List Idd)) (i : Int) (g0 : decide (i < (↑(List.length (List.map ON b)) : Int)) = false) : Tri Try.prog (cxN 76 0) (loopBody Try.f30 2) ([(1, .box (tb.map SH)), (2, .box ys), (3, .box [slO f, slO b]), (6, it i)] ) (Ex.exit 4) ([(1, AV.box (List.map SH tb)), (2, AV.box ys), (3, AV.box [AV.sl Mode.own 62 (some (List.length f)) (List.map ON f), AV.sl Mode.own 62 (some (List.length b)) (List.map ON b)]), (6, it i), (62, bb (decide (i < (↑(List.length (List.map ON b)) : Int))))]) :=
  evA_ok (H := h30) (ans := [.c, .c, .c, .c, .c, .c, .c, .c, .c, .b false]) (ps := [decide (i < (↑(List.length (List.map ON b)) : Int)) = false]) (ans' := []) (base 76 0) cxA_K.1 cxA_K.2 _ (by kernel_rfl)  (allp g0 allp_nil)
end Tst
end

section
open Go Go.Lf Go.Proofs
namespace Tst
theorem getD_SH {tb : List (List Idd)} {t : Nat} (ht : t < tb.length) : (tb.map SH).getD t .bad = SH (tb.getD t []) := by
  simp [List.getD_eq_getElem?_getD, ht]
theorem env3 {zs x x' y y' : AV} {t : Int} {bs ys : List AV} (h : Le Try.prog x x') (h' : Le Try.prog y y') :
    EnvLe Try.prog [(1, .box bs), (2, .box ys), (3, .box [x, y]), (4, it t)] [(1, .box bs), (2, .box ys), (3, .box [x', y']), (4, it t)] :=
  .cons ⟨rfl, rfl, Le.refl _⟩ (.cons ⟨rfl, rfl, Le.refl _⟩ (.cons ⟨rfl, rfl, Le.box (.cons h (.cons h' .nil))⟩ (.cons ⟨rfl, rfl, Le.refl _⟩ .nil)))
def lenStep (tb : List (List Idd)) (o i a : Nat) : Nat := if a = 0 ∧ 0 < (tb.getD (o + i) []).length then i + 1 else a
theorem bd_step (ys : List AV) (tb : List (List Idd)) (htb : tb.length = 80) (a b i : Nat) (hi : i < 40) :
    Tri Try.prog (cxN 76 0) (loopBody Try.f30 0) [(1, .box (tb.map SH)), (2, .box ys), (3, .box [slN a, slN b]), (4, it i)] .normal
      [(1, .box (tb.map SH)), (2, .box ys), (3, .box [slN (lenStep tb 0 i a), slN (lenStep tb 40 i b)]), (4, it ((i : Int) - 1))] := by
  have w1 : IntKind.wrap IntKind.i64 ((i : Int) + 1) = ((i + 1 : Nat) : Int) := by rw [wrap_id' (by omega) (by omega)]; omega
  have w2 : IntKind.wrap IntKind.i64 ((40 : Int) + i) = ((40 + i : Nat) : Int) := by rw [wrap_id' (by omega) (by omega)]; omega
  have w3 : IntKind.wrap IntKind.i64 ((i : Int) - 1) = (i : Int) - 1 := wrap_id' (by omega) (by omega)
  have g0 : decide ((0 : Int) ≤ (i : Int)) = true := decide_eq_true (by omega)
  have z0 : ∀ {c : Nat}, c = 0 → ((((List.replicate c nilT).length : Nat) : Int) == (0 : Int)) = true := by intro c h; subst h; rfl
  have z1 : ∀ {c : Nat}, ¬c = 0 → ((((List.replicate c nilT).length : Nat) : Int) == (0 : Int)) = false := by
    intro c h; rw [List.length_replicate, beq_eq_false_iff_ne]; omega
  have p1 : ∀ {l : List Idd}, 0 < l.length → decide ((0 : Int) < (((l.map Idd.enc).length : Nat) : Int)) = true := by
    intro l h; rw [List.length_map]; exact decide_eq_true (by omega)
  have p0 : ∀ {l : List Idd}, ¬0 < l.length → decide ((0 : Int) < (((l.map Idd.enc).length : Nat) : Int)) = false := by
    intro l h; rw [List.length_map]; exact decide_eq_false (by omega)
  have eL : tb.getD (0 + i) [] = tb.getD i [] := by rw [Nat.zero_add]
  have hSl := getD_SH (tb := tb) (t := i) (by omega)
  have hSr := getD_SH (tb := tb) (t := 40 + i) (by omega)
  by_cases ha : a = 0
  · by_cases hl : 0 < (tb.getD i []).length
    · have ea : lenStep tb 0 i a = i + 1 := by unfold lenStep; rw [eL, if_pos ⟨ha, hl⟩]
      by_cases hb : b = 0
      · by_cases hr : 0 < (tb.getD (40 + i) []).length
        · have eb : lenStep tb 40 i b = i + 1 := by unfold lenStep; rw [if_pos ⟨hb, hr⟩]
          have h := bdA_0 ys tb a b i (by omega)
          simp only [w1, w2, w3, Int.toNat_natCast, List.length_cons, List.length_nil, Nat.zero_add, Nat.mul_one] at h
          rw [ea, eb]
          exact (h g0 (z0 ha) (decide_eq_true (by simp; omega)) (decide_eq_true (by simp; omega)) hSl (p1 hl) (decide_eq_true (by simp; omega)) (z0 hb) (decide_eq_true (by simp; omega)) (decide_eq_true (by simp; omega)) hSr (p1 hr)).less (env3 (zs := .bad) (Le.refl _) (Le.refl _))
        · have eb : lenStep tb 40 i b = b := by unfold lenStep; rw [if_neg fun h => hr h.2]
          have h := bdA_1 ys tb a b i (by omega)
          simp only [w1, w2, w3, Int.toNat_natCast, List.length_cons, List.length_nil, Nat.zero_add, Nat.mul_one] at h
          rw [ea, eb]
          exact (h g0 (z0 ha) (decide_eq_true (by simp; omega)) (decide_eq_true (by simp; omega)) hSl (p1 hl) (decide_eq_true (by simp; omega)) (z0 hb) (decide_eq_true (by simp; omega)) (decide_eq_true (by simp; omega)) hSr (p0 hr)).less (env3 (zs := .bad) (Le.refl _) (Le.refl _))
      · have eb : lenStep tb 40 i b = b := by unfold lenStep; rw [if_neg fun h => hb h.1]
        have h := bdA_2 ys tb a b i (by omega)
        simp only [w1, w2, w3, Int.toNat_natCast, List.length_cons, List.length_nil, Nat.zero_add, Nat.mul_one] at h
        rw [ea, eb]
        exact (h g0 (z0 ha) (decide_eq_true (by simp; omega)) (decide_eq_true (by simp; omega)) hSl (p1 hl) (decide_eq_true (by simp; omega)) (z1 hb)).less (env3 (zs := .bad) (Le.refl _) (Le.refl _))
    · have ea : lenStep tb 0 i a = a := by unfold lenStep; rw [eL, if_neg fun h => hl h.2]
      by_cases hb : b = 0
      · by_cases hr : 0 < (tb.getD (40 + i) []).length
        · have eb : lenStep tb 40 i b = i + 1 := by unfold lenStep; rw [if_pos ⟨hb, hr⟩]
          have h := bdA_3 ys tb a b i (by omega)
          simp only [w1, w2, w3, Int.toNat_natCast, List.length_cons, List.length_nil, Nat.zero_add, Nat.mul_one] at h
          rw [ea, eb]
          exact (h g0 (z0 ha) (decide_eq_true (by simp; omega)) (decide_eq_true (by simp; omega)) hSl (p0 hl) (z0 hb) (decide_eq_true (by simp; omega)) (decide_eq_true (by simp; omega)) hSr (p1 hr) (decide_eq_true (by simp; omega))).less (env3 (zs := .bad) (Le.refl _) (Le.refl _))
        · have eb : lenStep tb 40 i b = b := by unfold lenStep; rw [if_neg fun h => hr h.2]
          have h := bdA_4 ys tb a b i (by omega)
          simp only [w1, w2, w3, Int.toNat_natCast, List.length_cons, List.length_nil, Nat.zero_add, Nat.mul_one] at h
          rw [ea, eb]
          exact h g0 (z0 ha) (decide_eq_true (by simp; omega)) (decide_eq_true (by simp; omega)) hSl (p0 hl) (z0 hb) (decide_eq_true (by simp; omega)) (decide_eq_true (by simp; omega)) hSr (p0 hr)
      · have eb : lenStep tb 40 i b = b := by unfold lenStep; rw [if_neg fun h => hb h.1]
        have h := bdA_5 ys tb a b i (by omega)
        simp only [w1, w2, w3, Int.toNat_natCast, List.length_cons, List.length_nil, Nat.zero_add, Nat.mul_one] at h
        rw [ea, eb]
        exact h g0 (z0 ha) (decide_eq_true (by simp; omega)) (decide_eq_true (by simp; omega)) hSl (p0 hl) (z1 hb)
  · have ea : lenStep tb 0 i a = a := by unfold lenStep; rw [if_neg fun h => ha h.1]
    by_cases hb : b = 0
    · by_cases hr : 0 < (tb.getD (40 + i) []).length
      · have eb : lenStep tb 40 i b = i + 1 := by unfold lenStep; rw [if_pos ⟨hb, hr⟩]
        have h := bdA_6 ys tb a b i (by omega)
        simp only [w1, w2, w3, Int.toNat_natCast, List.length_cons, List.length_nil, Nat.zero_add, Nat.mul_one] at h
        rw [ea, eb]
        exact (h g0 (z1 ha) (z0 hb) (decide_eq_true (by simp; omega)) (decide_eq_true (by simp; omega)) hSr (p1 hr) (decide_eq_true (by simp; omega))).less (env3 (zs := .bad) (Le.refl _) (Le.refl _))
      · have eb : lenStep tb 40 i b = b := by unfold lenStep; rw [if_neg fun h => hr h.2]
        have h := bdA_7 ys tb a b i (by omega)
        simp only [w1, w2, w3, Int.toNat_natCast, List.length_cons, List.length_nil, Nat.zero_add, Nat.mul_one] at h
        rw [ea, eb]
        exact h g0 (z1 ha) (z0 hb) (decide_eq_true (by simp; omega)) (decide_eq_true (by simp; omega)) hSr (p0 hr)
    · have eb : lenStep tb 40 i b = b := by unfold lenStep; rw [if_neg fun h => hb h.1]
      have h := bdA_8 ys tb a b i (by omega)
      simp only [w1, w2, w3, Int.toNat_natCast, List.length_cons, List.length_nil, Nat.zero_add, Nat.mul_one] at h
      rw [ea, eb]
      exact h g0 (z1 ha) (z1 hb)
end Tst
end

section
open Go Go.Lf Go.Proofs
namespace Tst
theorem F2.refl' {α : Type} {R : α → α → Prop} (hR : ∀ x, R x x) : ∀ (l : List α), F2 R l l
  | [] => .nil
  | x :: l => .cons (hR x) (F2.refl' hR l)
theorem F2.set' {α β : Type} {R : α → β → Prop} {x : α} {y : β} (h : R x y) : ∀ {xs : List α} {ys : List β}, F2 R xs ys → ∀ (i : Nat), F2 R (xs.set i x) (ys.set i y)
  | [], _, h1, i => by cases h1; exact .nil
  | a :: xs, _, h1, i => by
    cases h1 with
    | cons g1 g2 =>
      cases i with
      | zero => exact .cons h g2
      | succ i => exact .cons g1 (F2.set' h g2 i)
theorem flat_one {xs : List AV} (h : ∀ x ∈ xs, x.ecells = [x]) : flat xs = xs := by
  induction xs with
  | nil => rfl
  | cons x xs ih =>
    show (x :: xs).flatMap _ = _
    rw [List.flatMap_cons, h x (by simp)]
    have := ih fun y hy => h y (by simp [hy])
    show x :: flat xs = _
    rw [this]
theorem Le.ownPt {e : TypeId} {cap : Option Nat} {xs ys : List AV} (hx : ∀ x ∈ xs, x.ecells = [x]) (hy : ∀ x ∈ ys, x.ecells = [x]) (h : F2 (Le Try.prog) xs ys) : Le Try.prog (.sl .own e cap xs) (.sl .own e cap ys) := by
  refine Le.ownEls h.length (fun sz hu z hz => ?_) (by rw [flat_one hx, flat_one hy]; exact h)
  cases xs with
  | nil => cases h; cases hz
  | cons x xs =>
    have h1 := hu x (by simp)
    rw [hx x (by simp)] at h1
    rw [hy z hz]; exact h1
theorem ON_cells {f : List (List Idd)} : ∀ x ∈ f.map ON, x.ecells = [x] := by
  intro x hx
  obtain ⟨l, _, rfl⟩ := List.mem_map.1 hx
  rfl
theorem mem_set' {α : Type} {l : List α} {i : Nat} {a x : α} (h : x ∈ l.set i a) : x ∈ l ∨ x = a := List.mem_or_eq_of_mem_set h
theorem le_set (f : List (List Idd)) (i : Nat) (c : Option Nat) (l : List Idd) : Le Try.prog (.sl .own 62 (some f.length) ((f.map ON).set i (.sl .own 30 c (l.map Idd.enc)))) (slO (f.set i l)) := by
  unfold slO
  rw [List.map_set, List.length_set]
  refine Le.ownPt ?_ ?_ (F2.set' (Le.cap) (F2.refl' Le.refl _) i)
  · intro x hx
    rcases mem_set' hx with h | rfl
    · exact ON_cells x h
    · rfl
  · intro x hx
    rcases mem_set' hx with h | rfl
    · exact ON_cells x h
    · rfl
theorem le_rep (n : Nat) : Le Try.prog (slN n) (slO (List.replicate n [])) := by
  unfold slO
  rw [List.map_replicate, List.length_replicate]
  exact Le.ownRep rfl rfl (fun B0 w S k v O h => Le.cap B0 w S k v O (Le.nilOwn 30 B0 w S k v O h)) n
theorem all_enc (l : List Idd) : (True ∧ (List.all (l.map Idd.enc) fun y => List.all (AV.ecells y) plainA) = true ∧ (List.all (l.map Idd.enc) fun y => decide (List.length (AV.ecells y) = 1 + 1)) = true) := by
  refine ⟨trivial, ?_, ?_⟩
  · rw [List.all_map, List.all_eq_true]; intro x _; rfl
  · rw [List.all_map, List.all_eq_true]; intro x _; rfl
theorem env5 {k : Nat} {x x' y y' : AV} {t : Int} {bs ys : List AV} (h : Le Try.prog x x') (h' : Le Try.prog y y') :
    EnvLe Try.prog [(1, .box bs), (2, .box ys), (3, .box [x, y]), (k, it t)] [(1, .box bs), (2, .box ys), (3, .box [x', y']), (k, it t)] :=
  .cons ⟨rfl, rfl, Le.refl _⟩ (.cons ⟨rfl, rfl, Le.refl _⟩ (.cons ⟨rfl, rfl, Le.box (.cons h (.cons h' .nil))⟩ (.cons ⟨rfl, rfl, Le.refl _⟩ .nil)))
theorem fill_stepF (ys : List AV) (tb f b : List (List Idd)) (htb : tb.length = 80) (i : Nat) (hi : i < f.length) (hf : f.length ≤ 40) (hs : (tb.getD i []).length ≤ 8) :
    Tri Try.prog (cxN 76 0) (loopBody Try.f30 1) [(1, .box (tb.map SH)), (2, .box ys), (3, .box [slO f, slO b]), (5, it i)] .normal
      [(1, .box (tb.map SH)), (2, .box ys), (3, .box [slO (f.set i (tb.getD i [])), slO b]), (5, it ((i + 1 : Nat) : Int))] := by
  have w1 : IntKind.wrap IntKind.i64 ((i : Int) + 1) = ((i + 1 : Nat) : Int) := by rw [wrap_id' (by omega) (by omega)]; omega
  have h := bdF_0 ys tb f b i
  simp only [w1, Int.toNat_natCast, List.length_cons, List.length_nil, Nat.zero_add, Nat.mul_one] at h
  exact (h (decide_eq_true (by simp; omega)) rfl (decide_eq_true (by simp; omega)) (decide_eq_true (by simp; omega)) (getD_SH (by omega)) (decide_eq_true (all_enc _))
    (decide_eq_true ⟨trivial, by show ((List.map Idd.enc ([] : List Idd)).length + (List.map Idd.enc (tb.getD i [])).length) ≤ 4294967296; rw [List.length_map, List.length_map, List.length_nil]; omega, by simp⟩) rfl (decide_eq_true (by simp; omega)) (decide_eq_true (by simpa using hi)) (getD_ON hi)).less (env5 (by rw [getD_ON hi]; exact le_set f i _ _) (Le.refl _))
theorem fill_stepB (ys : List AV) (tb f b : List (List Idd)) (htb : tb.length = 80) (i : Nat) (hi : i < b.length) (hf : b.length ≤ 40) (hs : (tb.getD (40 + i) []).length ≤ 8) :
    Tri Try.prog (cxN 76 0) (loopBody Try.f30 2) [(1, .box (tb.map SH)), (2, .box ys), (3, .box [slO f, slO b]), (6, it i)] .normal
      [(1, .box (tb.map SH)), (2, .box ys), (3, .box [slO f, slO (b.set i (tb.getD (40 + i) []))]), (6, it ((i + 1 : Nat) : Int))] := by
  have w1 : IntKind.wrap IntKind.i64 ((i : Int) + 1) = ((i + 1 : Nat) : Int) := by rw [wrap_id' (by omega) (by omega)]; omega
  have w2 : IntKind.wrap IntKind.i64 ((40 : Int) + i) = ((40 + i : Nat) : Int) := by rw [wrap_id' (by omega) (by omega)]; omega
  have h := bdB_0 ys tb f b i
  simp only [w1, w2, Int.toNat_natCast, List.length_cons, List.length_nil, Nat.zero_add, Nat.mul_one] at h
  exact (h (decide_eq_true (by simp; omega)) rfl (decide_eq_true (by simp; omega)) (decide_eq_true (by simp; omega)) (getD_SH (by omega)) (decide_eq_true (all_enc _))
    (decide_eq_true ⟨trivial, by show ((List.map Idd.enc ([] : List Idd)).length + (List.map Idd.enc (tb.getD (40 + i) [])).length) ≤ 4294967296; rw [List.length_map, List.length_map, List.length_nil]; omega, by simp⟩) rfl (decide_eq_true (by simp; omega)) (decide_eq_true (by simpa using hi)) (getD_ON hi)).less (env5 (Le.refl _) (by rw [getD_ON hi]; exact le_set b i _ _))
end Tst
end

section
open Go Go.Lf Go.Proofs
namespace Tst
def lenF (tb : List (List Idd)) (o : Nat) : Nat → Nat → Nat
  | 0, a => a
  | k + 1, a => lenF tb o k (lenStep tb o k a)
theorem lenF_le (tb : List (List Idd)) (o : Nat) : ∀ (k a : Nat), k ≤ 40 → a ≤ 40 → lenF tb o k a ≤ 40
  | 0, a, _, h => h
  | k + 1, a, hk, h => lenF_le tb o k _ (by omega) (by unfold lenStep; split <;> omega)
theorem bd_rnd (ys : List AV) (tb : List (List Idd)) (htb : tb.length = 80) : ∀ (k a b : Nat), k ≤ 40 →
    Rnd Try.prog (cxN 76 0) (loopBody Try.f30 0) (k + 1) [(1, .box (tb.map SH)), (2, .box ys), (3, .box [slN a, slN b]), (4, it ((k : Int) - 1))] (.exit 0)
      [(1, .box (tb.map SH)), (2, .box ys), (3, .box [slN (lenF tb 0 k a), slN (lenF tb 40 k b)])] := by
  intro k
  induction k with
  | zero =>
    intro a b _
    exact Rnd.exit (Tri.after [(1, .keep), (2, .keep), (3, .keep)] (bdX_0 ys tb a b (((0 : Nat) : Int) - 1) rfl rfl)) (by simp)
  | succ k ih =>
    intro a b hk
    have h := bd_step ys tb htb a b k (by omega)
    have e : ((k + 1 : Nat) : Int) - 1 = (k : Int) := by omega
    rw [e]
    exact Rnd.step h (ih _ _ (by omega))
def fillR (tb : List (List Idd)) (o : Nat) : Nat → Nat → List (List Idd) → List (List Idd)
  | 0, _, f => f
  | k + 1, i, f => fillR tb o k (i + 1) (f.set i (tb.getD (o + i) []))
theorem fill_rndF (ys : List AV) (tb b : List (List Idd)) (htb : tb.length = 80) (hs : ∀ i, (tb.getD i []).length ≤ 8) : ∀ (k i : Nat) (f : List (List Idd)), i + k = f.length → f.length ≤ 40 →
    Rnd Try.prog (cxN 76 0) (loopBody Try.f30 1) (k + 1) [(1, .box (tb.map SH)), (2, .box ys), (3, .box [slO f, slO b]), (5, it i)] (.exit 2)
      [(1, .box (tb.map SH)), (2, .box ys), (3, .box [slO (fillR tb 0 k i f), slO b])] := by
  intro k
  induction k with
  | zero =>
    intro i f hi hf
    exact Rnd.exit (Tri.after [(1, .keep), (2, .keep), (3, .keep)] (bdF_1 ys tb f b i (decide_eq_false (by simp; omega)))) (by simp)
  | succ k ih =>
    intro i f hi hf
    have h := fill_stepF ys tb f b htb i (by omega) hf (hs i)
    rw [fillR, Nat.zero_add]
    exact Rnd.step h (ih (i + 1) _ (by simp; omega) (by simpa using hf))
theorem fill_rndB (ys : List AV) (tb f : List (List Idd)) (htb : tb.length = 80) (hs : ∀ i, (tb.getD i []).length ≤ 8) : ∀ (k i : Nat) (b : List (List Idd)), i + k = b.length → b.length ≤ 40 →
    Rnd Try.prog (cxN 76 0) (loopBody Try.f30 2) (k + 1) [(1, .box (tb.map SH)), (2, .box ys), (3, .box [slO f, slO b]), (6, it i)] (.exit 4)
      [(2, .box ys), (3, .box [slO f, slO (fillR tb 40 k i b)])] := by
  intro k
  induction k with
  | zero =>
    intro i b hi hf
    exact Rnd.exit (Tri.after [(2, .keep), (3, .keep)] (bdB_1 ys tb f b i (decide_eq_false (by simp; omega)))) (by simp)
  | succ k ih =>
    intro i b hi hf
    have h := fill_stepB ys tb f b htb i (by omega) hf (hs (40 + i))
    rw [fillR]
    exact Rnd.step h (ih (i + 1) _ (by simp; omega) (by simpa using hf))
theorem fillR_len (tb : List (List Idd)) (o : Nat) : ∀ (k i : Nat) (f : List (List Idd)), (fillR tb o k i f).length = f.length
  | 0, _, _ => rfl
  | k + 1, i, f => by rw [fillR, fillR_len]; simp
theorem fillR_get (tb : List (List Idd)) (o : Nat) : ∀ (k i : Nat) (f : List (List Idd)) (j : Nat), j < f.length → (fillR tb o k i f).getD j [] = if i ≤ j ∧ j < i + k then tb.getD (o + j) [] else f.getD j []
  | 0, i, f, j, hj => by rw [if_neg (by omega)]; rfl
  | k + 1, i, f, j, hj => by
    rw [fillR, fillR_get tb o k (i + 1) _ j (by simpa using hj)]
    by_cases h : j = i
    · subst h
      rw [if_neg (by omega), if_pos (by omega)]
      simp [List.getD_eq_getElem?_getD, hj]
    · have e : (f.set i (tb.getD (o + i) [])).getD j [] = f.getD j [] := by
        simp only [List.getD_eq_getElem?_getD]; rw [List.getElem?_set_ne (by omega)]
      rw [e]
      by_cases h2 : i + 1 ≤ j ∧ j < i + 1 + k
      · rw [if_pos h2, if_pos (by omega)]
      · rw [if_neg h2, if_neg (by omega)]
def bedOfT (tb : List (List Idd)) (o : Nat) : List (List Idd) := (List.range (lenF tb o 40 0)).map fun i => tb.getD (o + i) []
theorem fillR_eq (tb : List (List Idd)) (o n : Nat) : fillR tb o n 0 (List.replicate n []) = (List.range n).map fun i => tb.getD (o + i) [] := by
  apply List.ext_getElem
  · rw [fillR_len]; simp
  · intro j h1 h2
    rw [fillR_len, List.length_replicate] at h1
    have h := fillR_get tb o n 0 (List.replicate n []) j (by simpa using h1)
    rw [if_pos (by omega)] at h
    rw [List.getD_eq_getElem?_getD, List.getElem?_eq_getElem (by rw [fillR_len]; simpa using h1)] at h
    simpa using h
end Tst
end

section
open Go Go.Lf Go.Proofs
namespace Tst
set_option maxHeartbeats 0
def bedS (g : Nat → List Idd) : List AV := (List.range 80).map fun i => SH (g i)
theorem bedS_eq {tb : List (List Idd)} (h : tb.length = 80) : tb.map SH = bedS fun i => tb.getD i [] := by
  apply List.ext_getElem
  · simp [bedS, h]
  · intro i h1 h2
    simp [bedS] at h2
    simp [bedS, List.getD_eq_getElem?_getD, h, h2]
def FN (l : List Idd) : AV := .sl .fresh 30 none (l.map Idd.enc)
def frV (f : List (List Idd)) : AV := .sl .fresh 62 (some f.length) (f.map FN)
theorem map_re (k : Nat) (l : List Idd) : (l.map Idd.enc).map (mapE (remode shareM (k + 1))) = l.map Idd.enc := by
  rw [List.map_map]; rfl
theorem share_slO (f : List (List Idd)) : share (slO f) = frV f := by
  show AV.sl .fresh 62 (some f.length) ((f.map ON).map (mapE (remode shareM 11))) = _
  rw [List.map_map]
  unfold frV
  congr 1
  refine List.map_congr_left fun l _ => ?_
  show AV.sl .fresh 30 none ((l.map Idd.enc).map (mapE (remode shareM 10))) = _
  rw [map_re]; rfl
theorem share_frV (f : List (List Idd)) : share (frV f) = frV f := by
  show AV.sl .fresh 62 (some f.length) ((f.map FN).map (mapE (remode shareM 11))) = _
  rw [List.map_map]
  unfold frV
  congr 1
  refine List.map_congr_left fun l _ => ?_
  show AV.sl .fresh 30 none ((l.map Idd.enc).map (mapE (remode shareM 10))) = _
  rw [map_re]; rfl
theorem bed_loops (ys : List AV) (tb : List (List Idd)) (htb : tb.length = 80) (hs : ∀ i, (tb.getD i []).length ≤ 8) :
    Tri Try.prog (cxN 76 0) (.loop (loopBody Try.f30 0)) [(1, .box (bedS fun i => tb.getD i [])), (2, .box ys), (3, .box [nilT, nilT]), (4, it 39)] (.exit 0)
      [(1, .box (bedS fun i => tb.getD i [])), (2, .box ys), (3, .box [slO (List.replicate (lenF tb 0 40 0) []), slO (List.replicate (lenF tb 40 40 0) [])])] ∧
    Tri Try.prog (cxN 76 0) (.loop (loopBody Try.f30 1)) [(1, .box (bedS fun i => tb.getD i [])), (2, .box ys), (3, .box [slO (List.replicate (lenF tb 0 40 0) []), slO (List.replicate (lenF tb 40 40 0) [])]), (5, it 0)] (.exit 2)
      [(1, .box (bedS fun i => tb.getD i [])), (2, .box ys), (3, .box [slO (bedOfT tb 0), slO (List.replicate (lenF tb 40 40 0) [])])] ∧
    Tri Try.prog (cxN 76 0) (.loop (loopBody Try.f30 2)) [(1, .box (bedS fun i => tb.getD i [])), (2, .box ys), (3, .box [slO (bedOfT tb 0), slO (List.replicate (lenF tb 40 40 0) [])]), (6, it 0)] (.exit 4)
      [(2, .box ys), (3, .box [slO (bedOfT tb 0), slO (bedOfT tb 40)])] := by
  rw [← bedS_eq htb]
  have l0 := lenF_le tb 0 40 0 (by omega) (by omega)
  have l1 := lenF_le tb 40 40 0 (by omega) (by omega)
  refine ⟨?_, ?_, ?_⟩
  · have h := Rnd.loop (bd_rnd ys tb htb 40 0 0 (by omega))
    have hz : Le Try.prog nilT (slN 0) := fun B0 w S n v O h => Le.nilOwn 62 B0 w S n v O h
    refine (Tri.more h (env5 (k := 4) (t := 39) hz hz)).less ?_
    exact .cons ⟨rfl, rfl, Le.refl _⟩ (.cons ⟨rfl, rfl, Le.refl _⟩ (.cons ⟨rfl, rfl, Le.box (.cons (le_rep _) (.cons (le_rep _) .nil))⟩ .nil))
  · have h := Rnd.loop (fill_rndF ys tb (List.replicate (lenF tb 40 40 0) []) htb hs (lenF tb 0 40 0) 0 (List.replicate (lenF tb 0 40 0) []) (by simp) (by simpa using l0))
    rw [fillR_eq] at h
    exact h
  · have h := Rnd.loop (fill_rndB ys tb (bedOfT tb 0) htb hs (lenF tb 40 40 0) 0 (List.replicate (lenF tb 40 40 0) []) (by simp) (by simpa using l1))
    rw [fillR_eq] at h
    exact h
theorem beds_c8 (tb : List (List Idd)) (htb : tb.length = 80) (hs : ∀ i, (tb.getD i []).length ≤ 8) :
    PureC Try.prog 30 [.agg (bedS fun i => tb.getD i [])] (.agg [frV (bedOfT tb 0), frV (bedOfT tb 40)]) := by
  obtain ⟨h1, h2, h3⟩ := bed_loops [nilT, nilT] tb htb hs
  have h : PureC Try.prog 30 [.agg (bedS fun i => tb.getD i [])] (.agg [share (frV (bedOfT tb 0)), share (frV (bedOfT tb 40))]) :=
    funA_ok (H := h30) (n := 76) (ans := [.c, .c, .c, .c, .lp (.exit 0) [(1, .box (bedS fun i => tb.getD i [])), (2, .box [nilT, nilT]), (3, .box [slO (List.replicate (lenF tb 0 40 0) []), slO (List.replicate (lenF tb 40 40 0) [])])], .c,
        .lp (.exit 2) [(1, .box (bedS fun i => tb.getD i [])), (2, .box [nilT, nilT]), (3, .box [slO (bedOfT tb 0), slO (List.replicate (lenF tb 40 40 0) [])])], .c,
        .lp (.exit 4) [(2, .box [nilT, nilT]), (3, .box [slO (bedOfT tb 0), slO (bedOfT tb 40)])], .r (.agg [frV (bedOfT tb 0), frV (bedOfT tb 40)]), .c])
      (ps := [Tri Try.prog (cxN 76 0) (.loop (loopBody Try.f30 0)) [(1, .box (bedS fun i => tb.getD i [])), (2, .box [nilT, nilT]), (3, .box [nilT, nilT]), (4, it 39)] (.exit 0)
          [(1, .box (bedS fun i => tb.getD i [])), (2, .box [nilT, nilT]), (3, .box [slO (List.replicate (lenF tb 0 40 0) []), slO (List.replicate (lenF tb 40 40 0) [])])],
        Tri Try.prog (cxN 76 0) (.loop (loopBody Try.f30 1)) [(1, .box (bedS fun i => tb.getD i [])), (2, .box [nilT, nilT]), (3, .box [slO (List.replicate (lenF tb 0 40 0) []), slO (List.replicate (lenF tb 40 40 0) [])]), (5, it 0)] (.exit 2)
          [(1, .box (bedS fun i => tb.getD i [])), (2, .box [nilT, nilT]), (3, .box [slO (bedOfT tb 0), slO (List.replicate (lenF tb 40 40 0) [])])],
        Tri Try.prog (cxN 76 0) (.loop (loopBody Try.f30 2)) [(1, .box (bedS fun i => tb.getD i [])), (2, .box [nilT, nilT]), (3, .box [slO (bedOfT tb 0), slO (List.replicate (lenF tb 40 40 0) [])]), (6, it 0)] (.exit 4)
          [(2, .box [nilT, nilT]), (3, .box [slO (bedOfT tb 0), slO (bedOfT tb 40)])],
        AV.agg [share (slO (bedOfT tb 0)), share (slO (bedOfT tb 40))] = AV.agg [frV (bedOfT tb 0), frV (bedOfT tb 40)]])
      (base 76 0) Try.func30 rfl (by simp) rfl (by kernel_rfl) (allp h1 (allp h2 (allp h3 (allp (by rw [share_slO, share_slO]) allp_nil))))
  rwa [share_frV, share_frV] at h
end Tst
end

section
open Go Go.Lf Go.Proofs
namespace Tst
set_option maxHeartbeats 0
theorem view_bed80F (g : Nat → List Idd) : view (.agg (bed80F g)) = .agg (bedS g) := by
  show AV.agg ((bed80F g).map (remode (fun _ => .any) 11)) = _
  unfold bed80F bedS
  rw [List.map_map]
  congr 1
  refine List.map_congr_left fun i _ => ?_
  show AV.sl .any 30 none (((g i).map Idd.enc).map (mapE (remode (fun _ => .any) 10))) = _
  rw [List.map_map]; rfl
theorem putN_short (t : Nat) : ∀ (j : Nat) (s : List (List Idd) × Nat), (∀ i, (s.1.getD i []).length ≤ 4) → ∀ i, ((putN t j s).1.getD i []).length ≤ 4
  | 0, s, h => h
  | j + 1, s, h => by
    rw [putN]
    split
    · rename_i hl
      refine putN_short t j _ fun i => ?_
      simp only [List.getD_eq_getElem?_getD, List.getElem?_set]
      by_cases hi : t = i
      · subst hi
        rw [if_pos rfl]
        split
        · simp only [List.getD_eq_getElem?_getD] at hl ⊢; simp; omega
        · simp
      · rw [if_neg hi]
        have := h i
        rwa [List.getD_eq_getElem?_getD] at this
    · exact h
theorem ofL_short : ∀ (l : List Pt) (s : List (List Idd) × Nat), (∀ i, (s.1.getD i []).length ≤ 4) → ∀ i, ((ofL l s).1.getD i []).length ≤ 4
  | [], s, h => h
  | p :: l, s, h => ofL_short l (putP p s) (putN_short _ _ s h)
theorem ofT_short (x : List Pt) (i : Nat) : ((ofT x).getD i []).length ≤ 4 := by
  refine ofL_short _ _ (fun i => ?_) i
  simp only [List.getD_eq_getElem?_getD, List.getElem?_replicate]
  split <;> simp
theorem normR_bed80F (g : Nat → List Idd) : normR (.agg (bed80F g)) = .agg (bed80F g) := by
  show AV.agg ((bed80F g).map (remode shareM 11)) = _
  unfold bed80F
  rw [List.map_map]
  congr 1
  refine List.map_congr_left fun i _ => ?_
  show AV.sl .fresh 30 none (((g i).map Idd.enc).map (mapE (remode shareM 10))) = _
  rw [map_re]
end Tst
end

section
open Go Go.Lf Go.Proofs
namespace Tst
set_option maxHeartbeats 0
def ndB (i : Int) : Int := IntKind.wrap IntKind.u8 (Int.tdiv (Int.tmod i (80 : Int)) (40 : Int))
def stkAt (d i : Int) (f b : List Stk) : List Idd := stackOf (if d == 0 then f else b) (i - 1)
theorem ndlAt_v (d i : Int) (cf cb : Option Nat) (f b : List Stk) (h : ndV d i = true) (hf : ∀ s ∈ f, s.l.length ≤ 4294967296) (hb : ∀ s ∈ b, s.l.length ≤ 4294967296) :
    PureC Try.prog 33 [beds (bsl cf f) (bsl cb b), ndl d i] (.sl .own 30 (some (stkAt d i f b).length) ((stkAt d i f b).map Idd.enc)) := by
  have h1 := ndlAt_c d i cf cb f b hf hb
  unfold atV at h1
  rw [if_pos h] at h1
  exact h1
end Tst
end

section
open Go Go.Lf Go.Proofs
namespace Tst
def stkN (f b : List Stk) (i : Nat) : List Idd := stackOf (if i < 40 then f else b) ((i % 40 : Nat) : Int)
theorem cap_eq (l : List Idd) : AV.sl Mode.own 30 (if List.length (List.map Idd.enc (List.replicate (Int.toNat (0 : Int)) { y := (0 : Int), n := (0 : Int) })) + List.length (List.map Idd.enc l) ≤ List.length (List.map Idd.enc l) then some (List.length (List.map Idd.enc l)) else none) (List.map Idd.enc (List.replicate (Int.toNat (0 : Int)) { y := (0 : Int), n := (0 : Int) }) ++ List.map Idd.enc l) =
    AV.sl Mode.own 30 (some (List.length (List.map Idd.enc l))) (List.map Idd.enc (List.replicate (Int.toNat (0 : Int)) { y := (0 : Int), n := (0 : Int) } ++ l)) := by
  rw [if_pos (by show 0 + _ ≤ _; omega)]
  rfl
end Tst
end

section
open Go Go.Lf Go.Proofs
namespace Tst
set_option maxHeartbeats 0
end Tst
end

section
open Go Go.Lf Go.Proofs
namespace Tst
set_option maxHeartbeats 0
end Tst
end

section
open Go Go.Lf Go.Proofs
namespace Tst
set_option maxHeartbeats 0
end Tst
end

section
open Go Go.Lf Go.Proofs
namespace Tst
theorem bedOfT_len (tb : List (List Idd)) (o : Nat) : (bedOfT tb o).length ≤ 40 := by
  unfold bedOfT; rw [List.length_map, List.length_range]; exact lenF_le tb o 40 0 (by omega) (by omega)
end Tst
end

section
open Go Go.Lf Go.Proofs
namespace Tst
set_option maxHeartbeats 0
def ixF (a : List Idd) (p : Idd) : Nat → Nat → Option Nat
  | 0, _ => none
  | k + 1, i => if p = a.getD i default then some i else ixF a p k (i + 1)
theorem ix_some (ca : Option Nat) (a : List Idd) (p : Idd) (hA : a.length < 2 ^ 62) (j : Nat) : ∀ (k i : Nat), i + k = a.length → ixF a p k i = some j →
    Rnd Try.prog (cxN 19 0) (loopBody Try.f70 0) (k + 1) [(0, isl ca a), (3, .box [ub p.y, it p.n]), (7, it (((a.map Idd.enc).length : Nat) : Int)), (8, it i)] .ret [(4, it j)] := by
  intro k
  induction k with
  | zero => intro i _ h; cases h
  | succ k ih =>
    intro i hi h
    have hlt : i < a.length := by omega
    obtain ⟨s1, s2, s3⟩ := scan0 hlt
    rw [ixF] at h
    by_cases e : p = a.getD i default
    · rw [if_pos e] at h; injection h with h; subst h
      exact Rnd.exit (ixl_0 ca a p _ i s1 s2 s3 (by rw [id_beq]; simp only [Int.toNat_natCast]; simpa using e)) (by simp)
    · rw [if_neg e] at h
      have h1 := ixl_1 ca a p _ i s1 s2 s3 (by rw [id_beq]; simp only [Int.toNat_natCast]; simpa using e)
      rw [wrap_id' (by omega) (by omega)] at h1
      exact Rnd.step h1 (ih (i + 1) (by omega) h)
theorem ix_none (ca : Option Nat) (a : List Idd) (p : Idd) (hA : a.length < 2 ^ 62) : ∀ (k i : Nat), i + k = a.length → ixF a p k i = none →
    Rnd Try.prog (cxN 19 0) (loopBody Try.f70 0) (k + 1) [(0, isl ca a), (3, .box [ub p.y, it p.n]), (7, it (((a.map Idd.enc).length : Nat) : Int)), (8, it i)] (.exit 0) [] := by
  intro k
  induction k with
  | zero =>
    intro i hi _
    exact Rnd.exit (Tri.after [] (ixl_2 ca a p _ i (decide_eq_false (by rw [List.length_map]; omega)))) (by simp)
  | succ k ih =>
    intro i hi h
    have hlt : i < a.length := by omega
    obtain ⟨s1, s2, s3⟩ := scan0 hlt
    rw [ixF] at h
    by_cases e : p = a.getD i default
    · rw [if_pos e] at h; cases h
    · rw [if_neg e] at h
      have h1 := ixl_1 ca a p _ i s1 s2 s3 (by rw [id_beq]; simp only [Int.toNat_natCast]; simpa using e)
      rw [wrap_id' (by omega) (by omega)] at h1
      exact Rnd.step h1 (ih (i + 1) (by omega) h)
theorem ixS (ca : Option Nat) (a : List Idd) (p : Idd) (hA : a.length < 2 ^ 62) (j : Nat) (h : ixF a p a.length 0 = some j) :
    Tri Try.prog (cxN 19 0) (.loop (loopBody Try.f70 0)) [(0, isl ca a), (3, .box [ub p.y, it p.n]), (7, it (((a.map Idd.enc).length : Nat) : Int)), (8, it 0)] .ret [(4, it j)] := Rnd.loop (ix_some ca a p hA j a.length 0 (by omega) h)
theorem ixN (ca : Option Nat) (a : List Idd) (p : Idd) (hA : a.length < 2 ^ 62) (h : ixF a p a.length 0 = none) :
    Tri Try.prog (cxN 19 0) (.loop (loopBody Try.f70 0)) [(0, isl ca a), (3, .box [ub p.y, it p.n]), (7, it (((a.map Idd.enc).length : Nat) : Int)), (8, it 0)] (.exit 0) [] := Rnd.loop (ix_none ca a p hA a.length 0 (by omega) h)
theorem ixA_0 (ca : Option Nat) (a : List Idd) (p : Idd) (hA : a.length < 2 ^ 62) (j : Nat) (h : ixF a p a.length 0 = some j) : PureC Try.prog 70 [isl ca a, .agg [ub p.y, it p.n]]  (it (↑j : Int)) :=
  funA_ok (H := h70) (n := 19) (ans := [.c, .c, .c, .c, .c, .lp Ex.ret [(4, it (↑j : Int))]]) (ps := [Tri Try.prog (cxN (19 : Nat) (0 : Nat)) (Code.loop (loopBody Try.f70 (0 : Nat))) [(0, AV.sl Mode.any 30 ca (List.map Idd.enc a)), (3, AV.box [ub (Idd.y p), it (Idd.n p)]), (7, it (↑(List.length (List.map Idd.enc a)) : Int)), (8, it 0)] Ex.ret [(4, it (↑j : Int))]]) (base 19 0) Try.func70 rfl (by simp) rfl (by kernel_rfl)  (allp (by first | (apply ixS <;> (first | assumption | rfl | (simp at * <;> omega))) | (refine Tri.weak [(0, .keep), (3, .keep), (7, .keep), (8, .keep)] ?_; apply ixS <;> (first | assumption | rfl | (simp at * <;> omega)))) allp_nil)
theorem ixB_0 (ca : Option Nat) (a : List Idd) (p : Idd) (hA : a.length < 2 ^ 62) (h : ixF a p a.length 0 = none) : PureC Try.prog 70 [isl ca a, .agg [ub p.y, it p.n]]  (it (-1)) :=
  funA_ok (H := h70) (n := 19) (ans := [.c, .c, .c, .c, .c, .lp (Ex.exit 0) [], .c]) (ps := [Tri Try.prog (cxN (19 : Nat) (0 : Nat)) (Code.loop (loopBody Try.f70 (0 : Nat))) [(0, AV.sl Mode.any 30 ca (List.map Idd.enc a)), (3, AV.box [ub (Idd.y p), it (Idd.n p)]), (7, it (↑(List.length (List.map Idd.enc a)) : Int)), (8, it 0)] (Ex.exit 0) []]) (base 19 0) Try.func70 rfl (by simp) rfl (by kernel_rfl)  (allp (by first | (apply ixN <;> (first | assumption | rfl | (simp at * <;> omega))) | (refine Tri.weak [(0, .keep), (3, .keep), (7, .keep), (8, .keep)] ?_; apply ixN <;> (first | assumption | rfl | (simp at * <;> omega)))) allp_nil)
end Tst
end

section
open Go Go.Lf Go.Proofs
namespace Tst
set_option maxHeartbeats 0
def ixV (a : List Idd) (p : Idd) : Int := match ixF a p a.length 0 with
  | some j => (j : Int)
  | none => -1
theorem ix_c (ca : Option Nat) (a : List Idd) (p : Idd) (hA : a.length < 2 ^ 62) : PureC Try.prog 70 [isl ca a, .agg [ub p.y, it p.n]] (it (ixV a p)) := by
  unfold ixV
  cases h : ixF a p a.length 0 with
  | some j => exact ixA_0 ca a p hA j h
  | none => exact ixB_0 ca a p hA h
theorem cnt_0 (ca : Option Nat) (a : List Idd) (p : Idd) (hA : a.length < 2 ^ 62) : PureC Try.prog 61 [isl ca a, .agg [ub p.y, it p.n]]  (bb (decide ((0 : Int) ≤ ixV a p))) :=
  funA_ok (H := h61) (n := 9) (ans := [.c, .c, .c, .c, .r (AV.sl Mode.any 30 ca (List.map Idd.enc a)), .r (it (ixV a p)), .c, .c, .c, .c]) (ps := [view (AV.sl Mode.any 30 ca (List.map Idd.enc a)) = AV.sl Mode.any 30 ca (List.map Idd.enc a), PureC Try.prog 70 [AV.sl Mode.any 30 ca (List.map Idd.enc a), Idd.enc p] (it (ixV a p))]) (base 9 0) Try.func61 rfl (by simp) rfl (by kernel_rfl)  (allp (by first | exact view_ps _ _ _ | exact view_u8 _ _ _ | rfl | exact view_yn _ _ _ _ _ _ _ | exact view_id _ _ _ | exact view_stk _ _ _ | exact view_beds _ _ _ _ _ _ | exact view_pt _ _ _) (allp (by apply ix_c <;> (first | assumption | rfl | (simp at * <;> omega))) allp_nil))
theorem ixF_mem (a : List Idd) (p : Idd) : ∀ (k i : Nat), i + k = a.length → ((ixF a p k i).isSome = true ↔ p ∈ a.drop i)
  | 0, i, h => by rw [List.drop_of_length_le (by omega)]; simp [ixF]
  | k + 1, i, h => by
    have hlt : i < a.length := by omega
    have e : a.getD i default = a[i] := by rw [List.getD_eq_getElem?_getD, List.getElem?_eq_getElem hlt]; rfl
    rw [ixF, e, List.drop_eq_getElem_cons hlt, List.mem_cons]
    by_cases hp : p = a[i]
    · rw [if_pos hp]; simp [hp]
    · rw [if_neg hp, ixF_mem a p k (i + 1) (by omega)]
      simp [hp]
theorem cnt_c (ca : Option Nat) (a : List Idd) (p : Idd) (hA : a.length < 2 ^ 62) : PureC Try.prog 61 [isl ca a, .agg [ub p.y, it p.n]] (bb (decide (p ∈ a))) := by
  have h := cnt_0 ca a p hA
  have e : decide ((0 : Int) ≤ ixV a p) = decide (p ∈ a) := by
    have hm := ixF_mem a p a.length 0 (by omega)
    rw [List.drop_zero] at hm
    unfold ixV
    cases hx : ixF a p a.length 0 with
    | some j => rw [hx] at hm; rw [decide_eq_decide]; simp only [Option.isSome_some, true_iff] at hm; exact ⟨fun _ => hm, fun _ => by simp only; omega⟩
    | none => rw [hx] at hm; rw [decide_eq_decide]; exact ⟨fun h => absurd h (by decide), fun h => by have := hm.2 h; simp at this⟩
  rw [← e]; exact h
end Tst
end

section
open Go Go.Lf Go.Proofs
namespace Tst
abbrev nilp : AV := .atom (.slice none 0 0)
theorem grwI_0 (n : Int) (h0 : 0 ≤ n) (hn : n ≤ 4294967296) (g0 : decide (n < (0 : Int)) = false) (g1 : decide ((0 : Int) < IntKind.wrap IntKind.i64 (n - IntKind.wrap IntKind.i64 ((↑(0 : Nat) : Int) - (↑((0 : Nat)) : Int)))) = true) (g2 : decide ((0 : Int) ≤ IntKind.wrap IntKind.i64 (n - IntKind.wrap IntKind.i64 ((↑(0 : Nat) : Int) - (↑((0 : Nat)) : Int))) ∧ IntKind.wrap IntKind.i64 (n - IntKind.wrap IntKind.i64 ((↑(0 : Nat) : Int) - (↑((0 : Nat)) : Int))) ≤ (4294967296 : Int)) = true) (g3 : decide (List.length (List.replicate (Int.toNat (IntKind.wrap IntKind.i64 (n - IntKind.wrap IntKind.i64 ((↑(0 : Nat) : Int) - (↑((0 : Nat)) : Int))))) (zeroEl { zero := [Value.int IntKind.u8 (0 : Int), Value.int IntKind.i64 (0 : Int)], bytes := (16 : Nat), agg := true, kind := TK.struct [((0 : Nat), (1 : Nat)), ((1 : Nat), (1 : Nat))] })) ≤ (4294967296 : Nat)) = true) (g4 : AV.sl Mode.own 30 (if (0 : Nat) + List.length (List.replicate (Int.toNat (IntKind.wrap IntKind.i64 (n - IntKind.wrap IntKind.i64 ((↑(0 : Nat) : Int) - (↑((0 : Nat)) : Int))))) (zeroEl { zero := [Value.int IntKind.u8 (0 : Int), Value.int IntKind.i64 (0 : Int)], bytes := (16 : Nat), agg := true, kind := TK.struct [((0 : Nat), (1 : Nat)), ((1 : Nat), (1 : Nat))] })) ≤ (0 : Nat) then some (0 : Nat) else none) ([] ++ List.replicate (Int.toNat (IntKind.wrap IntKind.i64 (n - IntKind.wrap IntKind.i64 ((↑(0 : Nat) : Int) - (↑((0 : Nat)) : Int))))) (zeroEl { zero := [Value.int IntKind.u8 (0 : Int), Value.int IntKind.i64 (0 : Int)], bytes := (16 : Nat), agg := true, kind := TK.struct [((0 : Nat), (1 : Nat)), ((1 : Nat), (1 : Nat))] })) = AV.sl Mode.own 30 (if (0 : Nat) + List.length (List.replicate (Int.toNat (IntKind.wrap IntKind.i64 (n - IntKind.wrap IntKind.i64 ((↑(0 : Nat) : Int) - (↑((0 : Nat)) : Int))))) (zeroEl { zero := [Value.int IntKind.u8 (0 : Int), Value.int IntKind.i64 (0 : Int)], bytes := (16 : Nat), agg := true, kind := TK.struct [((0 : Nat), (1 : Nat)), ((1 : Nat), (1 : Nat))] })) ≤ (0 : Nat) then some (0 : Nat) else none) (List.map Idd.enc ([] ++ List.replicate (Int.toNat (IntKind.wrap IntKind.i64 (n - IntKind.wrap IntKind.i64 ((↑(0 : Nat) : Int) - (↑((0 : Nat)) : Int))))) { y := (0 : Int), n := (0 : Int) }))) : PureC Try.prog 73 [nilp, it n]  (AV.sl Mode.own 30 (if (0 : Nat) + List.length (List.replicate (Int.toNat (IntKind.wrap IntKind.i64 (n - IntKind.wrap IntKind.i64 ((↑(0 : Nat) : Int) - (↑((0 : Nat)) : Int))))) (zeroEl { zero := [Value.int IntKind.u8 (0 : Int), Value.int IntKind.i64 (0 : Int)], bytes := (16 : Nat), agg := true, kind := TK.struct [((0 : Nat), (1 : Nat)), ((1 : Nat), (1 : Nat))] })) ≤ (0 : Nat) then some (0 : Nat) else none) []) :=
  funA_ok (H := h73) (n := 27) (ans := [Ans.c, Ans.c, Ans.c, Ans.b false, Ans.c, Ans.c, Ans.c, Ans.c, Ans.c, Ans.c, Ans.c, Ans.c, Ans.c, Ans.c, Ans.b true, Ans.c, Ans.c, Ans.c, Ans.c, Ans.c, Ans.c, Ans.c, Ans.b true, Ans.b true, Ans.r (AV.sl Mode.own 30 (if (0 : Nat) + List.length (List.replicate (Int.toNat (IntKind.wrap IntKind.i64 (n - IntKind.wrap IntKind.i64 ((↑(0 : Nat) : Int) - (↑((0 : Nat)) : Int))))) (zeroEl { zero := [Value.int IntKind.u8 (0 : Int), Value.int IntKind.i64 (0 : Int)], bytes := (16 : Nat), agg := true, kind := TK.struct [((0 : Nat), (1 : Nat)), ((1 : Nat), (1 : Nat))] })) ≤ (0 : Nat) then some (0 : Nat) else none) (List.map Idd.enc ([] ++ List.replicate (Int.toNat (IntKind.wrap IntKind.i64 (n - IntKind.wrap IntKind.i64 ((↑(0 : Nat) : Int) - (↑((0 : Nat)) : Int))))) { y := (0 : Int), n := (0 : Int) }))), Ans.c, Ans.c, Ans.c, Ans.c, Ans.c, Ans.c, Ans.c, Ans.c]) (ps := [decide (n < (0 : Int)) = false, decide ((0 : Int) < IntKind.wrap IntKind.i64 (n - IntKind.wrap IntKind.i64 ((↑(0 : Nat) : Int) - (↑((0 : Nat)) : Int)))) = true, decide ((0 : Int) ≤ IntKind.wrap IntKind.i64 (n - IntKind.wrap IntKind.i64 ((↑(0 : Nat) : Int) - (↑((0 : Nat)) : Int))) ∧ IntKind.wrap IntKind.i64 (n - IntKind.wrap IntKind.i64 ((↑(0 : Nat) : Int) - (↑((0 : Nat)) : Int))) ≤ (4294967296 : Int)) = true, decide (List.length (List.replicate (Int.toNat (IntKind.wrap IntKind.i64 (n - IntKind.wrap IntKind.i64 ((↑(0 : Nat) : Int) - (↑((0 : Nat)) : Int))))) (zeroEl { zero := [Value.int IntKind.u8 (0 : Int), Value.int IntKind.i64 (0 : Int)], bytes := (16 : Nat), agg := true, kind := TK.struct [((0 : Nat), (1 : Nat)), ((1 : Nat), (1 : Nat))] })) ≤ (4294967296 : Nat)) = true, AV.sl Mode.own 30 (if (0 : Nat) + List.length (List.replicate (Int.toNat (IntKind.wrap IntKind.i64 (n - IntKind.wrap IntKind.i64 ((↑(0 : Nat) : Int) - (↑((0 : Nat)) : Int))))) (zeroEl { zero := [Value.int IntKind.u8 (0 : Int), Value.int IntKind.i64 (0 : Int)], bytes := (16 : Nat), agg := true, kind := TK.struct [((0 : Nat), (1 : Nat)), ((1 : Nat), (1 : Nat))] })) ≤ (0 : Nat) then some (0 : Nat) else none) ([] ++ List.replicate (Int.toNat (IntKind.wrap IntKind.i64 (n - IntKind.wrap IntKind.i64 ((↑(0 : Nat) : Int) - (↑((0 : Nat)) : Int))))) (zeroEl { zero := [Value.int IntKind.u8 (0 : Int), Value.int IntKind.i64 (0 : Int)], bytes := (16 : Nat), agg := true, kind := TK.struct [((0 : Nat), (1 : Nat)), ((1 : Nat), (1 : Nat))] })) = AV.sl Mode.own 30 (if (0 : Nat) + List.length (List.replicate (Int.toNat (IntKind.wrap IntKind.i64 (n - IntKind.wrap IntKind.i64 ((↑(0 : Nat) : Int) - (↑((0 : Nat)) : Int))))) (zeroEl { zero := [Value.int IntKind.u8 (0 : Int), Value.int IntKind.i64 (0 : Int)], bytes := (16 : Nat), agg := true, kind := TK.struct [((0 : Nat), (1 : Nat)), ((1 : Nat), (1 : Nat))] })) ≤ (0 : Nat) then some (0 : Nat) else none) (List.map Idd.enc ([] ++ List.replicate (Int.toNat (IntKind.wrap IntKind.i64 (n - IntKind.wrap IntKind.i64 ((↑(0 : Nat) : Int) - (↑((0 : Nat)) : Int))))) { y := (0 : Int), n := (0 : Int) }))]) (base 27 0) Try.func73 rfl (by simp) rfl (by kernel_rfl)  (allp g0 (allp g1 (allp g2 (allp g3 (allp g4 allp_nil)))))
theorem grwI_1 (n : Int) (h0 : 0 ≤ n) (hn : n ≤ 4294967296) (g0 : decide (n < (0 : Int)) = false) (g1 : decide ((0 : Int) < IntKind.wrap IntKind.i64 (n - IntKind.wrap IntKind.i64 ((↑(0 : Nat) : Int) - (↑((0 : Nat)) : Int)))) = false) : PureC Try.prog 73 [nilp, it n]  niln :=
  funA_ok (H := h73) (n := 27) (ans := [Ans.c, Ans.c, Ans.c, Ans.b false, Ans.c, Ans.c, Ans.c, Ans.c, Ans.c, Ans.c, Ans.c, Ans.c, Ans.c, Ans.c, Ans.b false, Ans.c, Ans.c]) (ps := [decide (n < (0 : Int)) = false, decide ((0 : Int) < IntKind.wrap IntKind.i64 (n - IntKind.wrap IntKind.i64 ((↑(0 : Nat) : Int) - (↑((0 : Nat)) : Int)))) = false]) (base 27 0) Try.func73 rfl (by simp) rfl (by kernel_rfl)  (allp g0 (allp g1 allp_nil))
end Tst
end

section
open Go Go.Lf Go.Proofs
namespace Tst
theorem growI (n : Int) (h0 : 0 ≤ n) (hn : n ≤ 4294967296) : PureC Try.prog 73 [nilp, it n] (iow none []) := by
  have w : IntKind.wrap IntKind.i64 (n - IntKind.wrap IntKind.i64 ((((0 : Nat) : Nat) : Int) - (((0 : Nat)) : Int))) = n := by
    rw [wrap_id' (n := (((0 : Nat) : Nat) : Int) - (((0 : Nat)) : Int)) (by omega) (by omega), wrap_id' (by omega) (by omega)]; omega
  by_cases hp : 0 < n
  · refine PureC.res (grwI_0 n h0 hn (by simp; omega) (by rw [w]; simpa using hp) (by rw [w]; simp; omega) (by rw [w]; simp; omega) (by rw [List.nil_append, List.nil_append, List.map_replicate]; rfl)) Le.cap
  · refine PureC.res (PureC.res (grwI_1 n h0 hn (by simp; omega) (by rw [w]; simpa using hp)) (Le.nilOwn 30)) Le.cap
abbrev twoI (ca cb : Option Nat) (l m : List Idd) : AV := .sl .any 62 (some 2) [isl ca l, isl cb m]
theorem rem_idd (f : Lf.Mode → Lf.Mode) (n : Nat) (m : Lf.Mode) (c : Option Nat) (l : List Idd) : remode f (n + 2) (.sl m 30 c (l.map Idd.enc)) = .sl (f m) 30 c (l.map Idd.enc) := by
  show AV.sl (f m) 30 c ((l.map Idd.enc).map _) = _
  rw [List.map_map]; rfl
theorem view_twoI (ca cb : Option Nat) (l m : List Idd) : view (.sl .own 62 (some 2) [isl ca l, isl cb m]) = twoI ca cb l m := by
  show AV.sl .any 62 (some 2) [remode (fun _ => .any) 11 (isl ca l), remode (fun _ => .any) 11 (isl cb m)] = _
  rw [rem_idd, rem_idd]
theorem icA0_0 (ca cb : Option Nat) (l m : List Idd) (hl : l.length ≤ 1000000) (hm : m.length ≤ 1000000) (g0 : decide (IntKind.wrap IntKind.i64 ((0 : Int) + (↑(List.length (List.map Idd.enc l)) : Int)) < (0 : Int)) = false) : Tri Try.prog (cxN 36 0) (loopBody Try.f65 0) ([(0, twoI ca cb l m), (3, it 0), (9, twoI ca cb l m), (10, it 2), (11, it 0)] ) (Ex.normal) ([(0, AV.sl Mode.any 62 (some 2) [AV.sl Mode.any 30 ca (List.map Idd.enc l), AV.sl Mode.any 30 cb (List.map Idd.enc m)]), (3, it (IntKind.wrap IntKind.i64 ((0 : Int) + (↑(List.length (List.map Idd.enc l)) : Int)))), (9, AV.sl Mode.any 62 (some 2) [AV.sl Mode.any 30 ca (List.map Idd.enc l), AV.sl Mode.any 30 cb (List.map Idd.enc m)]), (10, it 2), (11, it (IntKind.wrap IntKind.i64 ((0 : Int) + (1 : Int))))]) :=
  evA_ok (H := h65) (ans := [.c, .c, .c, .c, .c, .c, .c, .c, .c, .c, .c, .c, .c, .c, .b false, .c, .c]) (ps := [decide (IntKind.wrap IntKind.i64 ((0 : Int) + (↑(List.length (List.map Idd.enc l)) : Int)) < (0 : Int)) = false]) (ans' := []) (base 36 0) cxA_K.1 cxA_K.2 _ (by kernel_rfl)  (allp g0 allp_nil)
theorem icA1_0 (ca cb : Option Nat) (l m : List Idd) (s : Int) (hl : l.length ≤ 1000000) (hm : m.length ≤ 1000000) (g0 : decide (IntKind.wrap IntKind.i64 (s + (↑(List.length (List.map Idd.enc m)) : Int)) < (0 : Int)) = false) : Tri Try.prog (cxN 36 0) (loopBody Try.f65 0) ([(0, twoI ca cb l m), (3, it s), (9, twoI ca cb l m), (10, it 2), (11, it 1)] ) (Ex.normal) ([(0, AV.sl Mode.any 62 (some 2) [AV.sl Mode.any 30 ca (List.map Idd.enc l), AV.sl Mode.any 30 cb (List.map Idd.enc m)]), (3, it (IntKind.wrap IntKind.i64 (s + (↑(List.length (List.map Idd.enc m)) : Int)))), (9, AV.sl Mode.any 62 (some 2) [AV.sl Mode.any 30 ca (List.map Idd.enc l), AV.sl Mode.any 30 cb (List.map Idd.enc m)]), (10, it 2), (11, it (IntKind.wrap IntKind.i64 ((1 : Int) + (1 : Int))))]) :=
  evA_ok (H := h65) (ans := [.c, .c, .c, .c, .c, .c, .c, .c, .c, .c, .c, .c, .c, .c, .b false, .c, .c]) (ps := [decide (IntKind.wrap IntKind.i64 (s + (↑(List.length (List.map Idd.enc m)) : Int)) < (0 : Int)) = false]) (ans' := []) (base 36 0) cxA_K.1 cxA_K.2 _ (by kernel_rfl)  (allp g0 allp_nil)
theorem icA2_0 (ca cb : Option Nat) (l m : List Idd) (s : Int) (hl : l.length ≤ 1000000) (hm : m.length ≤ 1000000) : Tri Try.prog (cxN 36 0) (loopBody Try.f65 0) ([(0, twoI ca cb l m), (3, it s), (9, twoI ca cb l m), (10, it 2), (11, it 2)] ) (Ex.exit 0) ([(0, AV.sl Mode.any 62 (some 2) [AV.sl Mode.any 30 ca (List.map Idd.enc l), AV.sl Mode.any 30 cb (List.map Idd.enc m)]), (3, it s), (9, AV.sl Mode.any 62 (some 2) [AV.sl Mode.any 30 ca (List.map Idd.enc l), AV.sl Mode.any 30 cb (List.map Idd.enc m)]), (10, it 2), (11, it 2), (12, bb (decide ((2 : Int) < (2 : Int))))]) :=
  evA_ok (H := h65) (ans := [.c, .c]) (ps := []) (ans' := []) (base 36 0) cxA_K.1 cxA_K.2 _ (by kernel_rfl)  allp_nil
theorem icB0_0 (ca cb : Option Nat) (l m t : List Idd) (hl : l.length ≤ 1000000) (hm : m.length ≤ 1000000) (g0 : decide ((62 : Nat) = (62 : Nat) ∧ (List.all (List.map Idd.enc l) fun y => List.all (AV.ecells y) plainA) = true ∧ (List.all (List.map Idd.enc l) fun y => decide (List.length (AV.ecells y) = List.length (TInfo.zero { zero := [Value.int IntKind.u8 (0 : Int), Value.int IntKind.i64 (0 : Int)], bytes := (16 : Nat), agg := true, kind := TK.struct [((0 : Nat), (1 : Nat)), ((1 : Nat), (1 : Nat))] }))) = true) = true) (g1 : decide (List.length (List.map Idd.enc t) + List.length (List.map Idd.enc l) ≤ (4294967296 : Nat)) = true) (g2 : AV.sl Mode.own 30 none (List.map Idd.enc t ++ List.map Idd.enc l) = AV.sl Mode.own 30 none (List.map Idd.enc (t ++ l))) : Tri Try.prog (cxN 36 0) (loopBody Try.f65 1) ([(6, iow none t), (25, twoI ca cb l m), (26, it 2), (27, it 0)] ) (Ex.normal) ([(6, AV.sl Mode.own 30 none (List.map Idd.enc (t ++ l))), (25, AV.sl Mode.any 62 (some 2) [AV.sl Mode.any 30 ca (List.map Idd.enc l), AV.sl Mode.any 30 cb (List.map Idd.enc m)]), (26, it 2), (27, it (IntKind.wrap IntKind.i64 ((0 : Int) + (1 : Int))))]) :=
  evA_ok (H := h65) (ans := [.c, .c, .c, .c, .c, .c, .c, .c, .c, .b true, .b true, .r (AV.sl Mode.own 30 none (List.map Idd.enc (t ++ l))), .c, .c, .c]) (ps := [decide ((62 : Nat) = (62 : Nat) ∧ (List.all (List.map Idd.enc l) fun y => List.all (AV.ecells y) plainA) = true ∧ (List.all (List.map Idd.enc l) fun y => decide (List.length (AV.ecells y) = List.length (TInfo.zero { zero := [Value.int IntKind.u8 (0 : Int), Value.int IntKind.i64 (0 : Int)], bytes := (16 : Nat), agg := true, kind := TK.struct [((0 : Nat), (1 : Nat)), ((1 : Nat), (1 : Nat))] }))) = true) = true, decide (List.length (List.map Idd.enc t) + List.length (List.map Idd.enc l) ≤ (4294967296 : Nat)) = true, AV.sl Mode.own 30 none (List.map Idd.enc t ++ List.map Idd.enc l) = AV.sl Mode.own 30 none (List.map Idd.enc (t ++ l))]) (ans' := []) (base 36 0) cxA_K.1 cxA_K.2 _ (by kernel_rfl)  (allp g0 (allp g1 (allp g2 allp_nil)))
theorem icB1_0 (ca cb : Option Nat) (l m t : List Idd) (hl : l.length ≤ 1000000) (hm : m.length ≤ 1000000) (g0 : decide ((62 : Nat) = (62 : Nat) ∧ (List.all (List.map Idd.enc m) fun y => List.all (AV.ecells y) plainA) = true ∧ (List.all (List.map Idd.enc m) fun y => decide (List.length (AV.ecells y) = List.length (TInfo.zero { zero := [Value.int IntKind.u8 (0 : Int), Value.int IntKind.i64 (0 : Int)], bytes := (16 : Nat), agg := true, kind := TK.struct [((0 : Nat), (1 : Nat)), ((1 : Nat), (1 : Nat))] }))) = true) = true) (g1 : decide (List.length (List.map Idd.enc t) + List.length (List.map Idd.enc m) ≤ (4294967296 : Nat)) = true) (g2 : AV.sl Mode.own 30 none (List.map Idd.enc t ++ List.map Idd.enc m) = AV.sl Mode.own 30 none (List.map Idd.enc (t ++ m))) : Tri Try.prog (cxN 36 0) (loopBody Try.f65 1) ([(6, iow none t), (25, twoI ca cb l m), (26, it 2), (27, it 1)] ) (Ex.normal) ([(6, AV.sl Mode.own 30 none (List.map Idd.enc (t ++ m))), (25, AV.sl Mode.any 62 (some 2) [AV.sl Mode.any 30 ca (List.map Idd.enc l), AV.sl Mode.any 30 cb (List.map Idd.enc m)]), (26, it 2), (27, it (IntKind.wrap IntKind.i64 ((1 : Int) + (1 : Int))))]) :=
  evA_ok (H := h65) (ans := [.c, .c, .c, .c, .c, .c, .c, .c, .c, .b true, .b true, .r (AV.sl Mode.own 30 none (List.map Idd.enc (t ++ m))), .c, .c, .c]) (ps := [decide ((62 : Nat) = (62 : Nat) ∧ (List.all (List.map Idd.enc m) fun y => List.all (AV.ecells y) plainA) = true ∧ (List.all (List.map Idd.enc m) fun y => decide (List.length (AV.ecells y) = List.length (TInfo.zero { zero := [Value.int IntKind.u8 (0 : Int), Value.int IntKind.i64 (0 : Int)], bytes := (16 : Nat), agg := true, kind := TK.struct [((0 : Nat), (1 : Nat)), ((1 : Nat), (1 : Nat))] }))) = true) = true, decide (List.length (List.map Idd.enc t) + List.length (List.map Idd.enc m) ≤ (4294967296 : Nat)) = true, AV.sl Mode.own 30 none (List.map Idd.enc t ++ List.map Idd.enc m) = AV.sl Mode.own 30 none (List.map Idd.enc (t ++ m))]) (ans' := []) (base 36 0) cxA_K.1 cxA_K.2 _ (by kernel_rfl)  (allp g0 (allp g1 (allp g2 allp_nil)))
theorem icB2_0 (ca cb : Option Nat) (l m t : List Idd) (hl : l.length ≤ 1000000) (hm : m.length ≤ 1000000) : Tri Try.prog (cxN 36 0) (loopBody Try.f65 1) ([(6, iow none t), (25, twoI ca cb l m), (26, it 2), (27, it 2)] ) (Ex.exit 2) ([(6, AV.sl Mode.own 30 none (List.map Idd.enc t)), (25, AV.sl Mode.any 62 (some 2) [AV.sl Mode.any 30 ca (List.map Idd.enc l), AV.sl Mode.any 30 cb (List.map Idd.enc m)]), (26, it 2), (27, it 2), (28, bb (decide ((2 : Int) < (2 : Int))))]) :=
  evA_ok (H := h65) (ans := [.c, .c]) (ps := []) (ans' := []) (base 36 0) cxA_K.1 cxA_K.2 _ (by kernel_rfl)  allp_nil
end Tst
end

section
open Go Go.Lf Go.Proofs
namespace Tst
theorem all_plainI (l : List Idd) : (List.all (l.map Idd.enc) fun y => List.all (AV.ecells y) plainA) = true := by
  rw [List.all_map, List.all_eq_true]; intro x _; rfl
theorem all_twoI (l : List Idd) : (List.all (l.map Idd.enc) fun y => decide (List.length (AV.ecells y) = 2)) = true := by
  rw [List.all_map, List.all_eq_true]; intro x _; rfl
theorem ic_A (ca cb : Option Nat) (l m : List Idd) (hl : l.length ≤ 1000000) (hm : m.length ≤ 1000000) : Tri Try.prog (cxN 36 0) (.loop (loopBody Try.f65 0)) [(0, twoI ca cb l m), (3, it 0), (9, twoI ca cb l m), (10, it 2), (11, it 0)] (.exit 0) [(0, twoI ca cb l m), (3, it ((l.length + m.length : Nat) : Int))] := by
  have w0 : IntKind.i64.wrap ((0 : Int) + 1) = 1 := by decide
  have w1 : IntKind.i64.wrap ((1 : Int) + 1) = 2 := by decide
  have h0 := icA0_0 ca cb l m hl hm (by rw [List.length_map, wrap_id' (by omega) (by omega)]; simp; try omega)
  rw [w0, wrap_id' (n := (0 : Int) + _) (by omega) (by simp; omega)] at h0
  have h1 := icA1_0 ca cb l m (0 + ((l.map Idd.enc).length : Int)) hl hm (by rw [List.length_map, List.length_map, wrap_id' (by omega) (by omega)]; simp; try omega)
  rw [w1, wrap_id' (by simp; omega) (by simp; omega)] at h1
  have h2 := Tri.after [(0, .keep), (3, .keep)] (icA2_0 ca cb l m (0 + ((l.map Idd.enc).length : Int) + ((m.map Idd.enc).length : Int)) hl hm)
  have e : (0 + ((l.map Idd.enc).length : Int) + ((m.map Idd.enc).length : Int)) = ((l.length + m.length : Nat) : Int) := by simp
  rw [e] at h2 h1
  exact Rnd.loop (Rnd.step h0 (Rnd.step h1 (Rnd.exit (n := 0) h2 (by simp))))
theorem ic_B (ca cb : Option Nat) (l m : List Idd) (hl : l.length ≤ 1000000) (hm : m.length ≤ 1000000) : Tri Try.prog (cxN 36 0) (.loop (loopBody Try.f65 1)) [(6, iow none []), (25, twoI ca cb l m), (26, it 2), (27, it 0)] (.exit 2) [(6, iow none (l ++ m))] := by
  have w0 : IntKind.i64.wrap ((0 : Int) + 1) = 1 := by decide
  have w1 : IntKind.i64.wrap ((1 : Int) + 1) = 2 := by decide
  have h0 := icB0_0 ca cb l m [] hl hm (by simp only [decide_eq_true_eq]; exact ⟨trivial, all_plainI _, all_twoI _⟩) (by simp; omega) (by simp)
  rw [w0] at h0
  have h1 := icB1_0 ca cb l m ([] ++ l) hl hm (by simp only [decide_eq_true_eq]; exact ⟨trivial, all_plainI _, all_twoI _⟩) (by simp; omega) (by simp)
  rw [w1] at h1
  have h2 := Tri.after [(6, .keep)] (icB2_0 ca cb l m ([] ++ l ++ m) hl hm)
  rw [List.nil_append] at h2 h1 h0
  exact Rnd.loop (Rnd.step h0 (Rnd.step h1 (Rnd.exit (n := 0) h2 (by simp))))
theorem conI_0 (ca cb : Option Nat) (l m : List Idd) (hl : l.length ≤ 1000000) (hm : m.length ≤ 1000000) (g0 : AV.sl Mode.own 30 none [] = AV.sl Mode.own 30 none (List.map Idd.enc [])) : PureC Try.prog 65 [twoI ca cb l m]  (AV.sl Mode.own 30 none (List.map Idd.enc (l ++ m))) :=
  funA_ok (H := h65) (n := 36) (ans := [.c, .c, .c, .c, .c, .lp (Ex.exit 0) [(0, AV.sl Mode.any 62 (some 2) [AV.sl Mode.any 30 ca (List.map Idd.enc l), AV.sl Mode.any 30 cb (List.map Idd.enc m)]), (3, it (↑(List.length l + List.length m) : Int))], .c, .r (AV.sl Mode.own 30 none []), .c, .r (AV.sl Mode.own 30 none (List.map Idd.enc [])), .c, .c, .c, .c, .lp (Ex.exit 2) [(6, AV.sl Mode.own 30 none (List.map Idd.enc (l ++ m)))], .c, .c]) (ps := [Tri Try.prog (cxN (36 : Nat) (0 : Nat)) (Code.loop (loopBody Try.f65 (0 : Nat))) [(0, AV.sl Mode.any 62 (some 2) [AV.sl Mode.any 30 ca (List.map Idd.enc l), AV.sl Mode.any 30 cb (List.map Idd.enc m)]), (3, it 0), (9, AV.sl Mode.any 62 (some 2) [AV.sl Mode.any 30 ca (List.map Idd.enc l), AV.sl Mode.any 30 cb (List.map Idd.enc m)]), (10, it (↑(List.length [isl ca l, isl cb m]) : Int)), (11, it 0)] (Ex.exit 0) [(0, AV.sl Mode.any 62 (some 2) [AV.sl Mode.any 30 ca (List.map Idd.enc l), AV.sl Mode.any 30 cb (List.map Idd.enc m)]), (3, it (↑(List.length l + List.length m) : Int))], PureC Try.prog 73 [niln, it (↑(List.length l + List.length m) : Int)] (AV.sl Mode.own 30 none []), AV.sl Mode.own 30 none [] = AV.sl Mode.own 30 none (List.map Idd.enc []), Tri Try.prog (cxN (36 : Nat) (0 : Nat)) (Code.loop (loopBody Try.f65 (1 : Nat))) [(6, AV.sl Mode.own 30 none []), (25, AV.sl Mode.any 62 (some 2) [AV.sl Mode.any 30 ca (List.map Idd.enc l), AV.sl Mode.any 30 cb (List.map Idd.enc m)]), (26, it (↑(List.length [AV.sl Mode.any 30 ca (List.map Idd.enc l), AV.sl Mode.any 30 cb (List.map Idd.enc m)]) : Int)), (27, it 0)] (Ex.exit 2) [(6, AV.sl Mode.own 30 none (List.map Idd.enc (l ++ m)))]]) (base 36 0) Try.func65 rfl (by simp) rfl (by kernel_rfl)  (allp (by first | (apply ic_A <;> (first | assumption | rfl | (simp at * <;> omega))) | (refine Tri.weak [(0, .keep), (3, .keep), (9, .keep), (10, .keep), (11, .keep)] ?_; apply ic_A <;> (first | assumption | rfl | (simp at * <;> omega))) | (apply ic_B <;> (first | assumption | rfl | (simp at * <;> omega))) | (refine Tri.weak [(6, .keep), (25, .keep), (26, .keep), (27, .keep)] ?_; apply ic_B <;> (first | assumption | rfl | (simp at * <;> omega))) | (apply growI <;> (first | assumption | rfl | (simp at * <;> omega)))) (allp (by apply growI <;> (first | assumption | rfl | (simp at * <;> omega))) (allp g0 (allp (by first | (apply ic_A <;> (first | assumption | rfl | (simp at * <;> omega))) | (refine Tri.weak [(0, .keep), (3, .keep), (9, .keep), (10, .keep), (11, .keep)] ?_; apply ic_A <;> (first | assumption | rfl | (simp at * <;> omega))) | (apply ic_B <;> (first | assumption | rfl | (simp at * <;> omega))) | (refine Tri.weak [(6, .keep), (25, .keep), (26, .keep), (27, .keep)] ?_; apply ic_B <;> (first | assumption | rfl | (simp at * <;> omega))) | (apply growI <;> (first | assumption | rfl | (simp at * <;> omega)))) allp_nil))))
theorem conI_c (ca cb : Option Nat) (l m : List Idd) (hl : l.length ≤ 1000000) (hm : m.length ≤ 1000000) : PureC Try.prog 65 [twoI ca cb l m] (iow none (l ++ m)) := conI_0 ca cb l m hl hm rfl
end Tst
end

section
namespace Go.Lf
open Go Go.RowKit
section
variable {P : Program} {F : Frm} {B0 : Nat} {w0 w : World} {S S0 : Nat → Prop} {n : Nat} {env : Env} {a : Act} {tmps : Array Value} {Os : Nat → Own} {cx : Cx}
theorem St.shrBox (hst : St P F B0 w0 n env a.tmps w S Os) {r : Nat} {cs : List AV} (hr : lk env r = some (.box cs)) (hp : cs.all plainA = true) (hno : noRoot r env) :
    ∃ S' Os', St P F B0 w0 n ((r, .vadr cs 0) :: env) a.tmps w S' Os' ∧ (∀ b, S b → S' b) ∧ (∀ b, S' b → S b ∨ B0 ≤ b) := by
  obtain ⟨vr, hv, hsv⟩ := hst.rel r _ hr
  have hrv := hsv.rv rfl
  obtain ⟨m, rfl⟩ := hrv.pos
  obtain ⟨g, C, T, O', rfl, hB, hg, hrc, hO⟩ := hrv
  have hz := plain_zero hrc hp
  have hgo : 0 < Os r g := by have := hO g; simp [ind] at this; omega
  have hd : r < a.tmps.size := (Array.getElem?_eq_some_iff.1 hv).1
  have hlen : C.toList.length = cs.length := hrc.length
  have hrc' : Rc (Rv P B0 w (fun b => S b ∨ b = g) m) C.toList cs (fun _ => 0) := by
    have h := hrc.map (g := id) (R' := Rv P B0 w (fun b => S b ∨ b = g) m) fun v x O1 hle h1 => by
      have e : O1 = fun _ => 0 := funext fun b => by have := hle b; have := hz b; omega
      subst e
      exact Rv.frame (fun b hb => .inl hb) (fun _ _ => rfl) m v x _ (fun _ _ => rfl) h1
    rwa [List.map_id] at h
  refine ⟨fun b => S b ∨ b = g, fun t => if t = r then (fun _ => 0) else Os t, ?_, fun b hb => .inl hb, ?_⟩
  rotate_left
  · intro b hb
    rcases hb with hb | hb
    · exact .inl hb
    · subst hb; exact .inr hB
  have key := hst.set (Nat.le_refl _) r (v := .pointer (some ⟨g, 0, none⟩)) (x := .vadr cs 0) (O := fun _ => 0) (S' := fun b => S b ∨ b = g) ⟨hd, .inr hv⟩ (Below.refl _ _) (fun b hb => .inl hb)
    (fun b hb => by
      rcases hb with hb | hb
      · exact hst.sLt b hb
      · subst hb; exact (hst.lt r b hgo).2)
    (fun b t ht hb => by
      rcases hb with hb | hb
      · exact hst.excl b t hb
      · subst hb
        rcases hst.dis r t b (Ne.symm ht) with h | h
        · omega
        · exact h)
    (fun _ _ => rfl) (fun _ _ => rfl) (fun _ => Nat.zero_le _) (fun b t _ hb => by omega)
    (.inr ⟨g, 0, C, T, (0, 0), rfl, .inr rfl, hg, Nat.le_refl _, by rw [← hlen]; simp, fun _ => rfl, by
      rw [Nat.sub_self, List.drop_zero, List.take_of_length_le (by omega)]; exact hrc'⟩)
    (fun t y _ _ hy hyr => absurd hyr (hno t y hy))
  rwa [setSame a.tmps r _ hv] at key
theorem Tri.shr {c : Code} {env' : Env} {ex : Ex} {r : Nat} {cs : List AV} (hr : lk env r = some (.box cs)) (hp : cs.all plainA = true) (hno : noRoot r env) (h : Tri P cx c ((r, .vadr cs 0) :: env) ex env') : Tri P cx c env ex env' :=
  fun ρ hρ F B0 w0 S0 ds a w Q hag hQ => h ρ hρ F B0 w0 S0 ds a w Q (match hag with
    | ⟨h1, h2, n, S, Os, hn, hgr, hst⟩ =>
      have ⟨S', Os', hst', hS, hS'⟩ := hst.shrBox hr hp hno
      ⟨h1, h2, n, S', Os', hn, ⟨fun b hb => hS b (hgr.1 b hb), fun b hb => by
        rcases hS' b hb with h | h
        · exact hgr.2 b h
        · exact .inr h⟩, hst'⟩) hQ
end
end Go.Lf
end

section
namespace Go.Lf
open Go Go.RowKit
structure Grew (X : Nat → Prop) (w w' : World) : Prop where
  os : w'.os = w.os
  tape : w'.tape = w.tape
  output : w'.output = w.output
  size : w.heap.size ≤ w'.heap.size
  block : ∀ b, b < w.heap.size → ¬ X b → w'.heap[b]? = w.heap[b]?
def SeqC (P : Program) (f : FuncId) (cs : List AV) (xss : List (List AV)) : Prop :=
  (∀ (args : Array Value) (w : World), (callFunc f args).run P w = .ok (.enter f args) w) ∧
  ∀ (w : World) (S : Nat → Prop) (n : Nat) (lb : List Value) (l : Nat) (J : Nat → (Nat → Prop) → World → Prop) (Jx : Nat → World → Prop),
    (∀ b, S b → b < w.heap.size) → Rc (Rv P w.heap.size w S n) lb cs (fun _ => 0) →
    (∀ k X W W', J k X W → Below W.heap.size W W' → J k X W') → (∀ k W W', Jx k W → Below W.heap.size W W' → Jx k W') →
    (∀ k X W, J k X W → w.heap.size ≤ W.heap.size ∧ (∀ b, S b → W.heap[b]? = w.heap[b]? ∧ ¬ X b) ∧ ∀ b, X b → b < W.heap.size) →
    (∀ k X W xs vs S' m, J k X W → xss[k]? = some xs → (∀ b, S' b → (S b ∨ w.heap.size ≤ b) ∧ b < W.heap.size ∧ ¬ X b) → (∀ B1, Rc (Rv P B1 W S' m) vs xs (fun _ => 0)) →
      YieldAt (Fi none) 0 P l vs.toArray W fun e W' => (e = .returned (.bool true) ∧ ∃ X', J (k + 1) X' W' ∧ Grew X W W' ∧ ∀ b, X' b → X b ∨ W.heap.size ≤ b) ∨ (e = .returned (.bool false) ∧ Jx k W')) →
    ∀ X, J 0 X w → Calls P f ((Value.func (.yield l) #[] #[] :: lb).toArray) w fun e W' => (∃ v, e = .returned v) ∧ ((∃ X', J xss.length X' W') ∨ ∃ k, k < xss.length ∧ Jx k W')
def freeA : AV → Bool
  | .atom _ => true
  | .bad => true
  | .agg cs => cs.all plainA
  | .sl .own _ _ _ => false
  | .sl .. => true
  | .vadr .. => true
  | .fn .. => true
  | _ => false
section
variable {P : Program} {F : Frm} {B0 : Nat} {w0 w w' : World} {S S' S0 : Nat → Prop} {n n' : Nat} {env env' : Env} {a : Act} {tmps : Array Value} {Os : Nat → Own} {cx : Cx}
theorem freeA_zero {v : Value} {x : AV} {O : Own} (h : Rv P B0 w S n v x O) (hp : freeA x = true) : Zero O := by
  obtain ⟨m, rfl⟩ := h.pos
  cases x with
  | atom u => exact h.2
  | bad => exact h
  | agg cs => obtain ⟨_, _, hrc⟩ := h; exact plain_zero hrc hp
  | sl mm e cap xs =>
    cases mm with
    | own => simp [freeA] at hp
    | fresh => obtain ⟨A, k, _, _, _, _, _, hz, _⟩ := h; exact hz
    | any => obtain ⟨A, k, _, _, _, _, _, hz, _⟩ := h; exact hz
  | vadr cs c => obtain ⟨g, o, C, T, fr, _, _, _, _, _, hz, _⟩ := h; exact hz
  | fn f cs => obtain ⟨_, _, hz, _⟩ := h; exact hz
  | _ => simp [freeA] at hp
theorem freeA_leaf {x : AV} (hp : freeA x = true) : leafRoot x = none := by cases x <;> first | rfl | simp [freeA] at hp
theorem St.later (h : St P F B0 w0 n env tmps w S Os) (hnl : ∀ t x, lk env t = some x → leafRoot x = none) (hB : Below w.heap.size w w') : St P F B0 w0 n env tmps w' S Os := by
  have hlt : ∀ t b, 0 < Os t b → b < w.heap.size := by
    intro t b hb
    cases hl : lk env t with
    | none => have := h.abs t hl b; omega
    | some x =>
      obtain ⟨v, hv, hs⟩ := h.rel t x hl
      rcases hs with ⟨k1, _, _⟩ | hr
      · exact absurd (hnl t x hl) k1
      · exact (Rv.owned n v x _ hr b hb).2
  refine ⟨h.below.trans (hB.mono h.b0), Nat.le_trans h.b0 hB.size, fun b hb => Nat.lt_of_lt_of_le (h.sLt b hb) hB.size, h.excl, h.one, h.dis, ?_, h.abs, h.leaf, fun b hb => ⟨(h.keep b hb).1, (hB.block b (h.sLt b (h.keep b hb).1)).trans (h.keep b hb).2⟩, h.pin⟩
  intro t x hx
  obtain ⟨v, hv, hs⟩ := h.rel t x hx
  refine ⟨v, hv, ?_⟩
  rcases hs with ⟨k1, _, _⟩ | hr
  · exact absurd (hnl t x hx) k1
  · exact .inr (Rv.frame (fun _ h => h) (fun b hb => hB.block b (h.sLt b hb)) n v x (Os t) (fun b hb => hB.block b (hlt t b hb)) hr)
theorem putObj_below {W : World} {l : Nat} {o : Obj} {B : Nat} (hl : B ≤ l) : Below B W (W.putObj l o) :=
  ⟨rfl, rfl, rfl, by rw [World.putObj_size]; exact Nat.le_refl _, fun k hk => World.putObj_heap_other (by omega)⟩
theorem foldl_set_size (q : List (Nat × Value)) : ∀ (T : Array Value), (q.foldl (fun t (pv : Nat × Value) => t.setIfInBounds pv.1 pv.2) T).size = T.size := by
  induction q with
  | nil => intro T; rfl
  | cons p q ih => intro T; rw [List.foldl_cons, ih]; simp
theorem foldl_set_other (q : List (Nat × Value)) : ∀ (T : Array Value) (t : Nat), (∀ p ∈ q, p.1 ≠ t) → (q.foldl (fun t (pv : Nat × Value) => t.setIfInBounds pv.1 pv.2) T)[t]? = T[t]? := by
  induction q with
  | nil => intro T t _; rfl
  | cons p q ih =>
    intro T t h
    rw [List.foldl_cons, ih _ _ fun r hr => h r (by simp [hr]), Array.getElem?_setIfInBounds_ne (h p (by simp))]
theorem params_ok {R : Value → AV → Own → Prop} : ∀ {vs : List Value} {xs : List AV}, Rc R vs xs (fun _ => 0) → ∀ (ps : List Nat) (T : Array Value), ps.Nodup → (∀ p ∈ ps, p < T.size) → ∀ t x, lk (ps.zip xs) t = some x →
    ∃ v O, ((ps.zip vs).foldl (fun t (pv : Nat × Value) => t.setIfInBounds pv.1 pv.2) T)[t]? = some v ∧ R v x O ∧ Zero O
  | _, _, .nil _, ps, T, _, _, t, x, h => by cases ps <;> simp [lk] at h
  | _, _, @Rc.cons _ v y vs ys O1 O2 _ h1 h2 hO, [], T, _, _, t, x, h => by simp [lk] at h
  | _, _, @Rc.cons _ v y vs ys O1 O2 _ h1 h2 hO, p :: ps, T, hn, hT, t, x, h => by
    obtain ⟨hn1, hn2⟩ := List.nodup_cons.1 hn
    simp only [List.zip_cons_cons, lk] at h
    have hO2 : O2 = fun _ => 0 := funext fun b => by have : 0 = O1 b + O2 b := hO b; omega
    have hO1 : Zero O1 := fun b => by have : 0 = O1 b + O2 b := hO b; omega
    subst hO2
    rw [List.zip_cons_cons, List.foldl_cons]
    by_cases hp : p = t
    · rw [if_pos hp] at h
      injection h with h; subst h hp
      refine ⟨v, O1, ?_, h1, hO1⟩
      rw [foldl_set_other _ _ _ fun r hr e => hn1 (by have := List.of_mem_zip hr; rw [← e]; exact this.1)]
      simp [hT p (by simp)]
    · rw [if_neg hp] at h
      exact params_ok h2 ps _ hn2 (fun r hr => by simpa using hT r (by simp [hr])) t x h
end
end Go.Lf
end

section
namespace Go.Lf
open Go Go.RowKit
def Ex.code : Ex → Option Code
  | .normal => none
  | .exit id => some (.exit id)
  | .ret => some .ret
def recOf (fn : FuncId) (tmps : Array Value) (ps : Array Tmp) (c1 c2 : Code) (D : Nat) (pe : Option Code) : Loop :=
  { state := if pe.isNone then .ready else .done, pending := pe, fn := fn, tmps := tmps, params := ps, assign := c1, body := c2, defers := D }
def Btw (P : Program) (F : Frm) (B0 : Nat) (w0 : World) (S0 S : Nat → Prop) (tmps : Array Value) (D l : Nat) (rec : Option Code → Loop) (pe : Option Code) (env : Env) (X : Nat → Prop) (W : World) : Prop :=
  ∃ (n : Nat) (S' : Nat → Prop) (Os : Nat → Own), 0 < n ∧ Grow B0 S0 S' ∧ St P F B0 w0 n env tmps W S' Os ∧ (∀ b, S b → S' b) ∧ S' D ∧ S' l ∧ W.heap[l]? = some (.loop (rec pe)) ∧ W.heap[D]? = some (.deferred (some [])) ∧ ∀ b, X b ↔ ∃ t, 0 < Os t b
def EnvB (lo : Nat) (env : Env) : Prop := ∀ t x, lk env t = some x → t < lo ∧ leafRoot x = none
def EnvF (env : Env) : Prop := ∀ t x, lk env t = some x → freeA x = true
section
variable {P : Program} {F : Frm} {B0 : Nat} {w0 w : World} {S S0 : Nat → Prop} {tmps : Array Value} {D l : Nat} {cx : Cx} {X : Nat → Prop} {W : World}
theorem lkapp {A B : Env} {t : Nat} {x : AV} (h : lk (A ++ B) t = some x) : lk A t = some x ∨ (lk A t = none ∧ lk B t = some x) := by
  rw [lk_append] at h
  cases hA : lk A t with
  | some y => rw [hA] at h; exact .inl h
  | none => rw [hA] at h; exact .inr ⟨rfl, h⟩
theorem Btw.later {rec : Option Code → Loop} {pe : Option Code} {env : Env} {W' : World} (h : Btw P F B0 w0 S0 S tmps D l rec pe env X W) (hnl : ∀ t x, lk env t = some x → leafRoot x = none) (hB : Below W.heap.size W W') : Btw P F B0 w0 S0 S tmps D l rec pe env X W' := by
  obtain ⟨n, S', Os, hn, hgr, hst, hS, hD, hl, h1, h2, hX⟩ := h
  exact ⟨n, S', Os, hn, hgr, hst.later hnl hB, hS, hD, hl, (hB.block l (hst.sLt l hl)).trans h1, (hB.block D (hst.sLt D hD)).trans h2, hX⟩
theorem round_ok {lo : Nat} (hlo : 0 < lo) {fn : FuncId} {ps : Array Tmp} {c1 c2 : Code} {Ek rest E1 E2 : Env} {ex : Ex} {xs : List AV} (hF0 : F.lo = 0) (hN : tmps.size = cx.N) (hps : ps.toList.Nodup ∧ ∀ p ∈ ps.toList, lo ≤ p ∧ p < cx.N)
    (hEk : EnvB lo Ek) (hrest : EnvF rest) (hdis : ∀ t x, lk rest t = some x → lk Ek t = none) (hE2 : EnvB lo E2) (hFl : ∀ b, F.b b → b ≠ l) (hBl : B0 ≤ l) (hDl : D ≠ l)
    (h1 : Tri P { cx with lo := lo } c1 (ps.toList.zip xs ++ Ek) .normal E1) (h2 : Tri P { cx with lo := lo } c2 E1 ex E2)
    (hb : Btw P F B0 w0 S0 S tmps D l (recOf fn tmps ps c1 c2 D) none (Ek ++ rest) X W) {S2 : Nat → Prop} {m : Nat} {vs : List Value} (hS2 : ∀ b, S2 b → (S b ∨ B0 ≤ b) ∧ b < W.heap.size ∧ ¬ X b) (hvs : Rc (Rv P B0 W S2 m) vs xs (fun _ => 0)) (hlen : xs.length = ps.size) :
    YieldAt (Fi none) 0 P l vs.toArray W fun e W' => e = .returned (.bool ex.code.isNone) ∧ ∃ X', Btw P F B0 w0 S0 S tmps D l (recOf fn tmps ps c1 c2 D) ex.code (E2 ++ rest) X' W' ∧ (ex = .normal → Grew X W W') ∧ ∀ b, X' b → X b ∨ W.heap.size ≤ b := by
  obtain ⟨n, S', Os, hn, hgr, hst, hS, hD, hl, hlw, hDw, hX⟩ := hb
  have hXn : ∀ b, ¬ X b ↔ ∀ t, Os t b = 0 := fun b => by
    rw [hX]
    constructor
    · intro h t
      rcases Nat.eq_zero_or_pos (Os t b) with h0 | h0
      · exact h0
      · exact absurd ⟨t, h0⟩ h
    · rintro h ⟨t, ht⟩
      have := h t; omega
  have hll : l < W.heap.size := hst.sLt l hl
  have hsz : (vs.toArray).size = ps.size := by have := hvs.length; simp; omega
  have hy := run_yield (P := P) (args := vs.toArray) hlw (by simp only [recOf]; exact hsz)
  refine ⟨_, _, _, _, hy, roundIn_of_wpIn trivial ?_⟩
  -- the round's frame
  have htm : (ps.zip vs.toArray).foldl (fun (t : Array Value) (pv : Nat × Value) => t.setIfInBounds pv.1 pv.2) tmps = (ps.toList.zip vs).foldl (fun t (pv : Nat × Value) => t.setIfInBounds pv.1 pv.2) tmps := by
    rw [← Array.foldl_toList, Array.toList_zip]
  obtain ⟨T, hT⟩ : ∃ T, (ps.toList.zip vs).foldl (fun t (pv : Nat × Value) => t.setIfInBounds pv.1 pv.2) tmps = T := ⟨_, rfl⟩
  have hTs : T.size = cx.N := by rw [← hT, foldl_set_size, hN]
  have hTlow : ∀ t, t < lo → T[t]? = tmps[t]? := by
    intro t ht
    rw [← hT]
    refine foldl_set_other _ _ _ fun p hp e => ?_
    have := (hps.2 p.1 (List.of_mem_zip hp).1).1; omega
  obtain ⟨Sr, hSr⟩ : ∃ Sr : Nat → Prop, Sr = fun b => b < W.heap.size ∧ (∀ t, Os t b = 0) ∧ (S' b ∨ B0 ≤ b) := ⟨_, rfl⟩
  have hS'r : ∀ b, S' b → Sr b := fun b hb => by subst hSr; exact ⟨hst.sLt b hb, fun t => hst.excl b t hb, .inl hb⟩
  have hst0 : St P ⟨Sr, lo, tmps⟩ B0 W (n + m) (ps.toList.zip xs ++ Ek) T W Sr (fun t => if lk Ek t = none then (fun _ => 0) else Os t) := by
    refine ⟨Below.refl _ _, hst.b0, fun b hb => by subst hSr; exact hb.1, ?_, ?_, ?_, ?_, ?_, ?_, fun b hb => ⟨hb, rfl⟩, fun t ht => hTlow t ht⟩
    · intro b t hb
      subst hSr
      split
      · rfl
      · exact hb.2.1 t
    · intro t b
      split
      · exact Nat.zero_le _
      · exact hst.one t b
    · intro t t' b hne
      split
      · exact .inl rfl
      · split
        · exact .inr rfl
        · exact hst.dis t t' b hne
    · intro t x hx
      rcases lkapp hx with hx | ⟨hx0, hx⟩
      · obtain ⟨v, O, hv, hr, hz⟩ := params_ok hvs ps.toList tmps hps.1 (fun p hp => by rw [hN]; exact (hps.2 p hp).2) t x hx
        rw [hT] at hv
        refine ⟨v, hv, .inr ?_⟩
        have ht : lk Ek t = none := by
          cases he : lk Ek t with
          | none => rfl
          | some y =>
            exfalso
            have h3 := (hEk t y he).1
            have : t ∈ ps.toList := by
              clear hvs h1 hlen
              have key : ∀ (l1 : List Nat) (l2 : List AV) (y : AV), lk (l1.zip l2) t = some y → t ∈ l1 := by
                intro l1
                induction l1 with
                | nil => intro l2 y h; simp [lk] at h
                | cons p l1 ih =>
                  intro l2 y h
                  cases l2 with
                  | nil => simp [lk] at h
                  | cons q l2 =>
                    simp only [List.zip_cons_cons, lk] at h
                    split at h
                    · rename_i e; subst e; simp
                    · exact List.mem_cons_of_mem _ (ih l2 y h)
              exact key _ _ _ hx
            have := (hps.2 t this).1; omega
        rw [if_pos ht]
        refine (Rv.frame (fun b hb => ?_) (fun _ _ => rfl) m v x _ (fun _ _ => rfl) (hr.cast fun b => (hz b).symm)).le (Nat.le_add_left _ _)
        obtain ⟨h5, h6, h7⟩ := hS2 b hb
        rcases h5 with h5 | h5
        · exact hS'r b (hS b h5)
        · subst hSr; exact ⟨h6, (hXn b).1 h7, .inr h5⟩
      · have hlt := (hEk t x hx).1
        obtain ⟨v, hv, hs⟩ := hst.rel t x (by rw [lk_append, hx])
        refine ⟨v, by rw [hTlow t hlt]; exact hv, .inr ?_⟩
        rw [if_neg (by rw [hx]; simp)]
        rcases hs with ⟨k1, _, _⟩ | hr
        · exact absurd (hEk t x hx).2 k1
        · exact (Rv.frame hS'r (fun _ _ => rfl) _ _ _ _ (fun _ _ => rfl) hr).le (Nat.le_add_right _ _)
    · intro t ht b
      have : lk Ek t = none := by
        rw [lk_append] at ht
        cases h : lk (ps.toList.zip xs) t with
        | some y => rw [h] at ht; cases ht
        | none => rw [h] at ht; exact ht
      rw [if_pos this]
    · intro t x r hx hr
      exfalso
      rcases lkapp hx with hx | ⟨_, hx⟩
      · obtain ⟨v, O, hv, hrv, hz⟩ := params_ok hvs ps.toList tmps hps.1 (fun p hp => by rw [hN]; exact (hps.2 p hp).2) t x hx
        rw [hrv.noLeaf] at hr; cases hr
      · rw [(hEk t x hx).2] at hr; cases hr
  have hag0 : Agree P ⟨Sr, lo, tmps⟩ B0 W Sr { cx with lo := lo } [] (ps.toList.zip xs ++ Ek) { tmps := (ps.zip vs.toArray).foldl (fun (t : Array Value) (pv : Nat × Value) => t.setIfInBounds pv.1 pv.2) tmps, defers := [] } W :=
    ⟨rfl, ⟨by show _ = cx.N; rw [htm, hT, hTs], rfl⟩, n + m, Sr, _, by omega, .refl _ _, by rw [htm, hT]; exact hst0⟩
  refine h1 (some l) (fun h => absurd h (by show lo ≠ 0; omega)) _ _ _ _ _ _ _ _ hag0 fun a1 W1 ⟨Ds1, n1, S1, Os1, _, _, _, hN1, hn1, hgr1, hst1⟩ => ?_
  have hl1 : W1.heap[l]? = some (.loop (recOf fn tmps ps c1 c2 D none)) := (hst1.keep l (hS'r l hl)).2.trans hlw
  refine ⟨_, run_beginRound hl1 rfl, ?_⟩
  obtain ⟨W2, hW2⟩ : ∃ W2, W1.putObj l (.loop { recOf fn tmps ps c1 c2 D none with state := .busy }) = W2 := ⟨_, rfl⟩
  rw [hW2]
  have hl1s : l < W1.heap.size := (Array.getElem?_eq_some_iff.1 hl1).1
  have hB12 : Below B0 W1 W2 := by rw [← hW2]; exact putObj_below hBl
  have ho12 : ∀ b, b ≠ l → W2.heap[b]? = W1.heap[b]? := fun b hb => by rw [← hW2]; exact World.putObj_heap_other hb
  have hs12 : W2.heap.size = W1.heap.size := by rw [← hW2]; exact World.putObj_size
  have hl2 : W2.heap[l]? = some (.loop { recOf fn tmps ps c1 c2 D none with state := .busy }) := by rw [← hW2]; exact World.putObj_heap_same hl1s
  have hst2 : St P ⟨Sr, lo, tmps⟩ B0 W2 n1 E1 a1.tmps W2 S1 Os1 := by
    have g1 : St P ⟨fun b => Sr b ∧ b ≠ l, lo, tmps⟩ B0 W1 n1 E1 a1.tmps W1 S1 Os1 := hst1.reroot (fun b hb => (hst1.keep b hb.1).1) rfl rfl
    have g2 := g1.other hB12 (fun b hb => ho12 b hb.2) fun b o hg hd => ho12 b fun e => by subst e; rw [hl1] at hg; injection hg with hg; subst hg; cases hd
    exact g2.reroot (fun b hb => (hst1.keep b hb).1) rfl rfl
  refine h2 (some l) (fun h => absurd h (by show lo ≠ 0; omega)) ⟨Sr, lo, tmps⟩ B0 W2 S1 a1.defers a1 W2 _ ⟨rfl, hN1, n1, S1, Os1, hn1, .refl _ _, hst2⟩ fun a3 W3 ⟨Ds3, n3, S3, Os3, _, _, _, _, hn3, hgr3, hst3⟩ => ?_
  have hl3 : W3.heap[l]? = some (.loop { recOf fn tmps ps c1 c2 D none with state := .busy }) := (hst3.keep l (hS'r l hl)).2.trans hl2
  have hend := run_endRound (P := P) ex.code hl3
  obtain ⟨W4, hW4⟩ : ∃ W4, W3.putObj l (.loop (recOf fn tmps ps c1 c2 D ex.code)) = W4 := ⟨_, rfl⟩
  have hend' : (Instr.endRound l ex.code).run P W3 = .ok (.bool ex.code.isNone) W4 := by rw [← hW4]; exact hend
  have hl3s : l < W3.heap.size := (Array.getElem?_eq_some_iff.1 hl3).1
  have hB34 : Below B0 W3 W4 := by rw [← hW4]; exact putObj_below hBl
  have ho34 : ∀ b, b ≠ l → W4.heap[b]? = W3.heap[b]? := fun b hb => by rw [← hW4]; exact World.putObj_heap_other hb
  have hl4 : W4.heap[l]? = some (.loop (recOf fn tmps ps c1 c2 D ex.code)) := by rw [← hW4]; exact World.putObj_heap_same hl3s
  have hs34 : W4.heap.size = W3.heap.size := by rw [← hW4]; exact World.putObj_size
  have hSrs : ∀ b, Sr b → S3 b := fun b hb => (hst3.keep b hb).1
  have hkeep : ∀ b, Sr b → b ≠ l → W4.heap[b]? = W.heap[b]? := fun b hb hne => (ho34 b hne).trans ((hst3.keep b hb).2.trans ((ho12 b hne).trans (hst1.keep b hb).2))
  have hB04 : Below B0 W W4 := ((hst1.below.trans hB12).trans hst3.below).trans hB34
  have hBtw : Btw P F B0 w0 S0 S tmps D l (recOf fn tmps ps c1 c2 D) ex.code (E2 ++ rest) (fun b => ∃ t, 0 < (if lk E2 t = none then (fun _ => 0) else Os3 t : Own) b) W4 := by
    refine ⟨n + n3, S3, _, by omega, ?_, ?_, fun b hb => hSrs b (hS'r b (hS b hb)), hSrs D (hS'r D hD), hSrs l (hS'r l hl), hl4, (hkeep D (hS'r D hD) hDl).trans hDw, fun _ => Iff.rfl⟩
    · refine hgr.trans ⟨fun b hb => hSrs b (hS'r b hb), fun b hb => ?_⟩
      rcases hgr3.2 b hb with h | h
      · rcases hgr1.2 b h with h | h
        · subst hSr; exact h.2.2
        · exact .inr h
      · exact .inr h
    · refine ⟨hst.below.trans hB04, Nat.le_trans hst.b0 hB04.size, fun b hb => by rw [hs34]; exact hst3.sLt b hb, ?_, ?_, ?_, ?_, ?_, ?_, fun b hb => ⟨hSrs b (hS'r b (hst.keep b hb).1), (hkeep b (hS'r b (hst.keep b hb).1) (hFl b hb)).trans (hst.keep b hb).2⟩, fun t ht => by rw [hF0] at ht; omega⟩
      · intro b t hb
        split
        · rfl
        · exact hst3.excl b t hb
      · intro t b
        split
        · exact Nat.zero_le _
        · exact hst3.one t b
      · intro t t' b hne
        split
        · exact .inl rfl
        · split
          · exact .inr rfl
          · exact hst3.dis t t' b hne
      · intro t x hx
        have cells4 : ∀ b o, W3.heap[b]? = some o → isD o = true → W4.heap[b]? = W3.heap[b]? := fun b o hg hd => ho34 b fun e => by subst e; rw [hl3] at hg; injection hg with hg; subst hg; cases hd
        rcases lkapp hx with hx | ⟨hx0, hx⟩
        · obtain ⟨v, hv, hs⟩ := hst3.rel t x hx
          have hp := hst3.pin t (hE2 t x hx).1
          refine ⟨v, by rw [← hv]; exact hp.symm, .inr ?_⟩
          rw [if_neg (by rw [hx]; simp)]
          rcases hs with ⟨k1, _, _⟩ | hr
          · exact absurd (hE2 t x hx).2 k1
          · exact (Rv.frameC (fun _ h => h) (fun b C T fr _ hg => cells4 b _ hg rfl) _ _ _ _ (fun b o _ hg hd => cells4 b o hg hd) hr).le (Nat.le_add_left _ _)
        · have hfr := hrest t x hx
          have : ∃ v, tmps[t]? = some v ∧ Rv P B0 W S' n v x (fun _ => 0) := by
            cases hk : lk Ek t with
            | none =>
              obtain ⟨v, hv, hs⟩ := hst.rel t x (by rw [lk_append, hk]; exact hx)
              rcases hs with ⟨k1, _, _⟩ | hr
              · exact absurd (freeA_leaf hfr) k1
              · exact ⟨v, hv, hr.cast fun b => (freeA_zero hr hfr b).symm⟩
            | some y => rw [hdis t x hx] at hk; cases hk
          obtain ⟨v, hv, hr⟩ := this
          refine ⟨v, hv, .inr ?_⟩
          rw [if_pos hx0]
          refine (Rv.frameC (fun b hb => hSrs b (hS'r b hb)) (fun b C T fr hb hg => hkeep b (hS'r b hb) fun e => by subst e; rw [hlw] at hg; cases hg) _ _ _ _ (fun b o hb _ _ => absurd hb (by simp)) hr).le (Nat.le_add_right _ _)
      · intro t ht b
        have : lk E2 t = none := by
          rw [lk_append] at ht
          cases h : lk E2 t with
          | some y => rw [h] at ht; cases ht
          | none => rfl
        rw [if_pos this]
      · intro t x r hx hr
        exfalso
        rcases lkapp hx with hx | ⟨_, hx⟩
        · rw [(hE2 t x hx).2] at hr; cases hr
        · rw [freeA_leaf (hrest t x hx)] at hr; cases hr
  have hres : (Ending.returned (.bool ex.code.isNone) : Ending) = .returned (.bool ex.code.isNone) ∧ ∃ X', Btw P F B0 w0 S0 S tmps D l (recOf fn tmps ps c1 c2 D) ex.code (E2 ++ rest) X' W4 ∧ (ex = .normal → Grew X W W4) ∧ ∀ b, X' b → X b ∨ W.heap.size ≤ b := by
    refine ⟨rfl, _, hBtw, fun he => ?_, fun b hb => ?_⟩
    · subst he
      refine ⟨hB04.os, hB04.tape, hB04.output, hB04.size, fun b hb hx => ?_⟩
      by_cases hbl : b = l
      · subst hbl; rw [hl4, hlw]; rfl
      · by_cases hbB : b < B0
        · exact hB04.block b hbB
        · exact hkeep b (by subst hSr; exact ⟨hb, (hXn b).1 hx, .inr (by omega)⟩) hbl
    · obtain ⟨t, ht⟩ := hb
      split at ht
      · exact (Nat.lt_irrefl 0 ht).elim
      · rcases Nat.lt_or_ge b W.heap.size with hlt | hge
        · left
          refine Classical.byContradiction fun hx => ?_
          have hown := St.lt (a := a3) hst3 t b ht
          have : Sr b := by subst hSr; exact ⟨hlt, (hXn b).1 hx, .inr hown.1⟩
          have := hst3.excl b t (hSrs b this)
          omega
        · exact .inr hge
  cases ex with
  | normal => exact ⟨_, W4, hend', hres⟩
  | ret => exact ⟨_, W4, hend', hres⟩
  | exit id => exact ⟨_, W4, hend', hres⟩
end
end Go.Lf
end

section
namespace Go.Lf
open Go Go.RowKit
section
variable {P : Program} {cx : Cx}
theorem Tri.range (hlo0 : cx.lo = 0) {t : Nat} {ps : Array Tmp} {c1 c2 : Code} {env0 env : Env} (ks : List (Nat × Wk)) (henv : keepE ks env0 = env) {f : FuncId} {cs : List AV} {xss : List (List AV)} (hg : lk env0 t = some (.fn f cs)) (hv : cs.map (remode (fun _ => .any) 12) = cs) (hseq : SeqC P f cs xss)
    (lo : Nat) (hlo : 0 < lo) (hps : ps.toList.Nodup ∧ ∀ p ∈ ps.toList, lo ≤ p ∧ p < cx.N) (hlen : ∀ xs ∈ xss, xs.length = ps.size)
    (E : Nat → Env) (rest : Env) (m : Nat) (hE0 : env = E 0 ++ rest) (hE : ∀ k, k ≤ m → EnvB lo (E k) ∧ ∀ t x, lk rest t = some x → lk (E k) t = none) (hrest : EnvF rest)
    (hrounds : ∀ k xs, k < m → xss[k]? = some xs → ∃ E1, Tri P { cx with lo := lo } c1 (ps.toList.zip xs ++ E k) .normal E1 ∧ Tri P { cx with lo := lo } c2 E1 .normal (E (k + 1)))
    {ex : Ex} {Ex' : Env} (hlast : (m = xss.length ∧ ex = .normal ∧ Ex' = E m) ∨ (ex ≠ .normal ∧ EnvB lo Ex' ∧ ∃ xs E1, xss[m]? = some xs ∧ Tri P { cx with lo := lo } c1 (ps.toList.zip xs ++ E m) .normal E1 ∧ Tri P { cx with lo := lo } c2 E1 ex Ex')) :
    Tri P cx (.rangeFunc (.tmp t) ps c1 c2) env0 ex (Ex' ++ rest) := by
  intro ρ hρ F B0 w0 S0 ds a w Q hag0 hQ
  have hρ' := hρ hlo0
  subst hρ'
  obtain ⟨h1, h2, n, S, Os0, hn, hgr, hst00⟩ := hag0
  obtain ⟨lb, nf, hev, hrc⟩ : ∃ lb nf, a.eval (.tmp t) = .func (.func f) #[] lb ∧ Rc (Rv P B0 w S nf) lb.toList cs (fun _ => 0) := by
    obtain ⟨v, hv1, hs⟩ := hst00.rel t _ hg
    have hr := hs.rv rfl
    obtain ⟨q, rfl⟩ := hr.pos
    obtain ⟨vs, rfl, hz, hrc⟩ := hr
    refine ⟨vs, q, ?_, hrc.cast fun b => (hz b).symm⟩
    simp [Act.eval, Array.getD_eq_getD_getElem?, hv1]
  obtain ⟨Os, hst0⟩ := hst00.keepE hn ks
  rw [henv] at hst0
  have hnl : ∀ {A : Env}, EnvB lo A → ∀ t x, lk (A ++ rest) t = some x → leafRoot x = none := by
    intro A hA t x hx
    rcases lkapp hx with hx | ⟨_, hx⟩
    · exact (hA t x hx).2
    · exact freeA_leaf (hrest t x hx)
  have hE0B := (hE 0 (Nat.zero_le _)).1
  have hN : a.tmps.size = cx.N := h2.1
  have hF0 : F.lo = 0 := h2.2.trans hlo0
  refine wpIn_rangeFunc fun fn _ => ?_
  obtain ⟨W1, hW1⟩ : ∃ W1, (w.alloc (.deferred (some []))).alloc (.loop (recOf fn a.tmps ps c1 c2 w.heap.size none)) = W1 := ⟨_, rfl⟩
  have hs1 : W1.heap.size = w.heap.size + 2 := by rw [← hW1]; simp
  have hB1 : Below w.heap.size w W1 := by rw [← hW1]; exact ((Below.refl _ w).alloc (Nat.le_refl _) _).alloc (by simp) _
  have hl1 : W1.heap[w.heap.size + 1]? = some (.loop (recOf fn a.tmps ps c1 c2 w.heap.size none)) := by
    rw [← hW1]; have := World.alloc_heap_new (w.alloc (.deferred (some []))) (.loop (recOf fn a.tmps ps c1 c2 w.heap.size none)); rwa [World.size_alloc] at this
  have hD1 : W1.heap[w.heap.size]? = some (.deferred (some [])) := by
    rw [← hW1]; exact (Below.heap_alloc _ _ _ (by simp)).trans (World.alloc_heap_new w _)
  have hst1 : St P F B0 w0 n (E 0 ++ rest) a.tmps W1 (fun b => S b ∨ b = w.heap.size ∨ b = w.heap.size + 1) Os := by
    refine (St.later (hE0 ▸ hst0) (hnl hE0B) hB1).share (fun b hb => .inl hb) fun b hb => ?_
    rcases hb with hb | hb
    · exact .inl hb
    · refine .inr ⟨by omega, fun t => ?_⟩
      rcases Nat.eq_zero_or_pos (Os t b) with h0 | h0
      · exact h0
      · have := (St.lt (a := a) hst0 t b h0).2; omega
  have hgr1 : Grow B0 S0 (fun b => S b ∨ b = w.heap.size ∨ b = w.heap.size + 1) := by
    refine ⟨fun b hb => .inl (hgr.1 b hb), fun b hb => ?_⟩
    rcases hb with hb | hb
    · exact hgr.2 b hb
    · have := hst0.b0; exact .inr (by omega)
  refine ⟨w.heap.size + 1, [mark w.heap.size], W1, { target := .fn (.func f) lb, args := #[.func (.yield (w.heap.size + 1)) #[] #[]] }, W1, f, #[.func (.yield (w.heap.size + 1)) #[] #[]] ++ lb, W1, ?_, ?_, fun _ _ => trivial, ?_, (fun h => nomatch h), ?_⟩
  · rw [← hW1]; exact run_enterLoop_outer _ _ _ _ _
  · simp only [resolve, hev]
    simp [go_sem]
  · have := hseq.1 (#[.func (.yield (w.heap.size + 1)) #[] #[]] ++ lb) W1
    simp [invoke, go_sem, this]
  · refine callsFi ?_
    have harg : #[Value.func (.yield (w.heap.size + 1)) #[] #[]] ++ lb = (Value.func (.yield (w.heap.size + 1)) #[] #[] :: lb.toList).toArray := by simp
    rw [harg]
    have hrc1 : Rc (Rv P W1.heap.size W1 S nf) lb.toList cs (fun _ => 0) := by
      have g1 : Rc (Rv P B0 W1 S nf) lb.toList cs (fun _ => 0) := hrc.frame (fun _ h => h) (fun b hb => hB1.block b (hst0.sLt b hb)) fun b hb => absurd hb (by simp)
      have g2 := g1.map (g := remode (fun _ => .any) 12) (R' := Rv P W1.heap.size W1 S nf) fun v x O1 hO h => Rv.viewed (fun b hb => hb) nf 12 v x O1 (fun b hb => by have := hO b; omega) h
      rwa [hv] at g2
    have hFl : ∀ b, F.b b → b ≠ w.heap.size + 1 := fun b hb e => by have := hst0.sLt b (hst0.keep b hb).1; omega
    have hB0l : B0 ≤ w.heap.size + 1 := by have := hst0.b0; omega
    refine (hseq.2 W1 S nf lb.toList (w.heap.size + 1)
      (fun k X W => k ≤ m ∧ Btw P F B0 w0 S0 S a.tmps w.heap.size (w.heap.size + 1) (recOf fn a.tmps ps c1 c2 w.heap.size) none (E k ++ rest) X W ∧ W1.heap.size ≤ W.heap.size ∧ ∀ b, S b → W.heap[b]? = W1.heap[b]?)
      (fun k W => k = m ∧ ex ≠ .normal ∧ ∃ X, Btw P F B0 w0 S0 S a.tmps w.heap.size (w.heap.size + 1) (recOf fn a.tmps ps c1 c2 w.heap.size) ex.code (Ex' ++ rest) X W)
      (fun b hb => by have := hst0.sLt b hb; omega) hrc1 ?_ ?_ ?_ ?_ (fun b => ∃ t, 0 < Os t b) ?_).mono ?_
    · rintro k X W W' ⟨hk, hb, hz, hS⟩ hB
      refine ⟨hk, hb.later (hnl (hE k hk).1) hB, Nat.le_trans hz hB.size, fun b hb' => (hB.block b ?_).trans (hS b hb')⟩
      have := hst0.sLt b hb'; omega
    · rintro k W W' ⟨hk, hne, X, hb⟩ hB
      refine ⟨hk, hne, X, hb.later (hnl ?_) hB⟩
      rcases hlast with ⟨_, h, _⟩ | ⟨_, h, _⟩
      · exact absurd h hne
      · exact h
    · rintro k X W ⟨hk, ⟨n', S', Os', hn', hgr', hst', hS', _, _, _, _, hX⟩, hz, hS⟩
      refine ⟨hz, fun b hb => ⟨hS b hb, fun hx => ?_⟩, fun b hx => ?_⟩
      · obtain ⟨t, ht⟩ := (hX b).1 hx
        have := hst'.excl b t (hS' b hb); omega
      · obtain ⟨t, ht⟩ := (hX b).1 hx
        exact (St.lt (a := a) hst' t b ht).2
    · rintro k X W xs vs S2 m2 ⟨hk, hb, hz, hS⟩ hxs hS2 hvs
      have hx : xs.length = ps.size := hlen xs (List.mem_of_getElem? hxs)
      have hS2' : ∀ b, S2 b → (S b ∨ B0 ≤ b) ∧ b < W.heap.size ∧ ¬ X b := fun b hb => ⟨(hS2 b hb).1.imp id fun h => by have := hst0.b0; omega, (hS2 b hb).2⟩
      rcases Nat.lt_or_ge k m with hkm | hkm
      · obtain ⟨E1, t1, t2⟩ := hrounds k xs hkm hxs
        obtain ⟨fn', tm', as', bo', hy, hr⟩ := round_ok hlo hF0 hN hps (hE k hk).1 hrest (hE k hk).2 (hE (k + 1) hkm).1 hFl hB0l (by omega) t1 t2 hb hS2' (hvs B0) hx
        refine ⟨fn', tm', as', bo', hy, hr.mono ?_⟩
        rintro e W' ⟨rfl, X', hb', hgw, hX'⟩
        have hgw := hgw rfl
        refine .inl ⟨rfl, X', ⟨hkm, hb', Nat.le_trans hz hgw.size, fun b hb2 => (hgw.block b ?_ fun hx => ?_).trans (hS b hb2)⟩, hgw, hX'⟩
        · have := hst0.sLt b hb2; omega
        · obtain ⟨n', S', Os', hn', hgr', hst', hS', _, _, _, _, hX⟩ := hb
          obtain ⟨t, ht⟩ := (hX b).1 hx
          have := hst'.excl b t (hS' b hb2); omega
      · have hkm' : k = m := by omega
        subst hkm'
        rcases hlast with ⟨h, _, _⟩ | ⟨hne, hEB, xs', E1, hxs', t1, t2⟩
        · have := (List.getElem?_eq_some_iff.1 hxs).1; omega
        · rw [hxs] at hxs'; injection hxs' with hxs'; subst hxs'
          obtain ⟨fn', tm', as', bo', hy, hr⟩ := round_ok hlo hF0 hN hps (hE k hk).1 hrest (hE k hk).2 hEB hFl hB0l (by omega) t1 t2 hb hS2' (hvs B0) hx
          refine ⟨fn', tm', as', bo', hy, hr.mono ?_⟩
          rintro e W' ⟨rfl, X', hb', hgw, hX'⟩
          refine .inr ⟨?_, rfl, hne, X', hb'⟩
          cases ex with
          | normal => exact absurd rfl hne
          | ret => rfl
          | exit id => rfl
    · exact ⟨Nat.zero_le _, ⟨n, _, Os, hn, hgr1, hst1, fun b hb => .inl hb, .inr (.inl rfl), .inr (.inr rfl), hl1, hD1, fun _ => Iff.rfl⟩, Nat.le_refl _, fun _ _ => rfl⟩
    · have fin : ∀ (pe : Option Code) (A : Env) (X : Nat → Prop) (W : World), Btw P F B0 w0 S0 S a.tmps w.heap.size (w.heap.size + 1) (recOf fn a.tmps ps c1 c2 w.heap.size) pe (A ++ rest) X W →
          ∃ W2, (Instr.endLoop (w.heap.size + 1)).run P W = .ok pe W2 ∧ AgM P F B0 w0 S0 cx ds (A ++ rest) { a with defers := [mark w.heap.size] ++ a.defers } W2 := by
        rintro pe A X W ⟨n', S', Os', hn', hgr', hst', hS', hD', hl', hlw, hDw, hX⟩
        have hrun := run_endLoop (P := P) hlw (by unfold recOf; cases pe <;> simp)
        refine ⟨_, hrun, [w.heap.size], n', S', Os', by simp, ?_, ?_, h2, hn', hgr', ?_⟩
        · intro D hD
          have : D = w.heap.size := by simpa using hD
          subst this
          exact ⟨hst0.below.size, hD', (World.putObj_heap_other (by omega)).trans hDw⟩
        · rw [← h1]; rfl
        · exact hst'.other (putObj_below hB0l) (fun b hb => World.putObj_heap_other (hFl b hb)) fun b o hg hd => World.putObj_heap_other fun e => by subst e; rw [hlw] at hg; injection hg with hg; subst hg; cases hd
      rintro e W ⟨⟨v, rfl⟩, h⟩
      rcases h with ⟨X, hk, hb, _, _⟩ | ⟨k, hk, rfl, hne, X, hb⟩
      · rcases hlast with ⟨hm, rfl, rfl⟩ | ⟨_, _, xs, _, hxs, _⟩
        · subst hm
          obtain ⟨W2, h3, h4⟩ := fin none _ X W hb
          exact ⟨none, W2, h3, hQ _ _ h4⟩
        · have := (List.getElem?_eq_some_iff.1 hxs).1; omega
      · obtain ⟨W2, h3, h4⟩ := fin ex.code _ X W hb
        refine ⟨ex.code, W2, h3, ?_⟩
        cases ex with
        | normal => exact absurd rfl hne
        | ret => exact wpIn_ret (hQ _ _ h4)
        | exit id => exact wpIn_exit (hQ _ _ h4)
end
end Go.Lf
end

section
namespace Go.Lf
open Go Go.RowKit
structure Hand where
  w : World
  S : Nat → Prop
  l : Nat
  J : Nat → (Nat → Prop) → World → Prop
  Jx : Nat → World → Prop
  xss : List (List AV)
structure Hand.Ok (P : Program) (p : Hand) : Prop where
  hS : ∀ b, p.S b → b < p.w.heap.size
  hJ : ∀ k X W W', p.J k X W → Below W.heap.size W W' → p.J k X W'
  hJx : ∀ k W W', p.Jx k W → Below W.heap.size W W' → p.Jx k W'
  hJS : ∀ k X W, p.J k X W → p.w.heap.size ≤ W.heap.size ∧ (∀ b, p.S b → W.heap[b]? = p.w.heap[b]? ∧ ¬ X b) ∧ ∀ b, X b → b < W.heap.size
  hY : ∀ k X W xs vs S' m, p.J k X W → p.xss[k]? = some xs → (∀ b, S' b → (p.S b ∨ p.w.heap.size ≤ b) ∧ b < W.heap.size ∧ ¬ X b) → (∀ B1, Rc (Rv P B1 W S' m) vs xs (fun _ => 0)) →
      YieldAt (Fi none) 0 P p.l vs.toArray W fun e W' => (e = .returned (.bool true) ∧ ∃ X', p.J (k + 1) X' W' ∧ Grew X W W' ∧ ∀ b, X' b → X b ∨ W.heap.size ≤ b) ∨ (e = .returned (.bool false) ∧ p.Jx k W')
def ItS (P : Program) (cx : Cx) (p : Hand) (env : Env) (X : Nat → Prop) (a : Act) (W : World) : Prop :=
  a.defers = [] ∧ a.tmps.size = cx.N ∧ ∃ (n : Nat) (S' : Nat → Prop), 0 < n ∧ (∀ b, S' b → (p.S b ∨ p.w.heap.size ≤ b) ∧ b < W.heap.size ∧ ¬ X b) ∧
    ∀ t x, lk env t = some x → ∃ v, a.tmps[t]? = some v ∧ ∀ B1, Rv P B1 W S' n v x (fun _ => 0)
def Itr (P : Program) (cx : Cx) (p : Hand) (c : Code) (env : Env) (k : Nat) (ex : Ex) (env' : Env) (k' : Nat) : Prop :=
  ∀ (a : Act) (X : Nat → Prop) (W : World) (Q : Exit → Act → World → Prop), ItS P cx p env X a W → p.J k X W → (∀ a' X' W', ItS P cx p env' X' a' W' → p.J k' X' W' → Q ex.out a' W') →
    (∀ (a' : Act) j W', j < p.xss.length → a'.defers = [] → p.Jx j W' → Q .ret a' W') → c.wpIn (Fi none) 0 P Q a W
def ItR (P : Program) (cx : Cx) (p : Hand) (c : Code) (n : Nat) (env : Env) (k : Nat) (ex : Ex) (env' : Env) (k' : Nat) : Prop :=
  ∀ (a : Act) (X : Nat → Prop) (W : World) (Q : Exit → Act → World → Prop), ItS P cx p env X a W → p.J k X W → (∀ a' X' W', ItS P cx p env' X' a' W' → p.J k' X' W' → Q ex.out a' W') →
    (∀ (a' : Act) j W', j < p.xss.length → a'.defers = [] → p.Jx j W' → Q .ret a' W') → Code.roundsIn (Fi none) 0 P c Q n a W
def Tri0 (P : Program) (cx : Cx) (c : Code) (env : Env) (ex : Ex) (env' : Env) : Prop :=
  ∀ (F : Frm) (B0 : Nat) (w0 : World) (S0 : Nat → Prop) (ds : List Deferred) (a : Act) (w : World) (Q : Exit → Act → World → Prop), Agree P F B0 w0 S0 cx ds env a w →
    (∀ a' w', Agree P F B0 w0 S0 cx ds env' a' w' → Q ex.out a' w') → c.wpIn (Fi none) 0 P Q a w
def viewed (x : AV) : Prop := freeA x = true ∧ remode (fun _ => .any) 12 x = x
def EnvV (env : Env) : Prop := ∀ q ∈ env, viewed q.2
def EnvSub (env2 env : Env) : Prop := ∀ t x, lk env2 t = some x → lk env t = some x
section
variable {P : Program} {cx : Cx} {p : Hand} {H : Hints}
theorem EnvV.lk {env : Env} (h : EnvV env) {t : Nat} {x : AV} (hx : lk env t = some x) : viewed x := h _ (lk_mem hx)
def findReg (id : Nat) : Code → Option Code
  | .region i ops d => if i = id then some (.region i ops d) else none
  | .seq a b => (findReg id a).orElse fun _ => findReg id b
  | .cond _ a b => (findReg id a).orElse fun _ => findReg id b
  | .block _ a => findReg id a
  | .loop a => findReg id a
  | .rangeFunc _ _ a b => (findReg id a).orElse fun _ => findReg id b
  | _ => none
def regAt (fn : Func) (id : Nat) : Code := match fn.body with
  | some c => (findReg id c).getD .skip
  | none => .skip
def opsAt (fn : Func) (id : Nat) : Array Oper := match regAt fn id with
  | .region _ ops _ => ops
  | _ => #[]
def isReg : Code → Bool
  | .region .. => true
  | _ => false
theorem evA_ok0 (hcx : CxBase P cx) (hK : ∀ f xs, cx.K f xs = none) (hM : ∀ f x, x ≠ .bad → cx.KM f x = none) {c : Code} (hc : isReg c = true) {env env' : Env} {ex : Ex} {ans ans' : List Ans} {ps : List Prop}
    (h : evA P cx H c env ans = some ((ex, env'), ans', ps)) (hp : ∀ q ∈ ps, q) : Tri0 P cx c env ex env' := by
  cases c with
  | region id ops draw =>
    intro F B0 w0 S0 ds a w Q hag hQ
    simp only [evA] at h
    split at h
    · rename_i env2 as2 ps2 hr
      injection h with h; injection h with h1 h2; injection h1 with h1 h3; injection h2 with h2 h4; subst h1 h2 h3 h4
      exact evRegionA_ok none hcx hK hM hr hp hag fun a' w' ha => hQ a' w' ha.keep
    · cases h
  | _ => cases hc
theorem ItS.agree (hlo : cx.lo = 0) {env : Env} {X : Nat → Prop} {a : Act} {W : World} (h : ItS P cx p env X a W) :
    ∃ S', (∀ b, S' b → (p.S b ∨ p.w.heap.size ≤ b) ∧ b < W.heap.size ∧ ¬ X b) ∧ Agree P ⟨fun _ => False, 0, #[]⟩ W.heap.size W S' cx [] env a W := by
  obtain ⟨hd, hN, n, S', hn, hS', hrel⟩ := h
  refine ⟨S', hS', hd, ⟨hN, hlo.symm⟩, n, S', fun _ _ => 0, hn, .refl _ _, Below.refl _ _, Nat.le_refl _, fun b hb => (hS' b hb).2.1, fun _ _ _ => rfl, fun _ _ => Nat.zero_le _, fun _ _ _ _ => .inl rfl, ?_, fun _ _ _ => rfl, ?_, fun _ h => h.elim, fun _ h => absurd h (Nat.not_lt_zero _)⟩
  · intro t x hx
    obtain ⟨v, hv, hr⟩ := hrel t x hx
    exact ⟨v, hv, .inr (hr _)⟩
  · intro t x r hx hr
    obtain ⟨v, hv, hrv⟩ := hrel t x hx
    rw [(hrv 0).noLeaf] at hr; cases hr
theorem ItS.back (hp : p.Ok P) {k : Nat} {env env2 : Env} {X : Nat → Prop} {a' : Act} {W W' : World} {S' : Nat → Prop} (hJ : p.J k X W) (hS' : ∀ b, S' b → (p.S b ∨ p.w.heap.size ≤ b) ∧ b < W.heap.size ∧ ¬ X b)
    (hag : Agree P ⟨fun _ => False, 0, #[]⟩ W.heap.size W S' cx [] env a' W') (hv : EnvV env2) (hs : EnvSub env2 env) : ItS P cx p env2 X a' W' ∧ Below W.heap.size W W' ∧ p.J k X W' := by
  obtain ⟨hd, hN, n, S1, Os, hn, hgr, hst⟩ := hag
  refine ⟨⟨hd, hN.1, n, S1, hn, fun b hb => ?_, fun t x hx => ?_⟩, hst.below, hp.hJ _ _ _ _ hJ hst.below⟩
  · have hz := (hp.hJS k X W hJ).1
    rcases hgr.2 b hb with h | h
    · exact ⟨(hS' b h).1, hst.sLt b hb, (hS' b h).2.2⟩
    · exact ⟨.inr (by omega), hst.sLt b hb, fun hx => by have := (hp.hJS k X W hJ).2.2 b hx; omega⟩
  · obtain ⟨v, hv1, hs1⟩ := hst.rel t x (hs t x hx)
    obtain ⟨h1, h2⟩ := hv.lk hx
    have hr := hs1.rv (freeA_leaf h1)
    refine ⟨v, hv1, fun B1 => ?_⟩
    have := Rv.viewed (B1 := B1) (fun b hb => hb) n 12 v x (Os t) (fun b hb => by have := freeA_zero hr h1 b; omega) hr
    rwa [h2] at this
theorem Itr.seg (hp : p.Ok P) (hlo : cx.lo = 0) {c : Code} {env env' env2 : Env} {ex : Ex} {k : Nat} (h : Tri0 P cx c env ex env') (hv : EnvV env2) (hs : EnvSub env2 env') : Itr P cx p c env k ex env2 k := by
  intro a X W Q hi hJ hQ hX
  obtain ⟨S', hS', hag⟩ := hi.agree hlo
  refine h _ _ _ _ _ _ _ _ hag fun a' W' ha => ?_
  obtain ⟨h1, _, h3⟩ := ItS.back hp hJ hS' ha hv hs
  exact hQ a' X W' h1 h3
theorem Itr.seq {c d : Code} {env env1 env' : Env} {ex : Ex} {k k1 k' : Nat} (h1 : Itr P cx p c env k .normal env1 k1) (h2 : Itr P cx p d env1 k1 ex env' k') : Itr P cx p (.seq c d) env k ex env' k' := by
  intro a X W Q hi hJ hQ hX
  exact wpIn_seq (h1 a X W _ hi hJ (fun a' X' W' hi' hJ' => h2 a' X' W' Q hi' hJ' hQ hX) hX)
theorem Itr.seqX {c d : Code} {env env' : Env} {ex : Ex} {k k' : Nat} (h1 : Itr P cx p c env k ex env' k') (hne : ex ≠ .normal) : Itr P cx p (.seq c d) env k ex env' k' := by
  intro a X W Q hi hJ hQ hX
  refine wpIn_seq (h1 a X W _ hi hJ (fun a' X' W' hi' hJ' => ?_) hX)
  cases ex with
  | normal => exact absurd rfl hne
  | exit id => exact hQ a' X' W' hi' hJ'
  | ret => exact hQ a' X' W' hi' hJ'
theorem Itr.block {id : Nat} {c : Code} {env env' : Env} {k k' : Nat} {ex ex' : Ex} (h : Itr P cx p c env k ex env' k') (he : (ex = .exit id ∧ ex' = .normal) ∨ (ex ≠ .exit id ∧ ex' = ex)) : Itr P cx p (.block id c) env k ex' env' k' := by
  intro a X W Q hi hJ hQ hX
  refine wpIn_block (h a X W _ hi hJ (fun a' X' W' hi' hJ' => ?_) hX)
  rcases he with ⟨rfl, rfl⟩ | ⟨hne, rfl⟩
  · simp only [Ex.out, Exit.inBlock, if_true]; exact hQ a' X' W' hi' hJ'
  · cases ex' with
    | normal => exact hQ a' X' W' hi' hJ'
    | ret => exact hQ a' X' W' hi' hJ'
    | exit id' =>
      have : id' ≠ id := fun e => hne (e ▸ rfl)
      simp only [Ex.out, Exit.inBlock, this, if_false]; exact hQ a' X' W' hi' hJ'
theorem ItS.bool {env : Env} {X : Nat → Prop} {a : Act} {W : World} (h : ItS P cx p env X a W) {t : Nat} {b : Bool} (hl : lk env t = some (.atom (.bool b))) : a.eval (.tmp t) = .bool b := by
  obtain ⟨_, _, n, S', hn, _, hrel⟩ := h
  obtain ⟨v, hv, hr⟩ := hrel t _ hl
  obtain ⟨m, rfl⟩ : ∃ m, n = m + 1 := ⟨n - 1, by omega⟩
  have := (hr 0).1
  subst this
  simp [Act.eval, Array.getD_eq_getD_getElem?, hv]
theorem Itr.cond {t : Nat} {b : Bool} {c d : Code} {env env' : Env} {ex : Ex} {k k' : Nat} (hl : lk env t = some (.atom (.bool b))) (h : Itr P cx p (if b = true then c else d) env k ex env' k') : Itr P cx p (.cond (.tmp t) c d) env k ex env' k' := by
  intro a X W Q hi hJ hQ hX
  have hb := hi.bool hl
  cases b with
  | true => exact wpIn_cond_true hb (h a X W Q hi hJ hQ hX)
  | false => exact wpIn_cond_false hb (h a X W Q hi hJ hQ hX)
theorem ItS.sub {env env2 : Env} {X : Nat → Prop} {a : Act} {W : World} (h : ItS P cx p env X a W) (hs : EnvSub env2 env) : ItS P cx p env2 X a W := by
  obtain ⟨hd, hN, n, S', hn, hS', hrel⟩ := h
  exact ⟨hd, hN, n, S', hn, hS', fun t x hx => hrel t x (hs t x hx)⟩
theorem Itr.skip {env env2 : Env} {k : Nat} (hs : EnvSub env2 env) : Itr P cx p .skip env k .normal env2 k := fun _ _ _ _ hi hJ hQ _ => wpIn_skip (hQ _ _ _ (hi.sub hs) hJ)
theorem Itr.exit {id : Nat} {env env2 : Env} {k : Nat} (hs : EnvSub env2 env) : Itr P cx p (.exit id) env k (.exit id) env2 k := fun _ _ _ _ hi hJ hQ _ => wpIn_exit (hQ _ _ _ (hi.sub hs) hJ)
theorem Itr.ret {env env2 : Env} {k : Nat} (hs : EnvSub env2 env) : Itr P cx p .ret env k .ret env2 k := fun _ _ _ _ hi hJ hQ _ => wpIn_ret (hQ _ _ _ (hi.sub hs) hJ)
theorem ItR.step {c : Code} {n : Nat} {env env1 env' : Env} {ex : Ex} {k k1 k' : Nat} (h : Itr P cx p c env k .normal env1 k1) (h2 : ItR P cx p c n env1 k1 ex env' k') : ItR P cx p c (n + 1) env k ex env' k' := by
  intro a X W Q hi hJ hQ hX
  rw [roundsIn_succ]
  exact h a X W _ hi hJ (fun a' X' W' hi' hJ' => h2 a' X' W' Q hi' hJ' hQ hX) hX
theorem ItR.exit {c : Code} {n : Nat} {env env' : Env} {ex : Ex} {k k' : Nat} (h : Itr P cx p c env k ex env' k') (hne : ex ≠ .normal) : ItR P cx p c (n + 1) env k ex env' k' := by
  intro a X W Q hi hJ hQ hX
  rw [roundsIn_succ]
  refine h a X W _ hi hJ (fun a' X' W' hi' hJ' => ?_) hX
  cases ex with
  | normal => exact absurd rfl hne
  | exit id => exact hQ a' X' W' hi' hJ'
  | ret => exact hQ a' X' W' hi' hJ'
theorem ItR.loop {c : Code} {n : Nat} {env env' : Env} {ex : Ex} {k k' : Nat} (h : ItR P cx p c n env k ex env' k') : Itr P cx p (.loop c) env k ex env' k' :=
  fun a X W Q hi hJ hQ hX => wpIn_loop_rounds n (h a X W Q hi hJ hQ hX)
variable {F : Frm} {B0 : Nat} {w0 : World} {S0 : Nat → Prop} {ds : List Deferred} {Q : Exit → Act → World → Prop}
theorem evOpsA_pre {ρ : Option Nat} {ops : Array Oper} (rest : List Oper) : ∀ (os : List Oper) {env : Env} {es : List (List Nat × Eff)} {a : Act} {w : World}, es.length = os.length →
    (∀ i o, os[i]? = some o → ∃ x cxi, es[i]? = some x ∧ CxOk P cxi ∧ cxi.N = cx.N ∧ cxi.lo = cx.lo ∧ (stepP cxi ops o).run (atE es i env) = some x) → Agree P F B0 w0 S0 cx ds env a w →
    (∀ a' w', Agree P F B0 w0 S0 cx ds (es.foldl (fun env x => applyEff x.2 env) env) a' w' → wpListIn (Fi ρ) 0 P ops Q rest a' w') → wpListIn (Fi ρ) 0 P ops Q (os ++ rest) a w
  | [], env, es, a, w, hl, _, hag, hQ => by
    have : es = [] := List.eq_nil_of_length_eq_zero hl
    subst this
    exact hQ a w hag
  | o :: os, env, [], a, w, hl, _, _, _ => by simp at hl
  | o :: os, env, x :: es, a, w, hl, hstep, hag, hQ => by
    obtain ⟨hd, hN, n, S, Os, hn, hgr, hst⟩ := hag
    obtain ⟨x', cxi, hx, hci, hcN, hcl, hrun⟩ := hstep 0 o rfl
    have : x' = x := by simpa using hx.symm
    subst this
    have hrun' : (stepP cxi ops o).run env = some (x'.1, x'.2) := hrun
    have key := fun Q' => stepP_okI ρ (Q := Q') hci hst hn (by rw [hcN, hcl]; exact hN) hrun'
    have next : ∀ a' w', Post P F B0 w0 S cxi env x'.2 a a' w' → wpListIn (Fi ρ) 0 P ops Q (os ++ rest) a' w' := by
      intro a' w' ⟨h1, h2, n', S', Os', k1, k2, k3⟩
      rw [hcN, hcl] at h2
      exact evOpsA_pre rest os (by simpa using hl) (fun i o h => by
        obtain ⟨y, cxj, g1, g2⟩ := hstep (i + 1) o (by simpa using h)
        exact ⟨y, cxj, by simpa using g1, g2⟩) ⟨h1.trans hd, h2, n', S', Os', k1, hgr.trans k2, k3⟩ hQ
    show wpListIn (Fi ρ) 0 P ops Q (o :: (os ++ rest)) a w
    unfold wpListIn
    have k1 := key Q
    split
    · rename_i hw
      rw [if_pos hw] at k1
      exact Oper.wpIn_mono next k1
    · rename_i hw
      rw [if_neg hw] at k1
      exact ⟨fun _ _ => trivial, next _ _ k1⟩
def opsEnv (P : Program) (cx : Cx) (ops : Array Oper) (os : List Oper) (env : Env) (an : List Ans) : Option (Env × List Prop) :=
  match evOpsA P cx ops os env an with
  | some ((_, env'), _, ps) => some (env', ps)
  | none => none
theorem opsEnv_ok {ops : Array Oper} {os : List Oper} {env env' : Env} {an : List Ans} {ps : List Prop} (h : opsEnv P cx ops os env an = some (env', ps)) : ∃ ls as', evOpsA P cx ops os env an = some ((ls, env'), as', ps) := by
  unfold opsEnv at h
  split at h
  · rename_i ls e as' qs he
    injection h with h; injection h with h1 h2; subst h1 h2
    exact ⟨ls, as', he⟩
  · cases h
def argT (env : Env) : List Operand → Option (List AV)
  | [] => some []
  | .tmp t :: l => match lk env t, argT env l with
    | some x, some xs => some (x :: xs)
    | _, _ => none
  | _ => none
theorem Itr.yield (hp : p.Ok P) (hcx : CxBase P cx) (hlo : cx.lo = 0) (hK : ∀ f xs, cx.K f xs = none) (hM : ∀ f x, x ≠ .bad → cx.KM f x = none) {id : Nat} {ops : Array Oper} {pre post : List Oper} {y : Oper} {g d b : Nat} {args : Array Operand} {ats : Array TypeId}
    (hops : ops.toList = pre ++ y :: post) (hy : y.op = .call { callee := .value (.tmp g), args := args, argTypes := ats }) (hyg : y.guard = none) (hyd : y.dst = some d) (hdN : d < cx.N)
    {env env1 env1v env2 env2v env3 : Env} {as1 as2 as3 : List Ans} {ps1 ps2 ps3 : List Prop} {k : Nat} {xs : List AV}
    (hpre : opsEnv P cx ops pre env as1 = some (env1, ps1)) (hp1 : ∀ q ∈ ps1, q) (hv1 : EnvV env1v) (hs1 : EnvSub env1v env1) 
    (hg : lk env1v g = some (.atom (.func (.yield p.l) #[] #[]))) (harg : argT env1v args.toList = some xs) (hxs : p.xss[k]? = some xs)
    (hpt : opsEnv P cx ops post ((d, .atom (.bool true)) :: env1v) as2 = some (env2, ps2)) (hp2 : ∀ q ∈ ps2, q) (hbt : lk env2 b = some (.atom (.bool false))) (hv2 : EnvV env2v) (hs2 : EnvSub env2v env2)
    (hpf : opsEnv P cx ops post [(d, .atom (.bool false))] as3 = some (env3, ps3)) (hp3 : ∀ q ∈ ps3, q) (hbf : lk env3 b = some (.atom (.bool true))) :
    Itr P cx p (.seq (.region id ops false) (.cond (.tmp b) .ret .skip)) env k .normal env2v (k + 1) := by
  intro a X W Q hi hJ hQ hX
  obtain ⟨ls1, as1', hpre⟩ := opsEnv_ok hpre
  obtain ⟨ls2, as2', hpt⟩ := opsEnv_ok hpt
  obtain ⟨ls3, as3', hpf⟩ := opsEnv_ok hpf
  refine wpIn_seq (wpIn_region_list ?_)
  rw [hops]
  obtain ⟨S', hS', hag⟩ := hi.agree hlo
  obtain ⟨es, e1, _, _, rfl, e4⟩ := evOpsA_split hcx hK hM hpre hp1
  refine evOpsA_pre (y :: post) pre e1 e4 hag fun a1 W1 hag1 => ?_
  obtain ⟨hi1, hB1, hJ1⟩ := ItS.back hp hJ hS' hag1 hv1 hs1
  unfold wpListIn
  have hw : Region.wanted y (yielded ops a1.tmps) = true := by unfold Region.wanted; rw [hyg]
  rw [if_pos hw]
  -- what follows, whatever the answer
  have after : ∀ (q : Bool) (e4 env4 : Env) (as4 as4' : List Ans) (ls4 : List Log) (ps4 : List Prop), evOpsA P cx ops post ((d, .atom (.bool q)) :: e4) as4 = some ((ls4, env4), as4', ps4) → (∀ r ∈ ps4, r) →
      ∀ (a2 : Act) (W2 : World) (S2 : Nat → Prop), Agree P ⟨fun _ => False, 0, #[]⟩ W2.heap.size W2 S2 cx [] ((d, .atom (.bool q)) :: e4) a2 W2 → ∀ Q2 : Exit → Act → World → Prop,
      (∀ a3 W3, Agree P ⟨fun _ => False, 0, #[]⟩ W2.heap.size W2 S2 cx [] env4 a3 W3 → Q2 .normal a3 W3) → wpListIn (Fi none) 0 P ops Q2 post a2 W2 := by
    intro q e4 env4 as4 as4' ls4 ps4 h4 hp4 a2 W2 S2 hag2 Q2 hQ2
    obtain ⟨es4, f1, _, _, rfl, f4⟩ := evOpsA_split hcx hK hM h4 hp4
    exact evOpsA_ok none post f1 f4 hag2 hQ2
  -- the call
  obtain ⟨hd1', hN1, n1, S1, hn1, hS1, hrel1⟩ := (show ItS P cx p env1v X a1 W1 from hi1)
  obtain ⟨vs, hvs, hrc⟩ : ∃ vs : List Value, args.toList.map a1.eval = vs ∧ ∀ B1, Rc (Rv P B1 W1 S1 n1) vs xs (fun _ => 0) := by
    refine ⟨_, rfl, ?_⟩
    clear hy hxs
    generalize args.toList = al at harg
    induction al generalizing xs with
    | nil => injection harg with harg; subst harg; exact fun _ => .nil fun _ => rfl
    | cons o al ih =>
      cases o with
      | tmp t =>
        simp only [argT] at harg
        cases hl : lk env1v t with
        | none => rw [hl] at harg; cases harg
        | some x =>
          cases hr : argT env1v al with
          | none => rw [hl, hr] at harg; cases harg
          | some ys =>
            rw [hl, hr] at harg
            injection harg with harg; subst harg
            obtain ⟨v, hv, hrv⟩ := hrel1 t x hl
            intro B1
            have he : a1.eval (.tmp t) = v := by simp [Act.eval, Array.getD_eq_getD_getElem?, hv]
            rw [List.map_cons, he]
            exact .cons (hrv B1) (ih hr B1) fun _ => rfl
      | _ => cases harg
  have hgv : a1.eval (.tmp g) = .func (.yield p.l) #[] #[] := by
    obtain ⟨v, hv, hr⟩ := hrel1 g _ hg
    obtain ⟨m, rfl⟩ : ∃ m, n1 = m + 1 := ⟨n1 - 1, by omega⟩
    have := (hr 0).1
    subst this
    simp [Act.eval, Array.getD_eq_getD_getElem?, hv]
  obtain ⟨fn, tm, as', bo, hyy, hround⟩ := hp.hY k X W1 xs vs S1 n1 hJ1 hxs hS1 hrc
  have hargs : args.map a1.eval = vs.toArray := by rw [← hvs, ← Array.toList_map, Array.toArray_toList]
  have hrun : (execOp a1.eval y).run P W1 = .ok (.round p.l fn tm as' bo) W1 := by
    rw [execOp, hy]
    simp [resolve, hgv, hargs, Deferred.ofValue, invoke, hyy]
  refine ⟨fun _ _ => trivial, ?_⟩
  rw [show (Fi none).round = none from rfl, Oper.semAt_eq _ _ _ (by rw [hy]; intro c h; cases h), hrun, Oper.uponIn_round]
  refine ⟨(fun h => nomatch h), hround.mono ?_⟩
  have hdT : d < a1.tmps.size := by rw [hN1]; exact hdN
  -- the slots behind the call
  have slots : ∀ (q : Bool) (W2 : World) (X2 : Nat → Prop), (∀ b, S1 b → W2.heap[b]? = W1.heap[b]? ∧ ¬ X2 b) → W1.heap.size ≤ W2.heap.size → ItS P cx p ((d, .atom (.bool q)) :: env1v) X2 (a1.put y.dst (.bool q)) W2 := by
    intro q W2 X2 hW2 hsz
    refine ⟨by rw [hyd]; exact hd1', by rw [hyd]; simpa [Act.put] using hN1, n1, S1, hn1, fun b hb => ⟨(hS1 b hb).1, Nat.lt_of_lt_of_le (hS1 b hb).2.1 hsz, (hW2 b hb).2⟩, fun t x hx => ?_⟩
    rw [hyd]
    simp only [lk] at hx
    split at hx
    · rename_i e; subst e
      injection hx with hx; subst hx
      refine ⟨.bool q, by simp [Act.put, hdT], fun B1 => ?_⟩
      obtain ⟨m, rfl⟩ : ∃ m, n1 = m + 1 := ⟨n1 - 1, by omega⟩
      exact ⟨rfl, fun _ => rfl⟩
    · rename_i e
      obtain ⟨v, hv, hr⟩ := hrel1 t x hx
      refine ⟨v, by simp [Act.put, Array.getElem?_setIfInBounds_ne e, hv], fun B1 => Rv.frame (fun _ h => h) (fun b hb => (hW2 b hb).1) _ _ _ _ (fun b hb => absurd hb (by simp)) (hr B1)⟩
  rintro e W2 (⟨rfl, X2, hJ2, hgw, hX2⟩ | ⟨rfl, hJ2⟩)
  · have hi2 := slots true W2 X2 (fun b hb => ⟨hgw.block b (hS1 b hb).2.1 (hS1 b hb).2.2, fun hx => by
      rcases hX2 b hx with h | h
      · exact (hS1 b hb).2.2 h
      · have := (hS1 b hb).2.1; omega⟩) hgw.size
    obtain ⟨S2, hS2, hag2⟩ := hi2.agree hlo
    refine after true _ _ _ _ _ _ hpt hp2 _ _ _ hag2 _ fun a3 W3 hag3 => ?_
    obtain ⟨hi3, _, hJ3⟩ := ItS.back hp hJ2 hS2 hag3 hv2 hs2
    exact wpIn_cond_false (hag3.bool hbt) (wpIn_skip (hQ _ _ _ hi3 hJ3))
  · have hi2 : ItS P cx p [(d, .atom (.bool false))] (fun _ => False) (a1.put y.dst (.bool false)) W2 := by
      refine ⟨by rw [hyd]; exact hd1', by rw [hyd]; simpa [Act.put] using hN1, 1, fun _ => False, Nat.one_pos, fun b hb => hb.elim, fun t x hx => ?_⟩
      rw [hyd]
      simp only [lk] at hx
      split at hx
      · rename_i e; subst e
        injection hx with hx; subst hx
        exact ⟨.bool false, by simp [Act.put, hdT], fun B1 => ⟨rfl, fun _ => rfl⟩⟩
      · cases hx
    obtain ⟨S2, hS2, hag2⟩ := hi2.agree hlo
    refine after false _ _ _ _ _ _ hpf hp3 _ _ _ hag2 _ fun a3 W3 hag3 => ?_
    obtain ⟨hd3, _, n3, S3, Os3, _, _, hst3⟩ := (show Agree P _ _ _ _ _ _ _ _ _ from hag3)
    exact wpIn_cond_true (hag3.bool hbf) (wpIn_ret (hX a3 k W3 (List.getElem?_eq_some_iff.1 hxs).1 hd3 (hp.hJx _ _ _ hJ2 hst3.below)))
end
end Go.Lf
end

section
namespace Go.Lf
open Go Go.RowKit
section
variable {P : Program} {cx : Cx}
theorem seqT {f : FuncId} {fn : Func} {c : Code} {cs : List AV} {xss : List (List AV)} {ex : Ex} (hf : P.funcs[f]? = some fn) (hname : (fn.name == "runtime.NumGoroutine") = false) (hb : fn.body = some c) (hN : fn.ntmps = cx.N) (hres : fn.results = #[]) (hlen : cs.length + 1 ≤ cx.N)
    (hcs : ∀ x ∈ cs, viewed x) (h : ∀ p : Hand, p.Ok P → p.xss = xss → ∃ env', Itr P cx p c (envOf (.atom (.func (.yield p.l) #[] #[]) :: cs)) 0 ex env' xss.length) (hex : ex = .normal ∨ ex = .ret) : SeqC P f cs xss := by
  refine ⟨?_, ?_⟩
  · intro args w
    have hn' : ¬ (fn.name = "runtime.NumGoroutine") := by simpa using hname
    simp [callFunc, hf, hn', hb]
  · intro w S n lb l J Jx hS hrc hJ hJx hJS hY X hJ0
    obtain ⟨env', hit⟩ := h ⟨w, S, l, J, Jx, xss⟩ ⟨hS, hJ, hJx, hJS, hY⟩ rfl
    refine calls_of_wp hf hb ?_
    refine (wpIn_wide (n := 0)).1 ?_
    have hll := hrc.length
    have hsz : ((Value.func (.yield l) #[] #[] :: lb).toArray).size ≤ cx.N := by simp; omega
    have hlt : ∀ (t : Nat) (v : Value), (Value.func (.yield l) #[] #[] :: lb)[t]? = some v → ((Value.func (.yield l) #[] #[] :: lb).toArray ++ Array.replicate (fn.ntmps - (Value.func (.yield l) #[] #[] :: lb).toArray.size) undef)[t]? = some v := by
      intro t v hv
      have htl : t < (Value.func (.yield l) #[] #[] :: lb).length := (List.getElem?_eq_some_iff.1 hv).1
      rw [Array.getElem?_append_left (by simpa using htl)]
      simpa using hv
    have hi : ItS P cx ⟨w, S, l, J, Jx, xss⟩ (envOf (.atom (.func (.yield l) #[] #[]) :: cs)) X { tmps := (Value.func (.yield l) #[] #[] :: lb).toArray ++ Array.replicate (fn.ntmps - (Value.func (.yield l) #[] #[] :: lb).toArray.size) undef, defers := [] } w := by
      refine ⟨rfl, by rw [Array.size_append, Array.size_replicate, hN]; omega, n + 1, S, Nat.succ_pos n, fun b hb => ⟨.inl hb, hS b hb, ((hJS 0 X w hJ0).2.1 b hb).2⟩, fun t x hx => ?_⟩
      rw [lk_envOf] at hx
      cases t with
      | zero =>
        injection hx with hx; subst hx
        exact ⟨_, hlt 0 _ rfl, fun B1 => ⟨rfl, fun _ => rfl⟩⟩
      | succ t =>
        have hx' : cs[t]? = some x := by simpa using hx
        obtain ⟨v, O1, hv, hr, hO⟩ := hrc.get hx'
        refine ⟨v, hlt (t + 1) v (by simpa using hv), fun B1 => ?_⟩
        obtain ⟨_, h2⟩ := hcs x (List.mem_of_getElem? hx')
        have := Rv.viewed (B1 := B1) (fun b hb => hb) n 12 v x O1 (fun b hb => by have := hO b; simp at this; omega) hr
        rw [h2] at this
        exact this.le (Nat.le_succ n)
    have hret : ∀ (a' : Act) (W' : World), (results fn a'.tmps).run P W' = .ok (.tuple #[]) W' := by
      intro a' W'
      simp [results, hres]
    refine hit _ X w _ hi hJ0 (fun a' X' W' hi' hJ' => ?_) fun a' j W' hj hd hx => ⟨hd, _, hret a' W', ⟨_, rfl⟩, .inr ⟨j, hj, hx⟩⟩
    rcases hex with rfl | rfl
    · exact ⟨hi'.1, _, hret a' W', ⟨_, rfl⟩, .inl ⟨X', hJ'⟩⟩
    · exact ⟨hi'.1, _, hret a' W', ⟨_, rfl⟩, .inl ⟨X', hJ'⟩⟩
end
end Go.Lf
end

section
open Go Go.Lf Go.Proofs
namespace Tst
set_option maxHeartbeats 0
abbrev yv (l : Nat) : AV := .atom (.func (.yield l) #[] #[])
abbrev hbx (cf : Option Nat) (F : List Stk) (cb : Option Nat) (B : List Stk) : AV := .vadr [bsl cf F, bsl cb B] 0
abbrev bdl : AV := .agg [ub 0, ub 1]
theorem hd0_0 (l : Nat) (cf cb : Option Nat) (F B : List Stk) : Tri0 Try.prog (cxN 32 0) (regAt Try.f69 0) ([(0, yv l), (1, hbx cf F cb B)] ) (Ex.normal) ([(0, AV.atom (Value.func (Fn.yield l) #[] #[])), (1, AV.vadr [bsl cf F, bsl cb B] 0), (7, AV.agg [ub (0 : Int), ub (1 : Int)]), (8, it (0 : Int))]) :=
  evA_ok0 (H := h69) (ans := [Ans.c, Ans.c]) (ps := []) (ans' := []) (base 32 0) cxA_K.1 cxA_K.2 (by kernel_rfl) (by kernel_rfl)  allp_nil
theorem hd1_0 (l : Nat) (cf cb : Option Nat) (F B : List Stk) (j : Int) : Tri0 Try.prog (cxN 32 0) (regAt Try.f69 1) ([(0, yv l), (1, hbx cf F cb B), (7, bdl), (8, it j)] ) (Ex.normal) ([(0, AV.atom (Value.func (Fn.yield l) #[] #[])), (1, AV.vadr [bsl cf F, bsl cb B] 0), (7, AV.agg [ub (0 : Int), ub (1 : Int)]), (8, it j), (9, bb (decide (j < (2 : Int))))]) :=
  evA_ok0 (H := h69) (ans := [Ans.c]) (ps := []) (ans' := []) (base 32 0) cxA_K.1 cxA_K.2 (by kernel_rfl) (by kernel_rfl)  allp_nil
theorem hd2a_0 (l : Nat) (cf cb : Option Nat) (F B : List Stk) : Tri0 Try.prog (cxN 32 0) (regAt Try.f69 2) ([(0, yv l), (1, hbx cf F cb B), (7, bdl), (8, it 0)] ) (Ex.normal) ([(0, AV.atom (Value.func (Fn.yield l) #[] #[])), (1, AV.vadr [bsl cf F, bsl cb B] 0), (4, ub (0 : Int)), (7, AV.agg [ub (0 : Int), ub (1 : Int)]), (8, it (0 : Int))]) :=
  evA_ok0 (H := h69) (ans := [Ans.c, Ans.c, Ans.c, Ans.c]) (ps := []) (ans' := []) (base 32 0) cxA_K.1 cxA_K.2 (by kernel_rfl) (by kernel_rfl)  allp_nil
theorem hd2b_0 (l : Nat) (cf cb : Option Nat) (F B : List Stk) : Tri0 Try.prog (cxN 32 0) (regAt Try.f69 2) ([(0, yv l), (1, hbx cf F cb B), (7, bdl), (8, it 1)] ) (Ex.normal) ([(0, AV.atom (Value.func (Fn.yield l) #[] #[])), (1, AV.vadr [bsl cf F, bsl cb B] 0), (4, ub (1 : Int)), (7, AV.agg [ub (0 : Int), ub (1 : Int)]), (8, it (1 : Int))]) :=
  evA_ok0 (H := h69) (ans := [Ans.c, Ans.c, Ans.c, Ans.c]) (ps := []) (ans' := []) (base 32 0) cxA_K.1 cxA_K.2 (by kernel_rfl) (by kernel_rfl)  allp_nil
theorem hd3a_0 (l : Nat) (cf cb : Option Nat) (F B : List Stk) : Tri0 Try.prog (cxN 32 0) (regAt Try.f69 3) ([(0, yv l), (1, hbx cf F cb B), (4, ub 0), (7, bdl), (8, it 0)] ) (Ex.normal) ([(0, AV.atom (Value.func (Fn.yield l) #[] #[])), (1, AV.vadr [bsl cf F, bsl cb B] 0), (4, ub (0 : Int)), (7, AV.agg [ub (0 : Int), ub (1 : Int)]), (8, it (0 : Int)), (13, AV.sl Mode.any 62 (if ((0 : Int) == (0 : Int)) = true then cf else cb) (List.map Stk.enc (if ((0 : Int) == (0 : Int)) = true then F else B))), (14, it (↑(List.length (List.map Stk.enc (if ((0 : Int) == (0 : Int)) = true then F else B))) : Int)), (15, it (0 : Int))]) :=
  evA_ok0 (H := h69) (ans := [Ans.c, Ans.c, Ans.r (AV.sl Mode.any 62 (if ((0 : Int) == (0 : Int)) = true then cf else cb) (List.map Stk.enc (if ((0 : Int) == (0 : Int)) = true then F else B))), Ans.c, Ans.c, Ans.c, Ans.c]) (ps := [PureC Try.prog 59 [view (AV.agg [bsl cf F, bsl cb B]), ub (0 : Int)] (AV.sl Mode.any 62 (if ((0 : Int) == (0 : Int)) = true then cf else cb) (List.map Stk.enc (if ((0 : Int) == (0 : Int)) = true then F else B)))]) (ans' := []) (base 32 0) cxA_K.1 cxA_K.2 (by kernel_rfl) (by kernel_rfl)  (allp (by (first | rw [view_yn] | rw [view_two] | rw [view_twoI] | rw [view_beds] | skip); first | (apply bdo_c <;> (first | assumption | rfl | (simp at * <;> omega)))) allp_nil)
theorem hd3b_0 (l : Nat) (cf cb : Option Nat) (F B : List Stk) : Tri0 Try.prog (cxN 32 0) (regAt Try.f69 3) ([(0, yv l), (1, hbx cf F cb B), (4, ub 1), (7, bdl), (8, it 1)] ) (Ex.normal) ([(0, AV.atom (Value.func (Fn.yield l) #[] #[])), (1, AV.vadr [bsl cf F, bsl cb B] 0), (4, ub (1 : Int)), (7, AV.agg [ub (0 : Int), ub (1 : Int)]), (8, it (1 : Int)), (13, AV.sl Mode.any 62 (if ((1 : Int) == (0 : Int)) = true then cf else cb) (List.map Stk.enc (if ((1 : Int) == (0 : Int)) = true then F else B))), (14, it (↑(List.length (List.map Stk.enc (if ((1 : Int) == (0 : Int)) = true then F else B))) : Int)), (15, it (0 : Int))]) :=
  evA_ok0 (H := h69) (ans := [Ans.c, Ans.c, Ans.r (AV.sl Mode.any 62 (if ((1 : Int) == (0 : Int)) = true then cf else cb) (List.map Stk.enc (if ((1 : Int) == (0 : Int)) = true then F else B))), Ans.c, Ans.c, Ans.c, Ans.c]) (ps := [PureC Try.prog 59 [view (AV.agg [bsl cf F, bsl cb B]), ub (1 : Int)] (AV.sl Mode.any 62 (if ((1 : Int) == (0 : Int)) = true then cf else cb) (List.map Stk.enc (if ((1 : Int) == (0 : Int)) = true then F else B)))]) (ans' := []) (base 32 0) cxA_K.1 cxA_K.2 (by kernel_rfl) (by kernel_rfl)  (allp (by (first | rw [view_yn] | rw [view_two] | rw [view_twoI] | rw [view_beds] | skip); first | (apply bdo_c <;> (first | assumption | rfl | (simp at * <;> omega)))) allp_nil)
theorem hd4_0 (l : Nat) (cf cb c : Option Nat) (F B L : List Stk) (i j d m : Int) : Tri0 Try.prog (cxN 32 0) (regAt Try.f69 4) ([(0, yv l), (1, hbx cf F cb B), (4, ub d), (7, bdl), (8, it j), (13, bsl c L), (14, it m), (15, it i)] ) (Ex.normal) ([(0, AV.atom (Value.func (Fn.yield l) #[] #[])), (1, AV.vadr [bsl cf F, bsl cb B] 0), (4, ub d), (7, AV.agg [ub (0 : Int), ub (1 : Int)]), (8, it j), (13, bsl c L), (14, it m), (15, it i), (16, bb (decide (i < m)))]) :=
  evA_ok0 (H := h69) (ans := [Ans.c]) (ps := []) (ans' := []) (base 32 0) cxA_K.1 cxA_K.2 (by kernel_rfl) (by kernel_rfl)  allp_nil
theorem hd5_0 (l : Nat) (cf cb c : Option Nat) (F B L : List Stk) (i j d m : Int) (g0 : decide ((0 : Int) ≤ i ∧ i < (↑(List.length (List.map Stk.enc L)) : Int)) = true) (g1 : List.getD (List.map Stk.enc L) (Int.toNat i) AV.bad = Stk.enc (List.getD L (Int.toNat i) default)) : Tri0 Try.prog (cxN 32 0) (regAt Try.f69 5) ([(0, yv l), (1, hbx cf F cb B), (4, ub d), (7, bdl), (8, it j), (13, bsl c L), (14, it m), (15, it i)] ) (Ex.normal) ([(0, AV.atom (Value.func (Fn.yield l) #[] #[])), (1, AV.vadr [bsl cf F, bsl cb B] 0), (4, ub d), (5, it i), (6, AV.sl Mode.any 30 (Stk.c (List.getD L (Int.toNat i) default)) (List.map Idd.enc (Stk.l (List.getD L (Int.toNat i) default)))), (7, AV.agg [ub (0 : Int), ub (1 : Int)]), (8, it j), (13, bsl c L), (14, it m), (15, it i)]) :=
  evA_ok0 (H := h69) (ans := [Ans.c, Ans.b true, Ans.r (Stk.enc (List.getD L (Int.toNat i) default)), Ans.c, Ans.c, Ans.c, Ans.c]) (ps := [decide ((0 : Int) ≤ i ∧ i < (↑(List.length (List.map Stk.enc L)) : Int)) = true, List.getD (List.map Stk.enc L) (Int.toNat i) AV.bad = Stk.enc (List.getD L (Int.toNat i) default)]) (ans' := []) (base 32 0) cxA_K.1 cxA_K.2 (by kernel_rfl) (by kernel_rfl)  (allp g0 (allp g1 allp_nil))
theorem hd6_0 (l : Nat) (cf cb c : Option Nat) (F B L : List Stk) (s : Stk) (i j d m : Int) : Tri0 Try.prog (cxN 32 0) (regAt Try.f69 6) ([(0, yv l), (1, hbx cf F cb B), (4, ub d), (5, it i), (6, .sl .any 30 s.c (s.l.map Idd.enc)), (7, bdl), (8, it j), (13, bsl c L), (14, it m), (15, it i)] ) (Ex.normal) ([(0, AV.atom (Value.func (Fn.yield l) #[] #[])), (1, AV.vadr [bsl cf F, bsl cb B] 0), (4, ub d), (5, it i), (6, AV.sl Mode.any 30 (Stk.c s) (List.map Idd.enc (Stk.l s))), (7, AV.agg [ub (0 : Int), ub (1 : Int)]), (8, it j), (13, bsl c L), (14, it m), (15, it i), (21, bb (i == (40 : Int)))]) :=
  evA_ok0 (H := h69) (ans := [Ans.c, Ans.c]) (ps := []) (ans' := []) (base 32 0) cxA_K.1 cxA_K.2 (by kernel_rfl) (by kernel_rfl)  allp_nil
theorem hd8_0 (l : Nat) (cf cb c : Option Nat) (F B L : List Stk) (i j d m : Int) : Tri0 Try.prog (cxN 32 0) (regAt Try.f69 8) ([(0, yv l), (1, hbx cf F cb B), (4, ub d), (7, bdl), (8, it j), (13, bsl c L), (14, it m), (15, it i)] ) (Ex.normal) ([(0, AV.atom (Value.func (Fn.yield l) #[] #[])), (1, AV.vadr [bsl cf F, bsl cb B] 0), (4, ub d), (7, AV.agg [ub (0 : Int), ub (1 : Int)]), (8, it j), (13, bsl c L), (14, it m), (15, it (IntKind.wrap IntKind.i64 (i + (1 : Int))))]) :=
  evA_ok0 (H := h69) (ans := [Ans.c, Ans.c]) (ps := []) (ans' := []) (base 32 0) cxA_K.1 cxA_K.2 (by kernel_rfl) (by kernel_rfl)  allp_nil
theorem hd9_0 (l : Nat) (cf cb : Option Nat) (F B : List Stk) (j : Int) : Tri0 Try.prog (cxN 32 0) (regAt Try.f69 9) ([(0, yv l), (1, hbx cf F cb B), (7, bdl), (8, it j)] ) (Ex.normal) ([(0, AV.atom (Value.func (Fn.yield l) #[] #[])), (1, AV.vadr [bsl cf F, bsl cb B] 0), (7, AV.agg [ub (0 : Int), ub (1 : Int)]), (8, it (IntKind.wrap IntKind.i64 (j + (1 : Int))))]) :=
  evA_ok0 (H := h69) (ans := [Ans.c, Ans.c]) (ps := []) (ans' := []) (base 32 0) cxA_K.1 cxA_K.2 (by kernel_rfl) (by kernel_rfl)  allp_nil
end Tst
end

section
open Go Go.Lf Go.Proofs
namespace Tst
theorem EnvSub.nil {env : Env} : EnvSub [] env := fun t x h => by simp [lk] at h
theorem EnvSub.cons {env l : Env} {t : Nat} {x : AV} (h : lk env t = some x) (hs : EnvSub l env) : EnvSub ((t, x) :: l) env := by
  intro t' y hy
  simp only [lk] at hy
  split at hy
  · rename_i e; subst e; injection hy with hy; subst hy; exact h
  · exact hs t' y hy
theorem EnvV.nil : EnvV [] := fun q h => by simp at h
theorem EnvV.cons {l : Env} {t : Nat} {x : AV} (h : viewed x) (hs : EnvV l) : EnvV ((t, x) :: l) := by
  intro q hq
  rcases List.mem_cons.1 hq with rfl | hq
  · exact h
  · exact hs q hq
theorem vd_atom (v : Value) : viewed (.atom v) := ⟨rfl, rfl⟩
theorem vd_bsl (c : Option Nat) (l : List Stk) : viewed (bsl c l) := ⟨rfl, view_stk .any c l⟩
theorem vd_isl (c : Option Nat) (l : List Idd) : viewed (.sl .any 30 c (l.map Idd.enc)) := ⟨rfl, view_id .any c l⟩
theorem vd_hbx (cf : Option Nat) (F : List Stk) (cb : Option Nat) (B : List Stk) : viewed (hbx cf F cb B) := by
  refine ⟨rfl, ?_⟩
  show AV.vadr [.sl .any 62 cf ((F.map Stk.enc).map (mapE (remode (fun _ => .any) 10))), .sl .any 62 cb ((B.map Stk.enc).map (mapE (remode (fun _ => .any) 10)))] 0 = _
  rw [map_stk, map_stk]
theorem vd_bdl : viewed bdl := ⟨rfl, rfl⟩
theorem vd_ndl (d i : Int) : viewed (ndl d i) := ⟨rfl, rfl⟩
abbrev eL (l : Nat) (cf : Option Nat) (F : List Stk) (cb : Option Nat) (B : List Stk) (d j : Int) (c : Option Nat) (L : List Stk) (i : Int) : Env :=
  [(0, yv l), (1, hbx cf F cb B), (4, ub d), (7, bdl), (8, it j), (13, bsl c L), (14, it ((L.map Stk.enc).length : Nat)), (15, it i)]
abbrev eS (l : Nat) (cf : Option Nat) (F : List Stk) (cb : Option Nat) (B : List Stk) (d j : Int) (c : Option Nat) (L : List Stk) (i : Int) (s : Stk) : Env :=
  [(0, yv l), (1, hbx cf F cb B), (4, ub d), (5, it i), (6, .sl .any 30 s.c (s.l.map Idd.enc)), (7, bdl), (8, it j), (13, bsl c L), (14, it ((L.map Stk.enc).length : Nat)), (15, it i)]
abbrev eO (l : Nat) (cf : Option Nat) (F : List Stk) (cb : Option Nat) (B : List Stk) (j : Int) : Env := [(0, yv l), (1, hbx cf F cb B), (7, bdl), (8, it j)]
def hdL (d : Int) (L : List Stk) : List (List AV) := (L.take 40).zipIdx.map fun q => [ndl d ((q.2 : Int) + 1), q.1.enc]
theorem inner_code : loopBody Try.f69 1 = .seq (regAt Try.f69 4) (.seq (.cond (.tmp 16) .skip (.exit 2)) (.seq (.block 3 (.seq (regAt Try.f69 5) (.seq (.seq (regAt Try.f69 6) (.cond (.tmp 21) (.exit 2) .skip)) (.seq (.region 7 (opsAt Try.f69 7) false) (.cond (.tmp 29) .ret .skip))))) (regAt Try.f69 8))) := by kernel_rfl
theorem outer_code : loopBody Try.f69 0 = .seq (regAt Try.f69 1) (.seq (.cond (.tmp 9) .skip (.exit 0)) (.seq (.block 1 (.seq (regAt Try.f69 2) (.seq (regAt Try.f69 3) (.block 2 (.loop (loopBody Try.f69 1)))))) (regAt Try.f69 9))) := by kernel_rfl
theorem body_code : Try.f69.body = some (.seq (regAt Try.f69 0) (.block 0 (.loop (loopBody Try.f69 0)))) := by kernel_rfl
section
variable {p : Hand} (hp : p.Ok Try.prog) (cf cb c : Option Nat) (F B L : List Stk)
include hp
theorem inner_end (d j : Int) (i : Nat) (k : Nat) (hi : i = L.length) : Itr Try.prog (cxN 32 0) p (loopBody Try.f69 1) (eL p.l cf F cb B d j c L i) k (.exit 2) (eO p.l cf F cb B j) k := by
  rw [inner_code]
  refine .seq (.seg hp rfl (hd4_0 p.l cf cb c F B L i j d ((L.map Stk.enc).length : Nat)) (env2 := (16, bb false) :: eL p.l cf F cb B d j c L i) (by repeat (first | exact EnvV.nil | refine EnvV.cons (by first | exact vd_atom _ | exact vd_bsl _ _ | exact vd_isl _ _ | exact vd_hbx _ _ _ _ | exact vd_bdl | exact vd_ndl _ _) ?_)) ?_) ?_
  · refine EnvSub.cons ?_ (by repeat (first | exact EnvSub.nil | refine EnvSub.cons rfl ?_))
    show some (AV.atom (.bool (decide ((i : Int) < ((L.map Stk.enc).length : Nat))))) = _
    rw [decide_eq_false (by simp; omega)]
  · exact .seqX (.cond (b := false) rfl (.exit (by repeat (first | exact EnvSub.nil | refine EnvSub.cons rfl ?_)))) (by simp)
theorem inner_40 (d j : Int) (k : Nat) (hi : 40 < L.length) : Itr Try.prog (cxN 32 0) p (loopBody Try.f69 1) (eL p.l cf F cb B d j c L 40) k (.exit 2) (eO p.l cf F cb B j) k := by
  rw [inner_code]
  refine .seq (.seg hp rfl (hd4_0 p.l cf cb c F B L 40 j d ((L.map Stk.enc).length : Nat)) (env2 := (16, bb true) :: eL p.l cf F cb B d j c L 40) (by repeat (first | exact EnvV.nil | refine EnvV.cons (by first | exact vd_atom _ | exact vd_bsl _ _ | exact vd_isl _ _ | exact vd_hbx _ _ _ _ | exact vd_bdl | exact vd_ndl _ _) ?_)) ?_) ?_
  · refine EnvSub.cons ?_ (by repeat (first | exact EnvSub.nil | refine EnvSub.cons rfl ?_))
    show some (AV.atom (.bool (decide ((40 : Int) < ((L.map Stk.enc).length : Nat))))) = _
    rw [decide_eq_true (by simp; omega)]
  refine .seq (.cond (b := true) rfl (.skip (env2 := eL p.l cf F cb B d j c L 40) (by repeat (first | exact EnvSub.nil | refine EnvSub.cons rfl ?_)))) (.seqX (.block (ex := .exit 2) ?_ (.inr ⟨by simp, rfl⟩)) (by simp))
  have g1 : List.getD (List.map Stk.enc L) (Int.toNat 40) AV.bad = Stk.enc (List.getD L (Int.toNat 40) default) := by
    simp only [List.getD_eq_getElem?_getD, List.getElem?_map]
    rw [List.getElem?_eq_getElem (by simpa using hi)]; rfl
  refine .seq (.seg hp rfl (hd5_0 p.l cf cb c F B L 40 j d ((L.map Stk.enc).length : Nat) (by simp; omega) g1) (env2 := eS p.l cf F cb B d j c L 40 (L.getD (Int.toNat 40) default)) (by repeat (first | exact EnvV.nil | refine EnvV.cons (by first | exact vd_atom _ | exact vd_bsl _ _ | exact vd_isl _ _ | exact vd_hbx _ _ _ _ | exact vd_bdl | exact vd_ndl _ _) ?_)) (by repeat (first | exact EnvSub.nil | refine EnvSub.cons rfl ?_))) ?_
  refine .seqX (.seq (.seg hp rfl (hd6_0 p.l cf cb c F B L _ 40 j d ((L.map Stk.enc).length : Nat)) (env2 := (21, bb true) :: eL p.l cf F cb B d j c L 40) (by repeat (first | exact EnvV.nil | refine EnvV.cons (by first | exact vd_atom _ | exact vd_bsl _ _ | exact vd_isl _ _ | exact vd_hbx _ _ _ _ | exact vd_bdl | exact vd_ndl _ _) ?_)) (by repeat (first | exact EnvSub.nil | refine EnvSub.cons rfl ?_))) ?_) (by simp)
  exact .cond (b := true) rfl (.exit (by repeat (first | exact EnvSub.nil | refine EnvSub.cons rfl ?_)))
theorem inner_step (d j : Int) (i : Nat) (k : Nat) (hi : i < L.length) (h40 : i < 40) (hx : p.xss[k]? = some [ndl d ((i : Int) + 1), (L.getD i default).enc]) : Itr Try.prog (cxN 32 0) p (loopBody Try.f69 1) (eL p.l cf F cb B d j c L i) k .normal (eL p.l cf F cb B d j c L (i + 1)) (k + 1) := by
  have hw : IntKind.i64.wrap ((i : Int) + 1) = (i : Int) + 1 := wrap_id' (by omega) (by omega)
  rw [inner_code]
  refine .seq (.seg hp rfl (hd4_0 p.l cf cb c F B L i j d ((L.map Stk.enc).length : Nat)) (env2 := (16, bb true) :: eL p.l cf F cb B d j c L i) (by repeat (first | exact EnvV.nil | refine EnvV.cons (by first | exact vd_atom _ | exact vd_bsl _ _ | exact vd_isl _ _ | exact vd_hbx _ _ _ _ | exact vd_bdl | exact vd_ndl _ _) ?_)) ?_) ?_
  · refine EnvSub.cons ?_ (by repeat (first | exact EnvSub.nil | refine EnvSub.cons rfl ?_))
    show some (AV.atom (.bool (decide ((i : Int) < ((L.map Stk.enc).length : Nat))))) = _
    rw [decide_eq_true (by simp; omega)]
  refine .seq (.cond (b := true) rfl (.skip (env2 := eL p.l cf F cb B d j c L i) (by repeat (first | exact EnvSub.nil | refine EnvSub.cons rfl ?_)))) (.seq (env1 := eL p.l cf F cb B d j c L i) (k1 := k + 1) (.block (ex := .normal) ?_ (.inr ⟨by simp, rfl⟩)) ?_)
  rotate_left
  · refine .seg hp rfl (hd8_0 p.l cf cb c F B L i j d ((L.map Stk.enc).length : Nat)) (by repeat (first | exact EnvV.nil | refine EnvV.cons (by first | exact vd_atom _ | exact vd_bsl _ _ | exact vd_isl _ _ | exact vd_hbx _ _ _ _ | exact vd_bdl | exact vd_ndl _ _) ?_)) ?_
    repeat (first | exact EnvSub.nil | refine EnvSub.cons rfl ?_ | refine EnvSub.cons (by show some (AV.atom (.int .i64 _)) = _; rw [hw]) ?_)
  have g1 : List.getD (List.map Stk.enc L) (Int.toNat i) AV.bad = Stk.enc (List.getD L (Int.toNat i) default) := by
    simp only [List.getD_eq_getElem?_getD, List.getElem?_map]
    rw [List.getElem?_eq_getElem (by simpa using hi)]; rfl
  refine .seq (.seg hp rfl (hd5_0 p.l cf cb c F B L i j d ((L.map Stk.enc).length : Nat) (by simp; omega) g1) (env2 := eS p.l cf F cb B d j c L i (L.getD (Int.toNat i) default)) (by repeat (first | exact EnvV.nil | refine EnvV.cons (by first | exact vd_atom _ | exact vd_bsl _ _ | exact vd_isl _ _ | exact vd_hbx _ _ _ _ | exact vd_bdl | exact vd_ndl _ _) ?_)) (by repeat (first | exact EnvSub.nil | refine EnvSub.cons rfl ?_))) ?_
  refine .seq (.seq (.seg hp rfl (hd6_0 p.l cf cb c F B L _ i j d ((L.map Stk.enc).length : Nat)) (env2 := (21, bb false) :: eS p.l cf F cb B d j c L i (L.getD (Int.toNat i) default)) (by repeat (first | exact EnvV.nil | refine EnvV.cons (by first | exact vd_atom _ | exact vd_bsl _ _ | exact vd_isl _ _ | exact vd_hbx _ _ _ _ | exact vd_bdl | exact vd_ndl _ _) ?_)) ?_) (.cond (b := false) rfl (.skip (env2 := eS p.l cf F cb B d j c L i (L.getD (Int.toNat i) default)) (by repeat (first | exact EnvSub.nil | refine EnvSub.cons rfl ?_))))) ?_
  · refine EnvSub.cons ?_ (by repeat (first | exact EnvSub.nil | refine EnvSub.cons rfl ?_))
    show some (AV.atom (.bool ((i : Int) == 40))) = _
    rw [show ((i : Int) == 40) = false by simp; omega]
  refine Itr.yield hp (base 32 0) rfl cxA_K.1 cxA_K.2 (ops := opsAt Try.f69 7) (pre := (opsAt Try.f69 7).toList.take 6) (y := (opsAt Try.f69 7).toList.getD 6 default) (post := (opsAt Try.f69 7).toList.drop 7) (g := 22) (d := 28) (b := 29) (args := #[.tmp 26, .tmp 27]) (ats := #[61, 62])
    (by kernel_rfl) (by kernel_rfl) (by kernel_rfl) (by kernel_rfl) (by decide)
    (env1 := (27, .sl .any 30 (Stk.c (List.getD L (Int.toNat i) default)) (List.map Idd.enc (Stk.l (List.getD L (Int.toNat i) default)))) :: (26, ndl d (IntKind.i64.wrap ((i : Int) + 1))) :: (25, it (IntKind.i64.wrap ((i : Int) + 1))) :: (24, it i) :: (23, ub d) :: (22, yv p.l) :: eS p.l cf F cb B d j c L i (L.getD (Int.toNat i) default))
    (as1 := [.c, .c, .c, .c, .c, .c]) (ps1 := []) (as2 := [.c]) (as3 := [.c]) (ps2 := []) (ps3 := [])
    (by kernel_rfl) allp_nil (env1v := (27, .sl .any 30 (Stk.c (List.getD L (Int.toNat i) default)) (List.map Idd.enc (Stk.l (List.getD L (Int.toNat i) default)))) :: (26, ndl d (IntKind.i64.wrap ((i : Int) + 1))) :: (22, yv p.l) :: eL p.l cf F cb B d j c L i) (by repeat (first | exact EnvV.nil | refine EnvV.cons (by first | exact vd_atom _ | exact vd_bsl _ _ | exact vd_isl _ _ | exact vd_hbx _ _ _ _ | exact vd_bdl | exact vd_ndl _ _) ?_)) (by repeat (first | exact EnvSub.nil | refine EnvSub.cons rfl ?_)) rfl (xs := [ndl d ((i : Int) + 1), (L.getD i default).enc]) (by refine (show some [ndl d (IntKind.i64.wrap ((i : Int) + 1)), (L.getD i default).enc] = _ from ?_); rw [hw]) hx
    (env2 := (29, bb false) :: (28, bb true) :: (27, .sl .any 30 (Stk.c (List.getD L (Int.toNat i) default)) (List.map Idd.enc (Stk.l (List.getD L (Int.toNat i) default)))) :: (26, ndl d (IntKind.i64.wrap ((i : Int) + 1))) :: (22, yv p.l) :: eL p.l cf F cb B d j c L i) (by kernel_rfl) allp_nil rfl (by repeat (first | exact EnvV.nil | refine EnvV.cons (by first | exact vd_atom _ | exact vd_bsl _ _ | exact vd_isl _ _ | exact vd_hbx _ _ _ _ | exact vd_bdl | exact vd_ndl _ _) ?_)) (by repeat (first | exact EnvSub.nil | refine EnvSub.cons rfl ?_))
    (env3 := [(29, bb true), (28, bb false)]) (by kernel_rfl) allp_nil rfl
theorem inner_loop (d j : Int) : ∀ (n i k : Nat), i + n = min L.length 40 → (∀ q, q < n → p.xss[k + q]? = some [ndl d (((i + q : Nat) : Int) + 1), (L.getD (i + q) default).enc]) →
    ItR Try.prog (cxN 32 0) p (loopBody Try.f69 1) (n + 1) (eL p.l cf F cb B d j c L i) k (.exit 2) (eO p.l cf F cb B j) (k + n)
  | 0, i, k, h, _ => by
    by_cases hl : i = L.length
    · exact .exit (inner_end hp cf cb c F B L d j i k hl) (by simp)
    · have : i = 40 := by omega
      subst this
      exact .exit (inner_40 hp cf cb c F B L d j k (by omega)) (by simp)
  | n + 1, i, k, h, hx => by
    have h1 := inner_step hp cf cb c F B L d j i k (by omega) (by omega) (by simpa using hx 0 (by omega))
    have h2 := inner_loop d j n (i + 1) (k + 1) (by omega) fun q hq => by
      have := hx (q + 1) (by omega)
      rw [show k + (q + 1) = k + 1 + q by omega, show i + (q + 1) = i + 1 + q by omega] at this
      exact this
    rw [show k + 1 + n = k + (n + 1) by omega] at h2
    exact .step h1 h2
end
end Tst
end
