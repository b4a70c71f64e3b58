/- Part 4 of the evaluator and of the contracts that the claim uses. -/
import Derived.KernelRfl
import Derived.Test.YtnaikfcmegkdpaaProg
import Derived.Test.YtnaikfcmegkdpaaYarnsActsLAA
import Derived.Test.YtnaikfcmegkdpaaYarnsActsLAB
import Derived.Test.YtnaikfcmegkdpaaYarnsActsLAC
set_option linter.unusedVariables false
set_option linter.unusedSimpArgs false
set_option linter.constructorNameAsVariable false

section
open Go Go.Lf Go.Proofs
namespace Tst
def T : Types := [(3, ⟨[.int .i64 0], 8, false, .int .i64⟩), (4, ⟨[.bool false], 1, false, .bool⟩), (5, ⟨[.int .u8 0], 1, false, .int .u8⟩), (22, ⟨[.slice none 0 0], 24, false, .slice 89⟩), (23, ⟨[.slice none 0 0], 24, false, .slice 33⟩), (30, ⟨[.int .u8 0, .int .i64 0], 16, true, .struct [(0, 1), (1, 1)]⟩), (31, ⟨[.int .u8 0], 1, false, .int .u8⟩), (33, ⟨[.int .u8 0, .int .i64 0, .bool false, .int .u8 0], 24, true, .struct [(0, 2), (2, 1), (3, 1)]⟩), (36, ⟨[.slice none 0 0], 24, false, .slice 40⟩), (38, ⟨[.bool false, .int .i64 0, .int .i64 0, .bool false, .slice none 0 0], 56, true, .struct [(0, 1), (1, 1), (2, 1), (3, 1), (4, 1)]⟩), (40, ⟨[.int .u8 0, .int .i64 0, .int .u8 0, .slice none 0 0], 48, true, .struct [(0, 1), (1, 1), (2, 1), (3, 1)]⟩), (41, ⟨[.int .i64 0], 8, false, .int .i64⟩), (47, ⟨[.int .i64 0, .bool false, .slice none 0 0], 40, true, .struct [(0, 1), (1, 1), (2, 1)]⟩), (52, ⟨[.int .u8 0, .int .u8 0], 2, true, .array 2 5⟩), (89, ⟨[.int .u8 0], 1, false, .int .u8⟩), (110, ⟨[.slice none 0 0], 24, false, .slice 23⟩)]
theorem tyOk : ∀ t i, tyF T t = some i → TyOk Try.prog t i := tyOk_of (by kernel_rfl)
def h3 : Hints := ⟨fun n => match n with | 0 => [0, 1] | 1 => [0, 1, 17] | 2 => [4] | 3 => [5] | 4 => [5, 6] | 5 => [5, 6, 7] | 6 => [5, 6, 7, 8] | 7 => [7, 50] | 8 => [4] | 9 => [7, 9] | 10 => [7, 9, 55] | 11 => [7, 9] | 12 => [7, 9, 68] | 13 => [4] | 14 => [4] | _ => [], fun n => match n with | 10 => [(7, .keep), (9, .keep)] | _ => []⟩
def h4 : Hints := ⟨fun n => match n with | 0 => [0, 1, 2] | 1 => [0, 1, 2, 27] | 2 => [6] | 3 => [2, 7, 8] | 4 => [2, 7, 8, 9] | 5 => [2, 7, 8, 49] | 6 => [6] | 7 => [2, 7, 8, 10] | 8 => [2, 10, 11] | 9 => [2, 67] | 10 => [6] | 11 => [2, 12] | 12 => [2, 12, 81] | 13 => [6] | 14 => [2, 12, 13] | 15 => [2, 12, 13, 85] | 16 => [2, 12, 13] | 17 => [2, 12, 13, 14] | 18 => [2, 12, 13, 14, 98] | 19 => [2, 12, 13, 14] | 20 => [2, 12, 13, 14] | 21 => [2, 12, 13, 106] | 22 => [6] | 23 => [6] | _ => [], fun n => match n with | 15 => [(2, .keep), (12, .keep), (13, .keep)] | _ => []⟩
def h5 : Hints := ⟨fun n => match n with | 0 => [0] | 1 => [0, 17] | 2 => [2] | 3 => [0, 3] | 4 => [0, 3, 4, 5, 6, 7] | 5 => [0, 3, 4, 5, 6, 7, 8] | 6 => [0, 3, 4, 5, 6, 7, 8, 9] | 7 => [0, 3, 4, 5, 6, 7, 8, 9, 22] | 8 => [0, 3, 4, 5, 6, 7, 8, 9] | 9 => [0, 3, 4, 5, 6, 7, 8, 9, 31] | 10 => [2] | 11 => [0, 3, 4, 5, 6, 7, 8, 9] | 12 => [0, 3, 4, 5, 6, 7, 8, 9, 11] | 13 => [0, 3, 4, 5, 6, 7, 8, 9, 11, 12] | 14 => [0, 3, 4, 5, 6, 7, 8, 9, 11, 12, 38] | 15 => [0, 3, 4, 5, 6, 7, 8, 9, 11, 12, 14] | 16 => [0, 3, 4, 5, 6, 7, 8, 9, 10, 11, 12, 14] | 17 => [0, 3, 4, 5, 6, 7, 8, 9, 10, 11, 12, 14, 46] | 18 => [0, 3, 4, 5, 6, 7, 8, 9, 10, 11, 12, 14] | 19 => [0, 3, 4, 5, 6, 7, 8, 9, 10, 11, 12, 59] | 20 => [2] | 21 => [0, 3, 4, 5, 6, 9, 10, 11, 12, 80] | 22 => [2] | 23 => [0, 3, 4, 5, 6, 9, 10, 11, 12] | 24 => [0, 3, 4, 5, 6, 7, 8, 9, 10, 11, 12] | 25 => [0, 3, 4, 5, 6, 7, 8, 9, 11, 12, 38, 83] | 26 => [0, 3, 4, 5, 6, 7, 8, 9, 10, 11, 12] | 27 => [0, 3, 4, 6, 7, 8, 9, 10, 11, 12] | 28 => [0, 3, 4, 5, 6, 7, 8, 9, 10, 11, 12] | 29 => [0, 3, 4, 5, 6, 7, 8, 9, 10, 11, 12, 100] | 30 => [0, 3, 4, 5, 6, 7, 8, 9, 10, 11, 12] | 31 => [0, 3, 4, 5, 6, 7, 8, 9, 10, 11, 12, 101] | 32 => [0, 3, 4, 5, 6, 7, 8, 9, 10, 11, 12] | 33 => [0, 3, 4, 5, 6, 7, 8, 9, 10, 11, 12, 108] | 34 => [0, 3, 4, 5, 6, 7, 8, 9, 10, 11, 12] | 35 => [0, 3, 4, 5, 6, 7, 8, 9, 11, 12, 38, 110] | 36 => [0, 3, 4, 5, 6, 7, 8, 9, 10, 11, 12] | 37 => [0, 3, 4, 5, 6, 7, 8, 9, 10, 11, 12, 117] | 38 => [0, 3, 4, 5, 6, 7, 8, 9, 10, 11, 12] | 39 => [0, 3, 4, 5, 6, 7, 8, 9, 10, 11, 12] | 40 => [0, 3, 4, 5, 6, 7, 8, 9, 11, 12, 118] | 41 => [0, 3, 4, 5, 6, 7, 8, 9, 11, 12, 13] | 42 => [0, 3, 4, 5, 6, 7, 8, 9, 10, 11, 12, 13] | 43 => [0, 3, 4, 5, 6, 7, 8, 9, 10, 11, 12, 13] | 44 => [0, 3, 4, 5, 6, 7, 8, 9, 10, 11, 12] | 45 => [0, 3, 4, 5, 6, 7, 8, 9, 10, 11, 12, 13, 148] | 46 => [0, 3, 4, 5, 6, 7, 8, 9, 10, 11, 12] | 47 => [0, 3, 4, 5, 6, 7, 8, 9, 10, 11, 12, 13, 172] | 48 => [0, 3, 4, 5, 6, 7, 8, 9, 10, 11, 12] | 49 => [0, 3, 4, 5, 6, 7, 8, 9, 10, 11, 177] | 50 => [2] | 51 => [0, 3, 4, 5, 6, 7, 8, 9, 11, 179] | 52 => [0, 3, 4, 5, 6, 7, 8, 9, 191] | 53 => [2] | 54 => [0, 3, 4, 5, 6, 7, 8, 9] | 55 => [0, 3, 4, 5, 6, 7, 8, 9, 230] | 56 => [2] | 57 => [2] | _ => [], fun n => match n with | 7 => [(0, .keep), (3, .keep), (4, .keep), (5, .keep), (6, .keep), (7, .keep), (8, .keep), (9, .keep)] | _ => []⟩
def h6 : Hints := ⟨fun n => match n with | 0 => [0, 1, 5] | 1 => [0, 1, 5, 22] | 2 => [6] | 3 => [0, 1, 7, 8] | 4 => [0, 1, 7, 8, 9, 10] | 5 => [0, 1, 7, 8, 9, 42] | 6 => [6] | 7 => [1, 7, 8, 9, 10] | 8 => [1, 7, 8, 9, 10, 11, 12] | 9 => [8, 9, 10, 11, 12, 13, 14] | 10 => [8, 9, 11, 13, 77] | 11 => [6] | 12 => [6] | _ => [], fun n => match n with | _ => []⟩
def h7 : Hints := ⟨fun n => match n with | 0 => [2, 3] | 1 => [2, 3, 24] | 2 => [4] | 3 => [2, 46] | 4 => [4] | 5 => [2, 5] | 6 => [2, 5, 56] | 7 => [2, 5] | 8 => [2, 5] | 9 => [2, 5, 6] | 10 => [2, 5, 6, 95] | 11 => [2, 5, 6] | 12 => [2, 5, 6, 7] | 13 => [2, 5, 6, 144] | 14 => [2, 5, 6] | 15 => [2, 146] | 16 => [2, 9] | 17 => [2, 9, 11] | 18 => [2, 9, 11, 13] | 19 => [2, 9, 11, 13, 16] | 20 => [4] | 21 => [2, 19] | 22 => [2, 19, 20] | 23 => [2, 19, 20, 198] | 24 => [2, 19, 20] | 25 => [2, 19, 20, 201] | 26 => [2, 19, 20] | 27 => [4] | _ => [], fun n => match n with | 10 => [(2, .keep), (5, .keep), (6, .keep)] | _ => []⟩
def h8 : Hints := ⟨fun n => match n with | 0 => [0, 3] | 1 => [3, 5] | 2 => [3, 5, 6] | 3 => [3, 5, 6, 7] | 4 => [3, 5, 6, 7, 21] | 5 => [3, 5, 6, 7] | 6 => [3, 5, 6, 7] | 7 => [3, 5, 6, 8, 9] | 8 => [3, 5, 6, 8, 37] | 9 => [4] | 10 => [3, 5, 6, 8, 9, 10] | 11 => [3, 5, 6, 8, 9, 10, 11] | 12 => [3, 5, 6, 8, 9, 10, 11, 45] | 13 => [3, 5, 6, 8, 9, 10, 11] | 14 => [3, 6, 8, 59] | 15 => [4] | 16 => [3, 9] | 17 => [9, 12] | 18 => [4] | _ => [], fun n => match n with | 4 => [(3, .keep), (5, .keep), (6, .keep), (7, .keep)] | _ => []⟩
def h15 : Hints := ⟨fun n => match n with | 0 => [] | 1 => [1] | 2 => [1, 2] | 3 => [1, 60] | 4 => [0] | 5 => [1, 3, 4] | 6 => [1, 3, 4, 6] | 7 => [1, 3, 91] | 8 => [0] | 9 => [1, 3, 4] | 10 => [1, 4, 6, 7, 8] | 11 => [1, 4, 6, 7, 8, 10, 11] | 12 => [1, 4, 6, 8, 10, 11, 13] | 13 => [1, 4, 6, 8, 10, 11, 13, 15] | 14 => [0] | _ => [], fun n => match n with | _ => []⟩
def h16 : Hints := ⟨fun n => match n with | 0 => [0] | 1 => [0, 3] | 2 => [0, 3, 4] | 3 => [0, 3, 4, 9] | 4 => [0, 3, 4] | 5 => [0, 3, 4, 5] | 6 => [0, 3, 4] | 7 => [2, 3] | _ => [], fun n => match n with | 3 => [(0, .keep), (3, .nilTo 33), (4, .keep)] | _ => []⟩
def h17 : Hints := ⟨fun n => match n with | 0 => [0] | 1 => [0, 3] | 2 => [0, 3, 10, 11, 12] | 3 => [0, 3, 10, 11, 12, 13] | 4 => [0, 3, 5, 10, 11, 12] | 5 => [0, 3, 5, 6, 10, 11, 12] | 6 => [0, 3, 5, 6, 10, 11, 12, 28] | 7 => [0, 3, 10, 11, 12] | 8 => [0, 3, 10, 11, 12] | 9 => [0, 3, 10, 11, 12] | 10 => [2] | _ => [], fun n => match n with | 3 => [(0, .keep), (3, .keep), (10, .keep), (11, .keep), (12, .keep)] | _ => []⟩
def h18 : Hints := ⟨fun n => match n with | 0 => [0] | 1 => [3] | 2 => [3, 4] | 3 => [3, 4, 12] | 4 => [3, 4, 23] | 5 => [3, 4] | 6 => [3] | 7 => [3, 4] | 8 => [2] | _ => [], fun n => match n with | 3 => [(3, .forget), (4, .keep)] | _ => []⟩
def h19 : Hints := ⟨fun n => match n with | 0 => [0, 1] | 1 => [0, 1, 17] | 2 => [4] | 3 => [0, 1, 5] | 4 => [0, 1, 5, 21] | 5 => [0, 1, 5] | 6 => [0, 1, 5, 32] | 7 => [4] | 8 => [4] | _ => [], fun n => match n with | 4 => [(0, .keep), (1, .keep), (5, .keep)] | _ => []⟩
def h20 : Hints := ⟨fun n => match n with | 0 => [0] | 1 => [3] | 2 => [3, 4] | 3 => [3, 4, 12] | 4 => [3, 4, 23] | 5 => [3, 4] | 6 => [3] | 7 => [3, 4] | 8 => [2, 3] | _ => [], fun n => match n with | 3 => [(3, .forget), (4, .keep)] | _ => []⟩
def h21 : Hints := ⟨fun n => match n with | 0 => [2, 3] | 1 => [33] | 2 => [4] | 3 => [4] | _ => [], fun n => match n with | _ => []⟩
def h22 : Hints := ⟨fun n => match n with | 0 => [0] | 1 => [3] | 2 => [3] | 3 => [3, 10, 11] | 4 => [3, 10, 11, 12] | 5 => [3, 4, 10, 11] | 6 => [3, 10, 11] | 7 => [3, 10, 11] | 8 => [2, 3] | _ => [], fun n => match n with | 4 => [(3, .keep), (10, .keep), (11, .keep)] | _ => []⟩
def h23 : Hints := ⟨fun n => match n with | 0 => [1, 2, 4] | 1 => [1, 2, 4, 6] | 2 => [1, 2, 4, 6, 11] | 3 => [4, 5] | 4 => [1, 2, 4, 16] | 5 => [4, 5] | 6 => [1, 2, 4, 19] | 7 => [4, 5] | 8 => [1, 2, 4, 7] | 9 => [2, 4, 7, 22] | 10 => [2, 4, 7] | 11 => [4, 5] | _ => [], fun n => match n with | _ => []⟩
def h24 : Hints := ⟨fun n => match n with | 0 => [1, 2] | 1 => [1, 2, 4] | 2 => [1, 2, 4, 8] | 3 => [2, 3] | 4 => [1, 2, 13] | 5 => [2, 3] | 6 => [2, 3] | _ => [], fun n => match n with | _ => []⟩
def h25 : Hints := ⟨fun n => match n with | 0 => [1, 2, 3, 6] | 1 => [1, 2, 3, 6, 8] | 2 => [1, 2, 3, 6, 8, 13] | 3 => [6, 7] | 4 => [1, 2, 3, 6, 23] | 5 => [6, 7] | 6 => [1, 2, 3, 6, 27] | 7 => [6, 7] | 8 => [1, 3, 6, 9] | 9 => [1, 3, 6, 9, 37] | 10 => [6, 7] | 11 => [6, 7] | _ => [], fun n => match n with | _ => []⟩
def h26 : Hints := ⟨fun n => match n with | 0 => [1, 2, 3] | 1 => [1, 2, 3, 5] | 2 => [1, 2, 3, 5, 10] | 3 => [2, 3, 4] | 4 => [1, 2, 3, 16] | 5 => [2, 3, 4] | 6 => [1, 2, 3, 21] | 7 => [2, 3, 4] | 8 => [1, 2, 3, 6] | 9 => [2, 3, 4] | _ => [], fun n => match n with | _ => []⟩
def h27 : Hints := ⟨fun n => match n with | 0 => [1] | 1 => [1, 10] | 2 => [2] | 3 => [27] | 4 => [2] | 5 => [2] | _ => [], fun n => match n with | _ => []⟩
def h28 : Hints := ⟨fun n => match n with | 0 => [1] | 1 => [2] | _ => [], fun n => match n with | _ => []⟩
def h43 : Hints := ⟨fun n => match n with | 0 => [2, 3] | 1 => [4] | _ => [], fun n => match n with | _ => []⟩
def h44 : Hints := ⟨fun n => match n with | 0 => [0, 3] | 1 => [0, 3, 6] | 2 => [2, 3] | 3 => [0, 3] | 4 => [3] | 5 => [2, 3] | _ => [], fun n => match n with | _ => []⟩
def h45 : Hints := ⟨fun n => match n with | 0 => [0, 2, 3] | 1 => [0, 2, 3, 9] | 2 => [0, 2, 3] | 3 => [0, 2, 3] | _ => [], fun n => match n with | 1 => [(0, .keep), (2, .keep), (3, .keep)] | _ => []⟩
def h46 : Hints := ⟨fun n => match n with | 0 => [1, 2] | 1 => [1, 2, 5] | 2 => [1, 2] | 3 => [1, 2] | 4 => [2] | _ => [], fun n => match n with | _ => []⟩
def h47 : Hints := ⟨fun n => match n with | 0 => [0] | 1 => [2] | _ => [], fun n => match n with | _ => []⟩
def h48 : Hints := ⟨fun n => match n with | 0 => [0] | 1 => [2] | _ => [], fun n => match n with | _ => []⟩
def h49 : Hints := ⟨fun n => match n with | 0 => [0] | 1 => [5, 6, 7] | 2 => [5, 6, 7, 8] | 3 => [4, 5, 6, 7] | 4 => [5, 6, 7, 20] | 5 => [2] | 6 => [5, 6, 7] | 7 => [2] | _ => [], fun n => match n with | 2 => [(5, .keep), (6, .keep), (7, .keep)] | _ => []⟩
def h50 : Hints := ⟨fun n => match n with | 0 => [0] | 1 => [0, 3] | 2 => [0, 3, 9, 10, 11] | 3 => [0, 3, 9, 10, 11, 12] | 4 => [0, 3, 5, 9, 10, 11] | 5 => [0, 3, 9, 10, 11] | 6 => [0, 3, 9, 10, 11, 20] | 7 => [0, 3, 9, 10, 11] | 8 => [0, 3, 9, 10, 11] | 9 => [0, 6] | 10 => [6, 25, 26, 27] | 11 => [6, 25, 26, 27, 28] | 12 => [6, 8, 25, 26, 27] | 13 => [6, 25, 26, 27] | 14 => [6, 25, 26, 27] | 15 => [2, 6] | _ => [], fun n => match n with | 3 => [(0, .keep), (3, .keep), (9, .keep), (10, .keep), (11, .keep)] | 11 => [(6, .forget), (25, .keep), (26, .keep), (27, .keep)] | _ => []⟩
def h51 : Hints := ⟨fun n => match n with | 0 => [1] | 1 => [2] | _ => [], fun n => match n with | _ => []⟩
def h52 : Hints := ⟨fun n => match n with | 0 => [1] | 1 => [2] | _ => [], fun n => match n with | _ => []⟩
def h66 : Hints := ⟨fun n => match n with | 0 => [0, 1, 22] | 1 => [0, 1, 6, 22] | 2 => [0, 1, 22] | 3 => [0, 1, 22] | 4 => [0, 1, 16, 22] | 5 => [0, 22] | 6 => [0, 4, 22] | _ => [], fun n => match n with | _ => []⟩
def h67 : Hints := ⟨fun n => match n with | 0 => [0] | 1 => [0, 3] | 2 => [0, 3, 7] | 3 => [0, 3] | 4 => [0, 3, 19] | 5 => [2] | 6 => [2] | _ => [], fun n => match n with | 2 => [(0, .keep), (3, .keep)] | _ => []⟩
theorem run_sizeOf_30 (w : World) : (Go.sizeOf 30).run Try.prog w = .ok 2 w := by
  have h : (Try.prog.info? 30).map (·.size) = some 2 := by kernel_rfl
  cases hq : Try.prog.info? 30 with
  | none => rw [hq] at h; cases h
  | some i => rw [hq] at h; simp at h; simp [Go.sizeOf, typeInfo, hq, h]
theorem run_sizeOf_33 (w : World) : (Go.sizeOf 33).run Try.prog w = .ok 4 w := by
  have h : (Try.prog.info? 33).map (·.size) = some 4 := by kernel_rfl
  cases hq : Try.prog.info? 33 with
  | none => rw [hq] at h; cases h
  | some i => rw [hq] at h; simp at h; simp [Go.sizeOf, typeInfo, hq, h]
theorem held30 : Try.prog.stoodInHeld 30 = false := by kernel_rfl
theorem eqIn30 (k : Nat) (w : World) (x0 : Int) (x1 : Int) (y0 : Int) (y1 : Int) : (Op.equalIn (k + 2) 30 (.agg #[.int .u8 x0, .int .i64 x1]) (.agg #[.int .u8 y0, .int .i64 y1])).run Try.prog w = .ok ((x0 == y0) && (x1 == y1)) w := by
  have p0 : ∀ (a0 : Int) (a1 : Int) (w : World), (part 5 #[.int .u8 a0, .int .i64 a1] 0).run Try.prog w = .ok (.int .u8 a0) w := by
    intros; simp [part, isAgg, run_underlying Try.underlying5]
  have p1 : ∀ (a0 : Int) (a1 : Int) (w : World), (part 3 #[.int .u8 a0, .int .i64 a1] 1).run Try.prog w = .ok (.int .i64 a1) w := by
    intros; simp [part, isAgg, run_underlying Try.underlying3]
  rw [run_equalIn_agg w (k + 1) 30 _ _ (by kernel_rfl) held30]
  have hf : (Try.prog.fieldsOf 30).toList = [{ name := "Yarn", type := 5, offset := 0, embedded := false, tag := "", pkgPath := "", byteOffset := 0 }, { name := "N", type := 3, offset := 1, embedded := false, tag := "", pkgPath := "", byteOffset := 8 }] := by simp [Program.fieldsOf, Try.underlying30]
  rw [hf]
  simp only [Op.eqFields]
  rw [if_pos (by decide), if_pos (by decide)]
  have q0 := fun (w : World) => run_equalIn_int w (k + 0) 5 .u8 .u8 x0 y0 Try.underlying5
  have q1 := fun (w : World) => run_equalIn_int w (k + 0) 3 .i64 .i64 x1 y1 Try.underlying3
  generalize h0 : (x0 == y0) = b0 at *
  generalize h1 : (x1 == y1) = b1 at *
  simp only [Sem.run_bind, Result.andThen_ok, p0, q0, p1, q1]
  cases b0 <;> cases b1 <;> simp [p0, q0, p1, q1]
theorem held33 : Try.prog.stoodInHeld 33 = false := by kernel_rfl
theorem eqIn33 (k : Nat) (w : World) (x0 : Int) (x1 : Int) (x2 : Bool) (x3 : Int) (y0 : Int) (y1 : Int) (y2 : Bool) (y3 : Int) : (Op.equalIn (k + 3) 33 (.agg #[.int .u8 x0, .int .i64 x1, .bool x2, .int .u8 x3]) (.agg #[.int .u8 y0, .int .i64 y1, .bool y2, .int .u8 y3])).run Try.prog w = .ok (((x0 == y0) && (x1 == y1)) && (x2 == y2) && (x3 == y3)) w := by
  have p0 : ∀ (a0 : Int) (a1 : Int) (a2 : Bool) (a3 : Int) (w : World), (part 30 #[.int .u8 a0, .int .i64 a1, .bool a2, .int .u8 a3] 0).run Try.prog w = .ok (.agg #[.int .u8 a0, .int .i64 a1]) w := by
    intros; simp [part, isAgg, run_underlying Try.underlying30, run_sizeOf_30]
  have p1 : ∀ (a0 : Int) (a1 : Int) (a2 : Bool) (a3 : Int) (w : World), (part 4 #[.int .u8 a0, .int .i64 a1, .bool a2, .int .u8 a3] 2).run Try.prog w = .ok (.bool a2) w := by
    intros; simp [part, isAgg, run_underlying Try.underlying4]
  have p2 : ∀ (a0 : Int) (a1 : Int) (a2 : Bool) (a3 : Int) (w : World), (part 31 #[.int .u8 a0, .int .i64 a1, .bool a2, .int .u8 a3] 3).run Try.prog w = .ok (.int .u8 a3) w := by
    intros; simp [part, isAgg, run_underlying Try.underlying31]
  rw [run_equalIn_agg w (k + 2) 33 _ _ (by kernel_rfl) held33]
  have hf : (Try.prog.fieldsOf 33).toList = [{ name := "Id", type := 30, offset := 0, embedded := false, tag := "", pkgPath := "", byteOffset := 0 }, { name := "Front", type := 4, offset := 2, embedded := false, tag := "", pkgPath := "", byteOffset := 16 }, { name := "Dir", type := 31, offset := 3, embedded := false, tag := "", pkgPath := "", byteOffset := 17 }] := by simp [Program.fieldsOf, Try.underlying33]
  rw [hf]
  simp only [Op.eqFields]
  rw [if_pos (by decide), if_pos (by decide), if_pos (by decide)]
  have q0 := fun (w : World) => eqIn30 (k + 0) w x0 x1 y0 y1
  have q1 := fun (w : World) => run_equalIn_bool' w (k + 1) 4 x2 y2 Try.underlying4
  have q2 := fun (w : World) => run_equalIn_int w (k + 1) 31 .u8 .u8 x3 y3 Try.underlying31
  generalize h0 : ((x0 == y0) && (x1 == y1)) = b0 at *
  generalize h1 : (x2 == y2) = b1 at *
  generalize h2 : (x3 == y3) = b2 at *
  simp only [Sem.run_bind, Result.andThen_ok, p0, q0, p1, q1, p2, q2]
  cases b0 <;> cases b1 <;> cases b2 <;> simp [p0, q0, p1, q1, p2, q2]
theorem guard30 : Try.prog.eqGuardType Try.prog.depth 30 = false := by kernel_rfl
theorem guard33 : Try.prog.eqGuardType Try.prog.depth 33 = false := by kernel_rfl
def eqP : TypeId → List Value → List Value → Option Bool
  | 30, [.int .u8 x0, .int .i64 x1], [.int .u8 y0, .int .i64 y1] => some ((x0 == y0) && (x1 == y1))
  | 33, [.int .u8 x0, .int .i64 x1, .bool x2, .int .u8 x3], [.int .u8 y0, .int .i64 y1, .bool y2, .int .u8 y3] => some (((x0 == y0) && (x1 == y1)) && (x2 == y2) && (x3 == y3))
  | _, _, _ => none

theorem eqOk (t : TypeId) (us vs : List Value) (r : Bool) (h : eqP t us vs = some r) (w : World) (x y : Operand) :
    (do eqGuard .eql t x y (.agg us.toArray) (.agg vs.toArray); binOp .eql t (.agg us.toArray) (.agg vs.toArray) : Sem Value).run Try.prog w = .ok (.bool r) w ∧
    (do eqGuard .neq t x y (.agg us.toArray) (.agg vs.toArray); binOp .neq t (.agg us.toArray) (.agg vs.toArray) : Sem Value).run Try.prog w = .ok (.bool (!r)) w := by
  unfold eqP at h
  split at h
  · injection h with h; subst h
    constructor
    · rw [Sem.run_bind, run_eqGuard_agg w _ _ _ _ _ _ guard30, Result.andThen_ok, run_eql_struct, eqIn30 9998]; rfl
    · rw [Sem.run_bind, run_eqGuard_agg w _ _ _ _ _ _ guard30, Result.andThen_ok, run_neq_struct, eqIn30 9998]; rfl
  · injection h with h; subst h
    constructor
    · rw [Sem.run_bind, run_eqGuard_agg w _ _ _ _ _ _ guard33, Result.andThen_ok, run_eql_struct, eqIn33 9997]; rfl
    · rw [Sem.run_bind, run_eqGuard_agg w _ _ _ _ _ _ guard33, Result.andThen_ok, run_neq_struct, eqIn33 9997]; rfl
  · cases h
noncomputable def fnsT : FuncId → Option (Func × Hints) := fun f => match f with
  | 3 => some (Try.f3, h3)
  | 4 => some (Try.f4, h4)
  | 5 => some (Try.f5, h5)
  | 6 => some (Try.f6, h6)
  | 7 => some (Try.f7, h7)
  | 8 => some (Try.f8, h8)
  | 15 => some (Try.f15, h15)
  | 16 => some (Try.f16, h16)
  | 17 => some (Try.f17, h17)
  | 18 => some (Try.f18, h18)
  | 19 => some (Try.f19, h19)
  | 20 => some (Try.f20, h20)
  | 21 => some (Try.f21, h21)
  | 22 => some (Try.f22, h22)
  | 23 => some (Try.f23, h23)
  | 24 => some (Try.f24, h24)
  | 25 => some (Try.f25, h25)
  | 26 => some (Try.f26, h26)
  | 27 => some (Try.f27, h27)
  | 28 => some (Try.f28, h28)
  | 43 => some (Try.f43, h43)
  | 44 => some (Try.f44, h44)
  | 46 => some (Try.f46, h46)
  | 47 => some (Try.f47, h47)
  | 48 => some (Try.f48, h48)
  | 49 => some (Try.f49, h49)
  | 50 => some (Try.f50, h50)
  | 51 => some (Try.f51, h51)
  | 52 => some (Try.f52, h52)
  | 66 => some (Try.f66, h66)
  | 67 => some (Try.f67, h67)
  | _ => none
theorem fnsT_ok (f : FuncId) (fn : Func) (H : Hints) (h : fnsT f = some (fn, H)) : Try.prog.funcs[f]? = some fn := by
  unfold fnsT at h
  split at h
  · injection h with h; injection h with h1 h2; subst h1; exact Try.func3
  · injection h with h; injection h with h1 h2; subst h1; exact Try.func4
  · injection h with h; injection h with h1 h2; subst h1; exact Try.func5
  · injection h with h; injection h with h1 h2; subst h1; exact Try.func6
  · injection h with h; injection h with h1 h2; subst h1; exact Try.func7
  · injection h with h; injection h with h1 h2; subst h1; exact Try.func8
  · injection h with h; injection h with h1 h2; subst h1; exact Try.func15
  · injection h with h; injection h with h1 h2; subst h1; exact Try.func16
  · injection h with h; injection h with h1 h2; subst h1; exact Try.func17
  · injection h with h; injection h with h1 h2; subst h1; exact Try.func18
  · injection h with h; injection h with h1 h2; subst h1; exact Try.func19
  · injection h with h; injection h with h1 h2; subst h1; exact Try.func20
  · injection h with h; injection h with h1 h2; subst h1; exact Try.func21
  · injection h with h; injection h with h1 h2; subst h1; exact Try.func22
  · injection h with h; injection h with h1 h2; subst h1; exact Try.func23
  · injection h with h; injection h with h1 h2; subst h1; exact Try.func24
  · injection h with h; injection h with h1 h2; subst h1; exact Try.func25
  · injection h with h; injection h with h1 h2; subst h1; exact Try.func26
  · injection h with h; injection h with h1 h2; subst h1; exact Try.func27
  · injection h with h; injection h with h1 h2; subst h1; exact Try.func28
  · injection h with h; injection h with h1 h2; subst h1; exact Try.func43
  · injection h with h; injection h with h1 h2; subst h1; exact Try.func44
  · injection h with h; injection h with h1 h2; subst h1; exact Try.func46
  · injection h with h; injection h with h1 h2; subst h1; exact Try.func47
  · injection h with h; injection h with h1 h2; subst h1; exact Try.func48
  · injection h with h; injection h with h1 h2; subst h1; exact Try.func49
  · injection h with h; injection h with h1 h2; subst h1; exact Try.func50
  · injection h with h; injection h with h1 h2; subst h1; exact Try.func51
  · injection h with h; injection h with h1 h2; subst h1; exact Try.func52
  · injection h with h; injection h with h1 h2; subst h1; exact Try.func66
  · injection h with h; injection h with h1 h2; subst h1; exact Try.func67
  · cases h

noncomputable def mutsT : FuncId → Option (Func × Hints) := fun f => match f with
  | 45 => some (Try.f45, h45)
  | _ => none
theorem mutsT_ok (f : FuncId) (fn : Func) (H : Hints) (h : mutsT f = some (fn, H)) : Try.prog.funcs[f]? = some fn := by
  unfold mutsT at h
  split at h
  · injection h with h; injection h with h1 h2; subst h1; exact Try.func45
  · cases h

noncomputable def tabOf (fuel : Nat) (K : FuncId → List AV → Option AV) (KM : FuncId → AV → Option AV) : Tab := ⟨T, eqP, K, KM, fnsT, mutsT, fuel⟩
theorem tabOk {fuel : Nat} {K : FuncId → List AV → Option AV} {KM : FuncId → AV → Option AV} (hK : ∀ f xs r, K f xs = some r → PureC Try.prog f xs r) (hM : ∀ f x r, KM f x = some r → x ≠ .bad → MutC Try.prog f x r) : TabOk Try.prog (tabOf fuel K KM) :=
  ⟨tyOk, eqOk, hK, hM, by kernel_rfl, fnsT_ok, mutsT_ok⟩
def mutsB : FuncId → Bool := fun f => [45].contains f
def cxN (n lo : Nat) : Cx := cxA T eqP mutsB n lo
theorem base (n lo : Nat) : CxBase Try.prog (cxN n lo) := ⟨tyOk, eqOk, by kernel_rfl⟩
noncomputable def tab0 : Tab := tabOf 12 (fun _ _ => none) (fun _ _ => none)
theorem tab0_ok : TabOk Try.prog tab0 := tabOk (fun _ _ _ h => by cases h) (fun _ _ _ h => by cases h)

end Tst
end

section
open Go Go.Lf Go.Proofs
namespace Tst
structure Ps where
  y : Int
  n : Int
  f : Bool
  d : Int
  deriving Inhabited, DecidableEq
def Ps.enc (p : Ps) : AV := .agg [.atom (.int .u8 p.y), .atom (.int .i64 p.n), .atom (.bool p.f), .atom (.int .u8 p.d)]
abbrev sl (cap : Option Nat) (l : List Ps) : AV := .sl .any 33 cap (l.map Ps.enc)
abbrev ow (cap : Option Nat) (l : List Ps) : AV := .sl .own 33 cap (l.map Ps.enc)
abbrev it (i : Int) : AV := .atom (.int .i64 i)
def turnP (p : Ps) : Ps := { p with d := if p.d == 1 then 0 else 1 }
def can (p q : Ps) : Bool := turnP p == q && turnP q == p
def lcan (p q : Ps) : Bool := p.y == q.y && p.n == q.n && p.f == q.f && decide (p.d ≤ 1) && decide (q.d ≤ 1) && p.d != q.d
end Tst
namespace Tst
def u8 (x : Int) : AV := .atom (.int .u8 x)
abbrev pl (cap : Option Nat) (a : List Int) : AV := .sl .any 89 cap (a.map u8)
theorem view_ps (m : Lf.Mode) (c : Option Nat) (l : List Ps) : view (.sl m 33 c (l.map Ps.enc)) = .sl .any 33 c (l.map Ps.enc) := by
  show AV.sl .any 33 c ((l.map Ps.enc).map _) = _
  rw [List.map_map]; rfl
theorem view_u8 (m : Lf.Mode) (c : Option Nat) (l : List Int) : view (.sl m 89 c (l.map u8)) = .sl .any 89 c (l.map u8) := by
  show AV.sl .any 89 c ((l.map u8).map _) = _
  rw [List.map_map]; rfl
end Tst
end

section
open Go Go.Lf Go.Proofs
namespace Tst
theorem turned_0 (p : Ps) (g0 : (Ps.d p == (1 : Int)) = true) : PureC Try.prog 46 [p.enc]  (AV.agg [AV.atom (Value.int IntKind.u8 (Ps.y p)), AV.atom (Value.int IntKind.i64 (Ps.n p)), AV.atom (Value.bool (Ps.f p)), AV.atom (Value.int IntKind.u8 (0 : Int))]) :=
  funA_ok (H := h46) (n := 9) (ans := [Ans.c, Ans.c, Ans.c, Ans.c, Ans.c, Ans.b true, Ans.c, Ans.c, Ans.c, Ans.c]) (ps := [(Ps.d p == (1 : Int)) = true]) (base 9 0) Try.func46 rfl (by simp) rfl (by kernel_rfl)  (allp g0 allp_nil)
theorem turned_1 (p : Ps) (g0 : (Ps.d p == (1 : Int)) = false) : PureC Try.prog 46 [p.enc]  (AV.agg [AV.atom (Value.int IntKind.u8 (Ps.y p)), AV.atom (Value.int IntKind.i64 (Ps.n p)), AV.atom (Value.bool (Ps.f p)), AV.atom (Value.int IntKind.u8 (1 : Int))]) :=
  funA_ok (H := h46) (n := 9) (ans := [Ans.c, Ans.c, Ans.c, Ans.c, Ans.c, Ans.b false, Ans.c, Ans.c, Ans.c, Ans.c]) (ps := [(Ps.d p == (1 : Int)) = false]) (base 9 0) Try.func46 rfl (by simp) rfl (by kernel_rfl)  (allp g0 allp_nil)


theorem named_0 (y n : Int) (g0 : decide ((1 : Int) ≤ y) = true) (g1 : decide (y ≤ (6 : Int)) = true) (g2 : decide ((0 : Int) ≤ n) = true) : PureC Try.prog 28 [.agg [.atom (.int .u8 y), .atom (.int .i64 n)]]  (AV.atom (Value.bool (decide (n < (2048 : Int))))) :=
  funA_ok (H := h28) (n := 21) (ans := [Ans.c, Ans.c, Ans.c, Ans.c, Ans.c, Ans.c, Ans.b true, Ans.c, Ans.b true, Ans.c, Ans.b true, Ans.c, Ans.b true, Ans.c, Ans.c, Ans.b true, Ans.c, Ans.b true, Ans.c, Ans.b true, Ans.c, Ans.b true, Ans.c, Ans.c, Ans.b true, Ans.c, Ans.b true, Ans.c, Ans.b true, Ans.c, Ans.b true, Ans.c, Ans.c]) (ps := [decide ((1 : Int) ≤ y) = true, decide ((1 : Int) ≤ y) = true, decide ((1 : Int) ≤ y) = true, decide ((1 : Int) ≤ y) = true, decide (y ≤ (6 : Int)) = true, decide (y ≤ (6 : Int)) = true, decide (y ≤ (6 : Int)) = true, decide (y ≤ (6 : Int)) = true, decide ((0 : Int) ≤ n) = true, decide ((0 : Int) ≤ n) = true, decide ((0 : Int) ≤ n) = true, decide ((0 : Int) ≤ n) = true]) (base 21 0) Try.func28 rfl (by simp) rfl (by kernel_rfl)  (allp g0 (allp g0 (allp g0 (allp g0 (allp g1 (allp g1 (allp g1 (allp g1 (allp g2 (allp g2 (allp g2 (allp g2 allp_nil))))))))))))
theorem named_1 (y n : Int) (g0 : decide ((1 : Int) ≤ y) = true) (g1 : decide (y ≤ (6 : Int)) = true) (g2 : decide ((0 : Int) ≤ n) = false) : PureC Try.prog 28 [.agg [.atom (.int .u8 y), .atom (.int .i64 n)]]  (AV.atom (Value.bool false)) :=
  funA_ok (H := h28) (n := 21) (ans := [Ans.c, Ans.c, Ans.c, Ans.c, Ans.c, Ans.c, Ans.b true, Ans.c, Ans.b true, Ans.c, Ans.b true, Ans.c, Ans.b true, Ans.c, Ans.c, Ans.b true, Ans.c, Ans.b true, Ans.c, Ans.b true, Ans.c, Ans.b true, Ans.c, Ans.c, Ans.b false, Ans.c, Ans.b false, Ans.c, Ans.b false, Ans.c, Ans.b false, Ans.c, Ans.c]) (ps := [decide ((1 : Int) ≤ y) = true, decide ((1 : Int) ≤ y) = true, decide ((1 : Int) ≤ y) = true, decide ((1 : Int) ≤ y) = true, decide (y ≤ (6 : Int)) = true, decide (y ≤ (6 : Int)) = true, decide (y ≤ (6 : Int)) = true, decide (y ≤ (6 : Int)) = true, decide ((0 : Int) ≤ n) = false, decide ((0 : Int) ≤ n) = false, decide ((0 : Int) ≤ n) = false, decide ((0 : Int) ≤ n) = false]) (base 21 0) Try.func28 rfl (by simp) rfl (by kernel_rfl)  (allp g0 (allp g0 (allp g0 (allp g0 (allp g1 (allp g1 (allp g1 (allp g1 (allp g2 (allp g2 (allp g2 (allp g2 allp_nil))))))))))))
theorem named_2 (y n : Int) (g0 : decide ((1 : Int) ≤ y) = true) (g1 : decide (y ≤ (6 : Int)) = false) : PureC Try.prog 28 [.agg [.atom (.int .u8 y), .atom (.int .i64 n)]]  (AV.atom (Value.bool false)) :=
  funA_ok (H := h28) (n := 21) (ans := [Ans.c, Ans.c, Ans.c, Ans.c, Ans.c, Ans.c, Ans.b true, Ans.c, Ans.b true, Ans.c, Ans.b true, Ans.c, Ans.b true, Ans.c, Ans.c, Ans.b false, Ans.c, Ans.b false, Ans.c, Ans.b false, Ans.c, Ans.b false, Ans.c, Ans.c, Ans.c, Ans.c, Ans.c, Ans.c, Ans.c, Ans.c, Ans.c, Ans.c, Ans.c]) (ps := [decide ((1 : Int) ≤ y) = true, decide ((1 : Int) ≤ y) = true, decide ((1 : Int) ≤ y) = true, decide ((1 : Int) ≤ y) = true, decide (y ≤ (6 : Int)) = false, decide (y ≤ (6 : Int)) = false, decide (y ≤ (6 : Int)) = false, decide (y ≤ (6 : Int)) = false]) (base 21 0) Try.func28 rfl (by simp) rfl (by kernel_rfl)  (allp g0 (allp g0 (allp g0 (allp g0 (allp g1 (allp g1 (allp g1 (allp g1 allp_nil))))))))
theorem named_3 (y n : Int) (g0 : decide ((1 : Int) ≤ y) = false) : PureC Try.prog 28 [.agg [.atom (.int .u8 y), .atom (.int .i64 n)]]  (AV.atom (Value.bool false)) :=
  funA_ok (H := h28) (n := 21) (ans := [Ans.c, Ans.c, Ans.c, Ans.c, Ans.c, Ans.c, Ans.b false, Ans.c, Ans.b false, Ans.c, Ans.b false, Ans.c, Ans.b false, Ans.c, Ans.c, Ans.c, Ans.c, Ans.c, Ans.c, Ans.c, Ans.c, Ans.c, Ans.c, Ans.c, Ans.c, Ans.c, Ans.c, Ans.c, Ans.c, Ans.c, Ans.c, Ans.c, Ans.c]) (ps := [decide ((1 : Int) ≤ y) = false, decide ((1 : Int) ≤ y) = false, decide ((1 : Int) ≤ y) = false, decide ((1 : Int) ≤ y) = false]) (base 21 0) Try.func28 rfl (by simp) rfl (by kernel_rfl)  (allp g0 (allp g0 (allp g0 (allp g0 allp_nil))))


theorem dirValid_0 (d : Int) (g0 : (d == (0 : Int)) = true) : PureC Try.prog 47 [.atom (.int .u8 d)]  (AV.atom (Value.bool true)) :=
  funA_ok (H := h47) (n := 9) (ans := [Ans.c, Ans.c, Ans.c, Ans.c, Ans.b true, Ans.c, Ans.b true, Ans.c, Ans.b true, Ans.c, Ans.c]) (ps := [(d == (0 : Int)) = true, (d == (0 : Int)) = true, (d == (0 : Int)) = true]) (base 9 0) Try.func47 rfl (by simp) rfl (by kernel_rfl)  (allp g0 (allp g0 (allp g0 allp_nil)))
theorem dirValid_1 (d : Int) (g0 : (d == (0 : Int)) = false) : PureC Try.prog 47 [.atom (.int .u8 d)]  (AV.atom (Value.bool (d == (1 : Int)))) :=
  funA_ok (H := h47) (n := 9) (ans := [Ans.c, Ans.c, Ans.c, Ans.c, Ans.b false, Ans.c, Ans.b false, Ans.c, Ans.b false, Ans.c, Ans.c]) (ps := [(d == (0 : Int)) = false, (d == (0 : Int)) = false, (d == (0 : Int)) = false]) (base 9 0) Try.func47 rfl (by simp) rfl (by kernel_rfl)  (allp g0 (allp g0 (allp g0 allp_nil)))


theorem placeValid_0 (d : Int) (g0 : decide ((-13 : Int) ≤ d) = true) (g1 : decide (d ≤ (179 : Int)) = true) : PureC Try.prog 48 [.atom (.int .i64 d)]  (AV.atom (Value.bool (Int.tmod d (2 : Int) != (0 : Int)))) :=
  funA_ok (H := h48) (n := 14) (ans := [Ans.c, Ans.c, Ans.c, Ans.c, Ans.b true, Ans.c, Ans.b true, Ans.c, Ans.b true, Ans.c, Ans.c, Ans.b true, Ans.c, Ans.b true, Ans.c, Ans.b true, Ans.c, Ans.b true, Ans.c, Ans.c]) (ps := [decide ((-13 : Int) ≤ d) = true, decide ((-13 : Int) ≤ d) = true, decide ((-13 : Int) ≤ d) = true, decide (d ≤ (179 : Int)) = true, decide (d ≤ (179 : Int)) = true, decide (d ≤ (179 : Int)) = true, decide (d ≤ (179 : Int)) = true]) (base 14 0) Try.func48 rfl (by simp) rfl (by kernel_rfl)  (allp g0 (allp g0 (allp g0 (allp g1 (allp g1 (allp g1 (allp g1 allp_nil)))))))
theorem placeValid_1 (d : Int) (g0 : decide ((-13 : Int) ≤ d) = true) (g1 : decide (d ≤ (179 : Int)) = false) : PureC Try.prog 48 [.atom (.int .i64 d)]  (AV.atom (Value.bool false)) :=
  funA_ok (H := h48) (n := 14) (ans := [Ans.c, Ans.c, Ans.c, Ans.c, Ans.b true, Ans.c, Ans.b true, Ans.c, Ans.b true, Ans.c, Ans.c, Ans.b false, Ans.c, Ans.b false, Ans.c, Ans.b false, Ans.c, Ans.b false, Ans.c, Ans.c]) (ps := [decide ((-13 : Int) ≤ d) = true, decide ((-13 : Int) ≤ d) = true, decide ((-13 : Int) ≤ d) = true, decide (d ≤ (179 : Int)) = false, decide (d ≤ (179 : Int)) = false, decide (d ≤ (179 : Int)) = false, decide (d ≤ (179 : Int)) = false]) (base 14 0) Try.func48 rfl (by simp) rfl (by kernel_rfl)  (allp g0 (allp g0 (allp g0 (allp g1 (allp g1 (allp g1 (allp g1 allp_nil)))))))
theorem placeValid_2 (d : Int) (g0 : decide ((-13 : Int) ≤ d) = false) : PureC Try.prog 48 [.atom (.int .i64 d)]  (AV.atom (Value.bool false)) :=
  funA_ok (H := h48) (n := 14) (ans := [Ans.c, Ans.c, Ans.c, Ans.c, Ans.b false, Ans.c, Ans.b false, Ans.c, Ans.b false, Ans.c, Ans.c, Ans.c, Ans.c, Ans.c, Ans.c, Ans.c, Ans.c, Ans.c, Ans.c, Ans.c]) (ps := [decide ((-13 : Int) ≤ d) = false, decide ((-13 : Int) ≤ d) = false, decide ((-13 : Int) ≤ d) = false]) (base 14 0) Try.func48 rfl (by simp) rfl (by kernel_rfl)  (allp g0 (allp g0 (allp g0 allp_nil)))


theorem lcancel_0 (p q : Ps) (g0 : (Ps.y p == Ps.y q && Ps.n p == Ps.n q) = true) (g1 : (Ps.f p == Ps.f q) = true) (g2 : decide (Ps.d p ≤ (1 : Int)) = true) (g3 : decide (Ps.d q ≤ (1 : Int)) = true) (g4 : (Ps.d p != Ps.d q) = true) : PureC Try.prog 21 [p.enc, q.enc]  (AV.atom (Value.int IntKind.i64 (1 : Int))) :=
  funA_ok (H := h21) (n := 34) (ans := [Ans.c, Ans.c, Ans.c, Ans.c, Ans.c, Ans.c, Ans.c, Ans.c, Ans.c, Ans.b true, Ans.c, Ans.b true, Ans.c, Ans.b true, Ans.c, Ans.b true, Ans.c, Ans.b true, Ans.c, Ans.b true, Ans.c, Ans.c, Ans.b true, Ans.c, Ans.b true, Ans.c, Ans.b true, Ans.c, Ans.b true, Ans.c, Ans.c, Ans.b true, Ans.c, Ans.b true, Ans.c, Ans.b true, Ans.c, Ans.b true, Ans.c, Ans.c, Ans.b true, Ans.c, Ans.b true, Ans.c, Ans.b true, Ans.c, Ans.b true, Ans.c, Ans.b true, Ans.c, Ans.b true, Ans.c, Ans.b true, Ans.c]) (ps := [(Ps.y p == Ps.y q && Ps.n p == Ps.n q) = true, (Ps.y p == Ps.y q && Ps.n p == Ps.n q) = true, (Ps.y p == Ps.y q && Ps.n p == Ps.n q) = true, (Ps.y p == Ps.y q && Ps.n p == Ps.n q) = true, (Ps.y p == Ps.y q && Ps.n p == Ps.n q) = true, (Ps.y p == Ps.y q && Ps.n p == Ps.n q) = true, (Ps.f p == Ps.f q) = true, (Ps.f p == Ps.f q) = true, (Ps.f p == Ps.f q) = true, (Ps.f p == Ps.f q) = true, decide (Ps.d p ≤ (1 : Int)) = true, decide (Ps.d p ≤ (1 : Int)) = true, decide (Ps.d p ≤ (1 : Int)) = true, decide (Ps.d p ≤ (1 : Int)) = true, decide (Ps.d q ≤ (1 : Int)) = true, decide (Ps.d q ≤ (1 : Int)) = true, decide (Ps.d q ≤ (1 : Int)) = true, decide (Ps.d q ≤ (1 : Int)) = true, decide (Ps.d q ≤ (1 : Int)) = true, decide (Ps.d q ≤ (1 : Int)) = true, (Ps.d p != Ps.d q) = true]) (base 34 0) Try.func21 rfl (by simp) rfl (by kernel_rfl)  (allp g0 (allp g0 (allp g0 (allp g0 (allp g0 (allp g0 (allp g1 (allp g1 (allp g1 (allp g1 (allp g2 (allp g2 (allp g2 (allp g2 (allp g3 (allp g3 (allp g3 (allp g3 (allp g3 (allp g3 (allp g4 allp_nil)))))))))))))))))))))
theorem lcancel_1 (p q : Ps) (g0 : (Ps.y p == Ps.y q && Ps.n p == Ps.n q) = true) (g1 : (Ps.f p == Ps.f q) = true) (g2 : decide (Ps.d p ≤ (1 : Int)) = true) (g3 : decide (Ps.d q ≤ (1 : Int)) = true) (g4 : (Ps.d p != Ps.d q) = false) : PureC Try.prog 21 [p.enc, q.enc]  (AV.atom (Value.int IntKind.i64 (0 : Int))) :=
  funA_ok (H := h21) (n := 34) (ans := [Ans.c, Ans.c, Ans.c, Ans.c, Ans.c, Ans.c, Ans.c, Ans.c, Ans.c, Ans.b true, Ans.c, Ans.b true, Ans.c, Ans.b true, Ans.c, Ans.b true, Ans.c, Ans.b true, Ans.c, Ans.b true, Ans.c, Ans.c, Ans.b true, Ans.c, Ans.b true, Ans.c, Ans.b true, Ans.c, Ans.b true, Ans.c, Ans.c, Ans.b true, Ans.c, Ans.b true, Ans.c, Ans.b true, Ans.c, Ans.b true, Ans.c, Ans.c, Ans.b true, Ans.c, Ans.b true, Ans.c, Ans.b true, Ans.c, Ans.b true, Ans.c, Ans.b true, Ans.c, Ans.b true, Ans.c, Ans.b false, Ans.c]) (ps := [(Ps.y p == Ps.y q && Ps.n p == Ps.n q) = true, (Ps.y p == Ps.y q && Ps.n p == Ps.n q) = true, (Ps.y p == Ps.y q && Ps.n p == Ps.n q) = true, (Ps.y p == Ps.y q && Ps.n p == Ps.n q) = true, (Ps.y p == Ps.y q && Ps.n p == Ps.n q) = true, (Ps.y p == Ps.y q && Ps.n p == Ps.n q) = true, (Ps.f p == Ps.f q) = true, (Ps.f p == Ps.f q) = true, (Ps.f p == Ps.f q) = true, (Ps.f p == Ps.f q) = true, decide (Ps.d p ≤ (1 : Int)) = true, decide (Ps.d p ≤ (1 : Int)) = true, decide (Ps.d p ≤ (1 : Int)) = true, decide (Ps.d p ≤ (1 : Int)) = true, decide (Ps.d q ≤ (1 : Int)) = true, decide (Ps.d q ≤ (1 : Int)) = true, decide (Ps.d q ≤ (1 : Int)) = true, decide (Ps.d q ≤ (1 : Int)) = true, decide (Ps.d q ≤ (1 : Int)) = true, decide (Ps.d q ≤ (1 : Int)) = true, (Ps.d p != Ps.d q) = false]) (base 34 0) Try.func21 rfl (by simp) rfl (by kernel_rfl)  (allp g0 (allp g0 (allp g0 (allp g0 (allp g0 (allp g0 (allp g1 (allp g1 (allp g1 (allp g1 (allp g2 (allp g2 (allp g2 (allp g2 (allp g3 (allp g3 (allp g3 (allp g3 (allp g3 (allp g3 (allp g4 allp_nil)))))))))))))))))))))
theorem lcancel_2 (p q : Ps) (g0 : (Ps.y p == Ps.y q && Ps.n p == Ps.n q) = true) (g1 : (Ps.f p == Ps.f q) = true) (g2 : decide (Ps.d p ≤ (1 : Int)) = true) (g3 : decide (Ps.d q ≤ (1 : Int)) = false) : PureC Try.prog 21 [p.enc, q.enc]  (AV.atom (Value.int IntKind.i64 (0 : Int))) :=
  funA_ok (H := h21) (n := 34) (ans := [Ans.c, Ans.c, Ans.c, Ans.c, Ans.c, Ans.c, Ans.c, Ans.c, Ans.c, Ans.b true, Ans.c, Ans.b true, Ans.c, Ans.b true, Ans.c, Ans.b true, Ans.c, Ans.b true, Ans.c, Ans.b true, Ans.c, Ans.c, Ans.b true, Ans.c, Ans.b true, Ans.c, Ans.b true, Ans.c, Ans.b true, Ans.c, Ans.c, Ans.b true, Ans.c, Ans.b true, Ans.c, Ans.b true, Ans.c, Ans.b true, Ans.c, Ans.c, Ans.b false, Ans.c, Ans.b false, Ans.c, Ans.b false, Ans.c, Ans.b false, Ans.c, Ans.b false, Ans.c, Ans.b false, Ans.c, Ans.c, Ans.c]) (ps := [(Ps.y p == Ps.y q && Ps.n p == Ps.n q) = true, (Ps.y p == Ps.y q && Ps.n p == Ps.n q) = true, (Ps.y p == Ps.y q && Ps.n p == Ps.n q) = true, (Ps.y p == Ps.y q && Ps.n p == Ps.n q) = true, (Ps.y p == Ps.y q && Ps.n p == Ps.n q) = true, (Ps.y p == Ps.y q && Ps.n p == Ps.n q) = true, (Ps.f p == Ps.f q) = true, (Ps.f p == Ps.f q) = true, (Ps.f p == Ps.f q) = true, (Ps.f p == Ps.f q) = true, decide (Ps.d p ≤ (1 : Int)) = true, decide (Ps.d p ≤ (1 : Int)) = true, decide (Ps.d p ≤ (1 : Int)) = true, decide (Ps.d p ≤ (1 : Int)) = true, decide (Ps.d q ≤ (1 : Int)) = false, decide (Ps.d q ≤ (1 : Int)) = false, decide (Ps.d q ≤ (1 : Int)) = false, decide (Ps.d q ≤ (1 : Int)) = false, decide (Ps.d q ≤ (1 : Int)) = false, decide (Ps.d q ≤ (1 : Int)) = false]) (base 34 0) Try.func21 rfl (by simp) rfl (by kernel_rfl)  (allp g0 (allp g0 (allp g0 (allp g0 (allp g0 (allp g0 (allp g1 (allp g1 (allp g1 (allp g1 (allp g2 (allp g2 (allp g2 (allp g2 (allp g3 (allp g3 (allp g3 (allp g3 (allp g3 (allp g3 allp_nil))))))))))))))))))))
theorem lcancel_3 (p q : Ps) (g0 : (Ps.y p == Ps.y q && Ps.n p == Ps.n q) = true) (g1 : (Ps.f p == Ps.f q) = true) (g2 : decide (Ps.d p ≤ (1 : Int)) = false) : PureC Try.prog 21 [p.enc, q.enc]  (AV.atom (Value.int IntKind.i64 (0 : Int))) :=
  funA_ok (H := h21) (n := 34) (ans := [Ans.c, Ans.c, Ans.c, Ans.c, Ans.c, Ans.c, Ans.c, Ans.c, Ans.c, Ans.b true, Ans.c, Ans.b true, Ans.c, Ans.b true, Ans.c, Ans.b true, Ans.c, Ans.b true, Ans.c, Ans.b true, Ans.c, Ans.c, Ans.b true, Ans.c, Ans.b true, Ans.c, Ans.b true, Ans.c, Ans.b true, Ans.c, Ans.c, Ans.b false, Ans.c, Ans.b false, Ans.c, Ans.b false, Ans.c, Ans.b false, Ans.c, Ans.c, Ans.c, Ans.c, Ans.c, Ans.c, Ans.c, Ans.c, Ans.c, Ans.c, Ans.c, Ans.c, Ans.c, Ans.c, Ans.c, Ans.c]) (ps := [(Ps.y p == Ps.y q && Ps.n p == Ps.n q) = true, (Ps.y p == Ps.y q && Ps.n p == Ps.n q) = true, (Ps.y p == Ps.y q && Ps.n p == Ps.n q) = true, (Ps.y p == Ps.y q && Ps.n p == Ps.n q) = true, (Ps.y p == Ps.y q && Ps.n p == Ps.n q) = true, (Ps.y p == Ps.y q && Ps.n p == Ps.n q) = true, (Ps.f p == Ps.f q) = true, (Ps.f p == Ps.f q) = true, (Ps.f p == Ps.f q) = true, (Ps.f p == Ps.f q) = true, decide (Ps.d p ≤ (1 : Int)) = false, decide (Ps.d p ≤ (1 : Int)) = false, decide (Ps.d p ≤ (1 : Int)) = false, decide (Ps.d p ≤ (1 : Int)) = false]) (base 34 0) Try.func21 rfl (by simp) rfl (by kernel_rfl)  (allp g0 (allp g0 (allp g0 (allp g0 (allp g0 (allp g0 (allp g1 (allp g1 (allp g1 (allp g1 (allp g2 (allp g2 (allp g2 (allp g2 allp_nil))))))))))))))
theorem lcancel_4 (p q : Ps) (g0 : (Ps.y p == Ps.y q && Ps.n p == Ps.n q) = true) (g1 : (Ps.f p == Ps.f q) = false) : PureC Try.prog 21 [p.enc, q.enc]  (AV.atom (Value.int IntKind.i64 (0 : Int))) :=
  funA_ok (H := h21) (n := 34) (ans := [Ans.c, Ans.c, Ans.c, Ans.c, Ans.c, Ans.c, Ans.c, Ans.c, Ans.c, Ans.b true, Ans.c, Ans.b true, Ans.c, Ans.b true, Ans.c, Ans.b true, Ans.c, Ans.b true, Ans.c, Ans.b true, Ans.c, Ans.c, Ans.b false, Ans.c, Ans.b false, Ans.c, Ans.b false, Ans.c, Ans.b false, Ans.c, Ans.c, Ans.c, Ans.c, Ans.c, Ans.c, Ans.c, Ans.c, Ans.c, Ans.c, Ans.c, Ans.c, Ans.c, Ans.c, Ans.c, Ans.c, Ans.c, Ans.c, Ans.c, Ans.c, Ans.c, Ans.c, Ans.c, Ans.c, Ans.c]) (ps := [(Ps.y p == Ps.y q && Ps.n p == Ps.n q) = true, (Ps.y p == Ps.y q && Ps.n p == Ps.n q) = true, (Ps.y p == Ps.y q && Ps.n p == Ps.n q) = true, (Ps.y p == Ps.y q && Ps.n p == Ps.n q) = true, (Ps.y p == Ps.y q && Ps.n p == Ps.n q) = true, (Ps.y p == Ps.y q && Ps.n p == Ps.n q) = true, (Ps.f p == Ps.f q) = false, (Ps.f p == Ps.f q) = false, (Ps.f p == Ps.f q) = false, (Ps.f p == Ps.f q) = false]) (base 34 0) Try.func21 rfl (by simp) rfl (by kernel_rfl)  (allp g0 (allp g0 (allp g0 (allp g0 (allp g0 (allp g0 (allp g1 (allp g1 (allp g1 (allp g1 allp_nil))))))))))
theorem lcancel_5 (p q : Ps) (g0 : (Ps.y p == Ps.y q && Ps.n p == Ps.n q) = false) : PureC Try.prog 21 [p.enc, q.enc]  (AV.atom (Value.int IntKind.i64 (0 : Int))) :=
  funA_ok (H := h21) (n := 34) (ans := [Ans.c, Ans.c, Ans.c, Ans.c, Ans.c, Ans.c, Ans.c, Ans.c, Ans.c, Ans.b false, Ans.c, Ans.b false, Ans.c, Ans.b false, Ans.c, Ans.b false, Ans.c, Ans.b false, Ans.c, Ans.b false, Ans.c, Ans.c, Ans.c, Ans.c, Ans.c, Ans.c, Ans.c, Ans.c, Ans.c, Ans.c, Ans.c, Ans.c, Ans.c, Ans.c, Ans.c, Ans.c, Ans.c, Ans.c, Ans.c, Ans.c, Ans.c, Ans.c, Ans.c, Ans.c, Ans.c, Ans.c, Ans.c, Ans.c, Ans.c, Ans.c, Ans.c, Ans.c, Ans.c, Ans.c]) (ps := [(Ps.y p == Ps.y q && Ps.n p == Ps.n q) = false, (Ps.y p == Ps.y q && Ps.n p == Ps.n q) = false, (Ps.y p == Ps.y q && Ps.n p == Ps.n q) = false, (Ps.y p == Ps.y q && Ps.n p == Ps.n q) = false, (Ps.y p == Ps.y q && Ps.n p == Ps.n q) = false, (Ps.y p == Ps.y q && Ps.n p == Ps.n q) = false]) (base 34 0) Try.func21 rfl (by simp) rfl (by kernel_rfl)  (allp g0 (allp g0 (allp g0 (allp g0 (allp g0 (allp g0 allp_nil))))))


end Tst
end

section
open Go Go.Lf Go.Proofs
namespace Tst
theorem turned_c (p : Ps) : PureC Try.prog 46 [p.enc] (turnP p).enc := by
  cases h : p.d == 1
  · have := turned_1 p h
    simpa [turnP, Ps.enc, h] using this
  · have := turned_0 p h
    simpa [turnP, Ps.enc, h] using this
def namedB (y n : Int) : Bool := decide (1 ≤ y) && decide (y ≤ 6) && decide (0 ≤ n) && decide (n < 2048)
theorem named_c (y n : Int) : PureC Try.prog 28 [.agg [.atom (.int .u8 y), .atom (.int .i64 n)]] (.atom (.bool (namedB y n))) := by
  unfold namedB
  cases h1 : decide (1 ≤ y)
  · simpa using named_3 y n h1
  · cases h2 : decide (y ≤ 6)
    · simpa using named_2 y n h1 h2
    · cases h3 : decide (0 ≤ n)
      · simpa using named_1 y n h1 h2 h3
      · simpa using named_0 y n h1 h2 h3
theorem dirValid_c (d : Int) : PureC Try.prog 47 [.atom (.int .u8 d)] (.atom (.bool (d == 0 || d == 1))) := by
  cases h : d == 0
  · simpa using dirValid_1 d h
  · simpa using dirValid_0 d h
def placeB (d : Int) : Bool := decide (-13 ≤ d) && decide (d ≤ 179) && (d.tmod 2 != 0)
theorem placeValid_c (d : Int) : PureC Try.prog 48 [.atom (.int .i64 d)] (.atom (.bool (placeB d))) := by
  unfold placeB
  cases h1 : decide (-13 ≤ d)
  · simpa using placeValid_2 d h1
  · cases h2 : decide (d ≤ 179)
    · simpa using placeValid_1 d h1 h2
    · simpa using placeValid_0 d h1 h2
theorem lcancel_c (p q : Ps) : PureC Try.prog 21 [p.enc, q.enc] (it (if lcan p q = true then 1 else 0)) := by
  unfold lcan
  cases h1 : (p.y == q.y && p.n == q.n)
  · simpa using lcancel_5 p q h1
  · cases h2 : p.f == q.f
    · simpa using lcancel_4 p q h1 h2
    · cases h3 : decide (p.d ≤ 1)
      · simpa using lcancel_3 p q h1 h2 h3
      · cases h4 : decide (q.d ≤ 1)
        · simpa using lcancel_2 p q h1 h2 h3 h4
        · cases h5 : p.d != q.d
          · simpa [h5] using lcancel_1 p q h1 h2 h3 h4 h5
          · simpa [h5] using lcancel_0 p q h1 h2 h3 h4 h5
end Tst
end

section
open Go Go.Lf Go.Proofs
namespace Tst
theorem cancel_0 (p q : Ps) (g0 : (Ps.y (turnP p) == Ps.y q && Ps.n (turnP p) == Ps.n q && Ps.f (turnP p) == Ps.f q && Ps.d (turnP p) == Ps.d q) = true) : PureC Try.prog 43 [p.enc, q.enc]  (AV.atom (Value.bool (Ps.y (turnP q) == Ps.y p && Ps.n (turnP q) == Ps.n p && Ps.f (turnP q) == Ps.f p && Ps.d (turnP q) == Ps.d p))) :=
  funA_ok (H := h43) (n := 15) (ans := [Ans.c, Ans.c, Ans.c, Ans.c, Ans.r (AV.agg [AV.atom (Value.int IntKind.u8 (Ps.y (turnP p))), AV.atom (Value.int IntKind.i64 (Ps.n (turnP p))), AV.atom (Value.bool (Ps.f (turnP p))), AV.atom (Value.int IntKind.u8 (Ps.d (turnP p)))]), Ans.c, Ans.c, Ans.c, Ans.c, Ans.c, Ans.b true, Ans.c, Ans.b true, Ans.r (AV.agg [AV.atom (Value.int IntKind.u8 (Ps.y (turnP q))), AV.atom (Value.int IntKind.i64 (Ps.n (turnP q))), AV.atom (Value.bool (Ps.f (turnP q))), AV.atom (Value.int IntKind.u8 (Ps.d (turnP q)))]), Ans.c, Ans.c, Ans.b true, Ans.c, Ans.b true, Ans.c, Ans.b true, Ans.c, Ans.c]) (ps := [PureC Try.prog (nat_lit 46) [AV.agg [AV.atom (Value.int IntKind.u8 (Ps.y p)), AV.atom (Value.int IntKind.i64 (Ps.n p)), AV.atom (Value.bool (Ps.f p)), AV.atom (Value.int IntKind.u8 (Ps.d p))]] (AV.agg [AV.atom (Value.int IntKind.u8 (Ps.y (turnP p))), AV.atom (Value.int IntKind.i64 (Ps.n (turnP p))), AV.atom (Value.bool (Ps.f (turnP p))), AV.atom (Value.int IntKind.u8 (Ps.d (turnP p)))]), (Ps.y (turnP p) == Ps.y q && Ps.n (turnP p) == Ps.n q && Ps.f (turnP p) == Ps.f q && Ps.d (turnP p) == Ps.d q) = true, (Ps.y (turnP p) == Ps.y q && Ps.n (turnP p) == Ps.n q && Ps.f (turnP p) == Ps.f q && Ps.d (turnP p) == Ps.d q) = true, PureC Try.prog (nat_lit 46) [AV.agg [AV.atom (Value.int IntKind.u8 (Ps.y q)), AV.atom (Value.int IntKind.i64 (Ps.n q)), AV.atom (Value.bool (Ps.f q)), AV.atom (Value.int IntKind.u8 (Ps.d q))]] (AV.agg [AV.atom (Value.int IntKind.u8 (Ps.y (turnP q))), AV.atom (Value.int IntKind.i64 (Ps.n (turnP q))), AV.atom (Value.bool (Ps.f (turnP q))), AV.atom (Value.int IntKind.u8 (Ps.d (turnP q)))]), (Ps.y (turnP p) == Ps.y q && Ps.n (turnP p) == Ps.n q && Ps.f (turnP p) == Ps.f q && Ps.d (turnP p) == Ps.d q) = true, (Ps.y (turnP p) == Ps.y q && Ps.n (turnP p) == Ps.n q && Ps.f (turnP p) == Ps.f q && Ps.d (turnP p) == Ps.d q) = true, (Ps.y (turnP p) == Ps.y q && Ps.n (turnP p) == Ps.n q && Ps.f (turnP p) == Ps.f q && Ps.d (turnP p) == Ps.d q) = true]) (base 15 0) Try.func43 rfl (by simp) rfl (by kernel_rfl)  (allp (by first | (apply turned_c <;> (first | assumption | rfl | (simp at *; done) | (simp at *; omega)))) (allp g0 (allp g0 (allp (by first | (apply turned_c <;> (first | assumption | rfl | (simp at *; done) | (simp at *; omega)))) (allp g0 (allp g0 (allp g0 allp_nil)))))))
theorem cancel_1 (p q : Ps) (g0 : (Ps.y (turnP p) == Ps.y q && Ps.n (turnP p) == Ps.n q && Ps.f (turnP p) == Ps.f q && Ps.d (turnP p) == Ps.d q) = false) : PureC Try.prog 43 [p.enc, q.enc]  (AV.atom (Value.bool false)) :=
  funA_ok (H := h43) (n := 15) (ans := [Ans.c, Ans.c, Ans.c, Ans.c, Ans.r (AV.agg [AV.atom (Value.int IntKind.u8 (Ps.y (turnP p))), AV.atom (Value.int IntKind.i64 (Ps.n (turnP p))), AV.atom (Value.bool (Ps.f (turnP p))), AV.atom (Value.int IntKind.u8 (Ps.d (turnP p)))]), Ans.c, Ans.c, Ans.c, Ans.c, Ans.c, Ans.b false, Ans.c, Ans.b false, Ans.c, Ans.b false, Ans.c, Ans.b false, Ans.c, Ans.b false, Ans.c, Ans.c]) (ps := [PureC Try.prog (nat_lit 46) [AV.agg [AV.atom (Value.int IntKind.u8 (Ps.y p)), AV.atom (Value.int IntKind.i64 (Ps.n p)), AV.atom (Value.bool (Ps.f p)), AV.atom (Value.int IntKind.u8 (Ps.d p))]] (AV.agg [AV.atom (Value.int IntKind.u8 (Ps.y (turnP p))), AV.atom (Value.int IntKind.i64 (Ps.n (turnP p))), AV.atom (Value.bool (Ps.f (turnP p))), AV.atom (Value.int IntKind.u8 (Ps.d (turnP p)))]), (Ps.y (turnP p) == Ps.y q && Ps.n (turnP p) == Ps.n q && Ps.f (turnP p) == Ps.f q && Ps.d (turnP p) == Ps.d q) = false, (Ps.y (turnP p) == Ps.y q && Ps.n (turnP p) == Ps.n q && Ps.f (turnP p) == Ps.f q && Ps.d (turnP p) == Ps.d q) = false, (Ps.y (turnP p) == Ps.y q && Ps.n (turnP p) == Ps.n q && Ps.f (turnP p) == Ps.f q && Ps.d (turnP p) == Ps.d q) = false, (Ps.y (turnP p) == Ps.y q && Ps.n (turnP p) == Ps.n q && Ps.f (turnP p) == Ps.f q && Ps.d (turnP p) == Ps.d q) = false, (Ps.y (turnP p) == Ps.y q && Ps.n (turnP p) == Ps.n q && Ps.f (turnP p) == Ps.f q && Ps.d (turnP p) == Ps.d q) = false]) (base 15 0) Try.func43 rfl (by simp) rfl (by kernel_rfl)  (allp (by first | (apply turned_c <;> (first | assumption | rfl | (simp at *; done) | (simp at *; omega)))) (allp g0 (allp g0 (allp g0 (allp g0 (allp g0 allp_nil))))))


theorem lsame_0 (ca cb : Option Nat) (a b : List Ps) (i : Int) (g0 : decide (i < (↑(List.length (List.map Ps.enc a)) : Int)) = true) (g1 : decide ((0 : Int) ≤ i ∧ i < (↑(List.length (List.map Ps.enc a)) : Int)) = true) (g2 : List.getD (List.map Ps.enc a) (Int.toNat i) AV.bad = Ps.enc (List.getD a (Int.toNat i) default)) (g3 : decide ((0 : Int) ≤ i ∧ i < (↑(List.length (List.map Ps.enc b)) : Int)) = true) (g4 : List.getD (List.map Ps.enc b) (Int.toNat i) AV.bad = Ps.enc (List.getD b (Int.toNat i) default)) (g5 : (!(Ps.y (List.getD a (Int.toNat i) default) == Ps.y (List.getD b (Int.toNat i) default) && Ps.n (List.getD a (Int.toNat i) default) == Ps.n (List.getD b (Int.toNat i) default) && Ps.f (List.getD a (Int.toNat i) default) == Ps.f (List.getD b (Int.toNat i) default) && Ps.d (List.getD a (Int.toNat i) default) == Ps.d (List.getD b (Int.toNat i) default))) = true) : Tri Try.prog (cxN 33 0) (loopBody Try.f19 0) ([(0, sl ca a), (1, sl cb b), (5, it i)] ) (Ex.ret) ([(nat_lit 4, AV.atom (Value.int IntKind.i64 (0 : Int)))]) :=
  evA_ok (H := h19) (ans := [Ans.c, Ans.c, Ans.c, Ans.c, Ans.b true, Ans.c, Ans.c, Ans.b true, Ans.r (Ps.enc (List.getD a (Int.toNat i) default)), Ans.c, Ans.c, Ans.c, Ans.c, Ans.b true, Ans.r (Ps.enc (List.getD b (Int.toNat i) default)), Ans.c, Ans.c, Ans.c, Ans.b true, Ans.c]) (ps := [decide (i < (↑(List.length (List.map Ps.enc a)) : Int)) = true, decide ((0 : Int) ≤ i ∧ i < (↑(List.length (List.map Ps.enc a)) : Int)) = true, List.getD (List.map Ps.enc a) (Int.toNat i) AV.bad = Ps.enc (List.getD a (Int.toNat i) default), decide ((0 : Int) ≤ i ∧ i < (↑(List.length (List.map Ps.enc b)) : Int)) = true, List.getD (List.map Ps.enc b) (Int.toNat i) AV.bad = Ps.enc (List.getD b (Int.toNat i) default), (!(Ps.y (List.getD a (Int.toNat i) default) == Ps.y (List.getD b (Int.toNat i) default) && Ps.n (List.getD a (Int.toNat i) default) == Ps.n (List.getD b (Int.toNat i) default) && Ps.f (List.getD a (Int.toNat i) default) == Ps.f (List.getD b (Int.toNat i) default) && Ps.d (List.getD a (Int.toNat i) default) == Ps.d (List.getD b (Int.toNat i) default))) = true]) (ans' := []) (base 33 0) cxA_K.1 cxA_K.2 _ (by kernel_rfl)  (allp g0 (allp g1 (allp g2 (allp g3 (allp g4 (allp g5 allp_nil))))))
theorem lsame_1 (ca cb : Option Nat) (a b : List Ps) (i : Int) (g0 : decide (i < (↑(List.length (List.map Ps.enc a)) : Int)) = true) (g1 : decide ((0 : Int) ≤ i ∧ i < (↑(List.length (List.map Ps.enc a)) : Int)) = true) (g2 : List.getD (List.map Ps.enc a) (Int.toNat i) AV.bad = Ps.enc (List.getD a (Int.toNat i) default)) (g3 : decide ((0 : Int) ≤ i ∧ i < (↑(List.length (List.map Ps.enc b)) : Int)) = true) (g4 : List.getD (List.map Ps.enc b) (Int.toNat i) AV.bad = Ps.enc (List.getD b (Int.toNat i) default)) (g5 : (!(Ps.y (List.getD a (Int.toNat i) default) == Ps.y (List.getD b (Int.toNat i) default) && Ps.n (List.getD a (Int.toNat i) default) == Ps.n (List.getD b (Int.toNat i) default) && Ps.f (List.getD a (Int.toNat i) default) == Ps.f (List.getD b (Int.toNat i) default) && Ps.d (List.getD a (Int.toNat i) default) == Ps.d (List.getD b (Int.toNat i) default))) = false) : Tri Try.prog (cxN 33 0) (loopBody Try.f19 0) ([(0, sl ca a), (1, sl cb b), (5, it i)] ) (Ex.normal) ([(nat_lit 0, AV.sl Mode.any (nat_lit 33) ca (List.map Ps.enc a)), (nat_lit 1, AV.sl Mode.any (nat_lit 33) cb (List.map Ps.enc b)), (nat_lit 5, AV.atom (Value.int IntKind.i64 (IntKind.wrap IntKind.i64 (i + (1 : Int)))))]) :=
  evA_ok (H := h19) (ans := [Ans.c, Ans.c, Ans.c, Ans.c, Ans.b true, Ans.c, Ans.c, Ans.b true, Ans.r (Ps.enc (List.getD a (Int.toNat i) default)), Ans.c, Ans.c, Ans.c, Ans.c, Ans.b true, Ans.r (Ps.enc (List.getD b (Int.toNat i) default)), Ans.c, Ans.c, Ans.c, Ans.b false, Ans.c, Ans.c, Ans.c]) (ps := [decide (i < (↑(List.length (List.map Ps.enc a)) : Int)) = true, decide ((0 : Int) ≤ i ∧ i < (↑(List.length (List.map Ps.enc a)) : Int)) = true, List.getD (List.map Ps.enc a) (Int.toNat i) AV.bad = Ps.enc (List.getD a (Int.toNat i) default), decide ((0 : Int) ≤ i ∧ i < (↑(List.length (List.map Ps.enc b)) : Int)) = true, List.getD (List.map Ps.enc b) (Int.toNat i) AV.bad = Ps.enc (List.getD b (Int.toNat i) default), (!(Ps.y (List.getD a (Int.toNat i) default) == Ps.y (List.getD b (Int.toNat i) default) && Ps.n (List.getD a (Int.toNat i) default) == Ps.n (List.getD b (Int.toNat i) default) && Ps.f (List.getD a (Int.toNat i) default) == Ps.f (List.getD b (Int.toNat i) default) && Ps.d (List.getD a (Int.toNat i) default) == Ps.d (List.getD b (Int.toNat i) default))) = false]) (ans' := []) (base 33 0) cxA_K.1 cxA_K.2 _ (by kernel_rfl)  (allp g0 (allp g1 (allp g2 (allp g3 (allp g4 (allp g5 allp_nil))))))
theorem lsame_2 (ca cb : Option Nat) (a b : List Ps) (i : Int) (g0 : decide (i < (↑(List.length (List.map Ps.enc a)) : Int)) = false) : Tri Try.prog (cxN 33 0) (loopBody Try.f19 0) ([(0, sl ca a), (1, sl cb b), (5, it i)] ) (Ex.exit (nat_lit 0)) ([(nat_lit 0, AV.sl Mode.any (nat_lit 33) ca (List.map Ps.enc a)), (nat_lit 1, AV.sl Mode.any (nat_lit 33) cb (List.map Ps.enc b)), (nat_lit 5, AV.atom (Value.int IntKind.i64 i)), (nat_lit 21, AV.atom (Value.bool (decide (i < (↑(List.length (List.map Ps.enc a)) : Int)))))]) :=
  evA_ok (H := h19) (ans := [Ans.c, Ans.c, Ans.c, Ans.c, Ans.b false]) (ps := [decide (i < (↑(List.length (List.map Ps.enc a)) : Int)) = false]) (ans' := []) (base 33 0) cxA_K.1 cxA_K.2 _ (by kernel_rfl)  (allp g0 allp_nil)


theorem lvalid_0 (ca : Option Nat) (a : List Ps) (i : Int) (g0 : decide (i < (↑(List.length a) : Int)) = true) (g1 : decide ((0 : Int) ≤ i ∧ i < (↑(List.length (List.map Ps.enc a)) : Int)) = true) (g2 : List.getD (List.map Ps.enc a) (Int.toNat i) AV.bad = Ps.enc (List.getD a (Int.toNat i) default)) (g3 : (!namedB (Ps.y (List.getD a (Int.toNat i) default)) (Ps.n (List.getD a (Int.toNat i) default))) = true) : Tri Try.prog (cxN 22 0) (loopBody Try.f49 0) ([(5, sl ca a), (6, it a.length), (7, it i)] ) (Ex.ret) ([(nat_lit 2, AV.atom (Value.bool false))]) :=
  evA_ok (H := h49) (ans := [Ans.c, Ans.b true, Ans.b true, Ans.r (Ps.enc (List.getD a (Int.toNat i) default)), Ans.c, Ans.c, Ans.c, Ans.c, Ans.c, Ans.c, Ans.r (AV.atom (Value.bool (namedB (Ps.y (List.getD a (Int.toNat i) default)) (Ps.n (List.getD a (Int.toNat i) default))))), Ans.c, Ans.c, Ans.c, Ans.c, Ans.b true, Ans.c, Ans.b true, Ans.c, Ans.b true, Ans.c, Ans.b true, Ans.c, Ans.b true, Ans.c, Ans.c, Ans.c]) (ps := [decide (i < (↑(List.length a) : Int)) = true, decide ((0 : Int) ≤ i ∧ i < (↑(List.length (List.map Ps.enc a)) : Int)) = true, List.getD (List.map Ps.enc a) (Int.toNat i) AV.bad = Ps.enc (List.getD a (Int.toNat i) default), PureC Try.prog (nat_lit 28) [AV.agg [AV.atom (Value.int IntKind.u8 (Ps.y (List.getD a (Int.toNat i) default))), AV.atom (Value.int IntKind.i64 (Ps.n (List.getD a (Int.toNat i) default)))]] (AV.atom (Value.bool (namedB (Ps.y (List.getD a (Int.toNat i) default)) (Ps.n (List.getD a (Int.toNat i) default))))), (!namedB (Ps.y (List.getD a (Int.toNat i) default)) (Ps.n (List.getD a (Int.toNat i) default))) = true, (!namedB (Ps.y (List.getD a (Int.toNat i) default)) (Ps.n (List.getD a (Int.toNat i) default))) = true, (!namedB (Ps.y (List.getD a (Int.toNat i) default)) (Ps.n (List.getD a (Int.toNat i) default))) = true, (!namedB (Ps.y (List.getD a (Int.toNat i) default)) (Ps.n (List.getD a (Int.toNat i) default))) = true, (!namedB (Ps.y (List.getD a (Int.toNat i) default)) (Ps.n (List.getD a (Int.toNat i) default))) = true]) (ans' := []) (base 22 0) cxA_K.1 cxA_K.2 _ (by kernel_rfl)  (allp g0 (allp g1 (allp g2 (allp (by first | (apply named_c <;> (first | assumption | rfl | (simp at *; done) | (simp at *; omega))) | (apply dirValid_c <;> (first | assumption | rfl | (simp at *; done) | (simp at *; omega)))) (allp g3 (allp g3 (allp g3 (allp g3 (allp g3 allp_nil)))))))))
theorem lvalid_1 (ca : Option Nat) (a : List Ps) (i : Int) (g0 : decide (i < (↑(List.length a) : Int)) = true) (g1 : decide ((0 : Int) ≤ i ∧ i < (↑(List.length (List.map Ps.enc a)) : Int)) = true) (g2 : List.getD (List.map Ps.enc a) (Int.toNat i) AV.bad = Ps.enc (List.getD a (Int.toNat i) default)) (g3 : (!namedB (Ps.y (List.getD a (Int.toNat i) default)) (Ps.n (List.getD a (Int.toNat i) default))) = false) (g4 : (!(Ps.d (List.getD a (Int.toNat i) default) == (0 : Int) || Ps.d (List.getD a (Int.toNat i) default) == (1 : Int))) = true) : Tri Try.prog (cxN 22 0) (loopBody Try.f49 0) ([(5, sl ca a), (6, it a.length), (7, it i)] ) (Ex.ret) ([(nat_lit 2, AV.atom (Value.bool false))]) :=
  evA_ok (H := h49) (ans := [Ans.c, Ans.b true, Ans.b true, Ans.r (Ps.enc (List.getD a (Int.toNat i) default)), Ans.c, Ans.c, Ans.c, Ans.c, Ans.c, Ans.c, Ans.r (AV.atom (Value.bool (namedB (Ps.y (List.getD a (Int.toNat i) default)) (Ps.n (List.getD a (Int.toNat i) default))))), Ans.c, Ans.c, Ans.c, Ans.c, Ans.b false, Ans.c, Ans.b false, Ans.c, Ans.b false, Ans.r (AV.atom (Value.bool (Ps.d (List.getD a (Int.toNat i) default) == (0 : Int) || Ps.d (List.getD a (Int.toNat i) default) == (1 : Int)))), Ans.c, Ans.c, Ans.b false, Ans.c, Ans.b false, Ans.c, Ans.b true, Ans.c]) (ps := [decide (i < (↑(List.length a) : Int)) = true, decide ((0 : Int) ≤ i ∧ i < (↑(List.length (List.map Ps.enc a)) : Int)) = true, List.getD (List.map Ps.enc a) (Int.toNat i) AV.bad = Ps.enc (List.getD a (Int.toNat i) default), PureC Try.prog (nat_lit 28) [AV.agg [AV.atom (Value.int IntKind.u8 (Ps.y (List.getD a (Int.toNat i) default))), AV.atom (Value.int IntKind.i64 (Ps.n (List.getD a (Int.toNat i) default)))]] (AV.atom (Value.bool (namedB (Ps.y (List.getD a (Int.toNat i) default)) (Ps.n (List.getD a (Int.toNat i) default))))), (!namedB (Ps.y (List.getD a (Int.toNat i) default)) (Ps.n (List.getD a (Int.toNat i) default))) = false, (!namedB (Ps.y (List.getD a (Int.toNat i) default)) (Ps.n (List.getD a (Int.toNat i) default))) = false, (!namedB (Ps.y (List.getD a (Int.toNat i) default)) (Ps.n (List.getD a (Int.toNat i) default))) = false, PureC Try.prog (nat_lit 47) [AV.atom (Value.int IntKind.u8 (Ps.d (List.getD a (Int.toNat i) default)))] (AV.atom (Value.bool (Ps.d (List.getD a (Int.toNat i) default) == (0 : Int) || Ps.d (List.getD a (Int.toNat i) default) == (1 : Int)))), (!namedB (Ps.y (List.getD a (Int.toNat i) default)) (Ps.n (List.getD a (Int.toNat i) default))) = false, (!namedB (Ps.y (List.getD a (Int.toNat i) default)) (Ps.n (List.getD a (Int.toNat i) default))) = false, (!(Ps.d (List.getD a (Int.toNat i) default) == (0 : Int) || Ps.d (List.getD a (Int.toNat i) default) == (1 : Int))) = true]) (ans' := []) (base 22 0) cxA_K.1 cxA_K.2 _ (by kernel_rfl)  (allp g0 (allp g1 (allp g2 (allp (by first | (apply named_c <;> (first | assumption | rfl | (simp at *; done) | (simp at *; omega))) | (apply dirValid_c <;> (first | assumption | rfl | (simp at *; done) | (simp at *; omega)))) (allp g3 (allp g3 (allp g3 (allp (by first | (apply named_c <;> (first | assumption | rfl | (simp at *; done) | (simp at *; omega))) | (apply dirValid_c <;> (first | assumption | rfl | (simp at *; done) | (simp at *; omega)))) (allp g3 (allp g3 (allp g4 allp_nil)))))))))))
theorem lvalid_2 (ca : Option Nat) (a : List Ps) (i : Int) (g0 : decide (i < (↑(List.length a) : Int)) = true) (g1 : decide ((0 : Int) ≤ i ∧ i < (↑(List.length (List.map Ps.enc a)) : Int)) = true) (g2 : List.getD (List.map Ps.enc a) (Int.toNat i) AV.bad = Ps.enc (List.getD a (Int.toNat i) default)) (g3 : (!namedB (Ps.y (List.getD a (Int.toNat i) default)) (Ps.n (List.getD a (Int.toNat i) default))) = false) (g4 : (!(Ps.d (List.getD a (Int.toNat i) default) == (0 : Int) || Ps.d (List.getD a (Int.toNat i) default) == (1 : Int))) = false) : Tri Try.prog (cxN 22 0) (loopBody Try.f49 0) ([(5, sl ca a), (6, it a.length), (7, it i)] ) (Ex.normal) ([(nat_lit 5, AV.sl Mode.any (nat_lit 33) ca (List.map Ps.enc a)), (nat_lit 6, AV.atom (Value.int IntKind.i64 (↑(List.length a) : Int))), (nat_lit 7, AV.atom (Value.int IntKind.i64 (IntKind.wrap IntKind.i64 (i + (1 : Int)))))]) :=
  evA_ok (H := h49) (ans := [Ans.c, Ans.b true, Ans.b true, Ans.r (Ps.enc (List.getD a (Int.toNat i) default)), Ans.c, Ans.c, Ans.c, Ans.c, Ans.c, Ans.c, Ans.r (AV.atom (Value.bool (namedB (Ps.y (List.getD a (Int.toNat i) default)) (Ps.n (List.getD a (Int.toNat i) default))))), Ans.c, Ans.c, Ans.c, Ans.c, Ans.b false, Ans.c, Ans.b false, Ans.c, Ans.b false, Ans.r (AV.atom (Value.bool (Ps.d (List.getD a (Int.toNat i) default) == (0 : Int) || Ps.d (List.getD a (Int.toNat i) default) == (1 : Int)))), Ans.c, Ans.c, Ans.b false, Ans.c, Ans.b false, Ans.c, Ans.b false, Ans.c, Ans.c]) (ps := [decide (i < (↑(List.length a) : Int)) = true, decide ((0 : Int) ≤ i ∧ i < (↑(List.length (List.map Ps.enc a)) : Int)) = true, List.getD (List.map Ps.enc a) (Int.toNat i) AV.bad = Ps.enc (List.getD a (Int.toNat i) default), PureC Try.prog (nat_lit 28) [AV.agg [AV.atom (Value.int IntKind.u8 (Ps.y (List.getD a (Int.toNat i) default))), AV.atom (Value.int IntKind.i64 (Ps.n (List.getD a (Int.toNat i) default)))]] (AV.atom (Value.bool (namedB (Ps.y (List.getD a (Int.toNat i) default)) (Ps.n (List.getD a (Int.toNat i) default))))), (!namedB (Ps.y (List.getD a (Int.toNat i) default)) (Ps.n (List.getD a (Int.toNat i) default))) = false, (!namedB (Ps.y (List.getD a (Int.toNat i) default)) (Ps.n (List.getD a (Int.toNat i) default))) = false, (!namedB (Ps.y (List.getD a (Int.toNat i) default)) (Ps.n (List.getD a (Int.toNat i) default))) = false, PureC Try.prog (nat_lit 47) [AV.atom (Value.int IntKind.u8 (Ps.d (List.getD a (Int.toNat i) default)))] (AV.atom (Value.bool (Ps.d (List.getD a (Int.toNat i) default) == (0 : Int) || Ps.d (List.getD a (Int.toNat i) default) == (1 : Int)))), (!namedB (Ps.y (List.getD a (Int.toNat i) default)) (Ps.n (List.getD a (Int.toNat i) default))) = false, (!namedB (Ps.y (List.getD a (Int.toNat i) default)) (Ps.n (List.getD a (Int.toNat i) default))) = false, (!(Ps.d (List.getD a (Int.toNat i) default) == (0 : Int) || Ps.d (List.getD a (Int.toNat i) default) == (1 : Int))) = false]) (ans' := []) (base 22 0) cxA_K.1 cxA_K.2 _ (by kernel_rfl)  (allp g0 (allp g1 (allp g2 (allp (by first | (apply named_c <;> (first | assumption | rfl | (simp at *; done) | (simp at *; omega))) | (apply dirValid_c <;> (first | assumption | rfl | (simp at *; done) | (simp at *; omega)))) (allp g3 (allp g3 (allp g3 (allp (by first | (apply named_c <;> (first | assumption | rfl | (simp at *; done) | (simp at *; omega))) | (apply dirValid_c <;> (first | assumption | rfl | (simp at *; done) | (simp at *; omega)))) (allp g3 (allp g3 (allp g4 allp_nil)))))))))))
theorem lvalid_3 (ca : Option Nat) (a : List Ps) (i : Int) (g0 : decide (i < (↑(List.length a) : Int)) = false) : Tri Try.prog (cxN 22 0) (loopBody Try.f49 0) ([(5, sl ca a), (6, it a.length), (7, it i)] ) (Ex.exit (nat_lit 0)) ([(nat_lit 5, AV.sl Mode.any (nat_lit 33) ca (List.map Ps.enc a)), (nat_lit 6, AV.atom (Value.int IntKind.i64 (↑(List.length a) : Int))), (nat_lit 7, AV.atom (Value.int IntKind.i64 i)), (nat_lit 8, AV.atom (Value.bool (decide (i < (↑(List.length a) : Int)))))]) :=
  evA_ok (H := h49) (ans := [Ans.c, Ans.b false]) (ps := [decide (i < (↑(List.length a) : Int)) = false]) (ans' := []) (base 22 0) cxA_K.1 cxA_K.2 _ (by kernel_rfl)  (allp g0 allp_nil)


theorem lof_0 (ca : Option Nat) (a : List Int) (b : List Ps) (i : Int) (g0 : decide (i < (↑(List.length (List.map u8 a)) : Int)) = true) (g1 : decide ((0 : Int) ≤ i ∧ i < (↑(List.length (List.map u8 a)) : Int)) = true) (g2 : List.getD (List.map u8 a) (Int.toNat i) AV.bad = u8 (List.getD a (Int.toNat i) default)) (g3 : AV.sl Mode.own (nat_lit 33) (some (nat_lit 1)) [AV.agg [AV.atom (Value.int IntKind.u8 (IntKind.wrap IntKind.u8 ((1 : Int) + Int.tmod (IntKind.wrap IntKind.u8 (Int.tdiv (List.getD a (Int.toNat i) default) (4 : Int))) (2 : Int)))), AV.atom (Value.int IntKind.i64 (IntKind.wrap IntKind.i64 (Int.tmod (IntKind.wrap IntKind.u8 (Int.tdiv (List.getD a (Int.toNat i) default) (8 : Int))) (3 : Int)))), AV.atom (Value.bool (Int.tmod (IntKind.wrap IntKind.u8 (Int.tdiv (List.getD a (Int.toNat i) default) (2 : Int))) (2 : Int) == (1 : Int))), AV.atom (Value.int IntKind.u8 (Int.tmod (List.getD a (Int.toNat i) default) (2 : Int)))]] = AV.sl Mode.own (nat_lit 33) (some (1 : Nat)) (List.map Ps.enc [{ y := IntKind.wrap IntKind.u8 ((1 : Int) + Int.tmod (IntKind.wrap IntKind.u8 (Int.tdiv (List.getD a (Int.toNat i) default) (4 : Int))) (2 : Int)), n := IntKind.wrap IntKind.i64 (Int.tmod (IntKind.wrap IntKind.u8 (Int.tdiv (List.getD a (Int.toNat i) default) (8 : Int))) (3 : Int)), f := Int.tmod (IntKind.wrap IntKind.u8 (Int.tdiv (List.getD a (Int.toNat i) default) (2 : Int))) (2 : Int) == (1 : Int), d := Int.tmod (List.getD a (Int.toNat i) default) (2 : Int) }])) (g4 : decide (List.length (List.map Ps.enc b) + List.length (List.map Ps.enc [{ y := IntKind.wrap IntKind.u8 ((1 : Int) + Int.tmod (IntKind.wrap IntKind.u8 (Int.tdiv (List.getD a (Int.toNat i) default) (4 : Int))) (2 : Int)), n := IntKind.wrap IntKind.i64 (Int.tmod (IntKind.wrap IntKind.u8 (Int.tdiv (List.getD a (Int.toNat i) default) (8 : Int))) (3 : Int)), f := Int.tmod (IntKind.wrap IntKind.u8 (Int.tdiv (List.getD a (Int.toNat i) default) (2 : Int))) (2 : Int) == (1 : Int), d := Int.tmod (List.getD a (Int.toNat i) default) (2 : Int) }]) ≤ (4294967296 : Nat)) = true) (g5 : AV.sl Mode.own (nat_lit 33) none (List.map Ps.enc b ++ List.map Ps.enc [{ y := IntKind.wrap IntKind.u8 ((1 : Int) + Int.tmod (IntKind.wrap IntKind.u8 (Int.tdiv (List.getD a (Int.toNat i) default) (4 : Int))) (2 : Int)), n := IntKind.wrap IntKind.i64 (Int.tmod (IntKind.wrap IntKind.u8 (Int.tdiv (List.getD a (Int.toNat i) default) (8 : Int))) (3 : Int)), f := Int.tmod (IntKind.wrap IntKind.u8 (Int.tdiv (List.getD a (Int.toNat i) default) (2 : Int))) (2 : Int) == (1 : Int), d := Int.tmod (List.getD a (Int.toNat i) default) (2 : Int) }]) = AV.sl Mode.own (nat_lit 33) none (List.map Ps.enc (b ++ [{ y := IntKind.wrap IntKind.u8 ((1 : Int) + Int.tmod (IntKind.wrap IntKind.u8 (Int.tdiv (List.getD a (Int.toNat i) default) (4 : Int))) (2 : Int)), n := IntKind.wrap IntKind.i64 (Int.tmod (IntKind.wrap IntKind.u8 (Int.tdiv (List.getD a (Int.toNat i) default) (8 : Int))) (3 : Int)), f := Int.tmod (IntKind.wrap IntKind.u8 (Int.tdiv (List.getD a (Int.toNat i) default) (2 : Int))) (2 : Int) == (1 : Int), d := Int.tmod (List.getD a (Int.toNat i) default) (2 : Int) }]))) : Tri Try.prog (cxN 36 0) (loopBody Try.f16 0) ([(0, pl ca a), (3, ow none b), (4, it i)] ) (Ex.normal) ([(nat_lit 0, AV.sl Mode.any (nat_lit 89) ca (List.map u8 a)), (nat_lit 3, AV.sl Mode.own (nat_lit 33) none (List.map Ps.enc (b ++ [{ y := IntKind.wrap IntKind.u8 ((1 : Int) + Int.tmod (IntKind.wrap IntKind.u8 (Int.tdiv (List.getD a (Int.toNat i) default) (4 : Int))) (2 : Int)), n := IntKind.wrap IntKind.i64 (Int.tmod (IntKind.wrap IntKind.u8 (Int.tdiv (List.getD a (Int.toNat i) default) (8 : Int))) (3 : Int)), f := Int.tmod (IntKind.wrap IntKind.u8 (Int.tdiv (List.getD a (Int.toNat i) default) (2 : Int))) (2 : Int) == (1 : Int), d := Int.tmod (List.getD a (Int.toNat i) default) (2 : Int) }]))), (nat_lit 4, AV.atom (Value.int IntKind.i64 (IntKind.wrap IntKind.i64 (i + (1 : Int)))))]) :=
  evA_ok (H := h16) (ans := [Ans.c, Ans.c, Ans.c, Ans.c, Ans.b true, Ans.c, Ans.c, Ans.b true, Ans.r (u8 (List.getD a (Int.toNat i) default)), Ans.c, Ans.c, Ans.c, Ans.c, Ans.c, Ans.c, Ans.c, Ans.c, Ans.c, Ans.c, Ans.c, Ans.c, Ans.c, Ans.c, Ans.c, Ans.c, Ans.c, Ans.c, Ans.c, Ans.c, Ans.r (AV.sl Mode.own (nat_lit 33) (some (1 : Nat)) (List.map Ps.enc [{ y := IntKind.wrap IntKind.u8 ((1 : Int) + Int.tmod (IntKind.wrap IntKind.u8 (Int.tdiv (List.getD a (Int.toNat i) default) (4 : Int))) (2 : Int)), n := IntKind.wrap IntKind.i64 (Int.tmod (IntKind.wrap IntKind.u8 (Int.tdiv (List.getD a (Int.toNat i) default) (8 : Int))) (3 : Int)), f := Int.tmod (IntKind.wrap IntKind.u8 (Int.tdiv (List.getD a (Int.toNat i) default) (2 : Int))) (2 : Int) == (1 : Int), d := Int.tmod (List.getD a (Int.toNat i) default) (2 : Int) }])), Ans.c, Ans.b true, Ans.r (AV.sl Mode.own (nat_lit 33) none (List.map Ps.enc (b ++ [{ y := IntKind.wrap IntKind.u8 ((1 : Int) + Int.tmod (IntKind.wrap IntKind.u8 (Int.tdiv (List.getD a (Int.toNat i) default) (4 : Int))) (2 : Int)), n := IntKind.wrap IntKind.i64 (Int.tmod (IntKind.wrap IntKind.u8 (Int.tdiv (List.getD a (Int.toNat i) default) (8 : Int))) (3 : Int)), f := Int.tmod (IntKind.wrap IntKind.u8 (Int.tdiv (List.getD a (Int.toNat i) default) (2 : Int))) (2 : Int) == (1 : Int), d := Int.tmod (List.getD a (Int.toNat i) default) (2 : Int) }]))), Ans.c, Ans.c, Ans.c, Ans.c]) (ps := [decide (i < (↑(List.length (List.map u8 a)) : Int)) = true, decide ((0 : Int) ≤ i ∧ i < (↑(List.length (List.map u8 a)) : Int)) = true, List.getD (List.map u8 a) (Int.toNat i) AV.bad = u8 (List.getD a (Int.toNat i) default), AV.sl Mode.own (nat_lit 33) (some (nat_lit 1)) [AV.agg [AV.atom (Value.int IntKind.u8 (IntKind.wrap IntKind.u8 ((1 : Int) + Int.tmod (IntKind.wrap IntKind.u8 (Int.tdiv (List.getD a (Int.toNat i) default) (4 : Int))) (2 : Int)))), AV.atom (Value.int IntKind.i64 (IntKind.wrap IntKind.i64 (Int.tmod (IntKind.wrap IntKind.u8 (Int.tdiv (List.getD a (Int.toNat i) default) (8 : Int))) (3 : Int)))), AV.atom (Value.bool (Int.tmod (IntKind.wrap IntKind.u8 (Int.tdiv (List.getD a (Int.toNat i) default) (2 : Int))) (2 : Int) == (1 : Int))), AV.atom (Value.int IntKind.u8 (Int.tmod (List.getD a (Int.toNat i) default) (2 : Int)))]] = AV.sl Mode.own (nat_lit 33) (some (1 : Nat)) (List.map Ps.enc [{ y := IntKind.wrap IntKind.u8 ((1 : Int) + Int.tmod (IntKind.wrap IntKind.u8 (Int.tdiv (List.getD a (Int.toNat i) default) (4 : Int))) (2 : Int)), n := IntKind.wrap IntKind.i64 (Int.tmod (IntKind.wrap IntKind.u8 (Int.tdiv (List.getD a (Int.toNat i) default) (8 : Int))) (3 : Int)), f := Int.tmod (IntKind.wrap IntKind.u8 (Int.tdiv (List.getD a (Int.toNat i) default) (2 : Int))) (2 : Int) == (1 : Int), d := Int.tmod (List.getD a (Int.toNat i) default) (2 : Int) }]), decide (List.length (List.map Ps.enc b) + List.length (List.map Ps.enc [{ y := IntKind.wrap IntKind.u8 ((1 : Int) + Int.tmod (IntKind.wrap IntKind.u8 (Int.tdiv (List.getD a (Int.toNat i) default) (4 : Int))) (2 : Int)), n := IntKind.wrap IntKind.i64 (Int.tmod (IntKind.wrap IntKind.u8 (Int.tdiv (List.getD a (Int.toNat i) default) (8 : Int))) (3 : Int)), f := Int.tmod (IntKind.wrap IntKind.u8 (Int.tdiv (List.getD a (Int.toNat i) default) (2 : Int))) (2 : Int) == (1 : Int), d := Int.tmod (List.getD a (Int.toNat i) default) (2 : Int) }]) ≤ (4294967296 : Nat)) = true, AV.sl Mode.own (nat_lit 33) none (List.map Ps.enc b ++ List.map Ps.enc [{ y := IntKind.wrap IntKind.u8 ((1 : Int) + Int.tmod (IntKind.wrap IntKind.u8 (Int.tdiv (List.getD a (Int.toNat i) default) (4 : Int))) (2 : Int)), n := IntKind.wrap IntKind.i64 (Int.tmod (IntKind.wrap IntKind.u8 (Int.tdiv (List.getD a (Int.toNat i) default) (8 : Int))) (3 : Int)), f := Int.tmod (IntKind.wrap IntKind.u8 (Int.tdiv (List.getD a (Int.toNat i) default) (2 : Int))) (2 : Int) == (1 : Int), d := Int.tmod (List.getD a (Int.toNat i) default) (2 : Int) }]) = AV.sl Mode.own (nat_lit 33) none (List.map Ps.enc (b ++ [{ y := IntKind.wrap IntKind.u8 ((1 : Int) + Int.tmod (IntKind.wrap IntKind.u8 (Int.tdiv (List.getD a (Int.toNat i) default) (4 : Int))) (2 : Int)), n := IntKind.wrap IntKind.i64 (Int.tmod (IntKind.wrap IntKind.u8 (Int.tdiv (List.getD a (Int.toNat i) default) (8 : Int))) (3 : Int)), f := Int.tmod (IntKind.wrap IntKind.u8 (Int.tdiv (List.getD a (Int.toNat i) default) (2 : Int))) (2 : Int) == (1 : Int), d := Int.tmod (List.getD a (Int.toNat i) default) (2 : Int) }]))]) (ans' := []) (base 36 0) cxA_K.1 cxA_K.2 _ (by kernel_rfl)  (allp g0 (allp g1 (allp g2 (allp g3 (allp g4 (allp g5 allp_nil))))))
theorem lof_1 (ca : Option Nat) (a : List Int) (b : List Ps) (i : Int) (g0 : decide (i < (↑(List.length (List.map u8 a)) : Int)) = false) : Tri Try.prog (cxN 36 0) (loopBody Try.f16 0) ([(0, pl ca a), (3, ow none b), (4, it i)] ) (Ex.exit (nat_lit 0)) ([(nat_lit 0, AV.sl Mode.any (nat_lit 89) ca (List.map u8 a)), (nat_lit 3, AV.sl Mode.own (nat_lit 33) none (List.map Ps.enc b)), (nat_lit 4, AV.atom (Value.int IntKind.i64 i)), (nat_lit 9, AV.atom (Value.bool (decide (i < (↑(List.length (List.map u8 a)) : Int)))))]) :=
  evA_ok (H := h16) (ans := [Ans.c, Ans.c, Ans.c, Ans.c, Ans.b false]) (ps := [decide (i < (↑(List.length (List.map u8 a)) : Int)) = false]) (ans' := []) (base 36 0) cxA_K.1 cxA_K.2 _ (by kernel_rfl)  (allp g0 allp_nil)


theorem lredu_0 (b : List Ps) (i : Int) (g0 : decide (IntKind.wrap IntKind.i64 (i + (1 : Int)) < (↑(List.length (List.map Ps.enc b)) : Int)) = true) (g1 : decide ((0 : Int) ≤ i ∧ i < (↑(List.length (List.map Ps.enc b)) : Int)) = true) (g2 : decide (Int.toNat i < List.length (List.map Ps.enc b)) = true) (g3 : List.getD (List.map Ps.enc b) (Int.toNat i) AV.bad = Ps.enc (List.getD b (Int.toNat i) default)) (g4 : decide ((0 : Int) ≤ IntKind.wrap IntKind.i64 (i + (1 : Int)) ∧ IntKind.wrap IntKind.i64 (i + (1 : Int)) < (↑(List.length (List.map Ps.enc b)) : Int)) = true) (g5 : decide (Int.toNat (IntKind.wrap IntKind.i64 (i + (1 : Int))) < List.length (List.map Ps.enc b)) = true) (g6 : List.getD (List.map Ps.enc b) (Int.toNat (IntKind.wrap IntKind.i64 (i + (1 : Int)))) AV.bad = Ps.enc (List.getD b (Int.toNat (IntKind.wrap IntKind.i64 (i + (1 : Int)))) default)) (g7 : ((if lcan (List.getD b (Int.toNat i) default) (List.getD b (Int.toNat (IntKind.wrap IntKind.i64 (i + (1 : Int)))) default) = true then (1 : Int) else (0 : Int)) == (0 : Int)) = true) : Tri Try.prog (cxN 41 0) (loopBody Try.f18 0) ([(3, ow none b), (4, it i)] ) (Ex.normal) ([(nat_lit 3, AV.sl Mode.own (nat_lit 33) none (List.map Ps.enc b)), (nat_lit 4, AV.atom (Value.int IntKind.i64 (IntKind.wrap IntKind.i64 (i + (1 : Int)))))]) :=
  evA_ok (H := h18) (ans := [Ans.c, Ans.c, Ans.c, Ans.c, Ans.c, Ans.b true, Ans.c, Ans.c, Ans.b true, Ans.c, Ans.b true, Ans.r (Ps.enc (List.getD b (Int.toNat i) default)), Ans.c, Ans.c, Ans.c, Ans.c, Ans.b true, Ans.c, Ans.b true, Ans.r (Ps.enc (List.getD b (Int.toNat (IntKind.wrap IntKind.i64 (i + (1 : Int)))) default)), Ans.c, Ans.r (AV.atom (Value.int IntKind.i64 (if lcan (List.getD b (Int.toNat i) default) (List.getD b (Int.toNat (IntKind.wrap IntKind.i64 (i + (1 : Int)))) default) = true then (1 : Int) else (0 : Int)))), Ans.c, Ans.c, Ans.c, Ans.b true, Ans.c, Ans.c, Ans.c]) (ps := [decide (IntKind.wrap IntKind.i64 (i + (1 : Int)) < (↑(List.length (List.map Ps.enc b)) : Int)) = true, decide ((0 : Int) ≤ i ∧ i < (↑(List.length (List.map Ps.enc b)) : Int)) = true, decide (Int.toNat i < List.length (List.map Ps.enc b)) = true, List.getD (List.map Ps.enc b) (Int.toNat i) AV.bad = Ps.enc (List.getD b (Int.toNat i) default), decide ((0 : Int) ≤ IntKind.wrap IntKind.i64 (i + (1 : Int)) ∧ IntKind.wrap IntKind.i64 (i + (1 : Int)) < (↑(List.length (List.map Ps.enc b)) : Int)) = true, decide (Int.toNat (IntKind.wrap IntKind.i64 (i + (1 : Int))) < List.length (List.map Ps.enc b)) = true, List.getD (List.map Ps.enc b) (Int.toNat (IntKind.wrap IntKind.i64 (i + (1 : Int)))) AV.bad = Ps.enc (List.getD b (Int.toNat (IntKind.wrap IntKind.i64 (i + (1 : Int)))) default), PureC Try.prog (nat_lit 21) [AV.agg [AV.atom (Value.int IntKind.u8 (Ps.y (List.getD b (Int.toNat i) default))), AV.atom (Value.int IntKind.i64 (Ps.n (List.getD b (Int.toNat i) default))), AV.atom (Value.bool (Ps.f (List.getD b (Int.toNat i) default))), AV.atom (Value.int IntKind.u8 (Ps.d (List.getD b (Int.toNat i) default)))], AV.agg [AV.atom (Value.int IntKind.u8 (Ps.y (List.getD b (Int.toNat (IntKind.wrap IntKind.i64 (i + (1 : Int)))) default))), AV.atom (Value.int IntKind.i64 (Ps.n (List.getD b (Int.toNat (IntKind.wrap IntKind.i64 (i + (1 : Int)))) default))), AV.atom (Value.bool (Ps.f (List.getD b (Int.toNat (IntKind.wrap IntKind.i64 (i + (1 : Int)))) default))), AV.atom (Value.int IntKind.u8 (Ps.d (List.getD b (Int.toNat (IntKind.wrap IntKind.i64 (i + (1 : Int)))) default)))]] (AV.atom (Value.int IntKind.i64 (if lcan (List.getD b (Int.toNat i) default) (List.getD b (Int.toNat (IntKind.wrap IntKind.i64 (i + (1 : Int)))) default) = true then (1 : Int) else (0 : Int)))), ((if lcan (List.getD b (Int.toNat i) default) (List.getD b (Int.toNat (IntKind.wrap IntKind.i64 (i + (1 : Int)))) default) = true then (1 : Int) else (0 : Int)) == (0 : Int)) = true]) (ans' := []) (base 41 0) cxA_K.1 cxA_K.2 _ (by kernel_rfl)  (allp g0 (allp g1 (allp g2 (allp g3 (allp g4 (allp g5 (allp g6 (allp (by first | (apply lcancel_c <;> (first | assumption | rfl | (simp at *; done) | (simp at *; omega)))) (allp g7 allp_nil)))))))))
theorem lredu_1 (b : List Ps) (i : Int) (g0 : decide (IntKind.wrap IntKind.i64 (i + (1 : Int)) < (↑(List.length (List.map Ps.enc b)) : Int)) = true) (g1 : decide ((0 : Int) ≤ i ∧ i < (↑(List.length (List.map Ps.enc b)) : Int)) = true) (g2 : decide (Int.toNat i < List.length (List.map Ps.enc b)) = true) (g3 : List.getD (List.map Ps.enc b) (Int.toNat i) AV.bad = Ps.enc (List.getD b (Int.toNat i) default)) (g4 : decide ((0 : Int) ≤ IntKind.wrap IntKind.i64 (i + (1 : Int)) ∧ IntKind.wrap IntKind.i64 (i + (1 : Int)) < (↑(List.length (List.map Ps.enc b)) : Int)) = true) (g5 : decide (Int.toNat (IntKind.wrap IntKind.i64 (i + (1 : Int))) < List.length (List.map Ps.enc b)) = true) (g6 : List.getD (List.map Ps.enc b) (Int.toNat (IntKind.wrap IntKind.i64 (i + (1 : Int)))) AV.bad = Ps.enc (List.getD b (Int.toNat (IntKind.wrap IntKind.i64 (i + (1 : Int)))) default)) (g7 : ((if lcan (List.getD b (Int.toNat i) default) (List.getD b (Int.toNat (IntKind.wrap IntKind.i64 (i + (1 : Int)))) default) = true then (1 : Int) else (0 : Int)) == (0 : Int)) = false) (g8 : AV.sl Mode.own (nat_lit 33) (some (nat_lit 0)) [] = AV.sl Mode.own (nat_lit 33) (some (0 : Nat)) (List.map Ps.enc [])) (g9 : decide ((0 : Int) ≤ i) = true) (g10 : decide ((0 : Nat) ≤ Int.toNat i ∧ Int.toNat i ≤ List.length (List.map Ps.enc b)) = true) (g11 : decide ((0 : Nat) + (Int.toNat i - (0 : Nat)) ≤ List.length (List.map Ps.enc b)) = true) (g12 : decide ((23 : Nat) = (23 : Nat) ∧ (List.all (List.take (Int.toNat i - (0 : Nat)) (List.drop (0 : Nat) (List.map Ps.enc b))) fun y => List.all (AV.ecells y) plainA) = true ∧ (List.all (List.take (Int.toNat i - (0 : Nat)) (List.drop (0 : Nat) (List.map Ps.enc b))) fun y => decide (List.length (AV.ecells y) = List.length (TInfo.zero { zero := [Value.int IntKind.u8 (0 : Int), Value.int IntKind.i64 (0 : Int), Value.bool false, Value.int IntKind.u8 (0 : Int)], bytes := (24 : Nat), agg := true, kind := TK.struct [((0 : Nat), (2 : Nat)), ((2 : Nat), (1 : Nat)), ((3 : Nat), (1 : Nat))] }))) = true) = true) (g13 : decide (nat_lit 33 = (33 : TypeId) ∧ List.length (List.map Ps.enc []) + List.length (List.take (Int.toNat i - (0 : Nat)) (List.drop (0 : Nat) (List.map Ps.enc b))) ≤ (4294967296 : Nat) ∧ Oper.dst { dst := some (30 : Nat), op := Op.call { callee := Callee.builtin Builtin.append, args := #[Operand.tmp (26 : Nat), Operand.tmp (29 : Nat)], argTypes := #[(23 : Nat), (23 : Nat)] }, type := (23 : Nat), pos := "law.go:71", after := #[{ on := (0 : Nat), ground := Ground.data }, { on := (3 : Nat), ground := Ground.data }], guard := none } ≠ some (26 : Nat)) = true) (g14 : AV.sl Mode.own (nat_lit 33) (if List.length (List.map Ps.enc []) + List.length (List.take (Int.toNat i - (0 : Nat)) (List.drop (0 : Nat) (List.map Ps.enc b))) ≤ (0 : Nat) then some (0 : Nat) else none) (List.map Ps.enc [] ++ List.take (Int.toNat i - (0 : Nat)) (List.drop (0 : Nat) (List.map Ps.enc b))) = AV.sl Mode.own (nat_lit 33) (if List.length (List.map Ps.enc []) + List.length (List.take (Int.toNat i - (0 : Nat)) (List.drop (0 : Nat) (List.map Ps.enc b))) ≤ (0 : Nat) then some (0 : Nat) else none) (List.map Ps.enc ([] ++ List.take (Int.toNat i - (0 : Nat)) (List.drop (0 : Nat) b)))) (g15 : decide ((0 : Int) ≤ IntKind.wrap IntKind.i64 (i + (2 : Int))) = true) (g16 : decide (Int.toNat (IntKind.wrap IntKind.i64 (i + (2 : Int))) ≤ List.length (List.map Ps.enc b) ∧ List.length (List.map Ps.enc b) ≤ List.length (List.map Ps.enc b)) = true) (g17 : decide (Int.toNat (IntKind.wrap IntKind.i64 (i + (2 : Int))) + (List.length (List.map Ps.enc b) - Int.toNat (IntKind.wrap IntKind.i64 (i + (2 : Int)))) ≤ List.length (List.map Ps.enc b)) = true) (g18 : decide ((23 : Nat) = (23 : Nat) ∧ (List.all (List.take (List.length (List.map Ps.enc b) - Int.toNat (IntKind.wrap IntKind.i64 (i + (2 : Int)))) (List.drop (Int.toNat (IntKind.wrap IntKind.i64 (i + (2 : Int)))) (List.map Ps.enc b))) fun y => List.all (AV.ecells y) plainA) = true ∧ (List.all (List.take (List.length (List.map Ps.enc b) - Int.toNat (IntKind.wrap IntKind.i64 (i + (2 : Int)))) (List.drop (Int.toNat (IntKind.wrap IntKind.i64 (i + (2 : Int)))) (List.map Ps.enc b))) fun y => decide (List.length (AV.ecells y) = List.length (TInfo.zero { zero := [Value.int IntKind.u8 (0 : Int), Value.int IntKind.i64 (0 : Int), Value.bool false, Value.int IntKind.u8 (0 : Int)], bytes := (24 : Nat), agg := true, kind := TK.struct [((0 : Nat), (2 : Nat)), ((2 : Nat), (1 : Nat)), ((3 : Nat), (1 : Nat))] }))) = true) = true) (g19 : decide (nat_lit 33 = (33 : TypeId) ∧ List.length (List.map Ps.enc ([] ++ List.take (Int.toNat i - (0 : Nat)) (List.drop (0 : Nat) b))) + List.length (List.take (List.length (List.map Ps.enc b) - Int.toNat (IntKind.wrap IntKind.i64 (i + (2 : Int)))) (List.drop (Int.toNat (IntKind.wrap IntKind.i64 (i + (2 : Int)))) (List.map Ps.enc b))) ≤ (4294967296 : Nat) ∧ Oper.dst { dst := some (35 : Nat), op := Op.call { callee := Callee.builtin Builtin.append, args := #[Operand.tmp (30 : Nat), Operand.tmp (34 : Nat)], argTypes := #[(23 : Nat), (23 : Nat)] }, type := (23 : Nat), pos := "law.go:71", after := #[{ on := (4 : Nat), ground := Ground.data }, { on := (8 : Nat), ground := Ground.data }, { on := (4 : Nat), ground := Ground.chain }], guard := none } ≠ some (30 : Nat)) = true) (g20 : AV.sl Mode.own (nat_lit 33)
    (match if List.length (List.map Ps.enc []) + List.length (List.take (Int.toNat i - (0 : Nat)) (List.drop (0 : Nat) (List.map Ps.enc b))) ≤ (0 : Nat) then some (0 : Nat) else none with
    | some c => if List.length (List.map Ps.enc ([] ++ List.take (Int.toNat i - (0 : Nat)) (List.drop (0 : Nat) b))) + List.length (List.take (List.length (List.map Ps.enc b) - Int.toNat (IntKind.wrap IntKind.i64 (i + (2 : Int)))) (List.drop (Int.toNat (IntKind.wrap IntKind.i64 (i + (2 : Int)))) (List.map Ps.enc b))) ≤ c then some c else none
    | none => none)
    (List.map Ps.enc ([] ++ List.take (Int.toNat i - (0 : Nat)) (List.drop (0 : Nat) b)) ++ List.take (List.length (List.map Ps.enc b) - Int.toNat (IntKind.wrap IntKind.i64 (i + (2 : Int)))) (List.drop (Int.toNat (IntKind.wrap IntKind.i64 (i + (2 : Int)))) (List.map Ps.enc b))) =
  AV.sl Mode.own (nat_lit 33)
    (match if List.length (List.map Ps.enc []) + List.length (List.take (Int.toNat i - (0 : Nat)) (List.drop (0 : Nat) (List.map Ps.enc b))) ≤ (0 : Nat) then some (0 : Nat) else none with
    | some c => if List.length (List.map Ps.enc ([] ++ List.take (Int.toNat i - (0 : Nat)) (List.drop (0 : Nat) b))) + List.length (List.take (List.length (List.map Ps.enc b) - Int.toNat (IntKind.wrap IntKind.i64 (i + (2 : Int)))) (List.drop (Int.toNat (IntKind.wrap IntKind.i64 (i + (2 : Int)))) (List.map Ps.enc b))) ≤ c then some c else none
    | none => none)
    (List.map Ps.enc ([] ++ List.take (Int.toNat i - (0 : Nat)) (List.drop (0 : Nat) b) ++ List.take (List.length (List.map Ps.enc b) - Int.toNat (IntKind.wrap IntKind.i64 (i + (2 : Int)))) (List.drop (Int.toNat (IntKind.wrap IntKind.i64 (i + (2 : Int)))) b)))) : Tri Try.prog (cxN 41 0) (loopBody Try.f18 0) ([(3, ow none b), (4, it i)] ) (Ex.normal) ([(nat_lit 3,
    AV.sl Mode.own (nat_lit 33)
      (match if List.length (List.map Ps.enc []) + List.length (List.take (Int.toNat i - (0 : Nat)) (List.drop (0 : Nat) (List.map Ps.enc b))) ≤ (0 : Nat) then some (0 : Nat) else none with
      | some c => if List.length (List.map Ps.enc ([] ++ List.take (Int.toNat i - (0 : Nat)) (List.drop (0 : Nat) b))) + List.length (List.take (List.length (List.map Ps.enc b) - Int.toNat (IntKind.wrap IntKind.i64 (i + (2 : Int)))) (List.drop (Int.toNat (IntKind.wrap IntKind.i64 (i + (2 : Int)))) (List.map Ps.enc b))) ≤ c then some c else none
      | none => none)
      (List.map Ps.enc ([] ++ List.take (Int.toNat i - (0 : Nat)) (List.drop (0 : Nat) b) ++ List.take (List.length (List.map Ps.enc b) - Int.toNat (IntKind.wrap IntKind.i64 (i + (2 : Int)))) (List.drop (Int.toNat (IntKind.wrap IntKind.i64 (i + (2 : Int)))) b)))),
  (nat_lit 4, AV.atom (Value.int IntKind.i64 (0 : Int)))]) :=
  evA_ok (H := h18) (ans := [Ans.c, Ans.c, Ans.c, Ans.c, Ans.c, Ans.b true, Ans.c, Ans.c, Ans.b true, Ans.c, Ans.b true, Ans.r (Ps.enc (List.getD b (Int.toNat i) default)), Ans.c, Ans.c, Ans.c, Ans.c, Ans.b true, Ans.c, Ans.b true, Ans.r (Ps.enc (List.getD b (Int.toNat (IntKind.wrap IntKind.i64 (i + (1 : Int)))) default)), Ans.c, Ans.r (AV.atom (Value.int IntKind.i64 (if lcan (List.getD b (Int.toNat i) default) (List.getD b (Int.toNat (IntKind.wrap IntKind.i64 (i + (1 : Int)))) default) = true then (1 : Int) else (0 : Int)))), Ans.c, Ans.c, Ans.c, Ans.b false, Ans.r (AV.sl Mode.own (nat_lit 33) (some (0 : Nat)) (List.map Ps.enc [])), Ans.c, Ans.c, Ans.b true, Ans.b true, Ans.c, Ans.b true, Ans.b true, Ans.b true, Ans.r (AV.sl Mode.own (nat_lit 33) (if List.length (List.map Ps.enc []) + List.length (List.take (Int.toNat i - (0 : Nat)) (List.drop (0 : Nat) (List.map Ps.enc b))) ≤ (0 : Nat) then some (0 : Nat) else none) (List.map Ps.enc ([] ++ List.take (Int.toNat i - (0 : Nat)) (List.drop (0 : Nat) b)))), Ans.c, Ans.c, Ans.c, Ans.b true, Ans.b true, Ans.c, Ans.b true, Ans.b true, Ans.b true, Ans.r
  (AV.sl Mode.own (nat_lit 33)
    (match if List.length (List.map Ps.enc []) + List.length (List.take (Int.toNat i - (0 : Nat)) (List.drop (0 : Nat) (List.map Ps.enc b))) ≤ (0 : Nat) then some (0 : Nat) else none with
    | some c => if List.length (List.map Ps.enc ([] ++ List.take (Int.toNat i - (0 : Nat)) (List.drop (0 : Nat) b))) + List.length (List.take (List.length (List.map Ps.enc b) - Int.toNat (IntKind.wrap IntKind.i64 (i + (2 : Int)))) (List.drop (Int.toNat (IntKind.wrap IntKind.i64 (i + (2 : Int)))) (List.map Ps.enc b))) ≤ c then some c else none
    | none => none)
    (List.map Ps.enc ([] ++ List.take (Int.toNat i - (0 : Nat)) (List.drop (0 : Nat) b) ++ List.take (List.length (List.map Ps.enc b) - Int.toNat (IntKind.wrap IntKind.i64 (i + (2 : Int)))) (List.drop (Int.toNat (IntKind.wrap IntKind.i64 (i + (2 : Int)))) b)))), Ans.c, Ans.c]) (ps := [decide (IntKind.wrap IntKind.i64 (i + (1 : Int)) < (↑(List.length (List.map Ps.enc b)) : Int)) = true, decide ((0 : Int) ≤ i ∧ i < (↑(List.length (List.map Ps.enc b)) : Int)) = true, decide (Int.toNat i < List.length (List.map Ps.enc b)) = true, List.getD (List.map Ps.enc b) (Int.toNat i) AV.bad = Ps.enc (List.getD b (Int.toNat i) default), decide ((0 : Int) ≤ IntKind.wrap IntKind.i64 (i + (1 : Int)) ∧ IntKind.wrap IntKind.i64 (i + (1 : Int)) < (↑(List.length (List.map Ps.enc b)) : Int)) = true, decide (Int.toNat (IntKind.wrap IntKind.i64 (i + (1 : Int))) < List.length (List.map Ps.enc b)) = true, List.getD (List.map Ps.enc b) (Int.toNat (IntKind.wrap IntKind.i64 (i + (1 : Int)))) AV.bad = Ps.enc (List.getD b (Int.toNat (IntKind.wrap IntKind.i64 (i + (1 : Int)))) default), PureC Try.prog (nat_lit 21) [AV.agg [AV.atom (Value.int IntKind.u8 (Ps.y (List.getD b (Int.toNat i) default))), AV.atom (Value.int IntKind.i64 (Ps.n (List.getD b (Int.toNat i) default))), AV.atom (Value.bool (Ps.f (List.getD b (Int.toNat i) default))), AV.atom (Value.int IntKind.u8 (Ps.d (List.getD b (Int.toNat i) default)))], AV.agg [AV.atom (Value.int IntKind.u8 (Ps.y (List.getD b (Int.toNat (IntKind.wrap IntKind.i64 (i + (1 : Int)))) default))), AV.atom (Value.int IntKind.i64 (Ps.n (List.getD b (Int.toNat (IntKind.wrap IntKind.i64 (i + (1 : Int)))) default))), AV.atom (Value.bool (Ps.f (List.getD b (Int.toNat (IntKind.wrap IntKind.i64 (i + (1 : Int)))) default))), AV.atom (Value.int IntKind.u8 (Ps.d (List.getD b (Int.toNat (IntKind.wrap IntKind.i64 (i + (1 : Int)))) default)))]] (AV.atom (Value.int IntKind.i64 (if lcan (List.getD b (Int.toNat i) default) (List.getD b (Int.toNat (IntKind.wrap IntKind.i64 (i + (1 : Int)))) default) = true then (1 : Int) else (0 : Int)))), ((if lcan (List.getD b (Int.toNat i) default) (List.getD b (Int.toNat (IntKind.wrap IntKind.i64 (i + (1 : Int)))) default) = true then (1 : Int) else (0 : Int)) == (0 : Int)) = false, AV.sl Mode.own (nat_lit 33) (some (nat_lit 0)) [] = AV.sl Mode.own (nat_lit 33) (some (0 : Nat)) (List.map Ps.enc []), decide ((0 : Int) ≤ i) = true, decide ((0 : Nat) ≤ Int.toNat i ∧ Int.toNat i ≤ List.length (List.map Ps.enc b)) = true, decide ((0 : Nat) + (Int.toNat i - (0 : Nat)) ≤ List.length (List.map Ps.enc b)) = true, decide ((23 : Nat) = (23 : Nat) ∧ (List.all (List.take (Int.toNat i - (0 : Nat)) (List.drop (0 : Nat) (List.map Ps.enc b))) fun y => List.all (AV.ecells y) plainA) = true ∧ (List.all (List.take (Int.toNat i - (0 : Nat)) (List.drop (0 : Nat) (List.map Ps.enc b))) fun y => decide (List.length (AV.ecells y) = List.length (TInfo.zero { zero := [Value.int IntKind.u8 (0 : Int), Value.int IntKind.i64 (0 : Int), Value.bool false, Value.int IntKind.u8 (0 : Int)], bytes := (24 : Nat), agg := true, kind := TK.struct [((0 : Nat), (2 : Nat)), ((2 : Nat), (1 : Nat)), ((3 : Nat), (1 : Nat))] }))) = true) = true, decide (nat_lit 33 = (33 : TypeId) ∧ List.length (List.map Ps.enc []) + List.length (List.take (Int.toNat i - (0 : Nat)) (List.drop (0 : Nat) (List.map Ps.enc b))) ≤ (4294967296 : Nat) ∧ Oper.dst { dst := some (30 : Nat), op := Op.call { callee := Callee.builtin Builtin.append, args := #[Operand.tmp (26 : Nat), Operand.tmp (29 : Nat)], argTypes := #[(23 : Nat), (23 : Nat)] }, type := (23 : Nat), pos := "law.go:71", after := #[{ on := (0 : Nat), ground := Ground.data }, { on := (3 : Nat), ground := Ground.data }], guard := none } ≠ some (26 : Nat)) = true, AV.sl Mode.own (nat_lit 33) (if List.length (List.map Ps.enc []) + List.length (List.take (Int.toNat i - (0 : Nat)) (List.drop (0 : Nat) (List.map Ps.enc b))) ≤ (0 : Nat) then some (0 : Nat) else none) (List.map Ps.enc [] ++ List.take (Int.toNat i - (0 : Nat)) (List.drop (0 : Nat) (List.map Ps.enc b))) = AV.sl Mode.own (nat_lit 33) (if List.length (List.map Ps.enc []) + List.length (List.take (Int.toNat i - (0 : Nat)) (List.drop (0 : Nat) (List.map Ps.enc b))) ≤ (0 : Nat) then some (0 : Nat) else none) (List.map Ps.enc ([] ++ List.take (Int.toNat i - (0 : Nat)) (List.drop (0 : Nat) b))), decide ((0 : Int) ≤ IntKind.wrap IntKind.i64 (i + (2 : Int))) = true, decide (Int.toNat (IntKind.wrap IntKind.i64 (i + (2 : Int))) ≤ List.length (List.map Ps.enc b) ∧ List.length (List.map Ps.enc b) ≤ List.length (List.map Ps.enc b)) = true, decide (Int.toNat (IntKind.wrap IntKind.i64 (i + (2 : Int))) + (List.length (List.map Ps.enc b) - Int.toNat (IntKind.wrap IntKind.i64 (i + (2 : Int)))) ≤ List.length (List.map Ps.enc b)) = true, decide ((23 : Nat) = (23 : Nat) ∧ (List.all (List.take (List.length (List.map Ps.enc b) - Int.toNat (IntKind.wrap IntKind.i64 (i + (2 : Int)))) (List.drop (Int.toNat (IntKind.wrap IntKind.i64 (i + (2 : Int)))) (List.map Ps.enc b))) fun y => List.all (AV.ecells y) plainA) = true ∧ (List.all (List.take (List.length (List.map Ps.enc b) - Int.toNat (IntKind.wrap IntKind.i64 (i + (2 : Int)))) (List.drop (Int.toNat (IntKind.wrap IntKind.i64 (i + (2 : Int)))) (List.map Ps.enc b))) fun y => decide (List.length (AV.ecells y) = List.length (TInfo.zero { zero := [Value.int IntKind.u8 (0 : Int), Value.int IntKind.i64 (0 : Int), Value.bool false, Value.int IntKind.u8 (0 : Int)], bytes := (24 : Nat), agg := true, kind := TK.struct [((0 : Nat), (2 : Nat)), ((2 : Nat), (1 : Nat)), ((3 : Nat), (1 : Nat))] }))) = true) = true, decide (nat_lit 33 = (33 : TypeId) ∧ List.length (List.map Ps.enc ([] ++ List.take (Int.toNat i - (0 : Nat)) (List.drop (0 : Nat) b))) + List.length (List.take (List.length (List.map Ps.enc b) - Int.toNat (IntKind.wrap IntKind.i64 (i + (2 : Int)))) (List.drop (Int.toNat (IntKind.wrap IntKind.i64 (i + (2 : Int)))) (List.map Ps.enc b))) ≤ (4294967296 : Nat) ∧ Oper.dst { dst := some (35 : Nat), op := Op.call { callee := Callee.builtin Builtin.append, args := #[Operand.tmp (30 : Nat), Operand.tmp (34 : Nat)], argTypes := #[(23 : Nat), (23 : Nat)] }, type := (23 : Nat), pos := "law.go:71", after := #[{ on := (4 : Nat), ground := Ground.data }, { on := (8 : Nat), ground := Ground.data }, { on := (4 : Nat), ground := Ground.chain }], guard := none } ≠ some (30 : Nat)) = true, AV.sl Mode.own (nat_lit 33)
    (match if List.length (List.map Ps.enc []) + List.length (List.take (Int.toNat i - (0 : Nat)) (List.drop (0 : Nat) (List.map Ps.enc b))) ≤ (0 : Nat) then some (0 : Nat) else none with
    | some c => if List.length (List.map Ps.enc ([] ++ List.take (Int.toNat i - (0 : Nat)) (List.drop (0 : Nat) b))) + List.length (List.take (List.length (List.map Ps.enc b) - Int.toNat (IntKind.wrap IntKind.i64 (i + (2 : Int)))) (List.drop (Int.toNat (IntKind.wrap IntKind.i64 (i + (2 : Int)))) (List.map Ps.enc b))) ≤ c then some c else none
    | none => none)
    (List.map Ps.enc ([] ++ List.take (Int.toNat i - (0 : Nat)) (List.drop (0 : Nat) b)) ++ List.take (List.length (List.map Ps.enc b) - Int.toNat (IntKind.wrap IntKind.i64 (i + (2 : Int)))) (List.drop (Int.toNat (IntKind.wrap IntKind.i64 (i + (2 : Int)))) (List.map Ps.enc b))) =
  AV.sl Mode.own (nat_lit 33)
    (match if List.length (List.map Ps.enc []) + List.length (List.take (Int.toNat i - (0 : Nat)) (List.drop (0 : Nat) (List.map Ps.enc b))) ≤ (0 : Nat) then some (0 : Nat) else none with
    | some c => if List.length (List.map Ps.enc ([] ++ List.take (Int.toNat i - (0 : Nat)) (List.drop (0 : Nat) b))) + List.length (List.take (List.length (List.map Ps.enc b) - Int.toNat (IntKind.wrap IntKind.i64 (i + (2 : Int)))) (List.drop (Int.toNat (IntKind.wrap IntKind.i64 (i + (2 : Int)))) (List.map Ps.enc b))) ≤ c then some c else none
    | none => none)
    (List.map Ps.enc ([] ++ List.take (Int.toNat i - (0 : Nat)) (List.drop (0 : Nat) b) ++ List.take (List.length (List.map Ps.enc b) - Int.toNat (IntKind.wrap IntKind.i64 (i + (2 : Int)))) (List.drop (Int.toNat (IntKind.wrap IntKind.i64 (i + (2 : Int)))) b)))]) (ans' := []) (base 41 0) cxA_K.1 cxA_K.2 _ (by kernel_rfl)  (allp g0 (allp g1 (allp g2 (allp g3 (allp g4 (allp g5 (allp g6 (allp (by first | (apply lcancel_c <;> (first | assumption | rfl | (simp at *; done) | (simp at *; omega)))) (allp g7 (allp g8 (allp g9 (allp g10 (allp g11 (allp g12 (allp g13 (allp g14 (allp g15 (allp g16 (allp g17 (allp g18 (allp g19 (allp g20 allp_nil))))))))))))))))))))))
theorem lredu_2 (b : List Ps) (i : Int) (g0 : decide (IntKind.wrap IntKind.i64 (i + (1 : Int)) < (↑(List.length (List.map Ps.enc b)) : Int)) = false) : Tri Try.prog (cxN 41 0) (loopBody Try.f18 0) ([(3, ow none b), (4, it i)] ) (Ex.exit (nat_lit 0)) ([(nat_lit 3, AV.sl Mode.own (nat_lit 33) none (List.map Ps.enc b)), (nat_lit 4, AV.atom (Value.int IntKind.i64 i)), (nat_lit 12, AV.atom (Value.bool (decide (IntKind.wrap IntKind.i64 (i + (1 : Int)) < (↑(List.length (List.map Ps.enc b)) : Int)))))]) :=
  evA_ok (H := h18) (ans := [Ans.c, Ans.c, Ans.c, Ans.c, Ans.c, Ans.b false]) (ps := [decide (IntKind.wrap IntKind.i64 (i + (1 : Int)) < (↑(List.length (List.map Ps.enc b)) : Int)) = false]) (ans' := []) (base 41 0) cxA_K.1 cxA_K.2 _ (by kernel_rfl)  (allp g0 allp_nil)


theorem lback_0 (b : List Ps) (i : Int) (g0 : decide ((0 : Int) ≤ i) = true) (g1 : decide ((0 : Int) ≤ i ∧ i < (↑(List.length (List.map Ps.enc b)) : Int)) = true) (g2 : decide (Int.toNat i < List.length (List.map Ps.enc b)) = true) (g3 : List.getD (List.map Ps.enc b) (Int.toNat i) AV.bad = Ps.enc (List.getD b (Int.toNat i) default)) (g4 : decide ((0 : Int) ≤ IntKind.wrap IntKind.i64 (i + (1 : Int)) ∧ IntKind.wrap IntKind.i64 (i + (1 : Int)) < (↑(List.length (List.map Ps.enc b)) : Int)) = true) (g5 : decide (Int.toNat (IntKind.wrap IntKind.i64 (i + (1 : Int))) < List.length (List.map Ps.enc b)) = true) (g6 : List.getD (List.map Ps.enc b) (Int.toNat (IntKind.wrap IntKind.i64 (i + (1 : Int)))) AV.bad = Ps.enc (List.getD b (Int.toNat (IntKind.wrap IntKind.i64 (i + (1 : Int)))) default)) (g7 : ((if lcan (List.getD b (Int.toNat i) default) (List.getD b (Int.toNat (IntKind.wrap IntKind.i64 (i + (1 : Int)))) default) = true then (1 : Int) else (0 : Int)) == (0 : Int)) = true) : Tri Try.prog (cxN 40 0) (loopBody Try.f20 0) ([(3, ow none b), (4, it i)] ) (Ex.normal) ([(nat_lit 3, AV.sl Mode.own (nat_lit 33) none (List.map Ps.enc b)), (nat_lit 4, AV.atom (Value.int IntKind.i64 (IntKind.wrap IntKind.i64 (i - (1 : Int)))))]) :=
  evA_ok (H := h20) (ans := [Ans.c, Ans.c, Ans.b true, Ans.c, Ans.c, Ans.b true, Ans.c, Ans.b true, Ans.r (Ps.enc (List.getD b (Int.toNat i) default)), Ans.c, Ans.c, Ans.c, Ans.c, Ans.b true, Ans.c, Ans.b true, Ans.r (Ps.enc (List.getD b (Int.toNat (IntKind.wrap IntKind.i64 (i + (1 : Int)))) default)), Ans.c, Ans.r (AV.atom (Value.int IntKind.i64 (if lcan (List.getD b (Int.toNat i) default) (List.getD b (Int.toNat (IntKind.wrap IntKind.i64 (i + (1 : Int)))) default) = true then (1 : Int) else (0 : Int)))), Ans.c, Ans.c, Ans.c, Ans.b true, Ans.c, Ans.c, Ans.c]) (ps := [decide ((0 : Int) ≤ i) = true, decide ((0 : Int) ≤ i ∧ i < (↑(List.length (List.map Ps.enc b)) : Int)) = true, decide (Int.toNat i < List.length (List.map Ps.enc b)) = true, List.getD (List.map Ps.enc b) (Int.toNat i) AV.bad = Ps.enc (List.getD b (Int.toNat i) default), decide ((0 : Int) ≤ IntKind.wrap IntKind.i64 (i + (1 : Int)) ∧ IntKind.wrap IntKind.i64 (i + (1 : Int)) < (↑(List.length (List.map Ps.enc b)) : Int)) = true, decide (Int.toNat (IntKind.wrap IntKind.i64 (i + (1 : Int))) < List.length (List.map Ps.enc b)) = true, List.getD (List.map Ps.enc b) (Int.toNat (IntKind.wrap IntKind.i64 (i + (1 : Int)))) AV.bad = Ps.enc (List.getD b (Int.toNat (IntKind.wrap IntKind.i64 (i + (1 : Int)))) default), PureC Try.prog (nat_lit 21) [AV.agg [AV.atom (Value.int IntKind.u8 (Ps.y (List.getD b (Int.toNat i) default))), AV.atom (Value.int IntKind.i64 (Ps.n (List.getD b (Int.toNat i) default))), AV.atom (Value.bool (Ps.f (List.getD b (Int.toNat i) default))), AV.atom (Value.int IntKind.u8 (Ps.d (List.getD b (Int.toNat i) default)))], AV.agg [AV.atom (Value.int IntKind.u8 (Ps.y (List.getD b (Int.toNat (IntKind.wrap IntKind.i64 (i + (1 : Int)))) default))), AV.atom (Value.int IntKind.i64 (Ps.n (List.getD b (Int.toNat (IntKind.wrap IntKind.i64 (i + (1 : Int)))) default))), AV.atom (Value.bool (Ps.f (List.getD b (Int.toNat (IntKind.wrap IntKind.i64 (i + (1 : Int)))) default))), AV.atom (Value.int IntKind.u8 (Ps.d (List.getD b (Int.toNat (IntKind.wrap IntKind.i64 (i + (1 : Int)))) default)))]] (AV.atom (Value.int IntKind.i64 (if lcan (List.getD b (Int.toNat i) default) (List.getD b (Int.toNat (IntKind.wrap IntKind.i64 (i + (1 : Int)))) default) = true then (1 : Int) else (0 : Int)))), ((if lcan (List.getD b (Int.toNat i) default) (List.getD b (Int.toNat (IntKind.wrap IntKind.i64 (i + (1 : Int)))) default) = true then (1 : Int) else (0 : Int)) == (0 : Int)) = true]) (ans' := []) (base 40 0) cxA_K.1 cxA_K.2 _ (by kernel_rfl)  (allp g0 (allp g1 (allp g2 (allp g3 (allp g4 (allp g5 (allp g6 (allp (by first | (apply lcancel_c <;> (first | assumption | rfl | (simp at *; done) | (simp at *; omega)))) (allp g7 allp_nil)))))))))
theorem lback_1 (b : List Ps) (i : Int) (g0 : decide ((0 : Int) ≤ i) = true) (g1 : decide ((0 : Int) ≤ i ∧ i < (↑(List.length (List.map Ps.enc b)) : Int)) = true) (g2 : decide (Int.toNat i < List.length (List.map Ps.enc b)) = true) (g3 : List.getD (List.map Ps.enc b) (Int.toNat i) AV.bad = Ps.enc (List.getD b (Int.toNat i) default)) (g4 : decide ((0 : Int) ≤ IntKind.wrap IntKind.i64 (i + (1 : Int)) ∧ IntKind.wrap IntKind.i64 (i + (1 : Int)) < (↑(List.length (List.map Ps.enc b)) : Int)) = true) (g5 : decide (Int.toNat (IntKind.wrap IntKind.i64 (i + (1 : Int))) < List.length (List.map Ps.enc b)) = true) (g6 : List.getD (List.map Ps.enc b) (Int.toNat (IntKind.wrap IntKind.i64 (i + (1 : Int)))) AV.bad = Ps.enc (List.getD b (Int.toNat (IntKind.wrap IntKind.i64 (i + (1 : Int)))) default)) (g7 : ((if lcan (List.getD b (Int.toNat i) default) (List.getD b (Int.toNat (IntKind.wrap IntKind.i64 (i + (1 : Int)))) default) = true then (1 : Int) else (0 : Int)) == (0 : Int)) = false) (g8 : AV.sl Mode.own (nat_lit 33) (some (nat_lit 0)) [] = AV.sl Mode.own (nat_lit 33) (some (0 : Nat)) (List.map Ps.enc [])) (g9 : decide ((0 : Nat) ≤ Int.toNat i ∧ Int.toNat i ≤ List.length (List.map Ps.enc b)) = true) (g10 : decide ((0 : Nat) + (Int.toNat i - (0 : Nat)) ≤ List.length (List.map Ps.enc b)) = true) (g11 : decide ((23 : Nat) = (23 : Nat) ∧ (List.all (List.take (Int.toNat i - (0 : Nat)) (List.drop (0 : Nat) (List.map Ps.enc b))) fun y => List.all (AV.ecells y) plainA) = true ∧ (List.all (List.take (Int.toNat i - (0 : Nat)) (List.drop (0 : Nat) (List.map Ps.enc b))) fun y => decide (List.length (AV.ecells y) = List.length (TInfo.zero { zero := [Value.int IntKind.u8 (0 : Int), Value.int IntKind.i64 (0 : Int), Value.bool false, Value.int IntKind.u8 (0 : Int)], bytes := (24 : Nat), agg := true, kind := TK.struct [((0 : Nat), (2 : Nat)), ((2 : Nat), (1 : Nat)), ((3 : Nat), (1 : Nat))] }))) = true) = true) (g12 : decide (nat_lit 33 = (33 : TypeId) ∧ List.length (List.map Ps.enc []) + List.length (List.take (Int.toNat i - (0 : Nat)) (List.drop (0 : Nat) (List.map Ps.enc b))) ≤ (4294967296 : Nat) ∧ Oper.dst { dst := some (30 : Nat), op := Op.call { callee := Callee.builtin Builtin.append, args := #[Operand.tmp (26 : Nat), Operand.tmp (29 : Nat)], argTypes := #[(23 : Nat), (23 : Nat)] }, type := (23 : Nat), pos := "law.go:85", after := #[{ on := (0 : Nat), ground := Ground.data }, { on := (3 : Nat), ground := Ground.data }], guard := none } ≠ some (26 : Nat)) = true) (g13 : AV.sl Mode.own (nat_lit 33) (if List.length (List.map Ps.enc []) + List.length (List.take (Int.toNat i - (0 : Nat)) (List.drop (0 : Nat) (List.map Ps.enc b))) ≤ (0 : Nat) then some (0 : Nat) else none) (List.map Ps.enc [] ++ List.take (Int.toNat i - (0 : Nat)) (List.drop (0 : Nat) (List.map Ps.enc b))) = AV.sl Mode.own (nat_lit 33) (if List.length (List.map Ps.enc []) + List.length (List.take (Int.toNat i - (0 : Nat)) (List.drop (0 : Nat) (List.map Ps.enc b))) ≤ (0 : Nat) then some (0 : Nat) else none) (List.map Ps.enc ([] ++ List.take (Int.toNat i - (0 : Nat)) (List.drop (0 : Nat) b)))) (g14 : decide ((0 : Int) ≤ IntKind.wrap IntKind.i64 (i + (2 : Int))) = true) (g15 : decide (Int.toNat (IntKind.wrap IntKind.i64 (i + (2 : Int))) ≤ List.length (List.map Ps.enc b) ∧ List.length (List.map Ps.enc b) ≤ List.length (List.map Ps.enc b)) = true) (g16 : decide (Int.toNat (IntKind.wrap IntKind.i64 (i + (2 : Int))) + (List.length (List.map Ps.enc b) - Int.toNat (IntKind.wrap IntKind.i64 (i + (2 : Int)))) ≤ List.length (List.map Ps.enc b)) = true) (g17 : decide ((23 : Nat) = (23 : Nat) ∧ (List.all (List.take (List.length (List.map Ps.enc b) - Int.toNat (IntKind.wrap IntKind.i64 (i + (2 : Int)))) (List.drop (Int.toNat (IntKind.wrap IntKind.i64 (i + (2 : Int)))) (List.map Ps.enc b))) fun y => List.all (AV.ecells y) plainA) = true ∧ (List.all (List.take (List.length (List.map Ps.enc b) - Int.toNat (IntKind.wrap IntKind.i64 (i + (2 : Int)))) (List.drop (Int.toNat (IntKind.wrap IntKind.i64 (i + (2 : Int)))) (List.map Ps.enc b))) fun y => decide (List.length (AV.ecells y) = List.length (TInfo.zero { zero := [Value.int IntKind.u8 (0 : Int), Value.int IntKind.i64 (0 : Int), Value.bool false, Value.int IntKind.u8 (0 : Int)], bytes := (24 : Nat), agg := true, kind := TK.struct [((0 : Nat), (2 : Nat)), ((2 : Nat), (1 : Nat)), ((3 : Nat), (1 : Nat))] }))) = true) = true) (g18 : decide (nat_lit 33 = (33 : TypeId) ∧ List.length (List.map Ps.enc ([] ++ List.take (Int.toNat i - (0 : Nat)) (List.drop (0 : Nat) b))) + List.length (List.take (List.length (List.map Ps.enc b) - Int.toNat (IntKind.wrap IntKind.i64 (i + (2 : Int)))) (List.drop (Int.toNat (IntKind.wrap IntKind.i64 (i + (2 : Int)))) (List.map Ps.enc b))) ≤ (4294967296 : Nat) ∧ Oper.dst { dst := some (35 : Nat), op := Op.call { callee := Callee.builtin Builtin.append, args := #[Operand.tmp (30 : Nat), Operand.tmp (34 : Nat)], argTypes := #[(23 : Nat), (23 : Nat)] }, type := (23 : Nat), pos := "law.go:85", after := #[{ on := (4 : Nat), ground := Ground.data }, { on := (8 : Nat), ground := Ground.data }, { on := (4 : Nat), ground := Ground.chain }], guard := none } ≠ some (30 : Nat)) = true) (g19 : AV.sl Mode.own (nat_lit 33)
    (match if List.length (List.map Ps.enc []) + List.length (List.take (Int.toNat i - (0 : Nat)) (List.drop (0 : Nat) (List.map Ps.enc b))) ≤ (0 : Nat) then some (0 : Nat) else none with
    | some c => if List.length (List.map Ps.enc ([] ++ List.take (Int.toNat i - (0 : Nat)) (List.drop (0 : Nat) b))) + List.length (List.take (List.length (List.map Ps.enc b) - Int.toNat (IntKind.wrap IntKind.i64 (i + (2 : Int)))) (List.drop (Int.toNat (IntKind.wrap IntKind.i64 (i + (2 : Int)))) (List.map Ps.enc b))) ≤ c then some c else none
    | none => none)
    (List.map Ps.enc ([] ++ List.take (Int.toNat i - (0 : Nat)) (List.drop (0 : Nat) b)) ++ List.take (List.length (List.map Ps.enc b) - Int.toNat (IntKind.wrap IntKind.i64 (i + (2 : Int)))) (List.drop (Int.toNat (IntKind.wrap IntKind.i64 (i + (2 : Int)))) (List.map Ps.enc b))) =
  AV.sl Mode.own (nat_lit 33)
    (match if List.length (List.map Ps.enc []) + List.length (List.take (Int.toNat i - (0 : Nat)) (List.drop (0 : Nat) (List.map Ps.enc b))) ≤ (0 : Nat) then some (0 : Nat) else none with
    | some c => if List.length (List.map Ps.enc ([] ++ List.take (Int.toNat i - (0 : Nat)) (List.drop (0 : Nat) b))) + List.length (List.take (List.length (List.map Ps.enc b) - Int.toNat (IntKind.wrap IntKind.i64 (i + (2 : Int)))) (List.drop (Int.toNat (IntKind.wrap IntKind.i64 (i + (2 : Int)))) (List.map Ps.enc b))) ≤ c then some c else none
    | none => none)
    (List.map Ps.enc ([] ++ List.take (Int.toNat i - (0 : Nat)) (List.drop (0 : Nat) b) ++ List.take (List.length (List.map Ps.enc b) - Int.toNat (IntKind.wrap IntKind.i64 (i + (2 : Int)))) (List.drop (Int.toNat (IntKind.wrap IntKind.i64 (i + (2 : Int)))) b)))) : Tri Try.prog (cxN 40 0) (loopBody Try.f20 0) ([(3, ow none b), (4, it i)] ) (Ex.normal) ([(nat_lit 3,
    AV.sl Mode.own (nat_lit 33)
      (match if List.length (List.map Ps.enc []) + List.length (List.take (Int.toNat i - (0 : Nat)) (List.drop (0 : Nat) (List.map Ps.enc b))) ≤ (0 : Nat) then some (0 : Nat) else none with
      | some c => if List.length (List.map Ps.enc ([] ++ List.take (Int.toNat i - (0 : Nat)) (List.drop (0 : Nat) b))) + List.length (List.take (List.length (List.map Ps.enc b) - Int.toNat (IntKind.wrap IntKind.i64 (i + (2 : Int)))) (List.drop (Int.toNat (IntKind.wrap IntKind.i64 (i + (2 : Int)))) (List.map Ps.enc b))) ≤ c then some c else none
      | none => none)
      (List.map Ps.enc ([] ++ List.take (Int.toNat i - (0 : Nat)) (List.drop (0 : Nat) b) ++ List.take (List.length (List.map Ps.enc b) - Int.toNat (IntKind.wrap IntKind.i64 (i + (2 : Int)))) (List.drop (Int.toNat (IntKind.wrap IntKind.i64 (i + (2 : Int)))) b)))),
  (nat_lit 4, AV.atom (Value.int IntKind.i64 (IntKind.wrap IntKind.i64 ((↑(List.length (List.map Ps.enc ([] ++ List.take (Int.toNat i - (0 : Nat)) (List.drop (0 : Nat) b) ++ List.take (List.length (List.map Ps.enc b) - Int.toNat (IntKind.wrap IntKind.i64 (i + (2 : Int)))) (List.drop (Int.toNat (IntKind.wrap IntKind.i64 (i + (2 : Int)))) b)))) : Int) - (2 : Int)))))]) :=
  evA_ok (H := h20) (ans := [Ans.c, Ans.c, Ans.b true, Ans.c, Ans.c, Ans.b true, Ans.c, Ans.b true, Ans.r (Ps.enc (List.getD b (Int.toNat i) default)), Ans.c, Ans.c, Ans.c, Ans.c, Ans.b true, Ans.c, Ans.b true, Ans.r (Ps.enc (List.getD b (Int.toNat (IntKind.wrap IntKind.i64 (i + (1 : Int)))) default)), Ans.c, Ans.r (AV.atom (Value.int IntKind.i64 (if lcan (List.getD b (Int.toNat i) default) (List.getD b (Int.toNat (IntKind.wrap IntKind.i64 (i + (1 : Int)))) default) = true then (1 : Int) else (0 : Int)))), Ans.c, Ans.c, Ans.c, Ans.b false, Ans.r (AV.sl Mode.own (nat_lit 33) (some (0 : Nat)) (List.map Ps.enc [])), Ans.c, Ans.c, Ans.b true, Ans.b true, Ans.c, Ans.b true, Ans.b true, Ans.b true, Ans.r (AV.sl Mode.own (nat_lit 33) (if List.length (List.map Ps.enc []) + List.length (List.take (Int.toNat i - (0 : Nat)) (List.drop (0 : Nat) (List.map Ps.enc b))) ≤ (0 : Nat) then some (0 : Nat) else none) (List.map Ps.enc ([] ++ List.take (Int.toNat i - (0 : Nat)) (List.drop (0 : Nat) b)))), Ans.c, Ans.c, Ans.c, Ans.b true, Ans.b true, Ans.c, Ans.b true, Ans.b true, Ans.b true, Ans.r
  (AV.sl Mode.own (nat_lit 33)
    (match if List.length (List.map Ps.enc []) + List.length (List.take (Int.toNat i - (0 : Nat)) (List.drop (0 : Nat) (List.map Ps.enc b))) ≤ (0 : Nat) then some (0 : Nat) else none with
    | some c => if List.length (List.map Ps.enc ([] ++ List.take (Int.toNat i - (0 : Nat)) (List.drop (0 : Nat) b))) + List.length (List.take (List.length (List.map Ps.enc b) - Int.toNat (IntKind.wrap IntKind.i64 (i + (2 : Int)))) (List.drop (Int.toNat (IntKind.wrap IntKind.i64 (i + (2 : Int)))) (List.map Ps.enc b))) ≤ c then some c else none
    | none => none)
    (List.map Ps.enc ([] ++ List.take (Int.toNat i - (0 : Nat)) (List.drop (0 : Nat) b) ++ List.take (List.length (List.map Ps.enc b) - Int.toNat (IntKind.wrap IntKind.i64 (i + (2 : Int)))) (List.drop (Int.toNat (IntKind.wrap IntKind.i64 (i + (2 : Int)))) b)))), Ans.c, Ans.c, Ans.c, Ans.c, Ans.c]) (ps := [decide ((0 : Int) ≤ i) = true, decide ((0 : Int) ≤ i ∧ i < (↑(List.length (List.map Ps.enc b)) : Int)) = true, decide (Int.toNat i < List.length (List.map Ps.enc b)) = true, List.getD (List.map Ps.enc b) (Int.toNat i) AV.bad = Ps.enc (List.getD b (Int.toNat i) default), decide ((0 : Int) ≤ IntKind.wrap IntKind.i64 (i + (1 : Int)) ∧ IntKind.wrap IntKind.i64 (i + (1 : Int)) < (↑(List.length (List.map Ps.enc b)) : Int)) = true, decide (Int.toNat (IntKind.wrap IntKind.i64 (i + (1 : Int))) < List.length (List.map Ps.enc b)) = true, List.getD (List.map Ps.enc b) (Int.toNat (IntKind.wrap IntKind.i64 (i + (1 : Int)))) AV.bad = Ps.enc (List.getD b (Int.toNat (IntKind.wrap IntKind.i64 (i + (1 : Int)))) default), PureC Try.prog (nat_lit 21) [AV.agg [AV.atom (Value.int IntKind.u8 (Ps.y (List.getD b (Int.toNat i) default))), AV.atom (Value.int IntKind.i64 (Ps.n (List.getD b (Int.toNat i) default))), AV.atom (Value.bool (Ps.f (List.getD b (Int.toNat i) default))), AV.atom (Value.int IntKind.u8 (Ps.d (List.getD b (Int.toNat i) default)))], AV.agg [AV.atom (Value.int IntKind.u8 (Ps.y (List.getD b (Int.toNat (IntKind.wrap IntKind.i64 (i + (1 : Int)))) default))), AV.atom (Value.int IntKind.i64 (Ps.n (List.getD b (Int.toNat (IntKind.wrap IntKind.i64 (i + (1 : Int)))) default))), AV.atom (Value.bool (Ps.f (List.getD b (Int.toNat (IntKind.wrap IntKind.i64 (i + (1 : Int)))) default))), AV.atom (Value.int IntKind.u8 (Ps.d (List.getD b (Int.toNat (IntKind.wrap IntKind.i64 (i + (1 : Int)))) default)))]] (AV.atom (Value.int IntKind.i64 (if lcan (List.getD b (Int.toNat i) default) (List.getD b (Int.toNat (IntKind.wrap IntKind.i64 (i + (1 : Int)))) default) = true then (1 : Int) else (0 : Int)))), ((if lcan (List.getD b (Int.toNat i) default) (List.getD b (Int.toNat (IntKind.wrap IntKind.i64 (i + (1 : Int)))) default) = true then (1 : Int) else (0 : Int)) == (0 : Int)) = false, AV.sl Mode.own (nat_lit 33) (some (nat_lit 0)) [] = AV.sl Mode.own (nat_lit 33) (some (0 : Nat)) (List.map Ps.enc []), decide ((0 : Int) ≤ i) = true, decide ((0 : Nat) ≤ Int.toNat i ∧ Int.toNat i ≤ List.length (List.map Ps.enc b)) = true, decide ((0 : Nat) + (Int.toNat i - (0 : Nat)) ≤ List.length (List.map Ps.enc b)) = true, decide ((23 : Nat) = (23 : Nat) ∧ (List.all (List.take (Int.toNat i - (0 : Nat)) (List.drop (0 : Nat) (List.map Ps.enc b))) fun y => List.all (AV.ecells y) plainA) = true ∧ (List.all (List.take (Int.toNat i - (0 : Nat)) (List.drop (0 : Nat) (List.map Ps.enc b))) fun y => decide (List.length (AV.ecells y) = List.length (TInfo.zero { zero := [Value.int IntKind.u8 (0 : Int), Value.int IntKind.i64 (0 : Int), Value.bool false, Value.int IntKind.u8 (0 : Int)], bytes := (24 : Nat), agg := true, kind := TK.struct [((0 : Nat), (2 : Nat)), ((2 : Nat), (1 : Nat)), ((3 : Nat), (1 : Nat))] }))) = true) = true, decide (nat_lit 33 = (33 : TypeId) ∧ List.length (List.map Ps.enc []) + List.length (List.take (Int.toNat i - (0 : Nat)) (List.drop (0 : Nat) (List.map Ps.enc b))) ≤ (4294967296 : Nat) ∧ Oper.dst { dst := some (30 : Nat), op := Op.call { callee := Callee.builtin Builtin.append, args := #[Operand.tmp (26 : Nat), Operand.tmp (29 : Nat)], argTypes := #[(23 : Nat), (23 : Nat)] }, type := (23 : Nat), pos := "law.go:85", after := #[{ on := (0 : Nat), ground := Ground.data }, { on := (3 : Nat), ground := Ground.data }], guard := none } ≠ some (26 : Nat)) = true, AV.sl Mode.own (nat_lit 33) (if List.length (List.map Ps.enc []) + List.length (List.take (Int.toNat i - (0 : Nat)) (List.drop (0 : Nat) (List.map Ps.enc b))) ≤ (0 : Nat) then some (0 : Nat) else none) (List.map Ps.enc [] ++ List.take (Int.toNat i - (0 : Nat)) (List.drop (0 : Nat) (List.map Ps.enc b))) = AV.sl Mode.own (nat_lit 33) (if List.length (List.map Ps.enc []) + List.length (List.take (Int.toNat i - (0 : Nat)) (List.drop (0 : Nat) (List.map Ps.enc b))) ≤ (0 : Nat) then some (0 : Nat) else none) (List.map Ps.enc ([] ++ List.take (Int.toNat i - (0 : Nat)) (List.drop (0 : Nat) b))), decide ((0 : Int) ≤ IntKind.wrap IntKind.i64 (i + (2 : Int))) = true, decide (Int.toNat (IntKind.wrap IntKind.i64 (i + (2 : Int))) ≤ List.length (List.map Ps.enc b) ∧ List.length (List.map Ps.enc b) ≤ List.length (List.map Ps.enc b)) = true, decide (Int.toNat (IntKind.wrap IntKind.i64 (i + (2 : Int))) + (List.length (List.map Ps.enc b) - Int.toNat (IntKind.wrap IntKind.i64 (i + (2 : Int)))) ≤ List.length (List.map Ps.enc b)) = true, decide ((23 : Nat) = (23 : Nat) ∧ (List.all (List.take (List.length (List.map Ps.enc b) - Int.toNat (IntKind.wrap IntKind.i64 (i + (2 : Int)))) (List.drop (Int.toNat (IntKind.wrap IntKind.i64 (i + (2 : Int)))) (List.map Ps.enc b))) fun y => List.all (AV.ecells y) plainA) = true ∧ (List.all (List.take (List.length (List.map Ps.enc b) - Int.toNat (IntKind.wrap IntKind.i64 (i + (2 : Int)))) (List.drop (Int.toNat (IntKind.wrap IntKind.i64 (i + (2 : Int)))) (List.map Ps.enc b))) fun y => decide (List.length (AV.ecells y) = List.length (TInfo.zero { zero := [Value.int IntKind.u8 (0 : Int), Value.int IntKind.i64 (0 : Int), Value.bool false, Value.int IntKind.u8 (0 : Int)], bytes := (24 : Nat), agg := true, kind := TK.struct [((0 : Nat), (2 : Nat)), ((2 : Nat), (1 : Nat)), ((3 : Nat), (1 : Nat))] }))) = true) = true, decide (nat_lit 33 = (33 : TypeId) ∧ List.length (List.map Ps.enc ([] ++ List.take (Int.toNat i - (0 : Nat)) (List.drop (0 : Nat) b))) + List.length (List.take (List.length (List.map Ps.enc b) - Int.toNat (IntKind.wrap IntKind.i64 (i + (2 : Int)))) (List.drop (Int.toNat (IntKind.wrap IntKind.i64 (i + (2 : Int)))) (List.map Ps.enc b))) ≤ (4294967296 : Nat) ∧ Oper.dst { dst := some (35 : Nat), op := Op.call { callee := Callee.builtin Builtin.append, args := #[Operand.tmp (30 : Nat), Operand.tmp (34 : Nat)], argTypes := #[(23 : Nat), (23 : Nat)] }, type := (23 : Nat), pos := "law.go:85", after := #[{ on := (4 : Nat), ground := Ground.data }, { on := (8 : Nat), ground := Ground.data }, { on := (4 : Nat), ground := Ground.chain }], guard := none } ≠ some (30 : Nat)) = true, AV.sl Mode.own (nat_lit 33)
    (match if List.length (List.map Ps.enc []) + List.length (List.take (Int.toNat i - (0 : Nat)) (List.drop (0 : Nat) (List.map Ps.enc b))) ≤ (0 : Nat) then some (0 : Nat) else none with
    | some c => if List.length (List.map Ps.enc ([] ++ List.take (Int.toNat i - (0 : Nat)) (List.drop (0 : Nat) b))) + List.length (List.take (List.length (List.map Ps.enc b) - Int.toNat (IntKind.wrap IntKind.i64 (i + (2 : Int)))) (List.drop (Int.toNat (IntKind.wrap IntKind.i64 (i + (2 : Int)))) (List.map Ps.enc b))) ≤ c then some c else none
    | none => none)
    (List.map Ps.enc ([] ++ List.take (Int.toNat i - (0 : Nat)) (List.drop (0 : Nat) b)) ++ List.take (List.length (List.map Ps.enc b) - Int.toNat (IntKind.wrap IntKind.i64 (i + (2 : Int)))) (List.drop (Int.toNat (IntKind.wrap IntKind.i64 (i + (2 : Int)))) (List.map Ps.enc b))) =
  AV.sl Mode.own (nat_lit 33)
    (match if List.length (List.map Ps.enc []) + List.length (List.take (Int.toNat i - (0 : Nat)) (List.drop (0 : Nat) (List.map Ps.enc b))) ≤ (0 : Nat) then some (0 : Nat) else none with
    | some c => if List.length (List.map Ps.enc ([] ++ List.take (Int.toNat i - (0 : Nat)) (List.drop (0 : Nat) b))) + List.length (List.take (List.length (List.map Ps.enc b) - Int.toNat (IntKind.wrap IntKind.i64 (i + (2 : Int)))) (List.drop (Int.toNat (IntKind.wrap IntKind.i64 (i + (2 : Int)))) (List.map Ps.enc b))) ≤ c then some c else none
    | none => none)
    (List.map Ps.enc ([] ++ List.take (Int.toNat i - (0 : Nat)) (List.drop (0 : Nat) b) ++ List.take (List.length (List.map Ps.enc b) - Int.toNat (IntKind.wrap IntKind.i64 (i + (2 : Int)))) (List.drop (Int.toNat (IntKind.wrap IntKind.i64 (i + (2 : Int)))) b)))]) (ans' := []) (base 40 0) cxA_K.1 cxA_K.2 _ (by kernel_rfl)  (allp g0 (allp g1 (allp g2 (allp g3 (allp g4 (allp g5 (allp g6 (allp (by first | (apply lcancel_c <;> (first | assumption | rfl | (simp at *; done) | (simp at *; omega)))) (allp g7 (allp g8 (allp g0 (allp g9 (allp g10 (allp g11 (allp g12 (allp g13 (allp g14 (allp g15 (allp g16 (allp g17 (allp g18 (allp g19 allp_nil))))))))))))))))))))))
theorem lback_2 (b : List Ps) (i : Int) (g0 : decide ((0 : Int) ≤ i) = false) : Tri Try.prog (cxN 40 0) (loopBody Try.f20 0) ([(3, ow none b), (4, it i)] ) (Ex.exit (nat_lit 0)) ([(nat_lit 3, AV.sl Mode.own (nat_lit 33) none (List.map Ps.enc b)), (nat_lit 4, AV.atom (Value.int IntKind.i64 i)), (nat_lit 12, AV.atom (Value.bool (decide ((0 : Int) ≤ i))))]) :=
  evA_ok (H := h20) (ans := [Ans.c, Ans.c, Ans.b false]) (ps := [decide ((0 : Int) ≤ i) = false]) (ans' := []) (base 40 0) cxA_K.1 cxA_K.2 _ (by kernel_rfl)  (allp g0 allp_nil)


end Tst
end

section
open Go Go.Lf Go.Proofs
namespace Tst
theorem wrap_id {n : Int} (h1 : -9223372036854775808 ≤ n) (h2 : n ≤ 9223372036854775807) : IntKind.i64.wrap n = n := by rw [IntKind.wrap_i64]; omega
theorem getD_enc {l : List Ps} {i : Nat} (h : i < l.length) : (l.map Ps.enc).getD i .bad = Ps.enc (l.getD i default) := by
  simp [List.getD_eq_getElem?_getD, h]
theorem getD_u8 {l : List Int} {i : Nat} (h : i < l.length) : (l.map u8).getD i .bad = u8 (l.getD i default) := by
  simp [List.getD_eq_getElem?_getD, h]
theorem all_plain (l : List Ps) : ((l.map Ps.enc).all fun y => y.ecells.all plainA) = true := by
  simp [List.all_eq_true, Ps.enc, AV.ecells, plainA, Value.oneCell']
theorem all_four (l : List Ps) : ((l.map Ps.enc).all fun y => decide (y.ecells.length = 4)) = true := by
  simp [List.all_eq_true, Ps.enc, AV.ecells]
theorem all_atom (l : List Ps) : (flat (l.map Ps.enc)).all flatC = true := by
  simp [List.all_eq_true, flat, Ps.enc, AV.ecells, flatC]
theorem len_lt {l : List Ps} (i : Nat) : decide ((i : Int) < ((l.map Ps.enc).length : Int)) = decide (i < l.length) := by simp
theorem ps_beq (p q : Ps) : (p.y == q.y && p.n == q.n && p.f == q.f && p.d == q.d) = (p == q) := by
  cases p; cases q
  rw [Bool.eq_iff_iff]
  simp [Bool.and_eq_true, and_assoc]

/-! ## same -/
theorem same_eq (ca cb : Option Nat) (a b : List Ps) (hl : a.length = b.length) (hA : a.length < 2 ^ 62) : ∀ (k i : Nat), i + k = a.length → a.drop i = b.drop i →
    Rnd Try.prog (cxN 33 0) (loopBody Try.f19 0) (k + 1) [(0, sl ca a), (1, sl cb b), (5, it i)] (.exit 0) [(0, sl ca a), (1, sl cb b), (5, it a.length), (21, .atom (.bool (decide ((a.length : Int) < ((a.map Ps.enc).length : Int)))))] := by
  intro k
  induction k with
  | zero =>
    intro i hi _
    have hi' : i = a.length := by omega
    subst hi'
    exact Rnd.exit (lsame_2 ca cb a b a.length (by simp)) (by simp)
  | succ k ih =>
    intro i hi hd
    have hlt : i < a.length := by omega
    have hlb : i < b.length := by omega
    have e0 : a.getD i default = b.getD i default := by
      have := congrArg (fun l => l.getD 0 default) hd
      simpa [List.getD_eq_getElem?_getD] using this
    have hd' : a.drop (i + 1) = b.drop (i + 1) := by
      have := congrArg (List.drop 1) hd
      simpa [List.drop_drop, Nat.add_comm] using this
    have h2 := ih (i + 1) (by omega) hd'
    have h1 := lsame_1 ca cb a b i (by simpa using hlt) (by simpa using hlt) (getD_enc hlt) (by simpa using hlb) (getD_enc hlb) (by rw [ps_beq]; simp only [Int.toNat_natCast, e0]; simp)
    rw [wrap_id (by omega) (by omega)] at h1
    exact Rnd.step h1 h2

theorem same_ne (ca cb : Option Nat) (a b : List Ps) (hl : a.length = b.length) (hA : a.length < 2 ^ 62) : ∀ (k i : Nat), i + k = a.length → a.drop i ≠ b.drop i →
    Rnd Try.prog (cxN 33 0) (loopBody Try.f19 0) (k + 1) [(0, sl ca a), (1, sl cb b), (5, it i)] .ret [(4, it 0)] := by
  intro k
  induction k with
  | zero =>
    intro i hi hne
    exact absurd (by rw [List.drop_of_length_le (by omega), List.drop_of_length_le (by omega)]) hne
  | succ k ih =>
    intro i hi hne
    have hlt : i < a.length := by omega
    have hlb : i < b.length := by omega
    by_cases e0 : a.getD i default = b.getD i default
    · have hd' : a.drop (i + 1) ≠ b.drop (i + 1) := by
        intro h
        apply hne
        rw [List.drop_eq_getElem_cons hlt, List.drop_eq_getElem_cons hlb, h]
        congr 1
        simpa [List.getD_eq_getElem?_getD, hlt, hlb] using e0
      have h1 := lsame_1 ca cb a b i (by simpa using hlt) (by simpa using hlt) (getD_enc hlt) (by simpa using hlb) (getD_enc hlb) (by rw [ps_beq]; simp only [Int.toNat_natCast, e0]; simp)
      rw [wrap_id (by omega) (by omega)] at h1
      exact Rnd.step h1 (ih (i + 1) (by omega) hd')
    · exact Rnd.exit (lsame_0 ca cb a b i (by simpa using hlt) (by simpa using hlt) (getD_enc hlt) (by simpa using hlb) (getD_enc hlb) (by rw [ps_beq]; simp only [Int.toNat_natCast]; simpa using e0)) (by simp)

theorem same_loop_eq (ca cb : Option Nat) (a b : List Ps) (h : a = b) (hA : a.length < 2 ^ 62) : Tri Try.prog (cxN 33 0) (.loop (loopBody Try.f19 0)) [(0, sl ca a), (1, sl cb b), (5, it 0)] (.exit 0) [(0, sl ca a), (1, sl cb b), (5, it a.length), (21, .atom (.bool (decide ((a.length : Int) < ((a.map Ps.enc).length : Int)))))] := by
  exact Rnd.loop (same_eq ca cb a b (by rw [h]) hA a.length 0 (by omega) (by rw [h]))
theorem same_loop_ne (ca cb : Option Nat) (a b : List Ps) (hl : a.length = b.length) (h : a ≠ b) (hA : a.length < 2 ^ 62) : Tri Try.prog (cxN 33 0) (.loop (loopBody Try.f19 0)) [(0, sl ca a), (1, sl cb b), (5, it 0)] .ret [(4, it 0)] :=
  Rnd.loop (same_ne ca cb a b hl hA a.length 0 (by omega) (by simpa using h))
end Tst
end

section
open Go Go.Lf Go.Proofs
namespace Tst
theorem samE_0 (ca : Nat) (cb : Option Nat) (a b : List Ps) (h : a = b) (hA : a.length < 2 ^ 62) (g0 : ((↑(List.length (List.map Ps.enc a)) : Int) != (↑(List.length (List.map Ps.enc b)) : Int)) = true) : PureC Try.prog 19 [sl (some ca) a, sl cb b]  (AV.atom (Value.int IntKind.i64 (0 : Int))) :=
  funA_ok (H := h19) (n := 33) (ans := [Ans.c, Ans.c, Ans.c, Ans.c, Ans.c, Ans.c, Ans.c, Ans.b true, Ans.c, Ans.b true, Ans.c, Ans.b true, Ans.c, Ans.b true, Ans.c, Ans.b true, Ans.c, Ans.b true, Ans.c, Ans.c, Ans.c]) (ps := [((↑(List.length (List.map Ps.enc a)) : Int) != (↑(List.length (List.map Ps.enc b)) : Int)) = true, ((↑(List.length (List.map Ps.enc a)) : Int) != (↑(List.length (List.map Ps.enc b)) : Int)) = true, ((↑(List.length (List.map Ps.enc a)) : Int) != (↑(List.length (List.map Ps.enc b)) : Int)) = true, ((↑(List.length (List.map Ps.enc a)) : Int) != (↑(List.length (List.map Ps.enc b)) : Int)) = true, ((↑(List.length (List.map Ps.enc a)) : Int) != (↑(List.length (List.map Ps.enc b)) : Int)) = true, ((↑(List.length (List.map Ps.enc a)) : Int) != (↑(List.length (List.map Ps.enc b)) : Int)) = true]) (base 33 0) Try.func19 rfl (by simp) rfl (by kernel_rfl)  (allp g0 (allp g0 (allp g0 (allp g0 (allp g0 (allp g0 allp_nil))))))
theorem samE_1 (ca : Nat) (cb : Option Nat) (a b : List Ps) (h : a = b) (hA : a.length < 2 ^ 62) (g0 : ((↑(List.length (List.map Ps.enc a)) : Int) != (↑(List.length (List.map Ps.enc b)) : Int)) = false) (g1 : ((↑ca : Int) != (↑(List.length (List.map Ps.enc a)) : Int)) = true) : PureC Try.prog 19 [sl (some ca) a, sl cb b]  (AV.atom (Value.int IntKind.i64 (0 : Int))) :=
  funA_ok (H := h19) (n := 33) (ans := [Ans.c, Ans.c, Ans.c, Ans.c, Ans.c, Ans.c, Ans.c, Ans.b false, Ans.c, Ans.b false, Ans.c, Ans.b false, Ans.c, Ans.b false, Ans.c, Ans.b false, Ans.c, Ans.b false, Ans.c, Ans.b true, Ans.c]) (ps := [((↑(List.length (List.map Ps.enc a)) : Int) != (↑(List.length (List.map Ps.enc b)) : Int)) = false, ((↑(List.length (List.map Ps.enc a)) : Int) != (↑(List.length (List.map Ps.enc b)) : Int)) = false, ((↑(List.length (List.map Ps.enc a)) : Int) != (↑(List.length (List.map Ps.enc b)) : Int)) = false, ((↑(List.length (List.map Ps.enc a)) : Int) != (↑(List.length (List.map Ps.enc b)) : Int)) = false, ((↑(List.length (List.map Ps.enc a)) : Int) != (↑(List.length (List.map Ps.enc b)) : Int)) = false, ((↑(List.length (List.map Ps.enc a)) : Int) != (↑(List.length (List.map Ps.enc b)) : Int)) = false, ((↑ca : Int) != (↑(List.length (List.map Ps.enc a)) : Int)) = true]) (base 33 0) Try.func19 rfl (by simp) rfl (by kernel_rfl)  (allp g0 (allp g0 (allp g0 (allp g0 (allp g0 (allp g0 (allp g1 allp_nil)))))))
theorem samE_2 (ca : Nat) (cb : Option Nat) (a b : List Ps) (h : a = b) (hA : a.length < 2 ^ 62) (g0 : ((↑(List.length (List.map Ps.enc a)) : Int) != (↑(List.length (List.map Ps.enc b)) : Int)) = false) (g1 : ((↑ca : Int) != (↑(List.length (List.map Ps.enc a)) : Int)) = false) : PureC Try.prog 19 [sl (some ca) a, sl cb b]  (AV.atom (Value.int IntKind.i64 (1 : Int))) :=
  funA_ok (H := h19) (n := 33) (ans := [Ans.c, Ans.c, Ans.c, Ans.c, Ans.c, Ans.c, Ans.c, Ans.b false, Ans.c, Ans.b false, Ans.c, Ans.b false, Ans.c, Ans.b false, Ans.c, Ans.b false, Ans.c, Ans.b false, Ans.c, Ans.b false, Ans.c, Ans.lp (Ex.exit (nat_lit 0)) [(nat_lit 0, AV.sl Mode.any (nat_lit 33) (some ca) (List.map Ps.enc a)), (nat_lit 1, AV.sl Mode.any (nat_lit 33) cb (List.map Ps.enc b)), (nat_lit 5, AV.atom (Value.int IntKind.i64 (↑(List.length a) : Int))), (nat_lit 21, AV.atom (Value.bool (decide ((↑(List.length a) : Int) < (↑(List.length (List.map Ps.enc a)) : Int)))))], Ans.c]) (ps := [((↑(List.length (List.map Ps.enc a)) : Int) != (↑(List.length (List.map Ps.enc b)) : Int)) = false, ((↑(List.length (List.map Ps.enc a)) : Int) != (↑(List.length (List.map Ps.enc b)) : Int)) = false, ((↑(List.length (List.map Ps.enc a)) : Int) != (↑(List.length (List.map Ps.enc b)) : Int)) = false, ((↑(List.length (List.map Ps.enc a)) : Int) != (↑(List.length (List.map Ps.enc b)) : Int)) = false, ((↑(List.length (List.map Ps.enc a)) : Int) != (↑(List.length (List.map Ps.enc b)) : Int)) = false, ((↑(List.length (List.map Ps.enc a)) : Int) != (↑(List.length (List.map Ps.enc b)) : Int)) = false, ((↑ca : Int) != (↑(List.length (List.map Ps.enc a)) : Int)) = false, Tri Try.prog (cxN (33 : Nat) (0 : Nat)) (Code.loop (loopBody Try.f19 (0 : Nat))) [(nat_lit 0, AV.sl Mode.any (nat_lit 33) (some ca) (List.map Ps.enc a)), (nat_lit 1, AV.sl Mode.any (nat_lit 33) cb (List.map Ps.enc b)), (nat_lit 5, AV.atom (Value.int IntKind.i64 (0 : Int)))] (Ex.exit (nat_lit 0)) [(nat_lit 0, AV.sl Mode.any (nat_lit 33) (some ca) (List.map Ps.enc a)), (nat_lit 1, AV.sl Mode.any (nat_lit 33) cb (List.map Ps.enc b)), (nat_lit 5, AV.atom (Value.int IntKind.i64 (↑(List.length a) : Int))), (nat_lit 21, AV.atom (Value.bool (decide ((↑(List.length a) : Int) < (↑(List.length (List.map Ps.enc a)) : Int)))))]]) (base 33 0) Try.func19 rfl (by simp) rfl (by kernel_rfl)  (allp g0 (allp g0 (allp g0 (allp g0 (allp g0 (allp g0 (allp g1 (allp (by first | (apply same_loop_eq <;> (first | assumption | rfl | (simp at *; done) | (simp at *; omega)))) allp_nil))))))))


theorem samN_0 (ca : Nat) (cb : Option Nat) (a b : List Ps) (hl : a.length = b.length) (h : a ≠ b) (hA : a.length < 2 ^ 62) (g0 : ((↑(List.length (List.map Ps.enc a)) : Int) != (↑(List.length (List.map Ps.enc b)) : Int)) = true) : PureC Try.prog 19 [sl (some ca) a, sl cb b]  (AV.atom (Value.int IntKind.i64 (0 : Int))) :=
  funA_ok (H := h19) (n := 33) (ans := [Ans.c, Ans.c, Ans.c, Ans.c, Ans.c, Ans.c, Ans.c, Ans.b true, Ans.c, Ans.b true, Ans.c, Ans.b true, Ans.c, Ans.b true, Ans.c, Ans.b true, Ans.c, Ans.b true, Ans.c, Ans.c, Ans.c]) (ps := [((↑(List.length (List.map Ps.enc a)) : Int) != (↑(List.length (List.map Ps.enc b)) : Int)) = true, ((↑(List.length (List.map Ps.enc a)) : Int) != (↑(List.length (List.map Ps.enc b)) : Int)) = true, ((↑(List.length (List.map Ps.enc a)) : Int) != (↑(List.length (List.map Ps.enc b)) : Int)) = true, ((↑(List.length (List.map Ps.enc a)) : Int) != (↑(List.length (List.map Ps.enc b)) : Int)) = true, ((↑(List.length (List.map Ps.enc a)) : Int) != (↑(List.length (List.map Ps.enc b)) : Int)) = true, ((↑(List.length (List.map Ps.enc a)) : Int) != (↑(List.length (List.map Ps.enc b)) : Int)) = true]) (base 33 0) Try.func19 rfl (by simp) rfl (by kernel_rfl)  (allp g0 (allp g0 (allp g0 (allp g0 (allp g0 (allp g0 allp_nil))))))
theorem samN_1 (ca : Nat) (cb : Option Nat) (a b : List Ps) (hl : a.length = b.length) (h : a ≠ b) (hA : a.length < 2 ^ 62) (g0 : ((↑(List.length (List.map Ps.enc a)) : Int) != (↑(List.length (List.map Ps.enc b)) : Int)) = false) (g1 : ((↑ca : Int) != (↑(List.length (List.map Ps.enc a)) : Int)) = true) : PureC Try.prog 19 [sl (some ca) a, sl cb b]  (AV.atom (Value.int IntKind.i64 (0 : Int))) :=
  funA_ok (H := h19) (n := 33) (ans := [Ans.c, Ans.c, Ans.c, Ans.c, Ans.c, Ans.c, Ans.c, Ans.b false, Ans.c, Ans.b false, Ans.c, Ans.b false, Ans.c, Ans.b false, Ans.c, Ans.b false, Ans.c, Ans.b false, Ans.c, Ans.b true, Ans.c]) (ps := [((↑(List.length (List.map Ps.enc a)) : Int) != (↑(List.length (List.map Ps.enc b)) : Int)) = false, ((↑(List.length (List.map Ps.enc a)) : Int) != (↑(List.length (List.map Ps.enc b)) : Int)) = false, ((↑(List.length (List.map Ps.enc a)) : Int) != (↑(List.length (List.map Ps.enc b)) : Int)) = false, ((↑(List.length (List.map Ps.enc a)) : Int) != (↑(List.length (List.map Ps.enc b)) : Int)) = false, ((↑(List.length (List.map Ps.enc a)) : Int) != (↑(List.length (List.map Ps.enc b)) : Int)) = false, ((↑(List.length (List.map Ps.enc a)) : Int) != (↑(List.length (List.map Ps.enc b)) : Int)) = false, ((↑ca : Int) != (↑(List.length (List.map Ps.enc a)) : Int)) = true]) (base 33 0) Try.func19 rfl (by simp) rfl (by kernel_rfl)  (allp g0 (allp g0 (allp g0 (allp g0 (allp g0 (allp g0 (allp g1 allp_nil)))))))
theorem samN_2 (ca : Nat) (cb : Option Nat) (a b : List Ps) (hl : a.length = b.length) (h : a ≠ b) (hA : a.length < 2 ^ 62) (g0 : ((↑(List.length (List.map Ps.enc a)) : Int) != (↑(List.length (List.map Ps.enc b)) : Int)) = false) (g1 : ((↑ca : Int) != (↑(List.length (List.map Ps.enc a)) : Int)) = false) : PureC Try.prog 19 [sl (some ca) a, sl cb b]  (AV.atom (Value.int IntKind.i64 (0 : Int))) :=
  funA_ok (H := h19) (n := 33) (ans := [Ans.c, Ans.c, Ans.c, Ans.c, Ans.c, Ans.c, Ans.c, Ans.b false, Ans.c, Ans.b false, Ans.c, Ans.b false, Ans.c, Ans.b false, Ans.c, Ans.b false, Ans.c, Ans.b false, Ans.c, Ans.b false, Ans.c, Ans.lp Ex.ret [(nat_lit 4, AV.atom (Value.int IntKind.i64 (0 : Int)))]]) (ps := [((↑(List.length (List.map Ps.enc a)) : Int) != (↑(List.length (List.map Ps.enc b)) : Int)) = false, ((↑(List.length (List.map Ps.enc a)) : Int) != (↑(List.length (List.map Ps.enc b)) : Int)) = false, ((↑(List.length (List.map Ps.enc a)) : Int) != (↑(List.length (List.map Ps.enc b)) : Int)) = false, ((↑(List.length (List.map Ps.enc a)) : Int) != (↑(List.length (List.map Ps.enc b)) : Int)) = false, ((↑(List.length (List.map Ps.enc a)) : Int) != (↑(List.length (List.map Ps.enc b)) : Int)) = false, ((↑(List.length (List.map Ps.enc a)) : Int) != (↑(List.length (List.map Ps.enc b)) : Int)) = false, ((↑ca : Int) != (↑(List.length (List.map Ps.enc a)) : Int)) = false, Tri Try.prog (cxN (33 : Nat) (0 : Nat)) (Code.loop (loopBody Try.f19 (0 : Nat))) [(nat_lit 0, AV.sl Mode.any (nat_lit 33) (some ca) (List.map Ps.enc a)), (nat_lit 1, AV.sl Mode.any (nat_lit 33) cb (List.map Ps.enc b)), (nat_lit 5, AV.atom (Value.int IntKind.i64 (0 : Int)))] Ex.ret [(nat_lit 4, AV.atom (Value.int IntKind.i64 (0 : Int)))]]) (base 33 0) Try.func19 rfl (by simp) rfl (by kernel_rfl)  (allp g0 (allp g0 (allp g0 (allp g0 (allp g0 (allp g0 (allp g1 (allp (by first | (apply same_loop_ne <;> (first | assumption | rfl | (simp at *; done) | (simp at *; omega)))) allp_nil))))))))


theorem samL_0 (ca : Nat) (cb : Option Nat) (a b : List Ps) (g0 : ((↑(List.length (List.map Ps.enc a)) : Int) != (↑(List.length (List.map Ps.enc b)) : Int)) = true) : PureC Try.prog 19 [sl (some ca) a, sl cb b]  (AV.atom (Value.int IntKind.i64 (0 : Int))) :=
  funA_ok (H := h19) (n := 33) (ans := [Ans.c, Ans.c, Ans.c, Ans.c, Ans.c, Ans.c, Ans.c, Ans.b true, Ans.c, Ans.b true, Ans.c, Ans.b true, Ans.c, Ans.b true, Ans.c, Ans.b true, Ans.c, Ans.b true, Ans.c, Ans.c, Ans.c]) (ps := [((↑(List.length (List.map Ps.enc a)) : Int) != (↑(List.length (List.map Ps.enc b)) : Int)) = true, ((↑(List.length (List.map Ps.enc a)) : Int) != (↑(List.length (List.map Ps.enc b)) : Int)) = true, ((↑(List.length (List.map Ps.enc a)) : Int) != (↑(List.length (List.map Ps.enc b)) : Int)) = true, ((↑(List.length (List.map Ps.enc a)) : Int) != (↑(List.length (List.map Ps.enc b)) : Int)) = true, ((↑(List.length (List.map Ps.enc a)) : Int) != (↑(List.length (List.map Ps.enc b)) : Int)) = true, ((↑(List.length (List.map Ps.enc a)) : Int) != (↑(List.length (List.map Ps.enc b)) : Int)) = true]) (base 33 0) Try.func19 rfl (by simp) rfl (by kernel_rfl)  (allp g0 (allp g0 (allp g0 (allp g0 (allp g0 (allp g0 allp_nil))))))
theorem samL_1 (ca : Nat) (cb : Option Nat) (a b : List Ps) (g0 : ((↑(List.length (List.map Ps.enc a)) : Int) != (↑(List.length (List.map Ps.enc b)) : Int)) = false) (g1 : ((↑ca : Int) != (↑(List.length (List.map Ps.enc a)) : Int)) = true) : PureC Try.prog 19 [sl (some ca) a, sl cb b]  (AV.atom (Value.int IntKind.i64 (0 : Int))) :=
  funA_ok (H := h19) (n := 33) (ans := [Ans.c, Ans.c, Ans.c, Ans.c, Ans.c, Ans.c, Ans.c, Ans.b false, Ans.c, Ans.b false, Ans.c, Ans.b false, Ans.c, Ans.b false, Ans.c, Ans.b false, Ans.c, Ans.b false, Ans.c, Ans.b true, Ans.c]) (ps := [((↑(List.length (List.map Ps.enc a)) : Int) != (↑(List.length (List.map Ps.enc b)) : Int)) = false, ((↑(List.length (List.map Ps.enc a)) : Int) != (↑(List.length (List.map Ps.enc b)) : Int)) = false, ((↑(List.length (List.map Ps.enc a)) : Int) != (↑(List.length (List.map Ps.enc b)) : Int)) = false, ((↑(List.length (List.map Ps.enc a)) : Int) != (↑(List.length (List.map Ps.enc b)) : Int)) = false, ((↑(List.length (List.map Ps.enc a)) : Int) != (↑(List.length (List.map Ps.enc b)) : Int)) = false, ((↑(List.length (List.map Ps.enc a)) : Int) != (↑(List.length (List.map Ps.enc b)) : Int)) = false, ((↑ca : Int) != (↑(List.length (List.map Ps.enc a)) : Int)) = true]) (base 33 0) Try.func19 rfl (by simp) rfl (by kernel_rfl)  (allp g0 (allp g0 (allp g0 (allp g0 (allp g0 (allp g0 (allp g1 allp_nil)))))))


theorem fresh_0 (ca : Option Nat) (a : List Ps) (g0 : ((↑(List.length (List.map Ps.enc a)) : Int) == (0 : Int)) = true) : PureC Try.prog 44 [sl ca a]  (AV.atom (Value.slice none (nat_lit 0) (nat_lit 0))) :=
  funA_ok (H := h44) (n := 14) (ans := [Ans.c, Ans.c, Ans.c, Ans.c, Ans.b true, Ans.c]) (ps := [((↑(List.length (List.map Ps.enc a)) : Int) == (0 : Int)) = true]) (base 14 0) Try.func44 rfl (by simp) rfl (by kernel_rfl)  (allp g0 allp_nil)
theorem fresh_1 (ca : Option Nat) (a : List Ps) (g0 : ((↑(List.length (List.map Ps.enc a)) : Int) == (0 : Int)) = false) (g1 : decide ((0 : Int) ≤ (↑(List.length (List.map Ps.enc a)) : Int) ∧ (↑(List.length (List.map Ps.enc a)) : Int) ≤ (↑(List.length (List.map Ps.enc a)) : Int) ∧ (↑(List.length (List.map Ps.enc a)) : Int) ≤ (4294967296 : Int) ∧ TInfo.bytes { zero := [Value.int IntKind.u8 (0 : Int), Value.int IntKind.i64 (0 : Int), Value.bool false, Value.int IntKind.u8 (0 : Int)], bytes := (24 : Nat), agg := true, kind := TK.struct [((0 : Nat), (2 : Nat)), ((2 : Nat), (1 : Nat)), ((3 : Nat), (1 : Nat))] } ≤ (4096 : Nat) ∧ (0 : Nat) < List.length (TInfo.zero { zero := [Value.int IntKind.u8 (0 : Int), Value.int IntKind.i64 (0 : Int), Value.bool false, Value.int IntKind.u8 (0 : Int)], bytes := (24 : Nat), agg := true, kind := TK.struct [((0 : Nat), (2 : Nat)), ((2 : Nat), (1 : Nat)), ((3 : Nat), (1 : Nat))] })) = true) (g2 : AV.sl Mode.own (nat_lit 33) (some (Int.toNat (↑(List.length (List.map Ps.enc a)) : Int))) (List.replicate (Int.toNat (↑(List.length (List.map Ps.enc a)) : Int)) (zeroEl { zero := [Value.int IntKind.u8 (0 : Int), Value.int IntKind.i64 (0 : Int), Value.bool false, Value.int IntKind.u8 (0 : Int)], bytes := (24 : Nat), agg := true, kind := TK.struct [((0 : Nat), (2 : Nat)), ((2 : Nat), (1 : Nat)), ((3 : Nat), (1 : Nat))] })) = AV.sl Mode.own (nat_lit 33) (some (Int.toNat (↑(List.length (List.map Ps.enc a)) : Int))) (List.map Ps.enc (List.replicate (Int.toNat (↑(List.length (List.map Ps.enc a)) : Int)) { y := (0 : Int), n := (0 : Int), f := false, d := (0 : Int) }))) (g3 : decide ((List.all (List.map Ps.enc a) fun y => List.all (AV.ecells y) plainA) = true ∧ (List.all (List.map Ps.enc a) fun y => decide (List.length (AV.ecells y) = List.length (TInfo.zero { zero := [Value.int IntKind.u8 (0 : Int), Value.int IntKind.i64 (0 : Int), Value.bool false, Value.int IntKind.u8 (0 : Int)], bytes := (24 : Nat), agg := true, kind := TK.struct [((0 : Nat), (2 : Nat)), ((2 : Nat), (1 : Nat)), ((3 : Nat), (1 : Nat))] }))) = true) = true) (g4 : decide (nat_lit 33 = (33 : TypeId) ∧ (List.all (List.map Ps.enc (List.replicate (Int.toNat (↑(List.length (List.map Ps.enc a)) : Int)) { y := (0 : Int), n := (0 : Int), f := false, d := (0 : Int) })) fun x => List.all (AV.ecells x) plainA) = true) = true) (g5 : AV.sl Mode.own (nat_lit 33) (some (Int.toNat (↑(List.length (List.map Ps.enc a)) : Int))) (List.take (List.length (List.map Ps.enc (List.replicate (Int.toNat (↑(List.length (List.map Ps.enc a)) : Int)) { y := (0 : Int), n := (0 : Int), f := false, d := (0 : Int) }))) (List.map Ps.enc a) ++ List.drop (List.length (List.map Ps.enc a)) (List.map Ps.enc (List.replicate (Int.toNat (↑(List.length (List.map Ps.enc a)) : Int)) { y := (0 : Int), n := (0 : Int), f := false, d := (0 : Int) }))) = AV.sl Mode.own (nat_lit 33) (some (Int.toNat (↑(List.length (List.map Ps.enc a)) : Int))) (List.map Ps.enc (List.take (List.length (List.map Ps.enc (List.replicate (Int.toNat (↑(List.length (List.map Ps.enc a)) : Int)) { y := (0 : Int), n := (0 : Int), f := false, d := (0 : Int) }))) a ++ List.drop (List.length (List.map Ps.enc a)) (List.replicate (Int.toNat (↑(List.length (List.map Ps.enc a)) : Int)) { y := (0 : Int), n := (0 : Int), f := false, d := (0 : Int) })))) : PureC Try.prog 44 [sl ca a]  (AV.sl Mode.own (nat_lit 33) (some (Int.toNat (↑(List.length (List.map Ps.enc a)) : Int))) (List.map Ps.enc (List.take (List.length (List.map Ps.enc (List.replicate (Int.toNat (↑(List.length (List.map Ps.enc a)) : Int)) { y := (0 : Int), n := (0 : Int), f := false, d := (0 : Int) }))) a ++ List.drop (List.length (List.map Ps.enc a)) (List.replicate (Int.toNat (↑(List.length (List.map Ps.enc a)) : Int)) { y := (0 : Int), n := (0 : Int), f := false, d := (0 : Int) })))) :=
  funA_ok (H := h44) (n := 14) (ans := [Ans.c, Ans.c, Ans.c, Ans.c, Ans.b false, Ans.c, Ans.c, Ans.b true, Ans.r (AV.sl Mode.own (nat_lit 33) (some (Int.toNat (↑(List.length (List.map Ps.enc a)) : Int))) (List.map Ps.enc (List.replicate (Int.toNat (↑(List.length (List.map Ps.enc a)) : Int)) { y := (0 : Int), n := (0 : Int), f := false, d := (0 : Int) }))), Ans.c, Ans.c, Ans.c, Ans.b true, Ans.b true, Ans.r (AV.sl Mode.own (nat_lit 33) (some (Int.toNat (↑(List.length (List.map Ps.enc a)) : Int))) (List.map Ps.enc (List.take (List.length (List.map Ps.enc (List.replicate (Int.toNat (↑(List.length (List.map Ps.enc a)) : Int)) { y := (0 : Int), n := (0 : Int), f := false, d := (0 : Int) }))) a ++ List.drop (List.length (List.map Ps.enc a)) (List.replicate (Int.toNat (↑(List.length (List.map Ps.enc a)) : Int)) { y := (0 : Int), n := (0 : Int), f := false, d := (0 : Int) })))), Ans.c, Ans.c, Ans.c]) (ps := [((↑(List.length (List.map Ps.enc a)) : Int) == (0 : Int)) = false, decide ((0 : Int) ≤ (↑(List.length (List.map Ps.enc a)) : Int) ∧ (↑(List.length (List.map Ps.enc a)) : Int) ≤ (↑(List.length (List.map Ps.enc a)) : Int) ∧ (↑(List.length (List.map Ps.enc a)) : Int) ≤ (4294967296 : Int) ∧ TInfo.bytes { zero := [Value.int IntKind.u8 (0 : Int), Value.int IntKind.i64 (0 : Int), Value.bool false, Value.int IntKind.u8 (0 : Int)], bytes := (24 : Nat), agg := true, kind := TK.struct [((0 : Nat), (2 : Nat)), ((2 : Nat), (1 : Nat)), ((3 : Nat), (1 : Nat))] } ≤ (4096 : Nat) ∧ (0 : Nat) < List.length (TInfo.zero { zero := [Value.int IntKind.u8 (0 : Int), Value.int IntKind.i64 (0 : Int), Value.bool false, Value.int IntKind.u8 (0 : Int)], bytes := (24 : Nat), agg := true, kind := TK.struct [((0 : Nat), (2 : Nat)), ((2 : Nat), (1 : Nat)), ((3 : Nat), (1 : Nat))] })) = true, AV.sl Mode.own (nat_lit 33) (some (Int.toNat (↑(List.length (List.map Ps.enc a)) : Int))) (List.replicate (Int.toNat (↑(List.length (List.map Ps.enc a)) : Int)) (zeroEl { zero := [Value.int IntKind.u8 (0 : Int), Value.int IntKind.i64 (0 : Int), Value.bool false, Value.int IntKind.u8 (0 : Int)], bytes := (24 : Nat), agg := true, kind := TK.struct [((0 : Nat), (2 : Nat)), ((2 : Nat), (1 : Nat)), ((3 : Nat), (1 : Nat))] })) = AV.sl Mode.own (nat_lit 33) (some (Int.toNat (↑(List.length (List.map Ps.enc a)) : Int))) (List.map Ps.enc (List.replicate (Int.toNat (↑(List.length (List.map Ps.enc a)) : Int)) { y := (0 : Int), n := (0 : Int), f := false, d := (0 : Int) })), decide ((List.all (List.map Ps.enc a) fun y => List.all (AV.ecells y) plainA) = true ∧ (List.all (List.map Ps.enc a) fun y => decide (List.length (AV.ecells y) = List.length (TInfo.zero { zero := [Value.int IntKind.u8 (0 : Int), Value.int IntKind.i64 (0 : Int), Value.bool false, Value.int IntKind.u8 (0 : Int)], bytes := (24 : Nat), agg := true, kind := TK.struct [((0 : Nat), (2 : Nat)), ((2 : Nat), (1 : Nat)), ((3 : Nat), (1 : Nat))] }))) = true) = true, decide (nat_lit 33 = (33 : TypeId) ∧ (List.all (List.map Ps.enc (List.replicate (Int.toNat (↑(List.length (List.map Ps.enc a)) : Int)) { y := (0 : Int), n := (0 : Int), f := false, d := (0 : Int) })) fun x => List.all (AV.ecells x) plainA) = true) = true, AV.sl Mode.own (nat_lit 33) (some (Int.toNat (↑(List.length (List.map Ps.enc a)) : Int))) (List.take (List.length (List.map Ps.enc (List.replicate (Int.toNat (↑(List.length (List.map Ps.enc a)) : Int)) { y := (0 : Int), n := (0 : Int), f := false, d := (0 : Int) }))) (List.map Ps.enc a) ++ List.drop (List.length (List.map Ps.enc a)) (List.map Ps.enc (List.replicate (Int.toNat (↑(List.length (List.map Ps.enc a)) : Int)) { y := (0 : Int), n := (0 : Int), f := false, d := (0 : Int) }))) = AV.sl Mode.own (nat_lit 33) (some (Int.toNat (↑(List.length (List.map Ps.enc a)) : Int))) (List.map Ps.enc (List.take (List.length (List.map Ps.enc (List.replicate (Int.toNat (↑(List.length (List.map Ps.enc a)) : Int)) { y := (0 : Int), n := (0 : Int), f := false, d := (0 : Int) }))) a ++ List.drop (List.length (List.map Ps.enc a)) (List.replicate (Int.toNat (↑(List.length (List.map Ps.enc a)) : Int)) { y := (0 : Int), n := (0 : Int), f := false, d := (0 : Int) })))]) (base 14 0) Try.func44 rfl (by simp) rfl (by kernel_rfl)  (allp g0 (allp g1 (allp g2 (allp g3 (allp g4 (allp g5 allp_nil))))))


end Tst
end

section
/- Trees that say less. -/
namespace Go.Lf
open Go Go.RowKit

section
variable {P : Program}

def Le (P : Program) (x y : AV) : Prop := ∀ (B0 : Nat) (w : World) (S : Nat → Prop) (n : Nat) (v : Value) (O : Own), Rv P B0 w S n v x O → Rv P B0 w S n v y O

theorem Le.refl (x : AV) : Le P x x := fun _ _ _ _ _ _ h => h

theorem Le.nil (e : TypeId) : Le P (.atom (.slice none 0 0)) (.sl .any e (some 0) []) := by
  intro B0 w S n v O h
  obtain ⟨n, rfl⟩ := h.pos
  obtain ⟨rfl, hz⟩ := h
  exact ⟨none, 0, rfl, Nat.le_refl _, Nat.zero_le _, rfl, fun x hx => by simp at hx, hz, fun h => absurd rfl h⟩

theorem Le.nilOwn (e : TypeId) : Le P (.atom (.slice none 0 0)) (.sl .own e (some 0) []) := by
  intro B0 w S n v O h
  obtain ⟨n, rfl⟩ := h.pos
  obtain ⟨rfl, hz⟩ := h
  exact ⟨[], fun _ => 0, World.ownsRow_nil w B0 e _, rfl, fun x hx => by simp at hx, .nil fun _ => rfl, fun b => by simp [Value.ownBlock, ind, hz b]⟩

theorem Le.cap {m : Mode} {e : TypeId} {c : Option Nat} {xs : List AV} : Le P (.sl m e c xs) (.sl m e none xs) := by
  intro B0 w S n v O h
  obtain ⟨n, rfl⟩ := h.pos
  cases m with
  | own => obtain ⟨vs, O', ho, _, hu, hr, hO⟩ := h; exact ⟨vs, O', ho, trivial, hu, hr, hO⟩
  | fresh => obtain ⟨A, k, hv, hk, hm, _, r⟩ := h; exact ⟨A, k, hv, hk, hm, trivial, r⟩
  | any => obtain ⟨A, k, hv, hk, hm, _, r⟩ := h; exact ⟨A, k, hv, hk, hm, trivial, r⟩

theorem Rc.le2 {B0 : Nat} {w : World} {S : Nat → Prop} {n : Nat} {vs : List Value} {xs ys : List AV} {O : Own} (h : Rc (Rv P B0 w S n) vs xs O) : ∀ {ys : List AV}, F2 (Le P) xs ys → Rc (Rv P B0 w S n) vs ys O := by
  induction h with
  | nil hz => intro ys h2; cases h2; exact .nil hz
  | cons h1 _ hO ih => intro ys h2; cases h2 with | cons g1 g2 => exact .cons (g1 _ _ _ _ _ _ h1) (ih g2) hO

theorem Le.agg {xs ys : List AV} (h : F2 (Le P) xs ys) : Le P (.agg xs) (.agg ys) := by
  intro B0 w S n v O hr
  obtain ⟨n, rfl⟩ := hr.pos
  obtain ⟨vs, hv, hrc⟩ := hr
  exact ⟨vs, hv, Rc.le2 (ys := ys) hrc h⟩

theorem Le.tup {xs ys : List AV} (h : F2 (Le P) xs ys) : Le P (.tup xs) (.tup ys) := by
  intro B0 w S n v O hr
  obtain ⟨n, rfl⟩ := hr.pos
  obtain ⟨vs, hv, hrc⟩ := hr
  exact ⟨vs, hv, Rc.le2 (ys := ys) hrc h⟩

theorem PureC.args {f : FuncId} {xs ys : List AV} {r : AV} (h : PureC P f ys r) (hl : F2 (Le P) xs ys) : PureC P f xs r :=
  ⟨h.1, fun w S args n hS ha => h.2 w S args n hS (Rc.le2 (ys := ys) ha hl)⟩

theorem PureC.res {f : FuncId} {xs : List AV} {r r' : AV} (h : PureC P f xs r) (hl : Le P r r') : PureC P f xs r' :=
  ⟨h.1, fun w S args n hS ha => (h.2 w S args n hS ha).mono fun e w' ⟨v, n', S', O, he, hB, hrv, rest⟩ => ⟨v, n', S', O, he, hB, hl _ _ _ _ _ _ hrv, rest⟩⟩
end
end Go.Lf
end

section
open Go Go.Lf Go.Proofs
namespace Tst
theorem same_c (ca : Nat) (cb : Option Nat) (a b : List Ps) (hA : a.length < 2 ^ 62) : PureC Try.prog 19 [sl (some ca) a, sl cb b] (it (if a = b ∧ ca = a.length then 1 else 0)) := by
  by_cases hl : a.length = b.length
  · have g0 : (((List.length (List.map Ps.enc a) : Nat) : Int) != ((List.length (List.map Ps.enc b) : Nat) : Int)) = false := by simp [hl]
    by_cases hc : ca = a.length
    · have g1 : (((ca : Nat) : Int) != ((List.length (List.map Ps.enc a) : Nat) : Int)) = false := by simp [hc]
      by_cases h : a = b
      · rw [if_pos ⟨h, hc⟩]; exact samE_2 ca cb a b h hA g0 g1
      · rw [if_neg (fun k => h k.1)]; exact samN_2 ca cb a b hl h hA g0 g1
    · rw [if_neg (fun k => hc k.2)]
      have g1 : (((ca : Nat) : Int) != ((List.length (List.map Ps.enc a) : Nat) : Int)) = true := by simp; omega
      by_cases h : a = b
      · exact samE_1 ca cb a b h hA g0 g1
      · exact samN_1 ca cb a b hl h hA g0 g1
  · rw [if_neg (fun k => hl (by rw [k.1]))]
    exact samL_0 ca cb a b (by simp; omega)
theorem fresh_c (ca : Option Nat) (a : List Ps) (hA : a.length ≤ 4294967296) : PureC Try.prog 44 [sl ca a] (ow (some a.length) a) := by
  by_cases h : a = []
  · subst h
    exact (fresh_0 ca [] (by simp)).res (Le.nilOwn 33)
  · have hz : List.replicate (Int.toNat ((a.map Ps.enc).length : Int)) (zeroEl (TInfo.mk [.int .u8 0, .int .i64 0, .bool false, .int .u8 0] 24 true (.struct [(0, 2), (2, 1), (3, 1)]))) = List.map Ps.enc (List.replicate (Int.toNat ((a.map Ps.enc).length : Int)) ⟨0, 0, false, 0⟩) := by
      rw [List.map_replicate]; rfl
    have := fresh_1 ca a (by simpa using h) (by simp; omega) (by rw [hz]) (by simp only [decide_eq_true_eq]; exact ⟨all_plain a, all_four a⟩) (by simp only [decide_eq_true_eq]; exact ⟨trivial, all_plain _⟩)
      (by simp [List.take_of_length_le])
    simpa [ow] using this
end Tst
end

section
open Go Go.Lf Go.Proofs
namespace Tst
def ofP (x : Int) : Ps := { y := IntKind.u8.wrap (1 + Int.tmod (IntKind.u8.wrap (Int.tdiv x 4)) 2), n := IntKind.i64.wrap (Int.tmod (IntKind.u8.wrap (Int.tdiv x 8)) 3), f := Int.tmod (IntKind.u8.wrap (Int.tdiv x 2)) 2 == 1, d := Int.tmod x 2 }

theorem of_rnd (ca : Option Nat) (a : List Int) : ∀ (k i : Nat) (b : List Ps), i + k = a.length → b.length + k ≤ 4294967296 → a.length < 2 ^ 62 →
    Rnd Try.prog (cxN 36 0) (loopBody Try.f16 0) (k + 1) [(0, pl ca a), (3, ow none b), (4, it i)] (.exit 0) [(0, pl ca a), (3, ow none (b ++ (a.drop i).map ofP)), (4, it a.length), (9, .atom (.bool (decide ((a.length : Int) < ((a.map u8).length : Int)))))] := by
  intro k
  induction k with
  | zero =>
    intro i b hi hb hA
    have hi' : i = a.length := by omega
    subst hi'
    have := lof_1 ca a b a.length (by simp)
    rw [List.drop_length, List.map_nil, List.append_nil]
    exact Rnd.exit this (by simp)
  | succ k ih =>
    intro i b hi hb hA
    have hlt : i < a.length := by omega
    have e : a.drop i = a.getD i default :: a.drop (i + 1) := by
      rw [List.drop_eq_getElem_cons hlt]; simp [List.getD_eq_getElem?_getD, hlt]
    have h1 := lof_0 ca a b i (by simpa using hlt) (by simpa using hlt) (getD_u8 hlt) rfl (by simp; omega) (by rw [List.map_append])
    rw [wrap_id (n := (i : Int) + 1) (by omega) (by omega)] at h1
    have h2 := ih (i + 1) (b ++ [ofP (a.getD i default)]) (by omega) (by simp; omega) hA
    rw [List.append_assoc] at h2
    rw [e]
    exact Rnd.step h1 h2

theorem of_loop (ca : Option Nat) (a : List Int) (h : a.length ≤ 4294967296) : Tri Try.prog (cxN 36 0) (.loop (loopBody Try.f16 0)) [(0, pl ca a), (3, .atom (.slice none 0 0)), (4, it 0)] (.exit 0) [(0, pl ca a), (3, ow none (a.map ofP)), (4, it a.length), (9, .atom (.bool (decide ((a.length : Int) < ((a.map u8).length : Int)))))] :=
  Tri.weak [(0, .keep), (3, .nilTo 33), (4, .keep)] (Rnd.loop (of_rnd ca a a.length 0 [] (by omega) (by simpa using h) (by omega)))

/-! allValid -/
def validP (p : Ps) : Bool := namedB p.y p.n && (p.d == 0 || p.d == 1)
theorem valid_rnd (ca : Option Nat) (a : List Ps) (hA : a.length < 2 ^ 62) : ∀ (k i : Nat), i + k = a.length →
    Rnd Try.prog (cxN 22 0) (loopBody Try.f49 0) (k + 1) [(5, sl ca a), (6, it a.length), (7, it i)] (if (a.drop i).all validP = true then .exit 0 else .ret)
      (if (a.drop i).all validP = true then [(5, sl ca a), (6, it a.length), (7, it a.length), (8, .atom (.bool (decide ((a.length : Int) < (a.length : Int)))))] else [(2, .atom (.bool false))]) := by
  intro k
  induction k with
  | zero =>
    intro i hi
    have hi' : i = a.length := by omega
    subst hi'
    rw [List.drop_length]
    exact Rnd.exit (lvalid_3 ca a a.length (by simp)) (by simp)
  | succ k ih =>
    intro i hi
    have hlt : i < a.length := by omega
    have e : a.drop i = a.getD i default :: a.drop (i + 1) := by
      rw [List.drop_eq_getElem_cons hlt]; simp [List.getD_eq_getElem?_getD, hlt]
    rw [e, List.all_cons]
    have c0 : decide ((i : Int) < (a.length : Int)) = true := by simpa using hlt
    have c1 : decide ((0 : Int) ≤ (i : Int) ∧ (i : Int) < ((a.map Ps.enc).length : Int)) = true := by simpa using hlt
    cases h1 : namedB (a.getD i default).y (a.getD i default).n with
    | false =>
      have hv : validP (a.getD i default) = false := by unfold validP; rw [h1]; rfl
      rw [hv]
      exact Rnd.exit (lvalid_0 ca a i c0 c1 (getD_enc hlt) (by simp only [Int.toNat_natCast, h1]; rfl)) (by simp)
    | true =>
      cases h2 : ((a.getD i default).d == 0 || (a.getD i default).d == 1) with
      | false =>
        have hv : validP (a.getD i default) = false := by unfold validP; rw [h1, h2]; rfl
        rw [hv]
        exact Rnd.exit (lvalid_1 ca a i c0 c1 (getD_enc hlt) (by simp only [Int.toNat_natCast, h1]; rfl) (by simp only [Int.toNat_natCast, h2]; rfl)) (by simp)
      | true =>
        have hv : validP (a.getD i default) = true := by unfold validP; rw [h1, h2]; rfl
        rw [hv, Bool.true_and]
        have h3 := lvalid_2 ca a i c0 c1 (getD_enc hlt) (by simp only [Int.toNat_natCast, h1]; rfl) (by simp only [Int.toNat_natCast, h2]; rfl)
        rw [wrap_id (n := (i : Int) + 1) (by omega) (by omega)] at h3
        exact Rnd.step h3 (ih (i + 1) (by omega))
theorem valid_loop_t (ca : Option Nat) (a : List Ps) (hA : a.length < 2 ^ 62) (h : a.all validP = true) : Tri Try.prog (cxN 22 0) (.loop (loopBody Try.f49 0)) [(5, sl ca a), (6, it ((a.map Ps.enc).length : Nat)), (7, it 0)] (.exit 0) [(5, sl ca a), (6, it a.length), (7, it a.length), (8, .atom (.bool (decide ((a.length : Int) < (a.length : Int)))))] := by
  have := Rnd.loop (valid_rnd ca a hA a.length 0 (by omega))
  rw [List.drop_zero, if_pos h, if_pos h] at this
  rw [List.length_map]; exact this
theorem valid_loop_f (ca : Option Nat) (a : List Ps) (hA : a.length < 2 ^ 62) (h : a.all validP = false) : Tri Try.prog (cxN 22 0) (.loop (loopBody Try.f49 0)) [(5, sl ca a), (6, it ((a.map Ps.enc).length : Nat)), (7, it 0)] .ret [(2, .atom (.bool false))] := by
  have := Rnd.loop (valid_rnd ca a hA a.length 0 (by omega))
  rw [List.drop_zero, if_neg (by simp [h]), if_neg (by simp [h])] at this
  rw [List.length_map]; exact this
end Tst
end

section
open Go Go.Lf Go.Proofs
namespace Tst
/-! Reduction of passes, as a stack. -/
def push (st : List Ps) (p : Ps) : List Ps := match st with
  | q :: st' => if can q p = true then st' else p :: q :: st'
  | [] => [p]
def nf (l : List Ps) : List Ps := (l.foldl push []).reverse
def IrrR : List Ps → Prop
  | p :: q :: st => can q p = false ∧ IrrR (q :: st)
  | _ => True
theorem IrrR.tail {p : Ps} {st : List Ps} (h : IrrR (p :: st)) : IrrR st := by
  cases st with
  | nil => trivial
  | cons q st => exact h.2
theorem push_irr {st : List Ps} (h : IrrR st) (p : Ps) : IrrR (push st p) := by
  cases st with
  | nil => trivial
  | cons q st =>
    show IrrR (if can q p = true then st else p :: q :: st)
    by_cases hc : can q p = true
    · rw [if_pos hc]; exact h.tail
    · rw [if_neg hc]; exact ⟨by simpa using hc, h⟩
theorem irr_nil : IrrR [] := trivial
theorem can_iff {p q : Ps} : can p q = true ↔ turnP p = q ∧ turnP q = p := by simp [can]
theorem push_cancel {st : List Ps} (h : IrrR st) {p q : Ps} (hc : can p q = true) : push (push st p) q = st := by
  obtain ⟨e1, e2⟩ := can_iff.1 hc
  cases st with
  | nil => simp [push, hc]
  | cons t st =>
    by_cases ht : can t p = true
    · have hq : t = q := by rw [← e1]; exact (can_iff.1 ht).2.symm
      subst hq
      simp only [push, ht, if_true]
      cases st with
      | nil => rfl
      | cons t2 st =>
        have : can t2 t = false := h.1
        simp [this]
    · have ht' : can t p = false := by simpa using ht
      simp [push, ht', hc]
theorem fold_irr : ∀ (l : List Ps) {st : List Ps}, IrrR st → IrrR (l.foldl push st)
  | [], _, h => h
  | p :: l, _, h => fold_irr l (push_irr h p)
theorem nf_step (u v : List Ps) {p q : Ps} (hc : can p q = true) : nf (u ++ p :: q :: v) = nf (u ++ v) := by
  unfold nf
  rw [List.foldl_append, List.foldl_append]
  simp only [List.foldl_cons]
  rw [push_cancel (fold_irr u irr_nil) hc]
theorem fold_id : ∀ (l st : List Ps), IrrR (l.reverse ++ st) → l.foldl push st = l.reverse ++ st
  | [], st, _ => rfl
  | p :: l, st, h => by
    have h' : IrrR (l.reverse ++ (p :: st)) := by simpa using h
    have hp : push st p = p :: st := by
      have h2 : IrrR (p :: st) := by
        clear h
        generalize l.reverse = r at h'
        induction r with
        | nil => exact h'
        | cons a r ih => exact ih h'.tail
      cases st with
      | nil => rfl
      | cons q st => simp [push, h2.1]
    simp only [List.foldl_cons, hp, fold_id l (p :: st) h']
    simp
theorem nf_id {l : List Ps} (h : IrrR l.reverse) : nf l = l := by
  unfold nf
  rw [fold_id l [] (by simpa using h)]
  simp
theorem irr_snoc : ∀ (l : List Ps) (p : Ps), IrrR l.reverse → (l = [] ∨ can (l.getD (l.length - 1) default) p = false) → IrrR (l ++ [p]).reverse := by
  intro l p h hc
  rw [List.reverse_append]
  cases hr : l.reverse with
  | nil => simp [IrrR]
  | cons q r =>
    rw [hr] at h
    refine ⟨?_, h⟩
    rcases hc with rfl | hc
    · simp at hr
    · have : l = r.reverse ++ [q] := by
        have := congrArg List.reverse hr
        simpa using this
      subst this
      simpa [List.getD_eq_getElem?_getD] using hc
theorem irr_of : ∀ (n : Nat) (l : List Ps), l.length = n → (∀ i, i + 1 < l.length → can (l.getD i default) (l.getD (i + 1) default) = false) → IrrR l.reverse := by
  intro n
  induction n with
  | zero => intro l hl _; rw [List.eq_nil_of_length_eq_zero hl]; trivial
  | succ n ih =>
    intro l hl h
    obtain ⟨u, p, rfl⟩ : ∃ u p, l = u ++ [p] := by
      have hne : l ≠ [] := by intro e; subst e; simp at hl
      exact ⟨l.dropLast, l.getLast hne, (List.dropLast_concat_getLast hne).symm⟩
    have hul : u.length = n := by simpa using hl
    refine irr_snoc u p (ih u hul fun i hi => ?_) ?_
    · have := h i (by simp; omega)
      simpa [List.getD_eq_getElem?_getD, List.getElem?_append, show i < u.length by omega, show i + 1 < u.length from hi] using this
    · by_cases hu : u = []
      · exact .inl hu
      · right
        have hpos : 0 < u.length := List.length_pos_iff.2 hu
        have := h (u.length - 1) (by simp; omega)
        have e1 : u.length - 1 + 1 = u.length := by omega
        rw [e1] at this
        simpa [List.getD_eq_getElem?_getD, List.getElem?_append, show u.length - 1 < u.length by omega] using this
theorem irr_nf (l : List Ps) : IrrR (nf l).reverse := by
  unfold nf; rw [List.reverse_reverse]; exact fold_irr l irr_nil
theorem nf_nf (l : List Ps) : nf (nf l) = nf l := nf_id (irr_nf l)
theorem fold_nf (st : List Ps) (h : IrrR st) (l : List Ps) : (nf l).foldl push st = l.foldl push st := by
  -- what is cancelled in l cancels behind st
  have key : ∀ (l r : List Ps), IrrR r → (r.reverse).foldl push st = r.reverse.foldl push st → ((l.foldl push r).reverse).foldl push st = l.foldl push (r.reverse.foldl push st) := by
    intro l
    induction l with
    | nil => intro r _ _; rfl
    | cons p l ih =>
      intro r hr _
      simp only [List.foldl_cons]
      rw [ih (push r p) (push_irr hr p) rfl]
      congr 1
      cases r with
      | nil => rfl
      | cons q r =>
        by_cases hc : can q p = true
        · simp only [push, hc, if_true, List.reverse_cons, List.foldl_append, List.foldl_cons, List.foldl_nil]
          rw [show (match (r.reverse.foldl push st) with | q_1 :: st' => if can q_1 q = true then st' else q :: q_1 :: st' | [] => [q]) = push (r.reverse.foldl push st) q from rfl]
          exact (push_cancel (fold_irr _ h) hc).symm
        · have hc' : can q p = false := by simpa using hc
          simp only [push, hc', Bool.false_eq_true, if_false, List.reverse_cons, List.foldl_append, List.foldl_cons, List.foldl_nil]
  have := key l [] irr_nil rfl
  simpa [nf] using this
theorem nf_append (a b : List Ps) : nf (nf a ++ nf b) = nf (a ++ b) := by
  unfold nf
  have h1 := fold_nf [] irr_nil a
  have h2 := fold_nf (a.foldl push []) (fold_irr a irr_nil) b
  unfold nf at h1 h2
  rw [List.foldl_append, List.foldl_append, h1, h2]
end Tst
end

section
open Go Go.Lf Go.Proofs
namespace Tst
theorem lcan_eq {p q : Ps} (hp : 0 ≤ p.d) (hq : 0 ≤ q.d) : lcan p q = can p q := by
  obtain ⟨y, n, f, d⟩ := p
  obtain ⟨y', n', f', d'⟩ := q
  simp only at hp hq
  rw [Bool.eq_iff_iff]
  simp only [lcan, can, turnP, Bool.and_eq_true, beq_iff_eq, decide_eq_true_eq, bne_iff_ne, ne_eq, Ps.mk.injEq]
  constructor
  · rintro ⟨⟨⟨⟨⟨rfl, rfl⟩, rfl⟩, h1⟩, h2⟩, h3⟩
    refine ⟨⟨rfl, rfl, rfl, ?_⟩, rfl, rfl, rfl, ?_⟩ <;> split <;> omega
  · rintro ⟨⟨rfl, rfl, rfl, h1⟩, _, _, _, h2⟩
    split at h1 <;> split at h2 <;> refine ⟨⟨⟨⟨⟨rfl, rfl⟩, rfl⟩, ?_⟩, ?_⟩, ?_⟩ <;> omega

theorem split_at (b : List Ps) (i : Nat) (h : i + 1 < b.length) : b = b.take i ++ b.getD i default :: b.getD (i + 1) default :: b.drop (i + 2) := by
  have e1 : b.drop i = b.getD i default :: b.drop (i + 1) := by
    rw [List.drop_eq_getElem_cons (by omega)]; simp [List.getD_eq_getElem?_getD, show i < b.length by omega]
  have e2 : b.drop (i + 1) = b.getD (i + 1) default :: b.drop (i + 2) := by
    rw [List.drop_eq_getElem_cons h]; simp [List.getD_eq_getElem?_getD, h]
  rw [← e2, ← e1, List.take_append_drop]

theorem nf_cut (b : List Ps) (i : Nat) (h : i + 1 < b.length) (hc : can (b.getD i default) (b.getD (i + 1) default) = true) : nf (b.take i ++ b.drop (i + 2)) = nf b := by
  conv => rhs; rw [split_at b i h]
  exact (nf_step _ _ hc).symm

theorem mem_wf {b : List Ps} (h : ∀ p ∈ b, 0 ≤ p.d) {i : Nat} (hi : i < b.length) : 0 ≤ (b.getD i default).d := by
  refine h _ ?_
  simp only [List.getD_eq_getElem?_getD, List.getElem?_eq_getElem hi, Option.getD_some]
  exact List.getElem_mem hi

theorem lredu_rnd (M : Nat) : ∀ (n : Nat) (b : List Ps) (i : Nat) (c : Option Nat), (∀ p ∈ b, 0 ≤ p.d) → b.length ≤ 4294967296 → (∀ j, j + 1 ≤ i → j + 1 < b.length → can (b.getD j default) (b.getD (j + 1) default) = false) →
    i ≤ b.length → b.length + 2 ≤ M → b.length * M + (b.length - i) ≤ n → Rnd Try.prog (cxN 41 0) (loopBody Try.f18 0) (n + 1) [(3, ow c b), (4, it i)] (.exit 0) [(3, ow none (nf b))] := by
  intro n
  induction n with
  | zero =>
    intro b i c hwf hb hirr hil hM hn
    have hb0 : b = [] := by
      cases b with
      | nil => rfl
      | cons p b => simp only [List.length_cons, Nat.add_mul] at hn; omega
    subst hb0
    have hi0 : i = 0 := by simpa using hil
    subst hi0
    refine Rnd.weak [(3, .forget), (4, .keep)] (Rnd.exit (Tri.after [(3, .keep)] (lredu_2 [] 0 (by decide))) (by simp))
  | succ n ih =>
    intro b i c hwf hb hirr hil hM hn
    refine Rnd.weak [(3, .forget), (4, .keep)] ?_
    have hw1 : IntKind.i64.wrap ((i : Int) + 1) = (i : Int) + 1 := wrap_id (by omega) (by omega)
    have hw2 : IntKind.i64.wrap ((i : Int) + 2) = (i : Int) + 2 := wrap_id (by omega) (by omega)
    by_cases hlt : i + 1 < b.length
    · have t1 : ((i : Int) + 1).toNat = i + 1 := by omega
      have t2 : ((i : Int) + 2).toNat = i + 2 := by omega
      have hl := lcan_eq (mem_wf hwf (show i < b.length by omega)) (mem_wf hwf hlt)
      cases hc : can (b.getD i default) (b.getD (i + 1) default) with
      | false =>
        have h1 := lredu_0 b i (by rw [hw1]; simp; omega) (by simp; omega) (by simp; omega) (getD_enc (by simp; omega)) (by rw [hw1]; simp; omega) (by rw [hw1, t1]; simp; omega) (by rw [hw1, t1]; exact getD_enc hlt) (by rw [hw1, t1]; simp only [Int.toNat_natCast, hl, hc]; rfl)
        rw [hw1] at h1
        refine Rnd.step h1 (ih b (i + 1) none hwf hb ?_ (by omega) hM (by omega))
        intro j hj hj2
        by_cases hji : j + 1 ≤ i
        · exact hirr j hji hj2
        · have : j = i := by omega
          subst this; exact hc
      | true =>
        have h1 := lredu_1 b i (by rw [hw1]; simp; omega) (by simp; omega) (by simp; omega) (getD_enc (by simp; omega)) (by rw [hw1]; simp; omega) (by rw [hw1, t1]; simp; omega) (by rw [hw1, t1]; exact getD_enc hlt) (by rw [hw1, t1]; simp only [Int.toNat_natCast, hl, hc]; rfl)
          rfl (by simp) (by simp; omega) (by simp; omega) (by simp only [decide_eq_true_eq, ← List.map_take, ← List.map_drop]; exact ⟨trivial, all_plain _, all_four _⟩) (by simp; omega) (by simp only [← List.map_take, ← List.map_drop, List.map_append, List.map_nil])
          (by rw [hw2]; simp; omega) (by rw [hw2, t2]; simp; omega) (by rw [hw2, t2]; simp; omega) (by simp only [decide_eq_true_eq, ← List.map_take, ← List.map_drop]; exact ⟨trivial, all_plain _, all_four _⟩) (by rw [hw2, t2]; simp; omega) (by simp only [← List.map_take, ← List.map_drop, List.map_append, List.map_nil])
        have e1 : ([] ++ List.take ((i : Int).toNat - 0) (List.drop 0 b) ++ List.take ((b.map Ps.enc).length - (IntKind.i64.wrap ((i : Int) + 2)).toNat) (List.drop (IntKind.i64.wrap ((i : Int) + 2)).toNat b)) = b.take i ++ b.drop (i + 2) := by
          rw [hw2, t2]
          simp only [Int.toNat_natCast, Nat.sub_zero, List.drop_zero, List.nil_append, List.length_map]
          congr 1
          exact List.take_of_length_le (by simp)
        rw [e1] at h1
        have hlen : (b.take i ++ b.drop (i + 2)).length + 2 = b.length := by simp; omega
        have h2 := fun c => ih (b.take i ++ b.drop (i + 2)) 0 c (fun p hp => by
          rcases List.mem_append.1 hp with h | h
          · exact hwf p (List.mem_of_mem_take h)
          · exact hwf p (List.mem_of_mem_drop h)) (by omega) (fun j hj _ => by omega) (by omega) (by omega) (by
            have e3 : b.length * M = (b.take i ++ b.drop (i + 2)).length * M + 2 * M := by rw [← hlen, Nat.add_mul]
            omega)
        simp only [nf_cut b i hlt hc] at h2
        exact Rnd.step h1 (h2 _)
    · have hn2 : nf b = b := nf_id (irr_of _ b rfl fun j hj => hirr j (by omega) hj)
      rw [hn2]
      exact Rnd.exit (Tri.after [(3, .keep)] (lredu_2 b i (by rw [hw1]; simp; omega))) (by simp)
theorem lredu_loop (b : List Ps) (c : Option Nat) (hwf : ∀ p ∈ b, 0 ≤ p.d) (hb : b.length ≤ 4294967296) : Tri Try.prog (cxN 41 0) (.loop (loopBody Try.f18 0)) [(3, ow c b), (4, it 0)] (.exit 0) [(3, ow none (nf b))] :=
  Rnd.loop (lredu_rnd (b.length + 2) _ b 0 c hwf hb (fun j hj _ => by omega) (by omega) (Nat.le_refl _) (Nat.le_refl _))

theorem lback_rnd (M : Nat) : ∀ (n : Nat) (b : List Ps) (i : Int) (c : Option Nat), (∀ p ∈ b, 0 ≤ p.d) → b.length ≤ 4294967296 → (∀ j : Nat, i < j → j + 1 < b.length → can (b.getD j default) (b.getD (j + 1) default) = false) →
    -2 ≤ i → i + 1 < b.length → b.length + 2 ≤ M → b.length * M + (i + 2).toNat ≤ n → Rnd Try.prog (cxN 40 0) (loopBody Try.f20 0) (n + 1) [(3, ow c b), (4, it i)] (.exit 0) [(3, ow none (nf b))] := by
  intro n
  induction n with
  | zero =>
    intro b i c hwf hb hirr hil hiu hM hn
    have hb0 : b = [] := by
      cases b with
      | nil => rfl
      | cons p b => simp only [List.length_cons, Nat.add_mul] at hn; omega
    subst hb0
    have hi0 : i = -2 := by omega
    subst hi0
    exact Rnd.weak [(3, .forget), (4, .keep)] (Rnd.exit (Tri.after [(3, .keep)] (lback_2 [] (-2) (by decide))) (by simp))
  | succ n ih =>
    intro b i c hwf hb hirr hil hiu hM hn
    refine Rnd.weak [(3, .forget), (4, .keep)] ?_
    by_cases hi0 : 0 ≤ i
    · obtain ⟨i, rfl⟩ : ∃ k : Nat, i = k := ⟨i.toNat, by omega⟩
      have hw1 : IntKind.i64.wrap ((i : Int) + 1) = (i : Int) + 1 := wrap_id (by omega) (by omega)
      have hw2 : IntKind.i64.wrap ((i : Int) + 2) = (i : Int) + 2 := wrap_id (by omega) (by omega)
      have hw0 : IntKind.i64.wrap ((i : Int) - 1) = (i : Int) - 1 := wrap_id (by omega) (by omega)
      have hlt : i + 1 < b.length := by omega
      have t1 : ((i : Int) + 1).toNat = i + 1 := by omega
      have t2 : ((i : Int) + 2).toNat = i + 2 := by omega
      have hl := lcan_eq (mem_wf hwf (show i < b.length by omega)) (mem_wf hwf hlt)
      cases hc : can (b.getD i default) (b.getD (i + 1) default) with
      | false =>
        have h1 := lback_0 b i (by simp) (by simp; omega) (by simp; omega) (getD_enc (by simp; omega)) (by rw [hw1]; simp; omega) (by rw [hw1, t1]; simp; omega) (by rw [hw1, t1]; exact getD_enc hlt) (by rw [hw1, t1]; simp only [Int.toNat_natCast, hl, hc]; rfl)
        rw [hw0] at h1
        refine Rnd.step h1 (ih b ((i : Int) - 1) none hwf hb ?_ (by omega) (by omega) hM (by omega))
        intro j hj hj2
        by_cases hji : (i : Int) < j
        · exact hirr j hji hj2
        · have : j = i := by omega
          subst this; exact hc
      | true =>
        have h1 := lback_1 b i (by simp) (by simp; omega) (by simp; omega) (getD_enc (by simp; omega)) (by rw [hw1]; simp; omega) (by rw [hw1, t1]; simp; omega) (by rw [hw1, t1]; exact getD_enc hlt) (by rw [hw1, t1]; simp only [Int.toNat_natCast, hl, hc]; rfl)
          rfl (by simp; omega) (by simp; omega) (by simp only [decide_eq_true_eq, ← List.map_take, ← List.map_drop]; exact ⟨trivial, all_plain _, all_four _⟩) (by simp; omega) (by simp only [← List.map_take, ← List.map_drop, List.map_append, List.map_nil])
          (by rw [hw2]; simp; omega) (by rw [hw2, t2]; simp; omega) (by rw [hw2, t2]; simp; omega) (by simp only [decide_eq_true_eq, ← List.map_take, ← List.map_drop]; exact ⟨trivial, all_plain _, all_four _⟩) (by rw [hw2, t2]; simp; omega) (by simp only [← List.map_take, ← List.map_drop, List.map_append, List.map_nil])
        have e1 : ([] ++ List.take ((i : Int).toNat - 0) (List.drop 0 b) ++ List.take ((b.map Ps.enc).length - (IntKind.i64.wrap ((i : Int) + 2)).toNat) (List.drop (IntKind.i64.wrap ((i : Int) + 2)).toNat b)) = b.take i ++ b.drop (i + 2) := by
          rw [hw2, t2]
          simp only [Int.toNat_natCast, Nat.sub_zero, List.drop_zero, List.nil_append, List.length_map]
          congr 1
          exact List.take_of_length_le (by simp)
        rw [e1] at h1
        have hlen : (b.take i ++ b.drop (i + 2)).length + 2 = b.length := by simp; omega
        have hw3 : IntKind.i64.wrap ((((b.take i ++ b.drop (i + 2)).map Ps.enc).length : Int) - 2) = ((b.take i ++ b.drop (i + 2)).length : Int) - 2 := by
          rw [List.length_map]; exact wrap_id (by omega) (by omega)
        rw [hw3] at h1
        have h2 := fun c => ih (b.take i ++ b.drop (i + 2)) (((b.take i ++ b.drop (i + 2)).length : Int) - 2) c (fun p hp => by
          rcases List.mem_append.1 hp with h | h
          · exact hwf p (List.mem_of_mem_take h)
          · exact hwf p (List.mem_of_mem_drop h)) (by omega) (fun j hj _ => by omega) (by omega) (by omega) (by omega) (by
            have e3 : b.length * M = (b.take i ++ b.drop (i + 2)).length * M + 2 * M := by rw [← hlen, Nat.add_mul]
            omega)
        simp only [nf_cut b i hlt hc] at h2
        exact Rnd.step h1 (h2 _)
    · have hn2 : nf b = b := nf_id (irr_of _ b rfl fun j hj => hirr j (by omega) hj)
      rw [hn2]
      exact Rnd.exit (Tri.after [(3, .keep)] (lback_2 b i (by simpa using hi0))) (by simp)
theorem lback_loop (b : List Ps) (c : Option Nat) (hwf : ∀ p ∈ b, 0 ≤ p.d) (hb : b.length ≤ 4294967296) : Tri Try.prog (cxN 40 0) (.loop (loopBody Try.f20 0)) [(3, ow c b), (4, it (IntKind.i64.wrap (((b.map Ps.enc).length : Int) - 2)))] (.exit 0) [(3, ow none (nf b))] := by
  have hw3 : IntKind.i64.wrap (((b.map Ps.enc).length : Int) - 2) = (b.length : Int) - 2 := by
    rw [List.length_map]; exact wrap_id (by omega) (by omega)
  rw [hw3]
  exact Rnd.loop (lback_rnd (b.length + 2) _ b _ c hwf hb (fun j hj _ => by omega) (by omega) (by omega) (Nat.le_refl _) (Nat.le_refl _))
end Tst
end

section
open Go Go.Lf Go.Proofs
namespace Tst
theorem cancel_c (p q : Ps) : PureC Try.prog 43 [p.enc, q.enc] (.atom (.bool (can p q))) := by
  have e1 := ps_beq (turnP p) q
  have e2 := ps_beq (turnP q) p
  cases h : (turnP p == q) with
  | true =>
    have := cancel_0 p q (by rw [e1, h])
    rw [e2] at this
    have hc : can p q = (turnP q == p) := by simp [can, h]
    rw [hc]; exact this
  | false =>
    have := cancel_1 p q (by rw [e1, h])
    have hc : can p q = false := by simp [can, h]
    rw [hc]; exact this
end Tst
end
