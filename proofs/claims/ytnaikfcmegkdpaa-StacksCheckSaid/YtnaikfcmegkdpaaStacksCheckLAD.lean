/- Part 4 of the evaluator and of the contracts that the claim uses. -/
import Derived.KernelRfl
import Derived.Test.YtnaikfcmegkdpaaProg
import Derived.RangeFuncSeq
import Derived.Test.YtnaikfcmegkdpaaStacksCheckLAA
import Derived.Test.YtnaikfcmegkdpaaStacksCheckLAB
import Derived.Test.YtnaikfcmegkdpaaStacksCheckLAC
set_option linter.unusedVariables false
set_option linter.unusedSimpArgs false
set_option linter.constructorNameAsVariable false

section
open Go Go.Lf Go.Proofs
namespace Tst
def T : Types := [(3, ⟨[.int .i64 0], 8, false, .int .i64⟩), (4, ⟨[.bool false], 1, false, .bool⟩), (5, ⟨[.int .u8 0], 1, false, .int .u8⟩), (9, ⟨[.string ⟨#[]⟩], 16, false, .str⟩), (22, ⟨[.slice none 0 0], 24, false, .slice 89⟩), (23, ⟨[.slice none 0 0], 24, false, .slice 33⟩), (30, ⟨[.int .u8 0, .int .i64 0], 16, true, .struct [(0, 1), (1, 1)]⟩), (31, ⟨[.int .u8 0], 1, false, .int .u8⟩), (33, ⟨[.int .u8 0, .int .i64 0, .bool false, .int .u8 0], 24, true, .struct [(0, 2), (2, 1), (3, 1)]⟩), (36, ⟨[.slice none 0 0], 24, false, .slice 40⟩), (38, ⟨[.bool false, .int .i64 0, .int .i64 0, .bool false, .slice none 0 0], 56, true, .struct [(0, 1), (1, 1), (2, 1), (3, 1), (4, 1)]⟩), (40, ⟨[.int .u8 0, .int .i64 0, .int .u8 0, .slice none 0 0], 48, true, .struct [(0, 1), (1, 1), (2, 1), (3, 1)]⟩), (41, ⟨[.int .i64 0], 8, false, .int .i64⟩), (47, ⟨[.int .i64 0, .bool false, .slice none 0 0], 40, true, .struct [(0, 1), (1, 1), (2, 1)]⟩), (52, ⟨[.int .u8 0, .int .u8 0], 2, true, .array 2 5⟩), (58, ⟨[.slice none 0 0], 24, false, .slice 87⟩), (59, ⟨[.int .u8 0], 1, false, .int .u8⟩), (61, ⟨[.int .u8 0, .int .i64 0], 16, true, .struct [(0, 1), (1, 1)]⟩), (62, ⟨[.slice none 0 0], 24, false, .slice 30⟩), (64, ⟨[.slice none 0 0, .slice none 0 0, .slice none 0 0, .slice none 0 0, .slice none 0 0, .slice none 0 0, .slice none 0 0, .slice none 0 0, .slice none 0 0, .slice none 0 0, .slice none 0 0, .slice none 0 0, .slice none 0 0, .slice none 0 0, .slice none 0 0, .slice none 0 0, .slice none 0 0, .slice none 0 0, .slice none 0 0, .slice none 0 0, .slice none 0 0, .slice none 0 0, .slice none 0 0, .slice none 0 0, .slice none 0 0, .slice none 0 0, .slice none 0 0, .slice none 0 0, .slice none 0 0, .slice none 0 0, .slice none 0 0, .slice none 0 0, .slice none 0 0, .slice none 0 0, .slice none 0 0, .slice none 0 0, .slice none 0 0, .slice none 0 0, .slice none 0 0, .slice none 0 0, .slice none 0 0, .slice none 0 0, .slice none 0 0, .slice none 0 0, .slice none 0 0, .slice none 0 0, .slice none 0 0, .slice none 0 0, .slice none 0 0, .slice none 0 0, .slice none 0 0, .slice none 0 0, .slice none 0 0, .slice none 0 0, .slice none 0 0, .slice none 0 0, .slice none 0 0, .slice none 0 0, .slice none 0 0, .slice none 0 0, .slice none 0 0, .slice none 0 0, .slice none 0 0, .slice none 0 0, .slice none 0 0, .slice none 0 0, .slice none 0 0, .slice none 0 0, .slice none 0 0, .slice none 0 0, .slice none 0 0, .slice none 0 0, .slice none 0 0, .slice none 0 0, .slice none 0 0, .slice none 0 0, .slice none 0 0, .slice none 0 0, .slice none 0 0, .slice none 0 0], 1920, true, .array 80 62⟩), (66, ⟨[.slice none 0 0], 24, false, .slice 62⟩), (68, ⟨[.slice none 0 0, .slice none 0 0], 48, true, .struct [(0, 1), (1, 1)]⟩), (87, ⟨[.int .u8 0, .int .u8 0], 2, true, .struct [(0, 1), (1, 1)]⟩), (89, ⟨[.int .u8 0], 1, false, .int .u8⟩), (110, ⟨[.slice none 0 0], 24, false, .slice 23⟩), (112, ⟨[.map none], 8, false, .map 30 4⟩), (115, ⟨[.int .u8 0, .int .u8 0], 2, true, .array 2 59⟩), (117, ⟨[.slice none 0 0, .slice none 0 0, .slice none 0 0, .slice none 0 0, .slice none 0 0, .slice none 0 0, .slice none 0 0, .slice none 0 0, .slice none 0 0, .slice none 0 0, .slice none 0 0, .slice none 0 0, .slice none 0 0, .slice none 0 0, .slice none 0 0, .slice none 0 0, .slice none 0 0, .slice none 0 0, .slice none 0 0, .slice none 0 0, .slice none 0 0, .slice none 0 0, .slice none 0 0, .slice none 0 0, .slice none 0 0, .slice none 0 0, .slice none 0 0, .slice none 0 0, .slice none 0 0, .slice none 0 0, .slice none 0 0, .slice none 0 0, .slice none 0 0, .slice none 0 0, .slice none 0 0, .slice none 0 0, .slice none 0 0, .slice none 0 0, .slice none 0 0, .slice none 0 0], 960, true, .array 40 62⟩), (118, ⟨[.slice none 0 0, .slice none 0 0, .slice none 0 0, .slice none 0 0, .slice none 0 0, .slice none 0 0, .slice none 0 0, .slice none 0 0, .slice none 0 0, .slice none 0 0, .slice none 0 0, .slice none 0 0, .slice none 0 0, .slice none 0 0, .slice none 0 0, .slice none 0 0, .slice none 0 0, .slice none 0 0, .slice none 0 0, .slice none 0 0, .slice none 0 0, .slice none 0 0, .slice none 0 0, .slice none 0 0, .slice none 0 0, .slice none 0 0, .slice none 0 0, .slice none 0 0, .slice none 0 0, .slice none 0 0, .slice none 0 0, .slice none 0 0, .slice none 0 0, .slice none 0 0, .slice none 0 0, .slice none 0 0, .slice none 0 0, .slice none 0 0, .slice none 0 0, .slice none 0 0, .slice none 0 0, .slice none 0 0, .slice none 0 0, .slice none 0 0, .slice none 0 0, .slice none 0 0, .slice none 0 0, .slice none 0 0, .slice none 0 0, .slice none 0 0, .slice none 0 0, .slice none 0 0, .slice none 0 0, .slice none 0 0, .slice none 0 0, .slice none 0 0, .slice none 0 0, .slice none 0 0, .slice none 0 0, .slice none 0 0, .slice none 0 0, .slice none 0 0, .slice none 0 0, .slice none 0 0, .slice none 0 0, .slice none 0 0, .slice none 0 0, .slice none 0 0, .slice none 0 0, .slice none 0 0, .slice none 0 0, .slice none 0 0, .slice none 0 0, .slice none 0 0, .slice none 0 0, .slice none 0 0, .slice none 0 0, .slice none 0 0, .slice none 0 0, .slice none 0 0], 1920, true, .array 2 117⟩)]
theorem tyOk : ∀ t i, tyF T t = some i → TyOk Try.prog t i := tyOk_of (by kernel_rfl)
def h3 : Hints := ⟨fun n => match n with | 0 => [0, 1] | 1 => [0, 1, 17] | 2 => [4] | 3 => [5] | 4 => [5, 6] | 5 => [5, 6, 7] | 6 => [5, 6, 7, 8] | 7 => [7, 50] | 8 => [4] | 9 => [7, 9] | 10 => [7, 9, 55] | 11 => [7, 9] | 12 => [7, 9, 68] | 13 => [4] | 14 => [4] | _ => [], fun n => match n with | 10 => [(7, .keep), (9, .keep)] | _ => []⟩
def h4 : Hints := ⟨fun n => match n with | 0 => [0, 1, 2] | 1 => [0, 1, 2, 27] | 2 => [6] | 3 => [2, 7, 8] | 4 => [2, 7, 8, 9] | 5 => [2, 7, 8, 49] | 6 => [6] | 7 => [2, 7, 8, 10] | 8 => [2, 10, 11] | 9 => [2, 67] | 10 => [6] | 11 => [2, 12] | 12 => [2, 12, 81] | 13 => [6] | 14 => [2, 12, 13] | 15 => [2, 12, 13, 85] | 16 => [2, 12, 13] | 17 => [2, 12, 13, 14] | 18 => [2, 12, 13, 14, 98] | 19 => [2, 12, 13, 14] | 20 => [2, 12, 13, 14] | 21 => [2, 12, 13, 106] | 22 => [6] | 23 => [6] | _ => [], fun n => match n with | 15 => [(2, .keep), (12, .keep), (13, .keep)] | _ => []⟩
def h5 : Hints := ⟨fun n => match n with | 0 => [0] | 1 => [0, 17] | 2 => [2] | 3 => [0, 3] | 4 => [0, 3, 4, 5, 6, 7] | 5 => [0, 3, 4, 5, 6, 7, 8] | 6 => [0, 3, 4, 5, 6, 7, 8, 9] | 7 => [0, 3, 4, 5, 6, 7, 8, 9, 22] | 8 => [0, 3, 4, 5, 6, 7, 8, 9] | 9 => [0, 3, 4, 5, 6, 7, 8, 9, 31] | 10 => [2] | 11 => [0, 3, 4, 5, 6, 7, 8, 9] | 12 => [0, 3, 4, 5, 6, 7, 8, 9, 11] | 13 => [0, 3, 4, 5, 6, 7, 8, 9, 11, 12] | 14 => [0, 3, 4, 5, 6, 7, 8, 9, 11, 12, 38] | 15 => [0, 3, 4, 5, 6, 7, 8, 9, 11, 12, 14] | 16 => [0, 3, 4, 5, 6, 7, 8, 9, 10, 11, 12, 14] | 17 => [0, 3, 4, 5, 6, 7, 8, 9, 10, 11, 12, 14, 46] | 18 => [0, 3, 4, 5, 6, 7, 8, 9, 10, 11, 12, 14] | 19 => [0, 3, 4, 5, 6, 7, 8, 9, 10, 11, 12, 59] | 20 => [2] | 21 => [0, 3, 4, 5, 6, 9, 10, 11, 12, 80] | 22 => [2] | 23 => [0, 3, 4, 5, 6, 9, 10, 11, 12] | 24 => [0, 3, 4, 5, 6, 7, 8, 9, 10, 11, 12] | 25 => [0, 3, 4, 5, 6, 7, 8, 9, 11, 12, 38, 83] | 26 => [0, 3, 4, 5, 6, 7, 8, 9, 10, 11, 12] | 27 => [0, 3, 4, 6, 7, 8, 9, 10, 11, 12] | 28 => [0, 3, 4, 5, 6, 7, 8, 9, 10, 11, 12] | 29 => [0, 3, 4, 5, 6, 7, 8, 9, 10, 11, 12, 100] | 30 => [0, 3, 4, 5, 6, 7, 8, 9, 10, 11, 12] | 31 => [0, 3, 4, 5, 6, 7, 8, 9, 10, 11, 12, 101] | 32 => [0, 3, 4, 5, 6, 7, 8, 9, 10, 11, 12] | 33 => [0, 3, 4, 5, 6, 7, 8, 9, 10, 11, 12, 108] | 34 => [0, 3, 4, 5, 6, 7, 8, 9, 10, 11, 12] | 35 => [0, 3, 4, 5, 6, 7, 8, 9, 11, 12, 38, 110] | 36 => [0, 3, 4, 5, 6, 7, 8, 9, 10, 11, 12] | 37 => [0, 3, 4, 5, 6, 7, 8, 9, 10, 11, 12, 117] | 38 => [0, 3, 4, 5, 6, 7, 8, 9, 10, 11, 12] | 39 => [0, 3, 4, 5, 6, 7, 8, 9, 10, 11, 12] | 40 => [0, 3, 4, 5, 6, 7, 8, 9, 11, 12, 118] | 41 => [0, 3, 4, 5, 6, 7, 8, 9, 11, 12, 13] | 42 => [0, 3, 4, 5, 6, 7, 8, 9, 10, 11, 12, 13] | 43 => [0, 3, 4, 5, 6, 7, 8, 9, 10, 11, 12, 13] | 44 => [0, 3, 4, 5, 6, 7, 8, 9, 10, 11, 12] | 45 => [0, 3, 4, 5, 6, 7, 8, 9, 10, 11, 12, 13, 148] | 46 => [0, 3, 4, 5, 6, 7, 8, 9, 10, 11, 12] | 47 => [0, 3, 4, 5, 6, 7, 8, 9, 10, 11, 12, 13, 172] | 48 => [0, 3, 4, 5, 6, 7, 8, 9, 10, 11, 12] | 49 => [0, 3, 4, 5, 6, 7, 8, 9, 10, 11, 177] | 50 => [2] | 51 => [0, 3, 4, 5, 6, 7, 8, 9, 11, 179] | 52 => [0, 3, 4, 5, 6, 7, 8, 9, 191] | 53 => [2] | 54 => [0, 3, 4, 5, 6, 7, 8, 9] | 55 => [0, 3, 4, 5, 6, 7, 8, 9, 230] | 56 => [2] | 57 => [2] | _ => [], fun n => match n with | 7 => [(0, .keep), (3, .keep), (4, .keep), (5, .keep), (6, .keep), (7, .keep), (8, .keep), (9, .keep)] | _ => []⟩
def h6 : Hints := ⟨fun n => match n with | 0 => [0, 1, 5] | 1 => [0, 1, 5, 22] | 2 => [6] | 3 => [0, 1, 7, 8] | 4 => [0, 1, 7, 8, 9, 10] | 5 => [0, 1, 7, 8, 9, 42] | 6 => [6] | 7 => [1, 7, 8, 9, 10] | 8 => [1, 7, 8, 9, 10, 11, 12] | 9 => [8, 9, 10, 11, 12, 13, 14] | 10 => [8, 9, 11, 13, 77] | 11 => [6] | 12 => [6] | _ => [], fun n => match n with | _ => []⟩
def h7 : Hints := ⟨fun n => match n with | 0 => [2, 3] | 1 => [2, 3, 24] | 2 => [4] | 3 => [2, 46] | 4 => [4] | 5 => [2, 5] | 6 => [2, 5, 56] | 7 => [2, 5] | 8 => [2, 5] | 9 => [2, 5, 6] | 10 => [2, 5, 6, 95] | 11 => [2, 5, 6] | 12 => [2, 5, 6, 7] | 13 => [2, 5, 6, 144] | 14 => [2, 5, 6] | 15 => [2, 146] | 16 => [2, 9] | 17 => [2, 9, 11] | 18 => [2, 9, 11, 13] | 19 => [2, 9, 11, 13, 16] | 20 => [4] | 21 => [2, 19] | 22 => [2, 19, 20] | 23 => [2, 19, 20, 198] | 24 => [2, 19, 20] | 25 => [2, 19, 20, 201] | 26 => [2, 19, 20] | 27 => [4] | _ => [], fun n => match n with | 10 => [(2, .keep), (5, .keep), (6, .keep)] | _ => []⟩
def h8 : Hints := ⟨fun n => match n with | 0 => [0, 3] | 1 => [3, 5] | 2 => [3, 5, 6] | 3 => [3, 5, 6, 7] | 4 => [3, 5, 6, 7, 21] | 5 => [3, 5, 6, 7] | 6 => [3, 5, 6, 7] | 7 => [3, 5, 6, 8, 9] | 8 => [3, 5, 6, 8, 37] | 9 => [4] | 10 => [3, 5, 6, 8, 9, 10] | 11 => [3, 5, 6, 8, 9, 10, 11] | 12 => [3, 5, 6, 8, 9, 10, 11, 45] | 13 => [3, 5, 6, 8, 9, 10, 11] | 14 => [3, 6, 8, 59] | 15 => [4] | 16 => [3, 9] | 17 => [9, 12] | 18 => [4] | _ => [], fun n => match n with | 4 => [(3, .keep), (5, .keep), (6, .keep), (7, .keep)] | _ => []⟩
def h28 : Hints := ⟨fun n => match n with | 0 => [1] | 1 => [2] | _ => [], fun n => match n with | _ => []⟩
def h33 : Hints := ⟨fun n => match n with | 0 => [2, 3] | 1 => [2, 3, 7] | 2 => [4] | 3 => [4] | _ => [], fun n => match n with | _ => []⟩
def h41 : Hints := ⟨fun n => match n with | 0 => [0, 1] | 1 => [0, 1, 17] | 2 => [4] | 3 => [0, 1, 5] | 4 => [0, 1, 5, 21] | 5 => [0, 1, 5] | 6 => [0, 1, 5, 32] | 7 => [4] | 8 => [4] | _ => [], fun n => match n with | 4 => [(0, .keep), (1, .keep), (5, .keep)] | _ => []⟩
def h56 : Hints := ⟨fun n => match n with | 0 => [1] | 1 => [16] | 2 => [2] | 3 => [2] | _ => [], fun n => match n with | _ => []⟩
def h57 : Hints := ⟨fun n => match n with | 0 => [0, 3] | 1 => [0, 3, 6] | 2 => [2, 3] | 3 => [0, 3] | 4 => [3] | 5 => [2, 3] | _ => [], fun n => match n with | _ => []⟩
def h58 : Hints := ⟨fun n => match n with | 0 => [0, 1] | 1 => [0, 1, 8] | 2 => [4] | 3 => [4] | _ => [], fun n => match n with | _ => []⟩
def h59 : Hints := ⟨fun n => match n with | 0 => [1, 2] | 1 => [2, 6] | 2 => [2, 4] | 3 => [2, 4] | _ => [], fun n => match n with | _ => []⟩
def h61 : Hints := ⟨fun n => match n with | 0 => [0, 3] | 1 => [4] | _ => [], fun n => match n with | _ => []⟩
def h62 : Hints := ⟨fun n => match n with | 0 => [0] | 1 => [5, 6, 7] | 2 => [5, 6, 7, 8] | 3 => [4, 5, 6, 7] | 4 => [5, 6, 7, 13] | 5 => [2] | 6 => [5, 6, 7] | 7 => [2] | _ => [], fun n => match n with | 2 => [(5, .keep), (6, .keep), (7, .keep)] | _ => []⟩
def h68 : Hints := ⟨fun n => match n with | 0 => [0] | 1 => [3] | 2 => [3, 4] | 3 => [2] | 4 => [6] | 5 => [2] | 6 => [2] | _ => [], fun n => match n with | _ => []⟩
def h70 : Hints := ⟨fun n => match n with | 0 => [0, 3] | 1 => [0, 3, 7, 8] | 2 => [0, 3, 7, 8, 9] | 3 => [0, 3, 5, 7, 8] | 4 => [0, 3, 5, 7, 8, 16] | 5 => [4] | 6 => [0, 3, 7, 8] | 7 => [4] | _ => [], fun n => match n with | 2 => [(0, .keep), (3, .keep), (7, .keep), (8, .keep)] | _ => []⟩
def h71 : Hints := ⟨fun n => match n with | 0 => [0, 4] | 1 => [0, 3, 4] | 2 => [0, 3, 4, 18] | 3 => [0, 3, 4] | 4 => [0, 3, 4, 22] | 5 => [2, 4] | 6 => [0, 4] | 7 => [0, 4, 26, 27] | 8 => [0, 4, 26, 27, 28] | 9 => [0, 4, 5, 26, 27] | 10 => [0, 4, 26, 27] | 11 => [0, 4, 26, 27] | 12 => [2, 4] | _ => [], fun n => match n with | 2 => [(0, .keep), (3, .keep), (4, .keep)] | 8 => [(0, .keep), (4, .keep), (26, .keep), (27, .keep)] | _ => []⟩
def h73 : Hints := ⟨fun n => match n with | 0 => [0, 1, 22] | 1 => [0, 1, 6, 22] | 2 => [0, 1, 22] | 3 => [0, 1, 22] | 4 => [0, 1, 16, 22] | 5 => [0, 22] | 6 => [0, 4, 22] | _ => [], fun n => match n with | _ => []⟩
def h65 : Hints := ⟨fun n => match n with | 0 => [0] | 1 => [0, 3] | 2 => [0, 3, 9, 10, 11] | 3 => [0, 3, 9, 10, 11, 12] | 4 => [0, 3, 5, 9, 10, 11] | 5 => [0, 3, 9, 10, 11] | 6 => [0, 3, 9, 10, 11, 20] | 7 => [0, 3, 9, 10, 11] | 8 => [0, 3, 9, 10, 11] | 9 => [0, 6] | 10 => [6, 25, 26, 27] | 11 => [6, 25, 26, 27, 28] | 12 => [6, 8, 25, 26, 27] | 13 => [6, 25, 26, 27] | 14 => [6, 25, 26, 27] | 15 => [2, 6] | _ => [], fun n => match n with | 3 => [(0, .keep), (3, .keep), (9, .keep), (10, .keep), (11, .keep)] | 11 => [(6, .keep), (25, .keep), (26, .keep), (27, .keep)] | _ => []⟩
def h63 : Hints := ⟨fun n => match n with | 0 => [2, 3, 4, 6] | 1 => [2, 3, 4, 6, 7] | 2 => [2, 4, 6, 7, 11] | 3 => [2, 4, 6, 7, 8, 13] | 4 => [2, 4, 6, 7, 8, 9] | 5 => [2, 4, 6, 7] | 6 => [6, 7] | 7 => [6] | _ => [], fun n => match n with | _ => []⟩
def h31 : Hints := ⟨fun n => match n with | 0 => [1] | 1 => [1, 3] | 2 => [2] | 3 => [1, 6] | 4 => [2] | 5 => [10] | 6 => [2] | 7 => [2] | _ => [], fun n => match n with | _ => []⟩
def h38 : Hints := ⟨fun n => match n with | 0 => [2, 3, 4, 6] | 1 => [2, 3, 4, 6, 8] | 2 => [2, 3, 4, 6, 8, 13] | 3 => [6, 7] | 4 => [2, 3, 4, 6, 23] | 5 => [6, 7] | 6 => [2, 3, 4, 6, 27] | 7 => [6, 7] | 8 => [6, 9] | 9 => [6, 9, 34] | 10 => [6, 7] | 11 => [6, 7] | _ => [], fun n => match n with | _ => []⟩
def h40 : Hints := ⟨fun n => match n with | 0 => [3, 4, 5, 6] | 1 => [3, 4, 5, 6, 8] | 2 => [3, 4, 5, 6, 8, 15] | 3 => [6, 7] | 4 => [3, 4, 5, 6, 32] | 5 => [6, 7] | 6 => [3, 4, 5, 6, 9, 10] | 7 => [3, 4, 5, 6, 9, 10, 42] | 8 => [6, 7] | 9 => [3, 4, 5, 6, 9, 10, 49] | 10 => [6, 7] | 11 => [3, 4, 5, 6, 9, 10, 11] | 12 => [3, 4, 5, 6, 9, 10, 11, 57] | 13 => [3, 4, 5, 6, 11] | 14 => [6, 7] | _ => [], fun n => match n with | _ => []⟩
def h35 : Hints := ⟨fun n => match n with | 0 => [2, 3, 4, 5] | 1 => [3, 4, 5, 9] | 2 => [3, 4, 5, 6, 11] | 3 => [3, 4, 5, 6, 7] | 4 => [3, 4, 5, 6, 14] | 5 => [4, 5] | 6 => [4, 5] | _ => [], fun n => match n with | _ => []⟩
def h36 : Hints := ⟨fun n => match n with | 0 => [1] | 1 => [1, 3] | 2 => [3, 7] | 3 => [3, 5] | 4 => [3] | 5 => [2] | _ => [], fun n => match n with | _ => []⟩
def h53 : Hints := ⟨fun n => match n with | 0 => [1, 2] | 1 => [1, 2, 14] | 2 => [2] | 3 => [2, 16] | 4 => [2, 4] | 5 => [2, 21] | 6 => [2] | 7 => [2] | _ => [], fun n => match n with | _ => []⟩
def h54 : Hints := ⟨fun n => match n with | 0 => [1, 2] | 1 => [2, 6] | 2 => [2, 4] | 3 => [2, 11] | 4 => [2] | 5 => [2] | _ => [], fun n => match n with | _ => []⟩
def h55 : Hints := ⟨fun n => match n with | 0 => [1, 2] | 1 => [0, 1, 2, 3] | 2 => [0, 2, 3, 10] | 3 => [0, 2, 3, 5] | 4 => [0, 2, 3, 5, 13, 14, 15] | 5 => [0, 2, 3, 5, 13, 14, 15, 16] | 6 => [0, 2, 3, 5, 7, 13, 14, 15] | 7 => [0, 2, 3, 5, 7, 13, 14, 15, 21] | 8 => [0, 2] | 9 => [0, 2, 3, 5, 13, 14, 15] | 10 => [0, 2, 3, 5, 13, 14, 15] | 11 => [0, 2] | _ => [], fun n => match n with | 5 => [(0, .keep), (2, .keep), (3, .keep), (5, .keep), (13, .keep), (14, .keep), (15, .keep)] | _ => []⟩
def h60 : Hints := ⟨fun n => match n with | 0 => [1] | 1 => [2] | _ => [], fun n => match n with | _ => []⟩
def h69 : Hints := ⟨fun n => match n with | 0 => [0, 1, 7, 8] | 1 => [0, 1, 7, 8, 9] | 2 => [0, 1, 4, 7, 8] | 3 => [0, 1, 4, 7, 8, 13, 14, 15] | 4 => [0, 1, 4, 7, 8, 13, 14, 15, 16] | 5 => [0, 1, 4, 5, 6, 7, 8, 13, 14, 15] | 6 => [0, 1, 4, 5, 6, 7, 8, 13, 14, 15, 21] | 7 => [0, 1, 4, 7, 8, 13, 14, 15, 29] | 8 => [0, 1, 4, 7, 8, 13, 14, 15] | 9 => [0, 1, 7, 8] | _ => [], fun n => match n with | 1 => [(0, .keep), (1, .keep), (7, .keep), (8, .keep)] | 4 => [(0, .keep), (1, .keep), (4, .keep), (7, .keep), (8, .keep), (13, .keep), (14, .keep), (15, .keep)] | _ => []⟩
def h37 : Hints := ⟨fun n => match n with | 0 => [] | 1 => [1, 2, 3] | 2 => [1, 2, 3, 4] | 3 => [1, 2, 3, 4, 5, 6, 7] | 4 => [1, 2, 3, 4, 5, 6, 7, 8, 9] | 5 => [1, 2, 3, 4, 5, 6, 7, 67] | 6 => [0] | 7 => [1, 2, 3, 4, 5, 6, 7, 9, 10] | 8 => [1, 2, 3, 4, 5, 6, 7, 9, 10, 11, 12] | 9 => [1, 2, 3, 4, 5, 6, 7, 9, 10, 11, 12, 14] | 10 => [1, 2, 3, 4, 5, 6, 7, 9, 10, 11, 12, 14, 16] | 11 => [2, 3, 4, 5, 6, 10, 137] | 12 => [0] | 13 => [2, 4, 6, 9, 10] | 14 => [2, 6, 9, 10, 12] | 15 => [0] | _ => [], fun n => match n with | _ => []⟩
def h9 : Hints := ⟨fun n => match n with | 0 => [0, 4, 5] | 1 => [4, 5, 7] | 2 => [4, 5, 7, 8] | 3 => [4, 5, 7, 8, 29] | 4 => [6] | 5 => [4, 5, 7, 8, 42] | 6 => [5, 7, 8, 47] | 7 => [6] | 8 => [5, 7, 8, 9] | 9 => [5, 7, 8, 9, 10] | 10 => [5, 7, 8, 9, 10, 11] | 11 => [5, 7, 8, 9, 10, 11, 12] | 12 => [5, 7, 8, 9, 10, 11, 12, 49] | 13 => [5, 7, 8, 9, 10, 11, 12] | 14 => [5, 7, 8, 9, 10, 11, 12] | 15 => [5, 7, 8, 9, 10, 11, 12, 13] | 16 => [5, 7, 8, 9, 10, 11, 12, 13, 63] | 17 => [5, 7, 8, 9, 10, 11, 12, 13] | 18 => [5, 7, 8, 9, 10, 11, 12, 13, 73] | 19 => [5, 7, 8, 9, 10, 11, 12, 13] | 20 => [5, 7, 8, 9, 10, 11, 12, 13] | 21 => [8, 9, 10, 11, 14, 15] | 22 => [8, 9, 10, 11, 14, 15, 16] | 23 => [8, 9, 10, 14, 15, 16, 86] | 24 => [8, 9, 10, 14, 15, 16] | 25 => [6] | _ => [], fun n => match n with | 12 => [(5, .keep), (7, .keep), (8, .keep), (9, .keep), (10, .keep), (11, .keep), (12, .keep)] | 16 => [(5, .keep), (7, .keep), (8, .keep), (9, .keep), (10, .keep), (11, .keep), (12, .keep), (13, .keep)] | _ => []⟩
def h10 : Hints := ⟨fun n => match n with | 0 => [0, 2, 4] | 1 => [0, 2, 4, 22] | 2 => [6] | 3 => [2, 4, 7] | 4 => [2, 4, 7, 8] | 5 => [2, 4, 7, 8, 9, 10] | 6 => [2, 4, 7, 8, 9, 10, 11] | 7 => [2, 4, 7, 8, 9, 10, 11, 12] | 8 => [2, 4, 7, 8, 9, 10, 11, 12, 13] | 9 => [2, 4, 7, 8, 9, 10, 11, 12, 13, 36] | 10 => [2, 4, 7, 8, 9, 10, 11, 12, 13] | 11 => [2, 4, 7, 8, 9, 10, 11, 12, 13, 43] | 12 => [2, 4, 7, 8, 9, 10, 11, 12, 13] | 13 => [2, 4, 7, 8, 9, 10, 11, 12, 46] | 14 => [2, 4, 7, 8, 9, 10, 11, 12] | 15 => [2, 4, 7, 8, 9, 10, 11, 12, 14] | 16 => [2, 4, 7, 8, 9, 10, 11, 12, 14, 50] | 17 => [2, 4, 7, 8, 9, 10, 11, 12, 14] | 18 => [2, 4, 7, 8, 9, 10, 11, 12, 14, 82] | 19 => [2, 4, 7, 8, 9, 10, 11, 12, 14] | 20 => [2, 4, 7, 8, 9, 10, 11, 12, 89] | 21 => [2, 4, 7, 8, 9, 10, 11, 12] | 22 => [2, 4, 7, 8, 9, 10, 11, 12, 15] | 23 => [2, 4, 7, 8, 9, 10, 11, 12, 15, 97] | 24 => [2, 4, 7, 8, 9, 10, 11, 12, 15] | 25 => [2, 4, 7, 8, 9, 10, 11, 12, 15, 16] | 26 => [2, 4, 7, 8, 9, 10, 11, 12, 15, 16, 102] | 27 => [2, 4, 7, 8, 9, 10, 11, 12, 15, 16] | 28 => [2, 4, 7, 8, 9, 10, 11, 12, 15, 16, 113] | 29 => [2, 4, 7, 8, 9, 10, 11, 12, 15, 16] | 30 => [2, 4, 7, 8, 9, 10, 11, 12, 15, 17] | 31 => [2, 4, 7, 8, 9, 10, 11, 12, 15, 17, 115] | 32 => [2, 4, 7, 8, 9, 10, 11, 12, 15, 17] | 33 => [2, 4, 7, 8, 9, 10, 11, 12, 15, 17, 18] | 34 => [2, 4, 7, 8, 9, 10, 11, 12, 15, 17, 18, 128] | 35 => [2, 4, 7, 8, 9, 10, 11, 12, 15, 17, 18] | 36 => [2, 4, 7, 8, 9, 10, 11, 12, 15, 17, 18, 141] | 37 => [2, 4, 7, 8, 9, 10, 11, 12, 15, 17, 18] | 38 => [2, 4, 7, 9, 10, 12, 150] | 39 => [6] | 40 => [2, 4, 7, 9, 12, 152] | 41 => [6] | 42 => [4, 7, 9] | 43 => [4, 9, 174] | 44 => [6] | 45 => [9, 10, 19] | 46 => [6] | _ => [], fun n => match n with | 9 => [(2, .keep), (4, .keep), (7, .keep), (8, .keep), (9, .keep), (10, .keep), (11, .keep), (12, .keep), (13, .keep)] | 16 => [(2, .keep), (4, .keep), (7, .keep), (8, .keep), (9, .keep), (10, .keep), (11, .keep), (12, .keep), (14, .keep)] | 23 => [(2, .keep), (4, .keep), (7, .keep), (8, .keep), (9, .keep), (10, .keep), (11, .keep), (12, .keep), (15, .keep)] | 26 => [(2, .keep), (4, .keep), (7, .keep), (8, .keep), (9, .keep), (10, .keep), (11, .keep), (12, .keep), (15, .keep), (16, .keep)] | 31 => [(2, .keep), (4, .keep), (7, .keep), (8, .keep), (9, .keep), (10, .keep), (11, .keep), (12, .keep), (15, .keep), (17, .keep)] | 34 => [(2, .keep), (4, .keep), (7, .keep), (8, .keep), (9, .keep), (10, .keep), (11, .keep), (12, .keep), (15, .keep), (17, .keep), (18, .keep)] | _ => []⟩
def h12 : Hints := ⟨fun n => match n with | 0 => [1] | 1 => [1, 23] | 2 => [2] | 3 => [1, 3] | 4 => [1, 3, 4] | 5 => [1, 3, 4, 5] | 6 => [1, 3, 4, 5, 6] | 7 => [1, 3, 4, 5, 6, 35] | 8 => [1, 3, 4, 5, 6] | 9 => [1, 3, 4, 5, 6, 48] | 10 => [2] | 11 => [1, 3, 4, 5, 6, 55] | 12 => [1, 3, 4, 5, 6] | 13 => [1, 3, 4, 5, 6] | 14 => [1, 4, 5, 71] | 15 => [1, 4, 5] | 16 => [1, 4, 5, 7] | 17 => [1, 4, 5, 7, 79] | 18 => [1, 4, 5, 7] | 19 => [1, 4, 5, 7, 111] | 20 => [1, 4, 5, 7] | 21 => [1, 4, 5, 8] | 22 => [1, 4, 5, 8, 119] | 23 => [1, 4, 5, 8] | 24 => [1, 4, 5, 8, 9] | 25 => [1, 4, 5, 8, 9, 124] | 26 => [1, 4, 5, 8, 9] | 27 => [1, 4, 5, 8, 9, 135] | 28 => [1, 4, 5, 8, 9] | 29 => [1, 4, 5, 139] | 30 => [2] | 31 => [1, 4, 5, 141] | 32 => [1, 5, 11] | 33 => [5, 11, 13] | 34 => [2] | 35 => [2] | _ => [], fun n => match n with | 7 => [(1, .keep), (3, .keep), (4, .keep), (5, .keep), (6, .keep)] | 17 => [(1, .keep), (4, .keep), (5, .keep), (7, .keep)] | 22 => [(1, .keep), (4, .keep), (5, .keep), (8, .keep)] | 25 => [(1, .keep), (4, .keep), (5, .keep), (8, .keep), (9, .keep)] | _ => []⟩
def h14 : Hints := ⟨fun n => match n with | 0 => [2, 3] | 1 => [2, 3, 5, 6] | 2 => [2, 5, 6, 7] | 3 => [2, 5, 6, 8] | 4 => [5, 6, 8, 9, 10] | 5 => [5, 6, 8, 9, 10, 11, 12] | 6 => [5, 6, 8, 9, 10, 11, 12, 56] | 7 => [4] | 8 => [5, 6, 8, 9, 10, 11, 12, 64] | 9 => [4] | 10 => [5, 6, 8, 9, 10, 11, 92] | 11 => [4] | 12 => [5, 8, 9, 10, 12, 13] | 13 => [4] | _ => [], fun n => match n with | _ => []⟩
theorem run_sizeOf_30 (w : World) : (Go.sizeOf 30).run Try.prog w = .ok 2 w := by
  have h : (Try.prog.info? 30).map (·.size) = some 2 := by kernel_rfl
  cases hq : Try.prog.info? 30 with
  | none => rw [hq] at h; cases h
  | some i => rw [hq] at h; simp at h; simp [Go.sizeOf, typeInfo, hq, h]
theorem held30 : Try.prog.stoodInHeld 30 = false := by kernel_rfl
theorem eqIn30 (k : Nat) (w : World) (x0 : Int) (x1 : Int) (y0 : Int) (y1 : Int) : (Op.equalIn (k + 2) 30 (.agg #[.int .u8 x0, .int .i64 x1]) (.agg #[.int .u8 y0, .int .i64 y1])).run Try.prog w = .ok ((x0 == y0) && (x1 == y1)) w := by
  have p0 : ∀ (a0 : Int) (a1 : Int) (w : World), (part 5 #[.int .u8 a0, .int .i64 a1] 0).run Try.prog w = .ok (.int .u8 a0) w := by
    intros; simp [part, isAgg, run_underlying Try.underlying5]
  have p1 : ∀ (a0 : Int) (a1 : Int) (w : World), (part 3 #[.int .u8 a0, .int .i64 a1] 1).run Try.prog w = .ok (.int .i64 a1) w := by
    intros; simp [part, isAgg, run_underlying Try.underlying3]
  rw [run_equalIn_agg w (k + 1) 30 _ _ (by kernel_rfl) held30]
  have hf : (Try.prog.fieldsOf 30).toList = [{ name := "Yarn", type := 5, offset := 0, embedded := false, tag := "", pkgPath := "", byteOffset := 0 }, { name := "N", type := 3, offset := 1, embedded := false, tag := "", pkgPath := "", byteOffset := 8 }] := by simp [Program.fieldsOf, Try.underlying30]
  rw [hf]
  simp only [Op.eqFields]
  rw [if_pos (by decide), if_pos (by decide)]
  have q0 := fun (w : World) => run_equalIn_int w (k + 0) 5 .u8 .u8 x0 y0 Try.underlying5
  have q1 := fun (w : World) => run_equalIn_int w (k + 0) 3 .i64 .i64 x1 y1 Try.underlying3
  generalize h0 : (x0 == y0) = b0 at *
  generalize h1 : (x1 == y1) = b1 at *
  simp only [Sem.run_bind, Result.andThen_ok, p0, q0, p1, q1]
  cases b0 <;> cases b1 <;> simp [p0, q0, p1, q1]
theorem held33 : Try.prog.stoodInHeld 33 = false := by kernel_rfl
theorem eqIn33 (k : Nat) (w : World) (x0 : Int) (x1 : Int) (x2 : Bool) (x3 : Int) (y0 : Int) (y1 : Int) (y2 : Bool) (y3 : Int) : (Op.equalIn (k + 3) 33 (.agg #[.int .u8 x0, .int .i64 x1, .bool x2, .int .u8 x3]) (.agg #[.int .u8 y0, .int .i64 y1, .bool y2, .int .u8 y3])).run Try.prog w = .ok (((x0 == y0) && (x1 == y1)) && (x2 == y2) && (x3 == y3)) w := by
  have p0 : ∀ (a0 : Int) (a1 : Int) (a2 : Bool) (a3 : Int) (w : World), (part 30 #[.int .u8 a0, .int .i64 a1, .bool a2, .int .u8 a3] 0).run Try.prog w = .ok (.agg #[.int .u8 a0, .int .i64 a1]) w := by
    intros; simp [part, isAgg, run_underlying Try.underlying30, run_sizeOf_30]
  have p1 : ∀ (a0 : Int) (a1 : Int) (a2 : Bool) (a3 : Int) (w : World), (part 4 #[.int .u8 a0, .int .i64 a1, .bool a2, .int .u8 a3] 2).run Try.prog w = .ok (.bool a2) w := by
    intros; simp [part, isAgg, run_underlying Try.underlying4]
  have p2 : ∀ (a0 : Int) (a1 : Int) (a2 : Bool) (a3 : Int) (w : World), (part 31 #[.int .u8 a0, .int .i64 a1, .bool a2, .int .u8 a3] 3).run Try.prog w = .ok (.int .u8 a3) w := by
    intros; simp [part, isAgg, run_underlying Try.underlying31]
  rw [run_equalIn_agg w (k + 2) 33 _ _ (by kernel_rfl) held33]
  have hf : (Try.prog.fieldsOf 33).toList = [{ name := "Id", type := 30, offset := 0, embedded := false, tag := "", pkgPath := "", byteOffset := 0 }, { name := "Front", type := 4, offset := 2, embedded := false, tag := "", pkgPath := "", byteOffset := 16 }, { name := "Dir", type := 31, offset := 3, embedded := false, tag := "", pkgPath := "", byteOffset := 17 }] := by simp [Program.fieldsOf, Try.underlying33]
  rw [hf]
  simp only [Op.eqFields]
  rw [if_pos (by decide), if_pos (by decide), if_pos (by decide)]
  have q0 := fun (w : World) => eqIn30 (k + 0) w x0 x1 y0 y1
  have q1 := fun (w : World) => run_equalIn_bool' w (k + 1) 4 x2 y2 Try.underlying4
  have q2 := fun (w : World) => run_equalIn_int w (k + 1) 31 .u8 .u8 x3 y3 Try.underlying31
  generalize h0 : ((x0 == y0) && (x1 == y1)) = b0 at *
  generalize h1 : (x2 == y2) = b1 at *
  generalize h2 : (x3 == y3) = b2 at *
  simp only [Sem.run_bind, Result.andThen_ok, p0, q0, p1, q1, p2, q2]
  cases b0 <;> cases b1 <;> cases b2 <;> simp [p0, q0, p1, q1, p2, q2]
theorem held61 : Try.prog.stoodInHeld 61 = false := by kernel_rfl
theorem eqIn61 (k : Nat) (w : World) (x0 : Int) (x1 : Int) (y0 : Int) (y1 : Int) : (Op.equalIn (k + 2) 61 (.agg #[.int .u8 x0, .int .i64 x1]) (.agg #[.int .u8 y0, .int .i64 y1])).run Try.prog w = .ok ((x0 == y0) && (x1 == y1)) w := by
  have p0 : ∀ (a0 : Int) (a1 : Int) (w : World), (part 59 #[.int .u8 a0, .int .i64 a1] 0).run Try.prog w = .ok (.int .u8 a0) w := by
    intros; simp [part, isAgg, run_underlying Try.underlying59]
  have p1 : ∀ (a0 : Int) (a1 : Int) (w : World), (part 3 #[.int .u8 a0, .int .i64 a1] 1).run Try.prog w = .ok (.int .i64 a1) w := by
    intros; simp [part, isAgg, run_underlying Try.underlying3]
  rw [run_equalIn_agg w (k + 1) 61 _ _ (by kernel_rfl) held61]
  have hf : (Try.prog.fieldsOf 61).toList = [{ name := "Bed", type := 59, offset := 0, embedded := false, tag := "", pkgPath := "", byteOffset := 0 }, { name := "At", type := 3, offset := 1, embedded := false, tag := "", pkgPath := "", byteOffset := 8 }] := by simp [Program.fieldsOf, Try.underlying61]
  rw [hf]
  simp only [Op.eqFields]
  rw [if_pos (by decide), if_pos (by decide)]
  have q0 := fun (w : World) => run_equalIn_int w (k + 0) 59 .u8 .u8 x0 y0 Try.underlying59
  have q1 := fun (w : World) => run_equalIn_int w (k + 0) 3 .i64 .i64 x1 y1 Try.underlying3
  generalize h0 : (x0 == y0) = b0 at *
  generalize h1 : (x1 == y1) = b1 at *
  simp only [Sem.run_bind, Result.andThen_ok, p0, q0, p1, q1]
  cases b0 <;> cases b1 <;> simp [p0, q0, p1, q1]
theorem guard30 : Try.prog.eqGuardType Try.prog.depth 30 = false := by kernel_rfl
theorem guard33 : Try.prog.eqGuardType Try.prog.depth 33 = false := by kernel_rfl
theorem guard61 : Try.prog.eqGuardType Try.prog.depth 61 = false := by kernel_rfl
def eqP : TypeId → List Value → List Value → Option Bool
  | 30, [.int .u8 x0, .int .i64 x1], [.int .u8 y0, .int .i64 y1] => some ((x0 == y0) && (x1 == y1))
  | 33, [.int .u8 x0, .int .i64 x1, .bool x2, .int .u8 x3], [.int .u8 y0, .int .i64 y1, .bool y2, .int .u8 y3] => some (((x0 == y0) && (x1 == y1)) && (x2 == y2) && (x3 == y3))
  | 61, [.int .u8 x0, .int .i64 x1], [.int .u8 y0, .int .i64 y1] => some ((x0 == y0) && (x1 == y1))
  | _, _, _ => none
theorem eqOk (t : TypeId) (us vs : List Value) (r : Bool) (h : eqP t us vs = some r) (w : World) (x y : Operand) :
    (do eqGuard .eql t x y (.agg us.toArray) (.agg vs.toArray); binOp .eql t (.agg us.toArray) (.agg vs.toArray) : Sem Value).run Try.prog w = .ok (.bool r) w ∧
    (do eqGuard .neq t x y (.agg us.toArray) (.agg vs.toArray); binOp .neq t (.agg us.toArray) (.agg vs.toArray) : Sem Value).run Try.prog w = .ok (.bool (!r)) w := by
  unfold eqP at h
  split at h
  · injection h with h; subst h
    constructor
    · rw [Sem.run_bind, run_eqGuard_agg w _ _ _ _ _ _ guard30, Result.andThen_ok, run_eql_struct, eqIn30 9998]; rfl
    · rw [Sem.run_bind, run_eqGuard_agg w _ _ _ _ _ _ guard30, Result.andThen_ok, run_neq_struct, eqIn30 9998]; rfl
  · injection h with h; subst h
    constructor
    · rw [Sem.run_bind, run_eqGuard_agg w _ _ _ _ _ _ guard33, Result.andThen_ok, run_eql_struct, eqIn33 9997]; rfl
    · rw [Sem.run_bind, run_eqGuard_agg w _ _ _ _ _ _ guard33, Result.andThen_ok, run_neq_struct, eqIn33 9997]; rfl
  · injection h with h; subst h
    constructor
    · rw [Sem.run_bind, run_eqGuard_agg w _ _ _ _ _ _ guard61, Result.andThen_ok, run_eql_struct, eqIn61 9998]; rfl
    · rw [Sem.run_bind, run_eqGuard_agg w _ _ _ _ _ _ guard61, Result.andThen_ok, run_neq_struct, eqIn61 9998]; rfl
  · cases h
def mutsB : FuncId → Bool := fun f => [45].contains f
def cxN (n lo : Nat) : Cx := cxA T eqP mutsB n lo
theorem base (n lo : Nat) : CxBase Try.prog (cxN n lo) := ⟨tyOk, eqOk, by kernel_rfl⟩
end Tst
end

section
open Go Go.Lf Go.Proofs
namespace Tst
structure Ps where
  y : Int
  n : Int
  f : Bool
  d : Int
  deriving Inhabited, DecidableEq
def Ps.enc (p : Ps) : AV := .agg [.atom (.int .u8 p.y), .atom (.int .i64 p.n), .atom (.bool p.f), .atom (.int .u8 p.d)]
abbrev sl (cap : Option Nat) (l : List Ps) : AV := .sl .any 33 cap (l.map Ps.enc)
abbrev it (i : Int) : AV := .atom (.int .i64 i)
end Tst
namespace Tst
def u8 (x : Int) : AV := .atom (.int .u8 x)
theorem view_ps (m : Lf.Mode) (c : Option Nat) (l : List Ps) : view (.sl m 33 c (l.map Ps.enc)) = .sl .any 33 c (l.map Ps.enc) := by
  show AV.sl .any 33 c ((l.map Ps.enc).map _) = _
  rw [List.map_map]; rfl
theorem view_u8 (m : Lf.Mode) (c : Option Nat) (l : List Int) : view (.sl m 89 c (l.map u8)) = .sl .any 89 c (l.map u8) := by
  show AV.sl .any 89 c ((l.map u8).map _) = _
  rw [List.map_map]; rfl
end Tst
end

section
open Go Go.Lf Go.Proofs
namespace Tst
theorem named_0 (y n : Int) (g0 : decide ((1 : Int) ≤ y) = true) (g1 : decide (y ≤ (6 : Int)) = true) (g2 : decide ((0 : Int) ≤ n) = true) : PureC Try.prog 28 [.agg [.atom (.int .u8 y), .atom (.int .i64 n)]]  (AV.atom (Value.bool (decide (n < (2048 : Int))))) :=
  funA_ok (H := h28) (n := 21) (ans := [Ans.c, Ans.c, Ans.c, Ans.c, Ans.c, Ans.c, Ans.c, Ans.c, Ans.b true, Ans.c, Ans.b true, Ans.c, Ans.c, Ans.c, Ans.b true, Ans.c, Ans.b true, Ans.c, Ans.c, Ans.b true, Ans.c, Ans.b true, Ans.c, Ans.c, Ans.c, Ans.b true, Ans.c, Ans.b true, Ans.c, Ans.c, Ans.b true, Ans.c, Ans.b true, Ans.c, Ans.c, Ans.c, Ans.b true, Ans.c, Ans.b true, Ans.c, Ans.c]) (ps := [decide ((1 : Int) ≤ y) = true, decide ((1 : Int) ≤ y) = true, decide ((1 : Int) ≤ y) = true, decide ((1 : Int) ≤ y) = true, decide (y ≤ (6 : Int)) = true, decide (y ≤ (6 : Int)) = true, decide (y ≤ (6 : Int)) = true, decide (y ≤ (6 : Int)) = true, decide ((0 : Int) ≤ n) = true, decide ((0 : Int) ≤ n) = true, decide ((0 : Int) ≤ n) = true, decide ((0 : Int) ≤ n) = true]) (base 21 0) Try.func28 rfl (by simp) rfl (by kernel_rfl)  (allp g0 (allp g0 (allp g0 (allp g0 (allp g1 (allp g1 (allp g1 (allp g1 (allp g2 (allp g2 (allp g2 (allp g2 allp_nil))))))))))))
theorem named_1 (y n : Int) (g0 : decide ((1 : Int) ≤ y) = true) (g1 : decide (y ≤ (6 : Int)) = true) (g2 : decide ((0 : Int) ≤ n) = false) : PureC Try.prog 28 [.agg [.atom (.int .u8 y), .atom (.int .i64 n)]]  (AV.atom (Value.bool false)) :=
  funA_ok (H := h28) (n := 21) (ans := [Ans.c, Ans.c, Ans.c, Ans.c, Ans.c, Ans.c, Ans.c, Ans.c, Ans.b true, Ans.c, Ans.b true, Ans.c, Ans.c, Ans.c, Ans.b true, Ans.c, Ans.b true, Ans.c, Ans.c, Ans.b true, Ans.c, Ans.b true, Ans.c, Ans.c, Ans.c, Ans.b true, Ans.c, Ans.b true, Ans.c, Ans.c, Ans.b false, Ans.c, Ans.b false, Ans.c, Ans.b false, Ans.c, Ans.b false, Ans.c, Ans.c]) (ps := [decide ((1 : Int) ≤ y) = true, decide ((1 : Int) ≤ y) = true, decide ((1 : Int) ≤ y) = true, decide ((1 : Int) ≤ y) = true, decide (y ≤ (6 : Int)) = true, decide (y ≤ (6 : Int)) = true, decide (y ≤ (6 : Int)) = true, decide (y ≤ (6 : Int)) = true, decide ((0 : Int) ≤ n) = false, decide ((0 : Int) ≤ n) = false, decide ((0 : Int) ≤ n) = false, decide ((0 : Int) ≤ n) = false]) (base 21 0) Try.func28 rfl (by simp) rfl (by kernel_rfl)  (allp g0 (allp g0 (allp g0 (allp g0 (allp g1 (allp g1 (allp g1 (allp g1 (allp g2 (allp g2 (allp g2 (allp g2 allp_nil))))))))))))
theorem named_2 (y n : Int) (g0 : decide ((1 : Int) ≤ y) = true) (g1 : decide (y ≤ (6 : Int)) = false) : PureC Try.prog 28 [.agg [.atom (.int .u8 y), .atom (.int .i64 n)]]  (AV.atom (Value.bool false)) :=
  funA_ok (H := h28) (n := 21) (ans := [Ans.c, Ans.c, Ans.c, Ans.c, Ans.c, Ans.c, Ans.c, Ans.c, Ans.b true, Ans.c, Ans.b true, Ans.c, Ans.c, Ans.c, Ans.b true, Ans.c, Ans.b true, Ans.c, Ans.c, Ans.b false, Ans.c, Ans.b false, Ans.c, Ans.b false, Ans.c, Ans.b false, Ans.c, Ans.c, Ans.c, Ans.c, Ans.c, Ans.c, Ans.c, Ans.c, Ans.c, Ans.c, Ans.c]) (ps := [decide ((1 : Int) ≤ y) = true, decide ((1 : Int) ≤ y) = true, decide ((1 : Int) ≤ y) = true, decide ((1 : Int) ≤ y) = true, decide (y ≤ (6 : Int)) = false, decide (y ≤ (6 : Int)) = false, decide (y ≤ (6 : Int)) = false, decide (y ≤ (6 : Int)) = false]) (base 21 0) Try.func28 rfl (by simp) rfl (by kernel_rfl)  (allp g0 (allp g0 (allp g0 (allp g0 (allp g1 (allp g1 (allp g1 (allp g1 allp_nil))))))))
theorem named_3 (y n : Int) (g0 : decide ((1 : Int) ≤ y) = false) : PureC Try.prog 28 [.agg [.atom (.int .u8 y), .atom (.int .i64 n)]]  (AV.atom (Value.bool false)) :=
  funA_ok (H := h28) (n := 21) (ans := [Ans.c, Ans.c, Ans.c, Ans.c, Ans.c, Ans.c, Ans.c, Ans.c, Ans.b false, Ans.c, Ans.b false, Ans.c, Ans.b false, Ans.c, Ans.b false, Ans.c, Ans.c, Ans.c, Ans.c, Ans.c, Ans.c, Ans.c, Ans.c, Ans.c, Ans.c, Ans.c, Ans.c, Ans.c, Ans.c, Ans.c, Ans.c, Ans.c, Ans.c, Ans.c, Ans.c]) (ps := [decide ((1 : Int) ≤ y) = false, decide ((1 : Int) ≤ y) = false, decide ((1 : Int) ≤ y) = false, decide ((1 : Int) ≤ y) = false]) (base 21 0) Try.func28 rfl (by simp) rfl (by kernel_rfl)  (allp g0 (allp g0 (allp g0 (allp g0 allp_nil))))
end Tst
end

section
open Go Go.Lf Go.Proofs
namespace Tst
def namedB (y n : Int) : Bool := decide (1 ≤ y) && decide (y ≤ 6) && decide (0 ≤ n) && decide (n < 2048)
theorem named_c (y n : Int) : PureC Try.prog 28 [.agg [.atom (.int .u8 y), .atom (.int .i64 n)]] (.atom (.bool (namedB y n))) := by
  unfold namedB
  cases h1 : decide (1 ≤ y)
  · simpa using named_3 y n h1
  · cases h2 : decide (y ≤ 6)
    · simpa using named_2 y n h1 h2
    · cases h3 : decide (0 ≤ n)
      · simpa using named_1 y n h1 h2 h3
      · simpa using named_0 y n h1 h2 h3
end Tst
end

section
namespace Go.Lf
open Go Go.RowKit
section
variable {P : Program}
def Le (P : Program) (x y : AV) : Prop := ∀ (B0 : Nat) (w : World) (S : Nat → Prop) (n : Nat) (v : Value) (O : Own), Rv P B0 w S n v x O → Rv P B0 w S n v y O
theorem Le.refl (x : AV) : Le P x x := fun _ _ _ _ _ _ h => h
theorem Le.nil (e : TypeId) : Le P (.atom (.slice none 0 0)) (.sl .any e (some 0) []) := by
  intro B0 w S n v O h
  obtain ⟨n, rfl⟩ := h.pos
  obtain ⟨rfl, hz⟩ := h
  exact ⟨none, 0, rfl, Nat.le_refl _, Nat.zero_le _, rfl, fun x hx => by simp at hx, hz, fun h => absurd rfl h⟩
theorem Le.nilOwn (e : TypeId) : Le P (.atom (.slice none 0 0)) (.sl .own e (some 0) []) := by
  intro B0 w S n v O h
  obtain ⟨n, rfl⟩ := h.pos
  obtain ⟨rfl, hz⟩ := h
  exact ⟨[], fun _ => 0, World.ownsRow_nil w B0 e _, rfl, fun x hx => by simp at hx, .nil fun _ => rfl, fun b => by simp [Value.ownBlock, ind, hz b]⟩
theorem Le.cap {m : Mode} {e : TypeId} {c : Option Nat} {xs : List AV} : Le P (.sl m e c xs) (.sl m e none xs) := by
  intro B0 w S n v O h
  obtain ⟨n, rfl⟩ := h.pos
  cases m with
  | own => obtain ⟨vs, O', ho, _, hu, hr, hO⟩ := h; exact ⟨vs, O', ho, trivial, hu, hr, hO⟩
  | fresh => obtain ⟨A, k, hv, hk, hm, _, r⟩ := h; exact ⟨A, k, hv, hk, hm, trivial, r⟩
  | any => obtain ⟨A, k, hv, hk, hm, _, r⟩ := h; exact ⟨A, k, hv, hk, hm, trivial, r⟩
theorem Rc.le2 {B0 : Nat} {w : World} {S : Nat → Prop} {n : Nat} {vs : List Value} {xs ys : List AV} {O : Own} (h : Rc (Rv P B0 w S n) vs xs O) : ∀ {ys : List AV}, F2 (Le P) xs ys → Rc (Rv P B0 w S n) vs ys O := by
  induction h with
  | nil hz => intro ys h2; cases h2; exact .nil hz
  | cons h1 _ hO ih => intro ys h2; cases h2 with | cons g1 g2 => exact .cons (g1 _ _ _ _ _ _ h1) (ih g2) hO
theorem Le.agg {xs ys : List AV} (h : F2 (Le P) xs ys) : Le P (.agg xs) (.agg ys) := by
  intro B0 w S n v O hr
  obtain ⟨n, rfl⟩ := hr.pos
  obtain ⟨vs, hv, hrc⟩ := hr
  exact ⟨vs, hv, Rc.le2 (ys := ys) hrc h⟩
theorem Le.tup {xs ys : List AV} (h : F2 (Le P) xs ys) : Le P (.tup xs) (.tup ys) := by
  intro B0 w S n v O hr
  obtain ⟨n, rfl⟩ := hr.pos
  obtain ⟨vs, hv, hrc⟩ := hr
  exact ⟨vs, hv, Rc.le2 (ys := ys) hrc h⟩
theorem PureC.args {f : FuncId} {xs ys : List AV} {r : AV} (h : PureC P f ys r) (hl : F2 (Le P) xs ys) : PureC P f xs r :=
  ⟨h.1, fun w S args n hS ha => h.2 w S args n hS (Rc.le2 (ys := ys) ha hl)⟩
theorem PureC.res {f : FuncId} {xs : List AV} {r r' : AV} (h : PureC P f xs r) (hl : Le P r r') : PureC P f xs r' :=
  ⟨h.1, fun w S args n hS ha => (h.2 w S args n hS ha).mono fun e w' ⟨v, n', S', O, he, hB, hrv, rest⟩ => ⟨v, n', S', O, he, hB, hl _ _ _ _ _ _ hrv, rest⟩⟩
end
end Go.Lf
end

section
namespace Go.Lf
open Go Go.RowKit
section
variable {P : Program} {F : Frm} {B0 : Nat} {w0 w : World} {S S0 : Nat → Prop} {n : Nat} {env env2 : Env} {a : Act} {tmps : Array Value} {Os : Nat → Own} {cx : Cx}
def EnvLe (P : Program) (env env2 : Env) : Prop := F2 (fun p q => p.1 = q.1 ∧ leafRoot p.2 = none ∧ Le P p.2 q.2) env env2
theorem EnvLe.lk (h : EnvLe P env env2) (t : Nat) : (lk env t = none ∧ lk env2 t = none) ∨ ∃ x y, lk env t = some x ∧ lk env2 t = some y ∧ leafRoot x = none ∧ Le P x y := by
  induction h with
  | nil => exact .inl ⟨rfl, rfl⟩
  | @cons p q l m h _ ih =>
    obtain ⟨k, x⟩ := p
    obtain ⟨k', y⟩ := q
    obtain ⟨h1, h2, h3⟩ := h
    simp only at h1; subst h1
    by_cases hk : k = t
    · exact .inr ⟨x, y, by simp [Lf.lk, hk], by simp [Lf.lk, hk], h2, h3⟩
    · simp only [Lf.lk, if_neg hk]; exact ih
theorem St.less (hst : St P F B0 w0 n env tmps w S Os) (h : EnvLe P env env2) : St P F B0 w0 n env2 tmps w S Os := by
  have key : ∀ t y, Lf.lk env2 t = some y → ∃ v, tmps[t]? = some v ∧ Rv P B0 w S n v y (Os t) := by
    intro t y hy
    rcases h.lk t with ⟨_, h2⟩ | ⟨x, y', h1, h2, h3, h4⟩
    · rw [hy] at h2; cases h2
    · rw [hy] at h2; injection h2 with h2; subst h2
      obtain ⟨v, hv, hs⟩ := hst.rel t x h1
      rcases hs with ⟨hl, _, _⟩ | hs
      · exact absurd h3 hl
      · exact ⟨v, hv, h4 _ _ _ _ _ _ hs⟩
  refine ⟨hst.below, hst.b0, hst.sLt, hst.excl, hst.one, hst.dis, ?_, ?_, ?_, hst.keep, hst.pin⟩
  · intro t y hy
    obtain ⟨v, hv, hr⟩ := key t y hy
    exact ⟨v, hv, .inr hr⟩
  · intro t ht
    rcases h.lk t with ⟨h1, _⟩ | ⟨x, y', h1, h2, _⟩
    · exact hst.abs t h1
    · rw [ht] at h2; cases h2
  · intro t y r hy hr
    obtain ⟨v, hv, hrv⟩ := key t y hy
    rw [hrv.noLeaf] at hr; cases hr
theorem Tri.less {c : Code} {env env' env2 : Env} {ex : Ex} (h : Tri P cx c env ex env') (hl : EnvLe P env' env2) : Tri P cx c env ex env2 :=
  fun ρ hρ F B0 w0 S0 ds a w Q hag hQ => h ρ hρ F B0 w0 S0 ds a w Q hag fun a' w' ⟨Ds, n, S, Os, hnd, hD, h1, h2, hn, hgr, hst⟩ => hQ a' w' ⟨Ds, n, S, Os, hnd, hD, h1, h2, hn, hgr, hst.less hl⟩
theorem Tri.more {c : Code} {env env' env2 : Env} {ex : Ex} (h : Tri P cx c env2 ex env') (hl : EnvLe P env env2) : Tri P cx c env ex env' :=
  fun ρ hρ F B0 w0 S0 ds a w Q hag hQ => h ρ hρ F B0 w0 S0 ds a w Q (match hag with | ⟨h1, h2, n, S, Os, hn, hgr, hst⟩ => ⟨h1, h2, n, S, Os, hn, hgr, hst.less hl⟩) hQ
theorem Le.box {xs ys : List AV} (h : F2 (Le P) xs ys) : Le P (.box xs) (.box ys) := by
  intro B0 w S n v O hr
  obtain ⟨n, rfl⟩ := hr.pos
  obtain ⟨g, C, T, O', hv, hg, hh, hrc, hO⟩ := hr
  exact ⟨g, C, T, O', hv, hg, hh, Rc.le2 (ys := ys) hrc h, hO⟩
theorem Le.ownEls {e : TypeId} {cap : Option Nat} {xs ys : List AV} (hl : xs.length = ys.length) (hu : ∀ sz, Uni sz xs → Uni sz ys) (hf : F2 (Le P) (flat xs) (flat ys)) : Le P (.sl .own e cap xs) (.sl .own e cap ys) := by
  intro B0 w S n v O hr
  obtain ⟨n, rfl⟩ := hr.pos
  obtain ⟨vs, O', ho, hc, hx, hrc, hO⟩ := hr
  exact ⟨vs, O', hl ▸ ho, hc, hu _ hx, Rc.le2 (ys := flat ys) hrc hf, hO⟩
theorem flat_rep {x : AV} (hx : x.ecells = [x]) (k : Nat) : flat (List.replicate k x) = List.replicate k x := by
  induction k with
  | zero => rfl
  | succ k ih => rw [List.replicate_succ, flat, List.flatMap_cons, hx]; show x :: flat (List.replicate k x) = _; rw [ih]
theorem F2.rep {α β : Type} {R : α → β → Prop} {x : α} {y : β} (h : R x y) : ∀ k, F2 R (List.replicate k x) (List.replicate k y)
  | 0 => .nil
  | k + 1 => .cons h (F2.rep h k)
theorem Le.ownRep {e : TypeId} {cap : Option Nat} {x y : AV} (hx : x.ecells = [x]) (hy : y.ecells = [y]) (h : Le P x y) (k : Nat) : Le P (.sl .own e cap (List.replicate k x)) (.sl .own e cap (List.replicate k y)) := by
  refine Le.ownEls (by simp) (fun sz hu z hz => ?_) (by rw [flat_rep hx, flat_rep hy]; exact F2.rep h k)
  obtain ⟨hk, rfl⟩ := List.mem_replicate.1 hz
  rw [hy]
  have := hu x (List.mem_replicate.2 ⟨hk, rfl⟩)
  rw [hx] at this; exact this
theorem EnvLe.refl : ∀ (env : Env), (∀ p ∈ env, leafRoot p.2 = none) → EnvLe P env env
  | [], _ => .nil
  | p :: l, h => .cons ⟨rfl, h p (by simp), Le.refl _⟩ (EnvLe.refl l fun q hq => h q (by simp [hq]))
end
end Go.Lf
end

section
open Go Go.Lf Go.Proofs
namespace Tst
structure Idd where
  y : Int
  n : Int
  deriving Inhabited, DecidableEq
def Idd.enc (p : Idd) : AV := .agg [.atom (.int .u8 p.y), .atom (.int .i64 p.n)]
structure Stk where
  c : Option Nat
  l : List Idd
  deriving Inhabited
def Stk.enc (s : Stk) : AV := .sl .any 30 s.c (s.l.map Idd.enc)
abbrev is' (m : Lf.Mode) (c : Option Nat) (l : List Idd) : AV := .sl m 30 c (l.map Idd.enc)
abbrev isl (c : Option Nat) (l : List Idd) : AV := is' .any c l
abbrev iow (c : Option Nat) (l : List Idd) : AV := is' .own c l
abbrev bsl (c : Option Nat) (l : List Stk) : AV := .sl .any 62 c (l.map Stk.enc)
abbrev beds (f b : AV) : AV := .agg [f, b]
abbrev ub (i : Int) : AV := .atom (.int .u8 i)
abbrev bb (b : Bool) : AV := .atom (.bool b)
abbrev ndl (b i : Int) : AV := .agg [ub b, it i]
abbrev niln : AV := .atom (.slice none 0 0)
theorem map_idd (f : Lf.Mode → Lf.Mode) (k : Nat) (l : List Idd) : List.map (mapE (remode f (k + 1))) (List.map Idd.enc l) = List.map Idd.enc l := by
  rw [List.map_map]; rfl
theorem rem_stk (k : Nat) (s : Stk) : remode (fun _ => .any) (k + 2) s.enc = s.enc := by
  show AV.sl .any 30 s.c ((s.l.map Idd.enc).map _) = _
  rw [map_idd]; rfl
theorem map_stk (k : Nat) (l : List Stk) : List.map (mapE (remode (fun _ => .any) (k + 2))) (List.map Stk.enc l) = List.map Stk.enc l := by
  rw [List.map_map]
  apply List.map_congr_left
  intro s _
  show remode (fun _ => .any) (k + 2) s.enc = s.enc
  exact rem_stk k s
theorem view_id (m : Lf.Mode) (c : Option Nat) (l : List Idd) : view (.sl m 30 c (l.map Idd.enc)) = .sl .any 30 c (l.map Idd.enc) := by
  show AV.sl .any 30 c ((l.map Idd.enc).map _) = _
  rw [List.map_map]; rfl
theorem view_stk (m : Lf.Mode) (c : Option Nat) (l : List Stk) : view (.sl m 62 c (l.map Stk.enc)) = .sl .any 62 c (l.map Stk.enc) := by
  show AV.sl .any 62 c ((l.map Stk.enc).map (mapE (remode (fun _ => .any) 11))) = _
  rw [map_stk]
theorem view_beds (m m' : Lf.Mode) (c c' : Option Nat) (l l' : List Stk) : view (.agg [.sl m 62 c (l.map Stk.enc), .sl m' 62 c' (l'.map Stk.enc)]) = beds (bsl c l) (bsl c' l') := by
  show AV.agg [.sl .any 62 c ((l.map Stk.enc).map (mapE (remode (fun _ => .any) 10))), .sl .any 62 c' ((l'.map Stk.enc).map (mapE (remode (fun _ => .any) 10)))] = _
  rw [map_stk, map_stk]
end Tst
end

section
open Go Go.Lf Go.Proofs
namespace Tst
set_option maxHeartbeats 0
theorem bna_0 (d : Int) (g0 : (d == (0 : Int)) = true) : PureC Try.prog 68 [ub d]  (AV.atom (Value.string { data := #[(102 : UInt8)] })) :=
  funA_ok (H := h68) (n := 8) (ans := [.c, .c, .c, .c, .b true, .c]) (ps := [(d == (0 : Int)) = true]) (base 8 0) Try.func68 rfl (by simp) rfl (by kernel_rfl)  (allp g0 allp_nil)
theorem bna_1 (d : Int) (g0 : (d == (0 : Int)) = false) (g1 : (d == (1 : Int)) = true) : PureC Try.prog 68 [ub d]  (AV.atom (Value.string { data := #[(98 : UInt8)] })) :=
  funA_ok (H := h68) (n := 8) (ans := [.c, .c, .c, .c, .b false, .c, .c, .b true, .c]) (ps := [(d == (0 : Int)) = false, (d == (1 : Int)) = true]) (base 8 0) Try.func68 rfl (by simp) rfl (by kernel_rfl)  (allp g0 (allp g1 allp_nil))
theorem bna_2 (d : Int) (g0 : (d == (0 : Int)) = false) (g1 : (d == (1 : Int)) = false) : PureC Try.prog 68 [ub d]  (AV.atom (Value.string { data := #[] })) :=
  funA_ok (H := h68) (n := 8) (ans := [.c, .c, .c, .c, .b false, .c, .c, .b false, .c]) (ps := [(d == (0 : Int)) = false, (d == (1 : Int)) = false]) (base 8 0) Try.func68 rfl (by simp) rfl (by kernel_rfl)  (allp g0 (allp g1 allp_nil))
theorem bdo_0 (d : Int) (cf cb : Option Nat) (f b : List Stk) (g0 : (d == (0 : Int)) = true) : PureC Try.prog 59 [beds (bsl cf f) (bsl cb b), ub d]  (bsl cf f) :=
  funA_ok (H := h59) (n := 11) (ans := [.c, .c, .c, .c, .b true, .c, .c, .c, .c, .c]) (ps := [(d == (0 : Int)) = true]) (base 11 0) Try.func59 rfl (by simp) rfl (by kernel_rfl)  (allp g0 allp_nil)
theorem bdo_1 (d : Int) (cf cb : Option Nat) (f b : List Stk) (g0 : (d == (0 : Int)) = false) : PureC Try.prog 59 [beds (bsl cf f) (bsl cb b), ub d]  (bsl cb b) :=
  funA_ok (H := h59) (n := 11) (ans := [.c, .c, .c, .c, .b false, .c, .c, .c, .c, .c]) (ps := [(d == (0 : Int)) = false]) (base 11 0) Try.func59 rfl (by simp) rfl (by kernel_rfl)  (allp g0 allp_nil)
theorem stk_0 (i : Int) (c : Option Nat) (l : List Stk) (g0 : decide (i < (↑(List.length (List.map Stk.enc l)) : Int)) = true) (g1 : decide ((0 : Int) ≤ i ∧ i < (↑(List.length (List.map Stk.enc l)) : Int)) = true) (g2 : List.getD (List.map Stk.enc l) (Int.toNat i) AV.bad = Stk.enc (List.getD l (Int.toNat i) default)) : PureC Try.prog 58 [bsl c l, it i]  (AV.sl Mode.any 30 (Stk.c (List.getD l (Int.toNat i) default)) (List.map Idd.enc (Stk.l (List.getD l (Int.toNat i) default)))) :=
  funA_ok (H := h58) (n := 13) (ans := [.c, .c, .c, .c, .c, .b true, .c, .c, .b true, .r (Stk.enc (List.getD l (Int.toNat i) default)), .c, .c, .c]) (ps := [decide (i < (↑(List.length (List.map Stk.enc l)) : Int)) = true, decide ((0 : Int) ≤ i ∧ i < (↑(List.length (List.map Stk.enc l)) : Int)) = true, List.getD (List.map Stk.enc l) (Int.toNat i) AV.bad = Stk.enc (List.getD l (Int.toNat i) default)]) (base 13 0) Try.func58 rfl (by simp) rfl (by kernel_rfl)  (allp g0 (allp g1 (allp g2 allp_nil)))
theorem stk_1 (i : Int) (c : Option Nat) (l : List Stk) (g0 : decide (i < (↑(List.length (List.map Stk.enc l)) : Int)) = false) : PureC Try.prog 58 [bsl c l, it i]  niln :=
  funA_ok (H := h58) (n := 13) (ans := [.c, .c, .c, .c, .c, .b false, .c]) (ps := [decide (i < (↑(List.length (List.map Stk.enc l)) : Int)) = false]) (base 13 0) Try.func58 rfl (by simp) rfl (by kernel_rfl)  (allp g0 allp_nil)
theorem frs_0 (c : Option Nat) (l : List Idd) (g0 : ((↑(List.length (List.map Idd.enc l)) : Int) == (0 : Int)) = true) : PureC Try.prog 57 [isl c l]  niln :=
  funA_ok (H := h57) (n := 14) (ans := [.c, .c, .c, .c, .b true, .c]) (ps := [((↑(List.length (List.map Idd.enc l)) : Int) == (0 : Int)) = true]) (base 14 0) Try.func57 rfl (by simp) rfl (by kernel_rfl)  (allp g0 allp_nil)
theorem frs_1 (c : Option Nat) (l : List Idd) (g0 : ((↑(List.length (List.map Idd.enc l)) : Int) == (0 : Int)) = false) (g1 : decide ((0 : Int) ≤ (↑(List.length (List.map Idd.enc l)) : Int) ∧ (↑(List.length (List.map Idd.enc l)) : Int) ≤ (↑(List.length (List.map Idd.enc l)) : Int) ∧ (↑(List.length (List.map Idd.enc l)) : Int) ≤ (4294967296 : Int) ∧ TInfo.bytes { zero := [Value.int IntKind.u8 (0 : Int), Value.int IntKind.i64 (0 : Int)], bytes := (16 : Nat), agg := true, kind := TK.struct [((0 : Nat), (1 : Nat)), ((1 : Nat), (1 : Nat))] } ≤ (4096 : Nat) ∧ (0 : Nat) < List.length (TInfo.zero { zero := [Value.int IntKind.u8 (0 : Int), Value.int IntKind.i64 (0 : Int)], bytes := (16 : Nat), agg := true, kind := TK.struct [((0 : Nat), (1 : Nat)), ((1 : Nat), (1 : Nat))] })) = true) (g2 : AV.sl Mode.own 30 (some (Int.toNat (↑(List.length (List.map Idd.enc l)) : Int))) (List.replicate (Int.toNat (↑(List.length (List.map Idd.enc l)) : Int)) (zeroEl { zero := [Value.int IntKind.u8 (0 : Int), Value.int IntKind.i64 (0 : Int)], bytes := (16 : Nat), agg := true, kind := TK.struct [((0 : Nat), (1 : Nat)), ((1 : Nat), (1 : Nat))] })) = AV.sl Mode.own 30 (some (Int.toNat (↑(List.length (List.map Idd.enc l)) : Int))) (List.map Idd.enc (List.replicate (Int.toNat (↑(List.length (List.map Idd.enc l)) : Int)) { y := (0 : Int), n := (0 : Int) }))) (g3 : decide ((List.all (List.map Idd.enc l) fun y => List.all (AV.ecells y) plainA) = true ∧ (List.all (List.map Idd.enc l) fun y => decide (List.length (AV.ecells y) = List.length (TInfo.zero { zero := [Value.int IntKind.u8 (0 : Int), Value.int IntKind.i64 (0 : Int)], bytes := (16 : Nat), agg := true, kind := TK.struct [((0 : Nat), (1 : Nat)), ((1 : Nat), (1 : Nat))] }))) = true) = true) (g4 : decide (30 = (30 : TypeId) ∧ (List.all (List.map Idd.enc (List.replicate (Int.toNat (↑(List.length (List.map Idd.enc l)) : Int)) { y := (0 : Int), n := (0 : Int) })) fun x => List.all (AV.ecells x) plainA) = true) = true) (g5 : AV.sl Mode.own 30 (some (Int.toNat (↑(List.length (List.map Idd.enc l)) : Int))) (List.take (List.length (List.map Idd.enc (List.replicate (Int.toNat (↑(List.length (List.map Idd.enc l)) : Int)) { y := (0 : Int), n := (0 : Int) }))) (List.map Idd.enc l) ++ List.drop (List.length (List.map Idd.enc l)) (List.map Idd.enc (List.replicate (Int.toNat (↑(List.length (List.map Idd.enc l)) : Int)) { y := (0 : Int), n := (0 : Int) }))) = AV.sl Mode.own 30 (some (Int.toNat (↑(List.length (List.map Idd.enc l)) : Int))) (List.map Idd.enc (List.take (List.length (List.map Idd.enc (List.replicate (Int.toNat (↑(List.length (List.map Idd.enc l)) : Int)) { y := (0 : Int), n := (0 : Int) }))) l ++ List.drop (List.length (List.map Idd.enc l)) (List.replicate (Int.toNat (↑(List.length (List.map Idd.enc l)) : Int)) { y := (0 : Int), n := (0 : Int) })))) : PureC Try.prog 57 [isl c l]  (AV.sl Mode.own 30 (some (Int.toNat (↑(List.length (List.map Idd.enc l)) : Int))) (List.map Idd.enc (List.take (List.length (List.map Idd.enc (List.replicate (Int.toNat (↑(List.length (List.map Idd.enc l)) : Int)) { y := (0 : Int), n := (0 : Int) }))) l ++ List.drop (List.length (List.map Idd.enc l)) (List.replicate (Int.toNat (↑(List.length (List.map Idd.enc l)) : Int)) { y := (0 : Int), n := (0 : Int) })))) :=
  funA_ok (H := h57) (n := 14) (ans := [.c, .c, .c, .c, .b false, .c, .c, .b true, .r (AV.sl Mode.own 30 (some (Int.toNat (↑(List.length (List.map Idd.enc l)) : Int))) (List.map Idd.enc (List.replicate (Int.toNat (↑(List.length (List.map Idd.enc l)) : Int)) { y := (0 : Int), n := (0 : Int) }))), .c, .c, .c, .b true, .b true, .r (AV.sl Mode.own 30 (some (Int.toNat (↑(List.length (List.map Idd.enc l)) : Int))) (List.map Idd.enc (List.take (List.length (List.map Idd.enc (List.replicate (Int.toNat (↑(List.length (List.map Idd.enc l)) : Int)) { y := (0 : Int), n := (0 : Int) }))) l ++ List.drop (List.length (List.map Idd.enc l)) (List.replicate (Int.toNat (↑(List.length (List.map Idd.enc l)) : Int)) { y := (0 : Int), n := (0 : Int) })))), .c, .c, .c]) (ps := [((↑(List.length (List.map Idd.enc l)) : Int) == (0 : Int)) = false, decide ((0 : Int) ≤ (↑(List.length (List.map Idd.enc l)) : Int) ∧ (↑(List.length (List.map Idd.enc l)) : Int) ≤ (↑(List.length (List.map Idd.enc l)) : Int) ∧ (↑(List.length (List.map Idd.enc l)) : Int) ≤ (4294967296 : Int) ∧ TInfo.bytes { zero := [Value.int IntKind.u8 (0 : Int), Value.int IntKind.i64 (0 : Int)], bytes := (16 : Nat), agg := true, kind := TK.struct [((0 : Nat), (1 : Nat)), ((1 : Nat), (1 : Nat))] } ≤ (4096 : Nat) ∧ (0 : Nat) < List.length (TInfo.zero { zero := [Value.int IntKind.u8 (0 : Int), Value.int IntKind.i64 (0 : Int)], bytes := (16 : Nat), agg := true, kind := TK.struct [((0 : Nat), (1 : Nat)), ((1 : Nat), (1 : Nat))] })) = true, AV.sl Mode.own 30 (some (Int.toNat (↑(List.length (List.map Idd.enc l)) : Int))) (List.replicate (Int.toNat (↑(List.length (List.map Idd.enc l)) : Int)) (zeroEl { zero := [Value.int IntKind.u8 (0 : Int), Value.int IntKind.i64 (0 : Int)], bytes := (16 : Nat), agg := true, kind := TK.struct [((0 : Nat), (1 : Nat)), ((1 : Nat), (1 : Nat))] })) = AV.sl Mode.own 30 (some (Int.toNat (↑(List.length (List.map Idd.enc l)) : Int))) (List.map Idd.enc (List.replicate (Int.toNat (↑(List.length (List.map Idd.enc l)) : Int)) { y := (0 : Int), n := (0 : Int) })), decide ((List.all (List.map Idd.enc l) fun y => List.all (AV.ecells y) plainA) = true ∧ (List.all (List.map Idd.enc l) fun y => decide (List.length (AV.ecells y) = List.length (TInfo.zero { zero := [Value.int IntKind.u8 (0 : Int), Value.int IntKind.i64 (0 : Int)], bytes := (16 : Nat), agg := true, kind := TK.struct [((0 : Nat), (1 : Nat)), ((1 : Nat), (1 : Nat))] }))) = true) = true, decide (30 = (30 : TypeId) ∧ (List.all (List.map Idd.enc (List.replicate (Int.toNat (↑(List.length (List.map Idd.enc l)) : Int)) { y := (0 : Int), n := (0 : Int) })) fun x => List.all (AV.ecells x) plainA) = true) = true, AV.sl Mode.own 30 (some (Int.toNat (↑(List.length (List.map Idd.enc l)) : Int))) (List.take (List.length (List.map Idd.enc (List.replicate (Int.toNat (↑(List.length (List.map Idd.enc l)) : Int)) { y := (0 : Int), n := (0 : Int) }))) (List.map Idd.enc l) ++ List.drop (List.length (List.map Idd.enc l)) (List.map Idd.enc (List.replicate (Int.toNat (↑(List.length (List.map Idd.enc l)) : Int)) { y := (0 : Int), n := (0 : Int) }))) = AV.sl Mode.own 30 (some (Int.toNat (↑(List.length (List.map Idd.enc l)) : Int))) (List.map Idd.enc (List.take (List.length (List.map Idd.enc (List.replicate (Int.toNat (↑(List.length (List.map Idd.enc l)) : Int)) { y := (0 : Int), n := (0 : Int) }))) l ++ List.drop (List.length (List.map Idd.enc l)) (List.replicate (Int.toNat (↑(List.length (List.map Idd.enc l)) : Int)) { y := (0 : Int), n := (0 : Int) })))]) (base 14 0) Try.func57 rfl (by simp) rfl (by kernel_rfl)  (allp g0 (allp g1 (allp g2 (allp g3 (allp g4 (allp g5 allp_nil))))))
end Tst
end

section
open Go Go.Lf Go.Proofs
namespace Tst
set_option maxHeartbeats 0
theorem wrap_id' {n : Int} (h1 : -9223372036854775808 ≤ n) (h2 : n ≤ 9223372036854775807) : IntKind.i64.wrap n = n := by rw [IntKind.wrap_i64]; omega
def bnm (d : Int) : ByteArray := if (d == 0) = true then { data := #[(102 : UInt8)] } else if (d == 1) = true then { data := #[(98 : UInt8)] } else { data := #[] }
theorem bna_c (d : Int) : PureC Try.prog 68 [ub d] (.atom (.string (bnm d))) := by
  unfold bnm
  cases h0 : (d == 0) with
  | true => exact bna_0 d h0
  | false =>
    cases h1 : (d == 1) with
    | true => exact bna_1 d h0 h1
    | false => exact bna_2 d h0 h1
theorem nck_0 (d i : Int) (g0 : (ByteArray.toList (bnm d) == ByteArray.toList { data := #[] }) = true) : PureC Try.prog 56 [ndl d i]  (it (1 : Int)) :=
  funA_ok (H := h56) (n := 17) (ans := [Ans.c, Ans.c, Ans.c, Ans.c, Ans.c, Ans.c, Ans.r (AV.atom (Value.string (bnm d))), Ans.c, Ans.c, Ans.c, Ans.c, Ans.b true, Ans.c, Ans.b true, Ans.c, Ans.b true, Ans.c, Ans.b true, Ans.c, Ans.c, Ans.c, Ans.c, Ans.c, Ans.c, Ans.c, Ans.c, Ans.c, Ans.c, Ans.c, Ans.c]) (ps := [PureC Try.prog 68 [ub d] (AV.atom (Value.string (bnm d))), (ByteArray.toList (bnm d) == ByteArray.toList { data := #[] }) = true, (ByteArray.toList (bnm d) == ByteArray.toList { data := #[] }) = true, (ByteArray.toList (bnm d) == ByteArray.toList { data := #[] }) = true, (ByteArray.toList (bnm d) == ByteArray.toList { data := #[] }) = true]) (base 17 0) Try.func56 rfl (by simp) rfl (by kernel_rfl)  (allp (by first | (apply bna_c <;> (first | assumption | rfl | (simp at * <;> omega)))) (allp g0 (allp g0 (allp g0 (allp g0 allp_nil)))))
theorem nck_1 (d i : Int) (g0 : (ByteArray.toList (bnm d) == ByteArray.toList { data := #[] }) = false) (g1 : decide (i < (1 : Int)) = true) : PureC Try.prog 56 [ndl d i]  (it (1 : Int)) :=
  funA_ok (H := h56) (n := 17) (ans := [Ans.c, Ans.c, Ans.c, Ans.c, Ans.c, Ans.c, Ans.r (AV.atom (Value.string (bnm d))), Ans.c, Ans.c, Ans.c, Ans.c, Ans.b false, Ans.c, Ans.b false, Ans.c, Ans.c, Ans.c, Ans.b false, Ans.c, Ans.b false, Ans.c, Ans.c, Ans.b true, Ans.c, Ans.b true, Ans.c, Ans.b true, Ans.c, Ans.b true, Ans.c, Ans.c, Ans.c]) (ps := [PureC Try.prog 68 [ub d] (AV.atom (Value.string (bnm d))), (ByteArray.toList (bnm d) == ByteArray.toList { data := #[] }) = false, (ByteArray.toList (bnm d) == ByteArray.toList { data := #[] }) = false, (ByteArray.toList (bnm d) == ByteArray.toList { data := #[] }) = false, (ByteArray.toList (bnm d) == ByteArray.toList { data := #[] }) = false, decide (i < (1 : Int)) = true, decide (i < (1 : Int)) = true, decide (i < (1 : Int)) = true, decide (i < (1 : Int)) = true]) (base 17 0) Try.func56 rfl (by simp) rfl (by kernel_rfl)  (allp (by first | (apply bna_c <;> (first | assumption | rfl | (simp at * <;> omega)))) (allp g0 (allp g0 (allp g0 (allp g0 (allp g1 (allp g1 (allp g1 (allp g1 allp_nil)))))))))
theorem nck_2 (d i : Int) (g0 : (ByteArray.toList (bnm d) == ByteArray.toList { data := #[] }) = false) (g1 : decide (i < (1 : Int)) = false) (g2 : decide ((40 : Int) < i) = true) : PureC Try.prog 56 [ndl d i]  (it (1 : Int)) :=
  funA_ok (H := h56) (n := 17) (ans := [Ans.c, Ans.c, Ans.c, Ans.c, Ans.c, Ans.c, Ans.r (AV.atom (Value.string (bnm d))), Ans.c, Ans.c, Ans.c, Ans.c, Ans.b false, Ans.c, Ans.b false, Ans.c, Ans.c, Ans.c, Ans.b false, Ans.c, Ans.b false, Ans.c, Ans.c, Ans.b false, Ans.c, Ans.b false, Ans.c, Ans.c, Ans.c, Ans.b false, Ans.c, Ans.b false, Ans.c, Ans.b true, Ans.c]) (ps := [PureC Try.prog 68 [ub d] (AV.atom (Value.string (bnm d))), (ByteArray.toList (bnm d) == ByteArray.toList { data := #[] }) = false, (ByteArray.toList (bnm d) == ByteArray.toList { data := #[] }) = false, (ByteArray.toList (bnm d) == ByteArray.toList { data := #[] }) = false, (ByteArray.toList (bnm d) == ByteArray.toList { data := #[] }) = false, decide (i < (1 : Int)) = false, decide (i < (1 : Int)) = false, decide (i < (1 : Int)) = false, decide (i < (1 : Int)) = false, decide ((40 : Int) < i) = true]) (base 17 0) Try.func56 rfl (by simp) rfl (by kernel_rfl)  (allp (by first | (apply bna_c <;> (first | assumption | rfl | (simp at * <;> omega)))) (allp g0 (allp g0 (allp g0 (allp g0 (allp g1 (allp g1 (allp g1 (allp g1 (allp g2 allp_nil))))))))))
theorem nck_3 (d i : Int) (g0 : (ByteArray.toList (bnm d) == ByteArray.toList { data := #[] }) = false) (g1 : decide (i < (1 : Int)) = false) (g2 : decide ((40 : Int) < i) = false) : PureC Try.prog 56 [ndl d i]  (it (0 : Int)) :=
  funA_ok (H := h56) (n := 17) (ans := [Ans.c, Ans.c, Ans.c, Ans.c, Ans.c, Ans.c, Ans.r (AV.atom (Value.string (bnm d))), Ans.c, Ans.c, Ans.c, Ans.c, Ans.b false, Ans.c, Ans.b false, Ans.c, Ans.c, Ans.c, Ans.b false, Ans.c, Ans.b false, Ans.c, Ans.c, Ans.b false, Ans.c, Ans.b false, Ans.c, Ans.c, Ans.c, Ans.b false, Ans.c, Ans.b false, Ans.c, Ans.b false, Ans.c]) (ps := [PureC Try.prog 68 [ub d] (AV.atom (Value.string (bnm d))), (ByteArray.toList (bnm d) == ByteArray.toList { data := #[] }) = false, (ByteArray.toList (bnm d) == ByteArray.toList { data := #[] }) = false, (ByteArray.toList (bnm d) == ByteArray.toList { data := #[] }) = false, (ByteArray.toList (bnm d) == ByteArray.toList { data := #[] }) = false, decide (i < (1 : Int)) = false, decide (i < (1 : Int)) = false, decide (i < (1 : Int)) = false, decide (i < (1 : Int)) = false, decide ((40 : Int) < i) = false]) (base 17 0) Try.func56 rfl (by simp) rfl (by kernel_rfl)  (allp (by first | (apply bna_c <;> (first | assumption | rfl | (simp at * <;> omega)))) (allp g0 (allp g0 (allp g0 (allp g0 (allp g1 (allp g1 (allp g1 (allp g1 (allp g2 allp_nil))))))))))
theorem getD_id {l : List Idd} {i : Nat} (h : i < l.length) : (l.map Idd.enc).getD i .bad = Idd.enc (l.getD i default) := by
  simp [List.getD_eq_getElem?_getD, h]
theorem getD_stk {l : List Stk} {i : Nat} (h : i < l.length) : (l.map Stk.enc).getD i .bad = Stk.enc (l.getD i default) := by
  simp [List.getD_eq_getElem?_getD, h]
theorem bdo_c (d : Int) (cf cb : Option Nat) (f b : List Stk) : PureC Try.prog 59 [beds (bsl cf f) (bsl cb b), ub d] (bsl (if d == 0 then cf else cb) (if d == 0 then f else b)) := by
  cases h : (d == 0) with
  | true => exact bdo_0 d cf cb f b h
  | false => exact bdo_1 d cf cb f b h
theorem Le_niln (e : TypeId) (m : Lf.Mode) (hm : m ≠ .own) : Le Try.prog niln (.sl m e (some 0) []) := by
  intro B0 w S n v O h
  obtain ⟨n, rfl⟩ := h.pos
  obtain ⟨rfl, hz⟩ := h
  cases m with
  | own => exact absurd rfl hm
  | fresh => exact ⟨none, 0, rfl, Nat.le_refl _, Nat.zero_le _, rfl, fun x hx => by simp at hx, hz, fun h => absurd rfl h⟩
  | any => exact ⟨none, 0, rfl, Nat.le_refl _, Nat.zero_le _, rfl, fun x hx => by simp at hx, hz, fun h => absurd rfl h⟩
def stackOf (l : List Stk) (i : Int) : List Idd := if i < l.length then (l.getD i.toNat default).l else []
theorem stk_c (i : Int) (c : Option Nat) (l : List Stk) (h0 : 0 ≤ i) : PureC Try.prog 58 [bsl c l, it i] (isl none (stackOf l i)) := by
  unfold stackOf
  by_cases h : i < l.length
  · rw [if_pos h]
    exact (stk_0 i c l (by simpa using h) (by simp; exact ⟨h0, h⟩) (getD_stk (by omega))).res Le.cap
  · rw [if_neg h]
    exact (stk_1 i c l (by simpa using h)).res fun B0 w S n v O hr => Le.cap _ _ _ _ _ _ (Le_niln 30 .any (by decide) _ _ _ _ _ _ hr)
theorem all_idd (l : List Idd) : ((l.map Idd.enc).all fun y => y.ecells.all plainA) = true := by
  simp [List.all_eq_true, Idd.enc, AV.ecells, plainA, Value.oneCell']
theorem all_two (l : List Idd) : ((l.map Idd.enc).all fun y => decide (y.ecells.length = 2)) = true := by
  simp [List.all_eq_true, Idd.enc, AV.ecells]
theorem frs_c (c : Option Nat) (l : List Idd) (hl : l.length ≤ 4294967296) : PureC Try.prog 57 [isl c l] (iow (some l.length) l) := by
  by_cases h : l.length = 0
  · have hl0 : l = [] := List.eq_nil_of_length_eq_zero h
    subst hl0
    exact (frs_0 c [] rfl).res (Le.nilOwn 30)
  · have := frs_1 c l (by rw [List.length_map]; simp; intro e; subst e; exact h rfl) (by simp only [decide_eq_true_eq]; exact ⟨by omega, by omega, by simp; omega, by decide, by decide⟩) (by rw [List.map_replicate]; rfl) (by simp only [decide_eq_true_eq]; exact ⟨all_idd _, all_two _⟩) (by simp only [decide_eq_true_eq]; exact ⟨trivial, all_idd _⟩) (by rw [List.map_append, List.map_take, List.map_drop])
    have e : List.take (List.length (List.map Idd.enc (List.replicate (Int.toNat ((((l.map Idd.enc).length : Nat) : Int))) ({ y := (0 : Int), n := (0 : Int) } : Idd)))) l ++ List.drop (List.length (List.map Idd.enc l)) (List.replicate (Int.toNat ((((l.map Idd.enc).length : Nat) : Int))) ({ y := (0 : Int), n := (0 : Int) } : Idd)) = l := by
      simp
    rw [e] at this
    simpa using this
def ndV (d i : Int) : Bool := (d == 0 || d == 1) && !decide (i < 1) && !decide (40 < i)
theorem bnm_e (d : Int) : (ByteArray.toList (bnm d) == ByteArray.toList { data := #[] }) = !(d == 0 || d == 1) := by
  unfold bnm
  cases h0 : (d == 0) with
  | true => simp [h0]
  | false =>
    cases h1 : (d == 1) with
    | true => simp [h0, h1]
    | false => simp [h0, h1]
theorem nck_c (d i : Int) : PureC Try.prog 56 [ndl d i] (it (if ndV d i then 0 else 1)) := by
  have e := bnm_e d
  unfold ndV
  cases h0 : (d == 0 || d == 1) with
  | false => rw [h0] at e; exact nck_0 d i e
  | true =>
    rw [h0] at e
    cases h1 : decide (i < 1) with
    | true => exact nck_1 d i e h1
    | false =>
      cases h2 : decide (40 < i) with
      | true => exact nck_2 d i e h1 h2
      | false => exact nck_3 d i e h1 h2
end Tst
end

section
open Go Go.Lf Go.Proofs
namespace Tst
set_option maxHeartbeats 0
theorem at'_1 (d i : Int) (cf cb : Option Nat) (f b : List Stk) (hi : ndV d i = true → 0 ≤ IntKind.wrap IntKind.i64 (i - (1 : Int))) (hl : (stackOf (if d == 0 then f else b) (IntKind.wrap IntKind.i64 (i - (1 : Int)))).length ≤ 4294967296) (h0 : 0 ≤ IntKind.wrap IntKind.i64 (i - (1 : Int))) (g0 : ((if ndV d i = true then (0 : Int) else (1 : Int)) != (0 : Int)) = false) : PureC Try.prog 33 [beds (bsl cf f) (bsl cb b), ndl d i]  (AV.sl Mode.own 30 (some (List.length (stackOf (if (d == (0 : Int)) = true then f else b) (IntKind.wrap IntKind.i64 (i - (1 : Int)))))) (List.map Idd.enc (stackOf (if (d == (0 : Int)) = true then f else b) (IntKind.wrap IntKind.i64 (i - (1 : Int)))))) :=
  funA_ok (H := h33) (n := 17) (ans := [.c, .c, .c, .c, .r (it (if ndV d i = true then (0 : Int) else (1 : Int))), .c, .c, .c, .b false, .c, .c, .c, .c, .c, .r (AV.sl Mode.any 62 (if (d == (0 : Int)) = true then cf else cb) (List.map Stk.enc (if (d == (0 : Int)) = true then f else b))), .c, .c, .c, .c, .c, .c, .c, .r (AV.sl Mode.any 62 (if (d == (0 : Int)) = true then cf else cb) (List.map Stk.enc (if (d == (0 : Int)) = true then f else b))), .r (AV.sl Mode.any 30 none (List.map Idd.enc (stackOf (if (d == (0 : Int)) = true then f else b) (IntKind.wrap IntKind.i64 (i - (1 : Int)))))), .c, .c, .r (AV.sl Mode.any 30 none (List.map Idd.enc (stackOf (if (d == (0 : Int)) = true then f else b) (IntKind.wrap IntKind.i64 (i - (1 : Int)))))), .r (AV.sl Mode.own 30 (some (List.length (stackOf (if (d == (0 : Int)) = true then f else b) (IntKind.wrap IntKind.i64 (i - (1 : Int)))))) (List.map Idd.enc (stackOf (if (d == (0 : Int)) = true then f else b) (IntKind.wrap IntKind.i64 (i - (1 : Int)))))), .c, .c, .c]) (ps := [PureC Try.prog 56 [AV.agg [ub d, it i]] (it (if ndV d i = true then (0 : Int) else (1 : Int))), ((if ndV d i = true then (0 : Int) else (1 : Int)) != (0 : Int)) = false, PureC Try.prog 59 [view (AV.agg [bsl cf f, bsl cb b]), ub d] (AV.sl Mode.any 62 (if (d == (0 : Int)) = true then cf else cb) (List.map Stk.enc (if (d == (0 : Int)) = true then f else b))), view (AV.sl Mode.any 62 (if (d == (0 : Int)) = true then cf else cb) (List.map Stk.enc (if (d == (0 : Int)) = true then f else b))) = AV.sl Mode.any 62 (if (d == (0 : Int)) = true then cf else cb) (List.map Stk.enc (if (d == (0 : Int)) = true then f else b)), PureC Try.prog 58 [AV.sl Mode.any 62 (if (d == (0 : Int)) = true then cf else cb) (List.map Stk.enc (if (d == (0 : Int)) = true then f else b)), it (IntKind.wrap IntKind.i64 (i - (1 : Int)))] (AV.sl Mode.any 30 none (List.map Idd.enc (stackOf (if (d == (0 : Int)) = true then f else b) (IntKind.wrap IntKind.i64 (i - (1 : Int)))))), view (AV.sl Mode.any 30 none (List.map Idd.enc (stackOf (if (d == (0 : Int)) = true then f else b) (IntKind.wrap IntKind.i64 (i - (1 : Int)))))) = AV.sl Mode.any 30 none (List.map Idd.enc (stackOf (if (d == (0 : Int)) = true then f else b) (IntKind.wrap IntKind.i64 (i - (1 : Int))))), PureC Try.prog 57 [AV.sl Mode.any 30 none (List.map Idd.enc (stackOf (if (d == (0 : Int)) = true then f else b) (IntKind.wrap IntKind.i64 (i - (1 : Int)))))] (AV.sl Mode.own 30 (some (List.length (stackOf (if (d == (0 : Int)) = true then f else b) (IntKind.wrap IntKind.i64 (i - (1 : Int)))))) (List.map Idd.enc (stackOf (if (d == (0 : Int)) = true then f else b) (IntKind.wrap IntKind.i64 (i - (1 : Int))))))]) (base 17 0) Try.func33 rfl (by simp) rfl (by kernel_rfl)  (allp (by apply nck_c <;> (first | assumption | rfl | (simp at * <;> omega))) (allp g0 (allp (by (first | rw [view_yn] | rw [view_two] | rw [view_twoI] | rw [view_beds] | skip); apply bdo_c <;> (first | assumption | rfl | (simp at * <;> omega))) (allp (by first | exact view_ps _ _ _ | exact view_u8 _ _ _ | rfl | exact view_yn _ _ _ _ _ _ _ | exact view_id _ _ _ | exact view_stk _ _ _ | exact view_beds _ _ _ _ _ _ | exact view_pt _ _ _) (allp (by apply stk_c <;> (first | assumption | rfl | (simp at * <;> omega))) (allp (by first | exact view_ps _ _ _ | exact view_u8 _ _ _ | rfl | exact view_yn _ _ _ _ _ _ _ | exact view_id _ _ _ | exact view_stk _ _ _ | exact view_beds _ _ _ _ _ _ | exact view_pt _ _ _) (allp (by apply frs_c <;> (first | assumption | rfl | (simp at * <;> omega))) allp_nil)))))))
theorem sml_0 (ca cb : Option Nat) (a b : List Idd) (i : Int) (g0 : decide (i < (↑(List.length (List.map Idd.enc a)) : Int)) = true) (g1 : decide ((0 : Int) ≤ i ∧ i < (↑(List.length (List.map Idd.enc a)) : Int)) = true) (g2 : List.getD (List.map Idd.enc a) (Int.toNat i) AV.bad = Idd.enc (List.getD a (Int.toNat i) default)) (g3 : decide ((0 : Int) ≤ i ∧ i < (↑(List.length (List.map Idd.enc b)) : Int)) = true) (g4 : List.getD (List.map Idd.enc b) (Int.toNat i) AV.bad = Idd.enc (List.getD b (Int.toNat i) default)) (g5 : (!(Idd.y (List.getD a (Int.toNat i) default) == Idd.y (List.getD b (Int.toNat i) default) && Idd.n (List.getD a (Int.toNat i) default) == Idd.n (List.getD b (Int.toNat i) default))) = true) : Tri Try.prog (cxN 33 0) (loopBody Try.f41 0) ([(0, isl ca a), (1, isl cb b), (5, it i)] ) (Ex.ret) ([(4, it 0)]) :=
  evA_ok (H := h41) (ans := [.c, .c, .c, .c, .b true, .c, .c, .b true, .r (Idd.enc (List.getD a (Int.toNat i) default)), .c, .c, .c, .c, .b true, .r (Idd.enc (List.getD b (Int.toNat i) default)), .c, .c, .c, .b true, .c]) (ps := [decide (i < (↑(List.length (List.map Idd.enc a)) : Int)) = true, decide ((0 : Int) ≤ i ∧ i < (↑(List.length (List.map Idd.enc a)) : Int)) = true, List.getD (List.map Idd.enc a) (Int.toNat i) AV.bad = Idd.enc (List.getD a (Int.toNat i) default), decide ((0 : Int) ≤ i ∧ i < (↑(List.length (List.map Idd.enc b)) : Int)) = true, List.getD (List.map Idd.enc b) (Int.toNat i) AV.bad = Idd.enc (List.getD b (Int.toNat i) default), (!(Idd.y (List.getD a (Int.toNat i) default) == Idd.y (List.getD b (Int.toNat i) default) && Idd.n (List.getD a (Int.toNat i) default) == Idd.n (List.getD b (Int.toNat i) default))) = true]) (ans' := []) (base 33 0) cxA_K.1 cxA_K.2 _ (by kernel_rfl)  (allp g0 (allp g1 (allp g2 (allp g3 (allp g4 (allp g5 allp_nil))))))
theorem sml_1 (ca cb : Option Nat) (a b : List Idd) (i : Int) (g0 : decide (i < (↑(List.length (List.map Idd.enc a)) : Int)) = true) (g1 : decide ((0 : Int) ≤ i ∧ i < (↑(List.length (List.map Idd.enc a)) : Int)) = true) (g2 : List.getD (List.map Idd.enc a) (Int.toNat i) AV.bad = Idd.enc (List.getD a (Int.toNat i) default)) (g3 : decide ((0 : Int) ≤ i ∧ i < (↑(List.length (List.map Idd.enc b)) : Int)) = true) (g4 : List.getD (List.map Idd.enc b) (Int.toNat i) AV.bad = Idd.enc (List.getD b (Int.toNat i) default)) (g5 : (!(Idd.y (List.getD a (Int.toNat i) default) == Idd.y (List.getD b (Int.toNat i) default) && Idd.n (List.getD a (Int.toNat i) default) == Idd.n (List.getD b (Int.toNat i) default))) = false) : Tri Try.prog (cxN 33 0) (loopBody Try.f41 0) ([(0, isl ca a), (1, isl cb b), (5, it i)] ) (Ex.normal) ([(0, AV.sl Mode.any 30 ca (List.map Idd.enc a)), (1, AV.sl Mode.any 30 cb (List.map Idd.enc b)), (5, it (IntKind.wrap IntKind.i64 (i + (1 : Int))))]) :=
  evA_ok (H := h41) (ans := [.c, .c, .c, .c, .b true, .c, .c, .b true, .r (Idd.enc (List.getD a (Int.toNat i) default)), .c, .c, .c, .c, .b true, .r (Idd.enc (List.getD b (Int.toNat i) default)), .c, .c, .c, .b false, .c, .c, .c]) (ps := [decide (i < (↑(List.length (List.map Idd.enc a)) : Int)) = true, decide ((0 : Int) ≤ i ∧ i < (↑(List.length (List.map Idd.enc a)) : Int)) = true, List.getD (List.map Idd.enc a) (Int.toNat i) AV.bad = Idd.enc (List.getD a (Int.toNat i) default), decide ((0 : Int) ≤ i ∧ i < (↑(List.length (List.map Idd.enc b)) : Int)) = true, List.getD (List.map Idd.enc b) (Int.toNat i) AV.bad = Idd.enc (List.getD b (Int.toNat i) default), (!(Idd.y (List.getD a (Int.toNat i) default) == Idd.y (List.getD b (Int.toNat i) default) && Idd.n (List.getD a (Int.toNat i) default) == Idd.n (List.getD b (Int.toNat i) default))) = false]) (ans' := []) (base 33 0) cxA_K.1 cxA_K.2 _ (by kernel_rfl)  (allp g0 (allp g1 (allp g2 (allp g3 (allp g4 (allp g5 allp_nil))))))
theorem sml_2 (ca cb : Option Nat) (a b : List Idd) (i : Int) (g0 : decide (i < (↑(List.length (List.map Idd.enc a)) : Int)) = false) : Tri Try.prog (cxN 33 0) (loopBody Try.f41 0) ([(0, isl ca a), (1, isl cb b), (5, it i)] ) (Ex.exit 0) ([(0, AV.sl Mode.any 30 ca (List.map Idd.enc a)), (1, AV.sl Mode.any 30 cb (List.map Idd.enc b)), (5, it i), (21, bb (decide (i < (↑(List.length (List.map Idd.enc a)) : Int))))]) :=
  evA_ok (H := h41) (ans := [.c, .c, .c, .c, .b false]) (ps := [decide (i < (↑(List.length (List.map Idd.enc a)) : Int)) = false]) (ans' := []) (base 33 0) cxA_K.1 cxA_K.2 _ (by kernel_rfl)  (allp g0 allp_nil)
theorem ixl_0 (ca : Option Nat) (a : List Idd) (p : Idd) (m i : Int) (g0 : decide (i < m) = true) (g1 : decide ((0 : Int) ≤ i ∧ i < (↑(List.length (List.map Idd.enc a)) : Int)) = true) (g2 : List.getD (List.map Idd.enc a) (Int.toNat i) AV.bad = Idd.enc (List.getD a (Int.toNat i) default)) (g3 : (Idd.y p == Idd.y (List.getD a (Int.toNat i) default) && Idd.n p == Idd.n (List.getD a (Int.toNat i) default)) = true) : Tri Try.prog (cxN 19 0) (loopBody Try.f70 0) ([(0, isl ca a), (3, .box [ub p.y, it p.n]), (7, it m), (8, it i)] ) (Ex.ret) ([(4, it i)]) :=
  evA_ok (H := h70) (ans := [.c, .b true, .c, .c, .c, .c, .c, .b true, .r (Idd.enc (List.getD a (Int.toNat i) default)), .c, .c, .c, .b true, .c, .c]) (ps := [decide (i < m) = true, decide ((0 : Int) ≤ i ∧ i < (↑(List.length (List.map Idd.enc a)) : Int)) = true, List.getD (List.map Idd.enc a) (Int.toNat i) AV.bad = Idd.enc (List.getD a (Int.toNat i) default), (Idd.y p == Idd.y (List.getD a (Int.toNat i) default) && Idd.n p == Idd.n (List.getD a (Int.toNat i) default)) = true]) (ans' := []) (base 19 0) cxA_K.1 cxA_K.2 _ (by kernel_rfl)  (allp g0 (allp g1 (allp g2 (allp g3 allp_nil))))
theorem ixl_1 (ca : Option Nat) (a : List Idd) (p : Idd) (m i : Int) (g0 : decide (i < m) = true) (g1 : decide ((0 : Int) ≤ i ∧ i < (↑(List.length (List.map Idd.enc a)) : Int)) = true) (g2 : List.getD (List.map Idd.enc a) (Int.toNat i) AV.bad = Idd.enc (List.getD a (Int.toNat i) default)) (g3 : (Idd.y p == Idd.y (List.getD a (Int.toNat i) default) && Idd.n p == Idd.n (List.getD a (Int.toNat i) default)) = false) : Tri Try.prog (cxN 19 0) (loopBody Try.f70 0) ([(0, isl ca a), (3, .box [ub p.y, it p.n]), (7, it m), (8, it i)] ) (Ex.normal) ([(0, AV.sl Mode.any 30 ca (List.map Idd.enc a)), (3, AV.box [ub (Idd.y p), it (Idd.n p)]), (7, it m), (8, it (IntKind.wrap IntKind.i64 (i + (1 : Int))))]) :=
  evA_ok (H := h70) (ans := [.c, .b true, .c, .c, .c, .c, .c, .b true, .r (Idd.enc (List.getD a (Int.toNat i) default)), .c, .c, .c, .b false, .c, .c]) (ps := [decide (i < m) = true, decide ((0 : Int) ≤ i ∧ i < (↑(List.length (List.map Idd.enc a)) : Int)) = true, List.getD (List.map Idd.enc a) (Int.toNat i) AV.bad = Idd.enc (List.getD a (Int.toNat i) default), (Idd.y p == Idd.y (List.getD a (Int.toNat i) default) && Idd.n p == Idd.n (List.getD a (Int.toNat i) default)) = false]) (ans' := []) (base 19 0) cxA_K.1 cxA_K.2 _ (by kernel_rfl)  (allp g0 (allp g1 (allp g2 (allp g3 allp_nil))))
theorem ixl_2 (ca : Option Nat) (a : List Idd) (p : Idd) (m i : Int) (g0 : decide (i < m) = false) : Tri Try.prog (cxN 19 0) (loopBody Try.f70 0) ([(0, isl ca a), (3, .box [ub p.y, it p.n]), (7, it m), (8, it i)] ) (Ex.exit 0) ([(0, AV.sl Mode.any 30 ca (List.map Idd.enc a)), (3, AV.box [ub (Idd.y p), it (Idd.n p)]), (7, it m), (8, it i), (9, bb (decide (i < m)))]) :=
  evA_ok (H := h70) (ans := [.c, .b false]) (ps := [decide (i < m) = false]) (ans' := []) (base 19 0) cxA_K.1 cxA_K.2 _ (by kernel_rfl)  (allp g0 allp_nil)
theorem nml_0 (ca : Option Nat) (a : List Idd) (m i : Int) (g0 : decide (i < m) = true) (g1 : decide ((0 : Int) ≤ i ∧ i < (↑(List.length (List.map Idd.enc a)) : Int)) = true) (g2 : List.getD (List.map Idd.enc a) (Int.toNat i) AV.bad = Idd.enc (List.getD a (Int.toNat i) default)) (g3 : (!namedB (Idd.y (List.getD a (Int.toNat i) default)) (Idd.n (List.getD a (Int.toNat i) default))) = true) : Tri Try.prog (cxN 15 0) (loopBody Try.f62 0) ([(5, isl ca a), (6, it m), (7, it i)] ) (Ex.ret) ([(2, bb false)]) :=
  evA_ok (H := h62) (ans := [.c, .b true, .b true, .r (Idd.enc (List.getD a (Int.toNat i) default)), .c, .c, .c, .c, .c, .r (bb (namedB (Idd.y (List.getD a (Int.toNat i) default)) (Idd.n (List.getD a (Int.toNat i) default)))), .c, .c, .c, .b true, .c]) (ps := [decide (i < m) = true, decide ((0 : Int) ≤ i ∧ i < (↑(List.length (List.map Idd.enc a)) : Int)) = true, List.getD (List.map Idd.enc a) (Int.toNat i) AV.bad = Idd.enc (List.getD a (Int.toNat i) default), PureC Try.prog 28 [AV.agg [ub (Idd.y (List.getD a (Int.toNat i) default)), it (Idd.n (List.getD a (Int.toNat i) default))]] (bb (namedB (Idd.y (List.getD a (Int.toNat i) default)) (Idd.n (List.getD a (Int.toNat i) default)))), (!namedB (Idd.y (List.getD a (Int.toNat i) default)) (Idd.n (List.getD a (Int.toNat i) default))) = true]) (ans' := []) (base 15 0) cxA_K.1 cxA_K.2 _ (by kernel_rfl)  (allp g0 (allp g1 (allp g2 (allp (by apply named_c <;> (first | assumption | rfl | (simp at * <;> omega))) (allp g3 allp_nil)))))
theorem nml_1 (ca : Option Nat) (a : List Idd) (m i : Int) (g0 : decide (i < m) = true) (g1 : decide ((0 : Int) ≤ i ∧ i < (↑(List.length (List.map Idd.enc a)) : Int)) = true) (g2 : List.getD (List.map Idd.enc a) (Int.toNat i) AV.bad = Idd.enc (List.getD a (Int.toNat i) default)) (g3 : (!namedB (Idd.y (List.getD a (Int.toNat i) default)) (Idd.n (List.getD a (Int.toNat i) default))) = false) : Tri Try.prog (cxN 15 0) (loopBody Try.f62 0) ([(5, isl ca a), (6, it m), (7, it i)] ) (Ex.normal) ([(5, AV.sl Mode.any 30 ca (List.map Idd.enc a)), (6, it m), (7, it (IntKind.wrap IntKind.i64 (i + (1 : Int))))]) :=
  evA_ok (H := h62) (ans := [.c, .b true, .b true, .r (Idd.enc (List.getD a (Int.toNat i) default)), .c, .c, .c, .c, .c, .r (bb (namedB (Idd.y (List.getD a (Int.toNat i) default)) (Idd.n (List.getD a (Int.toNat i) default)))), .c, .c, .c, .b false, .c, .c]) (ps := [decide (i < m) = true, decide ((0 : Int) ≤ i ∧ i < (↑(List.length (List.map Idd.enc a)) : Int)) = true, List.getD (List.map Idd.enc a) (Int.toNat i) AV.bad = Idd.enc (List.getD a (Int.toNat i) default), PureC Try.prog 28 [AV.agg [ub (Idd.y (List.getD a (Int.toNat i) default)), it (Idd.n (List.getD a (Int.toNat i) default))]] (bb (namedB (Idd.y (List.getD a (Int.toNat i) default)) (Idd.n (List.getD a (Int.toNat i) default)))), (!namedB (Idd.y (List.getD a (Int.toNat i) default)) (Idd.n (List.getD a (Int.toNat i) default))) = false]) (ans' := []) (base 15 0) cxA_K.1 cxA_K.2 _ (by kernel_rfl)  (allp g0 (allp g1 (allp g2 (allp (by apply named_c <;> (first | assumption | rfl | (simp at * <;> omega))) (allp g3 allp_nil)))))
theorem nml_2 (ca : Option Nat) (a : List Idd) (m i : Int) (g0 : decide (i < m) = false) : Tri Try.prog (cxN 15 0) (loopBody Try.f62 0) ([(5, isl ca a), (6, it m), (7, it i)] ) (Ex.exit 0) ([(5, AV.sl Mode.any 30 ca (List.map Idd.enc a)), (6, it m), (7, it i), (8, bb (decide (i < m)))]) :=
  evA_ok (H := h62) (ans := [.c, .b false]) (ps := [decide (i < m) = false]) (ans' := []) (base 15 0) cxA_K.1 cxA_K.2 _ (by kernel_rfl)  (allp g0 allp_nil)
end Tst
end

section
open Go Go.Lf Go.Proofs
namespace Tst
theorem id_beq (p q : Idd) : (p.y == q.y && p.n == q.n) = (p == q) := by
  cases p; cases q
  rw [Bool.eq_iff_iff]
  simp [Bool.and_eq_true]
theorem scan0 {a : List Idd} {i : Nat} (h : i < a.length) : decide ((i : Int) < (((a.map Idd.enc).length : Nat) : Int)) = true ∧ decide ((0 : Int) ≤ (i : Int) ∧ (i : Int) < (((a.map Idd.enc).length : Nat) : Int)) = true ∧ List.getD (List.map Idd.enc a) (Int.toNat (i : Int)) AV.bad = Idd.enc (List.getD a (Int.toNat (i : Int)) default) :=
  ⟨by simpa using h, by simpa using h, getD_id h⟩
theorem sm_eq (ca cb : Option Nat) (a b : List Idd) (hl : a.length = b.length) (hA : a.length < 2 ^ 62) : ∀ (k i : Nat), i + k = a.length → a.drop i = b.drop i →
    Rnd Try.prog (cxN 33 0) (loopBody Try.f41 0) (k + 1) [(0, isl ca a), (1, isl cb b), (5, it i)] (.exit 0) [] := by
  intro k
  induction k with
  | zero =>
    intro i hi _
    exact Rnd.exit (Tri.after [] (sml_2 ca cb a b i (by simp; omega))) (by simp)
  | succ k ih =>
    intro i hi hd
    have hlt : i < a.length := by omega
    have hlb : i < b.length := by omega
    have e0 : a.getD i default = b.getD i default := by
      have := congrArg (fun l => l.getD 0 default) hd
      simpa [List.getD_eq_getElem?_getD] using this
    have hd' : a.drop (i + 1) = b.drop (i + 1) := by
      have := congrArg (List.drop 1) hd
      simpa [List.drop_drop, Nat.add_comm] using this
    obtain ⟨s1, s2, s3⟩ := scan0 hlt
    obtain ⟨_, s5, s6⟩ := scan0 hlb
    have h1 := sml_1 ca cb a b i s1 s2 s3 s5 s6 (by rw [id_beq]; simp only [Int.toNat_natCast, e0]; simp)
    rw [wrap_id' (by omega) (by omega)] at h1
    exact Rnd.step h1 (ih (i + 1) (by omega) hd')
theorem sm_ne (ca cb : Option Nat) (a b : List Idd) (hl : a.length = b.length) (hA : a.length < 2 ^ 62) : ∀ (k i : Nat), i + k = a.length → a.drop i ≠ b.drop i →
    Rnd Try.prog (cxN 33 0) (loopBody Try.f41 0) (k + 1) [(0, isl ca a), (1, isl cb b), (5, it i)] .ret [(4, it 0)] := by
  intro k
  induction k with
  | zero =>
    intro i hi hne
    exact absurd (by rw [List.drop_of_length_le (by omega), List.drop_of_length_le (by omega)]) hne
  | succ k ih =>
    intro i hi hne
    have hlt : i < a.length := by omega
    have hlb : i < b.length := by omega
    obtain ⟨s1, s2, s3⟩ := scan0 hlt
    obtain ⟨_, s5, s6⟩ := scan0 hlb
    by_cases e0 : a.getD i default = b.getD i default
    · have hd' : a.drop (i + 1) ≠ b.drop (i + 1) := by
        intro h
        apply hne
        rw [List.drop_eq_getElem_cons hlt, List.drop_eq_getElem_cons hlb, h]
        congr 1
        simpa [List.getD_eq_getElem?_getD, hlt, hlb] using e0
      have h1 := sml_1 ca cb a b i s1 s2 s3 s5 s6 (by rw [id_beq]; simp only [Int.toNat_natCast, e0]; simp)
      rw [wrap_id' (by omega) (by omega)] at h1
      exact Rnd.step h1 (ih (i + 1) (by omega) hd')
    · exact Rnd.exit (sml_0 ca cb a b i s1 s2 s3 s5 s6 (by rw [id_beq]; simp only [Int.toNat_natCast]; simpa using e0)) (by simp)
theorem smE (ca cb : Option Nat) (a b : List Idd) (h : a = b) (hA : a.length < 2 ^ 62) : Tri Try.prog (cxN 33 0) (.loop (loopBody Try.f41 0)) [(0, isl ca a), (1, isl cb b), (5, it 0)] (.exit 0) [] :=
  Rnd.loop (sm_eq ca cb a b (by rw [h]) hA a.length 0 (by omega) (by rw [h]))
theorem smN (ca cb : Option Nat) (a b : List Idd) (hl : a.length = b.length) (h : a ≠ b) (hA : a.length < 2 ^ 62) : Tri Try.prog (cxN 33 0) (.loop (loopBody Try.f41 0)) [(0, isl ca a), (1, isl cb b), (5, it 0)] .ret [(4, it 0)] :=
  Rnd.loop (sm_ne ca cb a b hl hA a.length 0 (by omega) (by simpa using h))
def nmI (p : Idd) : Bool := namedB p.y p.n
theorem nm_rnd (ca : Option Nat) (a : List Idd) (hA : a.length < 2 ^ 62) : ∀ (k i : Nat), i + k = a.length →
    Rnd Try.prog (cxN 15 0) (loopBody Try.f62 0) (k + 1) [(5, isl ca a), (6, it a.length), (7, it i)] (if (a.drop i).all nmI = true then .exit 0 else .ret) (if (a.drop i).all nmI = true then [] else [(2, bb false)]) := by
  intro k
  induction k with
  | zero =>
    intro i hi
    rw [List.drop_of_length_le (by omega)]
    simp only [List.all_nil, if_true]
    exact Rnd.exit (Tri.after [] (nml_2 ca a a.length i (by simp; omega))) (by simp)
  | succ k ih =>
    intro i hi
    have hlt : i < a.length := by omega
    obtain ⟨_, s2, s3⟩ := scan0 hlt
    rw [List.drop_eq_getElem_cons hlt, List.all_cons]
    have eg : a.getD i default = a[i] := by rw [List.getD_eq_getElem?_getD, List.getElem?_eq_getElem hlt]; rfl
    cases hn : nmI a[i] with
    | true =>
      have hn' : namedB (a.getD i default).y (a.getD i default).n = true := by rw [eg]; exact hn
      have h1 := nml_1 ca a a.length i (by simp; omega) s2 s3 (by simp only [Int.toNat_natCast, hn']; rfl)
      rw [wrap_id' (by omega) (by omega)] at h1
      simp only [Bool.true_and]
      exact Rnd.step h1 (ih (i + 1) (by omega))
    | false =>
      have hn' : namedB (a.getD i default).y (a.getD i default).n = false := by rw [eg]; exact hn
      simp only [Bool.false_and, Bool.false_eq_true, if_false]
      exact Rnd.exit (nml_0 ca a a.length i (by simp; omega) s2 s3 (by simp only [Int.toNat_natCast, hn']; rfl)) (by simp)
theorem nmT (ca : Option Nat) (a : List Idd) (hA : a.length < 2 ^ 62) (h : a.all nmI = true) : Tri Try.prog (cxN 15 0) (.loop (loopBody Try.f62 0)) [(5, isl ca a), (6, it (((a.map Idd.enc).length : Nat) : Int)), (7, it 0)] (.exit 0) [] := by
  rw [List.length_map]
  have := Rnd.loop (nm_rnd ca a hA a.length 0 (by omega))
  rw [List.drop_zero, if_pos h, if_pos h] at this
  exact this
theorem nmF (ca : Option Nat) (a : List Idd) (hA : a.length < 2 ^ 62) (h : a.all nmI = false) : Tri Try.prog (cxN 15 0) (.loop (loopBody Try.f62 0)) [(5, isl ca a), (6, it (((a.map Idd.enc).length : Nat) : Int)), (7, it 0)] .ret [(2, bb false)] := by
  rw [List.length_map]
  have := Rnd.loop (nm_rnd ca a hA a.length 0 (by omega))
  rw [List.drop_zero, if_neg (by rw [h]; simp), if_neg (by rw [h]; simp)] at this
  exact this
end Tst
end

section
open Go Go.Lf Go.Proofs
namespace Tst
set_option maxHeartbeats 0
theorem s41A_0 (c : Nat) (cb : Option Nat) (a b : List Idd) (x1 : (((List.length (List.map Idd.enc a) : Nat) : Int) != ((List.length (List.map Idd.enc b) : Nat) : Int)) = true) (g0 : ((↑(List.length (List.map Idd.enc a)) : Int) != (↑(List.length (List.map Idd.enc b)) : Int)) = true) : PureC Try.prog 41 [isl (some c) a, isl cb b]  (it 0) :=
  funA_ok (H := h41) (n := 33) (ans := [.c, .c, .c, .c, .c, .c, .c, .b true, .c, .b true, .c, .b true, .c, .b true, .c, .b true, .c, .b true, .c, .c, .c]) (ps := [((↑(List.length (List.map Idd.enc a)) : Int) != (↑(List.length (List.map Idd.enc b)) : Int)) = true, ((↑(List.length (List.map Idd.enc a)) : Int) != (↑(List.length (List.map Idd.enc b)) : Int)) = true, ((↑(List.length (List.map Idd.enc a)) : Int) != (↑(List.length (List.map Idd.enc b)) : Int)) = true, ((↑(List.length (List.map Idd.enc a)) : Int) != (↑(List.length (List.map Idd.enc b)) : Int)) = true, ((↑(List.length (List.map Idd.enc a)) : Int) != (↑(List.length (List.map Idd.enc b)) : Int)) = true, ((↑(List.length (List.map Idd.enc a)) : Int) != (↑(List.length (List.map Idd.enc b)) : Int)) = true]) (base 33 0) Try.func41 rfl (by simp) rfl (by kernel_rfl)  (allp g0 (allp g0 (allp g0 (allp g0 (allp g0 (allp g0 allp_nil))))))
theorem s41B_0 (c : Nat) (cb : Option Nat) (a b : List Idd) (x1 : (((List.length (List.map Idd.enc a) : Nat) : Int) != ((List.length (List.map Idd.enc b) : Nat) : Int)) = false) (x2 : (((c : Nat) : Int) != ((List.length (List.map Idd.enc a) : Nat) : Int)) = true) (g0 : ((↑(List.length (List.map Idd.enc a)) : Int) != (↑(List.length (List.map Idd.enc b)) : Int)) = false) (g1 : ((↑c : Int) != (↑(List.length (List.map Idd.enc a)) : Int)) = true) : PureC Try.prog 41 [isl (some c) a, isl cb b]  (it 0) :=
  funA_ok (H := h41) (n := 33) (ans := [.c, .c, .c, .c, .c, .c, .c, .b false, .c, .b false, .c, .b false, .c, .b false, .c, .b false, .c, .b false, .c, .b true, .c]) (ps := [((↑(List.length (List.map Idd.enc a)) : Int) != (↑(List.length (List.map Idd.enc b)) : Int)) = false, ((↑(List.length (List.map Idd.enc a)) : Int) != (↑(List.length (List.map Idd.enc b)) : Int)) = false, ((↑(List.length (List.map Idd.enc a)) : Int) != (↑(List.length (List.map Idd.enc b)) : Int)) = false, ((↑(List.length (List.map Idd.enc a)) : Int) != (↑(List.length (List.map Idd.enc b)) : Int)) = false, ((↑(List.length (List.map Idd.enc a)) : Int) != (↑(List.length (List.map Idd.enc b)) : Int)) = false, ((↑(List.length (List.map Idd.enc a)) : Int) != (↑(List.length (List.map Idd.enc b)) : Int)) = false, ((↑c : Int) != (↑(List.length (List.map Idd.enc a)) : Int)) = true]) (base 33 0) Try.func41 rfl (by simp) rfl (by kernel_rfl)  (allp g0 (allp g0 (allp g0 (allp g0 (allp g0 (allp g0 (allp g1 allp_nil)))))))
theorem s41C_0 (c : Nat) (cb : Option Nat) (a b : List Idd) (h : a = b) (hA : a.length < 2 ^ 62) (x1 : (((List.length (List.map Idd.enc a) : Nat) : Int) != ((List.length (List.map Idd.enc b) : Nat) : Int)) = false) (x2 : (((c : Nat) : Int) != ((List.length (List.map Idd.enc a) : Nat) : Int)) = false) (g0 : ((↑(List.length (List.map Idd.enc a)) : Int) != (↑(List.length (List.map Idd.enc b)) : Int)) = false) (g1 : ((↑c : Int) != (↑(List.length (List.map Idd.enc a)) : Int)) = false) : PureC Try.prog 41 [isl (some c) a, isl cb b]  (it 1) :=
  funA_ok (H := h41) (n := 33) (ans := [.c, .c, .c, .c, .c, .c, .c, .b false, .c, .b false, .c, .b false, .c, .b false, .c, .b false, .c, .b false, .c, .b false, .c, .lp (Ex.exit 0) [], .c]) (ps := [((↑(List.length (List.map Idd.enc a)) : Int) != (↑(List.length (List.map Idd.enc b)) : Int)) = false, ((↑(List.length (List.map Idd.enc a)) : Int) != (↑(List.length (List.map Idd.enc b)) : Int)) = false, ((↑(List.length (List.map Idd.enc a)) : Int) != (↑(List.length (List.map Idd.enc b)) : Int)) = false, ((↑(List.length (List.map Idd.enc a)) : Int) != (↑(List.length (List.map Idd.enc b)) : Int)) = false, ((↑(List.length (List.map Idd.enc a)) : Int) != (↑(List.length (List.map Idd.enc b)) : Int)) = false, ((↑(List.length (List.map Idd.enc a)) : Int) != (↑(List.length (List.map Idd.enc b)) : Int)) = false, ((↑c : Int) != (↑(List.length (List.map Idd.enc a)) : Int)) = false, Tri Try.prog (cxN (33 : Nat) (0 : Nat)) (Code.loop (loopBody Try.f41 (0 : Nat))) [(0, AV.sl Mode.any 30 (some c) (List.map Idd.enc a)), (1, AV.sl Mode.any 30 cb (List.map Idd.enc b)), (5, it 0)] (Ex.exit 0) []]) (base 33 0) Try.func41 rfl (by simp) rfl (by kernel_rfl)  (allp g0 (allp g0 (allp g0 (allp g0 (allp g0 (allp g0 (allp g1 (allp (by first | (apply smE <;> (first | assumption | rfl | (simp at * <;> omega))) | (refine Tri.weak [(0, .keep), (1, .keep), (5, .keep)] ?_; apply smE <;> (first | assumption | rfl | (simp at * <;> omega)))) allp_nil))))))))
theorem s41D_0 (c : Nat) (cb : Option Nat) (a b : List Idd) (hl : a.length = b.length) (h : a ≠ b) (hA : a.length < 2 ^ 62) (x1 : (((List.length (List.map Idd.enc a) : Nat) : Int) != ((List.length (List.map Idd.enc b) : Nat) : Int)) = false) (x2 : (((c : Nat) : Int) != ((List.length (List.map Idd.enc a) : Nat) : Int)) = false) (g0 : ((↑(List.length (List.map Idd.enc a)) : Int) != (↑(List.length (List.map Idd.enc b)) : Int)) = false) (g1 : ((↑c : Int) != (↑(List.length (List.map Idd.enc a)) : Int)) = false) : PureC Try.prog 41 [isl (some c) a, isl cb b]  (it 0) :=
  funA_ok (H := h41) (n := 33) (ans := [.c, .c, .c, .c, .c, .c, .c, .b false, .c, .b false, .c, .b false, .c, .b false, .c, .b false, .c, .b false, .c, .b false, .c, .lp Ex.ret [(4, it 0)]]) (ps := [((↑(List.length (List.map Idd.enc a)) : Int) != (↑(List.length (List.map Idd.enc b)) : Int)) = false, ((↑(List.length (List.map Idd.enc a)) : Int) != (↑(List.length (List.map Idd.enc b)) : Int)) = false, ((↑(List.length (List.map Idd.enc a)) : Int) != (↑(List.length (List.map Idd.enc b)) : Int)) = false, ((↑(List.length (List.map Idd.enc a)) : Int) != (↑(List.length (List.map Idd.enc b)) : Int)) = false, ((↑(List.length (List.map Idd.enc a)) : Int) != (↑(List.length (List.map Idd.enc b)) : Int)) = false, ((↑(List.length (List.map Idd.enc a)) : Int) != (↑(List.length (List.map Idd.enc b)) : Int)) = false, ((↑c : Int) != (↑(List.length (List.map Idd.enc a)) : Int)) = false, Tri Try.prog (cxN (33 : Nat) (0 : Nat)) (Code.loop (loopBody Try.f41 (0 : Nat))) [(0, AV.sl Mode.any 30 (some c) (List.map Idd.enc a)), (1, AV.sl Mode.any 30 cb (List.map Idd.enc b)), (5, it 0)] Ex.ret [(4, it 0)]]) (base 33 0) Try.func41 rfl (by simp) rfl (by kernel_rfl)  (allp g0 (allp g0 (allp g0 (allp g0 (allp g0 (allp g0 (allp g1 (allp (by first | (apply smN <;> (first | assumption | rfl | (simp at * <;> omega))) | (refine Tri.weak [(0, .keep), (1, .keep), (5, .keep)] ?_; apply smN <;> (first | assumption | rfl | (simp at * <;> omega)))) allp_nil))))))))
theorem nmA_0 (ca : Option Nat) (a : List Idd) (hA : a.length < 2 ^ 62) (h : a.all nmI = true) : PureC Try.prog 62 [isl ca a]  (bb true) :=
  funA_ok (H := h62) (n := 15) (ans := [.c, .c, .c, .c, .lp (Ex.exit 0) [], .c]) (ps := [Tri Try.prog (cxN (15 : Nat) (0 : Nat)) (Code.loop (loopBody Try.f62 (0 : Nat))) [(5, AV.sl Mode.any 30 ca (List.map Idd.enc a)), (6, it (↑(List.length (List.map Idd.enc a)) : Int)), (7, it 0)] (Ex.exit 0) []]) (base 15 0) Try.func62 rfl (by simp) rfl (by kernel_rfl)  (allp (by first | (apply nmT <;> (first | assumption | rfl | (simp at * <;> omega))) | (refine Tri.weak [(5, .keep), (6, .keep), (7, .keep)] ?_; apply nmT <;> (first | assumption | rfl | (simp at * <;> omega)))) allp_nil)
theorem nmB_0 (ca : Option Nat) (a : List Idd) (hA : a.length < 2 ^ 62) (h : a.all nmI = false) : PureC Try.prog 62 [isl ca a]  (bb false) :=
  funA_ok (H := h62) (n := 15) (ans := [.c, .c, .c, .c, .lp Ex.ret [(2, bb false)]]) (ps := [Tri Try.prog (cxN (15 : Nat) (0 : Nat)) (Code.loop (loopBody Try.f62 (0 : Nat))) [(5, AV.sl Mode.any 30 ca (List.map Idd.enc a)), (6, it (↑(List.length (List.map Idd.enc a)) : Int)), (7, it 0)] Ex.ret [(2, bb false)]]) (base 15 0) Try.func62 rfl (by simp) rfl (by kernel_rfl)  (allp (by first | (apply nmF <;> (first | assumption | rfl | (simp at * <;> omega))) | (refine Tri.weak [(5, .keep), (6, .keep), (7, .keep)] ?_; apply nmF <;> (first | assumption | rfl | (simp at * <;> omega)))) allp_nil)
end Tst
end

section
open Go Go.Lf Go.Proofs
namespace Tst
set_option maxHeartbeats 0
theorem s41_c (c : Nat) (cb : Option Nat) (a b : List Idd) (hA : a.length < 2 ^ 62) : PureC Try.prog 41 [isl (some c) a, isl cb b] (it (if a = b ∧ c = a.length then 1 else 0)) := by
  by_cases hl : a.length = b.length
  · have x1 : (((List.length (List.map Idd.enc a) : Nat) : Int) != ((List.length (List.map Idd.enc b) : Nat) : Int)) = false := by simp; omega
    by_cases hc : c = a.length
    · have x2 : (((c : Nat) : Int) != ((List.length (List.map Idd.enc a) : Nat) : Int)) = false := by simp; omega
      by_cases h : a = b
      · rw [if_pos ⟨h, hc⟩]; exact s41C_0 c cb a b h hA x1 x2 x1 x2
      · rw [if_neg fun q => h q.1]; exact s41D_0 c cb a b hl h hA x1 x2 x1 x2
    · rw [if_neg fun q => hc q.2]
      exact s41B_0 c cb a b x1 (by simp; omega) x1 (by simp; omega)
  · rw [if_neg fun q => hl (by rw [q.1])]
    exact s41A_0 c cb a b (by simp; omega) (by simp; omega)
theorem nml_c (ca : Option Nat) (a : List Idd) (hA : a.length < 2 ^ 62) : PureC Try.prog 62 [isl ca a] (bb (a.all nmI)) := by
  cases h : a.all nmI with
  | true => exact nmA_0 ca a hA h
  | false => exact nmB_0 ca a hA h
theorem shl_0 (c : Option Nat) (l : List Stk) (n : Int) (g0 : decide ((0 : Int) < n) = true) (g1 : decide ((0 : Int) ≤ IntKind.wrap IntKind.i64 (n - (1 : Int)) ∧ IntKind.wrap IntKind.i64 (n - (1 : Int)) < (↑(List.length (List.map Stk.enc l)) : Int)) = true) (g2 : List.getD (List.map Stk.enc l) (Int.toNat (IntKind.wrap IntKind.i64 (n - (1 : Int)))) AV.bad = Stk.enc (List.getD l (Int.toNat (IntKind.wrap IntKind.i64 (n - (1 : Int)))) default)) (g3 : ((↑(List.length (List.map Idd.enc (Stk.l (List.getD l (Int.toNat (IntKind.wrap IntKind.i64 (n - (1 : Int)))) default)))) : Int) == (0 : Int)) = true) : Tri Try.prog (cxN 40 0) (loopBody Try.f71 0) ([(0, bsl c l), (3, it n)] ) (Ex.normal) ([(0, bsl c l), (3, it (IntKind.wrap IntKind.i64 (n - (1 : Int))))]) :=
  evA_ok (H := h71) (ans := [.c, .c, .c, .b true, .c, .b true, .c, .b true, .c, .b true, .b true, .r (Stk.enc (List.getD l (Int.toNat (IntKind.wrap IntKind.i64 (n - (1 : Int)))) default)), .c, .b true, .c, .b true, .c, .b true, .c, .b true, .c, .b true, .c, .c, .c]) (ps := [decide ((0 : Int) < n) = true, decide ((0 : Int) < n) = true, decide ((0 : Int) < n) = true, decide ((0 : Int) < n) = true, decide ((0 : Int) ≤ IntKind.wrap IntKind.i64 (n - (1 : Int)) ∧ IntKind.wrap IntKind.i64 (n - (1 : Int)) < (↑(List.length (List.map Stk.enc l)) : Int)) = true, List.getD (List.map Stk.enc l) (Int.toNat (IntKind.wrap IntKind.i64 (n - (1 : Int)))) AV.bad = Stk.enc (List.getD l (Int.toNat (IntKind.wrap IntKind.i64 (n - (1 : Int)))) default), decide ((0 : Int) < n) = true, decide ((0 : Int) < n) = true, decide ((0 : Int) < n) = true, decide ((0 : Int) < n) = true, ((↑(List.length (List.map Idd.enc (Stk.l (List.getD l (Int.toNat (IntKind.wrap IntKind.i64 (n - (1 : Int)))) default)))) : Int) == (0 : Int)) = true]) (ans' := []) (base 40 0) cxA_K.1 cxA_K.2 _ (by kernel_rfl)  (allp g0 (allp g0 (allp g0 (allp g0 (allp g1 (allp g2 (allp g0 (allp g0 (allp g0 (allp g0 (allp g3 allp_nil)))))))))))
theorem shl_1 (c : Option Nat) (l : List Stk) (n : Int) (g0 : decide ((0 : Int) < n) = true) (g1 : decide ((0 : Int) ≤ IntKind.wrap IntKind.i64 (n - (1 : Int)) ∧ IntKind.wrap IntKind.i64 (n - (1 : Int)) < (↑(List.length (List.map Stk.enc l)) : Int)) = true) (g2 : List.getD (List.map Stk.enc l) (Int.toNat (IntKind.wrap IntKind.i64 (n - (1 : Int)))) AV.bad = Stk.enc (List.getD l (Int.toNat (IntKind.wrap IntKind.i64 (n - (1 : Int)))) default)) (g3 : ((↑(List.length (List.map Idd.enc (Stk.l (List.getD l (Int.toNat (IntKind.wrap IntKind.i64 (n - (1 : Int)))) default)))) : Int) == (0 : Int)) = false) : Tri Try.prog (cxN 40 0) (loopBody Try.f71 0) ([(0, bsl c l), (3, it n)] ) (Ex.exit 0) ([(0, bsl c l), (3, it n), (18, bb ((↑(List.length (List.map Idd.enc (Stk.l (List.getD l (Int.toNat (IntKind.wrap IntKind.i64 (n - (1 : Int)))) default)))) : Int) == (0 : Int)))]) :=
  evA_ok (H := h71) (ans := [.c, .c, .c, .b true, .c, .b true, .c, .b true, .c, .b true, .b true, .r (Stk.enc (List.getD l (Int.toNat (IntKind.wrap IntKind.i64 (n - (1 : Int)))) default)), .c, .b true, .c, .b true, .c, .b true, .c, .b true, .c, .b false]) (ps := [decide ((0 : Int) < n) = true, decide ((0 : Int) < n) = true, decide ((0 : Int) < n) = true, decide ((0 : Int) < n) = true, decide ((0 : Int) ≤ IntKind.wrap IntKind.i64 (n - (1 : Int)) ∧ IntKind.wrap IntKind.i64 (n - (1 : Int)) < (↑(List.length (List.map Stk.enc l)) : Int)) = true, List.getD (List.map Stk.enc l) (Int.toNat (IntKind.wrap IntKind.i64 (n - (1 : Int)))) AV.bad = Stk.enc (List.getD l (Int.toNat (IntKind.wrap IntKind.i64 (n - (1 : Int)))) default), decide ((0 : Int) < n) = true, decide ((0 : Int) < n) = true, decide ((0 : Int) < n) = true, decide ((0 : Int) < n) = true, ((↑(List.length (List.map Idd.enc (Stk.l (List.getD l (Int.toNat (IntKind.wrap IntKind.i64 (n - (1 : Int)))) default)))) : Int) == (0 : Int)) = false]) (ans' := []) (base 40 0) cxA_K.1 cxA_K.2 _ (by kernel_rfl)  (allp g0 (allp g0 (allp g0 (allp g0 (allp g1 (allp g2 (allp g0 (allp g0 (allp g0 (allp g0 (allp g3 allp_nil)))))))))))
theorem shl_2 (c : Option Nat) (l : List Stk) (n : Int) (g0 : decide ((0 : Int) < n) = false) : Tri Try.prog (cxN 40 0) (loopBody Try.f71 0) ([(0, bsl c l), (3, it n)] ) (Ex.exit 0) ([(0, bsl c l), (3, it n), (18, bb false)]) :=
  evA_ok (H := h71) (ans := [.c, .c, .c, .b false, .c, .b false, .c, .b false, .c, .b false, .c, .b false, .c, .b false, .c, .b false, .c, .b false, .c, .c]) (ps := [decide ((0 : Int) < n) = false, decide ((0 : Int) < n) = false, decide ((0 : Int) < n) = false, decide ((0 : Int) < n) = false, decide ((0 : Int) < n) = false, decide ((0 : Int) < n) = false, decide ((0 : Int) < n) = false, decide ((0 : Int) < n) = false]) (ans' := []) (base 40 0) cxA_K.1 cxA_K.2 _ (by kernel_rfl)  (allp g0 (allp g0 (allp g0 (allp g0 (allp g0 (allp g0 (allp g0 (allp g0 allp_nil))))))))
def OW (l : List Idd) : AV := .sl .own 30 (some l.length) (l.map Idd.enc)
theorem shm_0 (c co : Option Nat) (l : List Stk) (o : List (List Idd)) (n i : Int) (hl : (Stk.l (List.getD l (Int.toNat i) default)).length ≤ 4294967296) (g0 : decide (i < n) = true) (g1 : decide ((0 : Int) ≤ i ∧ i < (↑(List.length (List.map Stk.enc l)) : Int)) = true) (g2 : List.getD (List.map Stk.enc l) (Int.toNat i) AV.bad = Stk.enc (List.getD l (Int.toNat i) default)) (g3 : decide ((0 : Int) ≤ i ∧ i < (↑(List.length (List.map OW o)) : Int)) = true) (g4 : decide (Int.toNat i < List.length (List.map OW o)) = true) (g5 : List.getD (List.map OW o) (Int.toNat i) AV.bad = OW (List.getD o (Int.toNat i) default)) : Tri Try.prog (cxN 40 0) (loopBody Try.f71 1) ([(0, bsl c l), (4, .sl .own 62 co (o.map OW)), (26, it n), (27, it i)] ) (Ex.normal) ([(0, bsl c l), (4, AV.sl Mode.own 62 co (List.set (List.map OW o) (Int.toNat i) (setE (List.getD (List.map OW o) (Int.toNat i) AV.bad) (0 : Nat) [AV.sl Mode.own 30 (some (List.length (Stk.l (List.getD l (Int.toNat i) default)))) (List.map Idd.enc (Stk.l (List.getD l (Int.toNat i) default)))]))), (26, it n), (27, it (IntKind.wrap IntKind.i64 (i + (1 : Int))))]) :=
  evA_ok (H := h71) (ans := [.c, .b true, .c, .c, .c, .c, .c, .c, .b true, .r (Stk.enc (List.getD l (Int.toNat i) default)), .c, .c, .r (AV.sl Mode.any 30 (Stk.c (List.getD l (Int.toNat i) default)) (List.map Idd.enc (Stk.l (List.getD l (Int.toNat i) default)))), .r (AV.sl Mode.own 30 (some (List.length (Stk.l (List.getD l (Int.toNat i) default)))) (List.map Idd.enc (Stk.l (List.getD l (Int.toNat i) default)))), .c, .c, .b true, .c, .b true, .r (OW (List.getD o (Int.toNat i) default)), .c, .c, .c]) (ps := [decide (i < n) = true, decide ((0 : Int) ≤ i ∧ i < (↑(List.length (List.map Stk.enc l)) : Int)) = true, List.getD (List.map Stk.enc l) (Int.toNat i) AV.bad = Stk.enc (List.getD l (Int.toNat i) default), view (AV.sl Mode.any 30 (Stk.c (List.getD l (Int.toNat i) default)) (List.map Idd.enc (Stk.l (List.getD l (Int.toNat i) default)))) = AV.sl Mode.any 30 (Stk.c (List.getD l (Int.toNat i) default)) (List.map Idd.enc (Stk.l (List.getD l (Int.toNat i) default))), PureC Try.prog 57 [AV.sl Mode.any 30 (Stk.c (List.getD l (Int.toNat i) default)) (List.map Idd.enc (Stk.l (List.getD l (Int.toNat i) default)))] (AV.sl Mode.own 30 (some (List.length (Stk.l (List.getD l (Int.toNat i) default)))) (List.map Idd.enc (Stk.l (List.getD l (Int.toNat i) default)))), decide ((0 : Int) ≤ i ∧ i < (↑(List.length (List.map OW o)) : Int)) = true, decide (Int.toNat i < List.length (List.map OW o)) = true, List.getD (List.map OW o) (Int.toNat i) AV.bad = OW (List.getD o (Int.toNat i) default)]) (ans' := []) (base 40 0) cxA_K.1 cxA_K.2 _ (by kernel_rfl)  (allp g0 (allp g1 (allp g2 (allp (by first | exact view_ps _ _ _ | exact view_u8 _ _ _ | rfl | exact view_yn _ _ _ _ _ _ _ | exact view_id _ _ _ | exact view_stk _ _ _ | exact view_beds _ _ _ _ _ _ | exact view_pt _ _ _) (allp (by apply frs_c <;> (first | assumption | rfl | (simp at * <;> omega))) (allp g3 (allp g4 (allp g5 allp_nil))))))))
theorem shm_1 (c co : Option Nat) (l : List Stk) (o : List (List Idd)) (n i : Int) (hl : (Stk.l (List.getD l (Int.toNat i) default)).length ≤ 4294967296) (g0 : decide (i < n) = false) : Tri Try.prog (cxN 40 0) (loopBody Try.f71 1) ([(0, bsl c l), (4, .sl .own 62 co (o.map OW)), (26, it n), (27, it i)] ) (Ex.exit 2) ([(0, bsl c l), (4, AV.sl Mode.own 62 co (List.map OW o)), (26, it n), (27, it i), (28, bb (decide (i < n)))]) :=
  evA_ok (H := h71) (ans := [.c, .b false]) (ps := [decide (i < n) = false]) (ans' := []) (base 40 0) cxA_K.1 cxA_K.2 _ (by kernel_rfl)  (allp g0 allp_nil)
end Tst
end

section
open Go Go.Lf Go.Proofs
namespace Tst
theorem stackOf_len {a : List Stk} (h : ∀ s ∈ a, s.l.length ≤ 4294967296) (i : Int) (h0 : 0 ≤ i) : (stackOf a i).length ≤ 4294967296 := by
  unfold stackOf
  split
  · have hl : i.toNat < a.length := by omega
    exact h _ (by rw [List.getD_eq_getElem?_getD, List.getElem?_eq_getElem hl]; exact List.getElem_mem hl)
  · simp
def trimL (l : List Stk) : Nat → Nat
  | 0 => 0
  | n + 1 => if (l.getD n default).l.length = 0 then trimL l n else n + 1
theorem trimL_le (l : List Stk) : ∀ n, trimL l n ≤ n
  | 0 => Nat.le_refl _
  | n + 1 => by
    unfold trimL
    split
    · have := trimL_le l n; omega
    · omega
theorem sh_rnd (c : Option Nat) (l : List Stk) (hA : l.length < 2 ^ 62) : ∀ (n : Nat), n ≤ l.length →
    Rnd Try.prog (cxN 40 0) (loopBody Try.f71 0) (n + 1) [(0, bsl c l), (3, it n)] (.exit 0) [(0, bsl c l), (3, it (trimL l n))] := by
  intro n
  induction n with
  | zero =>
    intro _
    exact Rnd.exit (Tri.after [(0, .keep), (3, .keep)] (shl_2 c l 0 (by decide))) (by simp)
  | succ n ih =>
    intro hn
    have hw : IntKind.wrap IntKind.i64 (((n + 1 : Nat) : Int) - 1) = (n : Int) := by rw [wrap_id' (by omega) (by omega)]; omega
    have g1 : decide ((0 : Int) ≤ IntKind.wrap IntKind.i64 (((n + 1 : Nat) : Int) - (1 : Int)) ∧ IntKind.wrap IntKind.i64 (((n + 1 : Nat) : Int) - (1 : Int)) < (((List.length (List.map Stk.enc l) : Nat)) : Int)) = true := by rw [hw]; simp; omega
    have g2 : List.getD (List.map Stk.enc l) (Int.toNat (IntKind.wrap IntKind.i64 (((n + 1 : Nat) : Int) - (1 : Int)))) AV.bad = Stk.enc (List.getD l (Int.toNat (IntKind.wrap IntKind.i64 (((n + 1 : Nat) : Int) - (1 : Int)))) default) := by rw [hw]; exact getD_stk (by omega)
    by_cases h : (l.getD n default).l.length = 0
    · have h1 := shl_0 c l ((n + 1 : Nat) : Int) (decide_eq_true (by omega)) g1 g2 (by rw [hw, Int.toNat_natCast, List.length_map, h]; rfl)
      rw [hw] at h1
      have e : trimL l (n + 1) = trimL l n := by rw [trimL, if_pos h]
      rw [e]
      exact Rnd.step h1 (ih (by omega))
    · have h1 := shl_1 c l ((n + 1 : Nat) : Int) (decide_eq_true (by omega)) g1 g2 (by rw [hw, Int.toNat_natCast, List.length_map]; simpa using h)
      have e : trimL l (n + 1) = n + 1 := by rw [trimL, if_neg h]
      rw [e]
      exact Rnd.exit (Tri.after [(0, .keep), (3, .keep)] h1) (by simp)
theorem sh_loop (c : Option Nat) (l : List Stk) (hA : l.length < 2 ^ 62) : Tri Try.prog (cxN 40 0) (.loop (loopBody Try.f71 0)) [(0, bsl c l), (3, it ((List.length (List.map Stk.enc l) : Nat) : Int))] (.exit 0) [(0, bsl c l), (3, it (trimL l l.length))] := by
  rw [List.length_map]
  exact Rnd.loop (sh_rnd c l hA l.length (Nat.le_refl _))
theorem getD_ow {o : List (List Idd)} {i : Nat} (h : i < o.length) : (o.map OW).getD i .bad = OW (o.getD i default) := by
  simp [List.getD_eq_getElem?_getD, h]
theorem set_ow (o : List (List Idd)) (i : Nat) (l : List Idd) (h : i < o.length) : List.set (List.map OW o) i (setE (List.getD (List.map OW o) i AV.bad) 0 [AV.sl Mode.own 30 (some l.length) (List.map Idd.enc l)]) = (o.set i l).map OW := by
  rw [getD_ow h, List.map_set]; rfl
theorem sc_rnd (c co : Option Nat) (l : List Stk) (N : Nat) (hN : N ≤ l.length) (hA : N < 2 ^ 62) (hl : ∀ s ∈ l, s.l.length ≤ 4294967296) : ∀ (k i : Nat), i + k = N →
    Rnd Try.prog (cxN 40 0) (loopBody Try.f71 1) (k + 1) [(0, bsl c l), (4, .sl .own 62 co (((l.take i).map Stk.l ++ List.replicate k []).map OW)), (26, it N), (27, it i)] (.exit 2) [(4, .sl .own 62 co (((l.take N).map Stk.l).map OW))] := by
  intro k
  induction k with
  | zero =>
    intro i hi
    have hi' : i = N := by omega
    subst hi'
    rw [List.replicate_zero, List.append_nil]
    exact Rnd.exit (Tri.after [(4, .keep)] (shm_1 c co l _ i i (by
      by_cases h : i < l.length
      · exact hl _ (by rw [Int.toNat_natCast, List.getD_eq_getElem?_getD, List.getElem?_eq_getElem h]; exact List.getElem_mem h)
      · rw [Int.toNat_natCast, List.getD_eq_getElem?_getD, List.getElem?_eq_none (by omega)]; exact Nat.zero_le _) (by simp))) (by simp)
  | succ k ih =>
    intro i hi
    have hlt : i < l.length := by omega
    have hol : i < ((l.take i).map Stk.l ++ List.replicate (k + 1) ([] : List Idd)).length := by simp; omega
    have hel : (Stk.l (List.getD l (Int.toNat (i : Int)) default)).length ≤ 4294967296 := hl _ (by rw [Int.toNat_natCast, List.getD_eq_getElem?_getD, List.getElem?_eq_getElem hlt]; exact List.getElem_mem hlt)
    have h1 := shm_0 c co l ((l.take i).map Stk.l ++ List.replicate (k + 1) []) N i hel (by simp; omega) (by simpa using hlt) (getD_stk hlt) (by simp only [List.length_map, decide_eq_true_eq]; exact ⟨by omega, by exact_mod_cast hol⟩) (by simp only [List.length_map, decide_eq_true_eq, Int.toNat_natCast]; exact hol) (getD_ow hol)
    rw [wrap_id' (by omega) (by omega)] at h1
    have e : List.set (List.map OW ((l.take i).map Stk.l ++ List.replicate (k + 1) [])) (Int.toNat (i : Int)) (setE (List.getD (List.map OW ((l.take i).map Stk.l ++ List.replicate (k + 1) [])) (Int.toNat (i : Int)) AV.bad) (0 : Nat) [AV.sl Mode.own 30 (some (List.length (Stk.l (List.getD l (Int.toNat (i : Int)) default)))) (List.map Idd.enc (Stk.l (List.getD l (Int.toNat (i : Int)) default)))]) = ((l.take (i + 1)).map Stk.l ++ List.replicate k []).map OW := by
      rw [Int.toNat_natCast, set_ow _ _ _ hol]
      congr 1
      have hlen : ((l.take i).map Stk.l).length = i := by simp; omega
      rw [List.set_append_right _ _ (by omega), hlen, Nat.sub_self, List.replicate_succ, List.set_cons_zero, List.take_succ_eq_append_getElem hlt, List.map_append, List.append_assoc]
      congr 1
      simp [List.getD_eq_getElem?_getD, hlt]
    rw [e] at h1
    exact Rnd.step h1 (ih (i + 1) (by omega))
end Tst
end

section
open Go Go.Lf Go.Proofs
namespace Tst
set_option maxHeartbeats 0
theorem shA_0 (c : Option Nat) (l : List Stk) (hA : l.length < 2 ^ 62) (x1 : ((((trimL l l.length) : Nat) : Int) == (0 : Int)) = true) (g0 : ((↑(trimL l (List.length l)) : Int) == (0 : Int)) = true) : PureC Try.prog 71 [bsl c l]  niln :=
  funA_ok (H := h71) (n := 40) (ans := [.c, .c, .c, .c, .lp (Ex.exit 0) [(0, bsl c l), (3, it (↑(trimL l (List.length l)) : Int))], .c, .c, .b true, .c]) (ps := [Tri Try.prog (cxN (40 : Nat) (0 : Nat)) (Code.loop (loopBody Try.f71 (0 : Nat))) [(0, bsl c l), (3, it (↑(List.length (List.map Stk.enc l)) : Int))] (Ex.exit 0) [(0, bsl c l), (3, it (↑(trimL l (List.length l)) : Int))], ((↑(trimL l (List.length l)) : Int) == (0 : Int)) = true]) (base 40 0) Try.func71 rfl (by simp) rfl (by kernel_rfl)  (allp (by first | (apply sh_loop <;> (first | assumption | rfl | (simp at * <;> omega))) | (refine Tri.weak [(0, .keep), (3, .keep)] ?_; apply sh_loop <;> (first | assumption | rfl | (simp at * <;> omega)))) (allp g0 allp_nil))
end Tst
end

section
open Go Go.Lf Go.Proofs
namespace Tst
abbrev ti62 : TInfo := { zero := [.slice none 0 0], bytes := 24, agg := false, kind := .slice 30 }
theorem sc_loop (c : Option Nat) (l : List Stk) (N : Nat) (hN : N ≤ l.length) (hA : N < 2 ^ 62) (hl : ∀ s ∈ l, s.l.length ≤ 4294967296) :
    Tri Try.prog (cxN 40 0) (.loop (loopBody Try.f71 1)) [(0, bsl c l), (4, .sl .own 62 (some (Int.toNat (N : Int))) (List.replicate (Int.toNat (N : Int)) (zeroEl ti62))), (26, it ((List.length (List.replicate (Int.toNat (N : Int)) (zeroEl ti62)) : Nat) : Int)), (27, it 0)] (.exit 2)
      [(4, .sl .own 62 (some N) (((l.take N).map Stk.l).map OW))] := by
  rw [List.length_replicate, Int.toNat_natCast]
  have h := Rnd.loop (sc_rnd c (some N) l N hN hA hl N 0 (by omega))
  rw [List.take_zero, List.map_nil, List.nil_append, List.map_replicate] at h
  refine Tri.more h ?_
  exact .cons ⟨rfl, rfl, Le.refl _⟩ (.cons ⟨rfl, rfl, Le.ownRep rfl rfl (Le.nilOwn 30) N⟩ (.cons ⟨rfl, rfl, Le.refl _⟩ (.cons ⟨rfl, rfl, Le.refl _⟩ .nil)))
end Tst
end

section
open Go Go.Lf Go.Proofs
namespace Tst
set_option maxHeartbeats 0
theorem shC_0 (c : Option Nat) (l : List Stk) (hA : l.length < 2 ^ 62) (hN : trimL l l.length ≤ l.length) (hB : trimL l l.length < 2 ^ 62) (hl : ∀ s ∈ l, s.l.length ≤ 4294967296) (x1 : ((((trimL l l.length) : Nat) : Int) == (0 : Int)) = false) (g0 : ((↑(trimL l (List.length l)) : Int) == (0 : Int)) = false) (g1 : decide ((0 : Int) ≤ (↑(trimL l (List.length l)) : Int) ∧ (↑(trimL l (List.length l)) : Int) ≤ (↑(trimL l (List.length l)) : Int) ∧ (↑(trimL l (List.length l)) : Int) ≤ (4294967296 : Int) ∧ TInfo.bytes { zero := [Value.slice none (0 : Nat) (0 : Nat)], bytes := (24 : Nat), agg := false, kind := TK.slice (30 : TypeId) } ≤ (4096 : Nat) ∧ (0 : Nat) < List.length (TInfo.zero ti62)) = true) : PureC Try.prog 71 [bsl c l]  (AV.sl Mode.own 62 (some (trimL l (List.length l))) (List.map OW (List.map Stk.l (List.take (trimL l (List.length l)) l)))) :=
  funA_ok (H := h71) (n := 40) (ans := [.c, .c, .c, .c, .lp (Ex.exit 0) [(0, bsl c l), (3, it (↑(trimL l (List.length l)) : Int))], .c, .c, .b false, .c, .b true, .c, .c, .c, .c, .c, .lp (Ex.exit 2) [(4, AV.sl Mode.own 62 (some (trimL l (List.length l))) (List.map OW (List.map Stk.l (List.take (trimL l (List.length l)) l))))], .c, .c]) (ps := [Tri Try.prog (cxN (40 : Nat) (0 : Nat)) (Code.loop (loopBody Try.f71 (0 : Nat))) [(0, bsl c l), (3, it (↑(List.length (List.map Stk.enc l)) : Int))] (Ex.exit 0) [(0, bsl c l), (3, it (↑(trimL l (List.length l)) : Int))], ((↑(trimL l (List.length l)) : Int) == (0 : Int)) = false, decide ((0 : Int) ≤ (↑(trimL l (List.length l)) : Int) ∧ (↑(trimL l (List.length l)) : Int) ≤ (↑(trimL l (List.length l)) : Int) ∧ (↑(trimL l (List.length l)) : Int) ≤ (4294967296 : Int) ∧ TInfo.bytes { zero := [Value.slice none (0 : Nat) (0 : Nat)], bytes := (24 : Nat), agg := false, kind := TK.slice (30 : TypeId) } ≤ (4096 : Nat) ∧ (0 : Nat) < List.length (TInfo.zero ti62)) = true, Tri Try.prog (cxN (40 : Nat) (0 : Nat)) (Code.loop (loopBody Try.f71 (1 : Nat))) [(0, bsl c l), (4, AV.sl Mode.own 62 (some (Int.toNat (↑(trimL l (List.length l)) : Int))) (List.replicate (Int.toNat (↑(trimL l (List.length l)) : Int)) (zeroEl { zero := [Value.slice none (0 : Nat) (0 : Nat)], bytes := (24 : Nat), agg := false, kind := TK.slice (30 : TypeId) }))), (26, it (↑(List.length (List.replicate (Int.toNat (↑(trimL l (List.length l)) : Int)) (zeroEl { zero := [Value.slice none (0 : Nat) (0 : Nat)], bytes := (24 : Nat), agg := false, kind := TK.slice (30 : TypeId) }))) : Int)), (27, it 0)] (Ex.exit 2) [(4, AV.sl Mode.own 62 (some (trimL l (List.length l))) (List.map OW (List.map Stk.l (List.take (trimL l (List.length l)) l))))]]) (base 40 0) Try.func71 rfl (by simp) rfl (by kernel_rfl)  (allp (by first | (apply sh_loop <;> (first | assumption | rfl | (simp at * <;> omega))) | (refine Tri.weak [(0, .keep), (3, .keep)] ?_; apply sh_loop <;> (first | assumption | rfl | (simp at * <;> omega))) | (apply sc_loop <;> (first | assumption | rfl | (simp at * <;> omega))) | (refine Tri.weak [(0, .keep), (4, .keep), (26, .keep), (27, .keep)] ?_; apply sc_loop <;> (first | assumption | rfl | (simp at * <;> omega)))) (allp g0 (allp g1 (allp (by first | (apply sh_loop <;> (first | assumption | rfl | (simp at * <;> omega))) | (refine Tri.weak [(0, .keep), (3, .keep)] ?_; apply sh_loop <;> (first | assumption | rfl | (simp at * <;> omega))) | (apply sc_loop <;> (first | assumption | rfl | (simp at * <;> omega))) | (refine Tri.weak [(0, .keep), (4, .keep), (26, .keep), (27, .keep)] ?_; apply sc_loop <;> (first | assumption | rfl | (simp at * <;> omega)))) allp_nil))))
end Tst
end

section
open Go Go.Lf Go.Proofs
namespace Tst
structure Pt where
  a : Int
  m : Int
  deriving Inhabited
def Pt.enc (p : Pt) : AV := .agg [ub p.a, ub p.m]
theorem view_pt (m : Lf.Mode) (c : Option Nat) (l : List Pt) : view (.sl m 87 c (l.map Pt.enc)) = .sl .any 87 c (l.map Pt.enc) := by
  show AV.sl .any 87 c ((l.map Pt.enc).map _) = _
  rw [List.map_map]; rfl
end Tst
end

section
open Go Go.Lf Go.Proofs
namespace Tst
set_option maxHeartbeats 0
end Tst
end

section
open Go Go.Lf Go.Proofs
namespace Tst
def idAt (n : Nat) : Idd := ⟨((1 + n % 3 : Nat) : Int), ((n / 3 : Nat) : Int)⟩
end Tst
end

section
open Go Go.Lf Go.Proofs
namespace Tst
set_option maxHeartbeats 0
end Tst
end

section
open Go Go.Lf Go.Proofs
namespace Tst
end Tst
end

section
open Go Go.Lf Go.Proofs
namespace Tst
set_option maxHeartbeats 0
theorem atF_0 (d i : Int) (cf cb : Option Nat) (f b : List Stk) (x1 : ((if ndV d i = true then (0 : Int) else (1 : Int)) != (0 : Int)) = true) (g0 : ((if ndV d i = true then (0 : Int) else (1 : Int)) != (0 : Int)) = true) : PureC Try.prog 33 [beds (bsl cf f) (bsl cb b), ndl d i]  niln :=
  funA_ok (H := h33) (n := 17) (ans := [.c, .c, .c, .c, .r (it (if ndV d i = true then (0 : Int) else (1 : Int))), .c, .c, .c, .b true, .c]) (ps := [PureC Try.prog 56 [AV.agg [ub d, it i]] (it (if ndV d i = true then (0 : Int) else (1 : Int))), ((if ndV d i = true then (0 : Int) else (1 : Int)) != (0 : Int)) = true]) (base 17 0) Try.func33 rfl (by simp) rfl (by kernel_rfl)  (allp (by apply nck_c <;> (first | assumption | rfl | (simp at * <;> omega))) (allp g0 allp_nil))
end Tst
end

section
open Go Go.Lf Go.Proofs
namespace Tst
def atV (d i : Int) (f b : List Stk) : AV := if ndV d i = true then OW (stackOf (if d == 0 then f else b) (i - 1)) else .atom (.slice none 0 0)
theorem ndlAt_c (d i : Int) (cf cb : Option Nat) (f b : List Stk) (hf : ∀ s ∈ f, s.l.length ≤ 4294967296) (hb : ∀ s ∈ b, s.l.length ≤ 4294967296) : PureC Try.prog 33 [beds (bsl cf f) (bsl cb b), ndl d i] (atV d i f b) := by
  unfold atV
  cases h : ndV d i with
  | false => rw [if_neg (by simp)]; exact atF_0 d i cf cb f b (by rw [h]; rfl) (by rw [h]; rfl)
  | true =>
    have hr : 1 ≤ i ∧ i ≤ 40 := by
      have h' := h
      simp only [ndV, Bool.and_eq_true, Bool.not_eq_true', decide_eq_false_iff_not] at h'
      omega
    rw [if_pos rfl]
    have h1 := at'_1 d i cf cb f b
    rw [wrap_id' (by omega) (by omega)] at h1
    refine h1 (fun _ => by omega) ?_ (by omega) (by rw [h]; rfl)
    split
    · exact stackOf_len hf _ (by omega)
    · exact stackOf_len hb _ (by omega)
def shV (l : List Stk) : AV := if trimL l l.length = 0 then .atom (.slice none 0 0) else .sl .own 62 (some (trimL l l.length)) (((l.take (trimL l l.length)).map Stk.l).map OW)
theorem short_c (c : Option Nat) (l : List Stk) (hA : l.length ≤ 4294967296) (hl : ∀ s ∈ l, s.l.length ≤ 4294967296) : PureC Try.prog 71 [bsl c l] (shV l) := by
  have hN := trimL_le l l.length
  unfold shV
  by_cases h : trimL l l.length = 0
  · rw [if_pos h]; exact shA_0 c l (by omega) (by rw [h]; rfl) (by rw [h]; rfl)
  · rw [if_neg h]
    have h0 : ((((trimL l l.length) : Nat) : Int) == (0 : Int)) = false := by rw [beq_eq_false_iff_ne]; omega
    exact shC_0 c l (by omega) hN (by omega) hl h0 h0 (by simp; omega)
end Tst
end

section
open Go Go.Lf Go.Proofs
namespace Tst
set_option maxHeartbeats 0
end Tst
end

section
open Go Go.Lf Go.Proofs
namespace Tst
set_option maxHeartbeats 0
end Tst
end

section
open Go Go.Lf Go.Proofs
namespace Tst
set_option maxHeartbeats 0
def SH (l : List Idd) : AV := .sl .any 30 none (l.map Idd.enc)
end Tst
end

section
open Go Go.Lf Go.Proofs
namespace Tst
theorem env3 {zs x x' y y' : AV} {t : Int} {bs ys : List AV} (h : Le Try.prog x x') (h' : Le Try.prog y y') :
    EnvLe Try.prog [(1, .box bs), (2, .box ys), (3, .box [x, y]), (4, it t)] [(1, .box bs), (2, .box ys), (3, .box [x', y']), (4, it t)] :=
  .cons ⟨rfl, rfl, Le.refl _⟩ (.cons ⟨rfl, rfl, Le.refl _⟩ (.cons ⟨rfl, rfl, Le.box (.cons h (.cons h' .nil))⟩ (.cons ⟨rfl, rfl, Le.refl _⟩ .nil)))
end Tst
end

section
open Go Go.Lf Go.Proofs
namespace Tst
theorem all_enc (l : List Idd) : (True ∧ (List.all (l.map Idd.enc) fun y => List.all (AV.ecells y) plainA) = true ∧ (List.all (l.map Idd.enc) fun y => decide (List.length (AV.ecells y) = 1 + 1)) = true) := by
  refine ⟨trivial, ?_, ?_⟩
  · rw [List.all_map, List.all_eq_true]; intro x _; rfl
  · rw [List.all_map, List.all_eq_true]; intro x _; rfl
end Tst
end

section
open Go Go.Lf Go.Proofs
namespace Tst
end Tst
end

section
open Go Go.Lf Go.Proofs
namespace Tst
set_option maxHeartbeats 0
def FN (l : List Idd) : AV := .sl .fresh 30 none (l.map Idd.enc)
theorem map_re (k : Nat) (l : List Idd) : (l.map Idd.enc).map (mapE (remode shareM (k + 1))) = l.map Idd.enc := by
  rw [List.map_map]; rfl
end Tst
end

section
open Go Go.Lf Go.Proofs
namespace Tst
set_option maxHeartbeats 0
end Tst
end

section
open Go Go.Lf Go.Proofs
namespace Tst
set_option maxHeartbeats 0
def ndB (i : Int) : Int := IntKind.wrap IntKind.u8 (Int.tdiv (Int.tmod i (80 : Int)) (40 : Int))
def stkAt (d i : Int) (f b : List Stk) : List Idd := stackOf (if d == 0 then f else b) (i - 1)
theorem ndlAt_v (d i : Int) (cf cb : Option Nat) (f b : List Stk) (h : ndV d i = true) (hf : ∀ s ∈ f, s.l.length ≤ 4294967296) (hb : ∀ s ∈ b, s.l.length ≤ 4294967296) :
    PureC Try.prog 33 [beds (bsl cf f) (bsl cb b), ndl d i] (.sl .own 30 (some (stkAt d i f b).length) ((stkAt d i f b).map Idd.enc)) := by
  have h1 := ndlAt_c d i cf cb f b hf hb
  unfold atV at h1
  rw [if_pos h] at h1
  exact h1
end Tst
end

section
open Go Go.Lf Go.Proofs
namespace Tst
def stkN (f b : List Stk) (i : Nat) : List Idd := stackOf (if i < 40 then f else b) ((i % 40 : Nat) : Int)
end Tst
end

section
open Go Go.Lf Go.Proofs
namespace Tst
set_option maxHeartbeats 0
end Tst
end

section
open Go Go.Lf Go.Proofs
namespace Tst
set_option maxHeartbeats 0
end Tst
end

section
open Go Go.Lf Go.Proofs
namespace Tst
set_option maxHeartbeats 0
end Tst
end

section
open Go Go.Lf Go.Proofs
namespace Tst
end Tst
end

section
open Go Go.Lf Go.Proofs
namespace Tst
set_option maxHeartbeats 0
def ixF (a : List Idd) (p : Idd) : Nat → Nat → Option Nat
  | 0, _ => none
  | k + 1, i => if p = a.getD i default then some i else ixF a p k (i + 1)
theorem ix_some (ca : Option Nat) (a : List Idd) (p : Idd) (hA : a.length < 2 ^ 62) (j : Nat) : ∀ (k i : Nat), i + k = a.length → ixF a p k i = some j →
    Rnd Try.prog (cxN 19 0) (loopBody Try.f70 0) (k + 1) [(0, isl ca a), (3, .box [ub p.y, it p.n]), (7, it (((a.map Idd.enc).length : Nat) : Int)), (8, it i)] .ret [(4, it j)] := by
  intro k
  induction k with
  | zero => intro i _ h; cases h
  | succ k ih =>
    intro i hi h
    have hlt : i < a.length := by omega
    obtain ⟨s1, s2, s3⟩ := scan0 hlt
    rw [ixF] at h
    by_cases e : p = a.getD i default
    · rw [if_pos e] at h; injection h with h; subst h
      exact Rnd.exit (ixl_0 ca a p _ i s1 s2 s3 (by rw [id_beq]; simp only [Int.toNat_natCast]; simpa using e)) (by simp)
    · rw [if_neg e] at h
      have h1 := ixl_1 ca a p _ i s1 s2 s3 (by rw [id_beq]; simp only [Int.toNat_natCast]; simpa using e)
      rw [wrap_id' (by omega) (by omega)] at h1
      exact Rnd.step h1 (ih (i + 1) (by omega) h)
theorem ix_none (ca : Option Nat) (a : List Idd) (p : Idd) (hA : a.length < 2 ^ 62) : ∀ (k i : Nat), i + k = a.length → ixF a p k i = none →
    Rnd Try.prog (cxN 19 0) (loopBody Try.f70 0) (k + 1) [(0, isl ca a), (3, .box [ub p.y, it p.n]), (7, it (((a.map Idd.enc).length : Nat) : Int)), (8, it i)] (.exit 0) [] := by
  intro k
  induction k with
  | zero =>
    intro i hi _
    exact Rnd.exit (Tri.after [] (ixl_2 ca a p _ i (decide_eq_false (by rw [List.length_map]; omega)))) (by simp)
  | succ k ih =>
    intro i hi h
    have hlt : i < a.length := by omega
    obtain ⟨s1, s2, s3⟩ := scan0 hlt
    rw [ixF] at h
    by_cases e : p = a.getD i default
    · rw [if_pos e] at h; cases h
    · rw [if_neg e] at h
      have h1 := ixl_1 ca a p _ i s1 s2 s3 (by rw [id_beq]; simp only [Int.toNat_natCast]; simpa using e)
      rw [wrap_id' (by omega) (by omega)] at h1
      exact Rnd.step h1 (ih (i + 1) (by omega) h)
theorem ixS (ca : Option Nat) (a : List Idd) (p : Idd) (hA : a.length < 2 ^ 62) (j : Nat) (h : ixF a p a.length 0 = some j) :
    Tri Try.prog (cxN 19 0) (.loop (loopBody Try.f70 0)) [(0, isl ca a), (3, .box [ub p.y, it p.n]), (7, it (((a.map Idd.enc).length : Nat) : Int)), (8, it 0)] .ret [(4, it j)] := Rnd.loop (ix_some ca a p hA j a.length 0 (by omega) h)
theorem ixN (ca : Option Nat) (a : List Idd) (p : Idd) (hA : a.length < 2 ^ 62) (h : ixF a p a.length 0 = none) :
    Tri Try.prog (cxN 19 0) (.loop (loopBody Try.f70 0)) [(0, isl ca a), (3, .box [ub p.y, it p.n]), (7, it (((a.map Idd.enc).length : Nat) : Int)), (8, it 0)] (.exit 0) [] := Rnd.loop (ix_none ca a p hA a.length 0 (by omega) h)
theorem ixA_0 (ca : Option Nat) (a : List Idd) (p : Idd) (hA : a.length < 2 ^ 62) (j : Nat) (h : ixF a p a.length 0 = some j) : PureC Try.prog 70 [isl ca a, .agg [ub p.y, it p.n]]  (it (↑j : Int)) :=
  funA_ok (H := h70) (n := 19) (ans := [.c, .c, .c, .c, .c, .lp Ex.ret [(4, it (↑j : Int))]]) (ps := [Tri Try.prog (cxN (19 : Nat) (0 : Nat)) (Code.loop (loopBody Try.f70 (0 : Nat))) [(0, AV.sl Mode.any 30 ca (List.map Idd.enc a)), (3, AV.box [ub (Idd.y p), it (Idd.n p)]), (7, it (↑(List.length (List.map Idd.enc a)) : Int)), (8, it 0)] Ex.ret [(4, it (↑j : Int))]]) (base 19 0) Try.func70 rfl (by simp) rfl (by kernel_rfl)  (allp (by first | (apply ixS <;> (first | assumption | rfl | (simp at * <;> omega))) | (refine Tri.weak [(0, .keep), (3, .keep), (7, .keep), (8, .keep)] ?_; apply ixS <;> (first | assumption | rfl | (simp at * <;> omega)))) allp_nil)
theorem ixB_0 (ca : Option Nat) (a : List Idd) (p : Idd) (hA : a.length < 2 ^ 62) (h : ixF a p a.length 0 = none) : PureC Try.prog 70 [isl ca a, .agg [ub p.y, it p.n]]  (it (-1)) :=
  funA_ok (H := h70) (n := 19) (ans := [.c, .c, .c, .c, .c, .lp (Ex.exit 0) [], .c]) (ps := [Tri Try.prog (cxN (19 : Nat) (0 : Nat)) (Code.loop (loopBody Try.f70 (0 : Nat))) [(0, AV.sl Mode.any 30 ca (List.map Idd.enc a)), (3, AV.box [ub (Idd.y p), it (Idd.n p)]), (7, it (↑(List.length (List.map Idd.enc a)) : Int)), (8, it 0)] (Ex.exit 0) []]) (base 19 0) Try.func70 rfl (by simp) rfl (by kernel_rfl)  (allp (by first | (apply ixN <;> (first | assumption | rfl | (simp at * <;> omega))) | (refine Tri.weak [(0, .keep), (3, .keep), (7, .keep), (8, .keep)] ?_; apply ixN <;> (first | assumption | rfl | (simp at * <;> omega)))) allp_nil)
end Tst
end

section
open Go Go.Lf Go.Proofs
namespace Tst
set_option maxHeartbeats 0
def ixV (a : List Idd) (p : Idd) : Int := match ixF a p a.length 0 with
  | some j => (j : Int)
  | none => -1
theorem ix_c (ca : Option Nat) (a : List Idd) (p : Idd) (hA : a.length < 2 ^ 62) : PureC Try.prog 70 [isl ca a, .agg [ub p.y, it p.n]] (it (ixV a p)) := by
  unfold ixV
  cases h : ixF a p a.length 0 with
  | some j => exact ixA_0 ca a p hA j h
  | none => exact ixB_0 ca a p hA h
theorem cnt_0 (ca : Option Nat) (a : List Idd) (p : Idd) (hA : a.length < 2 ^ 62) : PureC Try.prog 61 [isl ca a, .agg [ub p.y, it p.n]]  (bb (decide ((0 : Int) ≤ ixV a p))) :=
  funA_ok (H := h61) (n := 9) (ans := [.c, .c, .c, .c, .r (AV.sl Mode.any 30 ca (List.map Idd.enc a)), .r (it (ixV a p)), .c, .c, .c, .c]) (ps := [view (AV.sl Mode.any 30 ca (List.map Idd.enc a)) = AV.sl Mode.any 30 ca (List.map Idd.enc a), PureC Try.prog 70 [AV.sl Mode.any 30 ca (List.map Idd.enc a), Idd.enc p] (it (ixV a p))]) (base 9 0) Try.func61 rfl (by simp) rfl (by kernel_rfl)  (allp (by first | exact view_ps _ _ _ | exact view_u8 _ _ _ | rfl | exact view_yn _ _ _ _ _ _ _ | exact view_id _ _ _ | exact view_stk _ _ _ | exact view_beds _ _ _ _ _ _ | exact view_pt _ _ _) (allp (by apply ix_c <;> (first | assumption | rfl | (simp at * <;> omega))) allp_nil))
theorem ixF_mem (a : List Idd) (p : Idd) : ∀ (k i : Nat), i + k = a.length → ((ixF a p k i).isSome = true ↔ p ∈ a.drop i)
  | 0, i, h => by rw [List.drop_of_length_le (by omega)]; simp [ixF]
  | k + 1, i, h => by
    have hlt : i < a.length := by omega
    have e : a.getD i default = a[i] := by rw [List.getD_eq_getElem?_getD, List.getElem?_eq_getElem hlt]; rfl
    rw [ixF, e, List.drop_eq_getElem_cons hlt, List.mem_cons]
    by_cases hp : p = a[i]
    · rw [if_pos hp]; simp [hp]
    · rw [if_neg hp, ixF_mem a p k (i + 1) (by omega)]
      simp [hp]
theorem cnt_c (ca : Option Nat) (a : List Idd) (p : Idd) (hA : a.length < 2 ^ 62) : PureC Try.prog 61 [isl ca a, .agg [ub p.y, it p.n]] (bb (decide (p ∈ a))) := by
  have h := cnt_0 ca a p hA
  have e : decide ((0 : Int) ≤ ixV a p) = decide (p ∈ a) := by
    have hm := ixF_mem a p a.length 0 (by omega)
    rw [List.drop_zero] at hm
    unfold ixV
    cases hx : ixF a p a.length 0 with
    | some j => rw [hx] at hm; rw [decide_eq_decide]; simp only [Option.isSome_some, true_iff] at hm; exact ⟨fun _ => hm, fun _ => by simp only; omega⟩
    | none => rw [hx] at hm; rw [decide_eq_decide]; exact ⟨fun h => absurd h (by decide), fun h => by have := hm.2 h; simp at this⟩
  rw [← e]; exact h
end Tst
end

section
open Go Go.Lf Go.Proofs
namespace Tst
abbrev nilp : AV := .atom (.slice none 0 0)
theorem grwI_0 (n : Int) (h0 : 0 ≤ n) (hn : n ≤ 4294967296) (g0 : decide (n < (0 : Int)) = false) (g1 : decide ((0 : Int) < IntKind.wrap IntKind.i64 (n - IntKind.wrap IntKind.i64 ((↑(0 : Nat) : Int) - (↑((0 : Nat)) : Int)))) = true) (g2 : decide ((0 : Int) ≤ IntKind.wrap IntKind.i64 (n - IntKind.wrap IntKind.i64 ((↑(0 : Nat) : Int) - (↑((0 : Nat)) : Int))) ∧ IntKind.wrap IntKind.i64 (n - IntKind.wrap IntKind.i64 ((↑(0 : Nat) : Int) - (↑((0 : Nat)) : Int))) ≤ (4294967296 : Int)) = true) (g3 : decide (List.length (List.replicate (Int.toNat (IntKind.wrap IntKind.i64 (n - IntKind.wrap IntKind.i64 ((↑(0 : Nat) : Int) - (↑((0 : Nat)) : Int))))) (zeroEl { zero := [Value.int IntKind.u8 (0 : Int), Value.int IntKind.i64 (0 : Int)], bytes := (16 : Nat), agg := true, kind := TK.struct [((0 : Nat), (1 : Nat)), ((1 : Nat), (1 : Nat))] })) ≤ (4294967296 : Nat)) = true) (g4 : AV.sl Mode.own 30 (if (0 : Nat) + List.length (List.replicate (Int.toNat (IntKind.wrap IntKind.i64 (n - IntKind.wrap IntKind.i64 ((↑(0 : Nat) : Int) - (↑((0 : Nat)) : Int))))) (zeroEl { zero := [Value.int IntKind.u8 (0 : Int), Value.int IntKind.i64 (0 : Int)], bytes := (16 : Nat), agg := true, kind := TK.struct [((0 : Nat), (1 : Nat)), ((1 : Nat), (1 : Nat))] })) ≤ (0 : Nat) then some (0 : Nat) else none) ([] ++ List.replicate (Int.toNat (IntKind.wrap IntKind.i64 (n - IntKind.wrap IntKind.i64 ((↑(0 : Nat) : Int) - (↑((0 : Nat)) : Int))))) (zeroEl { zero := [Value.int IntKind.u8 (0 : Int), Value.int IntKind.i64 (0 : Int)], bytes := (16 : Nat), agg := true, kind := TK.struct [((0 : Nat), (1 : Nat)), ((1 : Nat), (1 : Nat))] })) = AV.sl Mode.own 30 (if (0 : Nat) + List.length (List.replicate (Int.toNat (IntKind.wrap IntKind.i64 (n - IntKind.wrap IntKind.i64 ((↑(0 : Nat) : Int) - (↑((0 : Nat)) : Int))))) (zeroEl { zero := [Value.int IntKind.u8 (0 : Int), Value.int IntKind.i64 (0 : Int)], bytes := (16 : Nat), agg := true, kind := TK.struct [((0 : Nat), (1 : Nat)), ((1 : Nat), (1 : Nat))] })) ≤ (0 : Nat) then some (0 : Nat) else none) (List.map Idd.enc ([] ++ List.replicate (Int.toNat (IntKind.wrap IntKind.i64 (n - IntKind.wrap IntKind.i64 ((↑(0 : Nat) : Int) - (↑((0 : Nat)) : Int))))) { y := (0 : Int), n := (0 : Int) }))) : PureC Try.prog 73 [nilp, it n]  (AV.sl Mode.own 30 (if (0 : Nat) + List.length (List.replicate (Int.toNat (IntKind.wrap IntKind.i64 (n - IntKind.wrap IntKind.i64 ((↑(0 : Nat) : Int) - (↑((0 : Nat)) : Int))))) (zeroEl { zero := [Value.int IntKind.u8 (0 : Int), Value.int IntKind.i64 (0 : Int)], bytes := (16 : Nat), agg := true, kind := TK.struct [((0 : Nat), (1 : Nat)), ((1 : Nat), (1 : Nat))] })) ≤ (0 : Nat) then some (0 : Nat) else none) []) :=
  funA_ok (H := h73) (n := 27) (ans := [Ans.c, Ans.c, Ans.c, Ans.b false, Ans.c, Ans.c, Ans.c, Ans.c, Ans.c, Ans.c, Ans.c, Ans.c, Ans.c, Ans.c, Ans.b true, Ans.c, Ans.c, Ans.c, Ans.c, Ans.c, Ans.c, Ans.c, Ans.b true, Ans.b true, Ans.r (AV.sl Mode.own 30 (if (0 : Nat) + List.length (List.replicate (Int.toNat (IntKind.wrap IntKind.i64 (n - IntKind.wrap IntKind.i64 ((↑(0 : Nat) : Int) - (↑((0 : Nat)) : Int))))) (zeroEl { zero := [Value.int IntKind.u8 (0 : Int), Value.int IntKind.i64 (0 : Int)], bytes := (16 : Nat), agg := true, kind := TK.struct [((0 : Nat), (1 : Nat)), ((1 : Nat), (1 : Nat))] })) ≤ (0 : Nat) then some (0 : Nat) else none) (List.map Idd.enc ([] ++ List.replicate (Int.toNat (IntKind.wrap IntKind.i64 (n - IntKind.wrap IntKind.i64 ((↑(0 : Nat) : Int) - (↑((0 : Nat)) : Int))))) { y := (0 : Int), n := (0 : Int) }))), Ans.c, Ans.c, Ans.c, Ans.c, Ans.c, Ans.c, Ans.c, Ans.c]) (ps := [decide (n < (0 : Int)) = false, decide ((0 : Int) < IntKind.wrap IntKind.i64 (n - IntKind.wrap IntKind.i64 ((↑(0 : Nat) : Int) - (↑((0 : Nat)) : Int)))) = true, decide ((0 : Int) ≤ IntKind.wrap IntKind.i64 (n - IntKind.wrap IntKind.i64 ((↑(0 : Nat) : Int) - (↑((0 : Nat)) : Int))) ∧ IntKind.wrap IntKind.i64 (n - IntKind.wrap IntKind.i64 ((↑(0 : Nat) : Int) - (↑((0 : Nat)) : Int))) ≤ (4294967296 : Int)) = true, decide (List.length (List.replicate (Int.toNat (IntKind.wrap IntKind.i64 (n - IntKind.wrap IntKind.i64 ((↑(0 : Nat) : Int) - (↑((0 : Nat)) : Int))))) (zeroEl { zero := [Value.int IntKind.u8 (0 : Int), Value.int IntKind.i64 (0 : Int)], bytes := (16 : Nat), agg := true, kind := TK.struct [((0 : Nat), (1 : Nat)), ((1 : Nat), (1 : Nat))] })) ≤ (4294967296 : Nat)) = true, AV.sl Mode.own 30 (if (0 : Nat) + List.length (List.replicate (Int.toNat (IntKind.wrap IntKind.i64 (n - IntKind.wrap IntKind.i64 ((↑(0 : Nat) : Int) - (↑((0 : Nat)) : Int))))) (zeroEl { zero := [Value.int IntKind.u8 (0 : Int), Value.int IntKind.i64 (0 : Int)], bytes := (16 : Nat), agg := true, kind := TK.struct [((0 : Nat), (1 : Nat)), ((1 : Nat), (1 : Nat))] })) ≤ (0 : Nat) then some (0 : Nat) else none) ([] ++ List.replicate (Int.toNat (IntKind.wrap IntKind.i64 (n - IntKind.wrap IntKind.i64 ((↑(0 : Nat) : Int) - (↑((0 : Nat)) : Int))))) (zeroEl { zero := [Value.int IntKind.u8 (0 : Int), Value.int IntKind.i64 (0 : Int)], bytes := (16 : Nat), agg := true, kind := TK.struct [((0 : Nat), (1 : Nat)), ((1 : Nat), (1 : Nat))] })) = AV.sl Mode.own 30 (if (0 : Nat) + List.length (List.replicate (Int.toNat (IntKind.wrap IntKind.i64 (n - IntKind.wrap IntKind.i64 ((↑(0 : Nat) : Int) - (↑((0 : Nat)) : Int))))) (zeroEl { zero := [Value.int IntKind.u8 (0 : Int), Value.int IntKind.i64 (0 : Int)], bytes := (16 : Nat), agg := true, kind := TK.struct [((0 : Nat), (1 : Nat)), ((1 : Nat), (1 : Nat))] })) ≤ (0 : Nat) then some (0 : Nat) else none) (List.map Idd.enc ([] ++ List.replicate (Int.toNat (IntKind.wrap IntKind.i64 (n - IntKind.wrap IntKind.i64 ((↑(0 : Nat) : Int) - (↑((0 : Nat)) : Int))))) { y := (0 : Int), n := (0 : Int) }))]) (base 27 0) Try.func73 rfl (by simp) rfl (by kernel_rfl)  (allp g0 (allp g1 (allp g2 (allp g3 (allp g4 allp_nil)))))
theorem grwI_1 (n : Int) (h0 : 0 ≤ n) (hn : n ≤ 4294967296) (g0 : decide (n < (0 : Int)) = false) (g1 : decide ((0 : Int) < IntKind.wrap IntKind.i64 (n - IntKind.wrap IntKind.i64 ((↑(0 : Nat) : Int) - (↑((0 : Nat)) : Int)))) = false) : PureC Try.prog 73 [nilp, it n]  niln :=
  funA_ok (H := h73) (n := 27) (ans := [Ans.c, Ans.c, Ans.c, Ans.b false, Ans.c, Ans.c, Ans.c, Ans.c, Ans.c, Ans.c, Ans.c, Ans.c, Ans.c, Ans.c, Ans.b false, Ans.c, Ans.c]) (ps := [decide (n < (0 : Int)) = false, decide ((0 : Int) < IntKind.wrap IntKind.i64 (n - IntKind.wrap IntKind.i64 ((↑(0 : Nat) : Int) - (↑((0 : Nat)) : Int)))) = false]) (base 27 0) Try.func73 rfl (by simp) rfl (by kernel_rfl)  (allp g0 (allp g1 allp_nil))
end Tst
end

section
open Go Go.Lf Go.Proofs
namespace Tst
theorem growI (n : Int) (h0 : 0 ≤ n) (hn : n ≤ 4294967296) : PureC Try.prog 73 [nilp, it n] (iow none []) := by
  have w : IntKind.wrap IntKind.i64 (n - IntKind.wrap IntKind.i64 ((((0 : Nat) : Nat) : Int) - (((0 : Nat)) : Int))) = n := by
    rw [wrap_id' (n := (((0 : Nat) : Nat) : Int) - (((0 : Nat)) : Int)) (by omega) (by omega), wrap_id' (by omega) (by omega)]; omega
  by_cases hp : 0 < n
  · refine PureC.res (grwI_0 n h0 hn (by simp; omega) (by rw [w]; simpa using hp) (by rw [w]; simp; omega) (by rw [w]; simp; omega) (by rw [List.nil_append, List.nil_append, List.map_replicate]; rfl)) Le.cap
  · refine PureC.res (PureC.res (grwI_1 n h0 hn (by simp; omega) (by rw [w]; simpa using hp)) (Le.nilOwn 30)) Le.cap
abbrev twoI (ca cb : Option Nat) (l m : List Idd) : AV := .sl .any 62 (some 2) [isl ca l, isl cb m]
theorem rem_idd (f : Lf.Mode → Lf.Mode) (n : Nat) (m : Lf.Mode) (c : Option Nat) (l : List Idd) : remode f (n + 2) (.sl m 30 c (l.map Idd.enc)) = .sl (f m) 30 c (l.map Idd.enc) := by
  show AV.sl (f m) 30 c ((l.map Idd.enc).map _) = _
  rw [List.map_map]; rfl
theorem view_twoI (ca cb : Option Nat) (l m : List Idd) : view (.sl .own 62 (some 2) [isl ca l, isl cb m]) = twoI ca cb l m := by
  show AV.sl .any 62 (some 2) [remode (fun _ => .any) 11 (isl ca l), remode (fun _ => .any) 11 (isl cb m)] = _
  rw [rem_idd, rem_idd]
theorem icA0_0 (ca cb : Option Nat) (l m : List Idd) (hl : l.length ≤ 1000000) (hm : m.length ≤ 1000000) (g0 : decide (IntKind.wrap IntKind.i64 ((0 : Int) + (↑(List.length (List.map Idd.enc l)) : Int)) < (0 : Int)) = false) : Tri Try.prog (cxN 36 0) (loopBody Try.f65 0) ([(0, twoI ca cb l m), (3, it 0), (9, twoI ca cb l m), (10, it 2), (11, it 0)] ) (Ex.normal) ([(0, AV.sl Mode.any 62 (some 2) [AV.sl Mode.any 30 ca (List.map Idd.enc l), AV.sl Mode.any 30 cb (List.map Idd.enc m)]), (3, it (IntKind.wrap IntKind.i64 ((0 : Int) + (↑(List.length (List.map Idd.enc l)) : Int)))), (9, AV.sl Mode.any 62 (some 2) [AV.sl Mode.any 30 ca (List.map Idd.enc l), AV.sl Mode.any 30 cb (List.map Idd.enc m)]), (10, it 2), (11, it (IntKind.wrap IntKind.i64 ((0 : Int) + (1 : Int))))]) :=
  evA_ok (H := h65) (ans := [.c, .c, .c, .c, .c, .c, .c, .c, .c, .c, .c, .c, .c, .c, .b false, .c, .c]) (ps := [decide (IntKind.wrap IntKind.i64 ((0 : Int) + (↑(List.length (List.map Idd.enc l)) : Int)) < (0 : Int)) = false]) (ans' := []) (base 36 0) cxA_K.1 cxA_K.2 _ (by kernel_rfl)  (allp g0 allp_nil)
theorem icA1_0 (ca cb : Option Nat) (l m : List Idd) (s : Int) (hl : l.length ≤ 1000000) (hm : m.length ≤ 1000000) (g0 : decide (IntKind.wrap IntKind.i64 (s + (↑(List.length (List.map Idd.enc m)) : Int)) < (0 : Int)) = false) : Tri Try.prog (cxN 36 0) (loopBody Try.f65 0) ([(0, twoI ca cb l m), (3, it s), (9, twoI ca cb l m), (10, it 2), (11, it 1)] ) (Ex.normal) ([(0, AV.sl Mode.any 62 (some 2) [AV.sl Mode.any 30 ca (List.map Idd.enc l), AV.sl Mode.any 30 cb (List.map Idd.enc m)]), (3, it (IntKind.wrap IntKind.i64 (s + (↑(List.length (List.map Idd.enc m)) : Int)))), (9, AV.sl Mode.any 62 (some 2) [AV.sl Mode.any 30 ca (List.map Idd.enc l), AV.sl Mode.any 30 cb (List.map Idd.enc m)]), (10, it 2), (11, it (IntKind.wrap IntKind.i64 ((1 : Int) + (1 : Int))))]) :=
  evA_ok (H := h65) (ans := [.c, .c, .c, .c, .c, .c, .c, .c, .c, .c, .c, .c, .c, .c, .b false, .c, .c]) (ps := [decide (IntKind.wrap IntKind.i64 (s + (↑(List.length (List.map Idd.enc m)) : Int)) < (0 : Int)) = false]) (ans' := []) (base 36 0) cxA_K.1 cxA_K.2 _ (by kernel_rfl)  (allp g0 allp_nil)
theorem icA2_0 (ca cb : Option Nat) (l m : List Idd) (s : Int) (hl : l.length ≤ 1000000) (hm : m.length ≤ 1000000) : Tri Try.prog (cxN 36 0) (loopBody Try.f65 0) ([(0, twoI ca cb l m), (3, it s), (9, twoI ca cb l m), (10, it 2), (11, it 2)] ) (Ex.exit 0) ([(0, AV.sl Mode.any 62 (some 2) [AV.sl Mode.any 30 ca (List.map Idd.enc l), AV.sl Mode.any 30 cb (List.map Idd.enc m)]), (3, it s), (9, AV.sl Mode.any 62 (some 2) [AV.sl Mode.any 30 ca (List.map Idd.enc l), AV.sl Mode.any 30 cb (List.map Idd.enc m)]), (10, it 2), (11, it 2), (12, bb (decide ((2 : Int) < (2 : Int))))]) :=
  evA_ok (H := h65) (ans := [.c, .c]) (ps := []) (ans' := []) (base 36 0) cxA_K.1 cxA_K.2 _ (by kernel_rfl)  allp_nil
theorem icB0_0 (ca cb : Option Nat) (l m t : List Idd) (hl : l.length ≤ 1000000) (hm : m.length ≤ 1000000) (g0 : decide ((62 : Nat) = (62 : Nat) ∧ (List.all (List.map Idd.enc l) fun y => List.all (AV.ecells y) plainA) = true ∧ (List.all (List.map Idd.enc l) fun y => decide (List.length (AV.ecells y) = List.length (TInfo.zero { zero := [Value.int IntKind.u8 (0 : Int), Value.int IntKind.i64 (0 : Int)], bytes := (16 : Nat), agg := true, kind := TK.struct [((0 : Nat), (1 : Nat)), ((1 : Nat), (1 : Nat))] }))) = true) = true) (g1 : decide (List.length (List.map Idd.enc t) + List.length (List.map Idd.enc l) ≤ (4294967296 : Nat)) = true) (g2 : AV.sl Mode.own 30 none (List.map Idd.enc t ++ List.map Idd.enc l) = AV.sl Mode.own 30 none (List.map Idd.enc (t ++ l))) : Tri Try.prog (cxN 36 0) (loopBody Try.f65 1) ([(6, iow none t), (25, twoI ca cb l m), (26, it 2), (27, it 0)] ) (Ex.normal) ([(6, AV.sl Mode.own 30 none (List.map Idd.enc (t ++ l))), (25, AV.sl Mode.any 62 (some 2) [AV.sl Mode.any 30 ca (List.map Idd.enc l), AV.sl Mode.any 30 cb (List.map Idd.enc m)]), (26, it 2), (27, it (IntKind.wrap IntKind.i64 ((0 : Int) + (1 : Int))))]) :=
  evA_ok (H := h65) (ans := [.c, .c, .c, .c, .c, .c, .c, .c, .c, .b true, .b true, .r (AV.sl Mode.own 30 none (List.map Idd.enc (t ++ l))), .c, .c, .c]) (ps := [decide ((62 : Nat) = (62 : Nat) ∧ (List.all (List.map Idd.enc l) fun y => List.all (AV.ecells y) plainA) = true ∧ (List.all (List.map Idd.enc l) fun y => decide (List.length (AV.ecells y) = List.length (TInfo.zero { zero := [Value.int IntKind.u8 (0 : Int), Value.int IntKind.i64 (0 : Int)], bytes := (16 : Nat), agg := true, kind := TK.struct [((0 : Nat), (1 : Nat)), ((1 : Nat), (1 : Nat))] }))) = true) = true, decide (List.length (List.map Idd.enc t) + List.length (List.map Idd.enc l) ≤ (4294967296 : Nat)) = true, AV.sl Mode.own 30 none (List.map Idd.enc t ++ List.map Idd.enc l) = AV.sl Mode.own 30 none (List.map Idd.enc (t ++ l))]) (ans' := []) (base 36 0) cxA_K.1 cxA_K.2 _ (by kernel_rfl)  (allp g0 (allp g1 (allp g2 allp_nil)))
theorem icB1_0 (ca cb : Option Nat) (l m t : List Idd) (hl : l.length ≤ 1000000) (hm : m.length ≤ 1000000) (g0 : decide ((62 : Nat) = (62 : Nat) ∧ (List.all (List.map Idd.enc m) fun y => List.all (AV.ecells y) plainA) = true ∧ (List.all (List.map Idd.enc m) fun y => decide (List.length (AV.ecells y) = List.length (TInfo.zero { zero := [Value.int IntKind.u8 (0 : Int), Value.int IntKind.i64 (0 : Int)], bytes := (16 : Nat), agg := true, kind := TK.struct [((0 : Nat), (1 : Nat)), ((1 : Nat), (1 : Nat))] }))) = true) = true) (g1 : decide (List.length (List.map Idd.enc t) + List.length (List.map Idd.enc m) ≤ (4294967296 : Nat)) = true) (g2 : AV.sl Mode.own 30 none (List.map Idd.enc t ++ List.map Idd.enc m) = AV.sl Mode.own 30 none (List.map Idd.enc (t ++ m))) : Tri Try.prog (cxN 36 0) (loopBody Try.f65 1) ([(6, iow none t), (25, twoI ca cb l m), (26, it 2), (27, it 1)] ) (Ex.normal) ([(6, AV.sl Mode.own 30 none (List.map Idd.enc (t ++ m))), (25, AV.sl Mode.any 62 (some 2) [AV.sl Mode.any 30 ca (List.map Idd.enc l), AV.sl Mode.any 30 cb (List.map Idd.enc m)]), (26, it 2), (27, it (IntKind.wrap IntKind.i64 ((1 : Int) + (1 : Int))))]) :=
  evA_ok (H := h65) (ans := [.c, .c, .c, .c, .c, .c, .c, .c, .c, .b true, .b true, .r (AV.sl Mode.own 30 none (List.map Idd.enc (t ++ m))), .c, .c, .c]) (ps := [decide ((62 : Nat) = (62 : Nat) ∧ (List.all (List.map Idd.enc m) fun y => List.all (AV.ecells y) plainA) = true ∧ (List.all (List.map Idd.enc m) fun y => decide (List.length (AV.ecells y) = List.length (TInfo.zero { zero := [Value.int IntKind.u8 (0 : Int), Value.int IntKind.i64 (0 : Int)], bytes := (16 : Nat), agg := true, kind := TK.struct [((0 : Nat), (1 : Nat)), ((1 : Nat), (1 : Nat))] }))) = true) = true, decide (List.length (List.map Idd.enc t) + List.length (List.map Idd.enc m) ≤ (4294967296 : Nat)) = true, AV.sl Mode.own 30 none (List.map Idd.enc t ++ List.map Idd.enc m) = AV.sl Mode.own 30 none (List.map Idd.enc (t ++ m))]) (ans' := []) (base 36 0) cxA_K.1 cxA_K.2 _ (by kernel_rfl)  (allp g0 (allp g1 (allp g2 allp_nil)))
theorem icB2_0 (ca cb : Option Nat) (l m t : List Idd) (hl : l.length ≤ 1000000) (hm : m.length ≤ 1000000) : Tri Try.prog (cxN 36 0) (loopBody Try.f65 1) ([(6, iow none t), (25, twoI ca cb l m), (26, it 2), (27, it 2)] ) (Ex.exit 2) ([(6, AV.sl Mode.own 30 none (List.map Idd.enc t)), (25, AV.sl Mode.any 62 (some 2) [AV.sl Mode.any 30 ca (List.map Idd.enc l), AV.sl Mode.any 30 cb (List.map Idd.enc m)]), (26, it 2), (27, it 2), (28, bb (decide ((2 : Int) < (2 : Int))))]) :=
  evA_ok (H := h65) (ans := [.c, .c]) (ps := []) (ans' := []) (base 36 0) cxA_K.1 cxA_K.2 _ (by kernel_rfl)  allp_nil
end Tst
end

section
open Go Go.Lf Go.Proofs
namespace Tst
theorem all_plainI (l : List Idd) : (List.all (l.map Idd.enc) fun y => List.all (AV.ecells y) plainA) = true := by
  rw [List.all_map, List.all_eq_true]; intro x _; rfl
theorem all_twoI (l : List Idd) : (List.all (l.map Idd.enc) fun y => decide (List.length (AV.ecells y) = 2)) = true := by
  rw [List.all_map, List.all_eq_true]; intro x _; rfl
theorem ic_A (ca cb : Option Nat) (l m : List Idd) (hl : l.length ≤ 1000000) (hm : m.length ≤ 1000000) : Tri Try.prog (cxN 36 0) (.loop (loopBody Try.f65 0)) [(0, twoI ca cb l m), (3, it 0), (9, twoI ca cb l m), (10, it 2), (11, it 0)] (.exit 0) [(0, twoI ca cb l m), (3, it ((l.length + m.length : Nat) : Int))] := by
  have w0 : IntKind.i64.wrap ((0 : Int) + 1) = 1 := by decide
  have w1 : IntKind.i64.wrap ((1 : Int) + 1) = 2 := by decide
  have h0 := icA0_0 ca cb l m hl hm (by rw [List.length_map, wrap_id' (by omega) (by omega)]; simp; try omega)
  rw [w0, wrap_id' (n := (0 : Int) + _) (by omega) (by simp; omega)] at h0
  have h1 := icA1_0 ca cb l m (0 + ((l.map Idd.enc).length : Int)) hl hm (by rw [List.length_map, List.length_map, wrap_id' (by omega) (by omega)]; simp; try omega)
  rw [w1, wrap_id' (by simp; omega) (by simp; omega)] at h1
  have h2 := Tri.after [(0, .keep), (3, .keep)] (icA2_0 ca cb l m (0 + ((l.map Idd.enc).length : Int) + ((m.map Idd.enc).length : Int)) hl hm)
  have e : (0 + ((l.map Idd.enc).length : Int) + ((m.map Idd.enc).length : Int)) = ((l.length + m.length : Nat) : Int) := by simp
  rw [e] at h2 h1
  exact Rnd.loop (Rnd.step h0 (Rnd.step h1 (Rnd.exit (n := 0) h2 (by simp))))
theorem ic_B (ca cb : Option Nat) (l m : List Idd) (hl : l.length ≤ 1000000) (hm : m.length ≤ 1000000) : Tri Try.prog (cxN 36 0) (.loop (loopBody Try.f65 1)) [(6, iow none []), (25, twoI ca cb l m), (26, it 2), (27, it 0)] (.exit 2) [(6, iow none (l ++ m))] := by
  have w0 : IntKind.i64.wrap ((0 : Int) + 1) = 1 := by decide
  have w1 : IntKind.i64.wrap ((1 : Int) + 1) = 2 := by decide
  have h0 := icB0_0 ca cb l m [] hl hm (by simp only [decide_eq_true_eq]; exact ⟨trivial, all_plainI _, all_twoI _⟩) (by simp; omega) (by simp)
  rw [w0] at h0
  have h1 := icB1_0 ca cb l m ([] ++ l) hl hm (by simp only [decide_eq_true_eq]; exact ⟨trivial, all_plainI _, all_twoI _⟩) (by simp; omega) (by simp)
  rw [w1] at h1
  have h2 := Tri.after [(6, .keep)] (icB2_0 ca cb l m ([] ++ l ++ m) hl hm)
  rw [List.nil_append] at h2 h1 h0
  exact Rnd.loop (Rnd.step h0 (Rnd.step h1 (Rnd.exit (n := 0) h2 (by simp))))
theorem conI_0 (ca cb : Option Nat) (l m : List Idd) (hl : l.length ≤ 1000000) (hm : m.length ≤ 1000000) (g0 : AV.sl Mode.own 30 none [] = AV.sl Mode.own 30 none (List.map Idd.enc [])) : PureC Try.prog 65 [twoI ca cb l m]  (AV.sl Mode.own 30 none (List.map Idd.enc (l ++ m))) :=
  funA_ok (H := h65) (n := 36) (ans := [.c, .c, .c, .c, .c, .lp (Ex.exit 0) [(0, AV.sl Mode.any 62 (some 2) [AV.sl Mode.any 30 ca (List.map Idd.enc l), AV.sl Mode.any 30 cb (List.map Idd.enc m)]), (3, it (↑(List.length l + List.length m) : Int))], .c, .r (AV.sl Mode.own 30 none []), .c, .r (AV.sl Mode.own 30 none (List.map Idd.enc [])), .c, .c, .c, .c, .lp (Ex.exit 2) [(6, AV.sl Mode.own 30 none (List.map Idd.enc (l ++ m)))], .c, .c]) (ps := [Tri Try.prog (cxN (36 : Nat) (0 : Nat)) (Code.loop (loopBody Try.f65 (0 : Nat))) [(0, AV.sl Mode.any 62 (some 2) [AV.sl Mode.any 30 ca (List.map Idd.enc l), AV.sl Mode.any 30 cb (List.map Idd.enc m)]), (3, it 0), (9, AV.sl Mode.any 62 (some 2) [AV.sl Mode.any 30 ca (List.map Idd.enc l), AV.sl Mode.any 30 cb (List.map Idd.enc m)]), (10, it (↑(List.length [isl ca l, isl cb m]) : Int)), (11, it 0)] (Ex.exit 0) [(0, AV.sl Mode.any 62 (some 2) [AV.sl Mode.any 30 ca (List.map Idd.enc l), AV.sl Mode.any 30 cb (List.map Idd.enc m)]), (3, it (↑(List.length l + List.length m) : Int))], PureC Try.prog 73 [niln, it (↑(List.length l + List.length m) : Int)] (AV.sl Mode.own 30 none []), AV.sl Mode.own 30 none [] = AV.sl Mode.own 30 none (List.map Idd.enc []), Tri Try.prog (cxN (36 : Nat) (0 : Nat)) (Code.loop (loopBody Try.f65 (1 : Nat))) [(6, AV.sl Mode.own 30 none []), (25, AV.sl Mode.any 62 (some 2) [AV.sl Mode.any 30 ca (List.map Idd.enc l), AV.sl Mode.any 30 cb (List.map Idd.enc m)]), (26, it (↑(List.length [AV.sl Mode.any 30 ca (List.map Idd.enc l), AV.sl Mode.any 30 cb (List.map Idd.enc m)]) : Int)), (27, it 0)] (Ex.exit 2) [(6, AV.sl Mode.own 30 none (List.map Idd.enc (l ++ m)))]]) (base 36 0) Try.func65 rfl (by simp) rfl (by kernel_rfl)  (allp (by first | (apply ic_A <;> (first | assumption | rfl | (simp at * <;> omega))) | (refine Tri.weak [(0, .keep), (3, .keep), (9, .keep), (10, .keep), (11, .keep)] ?_; apply ic_A <;> (first | assumption | rfl | (simp at * <;> omega))) | (apply ic_B <;> (first | assumption | rfl | (simp at * <;> omega))) | (refine Tri.weak [(6, .keep), (25, .keep), (26, .keep), (27, .keep)] ?_; apply ic_B <;> (first | assumption | rfl | (simp at * <;> omega))) | (apply growI <;> (first | assumption | rfl | (simp at * <;> omega)))) (allp (by apply growI <;> (first | assumption | rfl | (simp at * <;> omega))) (allp g0 (allp (by first | (apply ic_A <;> (first | assumption | rfl | (simp at * <;> omega))) | (refine Tri.weak [(0, .keep), (3, .keep), (9, .keep), (10, .keep), (11, .keep)] ?_; apply ic_A <;> (first | assumption | rfl | (simp at * <;> omega))) | (apply ic_B <;> (first | assumption | rfl | (simp at * <;> omega))) | (refine Tri.weak [(6, .keep), (25, .keep), (26, .keep), (27, .keep)] ?_; apply ic_B <;> (first | assumption | rfl | (simp at * <;> omega))) | (apply growI <;> (first | assumption | rfl | (simp at * <;> omega)))) allp_nil))))
theorem conI_c (ca cb : Option Nat) (l m : List Idd) (hl : l.length ≤ 1000000) (hm : m.length ≤ 1000000) : PureC Try.prog 65 [twoI ca cb l m] (iow none (l ++ m)) := conI_0 ca cb l m hl hm rfl
end Tst
end

section
namespace Go.Lf
open Go Go.RowKit
section
variable {P : Program} {F : Frm} {B0 : Nat} {w0 w : World} {S S0 : Nat → Prop} {n : Nat} {env : Env} {a : Act} {tmps : Array Value} {Os : Nat → Own} {cx : Cx}
theorem St.shrBox (hst : St P F B0 w0 n env a.tmps w S Os) {r : Nat} {cs : List AV} (hr : lk env r = some (.box cs)) (hp : cs.all plainA = true) (hno : noRoot r env) :
    ∃ S' Os', St P F B0 w0 n ((r, .vadr cs 0) :: env) a.tmps w S' Os' ∧ (∀ b, S b → S' b) ∧ (∀ b, S' b → S b ∨ B0 ≤ b) := by
  obtain ⟨vr, hv, hsv⟩ := hst.rel r _ hr
  have hrv := hsv.rv rfl
  obtain ⟨m, rfl⟩ := hrv.pos
  obtain ⟨g, C, T, O', rfl, hB, hg, hrc, hO⟩ := hrv
  have hz := plain_zero hrc hp
  have hgo : 0 < Os r g := by have := hO g; simp [ind] at this; omega
  have hd : r < a.tmps.size := (Array.getElem?_eq_some_iff.1 hv).1
  have hlen : C.toList.length = cs.length := hrc.length
  have hrc' : Rc (Rv P B0 w (fun b => S b ∨ b = g) m) C.toList cs (fun _ => 0) := by
    have h := hrc.map (g := id) (R' := Rv P B0 w (fun b => S b ∨ b = g) m) fun v x O1 hle h1 => by
      have e : O1 = fun _ => 0 := funext fun b => by have := hle b; have := hz b; omega
      subst e
      exact Rv.frame (fun b hb => .inl hb) (fun _ _ => rfl) m v x _ (fun _ _ => rfl) h1
    rwa [List.map_id] at h
  refine ⟨fun b => S b ∨ b = g, fun t => if t = r then (fun _ => 0) else Os t, ?_, fun b hb => .inl hb, ?_⟩
  rotate_left
  · intro b hb
    rcases hb with hb | hb
    · exact .inl hb
    · subst hb; exact .inr hB
  have key := hst.set (Nat.le_refl _) r (v := .pointer (some ⟨g, 0, none⟩)) (x := .vadr cs 0) (O := fun _ => 0) (S' := fun b => S b ∨ b = g) ⟨hd, .inr hv⟩ (Below.refl _ _) (fun b hb => .inl hb)
    (fun b hb => by
      rcases hb with hb | hb
      · exact hst.sLt b hb
      · subst hb; exact (hst.lt r b hgo).2)
    (fun b t ht hb => by
      rcases hb with hb | hb
      · exact hst.excl b t hb
      · subst hb
        rcases hst.dis r t b (Ne.symm ht) with h | h
        · omega
        · exact h)
    (fun _ _ => rfl) (fun _ _ => rfl) (fun _ => Nat.zero_le _) (fun b t _ hb => by omega)
    (.inr ⟨g, 0, C, T, (0, 0), rfl, .inr rfl, hg, Nat.le_refl _, by rw [← hlen]; simp, fun _ => rfl, by
      rw [Nat.sub_self, List.drop_zero, List.take_of_length_le (by omega)]; exact hrc'⟩)
    (fun t y _ _ hy hyr => absurd hyr (hno t y hy))
  rwa [setSame a.tmps r _ hv] at key
theorem Tri.shr {c : Code} {env' : Env} {ex : Ex} {r : Nat} {cs : List AV} (hr : lk env r = some (.box cs)) (hp : cs.all plainA = true) (hno : noRoot r env) (h : Tri P cx c ((r, .vadr cs 0) :: env) ex env') : Tri P cx c env ex env' :=
  fun ρ hρ F B0 w0 S0 ds a w Q hag hQ => h ρ hρ F B0 w0 S0 ds a w Q (match hag with
    | ⟨h1, h2, n, S, Os, hn, hgr, hst⟩ =>
      have ⟨S', Os', hst', hS, hS'⟩ := hst.shrBox hr hp hno
      ⟨h1, h2, n, S', Os', hn, ⟨fun b hb => hS b (hgr.1 b hb), fun b hb => by
        rcases hS' b hb with h | h
        · exact hgr.2 b h
        · exact .inr h⟩, hst'⟩) hQ
end
end Go.Lf
end

section
namespace Go.Lf
open Go Go.RowKit
structure Grew (X : Nat → Prop) (w w' : World) : Prop where
  os : w'.os = w.os
  tape : w'.tape = w.tape
  output : w'.output = w.output
  size : w.heap.size ≤ w'.heap.size
  block : ∀ b, b < w.heap.size → ¬ X b → w'.heap[b]? = w.heap[b]?
def SeqC (P : Program) (f : FuncId) (cs : List AV) (xss : List (List AV)) : Prop :=
  (∀ (args : Array Value) (w : World), (callFunc f args).run P w = .ok (.enter f args) w) ∧
  ∀ (w : World) (S : Nat → Prop) (n : Nat) (lb : List Value) (l : Nat) (J : Nat → (Nat → Prop) → World → Prop) (Jx : Nat → World → Prop),
    (∀ b, S b → b < w.heap.size) → Rc (Rv P w.heap.size w S n) lb cs (fun _ => 0) →
    (∀ k X W W', J k X W → Below W.heap.size W W' → J k X W') → (∀ k W W', Jx k W → Below W.heap.size W W' → Jx k W') →
    (∀ k X W, J k X W → w.heap.size ≤ W.heap.size ∧ (∀ b, S b → W.heap[b]? = w.heap[b]? ∧ ¬ X b) ∧ ∀ b, X b → b < W.heap.size) →
    (∀ k X W xs vs S' m, J k X W → xss[k]? = some xs → (∀ b, S' b → (S b ∨ w.heap.size ≤ b) ∧ b < W.heap.size ∧ ¬ X b) → (∀ B1, Rc (Rv P B1 W S' m) vs xs (fun _ => 0)) →
      YieldAt (Fi none) 0 P l vs.toArray W fun e W' => (e = .returned (.bool true) ∧ ∃ X', J (k + 1) X' W' ∧ Grew X W W' ∧ ∀ b, X' b → X b ∨ W.heap.size ≤ b) ∨ (e = .returned (.bool false) ∧ Jx k W')) →
    ∀ X, J 0 X w → Calls P f ((Value.func (.yield l) #[] #[] :: lb).toArray) w fun e W' => (∃ v, e = .returned v) ∧ ((∃ X', J xss.length X' W') ∨ ∃ k, k < xss.length ∧ Jx k W')
def freeA : AV → Bool
  | .atom _ => true
  | .bad => true
  | .agg cs => cs.all plainA
  | .sl .own _ _ _ => false
  | .sl .. => true
  | .vadr .. => true
  | .fn .. => true
  | _ => false
section
variable {P : Program} {F : Frm} {B0 : Nat} {w0 w w' : World} {S S' S0 : Nat → Prop} {n n' : Nat} {env env' : Env} {a : Act} {tmps : Array Value} {Os : Nat → Own} {cx : Cx}
theorem freeA_zero {v : Value} {x : AV} {O : Own} (h : Rv P B0 w S n v x O) (hp : freeA x = true) : Zero O := by
  obtain ⟨m, rfl⟩ := h.pos
  cases x with
  | atom u => exact h.2
  | bad => exact h
  | agg cs => obtain ⟨_, _, hrc⟩ := h; exact plain_zero hrc hp
  | sl mm e cap xs =>
    cases mm with
    | own => simp [freeA] at hp
    | fresh => obtain ⟨A, k, _, _, _, _, _, hz, _⟩ := h; exact hz
    | any => obtain ⟨A, k, _, _, _, _, _, hz, _⟩ := h; exact hz
  | vadr cs c => obtain ⟨g, o, C, T, fr, _, _, _, _, _, hz, _⟩ := h; exact hz
  | fn f cs => obtain ⟨_, _, hz, _⟩ := h; exact hz
  | _ => simp [freeA] at hp
theorem freeA_leaf {x : AV} (hp : freeA x = true) : leafRoot x = none := by cases x <;> first | rfl | simp [freeA] at hp
theorem St.later (h : St P F B0 w0 n env tmps w S Os) (hnl : ∀ t x, lk env t = some x → leafRoot x = none) (hB : Below w.heap.size w w') : St P F B0 w0 n env tmps w' S Os := by
  have hlt : ∀ t b, 0 < Os t b → b < w.heap.size := by
    intro t b hb
    cases hl : lk env t with
    | none => have := h.abs t hl b; omega
    | some x =>
      obtain ⟨v, hv, hs⟩ := h.rel t x hl
      rcases hs with ⟨k1, _, _⟩ | hr
      · exact absurd (hnl t x hl) k1
      · exact (Rv.owned n v x _ hr b hb).2
  refine ⟨h.below.trans (hB.mono h.b0), Nat.le_trans h.b0 hB.size, fun b hb => Nat.lt_of_lt_of_le (h.sLt b hb) hB.size, h.excl, h.one, h.dis, ?_, h.abs, h.leaf, fun b hb => ⟨(h.keep b hb).1, (hB.block b (h.sLt b (h.keep b hb).1)).trans (h.keep b hb).2⟩, h.pin⟩
  intro t x hx
  obtain ⟨v, hv, hs⟩ := h.rel t x hx
  refine ⟨v, hv, ?_⟩
  rcases hs with ⟨k1, _, _⟩ | hr
  · exact absurd (hnl t x hx) k1
  · exact .inr (Rv.frame (fun _ h => h) (fun b hb => hB.block b (h.sLt b hb)) n v x (Os t) (fun b hb => hB.block b (hlt t b hb)) hr)
theorem putObj_below {W : World} {l : Nat} {o : Obj} {B : Nat} (hl : B ≤ l) : Below B W (W.putObj l o) :=
  ⟨rfl, rfl, rfl, by rw [World.putObj_size]; exact Nat.le_refl _, fun k hk => World.putObj_heap_other (by omega)⟩
theorem foldl_set_size (q : List (Nat × Value)) : ∀ (T : Array Value), (q.foldl (fun t (pv : Nat × Value) => t.setIfInBounds pv.1 pv.2) T).size = T.size := by
  induction q with
  | nil => intro T; rfl
  | cons p q ih => intro T; rw [List.foldl_cons, ih]; simp
theorem foldl_set_other (q : List (Nat × Value)) : ∀ (T : Array Value) (t : Nat), (∀ p ∈ q, p.1 ≠ t) → (q.foldl (fun t (pv : Nat × Value) => t.setIfInBounds pv.1 pv.2) T)[t]? = T[t]? := by
  induction q with
  | nil => intro T t _; rfl
  | cons p q ih =>
    intro T t h
    rw [List.foldl_cons, ih _ _ fun r hr => h r (by simp [hr]), Array.getElem?_setIfInBounds_ne (h p (by simp))]
theorem params_ok {R : Value → AV → Own → Prop} : ∀ {vs : List Value} {xs : List AV}, Rc R vs xs (fun _ => 0) → ∀ (ps : List Nat) (T : Array Value), ps.Nodup → (∀ p ∈ ps, p < T.size) → ∀ t x, lk (ps.zip xs) t = some x →
    ∃ v O, ((ps.zip vs).foldl (fun t (pv : Nat × Value) => t.setIfInBounds pv.1 pv.2) T)[t]? = some v ∧ R v x O ∧ Zero O
  | _, _, .nil _, ps, T, _, _, t, x, h => by cases ps <;> simp [lk] at h
  | _, _, @Rc.cons _ v y vs ys O1 O2 _ h1 h2 hO, [], T, _, _, t, x, h => by simp [lk] at h
  | _, _, @Rc.cons _ v y vs ys O1 O2 _ h1 h2 hO, p :: ps, T, hn, hT, t, x, h => by
    obtain ⟨hn1, hn2⟩ := List.nodup_cons.1 hn
    simp only [List.zip_cons_cons, lk] at h
    have hO2 : O2 = fun _ => 0 := funext fun b => by have : 0 = O1 b + O2 b := hO b; omega
    have hO1 : Zero O1 := fun b => by have : 0 = O1 b + O2 b := hO b; omega
    subst hO2
    rw [List.zip_cons_cons, List.foldl_cons]
    by_cases hp : p = t
    · rw [if_pos hp] at h
      injection h with h; subst h hp
      refine ⟨v, O1, ?_, h1, hO1⟩
      rw [foldl_set_other _ _ _ fun r hr e => hn1 (by have := List.of_mem_zip hr; rw [← e]; exact this.1)]
      simp [hT p (by simp)]
    · rw [if_neg hp] at h
      exact params_ok h2 ps _ hn2 (fun r hr => by simpa using hT r (by simp [hr])) t x h
end
end Go.Lf
end

section
namespace Go.Lf
open Go Go.RowKit
def Ex.code : Ex → Option Code
  | .normal => none
  | .exit id => some (.exit id)
  | .ret => some .ret
def recOf (fn : FuncId) (tmps : Array Value) (ps : Array Tmp) (c1 c2 : Code) (D : Nat) (pe : Option Code) : Loop :=
  { state := if pe.isNone then .ready else .done, pending := pe, fn := fn, tmps := tmps, params := ps, assign := c1, body := c2, defers := D }
def Btw (P : Program) (F : Frm) (B0 : Nat) (w0 : World) (S0 S : Nat → Prop) (tmps : Array Value) (D l : Nat) (rec : Option Code → Loop) (pe : Option Code) (env : Env) (X : Nat → Prop) (W : World) : Prop :=
  ∃ (n : Nat) (S' : Nat → Prop) (Os : Nat → Own), 0 < n ∧ Grow B0 S0 S' ∧ St P F B0 w0 n env tmps W S' Os ∧ (∀ b, S b → S' b) ∧ S' D ∧ S' l ∧ W.heap[l]? = some (.loop (rec pe)) ∧ W.heap[D]? = some (.deferred (some [])) ∧ ∀ b, X b ↔ ∃ t, 0 < Os t b
def EnvB (lo : Nat) (env : Env) : Prop := ∀ t x, lk env t = some x → t < lo ∧ leafRoot x = none
def EnvF (env : Env) : Prop := ∀ t x, lk env t = some x → freeA x = true
section
variable {P : Program} {F : Frm} {B0 : Nat} {w0 w : World} {S S0 : Nat → Prop} {tmps : Array Value} {D l : Nat} {cx : Cx} {X : Nat → Prop} {W : World}
theorem lkapp {A B : Env} {t : Nat} {x : AV} (h : lk (A ++ B) t = some x) : lk A t = some x ∨ (lk A t = none ∧ lk B t = some x) := by
  rw [lk_append] at h
  cases hA : lk A t with
  | some y => rw [hA] at h; exact .inl h
  | none => rw [hA] at h; exact .inr ⟨rfl, h⟩
theorem Btw.later {rec : Option Code → Loop} {pe : Option Code} {env : Env} {W' : World} (h : Btw P F B0 w0 S0 S tmps D l rec pe env X W) (hnl : ∀ t x, lk env t = some x → leafRoot x = none) (hB : Below W.heap.size W W') : Btw P F B0 w0 S0 S tmps D l rec pe env X W' := by
  obtain ⟨n, S', Os, hn, hgr, hst, hS, hD, hl, h1, h2, hX⟩ := h
  exact ⟨n, S', Os, hn, hgr, hst.later hnl hB, hS, hD, hl, (hB.block l (hst.sLt l hl)).trans h1, (hB.block D (hst.sLt D hD)).trans h2, hX⟩
theorem round_ok {lo : Nat} (hlo : 0 < lo) {fn : FuncId} {ps : Array Tmp} {c1 c2 : Code} {Ek rest E1 E2 : Env} {ex : Ex} {xs : List AV} (hF0 : F.lo = 0) (hN : tmps.size = cx.N) (hps : ps.toList.Nodup ∧ ∀ p ∈ ps.toList, lo ≤ p ∧ p < cx.N)
    (hEk : EnvB lo Ek) (hrest : EnvF rest) (hdis : ∀ t x, lk rest t = some x → lk Ek t = none) (hE2 : EnvB lo E2) (hFl : ∀ b, F.b b → b ≠ l) (hBl : B0 ≤ l) (hDl : D ≠ l)
    (h1 : Tri P { cx with lo := lo } c1 (ps.toList.zip xs ++ Ek) .normal E1) (h2 : Tri P { cx with lo := lo } c2 E1 ex E2)
    (hb : Btw P F B0 w0 S0 S tmps D l (recOf fn tmps ps c1 c2 D) none (Ek ++ rest) X W) {S2 : Nat → Prop} {m : Nat} {vs : List Value} (hS2 : ∀ b, S2 b → (S b ∨ B0 ≤ b) ∧ b < W.heap.size ∧ ¬ X b) (hvs : Rc (Rv P B0 W S2 m) vs xs (fun _ => 0)) (hlen : xs.length = ps.size) :
    YieldAt (Fi none) 0 P l vs.toArray W fun e W' => e = .returned (.bool ex.code.isNone) ∧ ∃ X', Btw P F B0 w0 S0 S tmps D l (recOf fn tmps ps c1 c2 D) ex.code (E2 ++ rest) X' W' ∧ (ex = .normal → Grew X W W') ∧ ∀ b, X' b → X b ∨ W.heap.size ≤ b := by
  obtain ⟨n, S', Os, hn, hgr, hst, hS, hD, hl, hlw, hDw, hX⟩ := hb
  have hXn : ∀ b, ¬ X b ↔ ∀ t, Os t b = 0 := fun b => by
    rw [hX]
    constructor
    · intro h t
      rcases Nat.eq_zero_or_pos (Os t b) with h0 | h0
      · exact h0
      · exact absurd ⟨t, h0⟩ h
    · rintro h ⟨t, ht⟩
      have := h t; omega
  have hll : l < W.heap.size := hst.sLt l hl
  have hsz : (vs.toArray).size = ps.size := by have := hvs.length; simp; omega
  have hy := run_yield (P := P) (args := vs.toArray) hlw (by simp only [recOf]; exact hsz)
  refine ⟨_, _, _, _, hy, roundIn_of_wpIn trivial ?_⟩
  -- the round's frame
  have htm : (ps.zip vs.toArray).foldl (fun (t : Array Value) (pv : Nat × Value) => t.setIfInBounds pv.1 pv.2) tmps = (ps.toList.zip vs).foldl (fun t (pv : Nat × Value) => t.setIfInBounds pv.1 pv.2) tmps := by
    rw [← Array.foldl_toList, Array.toList_zip]
  obtain ⟨T, hT⟩ : ∃ T, (ps.toList.zip vs).foldl (fun t (pv : Nat × Value) => t.setIfInBounds pv.1 pv.2) tmps = T := ⟨_, rfl⟩
  have hTs : T.size = cx.N := by rw [← hT, foldl_set_size, hN]
  have hTlow : ∀ t, t < lo → T[t]? = tmps[t]? := by
    intro t ht
    rw [← hT]
    refine foldl_set_other _ _ _ fun p hp e => ?_
    have := (hps.2 p.1 (List.of_mem_zip hp).1).1; omega
  obtain ⟨Sr, hSr⟩ : ∃ Sr : Nat → Prop, Sr = fun b => b < W.heap.size ∧ (∀ t, Os t b = 0) ∧ (S' b ∨ B0 ≤ b) := ⟨_, rfl⟩
  have hS'r : ∀ b, S' b → Sr b := fun b hb => by subst hSr; exact ⟨hst.sLt b hb, fun t => hst.excl b t hb, .inl hb⟩
  have hst0 : St P ⟨Sr, lo, tmps⟩ B0 W (n + m) (ps.toList.zip xs ++ Ek) T W Sr (fun t => if lk Ek t = none then (fun _ => 0) else Os t) := by
    refine ⟨Below.refl _ _, hst.b0, fun b hb => by subst hSr; exact hb.1, ?_, ?_, ?_, ?_, ?_, ?_, fun b hb => ⟨hb, rfl⟩, fun t ht => hTlow t ht⟩
    · intro b t hb
      subst hSr
      split
      · rfl
      · exact hb.2.1 t
    · intro t b
      split
      · exact Nat.zero_le _
      · exact hst.one t b
    · intro t t' b hne
      split
      · exact .inl rfl
      · split
        · exact .inr rfl
        · exact hst.dis t t' b hne
    · intro t x hx
      rcases lkapp hx with hx | ⟨hx0, hx⟩
      · obtain ⟨v, O, hv, hr, hz⟩ := params_ok hvs ps.toList tmps hps.1 (fun p hp => by rw [hN]; exact (hps.2 p hp).2) t x hx
        rw [hT] at hv
        refine ⟨v, hv, .inr ?_⟩
        have ht : lk Ek t = none := by
          cases he : lk Ek t with
          | none => rfl
          | some y =>
            exfalso
            have h3 := (hEk t y he).1
            have : t ∈ ps.toList := by
              clear hvs h1 hlen
              have key : ∀ (l1 : List Nat) (l2 : List AV) (y : AV), lk (l1.zip l2) t = some y → t ∈ l1 := by
                intro l1
                induction l1 with
                | nil => intro l2 y h; simp [lk] at h
                | cons p l1 ih =>
                  intro l2 y h
                  cases l2 with
                  | nil => simp [lk] at h
                  | cons q l2 =>
                    simp only [List.zip_cons_cons, lk] at h
                    split at h
                    · rename_i e; subst e; simp
                    · exact List.mem_cons_of_mem _ (ih l2 y h)
              exact key _ _ _ hx
            have := (hps.2 t this).1; omega
        rw [if_pos ht]
        refine (Rv.frame (fun b hb => ?_) (fun _ _ => rfl) m v x _ (fun _ _ => rfl) (hr.cast fun b => (hz b).symm)).le (Nat.le_add_left _ _)
        obtain ⟨h5, h6, h7⟩ := hS2 b hb
        rcases h5 with h5 | h5
        · exact hS'r b (hS b h5)
        · subst hSr; exact ⟨h6, (hXn b).1 h7, .inr h5⟩
      · have hlt := (hEk t x hx).1
        obtain ⟨v, hv, hs⟩ := hst.rel t x (by rw [lk_append, hx])
        refine ⟨v, by rw [hTlow t hlt]; exact hv, .inr ?_⟩
        rw [if_neg (by rw [hx]; simp)]
        rcases hs with ⟨k1, _, _⟩ | hr
        · exact absurd (hEk t x hx).2 k1
        · exact (Rv.frame hS'r (fun _ _ => rfl) _ _ _ _ (fun _ _ => rfl) hr).le (Nat.le_add_right _ _)
    · intro t ht b
      have : lk Ek t = none := by
        rw [lk_append] at ht
        cases h : lk (ps.toList.zip xs) t with
        | some y => rw [h] at ht; cases ht
        | none => rw [h] at ht; exact ht
      rw [if_pos this]
    · intro t x r hx hr
      exfalso
      rcases lkapp hx with hx | ⟨_, hx⟩
      · obtain ⟨v, O, hv, hrv, hz⟩ := params_ok hvs ps.toList tmps hps.1 (fun p hp => by rw [hN]; exact (hps.2 p hp).2) t x hx
        rw [hrv.noLeaf] at hr; cases hr
      · rw [(hEk t x hx).2] at hr; cases hr
  have hag0 : Agree P ⟨Sr, lo, tmps⟩ B0 W Sr { cx with lo := lo } [] (ps.toList.zip xs ++ Ek) { tmps := (ps.zip vs.toArray).foldl (fun (t : Array Value) (pv : Nat × Value) => t.setIfInBounds pv.1 pv.2) tmps, defers := [] } W :=
    ⟨rfl, ⟨by show _ = cx.N; rw [htm, hT, hTs], rfl⟩, n + m, Sr, _, by omega, .refl _ _, by rw [htm, hT]; exact hst0⟩
  refine h1 (some l) (fun h => absurd h (by show lo ≠ 0; omega)) _ _ _ _ _ _ _ _ hag0 fun a1 W1 ⟨Ds1, n1, S1, Os1, _, _, _, hN1, hn1, hgr1, hst1⟩ => ?_
  have hl1 : W1.heap[l]? = some (.loop (recOf fn tmps ps c1 c2 D none)) := (hst1.keep l (hS'r l hl)).2.trans hlw
  refine ⟨_, run_beginRound hl1 rfl, ?_⟩
  obtain ⟨W2, hW2⟩ : ∃ W2, W1.putObj l (.loop { recOf fn tmps ps c1 c2 D none with state := .busy }) = W2 := ⟨_, rfl⟩
  rw [hW2]
  have hl1s : l < W1.heap.size := (Array.getElem?_eq_some_iff.1 hl1).1
  have hB12 : Below B0 W1 W2 := by rw [← hW2]; exact putObj_below hBl
  have ho12 : ∀ b, b ≠ l → W2.heap[b]? = W1.heap[b]? := fun b hb => by rw [← hW2]; exact World.putObj_heap_other hb
  have hs12 : W2.heap.size = W1.heap.size := by rw [← hW2]; exact World.putObj_size
  have hl2 : W2.heap[l]? = some (.loop { recOf fn tmps ps c1 c2 D none with state := .busy }) := by rw [← hW2]; exact World.putObj_heap_same hl1s
  have hst2 : St P ⟨Sr, lo, tmps⟩ B0 W2 n1 E1 a1.tmps W2 S1 Os1 := by
    have g1 : St P ⟨fun b => Sr b ∧ b ≠ l, lo, tmps⟩ B0 W1 n1 E1 a1.tmps W1 S1 Os1 := hst1.reroot (fun b hb => (hst1.keep b hb.1).1) rfl rfl
    have g2 := g1.other hB12 (fun b hb => ho12 b hb.2) fun b o hg hd => ho12 b fun e => by subst e; rw [hl1] at hg; injection hg with hg; subst hg; cases hd
    exact g2.reroot (fun b hb => (hst1.keep b hb).1) rfl rfl
  refine h2 (some l) (fun h => absurd h (by show lo ≠ 0; omega)) ⟨Sr, lo, tmps⟩ B0 W2 S1 a1.defers a1 W2 _ ⟨rfl, hN1, n1, S1, Os1, hn1, .refl _ _, hst2⟩ fun a3 W3 ⟨Ds3, n3, S3, Os3, _, _, _, _, hn3, hgr3, hst3⟩ => ?_
  have hl3 : W3.heap[l]? = some (.loop { recOf fn tmps ps c1 c2 D none with state := .busy }) := (hst3.keep l (hS'r l hl)).2.trans hl2
  have hend := run_endRound (P := P) ex.code hl3
  obtain ⟨W4, hW4⟩ : ∃ W4, W3.putObj l (.loop (recOf fn tmps ps c1 c2 D ex.code)) = W4 := ⟨_, rfl⟩
  have hend' : (Instr.endRound l ex.code).run P W3 = .ok (.bool ex.code.isNone) W4 := by rw [← hW4]; exact hend
  have hl3s : l < W3.heap.size := (Array.getElem?_eq_some_iff.1 hl3).1
  have hB34 : Below B0 W3 W4 := by rw [← hW4]; exact putObj_below hBl
  have ho34 : ∀ b, b ≠ l → W4.heap[b]? = W3.heap[b]? := fun b hb => by rw [← hW4]; exact World.putObj_heap_other hb
  have hl4 : W4.heap[l]? = some (.loop (recOf fn tmps ps c1 c2 D ex.code)) := by rw [← hW4]; exact World.putObj_heap_same hl3s
  have hs34 : W4.heap.size = W3.heap.size := by rw [← hW4]; exact World.putObj_size
  have hSrs : ∀ b, Sr b → S3 b := fun b hb => (hst3.keep b hb).1
  have hkeep : ∀ b, Sr b → b ≠ l → W4.heap[b]? = W.heap[b]? := fun b hb hne => (ho34 b hne).trans ((hst3.keep b hb).2.trans ((ho12 b hne).trans (hst1.keep b hb).2))
  have hB04 : Below B0 W W4 := ((hst1.below.trans hB12).trans hst3.below).trans hB34
  have hBtw : Btw P F B0 w0 S0 S tmps D l (recOf fn tmps ps c1 c2 D) ex.code (E2 ++ rest) (fun b => ∃ t, 0 < (if lk E2 t = none then (fun _ => 0) else Os3 t : Own) b) W4 := by
    refine ⟨n + n3, S3, _, by omega, ?_, ?_, fun b hb => hSrs b (hS'r b (hS b hb)), hSrs D (hS'r D hD), hSrs l (hS'r l hl), hl4, (hkeep D (hS'r D hD) hDl).trans hDw, fun _ => Iff.rfl⟩
    · refine hgr.trans ⟨fun b hb => hSrs b (hS'r b hb), fun b hb => ?_⟩
      rcases hgr3.2 b hb with h | h
      · rcases hgr1.2 b h with h | h
        · subst hSr; exact h.2.2
        · exact .inr h
      · exact .inr h
    · refine ⟨hst.below.trans hB04, Nat.le_trans hst.b0 hB04.size, fun b hb => by rw [hs34]; exact hst3.sLt b hb, ?_, ?_, ?_, ?_, ?_, ?_, fun b hb => ⟨hSrs b (hS'r b (hst.keep b hb).1), (hkeep b (hS'r b (hst.keep b hb).1) (hFl b hb)).trans (hst.keep b hb).2⟩, fun t ht => by rw [hF0] at ht; omega⟩
      · intro b t hb
        split
        · rfl
        · exact hst3.excl b t hb
      · intro t b
        split
        · exact Nat.zero_le _
        · exact hst3.one t b
      · intro t t' b hne
        split
        · exact .inl rfl
        · split
          · exact .inr rfl
          · exact hst3.dis t t' b hne
      · intro t x hx
        have cells4 : ∀ b o, W3.heap[b]? = some o → isD o = true → W4.heap[b]? = W3.heap[b]? := fun b o hg hd => ho34 b fun e => by subst e; rw [hl3] at hg; injection hg with hg; subst hg; cases hd
        rcases lkapp hx with hx | ⟨hx0, hx⟩
        · obtain ⟨v, hv, hs⟩ := hst3.rel t x hx
          have hp := hst3.pin t (hE2 t x hx).1
          refine ⟨v, by rw [← hv]; exact hp.symm, .inr ?_⟩
          rw [if_neg (by rw [hx]; simp)]
          rcases hs with ⟨k1, _, _⟩ | hr
          · exact absurd (hE2 t x hx).2 k1
          · exact (Rv.frameC (fun _ h => h) (fun b C T fr _ hg => cells4 b _ hg rfl) _ _ _ _ (fun b o _ hg hd => cells4 b o hg hd) hr).le (Nat.le_add_left _ _)
        · have hfr := hrest t x hx
          have : ∃ v, tmps[t]? = some v ∧ Rv P B0 W S' n v x (fun _ => 0) := by
            cases hk : lk Ek t with
            | none =>
              obtain ⟨v, hv, hs⟩ := hst.rel t x (by rw [lk_append, hk]; exact hx)
              rcases hs with ⟨k1, _, _⟩ | hr
              · exact absurd (freeA_leaf hfr) k1
              · exact ⟨v, hv, hr.cast fun b => (freeA_zero hr hfr b).symm⟩
            | some y => rw [hdis t x hx] at hk; cases hk
          obtain ⟨v, hv, hr⟩ := this
          refine ⟨v, hv, .inr ?_⟩
          rw [if_pos hx0]
          refine (Rv.frameC (fun b hb => hSrs b (hS'r b hb)) (fun b C T fr hb hg => hkeep b (hS'r b hb) fun e => by subst e; rw [hlw] at hg; cases hg) _ _ _ _ (fun b o hb _ _ => absurd hb (by simp)) hr).le (Nat.le_add_right _ _)
      · intro t ht b
        have : lk E2 t = none := by
          rw [lk_append] at ht
          cases h : lk E2 t with
          | some y => rw [h] at ht; cases ht
          | none => rfl
        rw [if_pos this]
      · intro t x r hx hr
        exfalso
        rcases lkapp hx with hx | ⟨_, hx⟩
        · rw [(hE2 t x hx).2] at hr; cases hr
        · rw [freeA_leaf (hrest t x hx)] at hr; cases hr
  have hres : (Ending.returned (.bool ex.code.isNone) : Ending) = .returned (.bool ex.code.isNone) ∧ ∃ X', Btw P F B0 w0 S0 S tmps D l (recOf fn tmps ps c1 c2 D) ex.code (E2 ++ rest) X' W4 ∧ (ex = .normal → Grew X W W4) ∧ ∀ b, X' b → X b ∨ W.heap.size ≤ b := by
    refine ⟨rfl, _, hBtw, fun he => ?_, fun b hb => ?_⟩
    · subst he
      refine ⟨hB04.os, hB04.tape, hB04.output, hB04.size, fun b hb hx => ?_⟩
      by_cases hbl : b = l
      · subst hbl; rw [hl4, hlw]; rfl
      · by_cases hbB : b < B0
        · exact hB04.block b hbB
        · exact hkeep b (by subst hSr; exact ⟨hb, (hXn b).1 hx, .inr (by omega)⟩) hbl
    · obtain ⟨t, ht⟩ := hb
      split at ht
      · exact (Nat.lt_irrefl 0 ht).elim
      · rcases Nat.lt_or_ge b W.heap.size with hlt | hge
        · left
          refine Classical.byContradiction fun hx => ?_
          have hown := St.lt (a := a3) hst3 t b ht
          have : Sr b := by subst hSr; exact ⟨hlt, (hXn b).1 hx, .inr hown.1⟩
          have := hst3.excl b t (hSrs b this)
          omega
        · exact .inr hge
  cases ex with
  | normal => exact ⟨_, W4, hend', hres⟩
  | ret => exact ⟨_, W4, hend', hres⟩
  | exit id => exact ⟨_, W4, hend', hres⟩
end
end Go.Lf
end

section
namespace Go.Lf
open Go Go.RowKit
section
variable {P : Program} {cx : Cx}
theorem Tri.range (hlo0 : cx.lo = 0) {t : Nat} {ps : Array Tmp} {c1 c2 : Code} {env0 env : Env} (ks : List (Nat × Wk)) (henv : keepE ks env0 = env) {f : FuncId} {cs : List AV} {xss : List (List AV)} (hg : lk env0 t = some (.fn f cs)) (hv : cs.map (remode (fun _ => .any) 12) = cs) (hseq : SeqC P f cs xss)
    (lo : Nat) (hlo : 0 < lo) (hps : ps.toList.Nodup ∧ ∀ p ∈ ps.toList, lo ≤ p ∧ p < cx.N) (hlen : ∀ xs ∈ xss, xs.length = ps.size)
    (E : Nat → Env) (rest : Env) (m : Nat) (hE0 : env = E 0 ++ rest) (hE : ∀ k, k ≤ m → EnvB lo (E k) ∧ ∀ t x, lk rest t = some x → lk (E k) t = none) (hrest : EnvF rest)
    (hrounds : ∀ k xs, k < m → xss[k]? = some xs → ∃ E1, Tri P { cx with lo := lo } c1 (ps.toList.zip xs ++ E k) .normal E1 ∧ Tri P { cx with lo := lo } c2 E1 .normal (E (k + 1)))
    {ex : Ex} {Ex' : Env} (hlast : (m = xss.length ∧ ex = .normal ∧ Ex' = E m) ∨ (ex ≠ .normal ∧ EnvB lo Ex' ∧ ∃ xs E1, xss[m]? = some xs ∧ Tri P { cx with lo := lo } c1 (ps.toList.zip xs ++ E m) .normal E1 ∧ Tri P { cx with lo := lo } c2 E1 ex Ex')) :
    Tri P cx (.rangeFunc (.tmp t) ps c1 c2) env0 ex (Ex' ++ rest) := by
  intro ρ hρ F B0 w0 S0 ds a w Q hag0 hQ
  have hρ' := hρ hlo0
  subst hρ'
  obtain ⟨h1, h2, n, S, Os0, hn, hgr, hst00⟩ := hag0
  obtain ⟨lb, nf, hev, hrc⟩ : ∃ lb nf, a.eval (.tmp t) = .func (.func f) #[] lb ∧ Rc (Rv P B0 w S nf) lb.toList cs (fun _ => 0) := by
    obtain ⟨v, hv1, hs⟩ := hst00.rel t _ hg
    have hr := hs.rv rfl
    obtain ⟨q, rfl⟩ := hr.pos
    obtain ⟨vs, rfl, hz, hrc⟩ := hr
    refine ⟨vs, q, ?_, hrc.cast fun b => (hz b).symm⟩
    simp [Act.eval, Array.getD_eq_getD_getElem?, hv1]
  obtain ⟨Os, hst0⟩ := hst00.keepE hn ks
  rw [henv] at hst0
  have hnl : ∀ {A : Env}, EnvB lo A → ∀ t x, lk (A ++ rest) t = some x → leafRoot x = none := by
    intro A hA t x hx
    rcases lkapp hx with hx | ⟨_, hx⟩
    · exact (hA t x hx).2
    · exact freeA_leaf (hrest t x hx)
  have hE0B := (hE 0 (Nat.zero_le _)).1
  have hN : a.tmps.size = cx.N := h2.1
  have hF0 : F.lo = 0 := h2.2.trans hlo0
  refine wpIn_rangeFunc fun fn _ => ?_
  obtain ⟨W1, hW1⟩ : ∃ W1, (w.alloc (.deferred (some []))).alloc (.loop (recOf fn a.tmps ps c1 c2 w.heap.size none)) = W1 := ⟨_, rfl⟩
  have hs1 : W1.heap.size = w.heap.size + 2 := by rw [← hW1]; simp
  have hB1 : Below w.heap.size w W1 := by rw [← hW1]; exact ((Below.refl _ w).alloc (Nat.le_refl _) _).alloc (by simp) _
  have hl1 : W1.heap[w.heap.size + 1]? = some (.loop (recOf fn a.tmps ps c1 c2 w.heap.size none)) := by
    rw [← hW1]; have := World.alloc_heap_new (w.alloc (.deferred (some []))) (.loop (recOf fn a.tmps ps c1 c2 w.heap.size none)); rwa [World.size_alloc] at this
  have hD1 : W1.heap[w.heap.size]? = some (.deferred (some [])) := by
    rw [← hW1]; exact (Below.heap_alloc _ _ _ (by simp)).trans (World.alloc_heap_new w _)
  have hst1 : St P F B0 w0 n (E 0 ++ rest) a.tmps W1 (fun b => S b ∨ b = w.heap.size ∨ b = w.heap.size + 1) Os := by
    refine (St.later (hE0 ▸ hst0) (hnl hE0B) hB1).share (fun b hb => .inl hb) fun b hb => ?_
    rcases hb with hb | hb
    · exact .inl hb
    · refine .inr ⟨by omega, fun t => ?_⟩
      rcases Nat.eq_zero_or_pos (Os t b) with h0 | h0
      · exact h0
      · have := (St.lt (a := a) hst0 t b h0).2; omega
  have hgr1 : Grow B0 S0 (fun b => S b ∨ b = w.heap.size ∨ b = w.heap.size + 1) := by
    refine ⟨fun b hb => .inl (hgr.1 b hb), fun b hb => ?_⟩
    rcases hb with hb | hb
    · exact hgr.2 b hb
    · have := hst0.b0; exact .inr (by omega)
  refine ⟨w.heap.size + 1, [mark w.heap.size], W1, { target := .fn (.func f) lb, args := #[.func (.yield (w.heap.size + 1)) #[] #[]] }, W1, f, #[.func (.yield (w.heap.size + 1)) #[] #[]] ++ lb, W1, ?_, ?_, fun _ _ => trivial, ?_, (fun h => nomatch h), ?_⟩
  · rw [← hW1]; exact run_enterLoop_outer _ _ _ _ _
  · simp only [resolve, hev]
    simp [go_sem]
  · have := hseq.1 (#[.func (.yield (w.heap.size + 1)) #[] #[]] ++ lb) W1
    simp [invoke, go_sem, this]
  · refine callsFi ?_
    have harg : #[Value.func (.yield (w.heap.size + 1)) #[] #[]] ++ lb = (Value.func (.yield (w.heap.size + 1)) #[] #[] :: lb.toList).toArray := by simp
    rw [harg]
    have hrc1 : Rc (Rv P W1.heap.size W1 S nf) lb.toList cs (fun _ => 0) := by
      have g1 : Rc (Rv P B0 W1 S nf) lb.toList cs (fun _ => 0) := hrc.frame (fun _ h => h) (fun b hb => hB1.block b (hst0.sLt b hb)) fun b hb => absurd hb (by simp)
      have g2 := g1.map (g := remode (fun _ => .any) 12) (R' := Rv P W1.heap.size W1 S nf) fun v x O1 hO h => Rv.viewed (fun b hb => hb) nf 12 v x O1 (fun b hb => by have := hO b; omega) h
      rwa [hv] at g2
    have hFl : ∀ b, F.b b → b ≠ w.heap.size + 1 := fun b hb e => by have := hst0.sLt b (hst0.keep b hb).1; omega
    have hB0l : B0 ≤ w.heap.size + 1 := by have := hst0.b0; omega
    refine (hseq.2 W1 S nf lb.toList (w.heap.size + 1)
      (fun k X W => k ≤ m ∧ Btw P F B0 w0 S0 S a.tmps w.heap.size (w.heap.size + 1) (recOf fn a.tmps ps c1 c2 w.heap.size) none (E k ++ rest) X W ∧ W1.heap.size ≤ W.heap.size ∧ ∀ b, S b → W.heap[b]? = W1.heap[b]?)
      (fun k W => k = m ∧ ex ≠ .normal ∧ ∃ X, Btw P F B0 w0 S0 S a.tmps w.heap.size (w.heap.size + 1) (recOf fn a.tmps ps c1 c2 w.heap.size) ex.code (Ex' ++ rest) X W)
      (fun b hb => by have := hst0.sLt b hb; omega) hrc1 ?_ ?_ ?_ ?_ (fun b => ∃ t, 0 < Os t b) ?_).mono ?_
    · rintro k X W W' ⟨hk, hb, hz, hS⟩ hB
      refine ⟨hk, hb.later (hnl (hE k hk).1) hB, Nat.le_trans hz hB.size, fun b hb' => (hB.block b ?_).trans (hS b hb')⟩
      have := hst0.sLt b hb'; omega
    · rintro k W W' ⟨hk, hne, X, hb⟩ hB
      refine ⟨hk, hne, X, hb.later (hnl ?_) hB⟩
      rcases hlast with ⟨_, h, _⟩ | ⟨_, h, _⟩
      · exact absurd h hne
      · exact h
    · rintro k X W ⟨hk, ⟨n', S', Os', hn', hgr', hst', hS', _, _, _, _, hX⟩, hz, hS⟩
      refine ⟨hz, fun b hb => ⟨hS b hb, fun hx => ?_⟩, fun b hx => ?_⟩
      · obtain ⟨t, ht⟩ := (hX b).1 hx
        have := hst'.excl b t (hS' b hb); omega
      · obtain ⟨t, ht⟩ := (hX b).1 hx
        exact (St.lt (a := a) hst' t b ht).2
    · rintro k X W xs vs S2 m2 ⟨hk, hb, hz, hS⟩ hxs hS2 hvs
      have hx : xs.length = ps.size := hlen xs (List.mem_of_getElem? hxs)
      have hS2' : ∀ b, S2 b → (S b ∨ B0 ≤ b) ∧ b < W.heap.size ∧ ¬ X b := fun b hb => ⟨(hS2 b hb).1.imp id fun h => by have := hst0.b0; omega, (hS2 b hb).2⟩
      rcases Nat.lt_or_ge k m with hkm | hkm
      · obtain ⟨E1, t1, t2⟩ := hrounds k xs hkm hxs
        obtain ⟨fn', tm', as', bo', hy, hr⟩ := round_ok hlo hF0 hN hps (hE k hk).1 hrest (hE k hk).2 (hE (k + 1) hkm).1 hFl hB0l (by omega) t1 t2 hb hS2' (hvs B0) hx
        refine ⟨fn', tm', as', bo', hy, hr.mono ?_⟩
        rintro e W' ⟨rfl, X', hb', hgw, hX'⟩
        have hgw := hgw rfl
        refine .inl ⟨rfl, X', ⟨hkm, hb', Nat.le_trans hz hgw.size, fun b hb2 => (hgw.block b ?_ fun hx => ?_).trans (hS b hb2)⟩, hgw, hX'⟩
        · have := hst0.sLt b hb2; omega
        · obtain ⟨n', S', Os', hn', hgr', hst', hS', _, _, _, _, hX⟩ := hb
          obtain ⟨t, ht⟩ := (hX b).1 hx
          have := hst'.excl b t (hS' b hb2); omega
      · have hkm' : k = m := by omega
        subst hkm'
        rcases hlast with ⟨h, _, _⟩ | ⟨hne, hEB, xs', E1, hxs', t1, t2⟩
        · have := (List.getElem?_eq_some_iff.1 hxs).1; omega
        · rw [hxs] at hxs'; injection hxs' with hxs'; subst hxs'
          obtain ⟨fn', tm', as', bo', hy, hr⟩ := round_ok hlo hF0 hN hps (hE k hk).1 hrest (hE k hk).2 hEB hFl hB0l (by omega) t1 t2 hb hS2' (hvs B0) hx
          refine ⟨fn', tm', as', bo', hy, hr.mono ?_⟩
          rintro e W' ⟨rfl, X', hb', hgw, hX'⟩
          refine .inr ⟨?_, rfl, hne, X', hb'⟩
          cases ex with
          | normal => exact absurd rfl hne
          | ret => rfl
          | exit id => rfl
    · exact ⟨Nat.zero_le _, ⟨n, _, Os, hn, hgr1, hst1, fun b hb => .inl hb, .inr (.inl rfl), .inr (.inr rfl), hl1, hD1, fun _ => Iff.rfl⟩, Nat.le_refl _, fun _ _ => rfl⟩
    · have fin : ∀ (pe : Option Code) (A : Env) (X : Nat → Prop) (W : World), Btw P F B0 w0 S0 S a.tmps w.heap.size (w.heap.size + 1) (recOf fn a.tmps ps c1 c2 w.heap.size) pe (A ++ rest) X W →
          ∃ W2, (Instr.endLoop (w.heap.size + 1)).run P W = .ok pe W2 ∧ AgM P F B0 w0 S0 cx ds (A ++ rest) { a with defers := [mark w.heap.size] ++ a.defers } W2 := by
        rintro pe A X W ⟨n', S', Os', hn', hgr', hst', hS', hD', hl', hlw, hDw, hX⟩
        have hrun := run_endLoop (P := P) hlw (by unfold recOf; cases pe <;> simp)
        refine ⟨_, hrun, [w.heap.size], n', S', Os', by simp, ?_, ?_, h2, hn', hgr', ?_⟩
        · intro D hD
          have : D = w.heap.size := by simpa using hD
          subst this
          exact ⟨hst0.below.size, hD', (World.putObj_heap_other (by omega)).trans hDw⟩
        · rw [← h1]; rfl
        · exact hst'.other (putObj_below hB0l) (fun b hb => World.putObj_heap_other (hFl b hb)) fun b o hg hd => World.putObj_heap_other fun e => by subst e; rw [hlw] at hg; injection hg with hg; subst hg; cases hd
      rintro e W ⟨⟨v, rfl⟩, h⟩
      rcases h with ⟨X, hk, hb, _, _⟩ | ⟨k, hk, rfl, hne, X, hb⟩
      · rcases hlast with ⟨hm, rfl, rfl⟩ | ⟨_, _, xs, _, hxs, _⟩
        · subst hm
          obtain ⟨W2, h3, h4⟩ := fin none _ X W hb
          exact ⟨none, W2, h3, hQ _ _ h4⟩
        · have := (List.getElem?_eq_some_iff.1 hxs).1; omega
      · obtain ⟨W2, h3, h4⟩ := fin ex.code _ X W hb
        refine ⟨ex.code, W2, h3, ?_⟩
        cases ex with
        | normal => exact absurd rfl hne
        | ret => exact wpIn_ret (hQ _ _ h4)
        | exit id => exact wpIn_exit (hQ _ _ h4)
end
end Go.Lf
end
