/- Part 4 of the evaluator and of the contracts that the claim uses. -/
import Derived.KernelRfl
import Derived.Test.YtnaikfcmegkdpaaProg
import Derived.Test.YtnaikfcmegkdpaaStacksSameLAA
import Derived.Test.YtnaikfcmegkdpaaStacksSameLAB
import Derived.Test.YtnaikfcmegkdpaaStacksSameLAC
set_option linter.unusedVariables false
set_option linter.unusedSimpArgs false
set_option linter.constructorNameAsVariable false

section
open Go Go.Lf Go.Proofs
namespace Tst
def T : Types := [(3, ⟨[.int .i64 0], 8, false, .int .i64⟩), (4, ⟨[.bool false], 1, false, .bool⟩), (5, ⟨[.int .u8 0], 1, false, .int .u8⟩), (9, ⟨[.string ⟨#[]⟩], 16, false, .str⟩), (22, ⟨[.slice none 0 0], 24, false, .slice 89⟩), (23, ⟨[.slice none 0 0], 24, false, .slice 33⟩), (30, ⟨[.int .u8 0, .int .i64 0], 16, true, .struct [(0, 1), (1, 1)]⟩), (31, ⟨[.int .u8 0], 1, false, .int .u8⟩), (33, ⟨[.int .u8 0, .int .i64 0, .bool false, .int .u8 0], 24, true, .struct [(0, 2), (2, 1), (3, 1)]⟩), (36, ⟨[.slice none 0 0], 24, false, .slice 40⟩), (38, ⟨[.bool false, .int .i64 0, .int .i64 0, .bool false, .slice none 0 0], 56, true, .struct [(0, 1), (1, 1), (2, 1), (3, 1), (4, 1)]⟩), (40, ⟨[.int .u8 0, .int .i64 0, .int .u8 0, .slice none 0 0], 48, true, .struct [(0, 1), (1, 1), (2, 1), (3, 1)]⟩), (41, ⟨[.int .i64 0], 8, false, .int .i64⟩), (47, ⟨[.int .i64 0, .bool false, .slice none 0 0], 40, true, .struct [(0, 1), (1, 1), (2, 1)]⟩), (52, ⟨[.int .u8 0, .int .u8 0], 2, true, .array 2 5⟩), (58, ⟨[.slice none 0 0], 24, false, .slice 87⟩), (59, ⟨[.int .u8 0], 1, false, .int .u8⟩), (61, ⟨[.int .u8 0, .int .i64 0], 16, true, .struct [(0, 1), (1, 1)]⟩), (62, ⟨[.slice none 0 0], 24, false, .slice 30⟩), (64, ⟨[.slice none 0 0, .slice none 0 0, .slice none 0 0, .slice none 0 0, .slice none 0 0, .slice none 0 0, .slice none 0 0, .slice none 0 0, .slice none 0 0, .slice none 0 0, .slice none 0 0, .slice none 0 0, .slice none 0 0, .slice none 0 0, .slice none 0 0, .slice none 0 0, .slice none 0 0, .slice none 0 0, .slice none 0 0, .slice none 0 0, .slice none 0 0, .slice none 0 0, .slice none 0 0, .slice none 0 0, .slice none 0 0, .slice none 0 0, .slice none 0 0, .slice none 0 0, .slice none 0 0, .slice none 0 0, .slice none 0 0, .slice none 0 0, .slice none 0 0, .slice none 0 0, .slice none 0 0, .slice none 0 0, .slice none 0 0, .slice none 0 0, .slice none 0 0, .slice none 0 0, .slice none 0 0, .slice none 0 0, .slice none 0 0, .slice none 0 0, .slice none 0 0, .slice none 0 0, .slice none 0 0, .slice none 0 0, .slice none 0 0, .slice none 0 0, .slice none 0 0, .slice none 0 0, .slice none 0 0, .slice none 0 0, .slice none 0 0, .slice none 0 0, .slice none 0 0, .slice none 0 0, .slice none 0 0, .slice none 0 0, .slice none 0 0, .slice none 0 0, .slice none 0 0, .slice none 0 0, .slice none 0 0, .slice none 0 0, .slice none 0 0, .slice none 0 0, .slice none 0 0, .slice none 0 0, .slice none 0 0, .slice none 0 0, .slice none 0 0, .slice none 0 0, .slice none 0 0, .slice none 0 0, .slice none 0 0, .slice none 0 0, .slice none 0 0, .slice none 0 0], 1920, true, .array 80 62⟩), (66, ⟨[.slice none 0 0], 24, false, .slice 62⟩), (68, ⟨[.slice none 0 0, .slice none 0 0], 48, true, .struct [(0, 1), (1, 1)]⟩), (87, ⟨[.int .u8 0, .int .u8 0], 2, true, .struct [(0, 1), (1, 1)]⟩), (89, ⟨[.int .u8 0], 1, false, .int .u8⟩), (110, ⟨[.slice none 0 0], 24, false, .slice 23⟩), (112, ⟨[.map none], 8, false, .map 30 4⟩), (115, ⟨[.int .u8 0, .int .u8 0], 2, true, .array 2 59⟩), (117, ⟨[.slice none 0 0, .slice none 0 0, .slice none 0 0, .slice none 0 0, .slice none 0 0, .slice none 0 0, .slice none 0 0, .slice none 0 0, .slice none 0 0, .slice none 0 0, .slice none 0 0, .slice none 0 0, .slice none 0 0, .slice none 0 0, .slice none 0 0, .slice none 0 0, .slice none 0 0, .slice none 0 0, .slice none 0 0, .slice none 0 0, .slice none 0 0, .slice none 0 0, .slice none 0 0, .slice none 0 0, .slice none 0 0, .slice none 0 0, .slice none 0 0, .slice none 0 0, .slice none 0 0, .slice none 0 0, .slice none 0 0, .slice none 0 0, .slice none 0 0, .slice none 0 0, .slice none 0 0, .slice none 0 0, .slice none 0 0, .slice none 0 0, .slice none 0 0, .slice none 0 0], 960, true, .array 40 62⟩), (118, ⟨[.slice none 0 0, .slice none 0 0, .slice none 0 0, .slice none 0 0, .slice none 0 0, .slice none 0 0, .slice none 0 0, .slice none 0 0, .slice none 0 0, .slice none 0 0, .slice none 0 0, .slice none 0 0, .slice none 0 0, .slice none 0 0, .slice none 0 0, .slice none 0 0, .slice none 0 0, .slice none 0 0, .slice none 0 0, .slice none 0 0, .slice none 0 0, .slice none 0 0, .slice none 0 0, .slice none 0 0, .slice none 0 0, .slice none 0 0, .slice none 0 0, .slice none 0 0, .slice none 0 0, .slice none 0 0, .slice none 0 0, .slice none 0 0, .slice none 0 0, .slice none 0 0, .slice none 0 0, .slice none 0 0, .slice none 0 0, .slice none 0 0, .slice none 0 0, .slice none 0 0, .slice none 0 0, .slice none 0 0, .slice none 0 0, .slice none 0 0, .slice none 0 0, .slice none 0 0, .slice none 0 0, .slice none 0 0, .slice none 0 0, .slice none 0 0, .slice none 0 0, .slice none 0 0, .slice none 0 0, .slice none 0 0, .slice none 0 0, .slice none 0 0, .slice none 0 0, .slice none 0 0, .slice none 0 0, .slice none 0 0, .slice none 0 0, .slice none 0 0, .slice none 0 0, .slice none 0 0, .slice none 0 0, .slice none 0 0, .slice none 0 0, .slice none 0 0, .slice none 0 0, .slice none 0 0, .slice none 0 0, .slice none 0 0, .slice none 0 0, .slice none 0 0, .slice none 0 0, .slice none 0 0, .slice none 0 0, .slice none 0 0, .slice none 0 0, .slice none 0 0], 1920, true, .array 2 117⟩)]
theorem tyOk : ∀ t i, tyF T t = some i → TyOk Try.prog t i := tyOk_of (by kernel_rfl)
def h3 : Hints := ⟨fun n => match n with | 0 => [0, 1] | 1 => [0, 1, 17] | 2 => [4] | 3 => [5] | 4 => [5, 6] | 5 => [5, 6, 7] | 6 => [5, 6, 7, 8] | 7 => [7, 50] | 8 => [4] | 9 => [7, 9] | 10 => [7, 9, 55] | 11 => [7, 9] | 12 => [7, 9, 68] | 13 => [4] | 14 => [4] | _ => [], fun n => match n with | 10 => [(7, .keep), (9, .keep)] | _ => []⟩
def h4 : Hints := ⟨fun n => match n with | 0 => [0, 1, 2] | 1 => [0, 1, 2, 27] | 2 => [6] | 3 => [2, 7, 8] | 4 => [2, 7, 8, 9] | 5 => [2, 7, 8, 49] | 6 => [6] | 7 => [2, 7, 8, 10] | 8 => [2, 10, 11] | 9 => [2, 67] | 10 => [6] | 11 => [2, 12] | 12 => [2, 12, 81] | 13 => [6] | 14 => [2, 12, 13] | 15 => [2, 12, 13, 85] | 16 => [2, 12, 13] | 17 => [2, 12, 13, 14] | 18 => [2, 12, 13, 14, 98] | 19 => [2, 12, 13, 14] | 20 => [2, 12, 13, 14] | 21 => [2, 12, 13, 106] | 22 => [6] | 23 => [6] | _ => [], fun n => match n with | 15 => [(2, .keep), (12, .keep), (13, .keep)] | _ => []⟩
def h5 : Hints := ⟨fun n => match n with | 0 => [0] | 1 => [0, 17] | 2 => [2] | 3 => [0, 3] | 4 => [0, 3, 4, 5, 6, 7] | 5 => [0, 3, 4, 5, 6, 7, 8] | 6 => [0, 3, 4, 5, 6, 7, 8, 9] | 7 => [0, 3, 4, 5, 6, 7, 8, 9, 22] | 8 => [0, 3, 4, 5, 6, 7, 8, 9] | 9 => [0, 3, 4, 5, 6, 7, 8, 9, 31] | 10 => [2] | 11 => [0, 3, 4, 5, 6, 7, 8, 9] | 12 => [0, 3, 4, 5, 6, 7, 8, 9, 11] | 13 => [0, 3, 4, 5, 6, 7, 8, 9, 11, 12] | 14 => [0, 3, 4, 5, 6, 7, 8, 9, 11, 12, 38] | 15 => [0, 3, 4, 5, 6, 7, 8, 9, 11, 12, 14] | 16 => [0, 3, 4, 5, 6, 7, 8, 9, 10, 11, 12, 14] | 17 => [0, 3, 4, 5, 6, 7, 8, 9, 10, 11, 12, 14, 46] | 18 => [0, 3, 4, 5, 6, 7, 8, 9, 10, 11, 12, 14] | 19 => [0, 3, 4, 5, 6, 7, 8, 9, 10, 11, 12, 59] | 20 => [2] | 21 => [0, 3, 4, 5, 6, 9, 10, 11, 12, 80] | 22 => [2] | 23 => [0, 3, 4, 5, 6, 9, 10, 11, 12] | 24 => [0, 3, 4, 5, 6, 7, 8, 9, 10, 11, 12] | 25 => [0, 3, 4, 5, 6, 7, 8, 9, 11, 12, 38, 83] | 26 => [0, 3, 4, 5, 6, 7, 8, 9, 10, 11, 12] | 27 => [0, 3, 4, 6, 7, 8, 9, 10, 11, 12] | 28 => [0, 3, 4, 5, 6, 7, 8, 9, 10, 11, 12] | 29 => [0, 3, 4, 5, 6, 7, 8, 9, 10, 11, 12, 100] | 30 => [0, 3, 4, 5, 6, 7, 8, 9, 10, 11, 12] | 31 => [0, 3, 4, 5, 6, 7, 8, 9, 10, 11, 12, 101] | 32 => [0, 3, 4, 5, 6, 7, 8, 9, 10, 11, 12] | 33 => [0, 3, 4, 5, 6, 7, 8, 9, 10, 11, 12, 108] | 34 => [0, 3, 4, 5, 6, 7, 8, 9, 10, 11, 12] | 35 => [0, 3, 4, 5, 6, 7, 8, 9, 11, 12, 38, 110] | 36 => [0, 3, 4, 5, 6, 7, 8, 9, 10, 11, 12] | 37 => [0, 3, 4, 5, 6, 7, 8, 9, 10, 11, 12, 117] | 38 => [0, 3, 4, 5, 6, 7, 8, 9, 10, 11, 12] | 39 => [0, 3, 4, 5, 6, 7, 8, 9, 10, 11, 12] | 40 => [0, 3, 4, 5, 6, 7, 8, 9, 11, 12, 118] | 41 => [0, 3, 4, 5, 6, 7, 8, 9, 11, 12, 13] | 42 => [0, 3, 4, 5, 6, 7, 8, 9, 10, 11, 12, 13] | 43 => [0, 3, 4, 5, 6, 7, 8, 9, 10, 11, 12, 13] | 44 => [0, 3, 4, 5, 6, 7, 8, 9, 10, 11, 12] | 45 => [0, 3, 4, 5, 6, 7, 8, 9, 10, 11, 12, 13, 148] | 46 => [0, 3, 4, 5, 6, 7, 8, 9, 10, 11, 12] | 47 => [0, 3, 4, 5, 6, 7, 8, 9, 10, 11, 12, 13, 172] | 48 => [0, 3, 4, 5, 6, 7, 8, 9, 10, 11, 12] | 49 => [0, 3, 4, 5, 6, 7, 8, 9, 10, 11, 177] | 50 => [2] | 51 => [0, 3, 4, 5, 6, 7, 8, 9, 11, 179] | 52 => [0, 3, 4, 5, 6, 7, 8, 9, 191] | 53 => [2] | 54 => [0, 3, 4, 5, 6, 7, 8, 9] | 55 => [0, 3, 4, 5, 6, 7, 8, 9, 230] | 56 => [2] | 57 => [2] | _ => [], fun n => match n with | 7 => [(0, .keep), (3, .keep), (4, .keep), (5, .keep), (6, .keep), (7, .keep), (8, .keep), (9, .keep)] | _ => []⟩
def h6 : Hints := ⟨fun n => match n with | 0 => [0, 1, 5] | 1 => [0, 1, 5, 22] | 2 => [6] | 3 => [0, 1, 7, 8] | 4 => [0, 1, 7, 8, 9, 10] | 5 => [0, 1, 7, 8, 9, 42] | 6 => [6] | 7 => [1, 7, 8, 9, 10] | 8 => [1, 7, 8, 9, 10, 11, 12] | 9 => [8, 9, 10, 11, 12, 13, 14] | 10 => [8, 9, 11, 13, 77] | 11 => [6] | 12 => [6] | _ => [], fun n => match n with | _ => []⟩
def h7 : Hints := ⟨fun n => match n with | 0 => [2, 3] | 1 => [2, 3, 24] | 2 => [4] | 3 => [2, 46] | 4 => [4] | 5 => [2, 5] | 6 => [2, 5, 56] | 7 => [2, 5] | 8 => [2, 5] | 9 => [2, 5, 6] | 10 => [2, 5, 6, 95] | 11 => [2, 5, 6] | 12 => [2, 5, 6, 7] | 13 => [2, 5, 6, 144] | 14 => [2, 5, 6] | 15 => [2, 146] | 16 => [2, 9] | 17 => [2, 9, 11] | 18 => [2, 9, 11, 13] | 19 => [2, 9, 11, 13, 16] | 20 => [4] | 21 => [2, 19] | 22 => [2, 19, 20] | 23 => [2, 19, 20, 198] | 24 => [2, 19, 20] | 25 => [2, 19, 20, 201] | 26 => [2, 19, 20] | 27 => [4] | _ => [], fun n => match n with | 10 => [(2, .keep), (5, .keep), (6, .keep)] | _ => []⟩
def h8 : Hints := ⟨fun n => match n with | 0 => [0, 3] | 1 => [3, 5] | 2 => [3, 5, 6] | 3 => [3, 5, 6, 7] | 4 => [3, 5, 6, 7, 21] | 5 => [3, 5, 6, 7] | 6 => [3, 5, 6, 7] | 7 => [3, 5, 6, 8, 9] | 8 => [3, 5, 6, 8, 37] | 9 => [4] | 10 => [3, 5, 6, 8, 9, 10] | 11 => [3, 5, 6, 8, 9, 10, 11] | 12 => [3, 5, 6, 8, 9, 10, 11, 45] | 13 => [3, 5, 6, 8, 9, 10, 11] | 14 => [3, 6, 8, 59] | 15 => [4] | 16 => [3, 9] | 17 => [9, 12] | 18 => [4] | _ => [], fun n => match n with | 4 => [(3, .keep), (5, .keep), (6, .keep), (7, .keep)] | _ => []⟩
def h28 : Hints := ⟨fun n => match n with | 0 => [1] | 1 => [2] | _ => [], fun n => match n with | _ => []⟩
def h29 : Hints := ⟨fun n => match n with | 0 => [0, 2] | 1 => [0, 2, 3] | 2 => [0, 2, 3, 4] | 3 => [0, 2, 3, 4, 5] | 4 => [0, 2, 3, 4, 5, 15] | 5 => [0, 2, 3, 4, 5] | 6 => [0, 2, 3, 4, 5, 6] | 7 => [0, 2, 3, 4, 5, 6, 7] | 8 => [0, 2, 3, 4, 5, 6, 7, 39] | 9 => [0, 2, 3, 4, 5, 6, 7] | 10 => [0, 2, 3, 4, 5, 6, 7] | 11 => [0, 2, 3, 4, 5, 6, 7] | 12 => [2] | _ => [], fun n => match n with | 4 => [(0, .keep), (2, .keep), (3, .keep), (4, .keep), (5, .keep)] | 8 => [(0, .keep), (2, .keep), (3, .keep), (4, .keep), (5, .keep), (6, .keep), (7, .keep)] | _ => []⟩
def h30 : Hints := ⟨fun n => match n with | 0 => [1, 2] | 1 => [1, 2, 3] | 2 => [1, 2, 3, 4] | 3 => [1, 2, 3, 4, 8] | 4 => [1, 2, 3, 4] | 5 => [1, 2, 3, 4, 21] | 6 => [1, 2, 3, 4] | 7 => [1, 2, 3, 4, 37] | 8 => [1, 2, 3, 4] | 9 => [1, 2, 3, 5] | 10 => [1, 2, 3, 5, 46] | 11 => [1, 2, 3, 5] | 12 => [1, 2, 3, 5] | 13 => [1, 2, 3, 6] | 14 => [1, 2, 3, 6, 62] | 15 => [1, 2, 3, 6] | 16 => [1, 2, 3, 6] | 17 => [2] | _ => [], fun n => match n with | 3 => [(1, .keep), (2, .keep), (3, .keep), (4, .keep)] | 10 => [(1, .keep), (2, .keep), (3, .keep), (5, .keep)] | 14 => [(1, .keep), (2, .keep), (3, .keep), (6, .keep)] | _ => []⟩
def h33 : Hints := ⟨fun n => match n with | 0 => [2, 3] | 1 => [2, 3, 7] | 2 => [4] | 3 => [4] | _ => [], fun n => match n with | _ => []⟩
def h39 : Hints := ⟨fun n => match n with | 0 => [2, 3] | 1 => [4] | _ => [], fun n => match n with | _ => []⟩
def h41 : Hints := ⟨fun n => match n with | 0 => [0, 1] | 1 => [0, 1, 17] | 2 => [4] | 3 => [0, 1, 5] | 4 => [0, 1, 5, 21] | 5 => [0, 1, 5] | 6 => [0, 1, 5, 32] | 7 => [4] | 8 => [4] | _ => [], fun n => match n with | 4 => [(0, .keep), (1, .keep), (5, .keep)] | _ => []⟩
def h56 : Hints := ⟨fun n => match n with | 0 => [1] | 1 => [16] | 2 => [2] | 3 => [2] | _ => [], fun n => match n with | _ => []⟩
def h57 : Hints := ⟨fun n => match n with | 0 => [0, 3] | 1 => [0, 3, 6] | 2 => [2, 3] | 3 => [0, 3] | 4 => [3] | 5 => [2, 3] | _ => [], fun n => match n with | _ => []⟩
def h58 : Hints := ⟨fun n => match n with | 0 => [0, 1] | 1 => [0, 1, 8] | 2 => [4] | 3 => [4] | _ => [], fun n => match n with | _ => []⟩
def h59 : Hints := ⟨fun n => match n with | 0 => [1, 2] | 1 => [2, 6] | 2 => [2, 4] | 3 => [2, 4] | _ => [], fun n => match n with | _ => []⟩
def h61 : Hints := ⟨fun n => match n with | 0 => [0, 3] | 1 => [4] | _ => [], fun n => match n with | _ => []⟩
def h62 : Hints := ⟨fun n => match n with | 0 => [0] | 1 => [5, 6, 7] | 2 => [5, 6, 7, 8] | 3 => [4, 5, 6, 7] | 4 => [5, 6, 7, 13] | 5 => [2] | 6 => [5, 6, 7] | 7 => [2] | _ => [], fun n => match n with | 2 => [(5, .keep), (6, .keep), (7, .keep)] | _ => []⟩
def h64 : Hints := ⟨fun n => match n with | 0 => [0, 1] | 1 => [0, 1, 10, 11] | 2 => [0, 1, 10, 11, 12] | 3 => [0, 1, 5, 10, 11] | 4 => [0, 1, 10, 11, 21] | 5 => [4] | 6 => [0, 1, 10, 11] | 7 => [4] | _ => [], fun n => match n with | 2 => [(0, .keep), (1, .keep), (10, .keep), (11, .keep)] | _ => []⟩
def h68 : Hints := ⟨fun n => match n with | 0 => [0] | 1 => [3] | 2 => [3, 4] | 3 => [2] | 4 => [6] | 5 => [2] | 6 => [2] | _ => [], fun n => match n with | _ => []⟩
def h70 : Hints := ⟨fun n => match n with | 0 => [0, 3] | 1 => [0, 3, 7, 8] | 2 => [0, 3, 7, 8, 9] | 3 => [0, 3, 5, 7, 8] | 4 => [0, 3, 5, 7, 8, 16] | 5 => [4] | 6 => [0, 3, 7, 8] | 7 => [4] | _ => [], fun n => match n with | 2 => [(0, .keep), (3, .keep), (7, .keep), (8, .keep)] | _ => []⟩
def h71 : Hints := ⟨fun n => match n with | 0 => [0, 4] | 1 => [0, 3, 4] | 2 => [0, 3, 4, 18] | 3 => [0, 3, 4] | 4 => [0, 3, 4, 22] | 5 => [2, 4] | 6 => [0, 4] | 7 => [0, 4, 26, 27] | 8 => [0, 4, 26, 27, 28] | 9 => [0, 4, 5, 26, 27] | 10 => [0, 4, 26, 27] | 11 => [0, 4, 26, 27] | 12 => [2, 4] | _ => [], fun n => match n with | 2 => [(0, .keep), (3, .keep), (4, .keep)] | 8 => [(0, .keep), (4, .keep), (26, .keep), (27, .keep)] | _ => []⟩
def h72 : Hints := ⟨fun n => match n with | 0 => [0, 1] | 1 => [0, 1, 10] | 2 => [4] | 3 => [0, 1, 12, 13] | 4 => [0, 1, 12, 13, 14] | 5 => [0, 1, 5, 12, 13] | 6 => [0, 1, 12, 13, 24] | 7 => [4] | 8 => [0, 1, 12, 13] | 9 => [4] | _ => [], fun n => match n with | 4 => [(0, .keep), (1, .keep), (12, .keep), (13, .keep)] | _ => []⟩
def h73 : Hints := ⟨fun n => match n with | 0 => [0, 1, 22] | 1 => [0, 1, 6, 22] | 2 => [0, 1, 22] | 3 => [0, 1, 22] | 4 => [0, 1, 16, 22] | 5 => [0, 22] | 6 => [0, 4, 22] | _ => [], fun n => match n with | _ => []⟩
def h65 : Hints := ⟨fun n => match n with | 0 => [0] | 1 => [0, 3] | 2 => [0, 3, 9, 10, 11] | 3 => [0, 3, 9, 10, 11, 12] | 4 => [0, 3, 5, 9, 10, 11] | 5 => [0, 3, 9, 10, 11] | 6 => [0, 3, 9, 10, 11, 20] | 7 => [0, 3, 9, 10, 11] | 8 => [0, 3, 9, 10, 11] | 9 => [0, 6] | 10 => [6, 25, 26, 27] | 11 => [6, 25, 26, 27, 28] | 12 => [6, 8, 25, 26, 27] | 13 => [6, 25, 26, 27] | 14 => [6, 25, 26, 27] | 15 => [2, 6] | _ => [], fun n => match n with | 3 => [(0, .keep), (3, .keep), (9, .keep), (10, .keep), (11, .keep)] | 11 => [(6, .keep), (25, .keep), (26, .keep), (27, .keep)] | _ => []⟩
def h63 : Hints := ⟨fun n => match n with | 0 => [2, 3, 4, 6] | 1 => [2, 3, 4, 6, 7] | 2 => [2, 4, 6, 7, 11] | 3 => [2, 4, 6, 7, 8, 13] | 4 => [2, 4, 6, 7, 8, 9] | 5 => [2, 4, 6, 7] | 6 => [6, 7] | 7 => [6] | _ => [], fun n => match n with | _ => []⟩
def h31 : Hints := ⟨fun n => match n with | 0 => [1] | 1 => [1, 3] | 2 => [2] | 3 => [1, 6] | 4 => [2] | 5 => [10] | 6 => [2] | 7 => [2] | _ => [], fun n => match n with | _ => []⟩
def h38 : Hints := ⟨fun n => match n with | 0 => [2, 3, 4, 6] | 1 => [2, 3, 4, 6, 8] | 2 => [2, 3, 4, 6, 8, 13] | 3 => [6, 7] | 4 => [2, 3, 4, 6, 23] | 5 => [6, 7] | 6 => [2, 3, 4, 6, 27] | 7 => [6, 7] | 8 => [6, 9] | 9 => [6, 9, 34] | 10 => [6, 7] | 11 => [6, 7] | _ => [], fun n => match n with | _ => []⟩
def h40 : Hints := ⟨fun n => match n with | 0 => [3, 4, 5, 6] | 1 => [3, 4, 5, 6, 8] | 2 => [3, 4, 5, 6, 8, 15] | 3 => [6, 7] | 4 => [3, 4, 5, 6, 32] | 5 => [6, 7] | 6 => [3, 4, 5, 6, 9, 10] | 7 => [3, 4, 5, 6, 9, 10, 42] | 8 => [6, 7] | 9 => [3, 4, 5, 6, 9, 10, 49] | 10 => [6, 7] | 11 => [3, 4, 5, 6, 9, 10, 11] | 12 => [3, 4, 5, 6, 9, 10, 11, 57] | 13 => [3, 4, 5, 6, 11] | 14 => [6, 7] | _ => [], fun n => match n with | _ => []⟩
def h35 : Hints := ⟨fun n => match n with | 0 => [2, 3, 4, 5] | 1 => [3, 4, 5, 9] | 2 => [3, 4, 5, 6, 11] | 3 => [3, 4, 5, 6, 7] | 4 => [3, 4, 5, 6, 14] | 5 => [4, 5] | 6 => [4, 5] | _ => [], fun n => match n with | _ => []⟩
def h36 : Hints := ⟨fun n => match n with | 0 => [1] | 1 => [1, 3] | 2 => [3, 7] | 3 => [3, 5] | 4 => [3] | 5 => [2] | _ => [], fun n => match n with | _ => []⟩
def h53 : Hints := ⟨fun n => match n with | 0 => [1, 2] | 1 => [1, 2, 14] | 2 => [2] | 3 => [2, 16] | 4 => [2, 4] | 5 => [2, 21] | 6 => [2] | 7 => [2] | _ => [], fun n => match n with | _ => []⟩
def h54 : Hints := ⟨fun n => match n with | 0 => [1, 2] | 1 => [2, 6] | 2 => [2, 4] | 3 => [2, 11] | 4 => [2] | 5 => [2] | _ => [], fun n => match n with | _ => []⟩
def h55 : Hints := ⟨fun n => match n with | 0 => [1, 2] | 1 => [0, 1, 2, 3] | 2 => [0, 2, 3, 10] | 3 => [0, 2, 3, 5] | 4 => [0, 2, 3, 5, 13, 14, 15] | 5 => [0, 2, 3, 5, 13, 14, 15, 16] | 6 => [0, 2, 3, 5, 7, 13, 14, 15] | 7 => [0, 2, 3, 5, 7, 13, 14, 15, 21] | 8 => [0, 2] | 9 => [0, 2, 3, 5, 13, 14, 15] | 10 => [0, 2, 3, 5, 13, 14, 15] | 11 => [0, 2] | _ => [], fun n => match n with | 5 => [(0, .keep), (2, .keep), (3, .keep), (5, .keep), (13, .keep), (14, .keep), (15, .keep)] | _ => []⟩
def h60 : Hints := ⟨fun n => match n with | 0 => [1] | 1 => [2] | _ => [], fun n => match n with | _ => []⟩
def h69 : Hints := ⟨fun n => match n with | 0 => [0, 1, 7, 8] | 1 => [0, 1, 7, 8, 9] | 2 => [0, 1, 4, 7, 8] | 3 => [0, 1, 4, 7, 8, 13, 14, 15] | 4 => [0, 1, 4, 7, 8, 13, 14, 15, 16] | 5 => [0, 1, 4, 5, 6, 7, 8, 13, 14, 15] | 6 => [0, 1, 4, 5, 6, 7, 8, 13, 14, 15, 21] | 7 => [0, 1, 4, 7, 8, 13, 14, 15, 29] | 8 => [0, 1, 4, 7, 8, 13, 14, 15] | 9 => [0, 1, 7, 8] | _ => [], fun n => match n with | 1 => [(0, .keep), (1, .keep), (7, .keep), (8, .keep)] | 4 => [(0, .keep), (1, .keep), (4, .keep), (7, .keep), (8, .keep), (13, .keep), (14, .keep), (15, .keep)] | _ => []⟩
def h37 : Hints := ⟨fun n => match n with | 0 => [] | 1 => [1, 2, 3] | 2 => [1, 2, 3, 4] | 3 => [1, 2, 3, 4, 5, 6, 7] | 4 => [1, 2, 3, 4, 5, 6, 7, 8, 9] | 5 => [1, 2, 3, 4, 5, 6, 7, 67] | 6 => [0] | 7 => [1, 2, 3, 4, 5, 6, 7, 9, 10] | 8 => [1, 2, 3, 4, 5, 6, 7, 9, 10, 11, 12] | 9 => [1, 2, 3, 4, 5, 6, 7, 9, 10, 11, 12, 14] | 10 => [1, 2, 3, 4, 5, 6, 7, 9, 10, 11, 12, 14, 16] | 11 => [2, 3, 4, 5, 6, 10, 137] | 12 => [0] | 13 => [2, 4, 6, 9, 10] | 14 => [2, 6, 9, 10, 12] | 15 => [0] | _ => [], fun n => match n with | _ => []⟩
def h9 : Hints := ⟨fun n => match n with | 0 => [0, 4, 5] | 1 => [4, 5, 7] | 2 => [4, 5, 7, 8] | 3 => [4, 5, 7, 8, 29] | 4 => [6] | 5 => [4, 5, 7, 8, 42] | 6 => [5, 7, 8, 47] | 7 => [6] | 8 => [5, 7, 8, 9] | 9 => [5, 7, 8, 9, 10] | 10 => [5, 7, 8, 9, 10, 11] | 11 => [5, 7, 8, 9, 10, 11, 12] | 12 => [5, 7, 8, 9, 10, 11, 12, 49] | 13 => [5, 7, 8, 9, 10, 11, 12] | 14 => [5, 7, 8, 9, 10, 11, 12] | 15 => [5, 7, 8, 9, 10, 11, 12, 13] | 16 => [5, 7, 8, 9, 10, 11, 12, 13, 63] | 17 => [5, 7, 8, 9, 10, 11, 12, 13] | 18 => [5, 7, 8, 9, 10, 11, 12, 13, 73] | 19 => [5, 7, 8, 9, 10, 11, 12, 13] | 20 => [5, 7, 8, 9, 10, 11, 12, 13] | 21 => [8, 9, 10, 11, 14, 15] | 22 => [8, 9, 10, 11, 14, 15, 16] | 23 => [8, 9, 10, 14, 15, 16, 86] | 24 => [8, 9, 10, 14, 15, 16] | 25 => [6] | _ => [], fun n => match n with | 12 => [(5, .keep), (7, .keep), (8, .keep), (9, .keep), (10, .keep), (11, .keep), (12, .keep)] | 16 => [(5, .keep), (7, .keep), (8, .keep), (9, .keep), (10, .keep), (11, .keep), (12, .keep), (13, .keep)] | _ => []⟩
def h10 : Hints := ⟨fun n => match n with | 0 => [0, 2, 4] | 1 => [0, 2, 4, 22] | 2 => [6] | 3 => [2, 4, 7] | 4 => [2, 4, 7, 8] | 5 => [2, 4, 7, 8, 9, 10] | 6 => [2, 4, 7, 8, 9, 10, 11] | 7 => [2, 4, 7, 8, 9, 10, 11, 12] | 8 => [2, 4, 7, 8, 9, 10, 11, 12, 13] | 9 => [2, 4, 7, 8, 9, 10, 11, 12, 13, 36] | 10 => [2, 4, 7, 8, 9, 10, 11, 12, 13] | 11 => [2, 4, 7, 8, 9, 10, 11, 12, 13, 43] | 12 => [2, 4, 7, 8, 9, 10, 11, 12, 13] | 13 => [2, 4, 7, 8, 9, 10, 11, 12, 46] | 14 => [2, 4, 7, 8, 9, 10, 11, 12] | 15 => [2, 4, 7, 8, 9, 10, 11, 12, 14] | 16 => [2, 4, 7, 8, 9, 10, 11, 12, 14, 50] | 17 => [2, 4, 7, 8, 9, 10, 11, 12, 14] | 18 => [2, 4, 7, 8, 9, 10, 11, 12, 14, 82] | 19 => [2, 4, 7, 8, 9, 10, 11, 12, 14] | 20 => [2, 4, 7, 8, 9, 10, 11, 12, 89] | 21 => [2, 4, 7, 8, 9, 10, 11, 12] | 22 => [2, 4, 7, 8, 9, 10, 11, 12, 15] | 23 => [2, 4, 7, 8, 9, 10, 11, 12, 15, 97] | 24 => [2, 4, 7, 8, 9, 10, 11, 12, 15] | 25 => [2, 4, 7, 8, 9, 10, 11, 12, 15, 16] | 26 => [2, 4, 7, 8, 9, 10, 11, 12, 15, 16, 102] | 27 => [2, 4, 7, 8, 9, 10, 11, 12, 15, 16] | 28 => [2, 4, 7, 8, 9, 10, 11, 12, 15, 16, 113] | 29 => [2, 4, 7, 8, 9, 10, 11, 12, 15, 16] | 30 => [2, 4, 7, 8, 9, 10, 11, 12, 15, 17] | 31 => [2, 4, 7, 8, 9, 10, 11, 12, 15, 17, 115] | 32 => [2, 4, 7, 8, 9, 10, 11, 12, 15, 17] | 33 => [2, 4, 7, 8, 9, 10, 11, 12, 15, 17, 18] | 34 => [2, 4, 7, 8, 9, 10, 11, 12, 15, 17, 18, 128] | 35 => [2, 4, 7, 8, 9, 10, 11, 12, 15, 17, 18] | 36 => [2, 4, 7, 8, 9, 10, 11, 12, 15, 17, 18, 141] | 37 => [2, 4, 7, 8, 9, 10, 11, 12, 15, 17, 18] | 38 => [2, 4, 7, 9, 10, 12, 150] | 39 => [6] | 40 => [2, 4, 7, 9, 12, 152] | 41 => [6] | 42 => [4, 7, 9] | 43 => [4, 9, 174] | 44 => [6] | 45 => [9, 10, 19] | 46 => [6] | _ => [], fun n => match n with | 9 => [(2, .keep), (4, .keep), (7, .keep), (8, .keep), (9, .keep), (10, .keep), (11, .keep), (12, .keep), (13, .keep)] | 16 => [(2, .keep), (4, .keep), (7, .keep), (8, .keep), (9, .keep), (10, .keep), (11, .keep), (12, .keep), (14, .keep)] | 23 => [(2, .keep), (4, .keep), (7, .keep), (8, .keep), (9, .keep), (10, .keep), (11, .keep), (12, .keep), (15, .keep)] | 26 => [(2, .keep), (4, .keep), (7, .keep), (8, .keep), (9, .keep), (10, .keep), (11, .keep), (12, .keep), (15, .keep), (16, .keep)] | 31 => [(2, .keep), (4, .keep), (7, .keep), (8, .keep), (9, .keep), (10, .keep), (11, .keep), (12, .keep), (15, .keep), (17, .keep)] | 34 => [(2, .keep), (4, .keep), (7, .keep), (8, .keep), (9, .keep), (10, .keep), (11, .keep), (12, .keep), (15, .keep), (17, .keep), (18, .keep)] | _ => []⟩
def h13 : Hints := ⟨fun n => match n with | 0 => [0, 1, 5] | 1 => [5, 7, 8] | 2 => [5, 7, 8, 22] | 3 => [5, 7, 8] | 4 => [5, 7, 8, 27] | 5 => [5, 7, 8, 9] | 6 => [5, 7, 8] | 7 => [5, 7, 8, 10] | 8 => [5, 7, 8, 10, 11] | 9 => [5, 7, 8, 10, 11, 44] | 10 => [5, 7, 8, 10, 11] | 11 => [5, 7, 8, 10, 11, 60] | 12 => [5, 7, 8, 10, 11] | 13 => [5, 10, 12, 13] | 14 => [5, 10, 12, 13, 14] | 15 => [5, 10, 12, 13, 14, 70] | 16 => [5, 10, 12, 13, 14] | 17 => [5, 10, 12, 13, 14] | 18 => [5, 10, 12, 13, 14] | 19 => [6] | _ => [], fun n => match n with | 9 => [(5, .keep), (7, .keep), (8, .keep), (10, .keep), (11, .keep)] | 15 => [(5, .keep), (10, .keep), (12, .keep), (13, .keep), (14, .keep)] | _ => []⟩
theorem run_sizeOf_30 (w : World) : (Go.sizeOf 30).run Try.prog w = .ok 2 w := by
  have h : (Try.prog.info? 30).map (·.size) = some 2 := by kernel_rfl
  cases hq : Try.prog.info? 30 with
  | none => rw [hq] at h; cases h
  | some i => rw [hq] at h; simp at h; simp [Go.sizeOf, typeInfo, hq, h]
theorem held30 : Try.prog.stoodInHeld 30 = false := by kernel_rfl
theorem eqIn30 (k : Nat) (w : World) (x0 : Int) (x1 : Int) (y0 : Int) (y1 : Int) : (Op.equalIn (k + 2) 30 (.agg #[.int .u8 x0, .int .i64 x1]) (.agg #[.int .u8 y0, .int .i64 y1])).run Try.prog w = .ok ((x0 == y0) && (x1 == y1)) w := by
  have p0 : ∀ (a0 : Int) (a1 : Int) (w : World), (part 5 #[.int .u8 a0, .int .i64 a1] 0).run Try.prog w = .ok (.int .u8 a0) w := by
    intros; simp [part, isAgg, run_underlying Try.underlying5]
  have p1 : ∀ (a0 : Int) (a1 : Int) (w : World), (part 3 #[.int .u8 a0, .int .i64 a1] 1).run Try.prog w = .ok (.int .i64 a1) w := by
    intros; simp [part, isAgg, run_underlying Try.underlying3]
  rw [run_equalIn_agg w (k + 1) 30 _ _ (by kernel_rfl) held30]
  have hf : (Try.prog.fieldsOf 30).toList = [{ name := "Yarn", type := 5, offset := 0, embedded := false, tag := "", pkgPath := "", byteOffset := 0 }, { name := "N", type := 3, offset := 1, embedded := false, tag := "", pkgPath := "", byteOffset := 8 }] := by simp [Program.fieldsOf, Try.underlying30]
  rw [hf]
  simp only [Op.eqFields]
  rw [if_pos (by decide), if_pos (by decide)]
  have q0 := fun (w : World) => run_equalIn_int w (k + 0) 5 .u8 .u8 x0 y0 Try.underlying5
  have q1 := fun (w : World) => run_equalIn_int w (k + 0) 3 .i64 .i64 x1 y1 Try.underlying3
  generalize h0 : (x0 == y0) = b0 at *
  generalize h1 : (x1 == y1) = b1 at *
  simp only [Sem.run_bind, Result.andThen_ok, p0, q0, p1, q1]
  cases b0 <;> cases b1 <;> simp [p0, q0, p1, q1]
theorem held33 : Try.prog.stoodInHeld 33 = false := by kernel_rfl
theorem eqIn33 (k : Nat) (w : World) (x0 : Int) (x1 : Int) (x2 : Bool) (x3 : Int) (y0 : Int) (y1 : Int) (y2 : Bool) (y3 : Int) : (Op.equalIn (k + 3) 33 (.agg #[.int .u8 x0, .int .i64 x1, .bool x2, .int .u8 x3]) (.agg #[.int .u8 y0, .int .i64 y1, .bool y2, .int .u8 y3])).run Try.prog w = .ok (((x0 == y0) && (x1 == y1)) && (x2 == y2) && (x3 == y3)) w := by
  have p0 : ∀ (a0 : Int) (a1 : Int) (a2 : Bool) (a3 : Int) (w : World), (part 30 #[.int .u8 a0, .int .i64 a1, .bool a2, .int .u8 a3] 0).run Try.prog w = .ok (.agg #[.int .u8 a0, .int .i64 a1]) w := by
    intros; simp [part, isAgg, run_underlying Try.underlying30, run_sizeOf_30]
  have p1 : ∀ (a0 : Int) (a1 : Int) (a2 : Bool) (a3 : Int) (w : World), (part 4 #[.int .u8 a0, .int .i64 a1, .bool a2, .int .u8 a3] 2).run Try.prog w = .ok (.bool a2) w := by
    intros; simp [part, isAgg, run_underlying Try.underlying4]
  have p2 : ∀ (a0 : Int) (a1 : Int) (a2 : Bool) (a3 : Int) (w : World), (part 31 #[.int .u8 a0, .int .i64 a1, .bool a2, .int .u8 a3] 3).run Try.prog w = .ok (.int .u8 a3) w := by
    intros; simp [part, isAgg, run_underlying Try.underlying31]
  rw [run_equalIn_agg w (k + 2) 33 _ _ (by kernel_rfl) held33]
  have hf : (Try.prog.fieldsOf 33).toList = [{ name := "Id", type := 30, offset := 0, embedded := false, tag := "", pkgPath := "", byteOffset := 0 }, { name := "Front", type := 4, offset := 2, embedded := false, tag := "", pkgPath := "", byteOffset := 16 }, { name := "Dir", type := 31, offset := 3, embedded := false, tag := "", pkgPath := "", byteOffset := 17 }] := by simp [Program.fieldsOf, Try.underlying33]
  rw [hf]
  simp only [Op.eqFields]
  rw [if_pos (by decide), if_pos (by decide), if_pos (by decide)]
  have q0 := fun (w : World) => eqIn30 (k + 0) w x0 x1 y0 y1
  have q1 := fun (w : World) => run_equalIn_bool' w (k + 1) 4 x2 y2 Try.underlying4
  have q2 := fun (w : World) => run_equalIn_int w (k + 1) 31 .u8 .u8 x3 y3 Try.underlying31
  generalize h0 : ((x0 == y0) && (x1 == y1)) = b0 at *
  generalize h1 : (x2 == y2) = b1 at *
  generalize h2 : (x3 == y3) = b2 at *
  simp only [Sem.run_bind, Result.andThen_ok, p0, q0, p1, q1, p2, q2]
  cases b0 <;> cases b1 <;> cases b2 <;> simp [p0, q0, p1, q1, p2, q2]
theorem held61 : Try.prog.stoodInHeld 61 = false := by kernel_rfl
theorem eqIn61 (k : Nat) (w : World) (x0 : Int) (x1 : Int) (y0 : Int) (y1 : Int) : (Op.equalIn (k + 2) 61 (.agg #[.int .u8 x0, .int .i64 x1]) (.agg #[.int .u8 y0, .int .i64 y1])).run Try.prog w = .ok ((x0 == y0) && (x1 == y1)) w := by
  have p0 : ∀ (a0 : Int) (a1 : Int) (w : World), (part 59 #[.int .u8 a0, .int .i64 a1] 0).run Try.prog w = .ok (.int .u8 a0) w := by
    intros; simp [part, isAgg, run_underlying Try.underlying59]
  have p1 : ∀ (a0 : Int) (a1 : Int) (w : World), (part 3 #[.int .u8 a0, .int .i64 a1] 1).run Try.prog w = .ok (.int .i64 a1) w := by
    intros; simp [part, isAgg, run_underlying Try.underlying3]
  rw [run_equalIn_agg w (k + 1) 61 _ _ (by kernel_rfl) held61]
  have hf : (Try.prog.fieldsOf 61).toList = [{ name := "Bed", type := 59, offset := 0, embedded := false, tag := "", pkgPath := "", byteOffset := 0 }, { name := "At", type := 3, offset := 1, embedded := false, tag := "", pkgPath := "", byteOffset := 8 }] := by simp [Program.fieldsOf, Try.underlying61]
  rw [hf]
  simp only [Op.eqFields]
  rw [if_pos (by decide), if_pos (by decide)]
  have q0 := fun (w : World) => run_equalIn_int w (k + 0) 59 .u8 .u8 x0 y0 Try.underlying59
  have q1 := fun (w : World) => run_equalIn_int w (k + 0) 3 .i64 .i64 x1 y1 Try.underlying3
  generalize h0 : (x0 == y0) = b0 at *
  generalize h1 : (x1 == y1) = b1 at *
  simp only [Sem.run_bind, Result.andThen_ok, p0, q0, p1, q1]
  cases b0 <;> cases b1 <;> simp [p0, q0, p1, q1]
theorem guard30 : Try.prog.eqGuardType Try.prog.depth 30 = false := by kernel_rfl
theorem guard33 : Try.prog.eqGuardType Try.prog.depth 33 = false := by kernel_rfl
theorem guard61 : Try.prog.eqGuardType Try.prog.depth 61 = false := by kernel_rfl
def eqP : TypeId → List Value → List Value → Option Bool
  | 30, [.int .u8 x0, .int .i64 x1], [.int .u8 y0, .int .i64 y1] => some ((x0 == y0) && (x1 == y1))
  | 33, [.int .u8 x0, .int .i64 x1, .bool x2, .int .u8 x3], [.int .u8 y0, .int .i64 y1, .bool y2, .int .u8 y3] => some (((x0 == y0) && (x1 == y1)) && (x2 == y2) && (x3 == y3))
  | 61, [.int .u8 x0, .int .i64 x1], [.int .u8 y0, .int .i64 y1] => some ((x0 == y0) && (x1 == y1))
  | _, _, _ => none
theorem eqOk (t : TypeId) (us vs : List Value) (r : Bool) (h : eqP t us vs = some r) (w : World) (x y : Operand) :
    (do eqGuard .eql t x y (.agg us.toArray) (.agg vs.toArray); binOp .eql t (.agg us.toArray) (.agg vs.toArray) : Sem Value).run Try.prog w = .ok (.bool r) w ∧
    (do eqGuard .neq t x y (.agg us.toArray) (.agg vs.toArray); binOp .neq t (.agg us.toArray) (.agg vs.toArray) : Sem Value).run Try.prog w = .ok (.bool (!r)) w := by
  unfold eqP at h
  split at h
  · injection h with h; subst h
    constructor
    · rw [Sem.run_bind, run_eqGuard_agg w _ _ _ _ _ _ guard30, Result.andThen_ok, run_eql_struct, eqIn30 9998]; rfl
    · rw [Sem.run_bind, run_eqGuard_agg w _ _ _ _ _ _ guard30, Result.andThen_ok, run_neq_struct, eqIn30 9998]; rfl
  · injection h with h; subst h
    constructor
    · rw [Sem.run_bind, run_eqGuard_agg w _ _ _ _ _ _ guard33, Result.andThen_ok, run_eql_struct, eqIn33 9997]; rfl
    · rw [Sem.run_bind, run_eqGuard_agg w _ _ _ _ _ _ guard33, Result.andThen_ok, run_neq_struct, eqIn33 9997]; rfl
  · injection h with h; subst h
    constructor
    · rw [Sem.run_bind, run_eqGuard_agg w _ _ _ _ _ _ guard61, Result.andThen_ok, run_eql_struct, eqIn61 9998]; rfl
    · rw [Sem.run_bind, run_eqGuard_agg w _ _ _ _ _ _ guard61, Result.andThen_ok, run_neq_struct, eqIn61 9998]; rfl
  · cases h
def mutsB : FuncId → Bool := fun f => [45].contains f
def cxN (n lo : Nat) : Cx := cxA T eqP mutsB n lo
theorem base (n lo : Nat) : CxBase Try.prog (cxN n lo) := ⟨tyOk, eqOk, by kernel_rfl⟩
end Tst
end

section
open Go Go.Lf Go.Proofs
namespace Tst
structure Ps where
  y : Int
  n : Int
  f : Bool
  d : Int
  deriving Inhabited, DecidableEq
def Ps.enc (p : Ps) : AV := .agg [.atom (.int .u8 p.y), .atom (.int .i64 p.n), .atom (.bool p.f), .atom (.int .u8 p.d)]
abbrev sl (cap : Option Nat) (l : List Ps) : AV := .sl .any 33 cap (l.map Ps.enc)
abbrev it (i : Int) : AV := .atom (.int .i64 i)
end Tst
namespace Tst
def u8 (x : Int) : AV := .atom (.int .u8 x)
theorem view_ps (m : Lf.Mode) (c : Option Nat) (l : List Ps) : view (.sl m 33 c (l.map Ps.enc)) = .sl .any 33 c (l.map Ps.enc) := by
  show AV.sl .any 33 c ((l.map Ps.enc).map _) = _
  rw [List.map_map]; rfl
theorem view_u8 (m : Lf.Mode) (c : Option Nat) (l : List Int) : view (.sl m 89 c (l.map u8)) = .sl .any 89 c (l.map u8) := by
  show AV.sl .any 89 c ((l.map u8).map _) = _
  rw [List.map_map]; rfl
end Tst
end

section
open Go Go.Lf Go.Proofs
namespace Tst
theorem named_0 (y n : Int) (g0 : decide ((1 : Int) ≤ y) = true) (g1 : decide (y ≤ (6 : Int)) = true) (g2 : decide ((0 : Int) ≤ n) = true) : PureC Try.prog 28 [.agg [.atom (.int .u8 y), .atom (.int .i64 n)]]  (AV.atom (Value.bool (decide (n < (2048 : Int))))) :=
  funA_ok (H := h28) (n := 21) (ans := [Ans.c, Ans.c, Ans.c, Ans.c, Ans.c, Ans.c, Ans.c, Ans.c, Ans.b true, Ans.c, Ans.b true, Ans.c, Ans.c, Ans.c, Ans.b true, Ans.c, Ans.b true, Ans.c, Ans.c, Ans.b true, Ans.c, Ans.b true, Ans.c, Ans.c, Ans.c, Ans.b true, Ans.c, Ans.b true, Ans.c, Ans.c, Ans.b true, Ans.c, Ans.b true, Ans.c, Ans.c, Ans.c, Ans.b true, Ans.c, Ans.b true, Ans.c, Ans.c]) (ps := [decide ((1 : Int) ≤ y) = true, decide ((1 : Int) ≤ y) = true, decide ((1 : Int) ≤ y) = true, decide ((1 : Int) ≤ y) = true, decide (y ≤ (6 : Int)) = true, decide (y ≤ (6 : Int)) = true, decide (y ≤ (6 : Int)) = true, decide (y ≤ (6 : Int)) = true, decide ((0 : Int) ≤ n) = true, decide ((0 : Int) ≤ n) = true, decide ((0 : Int) ≤ n) = true, decide ((0 : Int) ≤ n) = true]) (base 21 0) Try.func28 rfl (by simp) rfl (by kernel_rfl)  (allp g0 (allp g0 (allp g0 (allp g0 (allp g1 (allp g1 (allp g1 (allp g1 (allp g2 (allp g2 (allp g2 (allp g2 allp_nil))))))))))))
theorem named_1 (y n : Int) (g0 : decide ((1 : Int) ≤ y) = true) (g1 : decide (y ≤ (6 : Int)) = true) (g2 : decide ((0 : Int) ≤ n) = false) : PureC Try.prog 28 [.agg [.atom (.int .u8 y), .atom (.int .i64 n)]]  (AV.atom (Value.bool false)) :=
  funA_ok (H := h28) (n := 21) (ans := [Ans.c, Ans.c, Ans.c, Ans.c, Ans.c, Ans.c, Ans.c, Ans.c, Ans.b true, Ans.c, Ans.b true, Ans.c, Ans.c, Ans.c, Ans.b true, Ans.c, Ans.b true, Ans.c, Ans.c, Ans.b true, Ans.c, Ans.b true, Ans.c, Ans.c, Ans.c, Ans.b true, Ans.c, Ans.b true, Ans.c, Ans.c, Ans.b false, Ans.c, Ans.b false, Ans.c, Ans.b false, Ans.c, Ans.b false, Ans.c, Ans.c]) (ps := [decide ((1 : Int) ≤ y) = true, decide ((1 : Int) ≤ y) = true, decide ((1 : Int) ≤ y) = true, decide ((1 : Int) ≤ y) = true, decide (y ≤ (6 : Int)) = true, decide (y ≤ (6 : Int)) = true, decide (y ≤ (6 : Int)) = true, decide (y ≤ (6 : Int)) = true, decide ((0 : Int) ≤ n) = false, decide ((0 : Int) ≤ n) = false, decide ((0 : Int) ≤ n) = false, decide ((0 : Int) ≤ n) = false]) (base 21 0) Try.func28 rfl (by simp) rfl (by kernel_rfl)  (allp g0 (allp g0 (allp g0 (allp g0 (allp g1 (allp g1 (allp g1 (allp g1 (allp g2 (allp g2 (allp g2 (allp g2 allp_nil))))))))))))
theorem named_2 (y n : Int) (g0 : decide ((1 : Int) ≤ y) = true) (g1 : decide (y ≤ (6 : Int)) = false) : PureC Try.prog 28 [.agg [.atom (.int .u8 y), .atom (.int .i64 n)]]  (AV.atom (Value.bool false)) :=
  funA_ok (H := h28) (n := 21) (ans := [Ans.c, Ans.c, Ans.c, Ans.c, Ans.c, Ans.c, Ans.c, Ans.c, Ans.b true, Ans.c, Ans.b true, Ans.c, Ans.c, Ans.c, Ans.b true, Ans.c, Ans.b true, Ans.c, Ans.c, Ans.b false, Ans.c, Ans.b false, Ans.c, Ans.b false, Ans.c, Ans.b false, Ans.c, Ans.c, Ans.c, Ans.c, Ans.c, Ans.c, Ans.c, Ans.c, Ans.c, Ans.c, Ans.c]) (ps := [decide ((1 : Int) ≤ y) = true, decide ((1 : Int) ≤ y) = true, decide ((1 : Int) ≤ y) = true, decide ((1 : Int) ≤ y) = true, decide (y ≤ (6 : Int)) = false, decide (y ≤ (6 : Int)) = false, decide (y ≤ (6 : Int)) = false, decide (y ≤ (6 : Int)) = false]) (base 21 0) Try.func28 rfl (by simp) rfl (by kernel_rfl)  (allp g0 (allp g0 (allp g0 (allp g0 (allp g1 (allp g1 (allp g1 (allp g1 allp_nil))))))))
theorem named_3 (y n : Int) (g0 : decide ((1 : Int) ≤ y) = false) : PureC Try.prog 28 [.agg [.atom (.int .u8 y), .atom (.int .i64 n)]]  (AV.atom (Value.bool false)) :=
  funA_ok (H := h28) (n := 21) (ans := [Ans.c, Ans.c, Ans.c, Ans.c, Ans.c, Ans.c, Ans.c, Ans.c, Ans.b false, Ans.c, Ans.b false, Ans.c, Ans.b false, Ans.c, Ans.b false, Ans.c, Ans.c, Ans.c, Ans.c, Ans.c, Ans.c, Ans.c, Ans.c, Ans.c, Ans.c, Ans.c, Ans.c, Ans.c, Ans.c, Ans.c, Ans.c, Ans.c, Ans.c, Ans.c, Ans.c]) (ps := [decide ((1 : Int) ≤ y) = false, decide ((1 : Int) ≤ y) = false, decide ((1 : Int) ≤ y) = false, decide ((1 : Int) ≤ y) = false]) (base 21 0) Try.func28 rfl (by simp) rfl (by kernel_rfl)  (allp g0 (allp g0 (allp g0 (allp g0 allp_nil))))
end Tst
end

section
open Go Go.Lf Go.Proofs
namespace Tst
def namedB (y n : Int) : Bool := decide (1 ≤ y) && decide (y ≤ 6) && decide (0 ≤ n) && decide (n < 2048)
theorem named_c (y n : Int) : PureC Try.prog 28 [.agg [.atom (.int .u8 y), .atom (.int .i64 n)]] (.atom (.bool (namedB y n))) := by
  unfold namedB
  cases h1 : decide (1 ≤ y)
  · simpa using named_3 y n h1
  · cases h2 : decide (y ≤ 6)
    · simpa using named_2 y n h1 h2
    · cases h3 : decide (0 ≤ n)
      · simpa using named_1 y n h1 h2 h3
      · simpa using named_0 y n h1 h2 h3
end Tst
end

section
namespace Go.Lf
open Go Go.RowKit
section
variable {P : Program}
def Le (P : Program) (x y : AV) : Prop := ∀ (B0 : Nat) (w : World) (S : Nat → Prop) (n : Nat) (v : Value) (O : Own), Rv P B0 w S n v x O → Rv P B0 w S n v y O
theorem Le.refl (x : AV) : Le P x x := fun _ _ _ _ _ _ h => h
theorem Le.nil (e : TypeId) : Le P (.atom (.slice none 0 0)) (.sl .any e (some 0) []) := by
  intro B0 w S n v O h
  obtain ⟨n, rfl⟩ := h.pos
  obtain ⟨rfl, hz⟩ := h
  exact ⟨none, 0, rfl, Nat.le_refl _, Nat.zero_le _, rfl, fun x hx => by simp at hx, hz, fun h => absurd rfl h⟩
theorem Le.nilOwn (e : TypeId) : Le P (.atom (.slice none 0 0)) (.sl .own e (some 0) []) := by
  intro B0 w S n v O h
  obtain ⟨n, rfl⟩ := h.pos
  obtain ⟨rfl, hz⟩ := h
  exact ⟨[], fun _ => 0, World.ownsRow_nil w B0 e _, rfl, fun x hx => by simp at hx, .nil fun _ => rfl, fun b => by simp [Value.ownBlock, ind, hz b]⟩
theorem Le.cap {m : Mode} {e : TypeId} {c : Option Nat} {xs : List AV} : Le P (.sl m e c xs) (.sl m e none xs) := by
  intro B0 w S n v O h
  obtain ⟨n, rfl⟩ := h.pos
  cases m with
  | own => obtain ⟨vs, O', ho, _, hu, hr, hO⟩ := h; exact ⟨vs, O', ho, trivial, hu, hr, hO⟩
  | fresh => obtain ⟨A, k, hv, hk, hm, _, r⟩ := h; exact ⟨A, k, hv, hk, hm, trivial, r⟩
  | any => obtain ⟨A, k, hv, hk, hm, _, r⟩ := h; exact ⟨A, k, hv, hk, hm, trivial, r⟩
theorem Rc.le2 {B0 : Nat} {w : World} {S : Nat → Prop} {n : Nat} {vs : List Value} {xs ys : List AV} {O : Own} (h : Rc (Rv P B0 w S n) vs xs O) : ∀ {ys : List AV}, F2 (Le P) xs ys → Rc (Rv P B0 w S n) vs ys O := by
  induction h with
  | nil hz => intro ys h2; cases h2; exact .nil hz
  | cons h1 _ hO ih => intro ys h2; cases h2 with | cons g1 g2 => exact .cons (g1 _ _ _ _ _ _ h1) (ih g2) hO
theorem Le.agg {xs ys : List AV} (h : F2 (Le P) xs ys) : Le P (.agg xs) (.agg ys) := by
  intro B0 w S n v O hr
  obtain ⟨n, rfl⟩ := hr.pos
  obtain ⟨vs, hv, hrc⟩ := hr
  exact ⟨vs, hv, Rc.le2 (ys := ys) hrc h⟩
theorem Le.tup {xs ys : List AV} (h : F2 (Le P) xs ys) : Le P (.tup xs) (.tup ys) := by
  intro B0 w S n v O hr
  obtain ⟨n, rfl⟩ := hr.pos
  obtain ⟨vs, hv, hrc⟩ := hr
  exact ⟨vs, hv, Rc.le2 (ys := ys) hrc h⟩
theorem PureC.args {f : FuncId} {xs ys : List AV} {r : AV} (h : PureC P f ys r) (hl : F2 (Le P) xs ys) : PureC P f xs r :=
  ⟨h.1, fun w S args n hS ha => h.2 w S args n hS (Rc.le2 (ys := ys) ha hl)⟩
theorem PureC.res {f : FuncId} {xs : List AV} {r r' : AV} (h : PureC P f xs r) (hl : Le P r r') : PureC P f xs r' :=
  ⟨h.1, fun w S args n hS ha => (h.2 w S args n hS ha).mono fun e w' ⟨v, n', S', O, he, hB, hrv, rest⟩ => ⟨v, n', S', O, he, hB, hl _ _ _ _ _ _ hrv, rest⟩⟩
end
end Go.Lf
end

section
namespace Go.Lf
open Go Go.RowKit
section
variable {P : Program} {F : Frm} {B0 : Nat} {w0 w : World} {S S0 : Nat → Prop} {n : Nat} {env env2 : Env} {a : Act} {tmps : Array Value} {Os : Nat → Own} {cx : Cx}
def EnvLe (P : Program) (env env2 : Env) : Prop := F2 (fun p q => p.1 = q.1 ∧ leafRoot p.2 = none ∧ Le P p.2 q.2) env env2
theorem EnvLe.lk (h : EnvLe P env env2) (t : Nat) : (lk env t = none ∧ lk env2 t = none) ∨ ∃ x y, lk env t = some x ∧ lk env2 t = some y ∧ leafRoot x = none ∧ Le P x y := by
  induction h with
  | nil => exact .inl ⟨rfl, rfl⟩
  | @cons p q l m h _ ih =>
    obtain ⟨k, x⟩ := p
    obtain ⟨k', y⟩ := q
    obtain ⟨h1, h2, h3⟩ := h
    simp only at h1; subst h1
    by_cases hk : k = t
    · exact .inr ⟨x, y, by simp [Lf.lk, hk], by simp [Lf.lk, hk], h2, h3⟩
    · simp only [Lf.lk, if_neg hk]; exact ih
theorem St.less (hst : St P F B0 w0 n env tmps w S Os) (h : EnvLe P env env2) : St P F B0 w0 n env2 tmps w S Os := by
  have key : ∀ t y, Lf.lk env2 t = some y → ∃ v, tmps[t]? = some v ∧ Rv P B0 w S n v y (Os t) := by
    intro t y hy
    rcases h.lk t with ⟨_, h2⟩ | ⟨x, y', h1, h2, h3, h4⟩
    · rw [hy] at h2; cases h2
    · rw [hy] at h2; injection h2 with h2; subst h2
      obtain ⟨v, hv, hs⟩ := hst.rel t x h1
      rcases hs with ⟨hl, _, _⟩ | hs
      · exact absurd h3 hl
      · exact ⟨v, hv, h4 _ _ _ _ _ _ hs⟩
  refine ⟨hst.below, hst.b0, hst.sLt, hst.excl, hst.one, hst.dis, ?_, ?_, ?_, hst.keep, hst.pin⟩
  · intro t y hy
    obtain ⟨v, hv, hr⟩ := key t y hy
    exact ⟨v, hv, .inr hr⟩
  · intro t ht
    rcases h.lk t with ⟨h1, _⟩ | ⟨x, y', h1, h2, _⟩
    · exact hst.abs t h1
    · rw [ht] at h2; cases h2
  · intro t y r hy hr
    obtain ⟨v, hv, hrv⟩ := key t y hy
    rw [hrv.noLeaf] at hr; cases hr
theorem Tri.less {c : Code} {env env' env2 : Env} {ex : Ex} (h : Tri P cx c env ex env') (hl : EnvLe P env' env2) : Tri P cx c env ex env2 :=
  fun ρ hρ F B0 w0 S0 ds a w Q hag hQ => h ρ hρ F B0 w0 S0 ds a w Q hag fun a' w' ⟨Ds, n, S, Os, hnd, hD, h1, h2, hn, hgr, hst⟩ => hQ a' w' ⟨Ds, n, S, Os, hnd, hD, h1, h2, hn, hgr, hst.less hl⟩
theorem Tri.more {c : Code} {env env' env2 : Env} {ex : Ex} (h : Tri P cx c env2 ex env') (hl : EnvLe P env env2) : Tri P cx c env ex env' :=
  fun ρ hρ F B0 w0 S0 ds a w Q hag hQ => h ρ hρ F B0 w0 S0 ds a w Q (match hag with | ⟨h1, h2, n, S, Os, hn, hgr, hst⟩ => ⟨h1, h2, n, S, Os, hn, hgr, hst.less hl⟩) hQ
theorem Le.box {xs ys : List AV} (h : F2 (Le P) xs ys) : Le P (.box xs) (.box ys) := by
  intro B0 w S n v O hr
  obtain ⟨n, rfl⟩ := hr.pos
  obtain ⟨g, C, T, O', hv, hg, hh, hrc, hO⟩ := hr
  exact ⟨g, C, T, O', hv, hg, hh, Rc.le2 (ys := ys) hrc h, hO⟩
theorem Le.ownEls {e : TypeId} {cap : Option Nat} {xs ys : List AV} (hl : xs.length = ys.length) (hu : ∀ sz, Uni sz xs → Uni sz ys) (hf : F2 (Le P) (flat xs) (flat ys)) : Le P (.sl .own e cap xs) (.sl .own e cap ys) := by
  intro B0 w S n v O hr
  obtain ⟨n, rfl⟩ := hr.pos
  obtain ⟨vs, O', ho, hc, hx, hrc, hO⟩ := hr
  exact ⟨vs, O', hl ▸ ho, hc, hu _ hx, Rc.le2 (ys := flat ys) hrc hf, hO⟩
theorem flat_rep {x : AV} (hx : x.ecells = [x]) (k : Nat) : flat (List.replicate k x) = List.replicate k x := by
  induction k with
  | zero => rfl
  | succ k ih => rw [List.replicate_succ, flat, List.flatMap_cons, hx]; show x :: flat (List.replicate k x) = _; rw [ih]
theorem F2.rep {α β : Type} {R : α → β → Prop} {x : α} {y : β} (h : R x y) : ∀ k, F2 R (List.replicate k x) (List.replicate k y)
  | 0 => .nil
  | k + 1 => .cons h (F2.rep h k)
theorem Le.ownRep {e : TypeId} {cap : Option Nat} {x y : AV} (hx : x.ecells = [x]) (hy : y.ecells = [y]) (h : Le P x y) (k : Nat) : Le P (.sl .own e cap (List.replicate k x)) (.sl .own e cap (List.replicate k y)) := by
  refine Le.ownEls (by simp) (fun sz hu z hz => ?_) (by rw [flat_rep hx, flat_rep hy]; exact F2.rep h k)
  obtain ⟨hk, rfl⟩ := List.mem_replicate.1 hz
  rw [hy]
  have := hu x (List.mem_replicate.2 ⟨hk, rfl⟩)
  rw [hx] at this; exact this
theorem EnvLe.refl : ∀ (env : Env), (∀ p ∈ env, leafRoot p.2 = none) → EnvLe P env env
  | [], _ => .nil
  | p :: l, h => .cons ⟨rfl, h p (by simp), Le.refl _⟩ (EnvLe.refl l fun q hq => h q (by simp [hq]))
end
end Go.Lf
end

section
open Go Go.Lf Go.Proofs
namespace Tst
structure Idd where
  y : Int
  n : Int
  deriving Inhabited, DecidableEq
def Idd.enc (p : Idd) : AV := .agg [.atom (.int .u8 p.y), .atom (.int .i64 p.n)]
structure Stk where
  c : Option Nat
  l : List Idd
  deriving Inhabited
def Stk.enc (s : Stk) : AV := .sl .any 30 s.c (s.l.map Idd.enc)
abbrev is' (m : Lf.Mode) (c : Option Nat) (l : List Idd) : AV := .sl m 30 c (l.map Idd.enc)
abbrev isl (c : Option Nat) (l : List Idd) : AV := is' .any c l
abbrev iow (c : Option Nat) (l : List Idd) : AV := is' .own c l
abbrev bsl (c : Option Nat) (l : List Stk) : AV := .sl .any 62 c (l.map Stk.enc)
abbrev beds (f b : AV) : AV := .agg [f, b]
abbrev ub (i : Int) : AV := .atom (.int .u8 i)
abbrev bb (b : Bool) : AV := .atom (.bool b)
abbrev ndl (b i : Int) : AV := .agg [ub b, it i]
abbrev niln : AV := .atom (.slice none 0 0)
theorem map_idd (f : Lf.Mode → Lf.Mode) (k : Nat) (l : List Idd) : List.map (mapE (remode f (k + 1))) (List.map Idd.enc l) = List.map Idd.enc l := by
  rw [List.map_map]; rfl
theorem rem_stk (k : Nat) (s : Stk) : remode (fun _ => .any) (k + 2) s.enc = s.enc := by
  show AV.sl .any 30 s.c ((s.l.map Idd.enc).map _) = _
  rw [map_idd]; rfl
theorem map_stk (k : Nat) (l : List Stk) : List.map (mapE (remode (fun _ => .any) (k + 2))) (List.map Stk.enc l) = List.map Stk.enc l := by
  rw [List.map_map]
  apply List.map_congr_left
  intro s _
  show remode (fun _ => .any) (k + 2) s.enc = s.enc
  exact rem_stk k s
theorem view_id (m : Lf.Mode) (c : Option Nat) (l : List Idd) : view (.sl m 30 c (l.map Idd.enc)) = .sl .any 30 c (l.map Idd.enc) := by
  show AV.sl .any 30 c ((l.map Idd.enc).map _) = _
  rw [List.map_map]; rfl
theorem view_stk (m : Lf.Mode) (c : Option Nat) (l : List Stk) : view (.sl m 62 c (l.map Stk.enc)) = .sl .any 62 c (l.map Stk.enc) := by
  show AV.sl .any 62 c ((l.map Stk.enc).map (mapE (remode (fun _ => .any) 11))) = _
  rw [map_stk]
theorem view_beds (m m' : Lf.Mode) (c c' : Option Nat) (l l' : List Stk) : view (.agg [.sl m 62 c (l.map Stk.enc), .sl m' 62 c' (l'.map Stk.enc)]) = beds (bsl c l) (bsl c' l') := by
  show AV.agg [.sl .any 62 c ((l.map Stk.enc).map (mapE (remode (fun _ => .any) 10))), .sl .any 62 c' ((l'.map Stk.enc).map (mapE (remode (fun _ => .any) 10)))] = _
  rw [map_stk, map_stk]
end Tst
end

section
open Go Go.Lf Go.Proofs
namespace Tst
set_option maxHeartbeats 0
theorem bna_0 (d : Int) (g0 : (d == (0 : Int)) = true) : PureC Try.prog 68 [ub d]  (AV.atom (Value.string { data := #[(102 : UInt8)] })) :=
  funA_ok (H := h68) (n := 8) (ans := [.c, .c, .c, .c, .b true, .c]) (ps := [(d == (0 : Int)) = true]) (base 8 0) Try.func68 rfl (by simp) rfl (by kernel_rfl)  (allp g0 allp_nil)
theorem bna_1 (d : Int) (g0 : (d == (0 : Int)) = false) (g1 : (d == (1 : Int)) = true) : PureC Try.prog 68 [ub d]  (AV.atom (Value.string { data := #[(98 : UInt8)] })) :=
  funA_ok (H := h68) (n := 8) (ans := [.c, .c, .c, .c, .b false, .c, .c, .b true, .c]) (ps := [(d == (0 : Int)) = false, (d == (1 : Int)) = true]) (base 8 0) Try.func68 rfl (by simp) rfl (by kernel_rfl)  (allp g0 (allp g1 allp_nil))
theorem bna_2 (d : Int) (g0 : (d == (0 : Int)) = false) (g1 : (d == (1 : Int)) = false) : PureC Try.prog 68 [ub d]  (AV.atom (Value.string { data := #[] })) :=
  funA_ok (H := h68) (n := 8) (ans := [.c, .c, .c, .c, .b false, .c, .c, .b false, .c]) (ps := [(d == (0 : Int)) = false, (d == (1 : Int)) = false]) (base 8 0) Try.func68 rfl (by simp) rfl (by kernel_rfl)  (allp g0 (allp g1 allp_nil))
theorem bdo_0 (d : Int) (cf cb : Option Nat) (f b : List Stk) (g0 : (d == (0 : Int)) = true) : PureC Try.prog 59 [beds (bsl cf f) (bsl cb b), ub d]  (bsl cf f) :=
  funA_ok (H := h59) (n := 11) (ans := [.c, .c, .c, .c, .b true, .c, .c, .c, .c, .c]) (ps := [(d == (0 : Int)) = true]) (base 11 0) Try.func59 rfl (by simp) rfl (by kernel_rfl)  (allp g0 allp_nil)
theorem bdo_1 (d : Int) (cf cb : Option Nat) (f b : List Stk) (g0 : (d == (0 : Int)) = false) : PureC Try.prog 59 [beds (bsl cf f) (bsl cb b), ub d]  (bsl cb b) :=
  funA_ok (H := h59) (n := 11) (ans := [.c, .c, .c, .c, .b false, .c, .c, .c, .c, .c]) (ps := [(d == (0 : Int)) = false]) (base 11 0) Try.func59 rfl (by simp) rfl (by kernel_rfl)  (allp g0 allp_nil)
theorem stk_0 (i : Int) (c : Option Nat) (l : List Stk) (g0 : decide (i < (↑(List.length (List.map Stk.enc l)) : Int)) = true) (g1 : decide ((0 : Int) ≤ i ∧ i < (↑(List.length (List.map Stk.enc l)) : Int)) = true) (g2 : List.getD (List.map Stk.enc l) (Int.toNat i) AV.bad = Stk.enc (List.getD l (Int.toNat i) default)) : PureC Try.prog 58 [bsl c l, it i]  (AV.sl Mode.any 30 (Stk.c (List.getD l (Int.toNat i) default)) (List.map Idd.enc (Stk.l (List.getD l (Int.toNat i) default)))) :=
  funA_ok (H := h58) (n := 13) (ans := [.c, .c, .c, .c, .c, .b true, .c, .c, .b true, .r (Stk.enc (List.getD l (Int.toNat i) default)), .c, .c, .c]) (ps := [decide (i < (↑(List.length (List.map Stk.enc l)) : Int)) = true, decide ((0 : Int) ≤ i ∧ i < (↑(List.length (List.map Stk.enc l)) : Int)) = true, List.getD (List.map Stk.enc l) (Int.toNat i) AV.bad = Stk.enc (List.getD l (Int.toNat i) default)]) (base 13 0) Try.func58 rfl (by simp) rfl (by kernel_rfl)  (allp g0 (allp g1 (allp g2 allp_nil)))
theorem stk_1 (i : Int) (c : Option Nat) (l : List Stk) (g0 : decide (i < (↑(List.length (List.map Stk.enc l)) : Int)) = false) : PureC Try.prog 58 [bsl c l, it i]  niln :=
  funA_ok (H := h58) (n := 13) (ans := [.c, .c, .c, .c, .c, .b false, .c]) (ps := [decide (i < (↑(List.length (List.map Stk.enc l)) : Int)) = false]) (base 13 0) Try.func58 rfl (by simp) rfl (by kernel_rfl)  (allp g0 allp_nil)
theorem frs_0 (c : Option Nat) (l : List Idd) (g0 : ((↑(List.length (List.map Idd.enc l)) : Int) == (0 : Int)) = true) : PureC Try.prog 57 [isl c l]  niln :=
  funA_ok (H := h57) (n := 14) (ans := [.c, .c, .c, .c, .b true, .c]) (ps := [((↑(List.length (List.map Idd.enc l)) : Int) == (0 : Int)) = true]) (base 14 0) Try.func57 rfl (by simp) rfl (by kernel_rfl)  (allp g0 allp_nil)
theorem frs_1 (c : Option Nat) (l : List Idd) (g0 : ((↑(List.length (List.map Idd.enc l)) : Int) == (0 : Int)) = false) (g1 : decide ((0 : Int) ≤ (↑(List.length (List.map Idd.enc l)) : Int) ∧ (↑(List.length (List.map Idd.enc l)) : Int) ≤ (↑(List.length (List.map Idd.enc l)) : Int) ∧ (↑(List.length (List.map Idd.enc l)) : Int) ≤ (4294967296 : Int) ∧ TInfo.bytes { zero := [Value.int IntKind.u8 (0 : Int), Value.int IntKind.i64 (0 : Int)], bytes := (16 : Nat), agg := true, kind := TK.struct [((0 : Nat), (1 : Nat)), ((1 : Nat), (1 : Nat))] } ≤ (4096 : Nat) ∧ (0 : Nat) < List.length (TInfo.zero { zero := [Value.int IntKind.u8 (0 : Int), Value.int IntKind.i64 (0 : Int)], bytes := (16 : Nat), agg := true, kind := TK.struct [((0 : Nat), (1 : Nat)), ((1 : Nat), (1 : Nat))] })) = true) (g2 : AV.sl Mode.own 30 (some (Int.toNat (↑(List.length (List.map Idd.enc l)) : Int))) (List.replicate (Int.toNat (↑(List.length (List.map Idd.enc l)) : Int)) (zeroEl { zero := [Value.int IntKind.u8 (0 : Int), Value.int IntKind.i64 (0 : Int)], bytes := (16 : Nat), agg := true, kind := TK.struct [((0 : Nat), (1 : Nat)), ((1 : Nat), (1 : Nat))] })) = AV.sl Mode.own 30 (some (Int.toNat (↑(List.length (List.map Idd.enc l)) : Int))) (List.map Idd.enc (List.replicate (Int.toNat (↑(List.length (List.map Idd.enc l)) : Int)) { y := (0 : Int), n := (0 : Int) }))) (g3 : decide ((List.all (List.map Idd.enc l) fun y => List.all (AV.ecells y) plainA) = true ∧ (List.all (List.map Idd.enc l) fun y => decide (List.length (AV.ecells y) = List.length (TInfo.zero { zero := [Value.int IntKind.u8 (0 : Int), Value.int IntKind.i64 (0 : Int)], bytes := (16 : Nat), agg := true, kind := TK.struct [((0 : Nat), (1 : Nat)), ((1 : Nat), (1 : Nat))] }))) = true) = true) (g4 : decide (30 = (30 : TypeId) ∧ (List.all (List.map Idd.enc (List.replicate (Int.toNat (↑(List.length (List.map Idd.enc l)) : Int)) { y := (0 : Int), n := (0 : Int) })) fun x => List.all (AV.ecells x) plainA) = true) = true) (g5 : AV.sl Mode.own 30 (some (Int.toNat (↑(List.length (List.map Idd.enc l)) : Int))) (List.take (List.length (List.map Idd.enc (List.replicate (Int.toNat (↑(List.length (List.map Idd.enc l)) : Int)) { y := (0 : Int), n := (0 : Int) }))) (List.map Idd.enc l) ++ List.drop (List.length (List.map Idd.enc l)) (List.map Idd.enc (List.replicate (Int.toNat (↑(List.length (List.map Idd.enc l)) : Int)) { y := (0 : Int), n := (0 : Int) }))) = AV.sl Mode.own 30 (some (Int.toNat (↑(List.length (List.map Idd.enc l)) : Int))) (List.map Idd.enc (List.take (List.length (List.map Idd.enc (List.replicate (Int.toNat (↑(List.length (List.map Idd.enc l)) : Int)) { y := (0 : Int), n := (0 : Int) }))) l ++ List.drop (List.length (List.map Idd.enc l)) (List.replicate (Int.toNat (↑(List.length (List.map Idd.enc l)) : Int)) { y := (0 : Int), n := (0 : Int) })))) : PureC Try.prog 57 [isl c l]  (AV.sl Mode.own 30 (some (Int.toNat (↑(List.length (List.map Idd.enc l)) : Int))) (List.map Idd.enc (List.take (List.length (List.map Idd.enc (List.replicate (Int.toNat (↑(List.length (List.map Idd.enc l)) : Int)) { y := (0 : Int), n := (0 : Int) }))) l ++ List.drop (List.length (List.map Idd.enc l)) (List.replicate (Int.toNat (↑(List.length (List.map Idd.enc l)) : Int)) { y := (0 : Int), n := (0 : Int) })))) :=
  funA_ok (H := h57) (n := 14) (ans := [.c, .c, .c, .c, .b false, .c, .c, .b true, .r (AV.sl Mode.own 30 (some (Int.toNat (↑(List.length (List.map Idd.enc l)) : Int))) (List.map Idd.enc (List.replicate (Int.toNat (↑(List.length (List.map Idd.enc l)) : Int)) { y := (0 : Int), n := (0 : Int) }))), .c, .c, .c, .b true, .b true, .r (AV.sl Mode.own 30 (some (Int.toNat (↑(List.length (List.map Idd.enc l)) : Int))) (List.map Idd.enc (List.take (List.length (List.map Idd.enc (List.replicate (Int.toNat (↑(List.length (List.map Idd.enc l)) : Int)) { y := (0 : Int), n := (0 : Int) }))) l ++ List.drop (List.length (List.map Idd.enc l)) (List.replicate (Int.toNat (↑(List.length (List.map Idd.enc l)) : Int)) { y := (0 : Int), n := (0 : Int) })))), .c, .c, .c]) (ps := [((↑(List.length (List.map Idd.enc l)) : Int) == (0 : Int)) = false, decide ((0 : Int) ≤ (↑(List.length (List.map Idd.enc l)) : Int) ∧ (↑(List.length (List.map Idd.enc l)) : Int) ≤ (↑(List.length (List.map Idd.enc l)) : Int) ∧ (↑(List.length (List.map Idd.enc l)) : Int) ≤ (4294967296 : Int) ∧ TInfo.bytes { zero := [Value.int IntKind.u8 (0 : Int), Value.int IntKind.i64 (0 : Int)], bytes := (16 : Nat), agg := true, kind := TK.struct [((0 : Nat), (1 : Nat)), ((1 : Nat), (1 : Nat))] } ≤ (4096 : Nat) ∧ (0 : Nat) < List.length (TInfo.zero { zero := [Value.int IntKind.u8 (0 : Int), Value.int IntKind.i64 (0 : Int)], bytes := (16 : Nat), agg := true, kind := TK.struct [((0 : Nat), (1 : Nat)), ((1 : Nat), (1 : Nat))] })) = true, AV.sl Mode.own 30 (some (Int.toNat (↑(List.length (List.map Idd.enc l)) : Int))) (List.replicate (Int.toNat (↑(List.length (List.map Idd.enc l)) : Int)) (zeroEl { zero := [Value.int IntKind.u8 (0 : Int), Value.int IntKind.i64 (0 : Int)], bytes := (16 : Nat), agg := true, kind := TK.struct [((0 : Nat), (1 : Nat)), ((1 : Nat), (1 : Nat))] })) = AV.sl Mode.own 30 (some (Int.toNat (↑(List.length (List.map Idd.enc l)) : Int))) (List.map Idd.enc (List.replicate (Int.toNat (↑(List.length (List.map Idd.enc l)) : Int)) { y := (0 : Int), n := (0 : Int) })), decide ((List.all (List.map Idd.enc l) fun y => List.all (AV.ecells y) plainA) = true ∧ (List.all (List.map Idd.enc l) fun y => decide (List.length (AV.ecells y) = List.length (TInfo.zero { zero := [Value.int IntKind.u8 (0 : Int), Value.int IntKind.i64 (0 : Int)], bytes := (16 : Nat), agg := true, kind := TK.struct [((0 : Nat), (1 : Nat)), ((1 : Nat), (1 : Nat))] }))) = true) = true, decide (30 = (30 : TypeId) ∧ (List.all (List.map Idd.enc (List.replicate (Int.toNat (↑(List.length (List.map Idd.enc l)) : Int)) { y := (0 : Int), n := (0 : Int) })) fun x => List.all (AV.ecells x) plainA) = true) = true, AV.sl Mode.own 30 (some (Int.toNat (↑(List.length (List.map Idd.enc l)) : Int))) (List.take (List.length (List.map Idd.enc (List.replicate (Int.toNat (↑(List.length (List.map Idd.enc l)) : Int)) { y := (0 : Int), n := (0 : Int) }))) (List.map Idd.enc l) ++ List.drop (List.length (List.map Idd.enc l)) (List.map Idd.enc (List.replicate (Int.toNat (↑(List.length (List.map Idd.enc l)) : Int)) { y := (0 : Int), n := (0 : Int) }))) = AV.sl Mode.own 30 (some (Int.toNat (↑(List.length (List.map Idd.enc l)) : Int))) (List.map Idd.enc (List.take (List.length (List.map Idd.enc (List.replicate (Int.toNat (↑(List.length (List.map Idd.enc l)) : Int)) { y := (0 : Int), n := (0 : Int) }))) l ++ List.drop (List.length (List.map Idd.enc l)) (List.replicate (Int.toNat (↑(List.length (List.map Idd.enc l)) : Int)) { y := (0 : Int), n := (0 : Int) })))]) (base 14 0) Try.func57 rfl (by simp) rfl (by kernel_rfl)  (allp g0 (allp g1 (allp g2 (allp g3 (allp g4 (allp g5 allp_nil))))))
end Tst
end

section
open Go Go.Lf Go.Proofs
namespace Tst
set_option maxHeartbeats 0
theorem wrap_id' {n : Int} (h1 : -9223372036854775808 ≤ n) (h2 : n ≤ 9223372036854775807) : IntKind.i64.wrap n = n := by rw [IntKind.wrap_i64]; omega
def bnm (d : Int) : ByteArray := if (d == 0) = true then { data := #[(102 : UInt8)] } else if (d == 1) = true then { data := #[(98 : UInt8)] } else { data := #[] }
theorem bna_c (d : Int) : PureC Try.prog 68 [ub d] (.atom (.string (bnm d))) := by
  unfold bnm
  cases h0 : (d == 0) with
  | true => exact bna_0 d h0
  | false =>
    cases h1 : (d == 1) with
    | true => exact bna_1 d h0 h1
    | false => exact bna_2 d h0 h1
theorem nck_0 (d i : Int) (g0 : (ByteArray.toList (bnm d) == ByteArray.toList { data := #[] }) = true) : PureC Try.prog 56 [ndl d i]  (it (1 : Int)) :=
  funA_ok (H := h56) (n := 17) (ans := [Ans.c, Ans.c, Ans.c, Ans.c, Ans.c, Ans.c, Ans.r (AV.atom (Value.string (bnm d))), Ans.c, Ans.c, Ans.c, Ans.c, Ans.b true, Ans.c, Ans.b true, Ans.c, Ans.b true, Ans.c, Ans.b true, Ans.c, Ans.c, Ans.c, Ans.c, Ans.c, Ans.c, Ans.c, Ans.c, Ans.c, Ans.c, Ans.c, Ans.c]) (ps := [PureC Try.prog 68 [ub d] (AV.atom (Value.string (bnm d))), (ByteArray.toList (bnm d) == ByteArray.toList { data := #[] }) = true, (ByteArray.toList (bnm d) == ByteArray.toList { data := #[] }) = true, (ByteArray.toList (bnm d) == ByteArray.toList { data := #[] }) = true, (ByteArray.toList (bnm d) == ByteArray.toList { data := #[] }) = true]) (base 17 0) Try.func56 rfl (by simp) rfl (by kernel_rfl)  (allp (by first | (apply bna_c <;> (first | assumption | rfl | (simp at * <;> omega)))) (allp g0 (allp g0 (allp g0 (allp g0 allp_nil)))))
theorem nck_1 (d i : Int) (g0 : (ByteArray.toList (bnm d) == ByteArray.toList { data := #[] }) = false) (g1 : decide (i < (1 : Int)) = true) : PureC Try.prog 56 [ndl d i]  (it (1 : Int)) :=
  funA_ok (H := h56) (n := 17) (ans := [Ans.c, Ans.c, Ans.c, Ans.c, Ans.c, Ans.c, Ans.r (AV.atom (Value.string (bnm d))), Ans.c, Ans.c, Ans.c, Ans.c, Ans.b false, Ans.c, Ans.b false, Ans.c, Ans.c, Ans.c, Ans.b false, Ans.c, Ans.b false, Ans.c, Ans.c, Ans.b true, Ans.c, Ans.b true, Ans.c, Ans.b true, Ans.c, Ans.b true, Ans.c, Ans.c, Ans.c]) (ps := [PureC Try.prog 68 [ub d] (AV.atom (Value.string (bnm d))), (ByteArray.toList (bnm d) == ByteArray.toList { data := #[] }) = false, (ByteArray.toList (bnm d) == ByteArray.toList { data := #[] }) = false, (ByteArray.toList (bnm d) == ByteArray.toList { data := #[] }) = false, (ByteArray.toList (bnm d) == ByteArray.toList { data := #[] }) = false, decide (i < (1 : Int)) = true, decide (i < (1 : Int)) = true, decide (i < (1 : Int)) = true, decide (i < (1 : Int)) = true]) (base 17 0) Try.func56 rfl (by simp) rfl (by kernel_rfl)  (allp (by first | (apply bna_c <;> (first | assumption | rfl | (simp at * <;> omega)))) (allp g0 (allp g0 (allp g0 (allp g0 (allp g1 (allp g1 (allp g1 (allp g1 allp_nil)))))))))
theorem nck_2 (d i : Int) (g0 : (ByteArray.toList (bnm d) == ByteArray.toList { data := #[] }) = false) (g1 : decide (i < (1 : Int)) = false) (g2 : decide ((40 : Int) < i) = true) : PureC Try.prog 56 [ndl d i]  (it (1 : Int)) :=
  funA_ok (H := h56) (n := 17) (ans := [Ans.c, Ans.c, Ans.c, Ans.c, Ans.c, Ans.c, Ans.r (AV.atom (Value.string (bnm d))), Ans.c, Ans.c, Ans.c, Ans.c, Ans.b false, Ans.c, Ans.b false, Ans.c, Ans.c, Ans.c, Ans.b false, Ans.c, Ans.b false, Ans.c, Ans.c, Ans.b false, Ans.c, Ans.b false, Ans.c, Ans.c, Ans.c, Ans.b false, Ans.c, Ans.b false, Ans.c, Ans.b true, Ans.c]) (ps := [PureC Try.prog 68 [ub d] (AV.atom (Value.string (bnm d))), (ByteArray.toList (bnm d) == ByteArray.toList { data := #[] }) = false, (ByteArray.toList (bnm d) == ByteArray.toList { data := #[] }) = false, (ByteArray.toList (bnm d) == ByteArray.toList { data := #[] }) = false, (ByteArray.toList (bnm d) == ByteArray.toList { data := #[] }) = false, decide (i < (1 : Int)) = false, decide (i < (1 : Int)) = false, decide (i < (1 : Int)) = false, decide (i < (1 : Int)) = false, decide ((40 : Int) < i) = true]) (base 17 0) Try.func56 rfl (by simp) rfl (by kernel_rfl)  (allp (by first | (apply bna_c <;> (first | assumption | rfl | (simp at * <;> omega)))) (allp g0 (allp g0 (allp g0 (allp g0 (allp g1 (allp g1 (allp g1 (allp g1 (allp g2 allp_nil))))))))))
theorem nck_3 (d i : Int) (g0 : (ByteArray.toList (bnm d) == ByteArray.toList { data := #[] }) = false) (g1 : decide (i < (1 : Int)) = false) (g2 : decide ((40 : Int) < i) = false) : PureC Try.prog 56 [ndl d i]  (it (0 : Int)) :=
  funA_ok (H := h56) (n := 17) (ans := [Ans.c, Ans.c, Ans.c, Ans.c, Ans.c, Ans.c, Ans.r (AV.atom (Value.string (bnm d))), Ans.c, Ans.c, Ans.c, Ans.c, Ans.b false, Ans.c, Ans.b false, Ans.c, Ans.c, Ans.c, Ans.b false, Ans.c, Ans.b false, Ans.c, Ans.c, Ans.b false, Ans.c, Ans.b false, Ans.c, Ans.c, Ans.c, Ans.b false, Ans.c, Ans.b false, Ans.c, Ans.b false, Ans.c]) (ps := [PureC Try.prog 68 [ub d] (AV.atom (Value.string (bnm d))), (ByteArray.toList (bnm d) == ByteArray.toList { data := #[] }) = false, (ByteArray.toList (bnm d) == ByteArray.toList { data := #[] }) = false, (ByteArray.toList (bnm d) == ByteArray.toList { data := #[] }) = false, (ByteArray.toList (bnm d) == ByteArray.toList { data := #[] }) = false, decide (i < (1 : Int)) = false, decide (i < (1 : Int)) = false, decide (i < (1 : Int)) = false, decide (i < (1 : Int)) = false, decide ((40 : Int) < i) = false]) (base 17 0) Try.func56 rfl (by simp) rfl (by kernel_rfl)  (allp (by first | (apply bna_c <;> (first | assumption | rfl | (simp at * <;> omega)))) (allp g0 (allp g0 (allp g0 (allp g0 (allp g1 (allp g1 (allp g1 (allp g1 (allp g2 allp_nil))))))))))
theorem getD_id {l : List Idd} {i : Nat} (h : i < l.length) : (l.map Idd.enc).getD i .bad = Idd.enc (l.getD i default) := by
  simp [List.getD_eq_getElem?_getD, h]
theorem getD_stk {l : List Stk} {i : Nat} (h : i < l.length) : (l.map Stk.enc).getD i .bad = Stk.enc (l.getD i default) := by
  simp [List.getD_eq_getElem?_getD, h]
theorem bdo_c (d : Int) (cf cb : Option Nat) (f b : List Stk) : PureC Try.prog 59 [beds (bsl cf f) (bsl cb b), ub d] (bsl (if d == 0 then cf else cb) (if d == 0 then f else b)) := by
  cases h : (d == 0) with
  | true => exact bdo_0 d cf cb f b h
  | false => exact bdo_1 d cf cb f b h
theorem Le_niln (e : TypeId) (m : Lf.Mode) (hm : m ≠ .own) : Le Try.prog niln (.sl m e (some 0) []) := by
  intro B0 w S n v O h
  obtain ⟨n, rfl⟩ := h.pos
  obtain ⟨rfl, hz⟩ := h
  cases m with
  | own => exact absurd rfl hm
  | fresh => exact ⟨none, 0, rfl, Nat.le_refl _, Nat.zero_le _, rfl, fun x hx => by simp at hx, hz, fun h => absurd rfl h⟩
  | any => exact ⟨none, 0, rfl, Nat.le_refl _, Nat.zero_le _, rfl, fun x hx => by simp at hx, hz, fun h => absurd rfl h⟩
def stackOf (l : List Stk) (i : Int) : List Idd := if i < l.length then (l.getD i.toNat default).l else []
theorem stk_c (i : Int) (c : Option Nat) (l : List Stk) (h0 : 0 ≤ i) : PureC Try.prog 58 [bsl c l, it i] (isl none (stackOf l i)) := by
  unfold stackOf
  by_cases h : i < l.length
  · rw [if_pos h]
    exact (stk_0 i c l (by simpa using h) (by simp; exact ⟨h0, h⟩) (getD_stk (by omega))).res Le.cap
  · rw [if_neg h]
    exact (stk_1 i c l (by simpa using h)).res fun B0 w S n v O hr => Le.cap _ _ _ _ _ _ (Le_niln 30 .any (by decide) _ _ _ _ _ _ hr)
theorem all_idd (l : List Idd) : ((l.map Idd.enc).all fun y => y.ecells.all plainA) = true := by
  simp [List.all_eq_true, Idd.enc, AV.ecells, plainA, Value.oneCell']
theorem all_two (l : List Idd) : ((l.map Idd.enc).all fun y => decide (y.ecells.length = 2)) = true := by
  simp [List.all_eq_true, Idd.enc, AV.ecells]
theorem frs_c (c : Option Nat) (l : List Idd) (hl : l.length ≤ 4294967296) : PureC Try.prog 57 [isl c l] (iow (some l.length) l) := by
  by_cases h : l.length = 0
  · have hl0 : l = [] := List.eq_nil_of_length_eq_zero h
    subst hl0
    exact (frs_0 c [] rfl).res (Le.nilOwn 30)
  · have := frs_1 c l (by rw [List.length_map]; simp; intro e; subst e; exact h rfl) (by simp only [decide_eq_true_eq]; exact ⟨by omega, by omega, by simp; omega, by decide, by decide⟩) (by rw [List.map_replicate]; rfl) (by simp only [decide_eq_true_eq]; exact ⟨all_idd _, all_two _⟩) (by simp only [decide_eq_true_eq]; exact ⟨trivial, all_idd _⟩) (by rw [List.map_append, List.map_take, List.map_drop])
    have e : List.take (List.length (List.map Idd.enc (List.replicate (Int.toNat ((((l.map Idd.enc).length : Nat) : Int))) ({ y := (0 : Int), n := (0 : Int) } : Idd)))) l ++ List.drop (List.length (List.map Idd.enc l)) (List.replicate (Int.toNat ((((l.map Idd.enc).length : Nat) : Int))) ({ y := (0 : Int), n := (0 : Int) } : Idd)) = l := by
      simp
    rw [e] at this
    simpa using this
def ndV (d i : Int) : Bool := (d == 0 || d == 1) && !decide (i < 1) && !decide (40 < i)
theorem bnm_e (d : Int) : (ByteArray.toList (bnm d) == ByteArray.toList { data := #[] }) = !(d == 0 || d == 1) := by
  unfold bnm
  cases h0 : (d == 0) with
  | true => simp [h0]
  | false =>
    cases h1 : (d == 1) with
    | true => simp [h0, h1]
    | false => simp [h0, h1]
theorem nck_c (d i : Int) : PureC Try.prog 56 [ndl d i] (it (if ndV d i then 0 else 1)) := by
  have e := bnm_e d
  unfold ndV
  cases h0 : (d == 0 || d == 1) with
  | false => rw [h0] at e; exact nck_0 d i e
  | true =>
    rw [h0] at e
    cases h1 : decide (i < 1) with
    | true => exact nck_1 d i e h1
    | false =>
      cases h2 : decide (40 < i) with
      | true => exact nck_2 d i e h1 h2
      | false => exact nck_3 d i e h1 h2
end Tst
end

section
open Go Go.Lf Go.Proofs
namespace Tst
set_option maxHeartbeats 0
theorem at'_1 (d i : Int) (cf cb : Option Nat) (f b : List Stk) (hi : ndV d i = true → 0 ≤ IntKind.wrap IntKind.i64 (i - (1 : Int))) (hl : (stackOf (if d == 0 then f else b) (IntKind.wrap IntKind.i64 (i - (1 : Int)))).length ≤ 4294967296) (h0 : 0 ≤ IntKind.wrap IntKind.i64 (i - (1 : Int))) (g0 : ((if ndV d i = true then (0 : Int) else (1 : Int)) != (0 : Int)) = false) : PureC Try.prog 33 [beds (bsl cf f) (bsl cb b), ndl d i]  (AV.sl Mode.own 30 (some (List.length (stackOf (if (d == (0 : Int)) = true then f else b) (IntKind.wrap IntKind.i64 (i - (1 : Int)))))) (List.map Idd.enc (stackOf (if (d == (0 : Int)) = true then f else b) (IntKind.wrap IntKind.i64 (i - (1 : Int)))))) :=
  funA_ok (H := h33) (n := 17) (ans := [.c, .c, .c, .c, .r (it (if ndV d i = true then (0 : Int) else (1 : Int))), .c, .c, .c, .b false, .c, .c, .c, .c, .c, .r (AV.sl Mode.any 62 (if (d == (0 : Int)) = true then cf else cb) (List.map Stk.enc (if (d == (0 : Int)) = true then f else b))), .c, .c, .c, .c, .c, .c, .c, .r (AV.sl Mode.any 62 (if (d == (0 : Int)) = true then cf else cb) (List.map Stk.enc (if (d == (0 : Int)) = true then f else b))), .r (AV.sl Mode.any 30 none (List.map Idd.enc (stackOf (if (d == (0 : Int)) = true then f else b) (IntKind.wrap IntKind.i64 (i - (1 : Int)))))), .c, .c, .r (AV.sl Mode.any 30 none (List.map Idd.enc (stackOf (if (d == (0 : Int)) = true then f else b) (IntKind.wrap IntKind.i64 (i - (1 : Int)))))), .r (AV.sl Mode.own 30 (some (List.length (stackOf (if (d == (0 : Int)) = true then f else b) (IntKind.wrap IntKind.i64 (i - (1 : Int)))))) (List.map Idd.enc (stackOf (if (d == (0 : Int)) = true then f else b) (IntKind.wrap IntKind.i64 (i - (1 : Int)))))), .c, .c, .c]) (ps := [PureC Try.prog 56 [AV.agg [ub d, it i]] (it (if ndV d i = true then (0 : Int) else (1 : Int))), ((if ndV d i = true then (0 : Int) else (1 : Int)) != (0 : Int)) = false, PureC Try.prog 59 [view (AV.agg [bsl cf f, bsl cb b]), ub d] (AV.sl Mode.any 62 (if (d == (0 : Int)) = true then cf else cb) (List.map Stk.enc (if (d == (0 : Int)) = true then f else b))), view (AV.sl Mode.any 62 (if (d == (0 : Int)) = true then cf else cb) (List.map Stk.enc (if (d == (0 : Int)) = true then f else b))) = AV.sl Mode.any 62 (if (d == (0 : Int)) = true then cf else cb) (List.map Stk.enc (if (d == (0 : Int)) = true then f else b)), PureC Try.prog 58 [AV.sl Mode.any 62 (if (d == (0 : Int)) = true then cf else cb) (List.map Stk.enc (if (d == (0 : Int)) = true then f else b)), it (IntKind.wrap IntKind.i64 (i - (1 : Int)))] (AV.sl Mode.any 30 none (List.map Idd.enc (stackOf (if (d == (0 : Int)) = true then f else b) (IntKind.wrap IntKind.i64 (i - (1 : Int)))))), view (AV.sl Mode.any 30 none (List.map Idd.enc (stackOf (if (d == (0 : Int)) = true then f else b) (IntKind.wrap IntKind.i64 (i - (1 : Int)))))) = AV.sl Mode.any 30 none (List.map Idd.enc (stackOf (if (d == (0 : Int)) = true then f else b) (IntKind.wrap IntKind.i64 (i - (1 : Int))))), PureC Try.prog 57 [AV.sl Mode.any 30 none (List.map Idd.enc (stackOf (if (d == (0 : Int)) = true then f else b) (IntKind.wrap IntKind.i64 (i - (1 : Int)))))] (AV.sl Mode.own 30 (some (List.length (stackOf (if (d == (0 : Int)) = true then f else b) (IntKind.wrap IntKind.i64 (i - (1 : Int)))))) (List.map Idd.enc (stackOf (if (d == (0 : Int)) = true then f else b) (IntKind.wrap IntKind.i64 (i - (1 : Int))))))]) (base 17 0) Try.func33 rfl (by simp) rfl (by kernel_rfl)  (allp (by apply nck_c <;> (first | assumption | rfl | (simp at * <;> omega))) (allp g0 (allp (by (first | rw [view_yn] | rw [view_two] | rw [view_twoI] | rw [view_beds] | skip); apply bdo_c <;> (first | assumption | rfl | (simp at * <;> omega))) (allp (by first | exact view_ps _ _ _ | exact view_u8 _ _ _ | rfl | exact view_yn _ _ _ _ _ _ _ | exact view_id _ _ _ | exact view_stk _ _ _ | exact view_beds _ _ _ _ _ _ | exact view_pt _ _ _) (allp (by apply stk_c <;> (first | assumption | rfl | (simp at * <;> omega))) (allp (by first | exact view_ps _ _ _ | exact view_u8 _ _ _ | rfl | exact view_yn _ _ _ _ _ _ _ | exact view_id _ _ _ | exact view_stk _ _ _ | exact view_beds _ _ _ _ _ _ | exact view_pt _ _ _) (allp (by apply frs_c <;> (first | assumption | rfl | (simp at * <;> omega))) allp_nil)))))))
theorem sml_0 (ca cb : Option Nat) (a b : List Idd) (i : Int) (g0 : decide (i < (↑(List.length (List.map Idd.enc a)) : Int)) = true) (g1 : decide ((0 : Int) ≤ i ∧ i < (↑(List.length (List.map Idd.enc a)) : Int)) = true) (g2 : List.getD (List.map Idd.enc a) (Int.toNat i) AV.bad = Idd.enc (List.getD a (Int.toNat i) default)) (g3 : decide ((0 : Int) ≤ i ∧ i < (↑(List.length (List.map Idd.enc b)) : Int)) = true) (g4 : List.getD (List.map Idd.enc b) (Int.toNat i) AV.bad = Idd.enc (List.getD b (Int.toNat i) default)) (g5 : (!(Idd.y (List.getD a (Int.toNat i) default) == Idd.y (List.getD b (Int.toNat i) default) && Idd.n (List.getD a (Int.toNat i) default) == Idd.n (List.getD b (Int.toNat i) default))) = true) : Tri Try.prog (cxN 33 0) (loopBody Try.f41 0) ([(0, isl ca a), (1, isl cb b), (5, it i)] ) (Ex.ret) ([(4, it 0)]) :=
  evA_ok (H := h41) (ans := [.c, .c, .c, .c, .b true, .c, .c, .b true, .r (Idd.enc (List.getD a (Int.toNat i) default)), .c, .c, .c, .c, .b true, .r (Idd.enc (List.getD b (Int.toNat i) default)), .c, .c, .c, .b true, .c]) (ps := [decide (i < (↑(List.length (List.map Idd.enc a)) : Int)) = true, decide ((0 : Int) ≤ i ∧ i < (↑(List.length (List.map Idd.enc a)) : Int)) = true, List.getD (List.map Idd.enc a) (Int.toNat i) AV.bad = Idd.enc (List.getD a (Int.toNat i) default), decide ((0 : Int) ≤ i ∧ i < (↑(List.length (List.map Idd.enc b)) : Int)) = true, List.getD (List.map Idd.enc b) (Int.toNat i) AV.bad = Idd.enc (List.getD b (Int.toNat i) default), (!(Idd.y (List.getD a (Int.toNat i) default) == Idd.y (List.getD b (Int.toNat i) default) && Idd.n (List.getD a (Int.toNat i) default) == Idd.n (List.getD b (Int.toNat i) default))) = true]) (ans' := []) (base 33 0) cxA_K.1 cxA_K.2 _ (by kernel_rfl)  (allp g0 (allp g1 (allp g2 (allp g3 (allp g4 (allp g5 allp_nil))))))
theorem sml_1 (ca cb : Option Nat) (a b : List Idd) (i : Int) (g0 : decide (i < (↑(List.length (List.map Idd.enc a)) : Int)) = true) (g1 : decide ((0 : Int) ≤ i ∧ i < (↑(List.length (List.map Idd.enc a)) : Int)) = true) (g2 : List.getD (List.map Idd.enc a) (Int.toNat i) AV.bad = Idd.enc (List.getD a (Int.toNat i) default)) (g3 : decide ((0 : Int) ≤ i ∧ i < (↑(List.length (List.map Idd.enc b)) : Int)) = true) (g4 : List.getD (List.map Idd.enc b) (Int.toNat i) AV.bad = Idd.enc (List.getD b (Int.toNat i) default)) (g5 : (!(Idd.y (List.getD a (Int.toNat i) default) == Idd.y (List.getD b (Int.toNat i) default) && Idd.n (List.getD a (Int.toNat i) default) == Idd.n (List.getD b (Int.toNat i) default))) = false) : Tri Try.prog (cxN 33 0) (loopBody Try.f41 0) ([(0, isl ca a), (1, isl cb b), (5, it i)] ) (Ex.normal) ([(0, AV.sl Mode.any 30 ca (List.map Idd.enc a)), (1, AV.sl Mode.any 30 cb (List.map Idd.enc b)), (5, it (IntKind.wrap IntKind.i64 (i + (1 : Int))))]) :=
  evA_ok (H := h41) (ans := [.c, .c, .c, .c, .b true, .c, .c, .b true, .r (Idd.enc (List.getD a (Int.toNat i) default)), .c, .c, .c, .c, .b true, .r (Idd.enc (List.getD b (Int.toNat i) default)), .c, .c, .c, .b false, .c, .c, .c]) (ps := [decide (i < (↑(List.length (List.map Idd.enc a)) : Int)) = true, decide ((0 : Int) ≤ i ∧ i < (↑(List.length (List.map Idd.enc a)) : Int)) = true, List.getD (List.map Idd.enc a) (Int.toNat i) AV.bad = Idd.enc (List.getD a (Int.toNat i) default), decide ((0 : Int) ≤ i ∧ i < (↑(List.length (List.map Idd.enc b)) : Int)) = true, List.getD (List.map Idd.enc b) (Int.toNat i) AV.bad = Idd.enc (List.getD b (Int.toNat i) default), (!(Idd.y (List.getD a (Int.toNat i) default) == Idd.y (List.getD b (Int.toNat i) default) && Idd.n (List.getD a (Int.toNat i) default) == Idd.n (List.getD b (Int.toNat i) default))) = false]) (ans' := []) (base 33 0) cxA_K.1 cxA_K.2 _ (by kernel_rfl)  (allp g0 (allp g1 (allp g2 (allp g3 (allp g4 (allp g5 allp_nil))))))
theorem sml_2 (ca cb : Option Nat) (a b : List Idd) (i : Int) (g0 : decide (i < (↑(List.length (List.map Idd.enc a)) : Int)) = false) : Tri Try.prog (cxN 33 0) (loopBody Try.f41 0) ([(0, isl ca a), (1, isl cb b), (5, it i)] ) (Ex.exit 0) ([(0, AV.sl Mode.any 30 ca (List.map Idd.enc a)), (1, AV.sl Mode.any 30 cb (List.map Idd.enc b)), (5, it i), (21, bb (decide (i < (↑(List.length (List.map Idd.enc a)) : Int))))]) :=
  evA_ok (H := h41) (ans := [.c, .c, .c, .c, .b false]) (ps := [decide (i < (↑(List.length (List.map Idd.enc a)) : Int)) = false]) (ans' := []) (base 33 0) cxA_K.1 cxA_K.2 _ (by kernel_rfl)  (allp g0 allp_nil)
theorem ixl_0 (ca : Option Nat) (a : List Idd) (p : Idd) (m i : Int) (g0 : decide (i < m) = true) (g1 : decide ((0 : Int) ≤ i ∧ i < (↑(List.length (List.map Idd.enc a)) : Int)) = true) (g2 : List.getD (List.map Idd.enc a) (Int.toNat i) AV.bad = Idd.enc (List.getD a (Int.toNat i) default)) (g3 : (Idd.y p == Idd.y (List.getD a (Int.toNat i) default) && Idd.n p == Idd.n (List.getD a (Int.toNat i) default)) = true) : Tri Try.prog (cxN 19 0) (loopBody Try.f70 0) ([(0, isl ca a), (3, .box [ub p.y, it p.n]), (7, it m), (8, it i)] ) (Ex.ret) ([(4, it i)]) :=
  evA_ok (H := h70) (ans := [.c, .b true, .c, .c, .c, .c, .c, .b true, .r (Idd.enc (List.getD a (Int.toNat i) default)), .c, .c, .c, .b true, .c, .c]) (ps := [decide (i < m) = true, decide ((0 : Int) ≤ i ∧ i < (↑(List.length (List.map Idd.enc a)) : Int)) = true, List.getD (List.map Idd.enc a) (Int.toNat i) AV.bad = Idd.enc (List.getD a (Int.toNat i) default), (Idd.y p == Idd.y (List.getD a (Int.toNat i) default) && Idd.n p == Idd.n (List.getD a (Int.toNat i) default)) = true]) (ans' := []) (base 19 0) cxA_K.1 cxA_K.2 _ (by kernel_rfl)  (allp g0 (allp g1 (allp g2 (allp g3 allp_nil))))
theorem ixl_1 (ca : Option Nat) (a : List Idd) (p : Idd) (m i : Int) (g0 : decide (i < m) = true) (g1 : decide ((0 : Int) ≤ i ∧ i < (↑(List.length (List.map Idd.enc a)) : Int)) = true) (g2 : List.getD (List.map Idd.enc a) (Int.toNat i) AV.bad = Idd.enc (List.getD a (Int.toNat i) default)) (g3 : (Idd.y p == Idd.y (List.getD a (Int.toNat i) default) && Idd.n p == Idd.n (List.getD a (Int.toNat i) default)) = false) : Tri Try.prog (cxN 19 0) (loopBody Try.f70 0) ([(0, isl ca a), (3, .box [ub p.y, it p.n]), (7, it m), (8, it i)] ) (Ex.normal) ([(0, AV.sl Mode.any 30 ca (List.map Idd.enc a)), (3, AV.box [ub (Idd.y p), it (Idd.n p)]), (7, it m), (8, it (IntKind.wrap IntKind.i64 (i + (1 : Int))))]) :=
  evA_ok (H := h70) (ans := [.c, .b true, .c, .c, .c, .c, .c, .b true, .r (Idd.enc (List.getD a (Int.toNat i) default)), .c, .c, .c, .b false, .c, .c]) (ps := [decide (i < m) = true, decide ((0 : Int) ≤ i ∧ i < (↑(List.length (List.map Idd.enc a)) : Int)) = true, List.getD (List.map Idd.enc a) (Int.toNat i) AV.bad = Idd.enc (List.getD a (Int.toNat i) default), (Idd.y p == Idd.y (List.getD a (Int.toNat i) default) && Idd.n p == Idd.n (List.getD a (Int.toNat i) default)) = false]) (ans' := []) (base 19 0) cxA_K.1 cxA_K.2 _ (by kernel_rfl)  (allp g0 (allp g1 (allp g2 (allp g3 allp_nil))))
theorem ixl_2 (ca : Option Nat) (a : List Idd) (p : Idd) (m i : Int) (g0 : decide (i < m) = false) : Tri Try.prog (cxN 19 0) (loopBody Try.f70 0) ([(0, isl ca a), (3, .box [ub p.y, it p.n]), (7, it m), (8, it i)] ) (Ex.exit 0) ([(0, AV.sl Mode.any 30 ca (List.map Idd.enc a)), (3, AV.box [ub (Idd.y p), it (Idd.n p)]), (7, it m), (8, it i), (9, bb (decide (i < m)))]) :=
  evA_ok (H := h70) (ans := [.c, .b false]) (ps := [decide (i < m) = false]) (ans' := []) (base 19 0) cxA_K.1 cxA_K.2 _ (by kernel_rfl)  (allp g0 allp_nil)
theorem nml_0 (ca : Option Nat) (a : List Idd) (m i : Int) (g0 : decide (i < m) = true) (g1 : decide ((0 : Int) ≤ i ∧ i < (↑(List.length (List.map Idd.enc a)) : Int)) = true) (g2 : List.getD (List.map Idd.enc a) (Int.toNat i) AV.bad = Idd.enc (List.getD a (Int.toNat i) default)) (g3 : (!namedB (Idd.y (List.getD a (Int.toNat i) default)) (Idd.n (List.getD a (Int.toNat i) default))) = true) : Tri Try.prog (cxN 15 0) (loopBody Try.f62 0) ([(5, isl ca a), (6, it m), (7, it i)] ) (Ex.ret) ([(2, bb false)]) :=
  evA_ok (H := h62) (ans := [.c, .b true, .b true, .r (Idd.enc (List.getD a (Int.toNat i) default)), .c, .c, .c, .c, .c, .r (bb (namedB (Idd.y (List.getD a (Int.toNat i) default)) (Idd.n (List.getD a (Int.toNat i) default)))), .c, .c, .c, .b true, .c]) (ps := [decide (i < m) = true, decide ((0 : Int) ≤ i ∧ i < (↑(List.length (List.map Idd.enc a)) : Int)) = true, List.getD (List.map Idd.enc a) (Int.toNat i) AV.bad = Idd.enc (List.getD a (Int.toNat i) default), PureC Try.prog 28 [AV.agg [ub (Idd.y (List.getD a (Int.toNat i) default)), it (Idd.n (List.getD a (Int.toNat i) default))]] (bb (namedB (Idd.y (List.getD a (Int.toNat i) default)) (Idd.n (List.getD a (Int.toNat i) default)))), (!namedB (Idd.y (List.getD a (Int.toNat i) default)) (Idd.n (List.getD a (Int.toNat i) default))) = true]) (ans' := []) (base 15 0) cxA_K.1 cxA_K.2 _ (by kernel_rfl)  (allp g0 (allp g1 (allp g2 (allp (by apply named_c <;> (first | assumption | rfl | (simp at * <;> omega))) (allp g3 allp_nil)))))
theorem nml_1 (ca : Option Nat) (a : List Idd) (m i : Int) (g0 : decide (i < m) = true) (g1 : decide ((0 : Int) ≤ i ∧ i < (↑(List.length (List.map Idd.enc a)) : Int)) = true) (g2 : List.getD (List.map Idd.enc a) (Int.toNat i) AV.bad = Idd.enc (List.getD a (Int.toNat i) default)) (g3 : (!namedB (Idd.y (List.getD a (Int.toNat i) default)) (Idd.n (List.getD a (Int.toNat i) default))) = false) : Tri Try.prog (cxN 15 0) (loopBody Try.f62 0) ([(5, isl ca a), (6, it m), (7, it i)] ) (Ex.normal) ([(5, AV.sl Mode.any 30 ca (List.map Idd.enc a)), (6, it m), (7, it (IntKind.wrap IntKind.i64 (i + (1 : Int))))]) :=
  evA_ok (H := h62) (ans := [.c, .b true, .b true, .r (Idd.enc (List.getD a (Int.toNat i) default)), .c, .c, .c, .c, .c, .r (bb (namedB (Idd.y (List.getD a (Int.toNat i) default)) (Idd.n (List.getD a (Int.toNat i) default)))), .c, .c, .c, .b false, .c, .c]) (ps := [decide (i < m) = true, decide ((0 : Int) ≤ i ∧ i < (↑(List.length (List.map Idd.enc a)) : Int)) = true, List.getD (List.map Idd.enc a) (Int.toNat i) AV.bad = Idd.enc (List.getD a (Int.toNat i) default), PureC Try.prog 28 [AV.agg [ub (Idd.y (List.getD a (Int.toNat i) default)), it (Idd.n (List.getD a (Int.toNat i) default))]] (bb (namedB (Idd.y (List.getD a (Int.toNat i) default)) (Idd.n (List.getD a (Int.toNat i) default)))), (!namedB (Idd.y (List.getD a (Int.toNat i) default)) (Idd.n (List.getD a (Int.toNat i) default))) = false]) (ans' := []) (base 15 0) cxA_K.1 cxA_K.2 _ (by kernel_rfl)  (allp g0 (allp g1 (allp g2 (allp (by apply named_c <;> (first | assumption | rfl | (simp at * <;> omega))) (allp g3 allp_nil)))))
theorem nml_2 (ca : Option Nat) (a : List Idd) (m i : Int) (g0 : decide (i < m) = false) : Tri Try.prog (cxN 15 0) (loopBody Try.f62 0) ([(5, isl ca a), (6, it m), (7, it i)] ) (Ex.exit 0) ([(5, AV.sl Mode.any 30 ca (List.map Idd.enc a)), (6, it m), (7, it i), (8, bb (decide (i < m)))]) :=
  evA_ok (H := h62) (ans := [.c, .b false]) (ps := [decide (i < m) = false]) (ans' := []) (base 15 0) cxA_K.1 cxA_K.2 _ (by kernel_rfl)  (allp g0 allp_nil)
theorem eql_0 (ca cb : Option Nat) (a b : List Idd) (m i : Int) (g0 : decide (i < m) = true) (g1 : decide ((0 : Int) ≤ i ∧ i < (↑(List.length (List.map Idd.enc a)) : Int)) = true) (g2 : List.getD (List.map Idd.enc a) (Int.toNat i) AV.bad = Idd.enc (List.getD a (Int.toNat i) default)) (g3 : decide ((0 : Int) ≤ i ∧ i < (↑(List.length (List.map Idd.enc b)) : Int)) = true) (g4 : List.getD (List.map Idd.enc b) (Int.toNat i) AV.bad = Idd.enc (List.getD b (Int.toNat i) default)) (g5 : (!(Idd.y (List.getD a (Int.toNat i) default) == Idd.y (List.getD b (Int.toNat i) default) && Idd.n (List.getD a (Int.toNat i) default) == Idd.n (List.getD b (Int.toNat i) default))) = true) : Tri Try.prog (cxN 26 0) (loopBody Try.f72 0) ([(0, isl ca a), (1, isl cb b), (12, it m), (13, it i)] ) (Ex.ret) ([(4, bb false)]) :=
  evA_ok (H := h72) (ans := [.c, .b true, .c, .c, .c, .c, .b true, .r (Idd.enc (List.getD a (Int.toNat i) default)), .c, .c, .c, .c, .b true, .r (Idd.enc (List.getD b (Int.toNat i) default)), .c, .c, .c, .b true, .c]) (ps := [decide (i < m) = true, decide ((0 : Int) ≤ i ∧ i < (↑(List.length (List.map Idd.enc a)) : Int)) = true, List.getD (List.map Idd.enc a) (Int.toNat i) AV.bad = Idd.enc (List.getD a (Int.toNat i) default), decide ((0 : Int) ≤ i ∧ i < (↑(List.length (List.map Idd.enc b)) : Int)) = true, List.getD (List.map Idd.enc b) (Int.toNat i) AV.bad = Idd.enc (List.getD b (Int.toNat i) default), (!(Idd.y (List.getD a (Int.toNat i) default) == Idd.y (List.getD b (Int.toNat i) default) && Idd.n (List.getD a (Int.toNat i) default) == Idd.n (List.getD b (Int.toNat i) default))) = true]) (ans' := []) (base 26 0) cxA_K.1 cxA_K.2 _ (by kernel_rfl)  (allp g0 (allp g1 (allp g2 (allp g3 (allp g4 (allp g5 allp_nil))))))
theorem eql_1 (ca cb : Option Nat) (a b : List Idd) (m i : Int) (g0 : decide (i < m) = true) (g1 : decide ((0 : Int) ≤ i ∧ i < (↑(List.length (List.map Idd.enc a)) : Int)) = true) (g2 : List.getD (List.map Idd.enc a) (Int.toNat i) AV.bad = Idd.enc (List.getD a (Int.toNat i) default)) (g3 : decide ((0 : Int) ≤ i ∧ i < (↑(List.length (List.map Idd.enc b)) : Int)) = true) (g4 : List.getD (List.map Idd.enc b) (Int.toNat i) AV.bad = Idd.enc (List.getD b (Int.toNat i) default)) (g5 : (!(Idd.y (List.getD a (Int.toNat i) default) == Idd.y (List.getD b (Int.toNat i) default) && Idd.n (List.getD a (Int.toNat i) default) == Idd.n (List.getD b (Int.toNat i) default))) = false) : Tri Try.prog (cxN 26 0) (loopBody Try.f72 0) ([(0, isl ca a), (1, isl cb b), (12, it m), (13, it i)] ) (Ex.normal) ([(0, AV.sl Mode.any 30 ca (List.map Idd.enc a)), (1, AV.sl Mode.any 30 cb (List.map Idd.enc b)), (12, it m), (13, it (IntKind.wrap IntKind.i64 (i + (1 : Int))))]) :=
  evA_ok (H := h72) (ans := [.c, .b true, .c, .c, .c, .c, .b true, .r (Idd.enc (List.getD a (Int.toNat i) default)), .c, .c, .c, .c, .b true, .r (Idd.enc (List.getD b (Int.toNat i) default)), .c, .c, .c, .b false, .c, .c]) (ps := [decide (i < m) = true, decide ((0 : Int) ≤ i ∧ i < (↑(List.length (List.map Idd.enc a)) : Int)) = true, List.getD (List.map Idd.enc a) (Int.toNat i) AV.bad = Idd.enc (List.getD a (Int.toNat i) default), decide ((0 : Int) ≤ i ∧ i < (↑(List.length (List.map Idd.enc b)) : Int)) = true, List.getD (List.map Idd.enc b) (Int.toNat i) AV.bad = Idd.enc (List.getD b (Int.toNat i) default), (!(Idd.y (List.getD a (Int.toNat i) default) == Idd.y (List.getD b (Int.toNat i) default) && Idd.n (List.getD a (Int.toNat i) default) == Idd.n (List.getD b (Int.toNat i) default))) = false]) (ans' := []) (base 26 0) cxA_K.1 cxA_K.2 _ (by kernel_rfl)  (allp g0 (allp g1 (allp g2 (allp g3 (allp g4 (allp g5 allp_nil))))))
theorem eql_2 (ca cb : Option Nat) (a b : List Idd) (m i : Int) (g0 : decide (i < m) = false) : Tri Try.prog (cxN 26 0) (loopBody Try.f72 0) ([(0, isl ca a), (1, isl cb b), (12, it m), (13, it i)] ) (Ex.exit 0) ([(0, AV.sl Mode.any 30 ca (List.map Idd.enc a)), (1, AV.sl Mode.any 30 cb (List.map Idd.enc b)), (12, it m), (13, it i), (14, bb (decide (i < m)))]) :=
  evA_ok (H := h72) (ans := [.c, .b false]) (ps := [decide (i < m) = false]) (ans' := []) (base 26 0) cxA_K.1 cxA_K.2 _ (by kernel_rfl)  (allp g0 allp_nil)
theorem eqA_0 (ca cb : Option Nat) (a b : List Idd) (x1 : (((List.length (List.map Idd.enc a) : Nat) : Int) != ((List.length (List.map Idd.enc b) : Nat) : Int)) = true) (g0 : ((↑(List.length (List.map Idd.enc a)) : Int) != (↑(List.length (List.map Idd.enc b)) : Int)) = true) : PureC Try.prog 72 [isl ca a, isl cb b]  (bb false) :=
  funA_ok (H := h72) (n := 26) (ans := [.c, .c, .c, .c, .c, .c, .b true, .c]) (ps := [((↑(List.length (List.map Idd.enc a)) : Int) != (↑(List.length (List.map Idd.enc b)) : Int)) = true]) (base 26 0) Try.func72 rfl (by simp) rfl (by kernel_rfl)  (allp g0 allp_nil)
end Tst
end

section
open Go Go.Lf Go.Proofs
namespace Tst
theorem id_beq (p q : Idd) : (p.y == q.y && p.n == q.n) = (p == q) := by
  cases p; cases q
  rw [Bool.eq_iff_iff]
  simp [Bool.and_eq_true]
theorem scan0 {a : List Idd} {i : Nat} (h : i < a.length) : decide ((i : Int) < (((a.map Idd.enc).length : Nat) : Int)) = true ∧ decide ((0 : Int) ≤ (i : Int) ∧ (i : Int) < (((a.map Idd.enc).length : Nat) : Int)) = true ∧ List.getD (List.map Idd.enc a) (Int.toNat (i : Int)) AV.bad = Idd.enc (List.getD a (Int.toNat (i : Int)) default) :=
  ⟨by simpa using h, by simpa using h, getD_id h⟩
theorem sm_eq (ca cb : Option Nat) (a b : List Idd) (hl : a.length = b.length) (hA : a.length < 2 ^ 62) : ∀ (k i : Nat), i + k = a.length → a.drop i = b.drop i →
    Rnd Try.prog (cxN 33 0) (loopBody Try.f41 0) (k + 1) [(0, isl ca a), (1, isl cb b), (5, it i)] (.exit 0) [] := by
  intro k
  induction k with
  | zero =>
    intro i hi _
    exact Rnd.exit (Tri.after [] (sml_2 ca cb a b i (by simp; omega))) (by simp)
  | succ k ih =>
    intro i hi hd
    have hlt : i < a.length := by omega
    have hlb : i < b.length := by omega
    have e0 : a.getD i default = b.getD i default := by
      have := congrArg (fun l => l.getD 0 default) hd
      simpa [List.getD_eq_getElem?_getD] using this
    have hd' : a.drop (i + 1) = b.drop (i + 1) := by
      have := congrArg (List.drop 1) hd
      simpa [List.drop_drop, Nat.add_comm] using this
    obtain ⟨s1, s2, s3⟩ := scan0 hlt
    obtain ⟨_, s5, s6⟩ := scan0 hlb
    have h1 := sml_1 ca cb a b i s1 s2 s3 s5 s6 (by rw [id_beq]; simp only [Int.toNat_natCast, e0]; simp)
    rw [wrap_id' (by omega) (by omega)] at h1
    exact Rnd.step h1 (ih (i + 1) (by omega) hd')
theorem sm_ne (ca cb : Option Nat) (a b : List Idd) (hl : a.length = b.length) (hA : a.length < 2 ^ 62) : ∀ (k i : Nat), i + k = a.length → a.drop i ≠ b.drop i →
    Rnd Try.prog (cxN 33 0) (loopBody Try.f41 0) (k + 1) [(0, isl ca a), (1, isl cb b), (5, it i)] .ret [(4, it 0)] := by
  intro k
  induction k with
  | zero =>
    intro i hi hne
    exact absurd (by rw [List.drop_of_length_le (by omega), List.drop_of_length_le (by omega)]) hne
  | succ k ih =>
    intro i hi hne
    have hlt : i < a.length := by omega
    have hlb : i < b.length := by omega
    obtain ⟨s1, s2, s3⟩ := scan0 hlt
    obtain ⟨_, s5, s6⟩ := scan0 hlb
    by_cases e0 : a.getD i default = b.getD i default
    · have hd' : a.drop (i + 1) ≠ b.drop (i + 1) := by
        intro h
        apply hne
        rw [List.drop_eq_getElem_cons hlt, List.drop_eq_getElem_cons hlb, h]
        congr 1
        simpa [List.getD_eq_getElem?_getD, hlt, hlb] using e0
      have h1 := sml_1 ca cb a b i s1 s2 s3 s5 s6 (by rw [id_beq]; simp only [Int.toNat_natCast, e0]; simp)
      rw [wrap_id' (by omega) (by omega)] at h1
      exact Rnd.step h1 (ih (i + 1) (by omega) hd')
    · exact Rnd.exit (sml_0 ca cb a b i s1 s2 s3 s5 s6 (by rw [id_beq]; simp only [Int.toNat_natCast]; simpa using e0)) (by simp)
theorem smE (ca cb : Option Nat) (a b : List Idd) (h : a = b) (hA : a.length < 2 ^ 62) : Tri Try.prog (cxN 33 0) (.loop (loopBody Try.f41 0)) [(0, isl ca a), (1, isl cb b), (5, it 0)] (.exit 0) [] :=
  Rnd.loop (sm_eq ca cb a b (by rw [h]) hA a.length 0 (by omega) (by rw [h]))
theorem smN (ca cb : Option Nat) (a b : List Idd) (hl : a.length = b.length) (h : a ≠ b) (hA : a.length < 2 ^ 62) : Tri Try.prog (cxN 33 0) (.loop (loopBody Try.f41 0)) [(0, isl ca a), (1, isl cb b), (5, it 0)] .ret [(4, it 0)] :=
  Rnd.loop (sm_ne ca cb a b hl hA a.length 0 (by omega) (by simpa using h))
theorem eq_eq (ca cb : Option Nat) (a b : List Idd) (hl : a.length = b.length) (hA : a.length < 2 ^ 62) : ∀ (k i : Nat), i + k = a.length → a.drop i = b.drop i →
    Rnd Try.prog (cxN 26 0) (loopBody Try.f72 0) (k + 1) [(0, isl ca a), (1, isl cb b), (12, it a.length), (13, it i)] (.exit 0) [] := by
  intro k
  induction k with
  | zero =>
    intro i hi _
    exact Rnd.exit (Tri.after [] (eql_2 ca cb a b a.length i (by simp; omega))) (by simp)
  | succ k ih =>
    intro i hi hd
    have hlt : i < a.length := by omega
    have hlb : i < b.length := by omega
    have e0 : a.getD i default = b.getD i default := by
      have := congrArg (fun l => l.getD 0 default) hd
      simpa [List.getD_eq_getElem?_getD] using this
    have hd' : a.drop (i + 1) = b.drop (i + 1) := by
      have := congrArg (List.drop 1) hd
      simpa [List.drop_drop, Nat.add_comm] using this
    obtain ⟨_, s2, s3⟩ := scan0 hlt
    obtain ⟨_, s5, s6⟩ := scan0 hlb
    have h1 := eql_1 ca cb a b a.length i (by simp; omega) s2 s3 s5 s6 (by rw [id_beq]; simp only [Int.toNat_natCast, e0]; simp)
    rw [wrap_id' (by omega) (by omega)] at h1
    exact Rnd.step h1 (ih (i + 1) (by omega) hd')
theorem eq_ne (ca cb : Option Nat) (a b : List Idd) (hl : a.length = b.length) (hA : a.length < 2 ^ 62) : ∀ (k i : Nat), i + k = a.length → a.drop i ≠ b.drop i →
    Rnd Try.prog (cxN 26 0) (loopBody Try.f72 0) (k + 1) [(0, isl ca a), (1, isl cb b), (12, it a.length), (13, it i)] .ret [(4, bb false)] := by
  intro k
  induction k with
  | zero =>
    intro i hi hne
    exact absurd (by rw [List.drop_of_length_le (by omega), List.drop_of_length_le (by omega)]) hne
  | succ k ih =>
    intro i hi hne
    have hlt : i < a.length := by omega
    have hlb : i < b.length := by omega
    obtain ⟨_, s2, s3⟩ := scan0 hlt
    obtain ⟨_, s5, s6⟩ := scan0 hlb
    by_cases e0 : a.getD i default = b.getD i default
    · have hd' : a.drop (i + 1) ≠ b.drop (i + 1) := by
        intro h
        apply hne
        rw [List.drop_eq_getElem_cons hlt, List.drop_eq_getElem_cons hlb, h]
        congr 1
        simpa [List.getD_eq_getElem?_getD, hlt, hlb] using e0
      have h1 := eql_1 ca cb a b a.length i (by simp; omega) s2 s3 s5 s6 (by rw [id_beq]; simp only [Int.toNat_natCast, e0]; simp)
      rw [wrap_id' (by omega) (by omega)] at h1
      exact Rnd.step h1 (ih (i + 1) (by omega) hd')
    · exact Rnd.exit (eql_0 ca cb a b a.length i (by simp; omega) s2 s3 s5 s6 (by rw [id_beq]; simp only [Int.toNat_natCast]; simpa using e0)) (by simp)
theorem eqE (ca cb : Option Nat) (a b : List Idd) (h : a = b) (hA : a.length < 2 ^ 62) : Tri Try.prog (cxN 26 0) (.loop (loopBody Try.f72 0)) [(0, isl ca a), (1, isl cb b), (12, it (((a.map Idd.enc).length : Nat) : Int)), (13, it 0)] (.exit 0) [] := by
  rw [List.length_map]
  exact Rnd.loop (eq_eq ca cb a b (by rw [h]) hA a.length 0 (by omega) (by rw [h]))
theorem eqN (ca cb : Option Nat) (a b : List Idd) (hl : a.length = b.length) (h : a ≠ b) (hA : a.length < 2 ^ 62) : Tri Try.prog (cxN 26 0) (.loop (loopBody Try.f72 0)) [(0, isl ca a), (1, isl cb b), (12, it (((a.map Idd.enc).length : Nat) : Int)), (13, it 0)] .ret [(4, bb false)] := by
  rw [List.length_map]
  exact Rnd.loop (eq_ne ca cb a b hl hA a.length 0 (by omega) (by simpa using h))
def nmI (p : Idd) : Bool := namedB p.y p.n
theorem nm_rnd (ca : Option Nat) (a : List Idd) (hA : a.length < 2 ^ 62) : ∀ (k i : Nat), i + k = a.length →
    Rnd Try.prog (cxN 15 0) (loopBody Try.f62 0) (k + 1) [(5, isl ca a), (6, it a.length), (7, it i)] (if (a.drop i).all nmI = true then .exit 0 else .ret) (if (a.drop i).all nmI = true then [] else [(2, bb false)]) := by
  intro k
  induction k with
  | zero =>
    intro i hi
    rw [List.drop_of_length_le (by omega)]
    simp only [List.all_nil, if_true]
    exact Rnd.exit (Tri.after [] (nml_2 ca a a.length i (by simp; omega))) (by simp)
  | succ k ih =>
    intro i hi
    have hlt : i < a.length := by omega
    obtain ⟨_, s2, s3⟩ := scan0 hlt
    rw [List.drop_eq_getElem_cons hlt, List.all_cons]
    have eg : a.getD i default = a[i] := by rw [List.getD_eq_getElem?_getD, List.getElem?_eq_getElem hlt]; rfl
    cases hn : nmI a[i] with
    | true =>
      have hn' : namedB (a.getD i default).y (a.getD i default).n = true := by rw [eg]; exact hn
      have h1 := nml_1 ca a a.length i (by simp; omega) s2 s3 (by simp only [Int.toNat_natCast, hn']; rfl)
      rw [wrap_id' (by omega) (by omega)] at h1
      simp only [Bool.true_and]
      exact Rnd.step h1 (ih (i + 1) (by omega))
    | false =>
      have hn' : namedB (a.getD i default).y (a.getD i default).n = false := by rw [eg]; exact hn
      simp only [Bool.false_and, Bool.false_eq_true, if_false]
      exact Rnd.exit (nml_0 ca a a.length i (by simp; omega) s2 s3 (by simp only [Int.toNat_natCast, hn']; rfl)) (by simp)
theorem nmT (ca : Option Nat) (a : List Idd) (hA : a.length < 2 ^ 62) (h : a.all nmI = true) : Tri Try.prog (cxN 15 0) (.loop (loopBody Try.f62 0)) [(5, isl ca a), (6, it (((a.map Idd.enc).length : Nat) : Int)), (7, it 0)] (.exit 0) [] := by
  rw [List.length_map]
  have := Rnd.loop (nm_rnd ca a hA a.length 0 (by omega))
  rw [List.drop_zero, if_pos h, if_pos h] at this
  exact this
theorem nmF (ca : Option Nat) (a : List Idd) (hA : a.length < 2 ^ 62) (h : a.all nmI = false) : Tri Try.prog (cxN 15 0) (.loop (loopBody Try.f62 0)) [(5, isl ca a), (6, it (((a.map Idd.enc).length : Nat) : Int)), (7, it 0)] .ret [(2, bb false)] := by
  rw [List.length_map]
  have := Rnd.loop (nm_rnd ca a hA a.length 0 (by omega))
  rw [List.drop_zero, if_neg (by rw [h]; simp), if_neg (by rw [h]; simp)] at this
  exact this
end Tst
end

section
open Go Go.Lf Go.Proofs
namespace Tst
set_option maxHeartbeats 0
theorem s41A_0 (c : Nat) (cb : Option Nat) (a b : List Idd) (x1 : (((List.length (List.map Idd.enc a) : Nat) : Int) != ((List.length (List.map Idd.enc b) : Nat) : Int)) = true) (g0 : ((↑(List.length (List.map Idd.enc a)) : Int) != (↑(List.length (List.map Idd.enc b)) : Int)) = true) : PureC Try.prog 41 [isl (some c) a, isl cb b]  (it 0) :=
  funA_ok (H := h41) (n := 33) (ans := [.c, .c, .c, .c, .c, .c, .c, .b true, .c, .b true, .c, .b true, .c, .b true, .c, .b true, .c, .b true, .c, .c, .c]) (ps := [((↑(List.length (List.map Idd.enc a)) : Int) != (↑(List.length (List.map Idd.enc b)) : Int)) = true, ((↑(List.length (List.map Idd.enc a)) : Int) != (↑(List.length (List.map Idd.enc b)) : Int)) = true, ((↑(List.length (List.map Idd.enc a)) : Int) != (↑(List.length (List.map Idd.enc b)) : Int)) = true, ((↑(List.length (List.map Idd.enc a)) : Int) != (↑(List.length (List.map Idd.enc b)) : Int)) = true, ((↑(List.length (List.map Idd.enc a)) : Int) != (↑(List.length (List.map Idd.enc b)) : Int)) = true, ((↑(List.length (List.map Idd.enc a)) : Int) != (↑(List.length (List.map Idd.enc b)) : Int)) = true]) (base 33 0) Try.func41 rfl (by simp) rfl (by kernel_rfl)  (allp g0 (allp g0 (allp g0 (allp g0 (allp g0 (allp g0 allp_nil))))))
theorem s41B_0 (c : Nat) (cb : Option Nat) (a b : List Idd) (x1 : (((List.length (List.map Idd.enc a) : Nat) : Int) != ((List.length (List.map Idd.enc b) : Nat) : Int)) = false) (x2 : (((c : Nat) : Int) != ((List.length (List.map Idd.enc a) : Nat) : Int)) = true) (g0 : ((↑(List.length (List.map Idd.enc a)) : Int) != (↑(List.length (List.map Idd.enc b)) : Int)) = false) (g1 : ((↑c : Int) != (↑(List.length (List.map Idd.enc a)) : Int)) = true) : PureC Try.prog 41 [isl (some c) a, isl cb b]  (it 0) :=
  funA_ok (H := h41) (n := 33) (ans := [.c, .c, .c, .c, .c, .c, .c, .b false, .c, .b false, .c, .b false, .c, .b false, .c, .b false, .c, .b false, .c, .b true, .c]) (ps := [((↑(List.length (List.map Idd.enc a)) : Int) != (↑(List.length (List.map Idd.enc b)) : Int)) = false, ((↑(List.length (List.map Idd.enc a)) : Int) != (↑(List.length (List.map Idd.enc b)) : Int)) = false, ((↑(List.length (List.map Idd.enc a)) : Int) != (↑(List.length (List.map Idd.enc b)) : Int)) = false, ((↑(List.length (List.map Idd.enc a)) : Int) != (↑(List.length (List.map Idd.enc b)) : Int)) = false, ((↑(List.length (List.map Idd.enc a)) : Int) != (↑(List.length (List.map Idd.enc b)) : Int)) = false, ((↑(List.length (List.map Idd.enc a)) : Int) != (↑(List.length (List.map Idd.enc b)) : Int)) = false, ((↑c : Int) != (↑(List.length (List.map Idd.enc a)) : Int)) = true]) (base 33 0) Try.func41 rfl (by simp) rfl (by kernel_rfl)  (allp g0 (allp g0 (allp g0 (allp g0 (allp g0 (allp g0 (allp g1 allp_nil)))))))
theorem s41C_0 (c : Nat) (cb : Option Nat) (a b : List Idd) (h : a = b) (hA : a.length < 2 ^ 62) (x1 : (((List.length (List.map Idd.enc a) : Nat) : Int) != ((List.length (List.map Idd.enc b) : Nat) : Int)) = false) (x2 : (((c : Nat) : Int) != ((List.length (List.map Idd.enc a) : Nat) : Int)) = false) (g0 : ((↑(List.length (List.map Idd.enc a)) : Int) != (↑(List.length (List.map Idd.enc b)) : Int)) = false) (g1 : ((↑c : Int) != (↑(List.length (List.map Idd.enc a)) : Int)) = false) : PureC Try.prog 41 [isl (some c) a, isl cb b]  (it 1) :=
  funA_ok (H := h41) (n := 33) (ans := [.c, .c, .c, .c, .c, .c, .c, .b false, .c, .b false, .c, .b false, .c, .b false, .c, .b false, .c, .b false, .c, .b false, .c, .lp (Ex.exit 0) [], .c]) (ps := [((↑(List.length (List.map Idd.enc a)) : Int) != (↑(List.length (List.map Idd.enc b)) : Int)) = false, ((↑(List.length (List.map Idd.enc a)) : Int) != (↑(List.length (List.map Idd.enc b)) : Int)) = false, ((↑(List.length (List.map Idd.enc a)) : Int) != (↑(List.length (List.map Idd.enc b)) : Int)) = false, ((↑(List.length (List.map Idd.enc a)) : Int) != (↑(List.length (List.map Idd.enc b)) : Int)) = false, ((↑(List.length (List.map Idd.enc a)) : Int) != (↑(List.length (List.map Idd.enc b)) : Int)) = false, ((↑(List.length (List.map Idd.enc a)) : Int) != (↑(List.length (List.map Idd.enc b)) : Int)) = false, ((↑c : Int) != (↑(List.length (List.map Idd.enc a)) : Int)) = false, Tri Try.prog (cxN (33 : Nat) (0 : Nat)) (Code.loop (loopBody Try.f41 (0 : Nat))) [(0, AV.sl Mode.any 30 (some c) (List.map Idd.enc a)), (1, AV.sl Mode.any 30 cb (List.map Idd.enc b)), (5, it 0)] (Ex.exit 0) []]) (base 33 0) Try.func41 rfl (by simp) rfl (by kernel_rfl)  (allp g0 (allp g0 (allp g0 (allp g0 (allp g0 (allp g0 (allp g1 (allp (by first | (apply smE <;> (first | assumption | rfl | (simp at * <;> omega))) | (refine Tri.weak [(0, .keep), (1, .keep), (5, .keep)] ?_; apply smE <;> (first | assumption | rfl | (simp at * <;> omega)))) allp_nil))))))))
theorem s41D_0 (c : Nat) (cb : Option Nat) (a b : List Idd) (hl : a.length = b.length) (h : a ≠ b) (hA : a.length < 2 ^ 62) (x1 : (((List.length (List.map Idd.enc a) : Nat) : Int) != ((List.length (List.map Idd.enc b) : Nat) : Int)) = false) (x2 : (((c : Nat) : Int) != ((List.length (List.map Idd.enc a) : Nat) : Int)) = false) (g0 : ((↑(List.length (List.map Idd.enc a)) : Int) != (↑(List.length (List.map Idd.enc b)) : Int)) = false) (g1 : ((↑c : Int) != (↑(List.length (List.map Idd.enc a)) : Int)) = false) : PureC Try.prog 41 [isl (some c) a, isl cb b]  (it 0) :=
  funA_ok (H := h41) (n := 33) (ans := [.c, .c, .c, .c, .c, .c, .c, .b false, .c, .b false, .c, .b false, .c, .b false, .c, .b false, .c, .b false, .c, .b false, .c, .lp Ex.ret [(4, it 0)]]) (ps := [((↑(List.length (List.map Idd.enc a)) : Int) != (↑(List.length (List.map Idd.enc b)) : Int)) = false, ((↑(List.length (List.map Idd.enc a)) : Int) != (↑(List.length (List.map Idd.enc b)) : Int)) = false, ((↑(List.length (List.map Idd.enc a)) : Int) != (↑(List.length (List.map Idd.enc b)) : Int)) = false, ((↑(List.length (List.map Idd.enc a)) : Int) != (↑(List.length (List.map Idd.enc b)) : Int)) = false, ((↑(List.length (List.map Idd.enc a)) : Int) != (↑(List.length (List.map Idd.enc b)) : Int)) = false, ((↑(List.length (List.map Idd.enc a)) : Int) != (↑(List.length (List.map Idd.enc b)) : Int)) = false, ((↑c : Int) != (↑(List.length (List.map Idd.enc a)) : Int)) = false, Tri Try.prog (cxN (33 : Nat) (0 : Nat)) (Code.loop (loopBody Try.f41 (0 : Nat))) [(0, AV.sl Mode.any 30 (some c) (List.map Idd.enc a)), (1, AV.sl Mode.any 30 cb (List.map Idd.enc b)), (5, it 0)] Ex.ret [(4, it 0)]]) (base 33 0) Try.func41 rfl (by simp) rfl (by kernel_rfl)  (allp g0 (allp g0 (allp g0 (allp g0 (allp g0 (allp g0 (allp g1 (allp (by first | (apply smN <;> (first | assumption | rfl | (simp at * <;> omega))) | (refine Tri.weak [(0, .keep), (1, .keep), (5, .keep)] ?_; apply smN <;> (first | assumption | rfl | (simp at * <;> omega)))) allp_nil))))))))
theorem eqC_0 (ca cb : Option Nat) (a b : List Idd) (h : a = b) (hA : a.length < 2 ^ 62) (x1 : (((List.length (List.map Idd.enc a) : Nat) : Int) != ((List.length (List.map Idd.enc b) : Nat) : Int)) = false) (g0 : ((↑(List.length (List.map Idd.enc a)) : Int) != (↑(List.length (List.map Idd.enc b)) : Int)) = false) : PureC Try.prog 72 [isl ca a, isl cb b]  (bb true) :=
  funA_ok (H := h72) (n := 26) (ans := [.c, .c, .c, .c, .c, .c, .b false, .c, .c, .c, .lp (Ex.exit 0) [], .c]) (ps := [((↑(List.length (List.map Idd.enc a)) : Int) != (↑(List.length (List.map Idd.enc b)) : Int)) = false, Tri Try.prog (cxN (26 : Nat) (0 : Nat)) (Code.loop (loopBody Try.f72 (0 : Nat))) [(0, AV.sl Mode.any 30 ca (List.map Idd.enc a)), (1, AV.sl Mode.any 30 cb (List.map Idd.enc b)), (12, it (↑(List.length (List.map Idd.enc a)) : Int)), (13, it 0)] (Ex.exit 0) []]) (base 26 0) Try.func72 rfl (by simp) rfl (by kernel_rfl)  (allp g0 (allp (by first | (apply eqE <;> (first | assumption | rfl | (simp at * <;> omega))) | (refine Tri.weak [(0, .keep), (1, .keep), (12, .keep), (13, .keep)] ?_; apply eqE <;> (first | assumption | rfl | (simp at * <;> omega)))) allp_nil))
theorem eqD_0 (ca cb : Option Nat) (a b : List Idd) (hl : a.length = b.length) (h : a ≠ b) (hA : a.length < 2 ^ 62) (x1 : (((List.length (List.map Idd.enc a) : Nat) : Int) != ((List.length (List.map Idd.enc b) : Nat) : Int)) = false) (g0 : ((↑(List.length (List.map Idd.enc a)) : Int) != (↑(List.length (List.map Idd.enc b)) : Int)) = false) : PureC Try.prog 72 [isl ca a, isl cb b]  (bb false) :=
  funA_ok (H := h72) (n := 26) (ans := [.c, .c, .c, .c, .c, .c, .b false, .c, .c, .c, .lp Ex.ret [(4, bb false)]]) (ps := [((↑(List.length (List.map Idd.enc a)) : Int) != (↑(List.length (List.map Idd.enc b)) : Int)) = false, Tri Try.prog (cxN (26 : Nat) (0 : Nat)) (Code.loop (loopBody Try.f72 (0 : Nat))) [(0, AV.sl Mode.any 30 ca (List.map Idd.enc a)), (1, AV.sl Mode.any 30 cb (List.map Idd.enc b)), (12, it (↑(List.length (List.map Idd.enc a)) : Int)), (13, it 0)] Ex.ret [(4, bb false)]]) (base 26 0) Try.func72 rfl (by simp) rfl (by kernel_rfl)  (allp g0 (allp (by first | (apply eqN <;> (first | assumption | rfl | (simp at * <;> omega))) | (refine Tri.weak [(0, .keep), (1, .keep), (12, .keep), (13, .keep)] ?_; apply eqN <;> (first | assumption | rfl | (simp at * <;> omega)))) allp_nil))
theorem nmA_0 (ca : Option Nat) (a : List Idd) (hA : a.length < 2 ^ 62) (h : a.all nmI = true) : PureC Try.prog 62 [isl ca a]  (bb true) :=
  funA_ok (H := h62) (n := 15) (ans := [.c, .c, .c, .c, .lp (Ex.exit 0) [], .c]) (ps := [Tri Try.prog (cxN (15 : Nat) (0 : Nat)) (Code.loop (loopBody Try.f62 (0 : Nat))) [(5, AV.sl Mode.any 30 ca (List.map Idd.enc a)), (6, it (↑(List.length (List.map Idd.enc a)) : Int)), (7, it 0)] (Ex.exit 0) []]) (base 15 0) Try.func62 rfl (by simp) rfl (by kernel_rfl)  (allp (by first | (apply nmT <;> (first | assumption | rfl | (simp at * <;> omega))) | (refine Tri.weak [(5, .keep), (6, .keep), (7, .keep)] ?_; apply nmT <;> (first | assumption | rfl | (simp at * <;> omega)))) allp_nil)
theorem nmB_0 (ca : Option Nat) (a : List Idd) (hA : a.length < 2 ^ 62) (h : a.all nmI = false) : PureC Try.prog 62 [isl ca a]  (bb false) :=
  funA_ok (H := h62) (n := 15) (ans := [.c, .c, .c, .c, .lp Ex.ret [(2, bb false)]]) (ps := [Tri Try.prog (cxN (15 : Nat) (0 : Nat)) (Code.loop (loopBody Try.f62 (0 : Nat))) [(5, AV.sl Mode.any 30 ca (List.map Idd.enc a)), (6, it (↑(List.length (List.map Idd.enc a)) : Int)), (7, it 0)] Ex.ret [(2, bb false)]]) (base 15 0) Try.func62 rfl (by simp) rfl (by kernel_rfl)  (allp (by first | (apply nmF <;> (first | assumption | rfl | (simp at * <;> omega))) | (refine Tri.weak [(5, .keep), (6, .keep), (7, .keep)] ?_; apply nmF <;> (first | assumption | rfl | (simp at * <;> omega)))) allp_nil)
end Tst
end

section
open Go Go.Lf Go.Proofs
namespace Tst
set_option maxHeartbeats 0
theorem s41_c (c : Nat) (cb : Option Nat) (a b : List Idd) (hA : a.length < 2 ^ 62) : PureC Try.prog 41 [isl (some c) a, isl cb b] (it (if a = b ∧ c = a.length then 1 else 0)) := by
  by_cases hl : a.length = b.length
  · have x1 : (((List.length (List.map Idd.enc a) : Nat) : Int) != ((List.length (List.map Idd.enc b) : Nat) : Int)) = false := by simp; omega
    by_cases hc : c = a.length
    · have x2 : (((c : Nat) : Int) != ((List.length (List.map Idd.enc a) : Nat) : Int)) = false := by simp; omega
      by_cases h : a = b
      · rw [if_pos ⟨h, hc⟩]; exact s41C_0 c cb a b h hA x1 x2 x1 x2
      · rw [if_neg fun q => h q.1]; exact s41D_0 c cb a b hl h hA x1 x2 x1 x2
    · rw [if_neg fun q => hc q.2]
      exact s41B_0 c cb a b x1 (by simp; omega) x1 (by simp; omega)
  · rw [if_neg fun q => hl (by rw [q.1])]
    exact s41A_0 c cb a b (by simp; omega) (by simp; omega)
theorem eq72_c (ca cb : Option Nat) (a b : List Idd) (hA : a.length < 2 ^ 62) : PureC Try.prog 72 [isl ca a, isl cb b] (bb (decide (a = b))) := by
  by_cases hl : a.length = b.length
  · have x1 : (((List.length (List.map Idd.enc a) : Nat) : Int) != ((List.length (List.map Idd.enc b) : Nat) : Int)) = false := by simp; omega
    by_cases h : a = b
    · rw [decide_eq_true h]; exact eqC_0 ca cb a b h hA x1 x1
    · rw [decide_eq_false h]; exact eqD_0 ca cb a b hl h hA x1 x1
  · rw [decide_eq_false fun q => hl (by rw [q])]
    exact eqA_0 ca cb a b (by simp; omega) (by simp; omega)
theorem nml_c (ca : Option Nat) (a : List Idd) (hA : a.length < 2 ^ 62) : PureC Try.prog 62 [isl ca a] (bb (a.all nmI)) := by
  cases h : a.all nmI with
  | true => exact nmA_0 ca a hA h
  | false => exact nmB_0 ca a hA h
theorem sbl_0 (ca cb : Option Nat) (a b : List Stk) (m i : Int) (hi : 0 ≤ i) (hl : (stackOf a i).length < 2 ^ 62) (g0 : decide (i < m) = true) (g1 : (!decide (stackOf a i = stackOf b i)) = true) : Tri Try.prog (cxN 23 0) (loopBody Try.f64 0) ([(0, bsl ca a), (1, bsl cb b), (10, it m), (11, it i)] ) (Ex.ret) ([(4, bb false)]) :=
  evA_ok (H := h64) (ans := [.c, .b true, .c, .c, .c, .c, .r (bsl ca a), .r (AV.sl Mode.any 30 none (List.map Idd.enc (stackOf a i))), .c, .c, .c, .c, .r (bsl cb b), .r (AV.sl Mode.any 30 none (List.map Idd.enc (stackOf b i))), .c, .c, .r (AV.sl Mode.any 30 none (List.map Idd.enc (stackOf a i))), .r (AV.sl Mode.any 30 none (List.map Idd.enc (stackOf b i))), .r (bb (decide (stackOf a i = stackOf b i))), .c, .c, .c, .b true, .c]) (ps := [decide (i < m) = true, view (bsl ca a) = bsl ca a, PureC Try.prog 58 [bsl ca a, it i] (AV.sl Mode.any 30 none (List.map Idd.enc (stackOf a i))), view (bsl cb b) = bsl cb b, PureC Try.prog 58 [bsl cb b, it i] (AV.sl Mode.any 30 none (List.map Idd.enc (stackOf b i))), view (AV.sl Mode.any 30 none (List.map Idd.enc (stackOf a i))) = AV.sl Mode.any 30 none (List.map Idd.enc (stackOf a i)), view (AV.sl Mode.any 30 none (List.map Idd.enc (stackOf b i))) = AV.sl Mode.any 30 none (List.map Idd.enc (stackOf b i)), PureC Try.prog 72 [AV.sl Mode.any 30 none (List.map Idd.enc (stackOf a i)), AV.sl Mode.any 30 none (List.map Idd.enc (stackOf b i))] (bb (decide (stackOf a i = stackOf b i))), (!decide (stackOf a i = stackOf b i)) = true]) (ans' := []) (base 23 0) cxA_K.1 cxA_K.2 _ (by kernel_rfl)  (allp g0 (allp (by first | exact view_ps _ _ _ | exact view_u8 _ _ _ | rfl | exact view_yn _ _ _ _ _ _ _ | exact view_id _ _ _ | exact view_stk _ _ _ | exact view_beds _ _ _ _ _ _ | exact view_pt _ _ _) (allp (by apply stk_c <;> (first | assumption | rfl | (simp at * <;> omega))) (allp (by first | exact view_ps _ _ _ | exact view_u8 _ _ _ | rfl | exact view_yn _ _ _ _ _ _ _ | exact view_id _ _ _ | exact view_stk _ _ _ | exact view_beds _ _ _ _ _ _ | exact view_pt _ _ _) (allp (by apply stk_c <;> (first | assumption | rfl | (simp at * <;> omega))) (allp (by first | exact view_ps _ _ _ | exact view_u8 _ _ _ | rfl | exact view_yn _ _ _ _ _ _ _ | exact view_id _ _ _ | exact view_stk _ _ _ | exact view_beds _ _ _ _ _ _ | exact view_pt _ _ _) (allp (by first | exact view_ps _ _ _ | exact view_u8 _ _ _ | rfl | exact view_yn _ _ _ _ _ _ _ | exact view_id _ _ _ | exact view_stk _ _ _ | exact view_beds _ _ _ _ _ _ | exact view_pt _ _ _) (allp (by apply eq72_c <;> (first | assumption | rfl | (simp at * <;> omega))) (allp g1 allp_nil)))))))))
theorem sbl_1 (ca cb : Option Nat) (a b : List Stk) (m i : Int) (hi : 0 ≤ i) (hl : (stackOf a i).length < 2 ^ 62) (g0 : decide (i < m) = true) (g1 : (!decide (stackOf a i = stackOf b i)) = false) : Tri Try.prog (cxN 23 0) (loopBody Try.f64 0) ([(0, bsl ca a), (1, bsl cb b), (10, it m), (11, it i)] ) (Ex.normal) ([(0, bsl ca a), (1, bsl cb b), (10, it m), (11, it (IntKind.wrap IntKind.i64 (i + (1 : Int))))]) :=
  evA_ok (H := h64) (ans := [.c, .b true, .c, .c, .c, .c, .r (bsl ca a), .r (AV.sl Mode.any 30 none (List.map Idd.enc (stackOf a i))), .c, .c, .c, .c, .r (bsl cb b), .r (AV.sl Mode.any 30 none (List.map Idd.enc (stackOf b i))), .c, .c, .r (AV.sl Mode.any 30 none (List.map Idd.enc (stackOf a i))), .r (AV.sl Mode.any 30 none (List.map Idd.enc (stackOf b i))), .r (bb (decide (stackOf a i = stackOf b i))), .c, .c, .c, .b false, .c, .c]) (ps := [decide (i < m) = true, view (bsl ca a) = bsl ca a, PureC Try.prog 58 [bsl ca a, it i] (AV.sl Mode.any 30 none (List.map Idd.enc (stackOf a i))), view (bsl cb b) = bsl cb b, PureC Try.prog 58 [bsl cb b, it i] (AV.sl Mode.any 30 none (List.map Idd.enc (stackOf b i))), view (AV.sl Mode.any 30 none (List.map Idd.enc (stackOf a i))) = AV.sl Mode.any 30 none (List.map Idd.enc (stackOf a i)), view (AV.sl Mode.any 30 none (List.map Idd.enc (stackOf b i))) = AV.sl Mode.any 30 none (List.map Idd.enc (stackOf b i)), PureC Try.prog 72 [AV.sl Mode.any 30 none (List.map Idd.enc (stackOf a i)), AV.sl Mode.any 30 none (List.map Idd.enc (stackOf b i))] (bb (decide (stackOf a i = stackOf b i))), (!decide (stackOf a i = stackOf b i)) = false]) (ans' := []) (base 23 0) cxA_K.1 cxA_K.2 _ (by kernel_rfl)  (allp g0 (allp (by first | exact view_ps _ _ _ | exact view_u8 _ _ _ | rfl | exact view_yn _ _ _ _ _ _ _ | exact view_id _ _ _ | exact view_stk _ _ _ | exact view_beds _ _ _ _ _ _ | exact view_pt _ _ _) (allp (by apply stk_c <;> (first | assumption | rfl | (simp at * <;> omega))) (allp (by first | exact view_ps _ _ _ | exact view_u8 _ _ _ | rfl | exact view_yn _ _ _ _ _ _ _ | exact view_id _ _ _ | exact view_stk _ _ _ | exact view_beds _ _ _ _ _ _ | exact view_pt _ _ _) (allp (by apply stk_c <;> (first | assumption | rfl | (simp at * <;> omega))) (allp (by first | exact view_ps _ _ _ | exact view_u8 _ _ _ | rfl | exact view_yn _ _ _ _ _ _ _ | exact view_id _ _ _ | exact view_stk _ _ _ | exact view_beds _ _ _ _ _ _ | exact view_pt _ _ _) (allp (by first | exact view_ps _ _ _ | exact view_u8 _ _ _ | rfl | exact view_yn _ _ _ _ _ _ _ | exact view_id _ _ _ | exact view_stk _ _ _ | exact view_beds _ _ _ _ _ _ | exact view_pt _ _ _) (allp (by apply eq72_c <;> (first | assumption | rfl | (simp at * <;> omega))) (allp g1 allp_nil)))))))))
theorem sbl_2 (ca cb : Option Nat) (a b : List Stk) (m i : Int) (hi : 0 ≤ i) (hl : (stackOf a i).length < 2 ^ 62) (g0 : decide (i < m) = false) : Tri Try.prog (cxN 23 0) (loopBody Try.f64 0) ([(0, bsl ca a), (1, bsl cb b), (10, it m), (11, it i)] ) (Ex.exit 0) ([(0, bsl ca a), (1, bsl cb b), (10, it m), (11, it i), (12, bb (decide (i < m)))]) :=
  evA_ok (H := h64) (ans := [.c, .b false]) (ps := [decide (i < m) = false]) (ans' := []) (base 23 0) cxA_K.1 cxA_K.2 _ (by kernel_rfl)  (allp g0 allp_nil)
theorem shl_0 (c : Option Nat) (l : List Stk) (n : Int) (g0 : decide ((0 : Int) < n) = true) (g1 : decide ((0 : Int) ≤ IntKind.wrap IntKind.i64 (n - (1 : Int)) ∧ IntKind.wrap IntKind.i64 (n - (1 : Int)) < (↑(List.length (List.map Stk.enc l)) : Int)) = true) (g2 : List.getD (List.map Stk.enc l) (Int.toNat (IntKind.wrap IntKind.i64 (n - (1 : Int)))) AV.bad = Stk.enc (List.getD l (Int.toNat (IntKind.wrap IntKind.i64 (n - (1 : Int)))) default)) (g3 : ((↑(List.length (List.map Idd.enc (Stk.l (List.getD l (Int.toNat (IntKind.wrap IntKind.i64 (n - (1 : Int)))) default)))) : Int) == (0 : Int)) = true) : Tri Try.prog (cxN 40 0) (loopBody Try.f71 0) ([(0, bsl c l), (3, it n)] ) (Ex.normal) ([(0, bsl c l), (3, it (IntKind.wrap IntKind.i64 (n - (1 : Int))))]) :=
  evA_ok (H := h71) (ans := [.c, .c, .c, .b true, .c, .b true, .c, .b true, .c, .b true, .b true, .r (Stk.enc (List.getD l (Int.toNat (IntKind.wrap IntKind.i64 (n - (1 : Int)))) default)), .c, .b true, .c, .b true, .c, .b true, .c, .b true, .c, .b true, .c, .c, .c]) (ps := [decide ((0 : Int) < n) = true, decide ((0 : Int) < n) = true, decide ((0 : Int) < n) = true, decide ((0 : Int) < n) = true, decide ((0 : Int) ≤ IntKind.wrap IntKind.i64 (n - (1 : Int)) ∧ IntKind.wrap IntKind.i64 (n - (1 : Int)) < (↑(List.length (List.map Stk.enc l)) : Int)) = true, List.getD (List.map Stk.enc l) (Int.toNat (IntKind.wrap IntKind.i64 (n - (1 : Int)))) AV.bad = Stk.enc (List.getD l (Int.toNat (IntKind.wrap IntKind.i64 (n - (1 : Int)))) default), decide ((0 : Int) < n) = true, decide ((0 : Int) < n) = true, decide ((0 : Int) < n) = true, decide ((0 : Int) < n) = true, ((↑(List.length (List.map Idd.enc (Stk.l (List.getD l (Int.toNat (IntKind.wrap IntKind.i64 (n - (1 : Int)))) default)))) : Int) == (0 : Int)) = true]) (ans' := []) (base 40 0) cxA_K.1 cxA_K.2 _ (by kernel_rfl)  (allp g0 (allp g0 (allp g0 (allp g0 (allp g1 (allp g2 (allp g0 (allp g0 (allp g0 (allp g0 (allp g3 allp_nil)))))))))))
theorem shl_1 (c : Option Nat) (l : List Stk) (n : Int) (g0 : decide ((0 : Int) < n) = true) (g1 : decide ((0 : Int) ≤ IntKind.wrap IntKind.i64 (n - (1 : Int)) ∧ IntKind.wrap IntKind.i64 (n - (1 : Int)) < (↑(List.length (List.map Stk.enc l)) : Int)) = true) (g2 : List.getD (List.map Stk.enc l) (Int.toNat (IntKind.wrap IntKind.i64 (n - (1 : Int)))) AV.bad = Stk.enc (List.getD l (Int.toNat (IntKind.wrap IntKind.i64 (n - (1 : Int)))) default)) (g3 : ((↑(List.length (List.map Idd.enc (Stk.l (List.getD l (Int.toNat (IntKind.wrap IntKind.i64 (n - (1 : Int)))) default)))) : Int) == (0 : Int)) = false) : Tri Try.prog (cxN 40 0) (loopBody Try.f71 0) ([(0, bsl c l), (3, it n)] ) (Ex.exit 0) ([(0, bsl c l), (3, it n), (18, bb ((↑(List.length (List.map Idd.enc (Stk.l (List.getD l (Int.toNat (IntKind.wrap IntKind.i64 (n - (1 : Int)))) default)))) : Int) == (0 : Int)))]) :=
  evA_ok (H := h71) (ans := [.c, .c, .c, .b true, .c, .b true, .c, .b true, .c, .b true, .b true, .r (Stk.enc (List.getD l (Int.toNat (IntKind.wrap IntKind.i64 (n - (1 : Int)))) default)), .c, .b true, .c, .b true, .c, .b true, .c, .b true, .c, .b false]) (ps := [decide ((0 : Int) < n) = true, decide ((0 : Int) < n) = true, decide ((0 : Int) < n) = true, decide ((0 : Int) < n) = true, decide ((0 : Int) ≤ IntKind.wrap IntKind.i64 (n - (1 : Int)) ∧ IntKind.wrap IntKind.i64 (n - (1 : Int)) < (↑(List.length (List.map Stk.enc l)) : Int)) = true, List.getD (List.map Stk.enc l) (Int.toNat (IntKind.wrap IntKind.i64 (n - (1 : Int)))) AV.bad = Stk.enc (List.getD l (Int.toNat (IntKind.wrap IntKind.i64 (n - (1 : Int)))) default), decide ((0 : Int) < n) = true, decide ((0 : Int) < n) = true, decide ((0 : Int) < n) = true, decide ((0 : Int) < n) = true, ((↑(List.length (List.map Idd.enc (Stk.l (List.getD l (Int.toNat (IntKind.wrap IntKind.i64 (n - (1 : Int)))) default)))) : Int) == (0 : Int)) = false]) (ans' := []) (base 40 0) cxA_K.1 cxA_K.2 _ (by kernel_rfl)  (allp g0 (allp g0 (allp g0 (allp g0 (allp g1 (allp g2 (allp g0 (allp g0 (allp g0 (allp g0 (allp g3 allp_nil)))))))))))
theorem shl_2 (c : Option Nat) (l : List Stk) (n : Int) (g0 : decide ((0 : Int) < n) = false) : Tri Try.prog (cxN 40 0) (loopBody Try.f71 0) ([(0, bsl c l), (3, it n)] ) (Ex.exit 0) ([(0, bsl c l), (3, it n), (18, bb false)]) :=
  evA_ok (H := h71) (ans := [.c, .c, .c, .b false, .c, .b false, .c, .b false, .c, .b false, .c, .b false, .c, .b false, .c, .b false, .c, .b false, .c, .c]) (ps := [decide ((0 : Int) < n) = false, decide ((0 : Int) < n) = false, decide ((0 : Int) < n) = false, decide ((0 : Int) < n) = false, decide ((0 : Int) < n) = false, decide ((0 : Int) < n) = false, decide ((0 : Int) < n) = false, decide ((0 : Int) < n) = false]) (ans' := []) (base 40 0) cxA_K.1 cxA_K.2 _ (by kernel_rfl)  (allp g0 (allp g0 (allp g0 (allp g0 (allp g0 (allp g0 (allp g0 (allp g0 allp_nil))))))))
def OW (l : List Idd) : AV := .sl .own 30 (some l.length) (l.map Idd.enc)
theorem shm_0 (c co : Option Nat) (l : List Stk) (o : List (List Idd)) (n i : Int) (hl : (Stk.l (List.getD l (Int.toNat i) default)).length ≤ 4294967296) (g0 : decide (i < n) = true) (g1 : decide ((0 : Int) ≤ i ∧ i < (↑(List.length (List.map Stk.enc l)) : Int)) = true) (g2 : List.getD (List.map Stk.enc l) (Int.toNat i) AV.bad = Stk.enc (List.getD l (Int.toNat i) default)) (g3 : decide ((0 : Int) ≤ i ∧ i < (↑(List.length (List.map OW o)) : Int)) = true) (g4 : decide (Int.toNat i < List.length (List.map OW o)) = true) (g5 : List.getD (List.map OW o) (Int.toNat i) AV.bad = OW (List.getD o (Int.toNat i) default)) : Tri Try.prog (cxN 40 0) (loopBody Try.f71 1) ([(0, bsl c l), (4, .sl .own 62 co (o.map OW)), (26, it n), (27, it i)] ) (Ex.normal) ([(0, bsl c l), (4, AV.sl Mode.own 62 co (List.set (List.map OW o) (Int.toNat i) (setE (List.getD (List.map OW o) (Int.toNat i) AV.bad) (0 : Nat) [AV.sl Mode.own 30 (some (List.length (Stk.l (List.getD l (Int.toNat i) default)))) (List.map Idd.enc (Stk.l (List.getD l (Int.toNat i) default)))]))), (26, it n), (27, it (IntKind.wrap IntKind.i64 (i + (1 : Int))))]) :=
  evA_ok (H := h71) (ans := [.c, .b true, .c, .c, .c, .c, .c, .c, .b true, .r (Stk.enc (List.getD l (Int.toNat i) default)), .c, .c, .r (AV.sl Mode.any 30 (Stk.c (List.getD l (Int.toNat i) default)) (List.map Idd.enc (Stk.l (List.getD l (Int.toNat i) default)))), .r (AV.sl Mode.own 30 (some (List.length (Stk.l (List.getD l (Int.toNat i) default)))) (List.map Idd.enc (Stk.l (List.getD l (Int.toNat i) default)))), .c, .c, .b true, .c, .b true, .r (OW (List.getD o (Int.toNat i) default)), .c, .c, .c]) (ps := [decide (i < n) = true, decide ((0 : Int) ≤ i ∧ i < (↑(List.length (List.map Stk.enc l)) : Int)) = true, List.getD (List.map Stk.enc l) (Int.toNat i) AV.bad = Stk.enc (List.getD l (Int.toNat i) default), view (AV.sl Mode.any 30 (Stk.c (List.getD l (Int.toNat i) default)) (List.map Idd.enc (Stk.l (List.getD l (Int.toNat i) default)))) = AV.sl Mode.any 30 (Stk.c (List.getD l (Int.toNat i) default)) (List.map Idd.enc (Stk.l (List.getD l (Int.toNat i) default))), PureC Try.prog 57 [AV.sl Mode.any 30 (Stk.c (List.getD l (Int.toNat i) default)) (List.map Idd.enc (Stk.l (List.getD l (Int.toNat i) default)))] (AV.sl Mode.own 30 (some (List.length (Stk.l (List.getD l (Int.toNat i) default)))) (List.map Idd.enc (Stk.l (List.getD l (Int.toNat i) default)))), decide ((0 : Int) ≤ i ∧ i < (↑(List.length (List.map OW o)) : Int)) = true, decide (Int.toNat i < List.length (List.map OW o)) = true, List.getD (List.map OW o) (Int.toNat i) AV.bad = OW (List.getD o (Int.toNat i) default)]) (ans' := []) (base 40 0) cxA_K.1 cxA_K.2 _ (by kernel_rfl)  (allp g0 (allp g1 (allp g2 (allp (by first | exact view_ps _ _ _ | exact view_u8 _ _ _ | rfl | exact view_yn _ _ _ _ _ _ _ | exact view_id _ _ _ | exact view_stk _ _ _ | exact view_beds _ _ _ _ _ _ | exact view_pt _ _ _) (allp (by apply frs_c <;> (first | assumption | rfl | (simp at * <;> omega))) (allp g3 (allp g4 (allp g5 allp_nil))))))))
theorem shm_1 (c co : Option Nat) (l : List Stk) (o : List (List Idd)) (n i : Int) (hl : (Stk.l (List.getD l (Int.toNat i) default)).length ≤ 4294967296) (g0 : decide (i < n) = false) : Tri Try.prog (cxN 40 0) (loopBody Try.f71 1) ([(0, bsl c l), (4, .sl .own 62 co (o.map OW)), (26, it n), (27, it i)] ) (Ex.exit 2) ([(0, bsl c l), (4, AV.sl Mode.own 62 co (List.map OW o)), (26, it n), (27, it i), (28, bb (decide (i < n)))]) :=
  evA_ok (H := h71) (ans := [.c, .b false]) (ps := [decide (i < n) = false]) (ans' := []) (base 40 0) cxA_K.1 cxA_K.2 _ (by kernel_rfl)  (allp g0 allp_nil)
end Tst
end

section
open Go Go.Lf Go.Proofs
namespace Tst
abbrev mxl (a b : List Stk) : Int := if ((List.length (List.map Stk.enc a) : Nat) : Int) < ((List.length (List.map Stk.enc b) : Nat) : Int) then ((List.length (List.map Stk.enc b) : Nat) : Int) else ((List.length (List.map Stk.enc a) : Nat) : Int)
theorem mxl_eq (a b : List Stk) : mxl a b = ((max a.length b.length : Nat) : Int) := by
  unfold mxl
  simp only [List.length_map]
  split <;> omega
def sameAt (a b : List Stk) (i : Nat) : Bool := decide (stackOf a i = stackOf b i)
def sameB (a b : List Stk) : Bool := (List.range (max a.length b.length)).all (sameAt a b)
theorem stackOf_len {a : List Stk} (h : ∀ s ∈ a, s.l.length ≤ 4294967296) (i : Int) (h0 : 0 ≤ i) : (stackOf a i).length ≤ 4294967296 := by
  unfold stackOf
  split
  · have hl : i.toNat < a.length := by omega
    exact h _ (by rw [List.getD_eq_getElem?_getD, List.getElem?_eq_getElem hl]; exact List.getElem_mem hl)
  · simp
theorem sb_rnd (ca cb : Option Nat) (a b : List Stk) (ha : ∀ s ∈ a, s.l.length ≤ 4294967296) (m : Nat) (hm : m < 2 ^ 62) : ∀ (k i : Nat), i + k = m →
    Rnd Try.prog (cxN 23 0) (loopBody Try.f64 0) (k + 1) [(0, bsl ca a), (1, bsl cb b), (10, it m), (11, it i)] (if (List.range' i k).all (sameAt a b) = true then .exit 0 else .ret) (if (List.range' i k).all (sameAt a b) = true then [] else [(4, bb false)]) := by
  intro k
  induction k with
  | zero =>
    intro i hi
    simp only [List.range'_zero, List.all_nil, if_true]
    exact Rnd.exit (Tri.after [] (sbl_2 ca cb a b m i (by omega) (by have := stackOf_len ha (i : Int) (by omega); omega) (by simp; omega))) (by simp)
  | succ k ih =>
    intro i hi
    have hl := stackOf_len ha (i : Int) (by omega)
    rw [List.range'_succ, List.all_cons]
    by_cases hs : stackOf a i = stackOf b i
    · have e : sameAt a b i = true := decide_eq_true hs
      have h1 := sbl_1 ca cb a b m i (by omega) (by omega) (by simp; omega) (by rw [decide_eq_true hs]; rfl)
      rw [wrap_id' (by omega) (by omega)] at h1
      rw [e, Bool.true_and]
      exact Rnd.step h1 (ih (i + 1) (by omega))
    · have e : sameAt a b i = false := decide_eq_false hs
      rw [e, Bool.false_and]
      simp only [Bool.false_eq_true, if_false]
      exact Rnd.exit (sbl_0 ca cb a b m i (by omega) (by omega) (by simp; omega) (by rw [decide_eq_false hs]; rfl)) (by simp)
theorem sb_loop (ca cb : Option Nat) (a b : List Stk) (ha : ∀ s ∈ a, s.l.length ≤ 4294967296) (hm : max a.length b.length < 2 ^ 62) : Tri Try.prog (cxN 23 0) (.loop (loopBody Try.f64 0)) [(0, bsl ca a), (1, bsl cb b), (10, it (mxl a b)), (11, it 0)] (if sameB a b = true then .exit 0 else .ret) (if sameB a b = true then [] else [(4, bb false)]) := by
  have := Rnd.loop (sb_rnd ca cb a b ha (max a.length b.length) hm (max a.length b.length) 0 (by omega))
  rw [mxl_eq]
  unfold sameB
  rw [List.range_eq_range']
  exact this
theorem sbE (ca cb : Option Nat) (a b : List Stk) (ha : ∀ s ∈ a, s.l.length ≤ 4294967296) (hm : max a.length b.length < 2 ^ 62) (h : sameB a b = true) : Tri Try.prog (cxN 23 0) (.loop (loopBody Try.f64 0)) [(0, bsl ca a), (1, bsl cb b), (10, it (mxl a b)), (11, it 0)] (.exit 0) [] := by
  have := sb_loop ca cb a b ha hm
  rwa [if_pos h, if_pos h] at this
theorem sbN (ca cb : Option Nat) (a b : List Stk) (ha : ∀ s ∈ a, s.l.length ≤ 4294967296) (hm : max a.length b.length < 2 ^ 62) (h : sameB a b = false) : Tri Try.prog (cxN 23 0) (.loop (loopBody Try.f64 0)) [(0, bsl ca a), (1, bsl cb b), (10, it (mxl a b)), (11, it 0)] .ret [(4, bb false)] := by
  have := sb_loop ca cb a b ha hm
  rwa [if_neg (by rw [h]; simp), if_neg (by rw [h]; simp)] at this
def trimL (l : List Stk) : Nat → Nat
  | 0 => 0
  | n + 1 => if (l.getD n default).l.length = 0 then trimL l n else n + 1
theorem trimL_le (l : List Stk) : ∀ n, trimL l n ≤ n
  | 0 => Nat.le_refl _
  | n + 1 => by
    unfold trimL
    split
    · have := trimL_le l n; omega
    · omega
theorem sh_rnd (c : Option Nat) (l : List Stk) (hA : l.length < 2 ^ 62) : ∀ (n : Nat), n ≤ l.length →
    Rnd Try.prog (cxN 40 0) (loopBody Try.f71 0) (n + 1) [(0, bsl c l), (3, it n)] (.exit 0) [(0, bsl c l), (3, it (trimL l n))] := by
  intro n
  induction n with
  | zero =>
    intro _
    exact Rnd.exit (Tri.after [(0, .keep), (3, .keep)] (shl_2 c l 0 (by decide))) (by simp)
  | succ n ih =>
    intro hn
    have hw : IntKind.wrap IntKind.i64 (((n + 1 : Nat) : Int) - 1) = (n : Int) := by rw [wrap_id' (by omega) (by omega)]; omega
    have g1 : decide ((0 : Int) ≤ IntKind.wrap IntKind.i64 (((n + 1 : Nat) : Int) - (1 : Int)) ∧ IntKind.wrap IntKind.i64 (((n + 1 : Nat) : Int) - (1 : Int)) < (((List.length (List.map Stk.enc l) : Nat)) : Int)) = true := by rw [hw]; simp; omega
    have g2 : List.getD (List.map Stk.enc l) (Int.toNat (IntKind.wrap IntKind.i64 (((n + 1 : Nat) : Int) - (1 : Int)))) AV.bad = Stk.enc (List.getD l (Int.toNat (IntKind.wrap IntKind.i64 (((n + 1 : Nat) : Int) - (1 : Int)))) default) := by rw [hw]; exact getD_stk (by omega)
    by_cases h : (l.getD n default).l.length = 0
    · have h1 := shl_0 c l ((n + 1 : Nat) : Int) (decide_eq_true (by omega)) g1 g2 (by rw [hw, Int.toNat_natCast, List.length_map, h]; rfl)
      rw [hw] at h1
      have e : trimL l (n + 1) = trimL l n := by rw [trimL, if_pos h]
      rw [e]
      exact Rnd.step h1 (ih (by omega))
    · have h1 := shl_1 c l ((n + 1 : Nat) : Int) (decide_eq_true (by omega)) g1 g2 (by rw [hw, Int.toNat_natCast, List.length_map]; simpa using h)
      have e : trimL l (n + 1) = n + 1 := by rw [trimL, if_neg h]
      rw [e]
      exact Rnd.exit (Tri.after [(0, .keep), (3, .keep)] h1) (by simp)
theorem sh_loop (c : Option Nat) (l : List Stk) (hA : l.length < 2 ^ 62) : Tri Try.prog (cxN 40 0) (.loop (loopBody Try.f71 0)) [(0, bsl c l), (3, it ((List.length (List.map Stk.enc l) : Nat) : Int))] (.exit 0) [(0, bsl c l), (3, it (trimL l l.length))] := by
  rw [List.length_map]
  exact Rnd.loop (sh_rnd c l hA l.length (Nat.le_refl _))
theorem getD_ow {o : List (List Idd)} {i : Nat} (h : i < o.length) : (o.map OW).getD i .bad = OW (o.getD i default) := by
  simp [List.getD_eq_getElem?_getD, h]
theorem set_ow (o : List (List Idd)) (i : Nat) (l : List Idd) (h : i < o.length) : List.set (List.map OW o) i (setE (List.getD (List.map OW o) i AV.bad) 0 [AV.sl Mode.own 30 (some l.length) (List.map Idd.enc l)]) = (o.set i l).map OW := by
  rw [getD_ow h, List.map_set]; rfl
theorem sc_rnd (c co : Option Nat) (l : List Stk) (N : Nat) (hN : N ≤ l.length) (hA : N < 2 ^ 62) (hl : ∀ s ∈ l, s.l.length ≤ 4294967296) : ∀ (k i : Nat), i + k = N →
    Rnd Try.prog (cxN 40 0) (loopBody Try.f71 1) (k + 1) [(0, bsl c l), (4, .sl .own 62 co (((l.take i).map Stk.l ++ List.replicate k []).map OW)), (26, it N), (27, it i)] (.exit 2) [(4, .sl .own 62 co (((l.take N).map Stk.l).map OW))] := by
  intro k
  induction k with
  | zero =>
    intro i hi
    have hi' : i = N := by omega
    subst hi'
    rw [List.replicate_zero, List.append_nil]
    exact Rnd.exit (Tri.after [(4, .keep)] (shm_1 c co l _ i i (by
      by_cases h : i < l.length
      · exact hl _ (by rw [Int.toNat_natCast, List.getD_eq_getElem?_getD, List.getElem?_eq_getElem h]; exact List.getElem_mem h)
      · rw [Int.toNat_natCast, List.getD_eq_getElem?_getD, List.getElem?_eq_none (by omega)]; exact Nat.zero_le _) (by simp))) (by simp)
  | succ k ih =>
    intro i hi
    have hlt : i < l.length := by omega
    have hol : i < ((l.take i).map Stk.l ++ List.replicate (k + 1) ([] : List Idd)).length := by simp; omega
    have hel : (Stk.l (List.getD l (Int.toNat (i : Int)) default)).length ≤ 4294967296 := hl _ (by rw [Int.toNat_natCast, List.getD_eq_getElem?_getD, List.getElem?_eq_getElem hlt]; exact List.getElem_mem hlt)
    have h1 := shm_0 c co l ((l.take i).map Stk.l ++ List.replicate (k + 1) []) N i hel (by simp; omega) (by simpa using hlt) (getD_stk hlt) (by simp only [List.length_map, decide_eq_true_eq]; exact ⟨by omega, by exact_mod_cast hol⟩) (by simp only [List.length_map, decide_eq_true_eq, Int.toNat_natCast]; exact hol) (getD_ow hol)
    rw [wrap_id' (by omega) (by omega)] at h1
    have e : List.set (List.map OW ((l.take i).map Stk.l ++ List.replicate (k + 1) [])) (Int.toNat (i : Int)) (setE (List.getD (List.map OW ((l.take i).map Stk.l ++ List.replicate (k + 1) [])) (Int.toNat (i : Int)) AV.bad) (0 : Nat) [AV.sl Mode.own 30 (some (List.length (Stk.l (List.getD l (Int.toNat (i : Int)) default)))) (List.map Idd.enc (Stk.l (List.getD l (Int.toNat (i : Int)) default)))]) = ((l.take (i + 1)).map Stk.l ++ List.replicate k []).map OW := by
      rw [Int.toNat_natCast, set_ow _ _ _ hol]
      congr 1
      have hlen : ((l.take i).map Stk.l).length = i := by simp; omega
      rw [List.set_append_right _ _ (by omega), hlen, Nat.sub_self, List.replicate_succ, List.set_cons_zero, List.take_succ_eq_append_getElem hlt, List.map_append, List.append_assoc]
      congr 1
      simp [List.getD_eq_getElem?_getD, hlt]
    rw [e] at h1
    exact Rnd.step h1 (ih (i + 1) (by omega))
end Tst
end

section
open Go Go.Lf Go.Proofs
namespace Tst
set_option maxHeartbeats 0
theorem sbA_0 (ca cb : Option Nat) (a b : List Stk) (ha : ∀ s ∈ a, s.l.length ≤ 4294967296) (hm : max a.length b.length < 2 ^ 62) (h : sameB a b = true) : PureC Try.prog 64 [bsl ca a, bsl cb b]  (bb true) :=
  funA_ok (H := h64) (n := 23) (ans := [.c, .c, .c, .c, .c, .c, .c, .lp (Ex.exit 0) [], .c]) (ps := [Tri Try.prog (cxN (23 : Nat) (0 : Nat)) (Code.loop (loopBody Try.f64 (0 : Nat))) [(0, bsl ca a), (1, bsl cb b), (10, it (if true = true then if (↑(List.length (List.map Stk.enc a)) : Int) < (↑(List.length (List.map Stk.enc b)) : Int) then (↑(List.length (List.map Stk.enc b)) : Int) else (↑(List.length (List.map Stk.enc a)) : Int) else if (↑(List.length (List.map Stk.enc b)) : Int) < (↑(List.length (List.map Stk.enc a)) : Int) then (↑(List.length (List.map Stk.enc b)) : Int) else (↑(List.length (List.map Stk.enc a)) : Int))), (11, it 0)] (Ex.exit 0) []]) (base 23 0) Try.func64 rfl (by simp) rfl (by kernel_rfl)  (allp (by first | (apply sbE <;> (first | assumption | rfl | (simp at * <;> omega))) | (refine Tri.weak [(0, .keep), (1, .keep), (10, .keep), (11, .keep)] ?_; apply sbE <;> (first | assumption | rfl | (simp at * <;> omega)))) allp_nil)
theorem sbB_0 (ca cb : Option Nat) (a b : List Stk) (ha : ∀ s ∈ a, s.l.length ≤ 4294967296) (hm : max a.length b.length < 2 ^ 62) (h : sameB a b = false) : PureC Try.prog 64 [bsl ca a, bsl cb b]  (bb false) :=
  funA_ok (H := h64) (n := 23) (ans := [.c, .c, .c, .c, .c, .c, .c, .lp Ex.ret [(4, bb false)]]) (ps := [Tri Try.prog (cxN (23 : Nat) (0 : Nat)) (Code.loop (loopBody Try.f64 (0 : Nat))) [(0, bsl ca a), (1, bsl cb b), (10, it (if true = true then if (↑(List.length (List.map Stk.enc a)) : Int) < (↑(List.length (List.map Stk.enc b)) : Int) then (↑(List.length (List.map Stk.enc b)) : Int) else (↑(List.length (List.map Stk.enc a)) : Int) else if (↑(List.length (List.map Stk.enc b)) : Int) < (↑(List.length (List.map Stk.enc a)) : Int) then (↑(List.length (List.map Stk.enc b)) : Int) else (↑(List.length (List.map Stk.enc a)) : Int))), (11, it 0)] Ex.ret [(4, bb false)]]) (base 23 0) Try.func64 rfl (by simp) rfl (by kernel_rfl)  (allp (by first | (apply sbN <;> (first | assumption | rfl | (simp at * <;> omega))) | (refine Tri.weak [(0, .keep), (1, .keep), (10, .keep), (11, .keep)] ?_; apply sbN <;> (first | assumption | rfl | (simp at * <;> omega)))) allp_nil)
theorem shA_0 (c : Option Nat) (l : List Stk) (hA : l.length < 2 ^ 62) (x1 : ((((trimL l l.length) : Nat) : Int) == (0 : Int)) = true) (g0 : ((↑(trimL l (List.length l)) : Int) == (0 : Int)) = true) : PureC Try.prog 71 [bsl c l]  niln :=
  funA_ok (H := h71) (n := 40) (ans := [.c, .c, .c, .c, .lp (Ex.exit 0) [(0, bsl c l), (3, it (↑(trimL l (List.length l)) : Int))], .c, .c, .b true, .c]) (ps := [Tri Try.prog (cxN (40 : Nat) (0 : Nat)) (Code.loop (loopBody Try.f71 (0 : Nat))) [(0, bsl c l), (3, it (↑(List.length (List.map Stk.enc l)) : Int))] (Ex.exit 0) [(0, bsl c l), (3, it (↑(trimL l (List.length l)) : Int))], ((↑(trimL l (List.length l)) : Int) == (0 : Int)) = true]) (base 40 0) Try.func71 rfl (by simp) rfl (by kernel_rfl)  (allp (by first | (apply sh_loop <;> (first | assumption | rfl | (simp at * <;> omega))) | (refine Tri.weak [(0, .keep), (3, .keep)] ?_; apply sh_loop <;> (first | assumption | rfl | (simp at * <;> omega)))) (allp g0 allp_nil))
end Tst
end

section
open Go Go.Lf Go.Proofs
namespace Tst
abbrev ti62 : TInfo := { zero := [.slice none 0 0], bytes := 24, agg := false, kind := .slice 30 }
theorem sc_loop (c : Option Nat) (l : List Stk) (N : Nat) (hN : N ≤ l.length) (hA : N < 2 ^ 62) (hl : ∀ s ∈ l, s.l.length ≤ 4294967296) :
    Tri Try.prog (cxN 40 0) (.loop (loopBody Try.f71 1)) [(0, bsl c l), (4, .sl .own 62 (some (Int.toNat (N : Int))) (List.replicate (Int.toNat (N : Int)) (zeroEl ti62))), (26, it ((List.length (List.replicate (Int.toNat (N : Int)) (zeroEl ti62)) : Nat) : Int)), (27, it 0)] (.exit 2)
      [(4, .sl .own 62 (some N) (((l.take N).map Stk.l).map OW))] := by
  rw [List.length_replicate, Int.toNat_natCast]
  have h := Rnd.loop (sc_rnd c (some N) l N hN hA hl N 0 (by omega))
  rw [List.take_zero, List.map_nil, List.nil_append, List.map_replicate] at h
  refine Tri.more h ?_
  exact .cons ⟨rfl, rfl, Le.refl _⟩ (.cons ⟨rfl, rfl, Le.ownRep rfl rfl (Le.nilOwn 30) N⟩ (.cons ⟨rfl, rfl, Le.refl _⟩ (.cons ⟨rfl, rfl, Le.refl _⟩ .nil)))
end Tst
end

section
open Go Go.Lf Go.Proofs
namespace Tst
set_option maxHeartbeats 0
theorem shC_0 (c : Option Nat) (l : List Stk) (hA : l.length < 2 ^ 62) (hN : trimL l l.length ≤ l.length) (hB : trimL l l.length < 2 ^ 62) (hl : ∀ s ∈ l, s.l.length ≤ 4294967296) (x1 : ((((trimL l l.length) : Nat) : Int) == (0 : Int)) = false) (g0 : ((↑(trimL l (List.length l)) : Int) == (0 : Int)) = false) (g1 : decide ((0 : Int) ≤ (↑(trimL l (List.length l)) : Int) ∧ (↑(trimL l (List.length l)) : Int) ≤ (↑(trimL l (List.length l)) : Int) ∧ (↑(trimL l (List.length l)) : Int) ≤ (4294967296 : Int) ∧ TInfo.bytes { zero := [Value.slice none (0 : Nat) (0 : Nat)], bytes := (24 : Nat), agg := false, kind := TK.slice (30 : TypeId) } ≤ (4096 : Nat) ∧ (0 : Nat) < List.length (TInfo.zero ti62)) = true) : PureC Try.prog 71 [bsl c l]  (AV.sl Mode.own 62 (some (trimL l (List.length l))) (List.map OW (List.map Stk.l (List.take (trimL l (List.length l)) l)))) :=
  funA_ok (H := h71) (n := 40) (ans := [.c, .c, .c, .c, .lp (Ex.exit 0) [(0, bsl c l), (3, it (↑(trimL l (List.length l)) : Int))], .c, .c, .b false, .c, .b true, .c, .c, .c, .c, .c, .lp (Ex.exit 2) [(4, AV.sl Mode.own 62 (some (trimL l (List.length l))) (List.map OW (List.map Stk.l (List.take (trimL l (List.length l)) l))))], .c, .c]) (ps := [Tri Try.prog (cxN (40 : Nat) (0 : Nat)) (Code.loop (loopBody Try.f71 (0 : Nat))) [(0, bsl c l), (3, it (↑(List.length (List.map Stk.enc l)) : Int))] (Ex.exit 0) [(0, bsl c l), (3, it (↑(trimL l (List.length l)) : Int))], ((↑(trimL l (List.length l)) : Int) == (0 : Int)) = false, decide ((0 : Int) ≤ (↑(trimL l (List.length l)) : Int) ∧ (↑(trimL l (List.length l)) : Int) ≤ (↑(trimL l (List.length l)) : Int) ∧ (↑(trimL l (List.length l)) : Int) ≤ (4294967296 : Int) ∧ TInfo.bytes { zero := [Value.slice none (0 : Nat) (0 : Nat)], bytes := (24 : Nat), agg := false, kind := TK.slice (30 : TypeId) } ≤ (4096 : Nat) ∧ (0 : Nat) < List.length (TInfo.zero ti62)) = true, Tri Try.prog (cxN (40 : Nat) (0 : Nat)) (Code.loop (loopBody Try.f71 (1 : Nat))) [(0, bsl c l), (4, AV.sl Mode.own 62 (some (Int.toNat (↑(trimL l (List.length l)) : Int))) (List.replicate (Int.toNat (↑(trimL l (List.length l)) : Int)) (zeroEl { zero := [Value.slice none (0 : Nat) (0 : Nat)], bytes := (24 : Nat), agg := false, kind := TK.slice (30 : TypeId) }))), (26, it (↑(List.length (List.replicate (Int.toNat (↑(trimL l (List.length l)) : Int)) (zeroEl { zero := [Value.slice none (0 : Nat) (0 : Nat)], bytes := (24 : Nat), agg := false, kind := TK.slice (30 : TypeId) }))) : Int)), (27, it 0)] (Ex.exit 2) [(4, AV.sl Mode.own 62 (some (trimL l (List.length l))) (List.map OW (List.map Stk.l (List.take (trimL l (List.length l)) l))))]]) (base 40 0) Try.func71 rfl (by simp) rfl (by kernel_rfl)  (allp (by first | (apply sh_loop <;> (first | assumption | rfl | (simp at * <;> omega))) | (refine Tri.weak [(0, .keep), (3, .keep)] ?_; apply sh_loop <;> (first | assumption | rfl | (simp at * <;> omega))) | (apply sc_loop <;> (first | assumption | rfl | (simp at * <;> omega))) | (refine Tri.weak [(0, .keep), (4, .keep), (26, .keep), (27, .keep)] ?_; apply sc_loop <;> (first | assumption | rfl | (simp at * <;> omega)))) (allp g0 (allp g1 (allp (by first | (apply sh_loop <;> (first | assumption | rfl | (simp at * <;> omega))) | (refine Tri.weak [(0, .keep), (3, .keep)] ?_; apply sh_loop <;> (first | assumption | rfl | (simp at * <;> omega))) | (apply sc_loop <;> (first | assumption | rfl | (simp at * <;> omega))) | (refine Tri.weak [(0, .keep), (4, .keep), (26, .keep), (27, .keep)] ?_; apply sc_loop <;> (first | assumption | rfl | (simp at * <;> omega)))) allp_nil))))
theorem sameBed_c (ca cb : Option Nat) (a b : List Stk) (ha : ∀ s ∈ a, s.l.length ≤ 4294967296) (hm : max a.length b.length < 2 ^ 62) : PureC Try.prog 64 [bsl ca a, bsl cb b] (bb (sameB a b)) := by
  cases h : sameB a b with
  | true => exact sbA_0 ca cb a b ha hm h
  | false => exact sbB_0 ca cb a b ha hm h
theorem sme_0 (c1 c2 c3 c4 : Option Nat) (f b f' b' : List Stk) (h1 : ∀ s ∈ f, s.l.length ≤ 4294967296) (h2 : ∀ s ∈ b, s.l.length ≤ 4294967296) (h3 : max f.length f'.length < 2 ^ 62) (h4 : max b.length b'.length < 2 ^ 62) (g0 : sameB f f' = true) : PureC Try.prog 39 [beds (bsl c1 f) (bsl c2 b), beds (bsl c3 f') (bsl c4 b')]  (bb (sameB b b')) :=
  funA_ok (H := h39) (n := 17) (ans := [.c, .c, .c, .c, .c, .c, .c, .c, .c, .c, .c, .r (bsl c1 f), .r (AV.sl Mode.any 62 c3 (List.map Stk.enc f')), .r (bb (sameB f f')), .c, .c, .c, .b true, .c, .b true, .c, .c, .c, .b true, .c, .b true, .c, .c, .c, .b true, .r (bsl c2 b), .r (AV.sl Mode.any 62 c4 (List.map Stk.enc b')), .r (bb (sameB b b')), .c, .c, .b true, .c, .c]) (ps := [view (bsl c1 f) = bsl c1 f, view (AV.sl Mode.any 62 c3 (List.map Stk.enc f')) = AV.sl Mode.any 62 c3 (List.map Stk.enc f'), PureC Try.prog 64 [bsl c1 f, AV.sl Mode.any 62 c3 (List.map Stk.enc f')] (bb (sameB f f')), sameB f f' = true, sameB f f' = true, sameB f f' = true, sameB f f' = true, sameB f f' = true, view (bsl c2 b) = bsl c2 b, view (AV.sl Mode.any 62 c4 (List.map Stk.enc b')) = AV.sl Mode.any 62 c4 (List.map Stk.enc b'), PureC Try.prog 64 [bsl c2 b, AV.sl Mode.any 62 c4 (List.map Stk.enc b')] (bb (sameB b b')), sameB f f' = true]) (base 17 0) Try.func39 rfl (by simp) rfl (by kernel_rfl)  (allp (by first | exact view_ps _ _ _ | exact view_u8 _ _ _ | rfl | exact view_yn _ _ _ _ _ _ _ | exact view_id _ _ _ | exact view_stk _ _ _ | exact view_beds _ _ _ _ _ _ | exact view_pt _ _ _) (allp (by first | exact view_ps _ _ _ | exact view_u8 _ _ _ | rfl | exact view_yn _ _ _ _ _ _ _ | exact view_id _ _ _ | exact view_stk _ _ _ | exact view_beds _ _ _ _ _ _ | exact view_pt _ _ _) (allp (by apply sameBed_c <;> (first | assumption | rfl | (simp at * <;> omega))) (allp g0 (allp g0 (allp g0 (allp g0 (allp g0 (allp (by first | exact view_ps _ _ _ | exact view_u8 _ _ _ | rfl | exact view_yn _ _ _ _ _ _ _ | exact view_id _ _ _ | exact view_stk _ _ _ | exact view_beds _ _ _ _ _ _ | exact view_pt _ _ _) (allp (by first | exact view_ps _ _ _ | exact view_u8 _ _ _ | rfl | exact view_yn _ _ _ _ _ _ _ | exact view_id _ _ _ | exact view_stk _ _ _ | exact view_beds _ _ _ _ _ _ | exact view_pt _ _ _) (allp (by apply sameBed_c <;> (first | assumption | rfl | (simp at * <;> omega))) (allp g0 allp_nil))))))))))))
theorem sme_1 (c1 c2 c3 c4 : Option Nat) (f b f' b' : List Stk) (h1 : ∀ s ∈ f, s.l.length ≤ 4294967296) (h2 : ∀ s ∈ b, s.l.length ≤ 4294967296) (h3 : max f.length f'.length < 2 ^ 62) (h4 : max b.length b'.length < 2 ^ 62) (g0 : sameB f f' = false) : PureC Try.prog 39 [beds (bsl c1 f) (bsl c2 b), beds (bsl c3 f') (bsl c4 b')]  (bb false) :=
  funA_ok (H := h39) (n := 17) (ans := [.c, .c, .c, .c, .c, .c, .c, .c, .c, .c, .c, .r (bsl c1 f), .r (AV.sl Mode.any 62 c3 (List.map Stk.enc f')), .r (bb (sameB f f')), .c, .c, .c, .b false, .c, .b false, .c, .b false, .c, .b false, .c, .b false, .c, .b false, .c, .c]) (ps := [view (bsl c1 f) = bsl c1 f, view (AV.sl Mode.any 62 c3 (List.map Stk.enc f')) = AV.sl Mode.any 62 c3 (List.map Stk.enc f'), PureC Try.prog 64 [bsl c1 f, AV.sl Mode.any 62 c3 (List.map Stk.enc f')] (bb (sameB f f')), sameB f f' = false, sameB f f' = false, sameB f f' = false, sameB f f' = false, sameB f f' = false, sameB f f' = false]) (base 17 0) Try.func39 rfl (by simp) rfl (by kernel_rfl)  (allp (by first | exact view_ps _ _ _ | exact view_u8 _ _ _ | rfl | exact view_yn _ _ _ _ _ _ _ | exact view_id _ _ _ | exact view_stk _ _ _ | exact view_beds _ _ _ _ _ _ | exact view_pt _ _ _) (allp (by first | exact view_ps _ _ _ | exact view_u8 _ _ _ | rfl | exact view_yn _ _ _ _ _ _ _ | exact view_id _ _ _ | exact view_stk _ _ _ | exact view_beds _ _ _ _ _ _ | exact view_pt _ _ _) (allp (by apply sameBed_c <;> (first | assumption | rfl | (simp at * <;> omega))) (allp g0 (allp g0 (allp g0 (allp g0 (allp g0 (allp g0 allp_nil)))))))))
end Tst
end

section
open Go Go.Lf Go.Proofs
namespace Tst
structure Pt where
  a : Int
  m : Int
  deriving Inhabited
def Pt.enc (p : Pt) : AV := .agg [ub p.a, ub p.m]
abbrev psl (c : Option Nat) (l : List Pt) : AV := .sl .any 87 c (l.map Pt.enc)
theorem view_pt (m : Lf.Mode) (c : Option Nat) (l : List Pt) : view (.sl m 87 c (l.map Pt.enc)) = .sl .any 87 c (l.map Pt.enc) := by
  show AV.sl .any 87 c ((l.map Pt.enc).map _) = _
  rw [List.map_map]; rfl
def ON (l : List Idd) : AV := .sl .own 30 none (l.map Idd.enc)
end Tst
end

section
open Go Go.Lf Go.Proofs
namespace Tst
set_option maxHeartbeats 0
theorem ofi_0 (ys : List AV) (ca : Option Nat) (x : List Pt) (tb : List (List Idd)) (n i t k : Int) (h0 : 0 ≤ t) (g0 : decide ((0 : Int) ≤ i ∧ i < (↑(List.length (List.map Pt.enc x)) : Int)) = true) (g1 : List.getD (List.map Pt.enc x) (Int.toNat i) AV.bad = Pt.enc (List.getD x (Int.toNat i) default)) (g2 : decide (k < IntKind.wrap IntKind.i64 (Int.tmod (Pt.m (List.getD x (Int.toNat i) default)) (5 : Int))) = true) (g3 : decide ((0 : Int) ≤ t ∧ t < (↑(80 : Nat) : Int) ∧ (0 : Nat) < List.length (TInfo.zero ti62)) = true) (g4 : decide ((0 : Nat) = (0 : Nat) ∧ Int.toNat t * List.length (TInfo.zero ti62) < List.length (List.map ON tb)) = true) (g5 : List.getD (List.map ON tb) (Int.toNat t * List.length (TInfo.zero ti62)) AV.bad = ON (List.getD tb (Int.toNat t * List.length (TInfo.zero ti62)) default)) (g6 : decide ((↑(List.length (List.map Idd.enc (List.getD tb (Int.toNat t * List.length (TInfo.zero ti62)) default))) : Int) < (4 : Int)) = true) (g7 : AV.sl Mode.own 30 (some 1) [AV.agg [ub (IntKind.wrap IntKind.u8 ((1 : Int) + IntKind.wrap IntKind.u8 (Int.tmod n (3 : Int)))), it (IntKind.wrap IntKind.i64 (Int.tdiv n (3 : Int)))]] = AV.sl Mode.own 30 (some (1 : Nat)) (List.map Idd.enc [{ y := IntKind.wrap IntKind.u8 ((1 : Int) + IntKind.wrap IntKind.u8 (Int.tmod n (3 : Int))), n := IntKind.wrap IntKind.i64 (Int.tdiv n (3 : Int)) }])) (g8 : decide (List.length (List.map Idd.enc (List.getD tb (Int.toNat t * List.length (TInfo.zero ti62)) default)) + List.length (List.map Idd.enc [{ y := IntKind.wrap IntKind.u8 ((1 : Int) + IntKind.wrap IntKind.u8 (Int.tmod n (3 : Int))), n := IntKind.wrap IntKind.i64 (Int.tdiv n (3 : Int)) }]) ≤ (4294967296 : Nat)) = true) (g9 : AV.sl Mode.own 30 none (List.map Idd.enc (List.getD tb (Int.toNat t * List.length (TInfo.zero ti62)) default) ++ List.map Idd.enc [{ y := IntKind.wrap IntKind.u8 ((1 : Int) + IntKind.wrap IntKind.u8 (Int.tmod n (3 : Int))), n := IntKind.wrap IntKind.i64 (Int.tdiv n (3 : Int)) }]) = AV.sl Mode.own 30 none (List.map Idd.enc (List.getD tb (Int.toNat t * List.length (TInfo.zero ti62)) default ++ [{ y := IntKind.wrap IntKind.u8 ((1 : Int) + IntKind.wrap IntKind.u8 (Int.tmod n (3 : Int))), n := IntKind.wrap IntKind.i64 (Int.tdiv n (3 : Int)) }]))) (g10 : decide ((0 : Nat) = (0 : Nat) ∧ Int.toNat t * List.length (TInfo.zero ti62) < List.length (List.take (Int.toNat t * List.length (TInfo.zero ti62)) (List.map ON tb) ++ [AV.bad] ++ List.drop (Int.toNat t * List.length (TInfo.zero ti62) + List.length [AV.bad]) (List.map ON tb))) = true) : Tri Try.prog (cxN 59 0) (loopBody Try.f29 1) ([(0, psl ca x), (2, .box ys), (3, .box (tb.map ON)), (4, it n), (5, it i), (6, ub t), (7, it k)] ) (Ex.normal) ([(0, AV.sl Mode.any 87 ca (List.map Pt.enc x)), (2, AV.box ys), (3, AV.box (List.take (Int.toNat t * List.length (TInfo.zero ti62)) (List.take (Int.toNat t * List.length (TInfo.zero ti62)) (List.map ON tb) ++ [AV.bad] ++ List.drop (Int.toNat t * List.length (TInfo.zero ti62) + List.length [AV.bad]) (List.map ON tb)) ++ [AV.sl Mode.own 30 none (List.map Idd.enc (List.getD tb (Int.toNat t * List.length (TInfo.zero ti62)) default ++ [{ y := IntKind.wrap IntKind.u8 ((1 : Int) + IntKind.wrap IntKind.u8 (Int.tmod n (3 : Int))), n := IntKind.wrap IntKind.i64 (Int.tdiv n (3 : Int)) }]))] ++ List.drop (Int.toNat t * List.length (TInfo.zero ti62) + List.length [AV.sl Mode.own 30 none (List.map Idd.enc (List.getD tb (Int.toNat t * List.length (TInfo.zero ti62)) default ++ [{ y := IntKind.wrap IntKind.u8 ((1 : Int) + IntKind.wrap IntKind.u8 (Int.tmod n (3 : Int))), n := IntKind.wrap IntKind.i64 (Int.tdiv n (3 : Int)) }]))]) (List.take (Int.toNat t * List.length (TInfo.zero ti62)) (List.map ON tb) ++ [AV.bad] ++ List.drop (Int.toNat t * List.length (TInfo.zero ti62) + List.length [AV.bad]) (List.map ON tb)))), (4, it (IntKind.wrap IntKind.i64 (n + (1 : Int)))), (5, it i), (6, ub t), (7, it (IntKind.wrap IntKind.i64 (k + (1 : Int))))]) :=
  evA_ok (H := h29) (ans := [.c, .c, .c, .b true, .r (Pt.enc (List.getD x (Int.toNat i) default)), .c, .c, .c, .c, .c, .c, .c, .b true, .c, .b true, .b true, .c, .b true, .b true, .r (ON (List.getD tb (Int.toNat t * List.length (TInfo.zero ti62)) default)), .c, .b true, .b true, .r (ON (List.getD tb (Int.toNat t * List.length (TInfo.zero ti62)) default)), .c, .b true, .c, .b true, .c, .b true, .c, .c, .b true, .c, .b true, .r (ON (List.getD tb (Int.toNat t * List.length (TInfo.zero ti62)) default)), .c, .c, .c, .c, .c, .c, .c, .c, .r (AV.sl Mode.own 30 (some (1 : Nat)) (List.map Idd.enc [{ y := IntKind.wrap IntKind.u8 ((1 : Int) + IntKind.wrap IntKind.u8 (Int.tmod n (3 : Int))), n := IntKind.wrap IntKind.i64 (Int.tdiv n (3 : Int)) }])), .c, .b true, .r (ON (List.getD tb (Int.toNat t * List.length (TInfo.zero ti62)) default)), .b true, .r (ON (List.getD tb (Int.toNat t * List.length (TInfo.zero ti62)) default)), .b true, .r (AV.sl Mode.own 30 none (List.map Idd.enc (List.getD tb (Int.toNat t * List.length (TInfo.zero ti62)) default ++ [{ y := IntKind.wrap IntKind.u8 ((1 : Int) + IntKind.wrap IntKind.u8 (Int.tmod n (3 : Int))), n := IntKind.wrap IntKind.i64 (Int.tdiv n (3 : Int)) }]))), .b true, .c, .b true, .c, .c, .c, .c, .c, .c, .c, .c]) (ps := [decide ((0 : Int) ≤ i ∧ i < (↑(List.length (List.map Pt.enc x)) : Int)) = true, List.getD (List.map Pt.enc x) (Int.toNat i) AV.bad = Pt.enc (List.getD x (Int.toNat i) default), decide (k < IntKind.wrap IntKind.i64 (Int.tmod (Pt.m (List.getD x (Int.toNat i) default)) (5 : Int))) = true, decide (k < IntKind.wrap IntKind.i64 (Int.tmod (Pt.m (List.getD x (Int.toNat i) default)) (5 : Int))) = true, decide ((0 : Int) ≤ t ∧ t < (↑(80 : Nat) : Int) ∧ (0 : Nat) < List.length (TInfo.zero ti62)) = true, decide (k < IntKind.wrap IntKind.i64 (Int.tmod (Pt.m (List.getD x (Int.toNat i) default)) (5 : Int))) = true, decide ((0 : Nat) = (0 : Nat) ∧ Int.toNat t * List.length (TInfo.zero ti62) < List.length (List.map ON tb)) = true, List.getD (List.map ON tb) (Int.toNat t * List.length (TInfo.zero ti62)) AV.bad = ON (List.getD tb (Int.toNat t * List.length (TInfo.zero ti62)) default), decide (k < IntKind.wrap IntKind.i64 (Int.tmod (Pt.m (List.getD x (Int.toNat i) default)) (5 : Int))) = true, decide ((0 : Nat) = (0 : Nat) ∧ Int.toNat t * List.length (TInfo.zero ti62) < List.length (List.map ON tb)) = true, List.getD (List.map ON tb) (Int.toNat t * List.length (TInfo.zero ti62)) AV.bad = ON (List.getD tb (Int.toNat t * List.length (TInfo.zero ti62)) default), decide (k < IntKind.wrap IntKind.i64 (Int.tmod (Pt.m (List.getD x (Int.toNat i) default)) (5 : Int))) = true, decide (k < IntKind.wrap IntKind.i64 (Int.tmod (Pt.m (List.getD x (Int.toNat i) default)) (5 : Int))) = true, decide ((↑(List.length (List.map Idd.enc (List.getD tb (Int.toNat t * List.length (TInfo.zero ti62)) default))) : Int) < (4 : Int)) = true, decide ((0 : Int) ≤ t ∧ t < (↑(80 : Nat) : Int) ∧ (0 : Nat) < List.length (TInfo.zero ti62)) = true, decide ((0 : Nat) = (0 : Nat) ∧ Int.toNat t * List.length (TInfo.zero ti62) < List.length (List.map ON tb)) = true, List.getD (List.map ON tb) (Int.toNat t * List.length (TInfo.zero ti62)) AV.bad = ON (List.getD tb (Int.toNat t * List.length (TInfo.zero ti62)) default), AV.sl Mode.own 30 (some 1) [AV.agg [ub (IntKind.wrap IntKind.u8 ((1 : Int) + IntKind.wrap IntKind.u8 (Int.tmod n (3 : Int)))), it (IntKind.wrap IntKind.i64 (Int.tdiv n (3 : Int)))]] = AV.sl Mode.own 30 (some (1 : Nat)) (List.map Idd.enc [{ y := IntKind.wrap IntKind.u8 ((1 : Int) + IntKind.wrap IntKind.u8 (Int.tmod n (3 : Int))), n := IntKind.wrap IntKind.i64 (Int.tdiv n (3 : Int)) }]), decide ((0 : Nat) = (0 : Nat) ∧ Int.toNat t * List.length (TInfo.zero ti62) < List.length (List.map ON tb)) = true, List.getD (List.map ON tb) (Int.toNat t * List.length (TInfo.zero ti62)) AV.bad = ON (List.getD tb (Int.toNat t * List.length (TInfo.zero ti62)) default), decide ((0 : Nat) = (0 : Nat) ∧ Int.toNat t * List.length (TInfo.zero ti62) < List.length (List.map ON tb)) = true, List.getD (List.map ON tb) (Int.toNat t * List.length (TInfo.zero ti62)) AV.bad = ON (List.getD tb (Int.toNat t * List.length (TInfo.zero ti62)) default), decide (List.length (List.map Idd.enc (List.getD tb (Int.toNat t * List.length (TInfo.zero ti62)) default)) + List.length (List.map Idd.enc [{ y := IntKind.wrap IntKind.u8 ((1 : Int) + IntKind.wrap IntKind.u8 (Int.tmod n (3 : Int))), n := IntKind.wrap IntKind.i64 (Int.tdiv n (3 : Int)) }]) ≤ (4294967296 : Nat)) = true, AV.sl Mode.own 30 none (List.map Idd.enc (List.getD tb (Int.toNat t * List.length (TInfo.zero ti62)) default) ++ List.map Idd.enc [{ y := IntKind.wrap IntKind.u8 ((1 : Int) + IntKind.wrap IntKind.u8 (Int.tmod n (3 : Int))), n := IntKind.wrap IntKind.i64 (Int.tdiv n (3 : Int)) }]) = AV.sl Mode.own 30 none (List.map Idd.enc (List.getD tb (Int.toNat t * List.length (TInfo.zero ti62)) default ++ [{ y := IntKind.wrap IntKind.u8 ((1 : Int) + IntKind.wrap IntKind.u8 (Int.tmod n (3 : Int))), n := IntKind.wrap IntKind.i64 (Int.tdiv n (3 : Int)) }])), decide ((0 : Int) ≤ t ∧ t < (↑(80 : Nat) : Int) ∧ (0 : Nat) < List.length (TInfo.zero ti62)) = true, decide ((0 : Nat) = (0 : Nat) ∧ Int.toNat t * List.length (TInfo.zero ti62) < List.length (List.take (Int.toNat t * List.length (TInfo.zero ti62)) (List.map ON tb) ++ [AV.bad] ++ List.drop (Int.toNat t * List.length (TInfo.zero ti62) + List.length [AV.bad]) (List.map ON tb))) = true]) (ans' := []) (base 59 0) cxA_K.1 cxA_K.2 _ (by kernel_rfl)  (allp g0 (allp g1 (allp g2 (allp g2 (allp g3 (allp g2 (allp g4 (allp g5 (allp g2 (allp g4 (allp g5 (allp g2 (allp g2 (allp g6 (allp g3 (allp g4 (allp g5 (allp g7 (allp g4 (allp g5 (allp g4 (allp g5 (allp g8 (allp g9 (allp g3 (allp g10 allp_nil))))))))))))))))))))))))))
theorem ofi_1 (ys : List AV) (ca : Option Nat) (x : List Pt) (tb : List (List Idd)) (n i t k : Int) (h0 : 0 ≤ t) (g0 : decide ((0 : Int) ≤ i ∧ i < (↑(List.length (List.map Pt.enc x)) : Int)) = true) (g1 : List.getD (List.map Pt.enc x) (Int.toNat i) AV.bad = Pt.enc (List.getD x (Int.toNat i) default)) (g2 : decide (k < IntKind.wrap IntKind.i64 (Int.tmod (Pt.m (List.getD x (Int.toNat i) default)) (5 : Int))) = true) (g3 : decide ((0 : Int) ≤ t ∧ t < (↑(80 : Nat) : Int) ∧ (0 : Nat) < List.length (TInfo.zero ti62)) = true) (g4 : decide ((0 : Nat) = (0 : Nat) ∧ Int.toNat t * List.length (TInfo.zero ti62) < List.length (List.map ON tb)) = true) (g5 : List.getD (List.map ON tb) (Int.toNat t * List.length (TInfo.zero ti62)) AV.bad = ON (List.getD tb (Int.toNat t * List.length (TInfo.zero ti62)) default)) (g6 : decide ((↑(List.length (List.map Idd.enc (List.getD tb (Int.toNat t * List.length (TInfo.zero ti62)) default))) : Int) < (4 : Int)) = false) : Tri Try.prog (cxN 59 0) (loopBody Try.f29 1) ([(0, psl ca x), (2, .box ys), (3, .box (tb.map ON)), (4, it n), (5, it i), (6, ub t), (7, it k)] ) (Ex.exit 2) ([(0, AV.sl Mode.any 87 ca (List.map Pt.enc x)), (2, AV.box ys), (3, AV.box (List.map ON tb)), (4, it n), (5, it i), (6, ub t), (7, it k), (39, bb (decide ((↑(List.length (List.map Idd.enc (List.getD tb (Int.toNat t * List.length (TInfo.zero ti62)) default))) : Int) < (4 : Int))))]) :=
  evA_ok (H := h29) (ans := [.c, .c, .c, .b true, .r (Pt.enc (List.getD x (Int.toNat i) default)), .c, .c, .c, .c, .c, .c, .c, .b true, .c, .b true, .b true, .c, .b true, .b true, .r (ON (List.getD tb (Int.toNat t * List.length (TInfo.zero ti62)) default)), .c, .b true, .b true, .r (ON (List.getD tb (Int.toNat t * List.length (TInfo.zero ti62)) default)), .c, .b true, .c, .b true, .c, .b false]) (ps := [decide ((0 : Int) ≤ i ∧ i < (↑(List.length (List.map Pt.enc x)) : Int)) = true, List.getD (List.map Pt.enc x) (Int.toNat i) AV.bad = Pt.enc (List.getD x (Int.toNat i) default), decide (k < IntKind.wrap IntKind.i64 (Int.tmod (Pt.m (List.getD x (Int.toNat i) default)) (5 : Int))) = true, decide (k < IntKind.wrap IntKind.i64 (Int.tmod (Pt.m (List.getD x (Int.toNat i) default)) (5 : Int))) = true, decide ((0 : Int) ≤ t ∧ t < (↑(80 : Nat) : Int) ∧ (0 : Nat) < List.length (TInfo.zero ti62)) = true, decide (k < IntKind.wrap IntKind.i64 (Int.tmod (Pt.m (List.getD x (Int.toNat i) default)) (5 : Int))) = true, decide ((0 : Nat) = (0 : Nat) ∧ Int.toNat t * List.length (TInfo.zero ti62) < List.length (List.map ON tb)) = true, List.getD (List.map ON tb) (Int.toNat t * List.length (TInfo.zero ti62)) AV.bad = ON (List.getD tb (Int.toNat t * List.length (TInfo.zero ti62)) default), decide (k < IntKind.wrap IntKind.i64 (Int.tmod (Pt.m (List.getD x (Int.toNat i) default)) (5 : Int))) = true, decide ((0 : Nat) = (0 : Nat) ∧ Int.toNat t * List.length (TInfo.zero ti62) < List.length (List.map ON tb)) = true, List.getD (List.map ON tb) (Int.toNat t * List.length (TInfo.zero ti62)) AV.bad = ON (List.getD tb (Int.toNat t * List.length (TInfo.zero ti62)) default), decide (k < IntKind.wrap IntKind.i64 (Int.tmod (Pt.m (List.getD x (Int.toNat i) default)) (5 : Int))) = true, decide (k < IntKind.wrap IntKind.i64 (Int.tmod (Pt.m (List.getD x (Int.toNat i) default)) (5 : Int))) = true, decide ((↑(List.length (List.map Idd.enc (List.getD tb (Int.toNat t * List.length (TInfo.zero ti62)) default))) : Int) < (4 : Int)) = false]) (ans' := []) (base 59 0) cxA_K.1 cxA_K.2 _ (by kernel_rfl)  (allp g0 (allp g1 (allp g2 (allp g2 (allp g3 (allp g2 (allp g4 (allp g5 (allp g2 (allp g4 (allp g5 (allp g2 (allp g2 (allp g6 allp_nil))))))))))))))
theorem ofi_2 (ys : List AV) (ca : Option Nat) (x : List Pt) (tb : List (List Idd)) (n i t k : Int) (h0 : 0 ≤ t) (g0 : decide ((0 : Int) ≤ i ∧ i < (↑(List.length (List.map Pt.enc x)) : Int)) = true) (g1 : List.getD (List.map Pt.enc x) (Int.toNat i) AV.bad = Pt.enc (List.getD x (Int.toNat i) default)) (g2 : decide (k < IntKind.wrap IntKind.i64 (Int.tmod (Pt.m (List.getD x (Int.toNat i) default)) (5 : Int))) = false) : Tri Try.prog (cxN 59 0) (loopBody Try.f29 1) ([(0, psl ca x), (2, .box ys), (3, .box (tb.map ON)), (4, it n), (5, it i), (6, ub t), (7, it k)] ) (Ex.exit 2) ([(0, AV.sl Mode.any 87 ca (List.map Pt.enc x)), (2, AV.box ys), (3, AV.box (List.map ON tb)), (4, it n), (5, it i), (6, ub t), (7, it k), (39, bb false)]) :=
  evA_ok (H := h29) (ans := [.c, .c, .c, .b true, .r (Pt.enc (List.getD x (Int.toNat i) default)), .c, .c, .c, .c, .c, .c, .c, .b false, .c, .b false, .c, .b false, .c, .b false, .c, .b false, .c, .b false, .c, .c]) (ps := [decide ((0 : Int) ≤ i ∧ i < (↑(List.length (List.map Pt.enc x)) : Int)) = true, List.getD (List.map Pt.enc x) (Int.toNat i) AV.bad = Pt.enc (List.getD x (Int.toNat i) default), decide (k < IntKind.wrap IntKind.i64 (Int.tmod (Pt.m (List.getD x (Int.toNat i) default)) (5 : Int))) = false, decide (k < IntKind.wrap IntKind.i64 (Int.tmod (Pt.m (List.getD x (Int.toNat i) default)) (5 : Int))) = false, decide (k < IntKind.wrap IntKind.i64 (Int.tmod (Pt.m (List.getD x (Int.toNat i) default)) (5 : Int))) = false, decide (k < IntKind.wrap IntKind.i64 (Int.tmod (Pt.m (List.getD x (Int.toNat i) default)) (5 : Int))) = false, decide (k < IntKind.wrap IntKind.i64 (Int.tmod (Pt.m (List.getD x (Int.toNat i) default)) (5 : Int))) = false, decide (k < IntKind.wrap IntKind.i64 (Int.tmod (Pt.m (List.getD x (Int.toNat i) default)) (5 : Int))) = false]) (ans' := []) (base 59 0) cxA_K.1 cxA_K.2 _ (by kernel_rfl)  (allp g0 (allp g1 (allp g2 (allp g2 (allp g2 (allp g2 (allp g2 (allp g2 allp_nil))))))))
end Tst
end

section
open Go Go.Lf Go.Proofs
namespace Tst
theorem wrap_u8 {n : Int} (h1 : 0 ≤ n) (h2 : n ≤ 255) : IntKind.u8.wrap n = n := by rw [IntKind.wrap_u8]; omega
def idAt (n : Nat) : Idd := ⟨((1 + n % 3 : Nat) : Int), ((n / 3 : Nat) : Int)⟩
theorem idAt_eq {n : Nat} (hn : n < 2 ^ 62) : ({ y := IntKind.wrap IntKind.u8 ((1 : Int) + IntKind.wrap IntKind.u8 (Int.tmod (n : Int) (3 : Int))), n := IntKind.wrap IntKind.i64 (Int.tdiv (n : Int) (3 : Int)) } : Idd) = idAt n := by
  rw [Int.tmod_eq_emod_of_nonneg (by omega), Int.tdiv_eq_ediv_of_nonneg (by omega), wrap_u8 (n := (n : Int) % 3) (by omega) (by omega), wrap_u8 (n := 1 + (n : Int) % 3) (by omega) (by omega), wrap_id' (by omega) (by omega)]
  simp [idAt]
def putN (t : Nat) : Nat → List (List Idd) × Nat → List (List Idd) × Nat
  | 0, s => s
  | j + 1, s => if (s.1.getD t []).length < 4 then putN t j (s.1.set t (s.1.getD t [] ++ [idAt s.2]), s.2 + 1) else s
theorem putN_len (t : Nat) : ∀ (j : Nat) (s : List (List Idd) × Nat), (putN t j s).1.length = s.1.length
  | 0, s => rfl
  | j + 1, s => by
    rw [putN]; split
    · rw [putN_len t j]; simp
    · rfl
theorem putN_n (t : Nat) : ∀ (j : Nat) (s : List (List Idd) × Nat), (putN t j s).2 ≤ s.2 + j
  | 0, s => Nat.le_refl _
  | j + 1, s => by
    rw [putN]; split
    · refine Nat.le_trans (putN_n t j _) ?_; simp only; omega
    · omega
theorem getD_ON {tb : List (List Idd)} {t : Nat} (ht : t < tb.length) : (tb.map ON).getD t .bad = ON (tb.getD t []) := by
  simp [List.getD_eq_getElem?_getD, ht]
theorem getD_pt {l : List Pt} {i : Nat} (h : i < l.length) : (l.map Pt.enc).getD i .bad = Pt.enc (l.getD i default) := by
  simp [List.getD_eq_getElem?_getD, h]
theorem set_split {α : Type} (l : List α) (t : Nat) (a : α) (h : t < l.length) : l.take t ++ [a] ++ l.drop (t + 1) = l.set t a := by
  rw [List.set_eq_take_append_cons_drop, if_pos h, List.append_assoc]; rfl
theorem box_set {tb : List (List Idd)} {t : Nat} (ht : t < tb.length) (v : List Idd) :
    List.take t (List.take t (tb.map ON) ++ [AV.bad] ++ List.drop (t + 1) (tb.map ON)) ++ [ON v] ++ List.drop (t + 1) (List.take t (tb.map ON) ++ [AV.bad] ++ List.drop (t + 1) (tb.map ON)) = (tb.set t v).map ON := by
  have h1 : List.take t (tb.map ON) ++ [AV.bad] ++ List.drop (t + 1) (tb.map ON) = (tb.map ON).set t .bad := set_split _ _ _ (by simpa using ht)
  rw [h1, set_split _ _ _ (by simpa using ht), List.set_set, List.map_set]
theorem of_in (ys : List AV) (ca : Option Nat) (x : List Pt) (i t : Nat) (hi : i < x.length) (ht : t < 80) (m : Nat) (hm : IntKind.wrap IntKind.i64 (Int.tmod (Pt.m (List.getD x i default)) (5 : Int)) = (m : Int)) (hm5 : m < 5) :
    ∀ (j k : Nat) (tb : List (List Idd)) (n : Nat), k + j = m → n + j < 2 ^ 62 → tb.length = 80 →
    Rnd Try.prog (cxN 59 0) (loopBody Try.f29 1) (j + 1) [(0, psl ca x), (2, .box ys), (3, .box (tb.map ON)), (4, it n), (5, it i), (6, ub t), (7, it k)] (.exit 2)
      [(0, psl ca x), (2, .box ys), (3, .box ((putN t j (tb, n)).1.map ON)), (4, it (putN t j (tb, n)).2), (5, it i)] := by
  intro j
  induction j with
  | zero =>
    intro k tb n hk hn htb
    exact Rnd.exit (Tri.after [(0, .keep), (2, .keep), (3, .keep), (4, .keep), (5, .keep)] (ofi_2 ys ca x tb n i t k (by omega) (by simpa using hi) (getD_pt hi) (by rw [Int.toNat_natCast, hm]; simp; omega))) (by simp)
  | succ j ih =>
    intro k tb n hk hn htb
    have g2 : decide ((k : Int) < IntKind.wrap IntKind.i64 (Int.tmod (Pt.m (List.getD x i default)) (5 : Int))) = true := by rw [hm]; simp; omega
    have ht' : t < tb.length := by omega
    by_cases hf : (tb.getD t []).length < 4
    · have h0 := ofi_0 ys ca x tb n i t k
      simp only [Int.toNat_natCast, List.length_cons, List.length_nil, Nat.zero_add, Nat.mul_one] at h0
      have h1 := h0 (by omega) (by simpa using hi) (getD_pt hi) g2 (by simp; omega) (by simp; omega) (getD_ON ht')
        (by show decide (((((tb.getD t []).map Idd.enc).length : Nat) : Int) < 4) = true; rw [List.length_map]; apply decide_eq_true; omega) rfl
        (by show decide (((tb.getD t []).map Idd.enc).length + 1 ≤ 4294967296) = true; rw [List.length_map]; apply decide_eq_true; omega)
        (by rw [List.map_append]) (by simp; omega)
      rw [idAt_eq (by omega)] at h1
      rw [putN, if_pos (show ((tb, n).1.getD t []).length < 4 from hf)]
      have e := box_set ht' (tb.getD t [] ++ [idAt n])
      refine Rnd.step (env1 := [(0, psl ca x), (2, .box ys), (3, .box ((tb.set t (tb.getD t [] ++ [idAt n])).map ON)), (4, it ((n + 1 : Nat) : Int)), (5, it i), (6, ub t), (7, it ((k + 1 : Nat) : Int))]) ?_ (ih (k + 1) _ (n + 1) (by omega) (by omega) (by simpa using htb))
      rw [wrap_id' (by omega) (by omega), wrap_id' (by omega) (by omega)] at h1
      rw [← e]
      exact h1
    · rw [putN, if_neg (show ¬((tb, n).1.getD t []).length < 4 from hf)]
      have h0 := ofi_1 ys ca x tb n i t k
      simp only [Int.toNat_natCast, List.length_cons, List.length_nil, Nat.zero_add, Nat.mul_one] at h0
      refine Rnd.exit (Tri.after [(0, .keep), (2, .keep), (3, .keep), (4, .keep), (5, .keep)] (h0 (by omega) (by simpa using hi) (getD_pt hi) g2 (by simp; omega) (by simp; omega) (getD_ON ht')
        (by show decide (((((tb.getD t []).map Idd.enc).length : Nat) : Int) < 4) = false; rw [List.length_map]; apply decide_eq_false; omega))) (by simp)
def putP (p : Pt) (s : List (List Idd) × Nat) : List (List Idd) × Nat := putN (p.a % 80).toNat (p.m % 5).toNat s
theorem of_lp (ys : List AV) (ca : Option Nat) (x : List Pt) (tb : List (List Idd)) (n i : Int) (hi : 0 ≤ i ∧ i.toNat < x.length) (hn : 0 ≤ n ∧ n < 2 ^ 60) (hx : ∀ p ∈ x, 0 ≤ p.a ∧ 0 ≤ p.m) (htb : tb.length = 80) :
    Tri Try.prog (cxN 59 0) (.loop (loopBody Try.f29 1)) [(0, psl ca x), (2, .box ys), (3, .box (tb.map ON)), (4, it n), (5, it i), (6, ub (Int.tmod (Pt.a (List.getD x (Int.toNat i) default)) 80)), (7, it 0)] (.exit 2)
      [(0, psl ca x), (2, .box ys), (3, .box ((putP (x.getD i.toNat default) (tb, n.toNat)).1.map ON)), (4, it (putP (x.getD i.toNat default) (tb, n.toNat)).2), (5, it i)] := by
  obtain ⟨i, rfl⟩ := Int.eq_ofNat_of_zero_le hi.1
  obtain ⟨n, rfl⟩ := Int.eq_ofNat_of_zero_le hn.1
  simp only [Int.toNat_natCast] at hi ⊢
  have hp := hx (x.getD i default) (by rw [List.getD_eq_getElem?_getD, List.getElem?_eq_getElem hi.2]; exact List.getElem_mem hi.2)
  have h := Rnd.loop (of_in ys ca x i ((x.getD i default).a % 80).toNat hi.2 (by omega) ((x.getD i default).m % 5).toNat (by rw [Int.tmod_eq_emod_of_nonneg hp.2, wrap_id' (by omega) (by omega)]; omega) (by omega) ((x.getD i default).m % 5).toNat 0 tb n (by omega) (by omega) htb)
  rw [Int.tmod_eq_emod_of_nonneg hp.1]
  have e : ((((x.getD i default).a % 80).toNat : Nat) : Int) = (x.getD i default).a % 80 := by omega
  rw [e] at h
  exact h
end Tst
end

section
open Go Go.Lf Go.Proofs
namespace Tst
set_option maxHeartbeats 0
theorem ofo_0 (ys : List AV) (ca : Option Nat) (x : List Pt) (tb : List (List Idd)) (n i : Int) (hi : 0 ≤ i) (hn : 0 ≤ n ∧ n < 2 ^ 60) (hx : ∀ p ∈ x, 0 ≤ p.a ∧ 0 ≤ p.m) (htb : tb.length = 80) (g0 : decide (i < (↑(List.length (List.map Pt.enc x)) : Int)) = true) (g1 : decide (i < (40 : Int)) = true) (g2 : decide ((0 : Int) ≤ i ∧ i < (↑(List.length (List.map Pt.enc x)) : Int)) = true) (g3 : List.getD (List.map Pt.enc x) (Int.toNat i) AV.bad = Pt.enc (List.getD x (Int.toNat i) default)) : Tri Try.prog (cxN 59 0) (loopBody Try.f29 0) ([(0, psl ca x), (2, .box ys), (3, .box (tb.map ON)), (4, it n), (5, it i)] ) (Ex.normal) ([(0, AV.sl Mode.any 87 ca (List.map Pt.enc x)), (2, AV.box ys), (3, AV.box (List.map ON (Prod.fst (putP (List.getD x (Int.toNat i) default) (tb, Int.toNat n))))), (4, it (↑(Prod.snd (putP (List.getD x (Int.toNat i) default) (tb, Int.toNat n))) : Int)), (5, it (IntKind.wrap IntKind.i64 (i + (1 : Int))))]) :=
  evA_ok (H := h29) (ans := [Ans.c, Ans.c, Ans.c, Ans.c, Ans.c, Ans.b true, Ans.c, Ans.b true, Ans.c, Ans.b true, Ans.c, Ans.b true, Ans.c, Ans.c, Ans.b true, Ans.r (Pt.enc (List.getD x (Int.toNat i) default)), Ans.c, Ans.c, Ans.c, Ans.c, Ans.c, Ans.c, Ans.lp (Ex.exit 2) [(0, AV.sl Mode.any 87 ca (List.map Pt.enc x)), (2, AV.box ys), (3, AV.box (List.map ON (Prod.fst (putP (List.getD x (Int.toNat i) default) (tb, Int.toNat n))))), (4, it (↑(Prod.snd (putP (List.getD x (Int.toNat i) default) (tb, Int.toNat n))) : Int)), (5, it i)], Ans.c, Ans.c, Ans.c]) (ps := [decide (i < (↑(List.length (List.map Pt.enc x)) : Int)) = true, decide (i < (↑(List.length (List.map Pt.enc x)) : Int)) = true, decide (i < (↑(List.length (List.map Pt.enc x)) : Int)) = true, decide (i < (40 : Int)) = true, decide ((0 : Int) ≤ i ∧ i < (↑(List.length (List.map Pt.enc x)) : Int)) = true, List.getD (List.map Pt.enc x) (Int.toNat i) AV.bad = Pt.enc (List.getD x (Int.toNat i) default), Tri Try.prog (cxN (59 : Nat) (0 : Nat)) (Code.loop (loopBody Try.f29 (1 : Nat))) [(0, AV.sl Mode.any 87 ca (List.map Pt.enc x)), (2, AV.box ys), (3, AV.box (List.map ON tb)), (4, it n), (5, it i), (6, ub (Int.tmod (Pt.a (List.getD x (Int.toNat i) default)) (80 : Int))), (7, it (0 : Int))] (Ex.exit 2) [(0, AV.sl Mode.any 87 ca (List.map Pt.enc x)), (2, AV.box ys), (3, AV.box (List.map ON (Prod.fst (putP (List.getD x (Int.toNat i) default) (tb, Int.toNat n))))), (4, it (↑(Prod.snd (putP (List.getD x (Int.toNat i) default) (tb, Int.toNat n))) : Int)), (5, it i)]]) (ans' := []) (base 59 0) cxA_K.1 cxA_K.2 _ (by kernel_rfl)  (allp g0 (allp g0 (allp g0 (allp g1 (allp g2 (allp g3 (allp (by first | (apply of_lp <;> (first | assumption | rfl | (simp at * <;> omega))) | (refine Tri.weak [(0, .keep), (2, .keep), (3, .keep), (4, .keep), (5, .keep), (6, .keep), (7, .keep)] ?_; apply of_lp <;> (first | assumption | rfl | (simp at * <;> omega)))) allp_nil)))))))
theorem ofo_1 (ys : List AV) (ca : Option Nat) (x : List Pt) (tb : List (List Idd)) (n i : Int) (hi : 0 ≤ i) (hn : 0 ≤ n ∧ n < 2 ^ 60) (hx : ∀ p ∈ x, 0 ≤ p.a ∧ 0 ≤ p.m) (htb : tb.length = 80) (g0 : decide (i < (↑(List.length (List.map Pt.enc x)) : Int)) = true) (g1 : decide (i < (40 : Int)) = false) : Tri Try.prog (cxN 59 0) (loopBody Try.f29 0) ([(0, psl ca x), (2, .box ys), (3, .box (tb.map ON)), (4, it n), (5, it i)] ) (Ex.exit 0) ([(0, AV.sl Mode.any 87 ca (List.map Pt.enc x)), (2, AV.box ys), (3, AV.box (List.map ON tb)), (4, it n), (5, it i), (15, bb (decide (i < (40 : Int))))]) :=
  evA_ok (H := h29) (ans := [Ans.c, Ans.c, Ans.c, Ans.c, Ans.c, Ans.b true, Ans.c, Ans.b true, Ans.c, Ans.b true, Ans.c, Ans.b false]) (ps := [decide (i < (↑(List.length (List.map Pt.enc x)) : Int)) = true, decide (i < (↑(List.length (List.map Pt.enc x)) : Int)) = true, decide (i < (↑(List.length (List.map Pt.enc x)) : Int)) = true, decide (i < (40 : Int)) = false]) (ans' := []) (base 59 0) cxA_K.1 cxA_K.2 _ (by kernel_rfl)  (allp g0 (allp g0 (allp g0 (allp g1 allp_nil))))
theorem ofo_2 (ys : List AV) (ca : Option Nat) (x : List Pt) (tb : List (List Idd)) (n i : Int) (hi : 0 ≤ i) (hn : 0 ≤ n ∧ n < 2 ^ 60) (hx : ∀ p ∈ x, 0 ≤ p.a ∧ 0 ≤ p.m) (htb : tb.length = 80) (g0 : decide (i < (↑(List.length (List.map Pt.enc x)) : Int)) = false) : Tri Try.prog (cxN 59 0) (loopBody Try.f29 0) ([(0, psl ca x), (2, .box ys), (3, .box (tb.map ON)), (4, it n), (5, it i)] ) (Ex.exit 0) ([(0, AV.sl Mode.any 87 ca (List.map Pt.enc x)), (2, AV.box ys), (3, AV.box (List.map ON tb)), (4, it n), (5, it i), (15, bb false)]) :=
  evA_ok (H := h29) (ans := [Ans.c, Ans.c, Ans.c, Ans.c, Ans.c, Ans.b false, Ans.c, Ans.b false, Ans.c, Ans.b false, Ans.c, Ans.c]) (ps := [decide (i < (↑(List.length (List.map Pt.enc x)) : Int)) = false, decide (i < (↑(List.length (List.map Pt.enc x)) : Int)) = false, decide (i < (↑(List.length (List.map Pt.enc x)) : Int)) = false]) (ans' := []) (base 59 0) cxA_K.1 cxA_K.2 _ (by kernel_rfl)  (allp g0 (allp g0 (allp g0 allp_nil)))
end Tst
end

section
open Go Go.Lf Go.Proofs
namespace Tst
def ofL (l : List Pt) (s : List (List Idd) × Nat) : List (List Idd) × Nat := l.foldl (fun s p => putP p s) s
theorem putP_len (p : Pt) (s : List (List Idd) × Nat) : (putP p s).1.length = s.1.length := putN_len _ _ _
theorem putP_n (p : Pt) (s : List (List Idd) × Nat) : (putP p s).2 ≤ s.2 + 4 :=
  Nat.le_trans (putN_n _ _ _) (by have : p.m % 5 < 5 := Int.emod_lt_of_pos _ (by omega); omega)
theorem ofL_len : ∀ (l : List Pt) (s : List (List Idd) × Nat), (ofL l s).1.length = s.1.length
  | [], s => rfl
  | p :: l, s => (ofL_len l (putP p s)).trans (putP_len p s)
theorem of_out (ys : List AV) (ca : Option Nat) (x : List Pt) (hx : ∀ p ∈ x, 0 ≤ p.a ∧ 0 ≤ p.m) : ∀ (k i : Nat) (s : List (List Idd) × Nat), i + k = min x.length 40 → s.1.length = 80 → s.2 ≤ 4 * i →
    Rnd Try.prog (cxN 59 0) (loopBody Try.f29 0) (k + 1) [(0, psl ca x), (2, .box ys), (3, .box (s.1.map ON)), (4, it s.2), (5, it i)] (.exit 0) [(2, .box ys), (3, .box ((ofL ((x.take 40).drop i) s).1.map ON))] := by
  intro k
  induction k with
  | zero =>
    intro i s hk hs hn
    rw [List.drop_of_length_le (by simp; omega)]
    by_cases h : i < x.length
    · exact Rnd.exit (Tri.after [(2, .keep), (3, .keep)] (ofo_1 ys ca x s.1 s.2 i (by omega) (by omega) hx hs (by simpa using h) (by simp; omega))) (by simp)
    · exact Rnd.exit (Tri.after [(2, .keep), (3, .keep)] (ofo_2 ys ca x s.1 s.2 i (by omega) (by omega) hx hs (by simp; omega))) (by simp)
  | succ k ih =>
    intro i s hk hs hn
    have hi : i < x.length := by omega
    have h1 := ofo_0 ys ca x s.1 s.2 i (by omega) (by omega) hx hs (by simpa using hi) (by simp; omega) (by simpa using hi) (getD_pt hi)
    simp only [Int.toNat_natCast] at h1
    rw [wrap_id' (by omega) (by omega)] at h1
    have e : (x.take 40).drop i = x.getD i default :: (x.take 40).drop (i + 1) := by
      rw [List.drop_eq_getElem_cons (by simp; omega)]
      congr 1
      rw [List.getElem_take, List.getD_eq_getElem?_getD, List.getElem?_eq_getElem hi]; rfl
    rw [e]
    have hp := putP_n (x.getD i default) s
    exact Rnd.step h1 (ih (i + 1) (putP (x.getD i default) s) (by omega) (by rw [putP_len]; exact hs) (by omega))
def bed80 (g : Nat → List Idd) : List AV := (List.range 80).map fun i => ON (g i)
theorem bed80_eq {tb : List (List Idd)} (h : tb.length = 80) : tb.map ON = bed80 fun i => tb.getD i [] := by
  apply List.ext_getElem
  · simp [bed80, h]
  · intro i h1 h2
    simp [bed80] at h2
    simp [bed80, List.getD_eq_getElem?_getD, h, h2]
def bed80F (g : Nat → List Idd) : List AV := (List.range 80).map fun i => AV.sl .fresh 30 none ((g i).map Idd.enc)
theorem share_id (l : List Idd) : (l.map Idd.enc).map (mapE (remode shareM 11)) = l.map Idd.enc := by
  rw [List.map_map]; rfl
theorem bed80_share (g : Nat → List Idd) : (bed80 g).map share = bed80F g := by
  unfold bed80 bed80F
  rw [List.map_map]
  refine List.map_congr_left fun i _ => ?_
  show AV.sl .fresh 30 none ((((g i).map Idd.enc)).map (mapE (remode shareM 11))) = _
  rw [share_id]
theorem bed80F_share (g : Nat → List Idd) : (bed80F g).map share = bed80F g := by
  unfold bed80F
  rw [List.map_map]
  refine List.map_congr_left fun i _ => ?_
  show AV.sl .fresh 30 none ((((g i).map Idd.enc)).map (mapE (remode shareM 11))) = _
  rw [share_id]
abbrev nil80 : List AV := List.replicate 80 (.atom (.slice none 0 0))
def ofT (x : List Pt) : List (List Idd) := (ofL (x.take 40) (List.replicate 80 [], 0)).1
theorem ofT_len (x : List Pt) : (ofT x).length = 80 := by unfold ofT; rw [ofL_len]; simp
theorem of_all (ys : List AV) (ca : Option Nat) (x : List Pt) (hx : ∀ p ∈ x, 0 ≤ p.a ∧ 0 ≤ p.m) :
    Tri Try.prog (cxN 59 0) (.loop (loopBody Try.f29 0)) [(0, psl ca x), (2, .box ys), (3, .box nil80), (4, it 0), (5, it 0)] (.exit 0) [(2, .box ys), (3, .box (bed80 fun i => (ofT x).getD i []))] := by
  have h := Rnd.loop (of_out ys ca x hx (min x.length 40) 0 (List.replicate 80 [], 0) (by omega) (by simp) (by simp))
  rw [List.drop_zero] at h
  rw [← bed80_eq (ofT_len x)]
  refine Tri.more h ?_
  exact .cons ⟨rfl, rfl, Le.refl _⟩ (.cons ⟨rfl, rfl, Le.refl _⟩ (.cons ⟨rfl, rfl, by rw [List.map_replicate]; exact Le.box (F2.rep (fun B0 w S n v O h => Le.cap B0 w S n v O (Le.nilOwn 30 B0 w S n v O h)) 80)⟩ (.cons ⟨rfl, rfl, Le.refl _⟩ (.cons ⟨rfl, rfl, Le.refl _⟩ .nil))))
end Tst
end

section
open Go Go.Lf Go.Proofs
namespace Tst
set_option maxHeartbeats 0
theorem atF_0 (d i : Int) (cf cb : Option Nat) (f b : List Stk) (x1 : ((if ndV d i = true then (0 : Int) else (1 : Int)) != (0 : Int)) = true) (g0 : ((if ndV d i = true then (0 : Int) else (1 : Int)) != (0 : Int)) = true) : PureC Try.prog 33 [beds (bsl cf f) (bsl cb b), ndl d i]  niln :=
  funA_ok (H := h33) (n := 17) (ans := [.c, .c, .c, .c, .r (it (if ndV d i = true then (0 : Int) else (1 : Int))), .c, .c, .c, .b true, .c]) (ps := [PureC Try.prog 56 [AV.agg [ub d, it i]] (it (if ndV d i = true then (0 : Int) else (1 : Int))), ((if ndV d i = true then (0 : Int) else (1 : Int)) != (0 : Int)) = true]) (base 17 0) Try.func33 rfl (by simp) rfl (by kernel_rfl)  (allp (by apply nck_c <;> (first | assumption | rfl | (simp at * <;> omega))) (allp g0 allp_nil))
end Tst
end

section
open Go Go.Lf Go.Proofs
namespace Tst
def atV (d i : Int) (f b : List Stk) : AV := if ndV d i = true then OW (stackOf (if d == 0 then f else b) (i - 1)) else .atom (.slice none 0 0)
theorem ndlAt_c (d i : Int) (cf cb : Option Nat) (f b : List Stk) (hf : ∀ s ∈ f, s.l.length ≤ 4294967296) (hb : ∀ s ∈ b, s.l.length ≤ 4294967296) : PureC Try.prog 33 [beds (bsl cf f) (bsl cb b), ndl d i] (atV d i f b) := by
  unfold atV
  cases h : ndV d i with
  | false => rw [if_neg (by simp)]; exact atF_0 d i cf cb f b (by rw [h]; rfl) (by rw [h]; rfl)
  | true =>
    have hr : 1 ≤ i ∧ i ≤ 40 := by
      have h' := h
      simp only [ndV, Bool.and_eq_true, Bool.not_eq_true', decide_eq_false_iff_not] at h'
      omega
    rw [if_pos rfl]
    have h1 := at'_1 d i cf cb f b
    rw [wrap_id' (by omega) (by omega)] at h1
    refine h1 (fun _ => by omega) ?_ (by omega) (by rw [h]; rfl)
    split
    · exact stackOf_len hf _ (by omega)
    · exact stackOf_len hb _ (by omega)
def shV (l : List Stk) : AV := if trimL l l.length = 0 then .atom (.slice none 0 0) else .sl .own 62 (some (trimL l l.length)) (((l.take (trimL l l.length)).map Stk.l).map OW)
theorem short_c (c : Option Nat) (l : List Stk) (hA : l.length ≤ 4294967296) (hl : ∀ s ∈ l, s.l.length ≤ 4294967296) : PureC Try.prog 71 [bsl c l] (shV l) := by
  have hN := trimL_le l l.length
  unfold shV
  by_cases h : trimL l l.length = 0
  · rw [if_pos h]; exact shA_0 c l (by omega) (by rw [h]; rfl) (by rw [h]; rfl)
  · rw [if_neg h]
    have h0 : ((((trimL l l.length) : Nat) : Int) == (0 : Int)) = false := by rw [beq_eq_false_iff_ne]; omega
    exact shC_0 c l (by omega) hN (by omega) hl h0 h0 (by simp; omega)
theorem same_c (c1 c2 c3 c4 : Option Nat) (f b f' b' : List Stk) (h1 : ∀ s ∈ f, s.l.length ≤ 4294967296) (h2 : ∀ s ∈ b, s.l.length ≤ 4294967296) (h3 : max f.length f'.length < 2 ^ 62) (h4 : max b.length b'.length < 2 ^ 62) : PureC Try.prog 39 [beds (bsl c1 f) (bsl c2 b), beds (bsl c3 f') (bsl c4 b')] (bb (sameB f f' && sameB b b')) := by
  cases h : sameB f f' with
  | true => exact sme_0 c1 c2 c3 c4 f b f' b' h1 h2 h3 h4 h
  | false => exact sme_1 c1 c2 c3 c4 f b f' b' h1 h2 h3 h4 h
end Tst
end

section
open Go Go.Lf Go.Proofs
namespace Tst
set_option maxHeartbeats 0
end Tst
end

section
open Go Go.Lf Go.Proofs
namespace Tst
set_option maxHeartbeats 0
theorem of_c (ca : Option Nat) (x : List Pt) (hx : ∀ p ∈ x, 0 ≤ p.a ∧ 0 ≤ p.m) : PureC Try.prog 29 [psl ca x] (.agg (bed80F fun i => (ofT x).getD i [])) := by
  have h : PureC Try.prog 29 [psl ca x] (.agg ((bed80F fun i => (ofT x).getD i []).map share)) :=
    funA_ok (H := h29) (n := 59) (ans := [.c, .c, .c, .c, .lp (.exit 0) [(2, .box nil80), (3, .box (bed80 fun i => (ofT x).getD i []))], .r (.agg (bed80F fun i => (ofT x).getD i [])), .c])
      (ps := [Tri Try.prog (cxN 59 0) (.loop (loopBody Try.f29 0)) [(0, psl ca x), (2, .box nil80), (3, .box nil80), (4, it 0), (5, it 0)] (.exit 0) [(2, .box nil80), (3, .box (bed80 fun i => (ofT x).getD i []))],
        AV.agg ((bed80 fun i => (ofT x).getD i []).map share) = AV.agg (bed80F fun i => (ofT x).getD i [])])
      (base 59 0) Try.func29 rfl (by simp) rfl (by kernel_rfl) (allp (of_all nil80 ca x hx) (allp (by rw [bed80_share]) allp_nil))
  rwa [bed80F_share] at h
end Tst
end
