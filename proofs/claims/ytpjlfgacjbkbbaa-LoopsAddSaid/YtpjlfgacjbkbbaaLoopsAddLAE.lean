/- Part 5 of the evaluator and of the contracts that the claim uses. -/
import Derived.KernelRfl
import Derived.Test.YtpjlfgacjbkbbaaProg
import Derived.RangeFuncSeq
import Derived.MapKept
import Derived.Carry
import Derived.Test.YtpjlfgacjbkbbaaLoopsAddLAA
import Derived.Test.YtpjlfgacjbkbbaaLoopsAddLAB
import Derived.Test.YtpjlfgacjbkbbaaLoopsAddLAC
import Derived.Test.YtpjlfgacjbkbbaaLoopsAddLAD
set_option linter.unusedVariables false
set_option linter.unusedSimpArgs false
set_option linter.constructorNameAsVariable false
set_option linter.unusedSectionVars false
open Go.IntKind (i64 u8)

section
open Go Go.Lf Go.Proofs
namespace Tst
def T : yft := [(3, ⟨[.int .i64 0], 8, false, .int .i64⟩), (4, ⟨[.bool false], 1, false, .bool⟩), (5, ⟨[.int .u8 0], 1, false, .int .u8⟩), (9, ⟨[.string ⟨#[]⟩], 16, false, .str⟩), (23, ⟨[.slice none 0 0], 24, false, .slice 67⟩), (24, ⟨[.slice none 0 0], 24, false, .slice 37⟩), (25, ⟨[.slice none 0 0], 24, false, .slice 37⟩), (26, ⟨[.slice none 0 0], 24, false, .slice 36⟩), (29, ⟨[.int .i64 0], 8, false, .int .i64⟩), (34, ⟨[.int .i64 0, .int .i64 0, .int .i64 0, .int .i64 0, .int .i64 0, .int .i64 0, .int .i64 0], 56, true, .array 7 3⟩), (36, ⟨[.int .u8 0, .int .i64 0], 16, true, .struct [(0, 1), (1, 1)]⟩), (37, ⟨[.slice none 0 0], 24, false, .slice 45⟩), (42, ⟨[.int .u8 0], 1, false, .int .u8⟩), (43, ⟨[.slice none 0 0], 24, false, .slice 56⟩), (45, ⟨[.int .u8 0, .bool false, .slice none 0 0, .slice none 0 0], 56, true, .struct [(0, 1), (1, 1), (2, 1), (3, 1)]⟩), (54, ⟨[.int .u8 0], 1, false, .int .u8⟩), (56, ⟨[.int .u8 0, .int .i64 0, .bool false, .int .u8 0], 24, true, .struct [(0, 2), (2, 1), (3, 1)]⟩), (60, ⟨[.int .u8 0, .int .u8 0], 2, true, .array 2 5⟩), (65, ⟨[.slice none 0 0], 24, false, .slice 5⟩), (67, ⟨[.int .u8 0, .bool false, .bool false, .slice none 0 0, .slice none 0 0], 56, true, .struct [(0, 1), (1, 1), (2, 1), (3, 1), (4, 1)]⟩), (73, ⟨[.nilFunc], 8, false, .plain⟩), (76, ⟨[.nilFunc], 8, false, .plain⟩), (82, ⟨[.int .i64 0, .int .i64 0, .int .i64 0, .int .i64 0, .int .i64 0, .int .i64 0], 48, true, .array 6 3⟩), (85, ⟨[.map none], 8, false, .map 36 3⟩), (92, ⟨[.int .u64 0], 8, false, .int .u64⟩), (101, ⟨[.int .i64 0], 8, false, .int .i64⟩), (109, ⟨[.int .u32 0], 4, false, .int .u32⟩), (111, ⟨[.int .u64 0], 8, false, .int .u64⟩), (112, ⟨[.slice none 0 0], 24, false, .slice 3⟩)]
theorem tyOk : ∀ t i, tyF T t = some i → TyOk Try.prog t i := yl1 (by kernel_rfl)
def h3 : Hints := ⟨fun n => match n with | 0 => [0, 12, 17] | 1 => [3, 4, 12, 14, 17] | 2 => [3, 4, 5, 6, 12, 14, 17, 19] | 3 => [3, 5, 12, 14, 17, 19, 49] | 4 => [2, 12, 17] | 5 => [3, 5, 7, 12, 14, 17, 19] | 6 => [3, 5, 7, 8, 12, 14, 17, 19] | 7 => [3, 5, 7, 8, 12, 14, 17, 19, 53] | 8 => [3, 5, 7, 8, 12, 14, 17, 19] | 9 => [3, 5, 7, 8, 9, 12, 14, 17, 19] | 10 => [3, 5, 7, 8, 9, 10, 12, 14, 17, 19] | 11 => [3, 5, 7, 8, 9, 10, 12, 14, 17, 19, 61] | 12 => [3, 5, 7, 8, 9, 10, 12, 14, 17, 19] | 13 => [3, 5, 7, 8, 9, 10, 11, 12, 14, 17, 19] | 14 => [3, 5, 7, 8, 9, 10, 11, 12, 14, 17, 19, 85] | 15 => [3, 5, 7, 8, 9, 10, 11, 12, 14, 17, 19] | 16 => [3, 5, 7, 8, 9, 10, 12, 14, 17, 19, 91] | 17 => [2, 12, 17] | 18 => [3, 5, 7, 8, 9, 10, 12, 14, 17, 19] | 19 => [3, 5, 7, 8, 12, 14, 17, 19, 98] | 20 => [2, 12, 17] | 21 => [2, 12, 17] | _ => [], fun n => match n with | 7 => [(3, .keep), (5, .keep), (7, .keep), (8, .keep), (12, .keep), (14, .keep), (17, .keep), (19, .keep)] | 11 => [(3, .keep), (5, .keep), (7, .keep), (8, .keep), (9, .keep), (10, .keep), (12, .keep), (14, .keep), (17, .keep), (19, .keep)] | _ => []⟩
def h4 : Hints := ⟨fun n => match n with | 0 => [0, 9, 15, 35, 46, 54] | 1 => [0, 9, 13, 15, 35, 46, 54] | 2 => [2, 15, 35, 46] | 3 => [3, 4, 9, 15, 17, 35, 46, 54] | 4 => [3, 4, 5, 9, 15, 17, 35, 46, 54] | 5 => [3, 4, 5, 9, 15, 17, 28, 35, 46, 54] | 6 => [2, 15, 35, 46] | 7 => [3, 4, 5, 6, 9, 15, 17, 35, 46, 54] | 8 => [3, 4, 5, 6, 9, 15, 17, 32, 35, 46, 54] | 9 => [3, 4, 5, 6, 9, 15, 17, 35, 46, 54] | 10 => [3, 4, 5, 6, 7, 8, 9, 15, 17, 35, 46, 54] | 11 => [3, 4, 5, 6, 7, 9, 15, 17, 35, 45, 46, 54] | 12 => [2, 15, 35, 46] | 13 => [3, 4, 5, 6, 7, 8, 9, 15, 17, 35, 46, 54] | 14 => [3, 4, 6, 7, 9, 15, 17, 35, 46, 54, 71] | 15 => [2, 15, 35, 46] | 16 => [3, 4, 6, 7, 9, 10, 15, 17, 35, 46, 54] | 17 => [3, 4, 6, 7, 9, 10, 15, 17, 35, 46, 54, 76] | 18 => [3, 4, 6, 7, 9, 10, 15, 17, 35, 46, 54] | 19 => [3, 4, 6, 7, 9, 10, 15, 17, 35, 46, 54] | 20 => [3, 4, 5, 6, 9, 15, 17, 35, 46, 54] | 21 => [2, 15, 35, 46] | _ => [], fun n => match n with | 8 => [(3, .keep), (4, .keep), (5, .keep), (6, .keep), (9, .keep), (15, .keep), (17, .keep), (35, .keep), (46, .keep), (54, .keep)] | 17 => [(3, .keep), (4, .keep), (6, .keep), (7, .keep), (9, .keep), (10, .keep), (15, .keep), (17, .keep), (35, .keep), (46, .keep), (54, .keep)] | _ => []⟩
def h5 : Hints := ⟨fun n => match n with | 0 => [0, 3, 25, 33, 39] | 1 => [3, 5, 6, 25, 27, 33, 39] | 2 => [3, 5, 6, 7, 25, 27, 33, 39] | 3 => [3, 5, 6, 7, 8, 9, 25, 27, 33, 39] | 4 => [3, 5, 6, 7, 8, 9, 10, 11, 25, 27, 33, 39] | 5 => [3, 5, 6, 7, 8, 9, 10, 11, 12, 25, 27, 33, 39] | 6 => [3, 5, 6, 7, 8, 9, 10, 11, 12, 13, 25, 27, 33, 39] | 7 => [3, 5, 6, 7, 8, 9, 10, 11, 12, 13, 14, 25, 27, 33, 39] | 8 => [3, 5, 6, 7, 8, 9, 10, 11, 12, 13, 14, 15, 25, 27, 33, 39] | 9 => [3, 5, 6, 7, 8, 9, 10, 11, 12, 13, 14, 15, 16, 25, 27, 33, 39] | 10 => [3, 5, 6, 7, 8, 9, 10, 11, 12, 13, 14, 15, 16, 25, 27, 33, 39, 48] | 11 => [3, 5, 6, 7, 8, 9, 10, 11, 12, 13, 14, 15, 16, 25, 27, 33, 39] | 12 => [3, 5, 6, 7, 8, 9, 10, 11, 12, 13, 14, 15, 16, 25, 27, 33, 39] | 13 => [3, 5, 6, 7, 8, 9, 10, 11, 12, 13, 14, 15, 16, 17, 25, 27, 33, 39] | 14 => [3, 5, 6, 7, 8, 9, 10, 11, 12, 13, 14, 15, 16, 17, 18, 25, 27, 33, 39] | 15 => [3, 5, 6, 7, 8, 9, 10, 11, 12, 13, 14, 15, 16, 17, 18, 25, 27, 33, 39, 80] | 16 => [3, 5, 6, 7, 8, 9, 10, 11, 12, 13, 14, 15, 16, 17, 18, 25, 27, 33, 39] | 17 => [3, 5, 6, 7, 8, 9, 10, 11, 12, 13, 14, 15, 16, 17, 18, 25, 27, 33, 39, 89] | 18 => [3, 5, 6, 7, 8, 9, 10, 11, 12, 13, 14, 15, 16, 17, 18, 25, 27, 33, 39] | 19 => [3, 5, 6, 7, 8, 9, 10, 11, 12, 13, 14, 15, 16, 17, 18, 25, 27, 33, 39] | 20 => [3, 5, 7, 10, 12, 13, 25, 27, 33, 39, 127] | 21 => [4, 25, 33, 39] | 22 => [3, 5, 7, 10, 12, 25, 27, 33, 39, 129] | 23 => [4, 25, 33, 39] | 24 => [3, 5, 7, 10, 12, 19, 25, 27, 33, 39] | 25 => [3, 5, 7, 10, 12, 19, 25, 27, 33, 39, 132] | 26 => [3, 5, 7, 10, 12, 19, 25, 27, 33, 39] | 27 => [3, 5, 7, 10, 12, 19, 20, 25, 27, 33, 39] | 28 => [3, 5, 7, 10, 12, 19, 20, 25, 27, 33, 39, 142] | 29 => [3, 5, 7, 10, 12, 19, 20, 25, 27, 33, 39] | 30 => [3, 5, 7, 10, 12, 19, 20, 21, 25, 27, 33, 39] | 31 => [3, 5, 7, 10, 12, 19, 20, 21, 22, 25, 27, 33, 39] | 32 => [3, 5, 7, 10, 12, 19, 20, 21, 22, 23, 25, 27, 33, 39] | 33 => [3, 5, 7, 10, 12, 19, 20, 21, 22, 23, 25, 27, 33, 39, 165] | 34 => [3, 5, 7, 10, 12, 19, 20, 21, 22, 23, 25, 27, 33, 39] | 35 => [3, 5, 7, 10, 12, 19, 20, 21, 22, 23, 25, 27, 33, 39] | 36 => [3, 5, 7, 10, 12, 19, 20, 21, 22, 24, 25, 27, 33, 39] | 37 => [3, 5, 7, 10, 12, 19, 20, 21, 22, 24, 25, 27, 33, 39, 182] | 38 => [3, 5, 7, 10, 12, 19, 20, 21, 22, 24, 25, 27, 33, 39] | 39 => [3, 5, 7, 10, 12, 19, 20, 21, 22, 24, 25, 27, 33, 39] | 40 => [3, 5, 7, 10, 12, 19, 20, 21, 25, 27, 33, 39, 196] | 41 => [3, 5, 7, 10, 12, 19, 20, 25, 27, 33, 39] | 42 => [4, 25, 33, 39] | _ => [], fun n => match n with | 10 => [(3, .keep), (5, .keep), (6, .keep), (7, .keep), (8, .keep), (9, .keep), (10, .keep), (11, .keep), (12, .keep), (13, .keep), (14, .keep), (15, .keep), (16, .keep), (25, .keep), (27, .keep), (33, .keep), (39, .keep)] | 15 => [(3, .keep), (5, .keep), (6, .keep), (7, .keep), (8, .keep), (9, .keep), (10, .keep), (11, .keep), (12, .keep), (13, .keep), (14, .keep), (15, .keep), (16, .keep), (17, .keep), (18, .keep), (25, .keep), (27, .keep), (33, .keep), (39, .keep)] | 25 => [(3, .keep), (5, .keep), (7, .keep), (10, .keep), (12, .keep), (19, .keep), (25, .keep), (27, .keep), (33, .keep), (39, .keep)] | 28 => [(3, .keep), (5, .keep), (7, .keep), (10, .keep), (12, .keep), (19, .keep), (20, .keep), (25, .keep), (27, .keep), (33, .keep), (39, .keep)] | 33 => [(3, .keep), (5, .keep), (7, .keep), (10, .keep), (12, .keep), (19, .keep), (20, .keep), (21, .keep), (22, .keep), (23, .keep), (25, .keep), (27, .keep), (33, .keep), (39, .keep)] | 37 => [(3, .keep), (5, .keep), (7, .keep), (10, .keep), (12, .keep), (19, .keep), (20, .keep), (21, .keep), (22, .keep), (24, .keep), (25, .keep), (27, .keep), (33, .keep), (39, .keep)] | _ => []⟩
def h6 : Hints := ⟨fun n => match n with | 0 => [0, 67, 83, 100, 106, 112] | 1 => [0, 18, 67, 83, 100, 106, 112] | 2 => [2, 67, 83, 100, 106, 112] | 3 => [0, 3, 67, 83, 100, 106, 112] | 4 => [0, 3, 23, 67, 83, 100, 106, 112] | 5 => [0, 3, 67, 83, 100, 106, 112] | 6 => [0, 3, 31, 67, 83, 100, 106, 112] | 7 => [2, 67, 83, 100, 106, 112] | 8 => [0, 3, 4, 67, 83, 100, 106, 112] | 9 => [0, 3, 4, 39, 67, 83, 100, 106, 112] | 10 => [0, 3, 4, 67, 83, 100, 106, 112] | 11 => [0, 3, 4, 63, 67, 83, 100, 106, 112] | 12 => [2, 67, 83, 100, 106, 112] | 13 => [0, 5, 67, 83, 100, 106, 112] | 14 => [0, 5, 7, 67, 83, 100, 106, 112] | 15 => [0, 5, 67, 80, 83, 100, 106, 112] | 16 => [2, 67, 83, 100, 106, 112] | 17 => [0, 5, 67, 82, 83, 100, 106, 112] | 18 => [5, 8, 9, 67, 83, 86, 100, 106, 112] | 19 => [2, 67, 83, 100, 106, 112] | 20 => [0, 11, 67, 83, 100, 106, 112] | 21 => [0, 11, 13, 67, 83, 100, 106, 112] | 22 => [11, 13, 15, 67, 83, 100, 106, 112] | 23 => [2, 67, 83, 100, 106, 112] | _ => [], fun n => match n with | 4 => [(0, .keep), (3, .keep), (67, .keep), (83, .keep), (100, .keep), (106, .keep), (112, .keep)] | 9 => [(0, .keep), (3, .keep), (4, .keep), (67, .keep), (83, .keep), (100, .keep), (106, .keep), (112, .keep)] | _ => []⟩
def h7 : Hints := ⟨fun n => match n with | 0 => [0, 3, 12, 63] | 1 => [3, 5, 6, 12, 14, 63] | 2 => [3, 5, 6, 12, 14, 19, 63] | 3 => [4, 12, 63] | 4 => [3, 5, 6, 7, 12, 14, 63] | 5 => [3, 5, 6, 7, 8, 12, 14, 63] | 6 => [3, 5, 6, 7, 8, 9, 12, 14, 63] | 7 => [5, 6, 7, 8, 9, 12, 14, 41, 63] | 8 => [5, 9, 12, 14, 63] | 9 => [5, 6, 7, 8, 9, 12, 14, 41, 45, 63] | 10 => [5, 9, 12, 14, 63] | 11 => [5, 6, 7, 8, 9, 12, 14, 41, 61, 63] | 12 => [5, 7, 8, 10, 11, 12, 14, 63] | 13 => [5, 7, 10, 11, 12, 14, 63] | 14 => [5, 7, 9, 10, 11, 12, 14, 63] | 15 => [5, 9, 12, 14, 63, 79] | 16 => [5, 9, 12, 14, 63] | 17 => [5, 6, 7, 8, 9, 12, 14, 41, 63, 80] | 18 => [5, 12, 14, 63] | 19 => [5, 9, 12, 14, 63] | 20 => [5, 6, 8, 9, 12, 14, 63, 88] | 21 => [5, 9, 12, 14, 63] | 22 => [4, 12, 63] | _ => [], fun n => match n with | _ => []⟩
def h8 : Hints := ⟨fun n => match n with | 0 => [0, 1, 5, 15, 44] | 1 => [1, 5, 7, 8, 15, 17, 44] | 2 => [1, 5, 7, 8, 9, 15, 17, 44] | 3 => [1, 5, 7, 8, 9, 10, 15, 17, 44] | 4 => [1, 5, 7, 8, 9, 10, 15, 17, 27, 44] | 5 => [1, 5, 7, 8, 9, 10, 15, 17, 44] | 6 => [1, 5, 7, 8, 9, 10, 15, 17, 44] | 7 => [5, 7, 15, 17, 43, 44] | 8 => [6, 15, 44] | 9 => [5, 7, 11, 12, 15, 17, 44] | 10 => [7, 11, 12, 15, 17, 44, 63] | 11 => [6, 15, 44] | 12 => [7, 11, 15, 17, 44, 65] | 13 => [6, 15, 44] | 14 => [7, 11, 13, 15, 17, 44] | 15 => [7, 11, 13, 15, 17, 44, 88] | 16 => [7, 11, 13, 15, 17, 44] | 17 => [7, 11, 13, 15, 17, 44] | 18 => [7, 11, 14, 15, 17, 44] | 19 => [7, 11, 14, 15, 17, 44, 100] | 20 => [7, 11, 14, 15, 17, 44] | 21 => [7, 11, 14, 15, 17, 44] | 22 => [6, 15, 44] | _ => [], fun n => match n with | 4 => [(1, .keep), (5, .keep), (7, .keep), (8, .keep), (9, .keep), (10, .keep), (15, .keep), (17, .keep), (44, .keep)] | 15 => [(7, .keep), (11, .keep), (13, .keep), (15, .keep), (17, .keep), (44, .keep)] | 19 => [(7, .keep), (11, .keep), (14, .keep), (15, .keep), (17, .keep), (44, .keep)] | _ => []⟩
def h9 : Hints := ⟨fun n => match n with | 0 => [0] | 1 => [0, 4] | 2 => [0, 4, 5, 6] | 3 => [0, 4, 5, 6, 7] | 4 => [0, 4, 5, 6, 7, 23] | 5 => [0, 4, 5, 6, 7] | 6 => [0, 4, 5, 6, 7, 8] | 7 => [0, 4, 5, 6, 7, 8, 9] | 8 => [0, 4, 5, 6, 7, 8, 9, 51] | 9 => [0, 4, 5, 6, 7, 8, 9] | 10 => [0, 4, 5, 6, 7, 8, 9, 10] | 11 => [0, 4, 5, 6, 7, 8, 9, 10, 69] | 12 => [0, 4, 5, 6, 7, 8, 9, 10] | 13 => [0, 4, 5, 6, 7, 8, 9, 10, 11] | 14 => [0, 4, 5, 6, 7, 8, 9, 10, 11] | 15 => [0, 4, 5, 6, 7, 8, 9, 10] | 16 => [0, 4, 5, 6, 7, 8, 9, 12] | 17 => [0, 4, 5, 6, 7, 8, 9, 12, 119] | 18 => [0, 4, 5, 6, 7, 8, 9, 12] | 19 => [0, 4, 5, 6, 7, 8, 9, 12, 13] | 20 => [0, 4, 5, 6, 7, 8, 9, 12] | 21 => [0, 4, 5, 6, 7, 8, 9, 14] | 22 => [0, 4, 5, 6, 7, 14] | 23 => [0, 4, 5, 6, 7, 14] | 24 => [0, 4, 5, 6, 7] | 25 => [2, 3, 4, 6] | _ => [], fun n => match n with | 4 => [(0, .keep), (4, .keep), (5, .keep), (6, .keep), (7, .keep)] | 11 => [(0, .keep), (4, .keep), (5, .keep), (6, .keep), (7, .keep), (8, .keep), (9, .keep), (10, .keep)] | 17 => [(0, .keep), (4, .keep), (5, .keep), (6, .keep), (7, .keep), (8, .keep), (9, .keep), (12, .keep)] | _ => []⟩
def h10 : Hints := ⟨fun n => match n with | 0 => [0] | 1 => [0, 4] | 2 => [0, 4, 8] | 3 => [2, 3] | 4 => [2, 3] | _ => [], fun n => match n with | _ => []⟩
def h11 : Hints := ⟨fun n => match n with | 0 => [0] | 1 => [0, 3] | 2 => [2] | 3 => [0, 7] | 4 => [2] | 5 => [0, 11] | 6 => [2] | 7 => [0, 15] | 8 => [2] | 9 => [18] | 10 => [2] | 11 => [2] | _ => [], fun n => match n with | _ => []⟩
def h12 : Hints := ⟨fun n => match n with | 0 => [0] | 1 => [0, 3] | 2 => [3, 6, 7, 8] | 3 => [3, 6, 7, 8, 9] | 4 => [3, 5, 6, 7, 8] | 5 => [3, 6, 7, 8] | 6 => [3, 6, 7, 8] | 7 => [2] | _ => [], fun n => match n with | 3 => [(3, .keep), (6, .keep), (7, .keep), (8, .keep)] | _ => []⟩
def h13 : Hints := ⟨fun n => match n with | 0 => [0, 4, 5] | 1 => [4, 5, 7] | 2 => [4, 5, 7, 8] | 3 => [5, 7, 8, 27] | 4 => [5, 7, 8] | 5 => [5, 7, 8, 9] | 6 => [5, 7, 8, 9, 34] | 7 => [5, 7, 8, 9] | 8 => [5, 7, 8, 9, 51] | 9 => [5, 7, 8, 9] | 10 => [5, 7, 8, 10] | 11 => [5, 7, 8, 10, 58] | 12 => [5, 7, 8, 10] | 13 => [5, 7, 8, 10, 77] | 14 => [5, 7, 8, 10] | 15 => [6] | _ => [], fun n => match n with | 6 => [(5, .keep), (7, .keep), (8, .keep), (9, .keep)] | 11 => [(5, .keep), (7, .keep), (8, .keep), (10, .keep)] | _ => []⟩
def h14 : Hints := ⟨fun n => match n with | 0 => [14, 19, 25, 64, 72, 80] | 1 => [1, 14, 19, 25, 64, 72, 80] | 2 => [1, 2, 3, 14, 16, 19, 25, 64, 72, 80] | 3 => [1, 2, 3, 4, 5, 14, 16, 19, 25, 64, 72, 80] | 4 => [1, 2, 3, 4, 5, 7, 14, 16, 19, 25, 64, 72, 80] | 5 => [1, 14, 19, 25, 63, 64, 72, 80] | 6 => [0, 14, 19, 25, 64, 72, 80] | 7 => [1, 3, 8, 14, 19, 25, 64, 69, 72, 80] | 8 => [1, 3, 8, 10, 14, 19, 25, 64, 69, 72, 80] | 9 => [1, 3, 8, 10, 12, 14, 19, 25, 64, 69, 72, 80] | 10 => [1, 3, 8, 10, 12, 14, 19, 25, 64, 69, 72, 80] | 11 => [1, 3, 8, 10, 12, 14, 19, 25, 64, 69, 72, 80] | 12 => [1, 3, 8, 10, 12, 14, 19, 25, 64, 69, 72, 80] | 13 => [0, 14, 19, 25, 64, 72, 80] | _ => [], fun n => match n with | _ => []⟩
def h15 : Hints := ⟨fun n => match n with | 0 => [] | 1 => [0] | _ => [], fun n => match n with | _ => []⟩
def h16 : Hints := ⟨fun n => match n with | 0 => [0, 3, 4] | 1 => [0, 3, 4, 9] | 2 => [4, 5] | 3 => [4, 5] | _ => [], fun n => match n with | _ => []⟩
def h17 : Hints := ⟨fun n => match n with | 0 => [0, 1, 5, 9] | 1 => [0, 1, 5, 8, 9] | 2 => [0, 1, 5, 8, 9, 14] | 3 => [6, 7, 9] | 4 => [0, 1, 5, 9, 21] | 5 => [6, 7, 9] | 6 => [9] | 7 => [9, 10] | 8 => [9, 10, 29] | 9 => [6, 7, 9] | 10 => [6, 7, 9] | _ => [], fun n => match n with | _ => []⟩
def h18 : Hints := ⟨fun n => match n with | 0 => [0, 1] | 1 => [0, 1, 15] | 2 => [4] | 3 => [0, 1, 5] | 4 => [0, 1, 5, 6] | 5 => [0, 1, 5, 6, 19] | 6 => [0, 1, 5, 6] | 7 => [0, 1, 5, 6, 32] | 8 => [4] | 9 => [0, 1, 5, 6, 7] | 10 => [0, 1, 5, 6, 7, 39] | 11 => [0, 1, 5, 6, 7] | 12 => [0, 1, 5, 6, 7, 8, 9] | 13 => [0, 1, 5, 6, 7, 8, 9, 85] | 14 => [0, 1, 5, 6, 7] | 15 => [0, 1, 5, 6, 7, 8, 9, 10] | 16 => [0, 1, 5, 6, 7, 8, 9, 10, 92] | 17 => [0, 1, 5, 6, 7, 8, 9, 10] | 18 => [0, 1, 5, 6, 7, 8, 9, 10, 105] | 19 => [0, 1, 5, 6, 7, 8, 9, 10] | 20 => [4] | _ => [], fun n => match n with | 5 => [(0, .keep), (1, .keep), (5, .keep), (6, .keep)] | 10 => [(0, .keep), (1, .keep), (5, .keep), (6, .keep), (7, .keep)] | 16 => [(0, .keep), (1, .keep), (5, .keep), (6, .keep), (7, .keep), (8, .keep), (9, .keep), (10, .keep)] | _ => []⟩
def h19 : Hints := ⟨fun n => match n with | 0 => [0, 3] | 1 => [0, 3, 9] | 2 => [4] | 3 => [3, 5] | 4 => [3, 5, 24] | 5 => [5] | 6 => [5] | 7 => [4] | _ => [], fun n => match n with | _ => []⟩
def h20 : Hints := ⟨fun n => match n with | 0 => [0, 3, 4, 5] | 1 => [3, 4, 5, 9] | 2 => [3, 4, 5, 6, 11] | 3 => [3, 4, 5, 6, 7] | 4 => [3, 4, 5, 6, 15] | 5 => [4, 5] | 6 => [4, 5] | _ => [], fun n => match n with | _ => []⟩
def h21 : Hints := ⟨fun n => match n with | 0 => [0] | 1 => [0, 3] | 2 => [0, 3, 4] | 3 => [0, 3, 4, 8] | 4 => [0, 3, 4] | 5 => [0, 3, 4] | 6 => [2] | _ => [], fun n => match n with | 3 => [(0, .keep), (3, .keep), (4, .keep)] | _ => []⟩
def h22 : Hints := ⟨fun n => match n with | 0 => [0] | 1 => [0, 20] | 2 => [2] | 3 => [0, 3] | 4 => [0, 3, 4] | 5 => [0, 3, 4, 22] | 6 => [0, 3, 4] | 7 => [0, 3, 4, 5] | 8 => [0, 3, 4, 5, 31] | 9 => [0, 3, 4, 5] | 10 => [0, 3, 4, 5, 6] | 11 => [0, 3, 4, 5, 6, 58] | 12 => [2] | 13 => [0, 3, 4, 5, 6, 7] | 14 => [0, 3, 4, 5, 6, 7, 63] | 15 => [0, 3, 4, 5, 6, 7] | 16 => [0, 3, 4, 5, 6, 7, 8] | 17 => [0, 3, 4, 5, 6, 7, 8, 80] | 18 => [2] | 19 => [0, 3, 4, 5, 6, 7, 8, 82] | 20 => [0, 3, 4, 5, 6, 7, 8, 9] | 21 => [0, 3, 4, 5, 6, 7, 107] | 22 => [2] | 23 => [0, 3, 4, 5, 6, 10] | 24 => [0, 3, 4, 5, 6, 10, 112] | 25 => [0, 3, 4, 5, 6, 10] | 26 => [0, 3, 4, 5, 6, 10, 122] | 27 => [2] | 28 => [0, 3, 4, 5] | 29 => [0, 3, 11] | 30 => [0, 3, 11, 130] | 31 => [0, 3, 11] | 32 => [0, 3, 11, 12] | 33 => [0, 3, 11, 12, 135] | 34 => [0, 3, 11, 12] | 35 => [0, 3, 11, 12, 146] | 36 => [2] | 37 => [0, 13] | 38 => [0, 13, 14] | 39 => [0, 13, 147] | 40 => [0, 13, 14] | 41 => [0, 13, 14, 15] | 42 => [0, 13, 14, 15, 149] | 43 => [0, 13, 14, 15] | 44 => [0, 13, 14, 15, 16] | 45 => [0, 13, 14, 15, 173] | 46 => [0, 13, 15] | 47 => [0, 13, 14, 15] | 48 => [0, 13, 17] | 49 => [0, 13, 17, 180] | 50 => [0, 13, 17] | 51 => [0, 13, 17, 192] | 52 => [2] | 53 => [2] | _ => [], fun n => match n with | 5 => [(0, .keep), (3, .keep), (4, .keep)] | 8 => [(0, .keep), (3, .keep), (4, .keep), (5, .keep)] | 14 => [(0, .keep), (3, .keep), (4, .keep), (5, .keep), (6, .keep), (7, .keep)] | 24 => [(0, .keep), (3, .keep), (4, .keep), (5, .keep), (6, .keep), (10, .keep)] | 30 => [(0, .keep), (3, .keep), (11, .keep)] | 33 => [(0, .keep), (3, .keep), (11, .keep), (12, .keep)] | 39 => [(0, .keep), (13, .keep), (14, .keep)] | 42 => [(0, .keep), (13, .keep), (14, .keep), (15, .keep)] | 49 => [(0, .keep), (13, .keep), (17, .keep)] | _ => []⟩
def h23 : Hints := ⟨fun n => match n with | 0 => [0, 3] | 1 => [4] | _ => [], fun n => match n with | _ => []⟩
def h24 : Hints := ⟨fun n => match n with | 0 => [0] | 1 => [0, 3] | 2 => [0, 3, 4] | 3 => [0, 3, 4, 5, 6] | 4 => [0, 3, 4, 5, 17] | 5 => [2, 3] | 6 => [0, 3, 4, 5] | 7 => [0, 3, 4] | _ => [], fun n => match n with | 3 => [(0, .keep), (3, .keep), (4, .keep)] | _ => []⟩
def h25 : Hints := ⟨fun n => match n with | 0 => [1, 2] | 1 => [1, 2, 6] | 2 => [1, 2, 3, 8] | 3 => [1, 2, 3, 4] | 4 => [1, 2, 22] | 5 => [2] | 6 => [2] | _ => [], fun n => match n with | _ => []⟩
def h26 : Hints := ⟨fun n => match n with | 0 => [0, 1, 2] | 1 => [0, 1, 2, 3] | 2 => [0, 1, 2, 3, 12] | 3 => [0, 1, 2, 3, 5] | 4 => [0, 1, 2, 3, 5, 16, 17, 18] | 5 => [0, 1, 2, 3, 5, 16, 17, 18, 19] | 6 => [0, 1, 2, 3, 5, 7, 16, 17, 18] | 7 => [0, 1, 2, 3, 5, 7, 16, 17, 18] | 8 => [0, 1, 2, 3, 5, 16, 17, 18, 31] | 9 => [0, 1, 2] | 10 => [0, 1, 2, 3, 5, 16, 17, 18] | 11 => [0, 1, 2] | _ => [], fun n => match n with | 5 => [(0, .keep), (1, .keep), (2, .keep), (3, .keep), (5, .keep), (16, .keep), (17, .keep), (18, .keep)] | _ => []⟩
def h27 : Hints := ⟨fun n => match n with | 0 => [] | 1 => [1] | 2 => [1] | 3 => [1] | 4 => [0, 1] | _ => [], fun n => match n with | _ => []⟩
def h28 : Hints := ⟨fun n => match n with | 0 => [0, 3] | 1 => [0, 3, 5] | 2 => [4] | _ => [], fun n => match n with | _ => []⟩
def h29 : Hints := ⟨fun n => match n with | 0 => [1, 2] | 1 => [1, 2] | 2 => [2] | _ => [], fun n => match n with | _ => []⟩
def h30 : Hints := ⟨fun n => match n with | 0 => [0, 1, 5] | 1 => [0, 1, 5, 7] | 2 => [1, 5, 7, 15, 16, 17] | 3 => [1, 5, 7, 15, 16, 17, 18] | 4 => [1, 5, 7, 8, 9, 15, 16, 17] | 5 => [1, 5, 7, 8, 9, 15, 16, 17, 26] | 6 => [1, 5, 7, 8, 9, 15, 16, 17] | 7 => [1, 5, 7, 8, 9, 15, 16, 17] | 8 => [1, 5, 7, 8, 9, 15, 16, 17, 38, 39, 40] | 9 => [1, 5, 7, 8, 9, 15, 16, 17, 38, 39, 40, 41] | 10 => [1, 5, 7, 8, 9, 10, 11, 15, 16, 17, 38, 39, 40] | 11 => [1, 5, 7, 8, 9, 15, 16, 17, 38, 39, 40] | 12 => [1, 5, 7, 8, 9, 15, 16, 17, 38, 39, 40] | 13 => [1, 5, 7, 15, 16, 17] | 14 => [6, 7] | _ => [], fun n => match n with | 3 => [(1, .keep), (5, .keep), (7, .keep), (15, .keep), (16, .keep), (17, .keep)] | 9 => [(1, .keep), (5, .keep), (7, .keep), (8, .keep), (9, .keep), (15, .keep), (16, .keep), (17, .keep), (38, .keep), (39, .keep), (40, .keep)] | _ => []⟩
def h31 : Hints := ⟨fun n => match n with | 0 => [0] | 1 => [2] | _ => [], fun n => match n with | _ => []⟩
def h32 : Hints := ⟨fun n => match n with | 0 => [1] | 1 => [2] | _ => [], fun n => match n with | _ => []⟩
def h33 : Hints := ⟨fun n => match n with | 0 => [0, 1, 4] | 1 => [] | _ => [], fun n => match n with | _ => []⟩
def h34 : Hints := ⟨fun n => match n with | 0 => [2, 3] | 1 => [4] | _ => [], fun n => match n with | _ => []⟩
def h35 : Hints := ⟨fun n => match n with | 0 => [0] | 1 => [2] | _ => [], fun n => match n with | _ => []⟩
def h36 : Hints := ⟨fun n => match n with | 0 => [0] | 1 => [0, 8] | 2 => [2] | 3 => [0, 3] | 4 => [0, 3, 13] | 5 => [0, 3] | 6 => [0, 3, 25] | 7 => [0, 3, 4] | 8 => [0, 3, 4, 5] | 9 => [0, 3, 4, 5, 32] | 10 => [0, 3, 4, 5] | 11 => [0, 3, 4, 5, 44] | 12 => [0, 3, 4, 5] | 13 => [0, 3, 4, 5] | 14 => [0, 3] | 15 => [2] | 16 => [2] | _ => [], fun n => match n with | 4 => [(0, .keep), (3, .keep)] | 9 => [(0, .keep), (3, .keep), (4, .keep), (5, .keep)] | _ => []⟩
def h37 : Hints := ⟨fun n => match n with | 0 => [1] | 1 => [2] | _ => [], fun n => match n with | _ => []⟩
def h38 : Hints := ⟨fun n => match n with | 0 => [0, 3] | 1 => [4] | _ => [], fun n => match n with | _ => []⟩
def h39 : Hints := ⟨fun n => match n with | 0 => [0, 3, 4] | 1 => [3, 4, 10, 11, 12] | 2 => [3, 4, 10, 11, 12, 13] | 3 => [3, 4, 6, 7, 10, 11, 12] | 4 => [3, 4, 6, 7, 8, 10, 11, 12] | 5 => [3, 4, 6, 7, 8, 10, 11, 12, 23] | 6 => [3, 4, 6, 8, 10, 11, 12, 28] | 7 => [3, 4, 6, 8, 9, 10, 11, 12] | 8 => [3, 4, 6, 8, 10, 11, 12, 37] | 9 => [4, 5] | 10 => [3, 4, 10, 11, 12] | 11 => [4, 5] | _ => [], fun n => match n with | 2 => [(3, .keep), (4, .keep), (10, .keep), (11, .keep), (12, .keep)] | _ => []⟩
def h40 : Hints := ⟨fun n => match n with | 0 => [2, 3, 4] | 1 => [2, 3, 4, 13] | 2 => [4] | 3 => [2, 3, 4, 23] | 4 => [4] | 5 => [2, 4, 25] | 6 => [2, 4, 5] | 7 => [2, 4, 30] | 8 => [4] | 9 => [4] | _ => [], fun n => match n with | _ => []⟩
def h41 : Hints := ⟨fun n => match n with | 0 => [0, 3] | 1 => [0, 3, 6] | 2 => [2, 3] | 3 => [0, 3] | 4 => [3] | 5 => [2, 3] | _ => [], fun n => match n with | _ => []⟩
def h42 : Hints := ⟨fun n => match n with | 0 => [0, 3] | 1 => [0, 3, 6] | 2 => [2, 3] | 3 => [0, 3] | 4 => [3] | 5 => [2, 3] | _ => [], fun n => match n with | _ => []⟩
def h43 : Hints := ⟨fun n => match n with | 0 => [0] | 1 => [0, 3] | 2 => [0, 3, 9, 10, 11] | 3 => [0, 3, 9, 10, 11, 12] | 4 => [0, 3, 5, 9, 10, 11] | 5 => [0, 3, 9, 10, 11] | 6 => [0, 3, 9, 10, 11, 20] | 7 => [0, 3, 9, 10, 11] | 8 => [0, 3, 9, 10, 11] | 9 => [0, 6] | 10 => [6, 25, 26, 27] | 11 => [6, 25, 26, 27, 28] | 12 => [6, 8, 25, 26, 27] | 13 => [6, 25, 26, 27] | 14 => [6, 25, 26, 27] | 15 => [2, 6] | _ => [], fun n => match n with | 3 => [(0, .keep), (3, .keep), (9, .keep), (10, .keep), (11, .keep)] | 11 => [(6, .keep), (25, .keep), (26, .keep), (27, .keep)] | _ => []⟩
def h44 : Hints := ⟨fun n => match n with | 0 => [1, 2] | 1 => [2, 6] | 2 => [2, 5] | 3 => [2] | 4 => [2, 4] | _ => [], fun n => match n with | _ => []⟩
def h45 : Hints := ⟨fun n => match n with | 0 => [0, 1, 8, 9, 10] | 1 => [0, 1, 8, 9, 10, 11] | 2 => [0, 1, 4, 8, 9, 10] | 3 => [0, 1, 8, 9, 10, 17] | 4 => [0, 1, 8, 9, 10] | 5 => [0, 20, 21, 22] | 6 => [0, 20, 21, 22, 23] | 7 => [0, 6, 20, 21, 22] | 8 => [0, 20, 21, 22, 30] | 9 => [0, 20, 21, 22] | _ => [], fun n => match n with | 1 => [(0, .keep), (1, .keep), (8, .keep), (9, .keep), (10, .keep)] | 6 => [(0, .keep), (20, .keep), (21, .keep), (22, .keep)] | _ => []⟩
def h46 : Hints := ⟨fun n => match n with | 0 => [0, 1, 2, 3, 4, 10] | 1 => [0, 1, 2, 3, 4, 10, 11] | 2 => [0, 1, 2, 3, 4, 10, 11, 12] | 3 => [0, 1, 2, 3, 4, 10, 11, 12, 25] | 4 => [] | 5 => [0, 1, 2, 3, 4, 10, 11, 12, 32] | 6 => [] | 7 => [0, 1, 2, 3, 4, 10, 11, 12, 39] | 8 => [0, 1, 2, 3, 4, 10, 11, 12] | 9 => [0, 1, 2, 3, 4, 10, 11, 12] | 10 => [0, 1, 2, 3, 4, 10, 11, 12, 13, 14] | 11 => [0, 1, 2, 3, 4, 10, 11, 12, 13, 14, 56] | 12 => [0, 1, 2, 3, 4, 10, 11, 12, 13] | 13 => [0, 1, 2, 3, 4, 10, 11, 12, 13] | 14 => [0, 1, 2, 3, 4, 10, 11, 12, 13, 14] | 15 => [0, 1, 2, 3, 4, 10, 11, 12, 13, 75] | 16 => [0, 1, 2, 3, 4, 10, 11, 12, 13, 80] | 17 => [0, 1, 2, 3, 4, 10, 11, 12, 13, 97] | 18 => [0, 2, 3, 4, 10, 11, 15] | 19 => [0, 1, 2, 3, 4, 10, 11] | 20 => [0, 1, 2, 3, 4, 12, 16, 17] | 21 => [0, 1, 2, 3, 4, 11, 12, 16] | 22 => [0, 1, 2, 3, 4, 11, 12, 16, 18, 19] | 23 => [0, 1, 2, 3, 4, 11, 16, 18, 19, 20] | 24 => [0, 1, 2, 3, 4, 11, 16, 18, 19, 20, 125] | 25 => [0, 1, 2, 3, 4, 10, 11, 16] | 26 => [0, 2, 3, 4, 10, 11, 16] | 27 => [0, 1, 2, 3, 4, 10, 11] | 28 => [0, 1, 2, 3, 4, 10, 11, 16] | 29 => [0, 1, 3, 4, 10, 11, 16] | 30 => [0, 1, 2, 3, 4, 10, 11] | _ => [], fun n => match n with | 2 => [(0, .keep), (1, .keep), (2, .keep), (3, .keep), (4, .keep), (10, .keep), (11, .keep)] | _ => []⟩
def h47 : Hints := ⟨fun n => match n with | 0 => [0] | 1 => [2] | 2 => [2] | _ => [], fun n => match n with | _ => []⟩
def h48 : Hints := ⟨fun n => match n with | 0 => [0] | 1 => [0, 3] | 2 => [3, 6, 7, 8] | 3 => [3, 6, 7, 8, 9] | 4 => [3, 5, 6, 7, 8] | 5 => [3, 5, 6, 7, 8, 14] | 6 => [2] | 7 => [3, 6, 7, 8] | 8 => [2] | _ => [], fun n => match n with | 3 => [(3, .keep), (6, .keep), (7, .keep), (8, .keep)] | _ => []⟩
def h49 : Hints := ⟨fun n => match n with | 0 => [0, 1] | 1 => [0, 1, 5] | 2 => [0, 1, 5, 6] | 3 => [0, 1, 6, 11] | 4 => [12] | 5 => [4] | 6 => [4] | 7 => [0, 1, 13] | 8 => [4] | 9 => [0, 1, 16] | 10 => [4] | 11 => [19] | 12 => [4] | 13 => [4] | _ => [], fun n => match n with | _ => []⟩
def h50 : Hints := ⟨fun n => match n with | 0 => [0, 1] | 1 => [0, 1, 5] | 2 => [0, 1, 5, 6] | 3 => [0, 1, 6, 11] | 4 => [12] | 5 => [4] | 6 => [4] | 7 => [0, 1, 13] | 8 => [4] | 9 => [0, 1, 16] | 10 => [4] | 11 => [19] | 12 => [4] | 13 => [4] | _ => [], fun n => match n with | _ => []⟩
def h51 : Hints := ⟨fun n => match n with | 0 => [0, 11, 12, 13] | 1 => [0, 11, 12, 13, 14] | 2 => [0, 3, 4, 11, 12, 13] | 3 => [0, 3, 4, 11, 12, 13, 18, 19, 20] | 4 => [0, 3, 4, 11, 12, 13, 18, 19, 20, 21] | 5 => [0, 3, 4, 5, 6, 11, 12, 13, 18, 19, 20] | 6 => [0, 3, 4, 11, 12, 13, 18, 19, 20, 33] | 7 => [0, 3, 4, 11, 12, 13, 18, 19, 20] | 8 => [0, 11, 12, 13] | _ => [], fun n => match n with | 1 => [(0, .keep), (11, .keep), (12, .keep), (13, .keep)] | 4 => [(0, .keep), (3, .keep), (4, .keep), (11, .keep), (12, .keep), (13, .keep), (18, .keep), (19, .keep), (20, .keep)] | _ => []⟩
def h52 : Hints := ⟨fun n => match n with | 0 => [0, 3] | 1 => [0, 3, 7, 8] | 2 => [0, 3, 7, 8, 9] | 3 => [0, 3, 5, 7, 8] | 4 => [0, 3, 5, 7, 8, 16] | 5 => [4] | 6 => [0, 3, 7, 8] | 7 => [4] | _ => [], fun n => match n with | 2 => [(0, .keep), (3, .keep), (7, .keep), (8, .keep)] | _ => []⟩
def h53 : Hints := ⟨fun n => match n with | 0 => [0] | 1 => [0, 7] | 2 => [2] | 3 => [0, 8, 9, 10] | 4 => [0, 8, 9, 10, 11] | 5 => [0, 4, 8, 9, 10] | 6 => [0, 8, 9, 10, 21] | 7 => [2] | 8 => [0, 8, 9, 10] | 9 => [2] | _ => [], fun n => match n with | 4 => [(0, .keep), (8, .keep), (9, .keep), (10, .keep)] | _ => []⟩
def h54 : Hints := ⟨fun n => match n with | 0 => [0, 1, 22] | 1 => [0, 1, 6, 22] | 2 => [0, 1, 22] | 3 => [0, 1, 22] | 4 => [0, 1, 16, 22] | 5 => [0, 22] | 6 => [0, 4, 22] | _ => [], fun n => match n with | _ => []⟩
def h55 : Hints := ⟨fun n => match n with | 0 => [0, 1, 2, 3, 8] | 1 => [0, 1, 2, 3, 8, 14] | 2 => [0, 1, 2, 3, 8] | 3 => [0, 1, 2, 3, 8, 9] | 4 => [0, 1, 2, 3, 8, 9, 34] | 5 => [0, 1, 2, 3, 8, 9] | 6 => [0, 1, 2, 3, 8, 9] | _ => [], fun n => match n with | 1 => [(0, .keep), (1, .keep), (2, .keep), (3, .keep), (8, .keep)] | 4 => [(0, .keep), (1, .keep), (2, .keep), (3, .keep), (8, .keep), (9, .keep)] | _ => []⟩
def h64 : Hints := ⟨fun n => match n with | 0 => [0, 2] | 1 => [0, 2, 4] | 2 => [0] | 3 => [0, 2] | 4 => [0, 2, 8] | 5 => [0, 2] | 6 => [0, 2] | 7 => [0, 2, 14] | 8 => [0, 2] | 9 => [0, 2] | 10 => [2] | _ => [], fun n => match n with | _ => []⟩
def h65 : Hints := ⟨fun n => match n with | 0 => [0] | 1 => [2] | _ => [], fun n => match n with | _ => []⟩
def h66 : Hints := ⟨fun n => match n with | 0 => [0] | 1 => [2] | _ => [], fun n => match n with | _ => []⟩
def h67 : Hints := ⟨fun n => match n with | 0 => [0] | 1 => [0, 3] | 2 => [0, 3, 10, 11, 12] | 3 => [0, 3, 10, 11, 12, 13] | 4 => [0, 3, 5, 10, 11, 12] | 5 => [0, 3, 5, 6, 10, 11, 12] | 6 => [0, 3, 5, 6, 10, 11, 12, 28] | 7 => [0, 3, 10, 11, 12] | 8 => [0, 3, 10, 11, 12] | 9 => [0, 3, 10, 11, 12] | 10 => [2] | _ => [], fun n => match n with | 3 => [(0, .keep), (3, .keep), (10, .keep), (11, .keep), (12, .keep)] | _ => []⟩
def h73 : Hints := ⟨fun n => match n with | 0 => [2, 3] | 1 => [4] | _ => [], fun n => match n with | _ => []⟩
def h74 : Hints := ⟨fun n => match n with | 0 => [0, 3] | 1 => [0, 3, 6] | 2 => [2, 3] | 3 => [0, 3] | 4 => [3] | 5 => [2, 3] | _ => [], fun n => match n with | _ => []⟩
def h76 : Hints := ⟨fun n => match n with | 0 => [1, 2] | 1 => [1, 2, 5] | 2 => [1, 2] | 3 => [1, 2] | 4 => [2] | _ => [], fun n => match n with | _ => []⟩
theorem ygs (w : World) : (Go.sizeOf 36).run Try.prog w = .ok 2 w := by
 have h : (Try.prog.info? 36).map (·.size) = some 2 := by kernel_rfl
 cases hq : Try.prog.info? 36 with
 | none => rw [hq] at h; cases h
 | some i => rw [hq] at h; simp at h; simp [Go.sizeOf, typeInfo, hq, h]
theorem yza : Try.prog.stoodInHeld 36 = false := by kernel_rfl
theorem yko (k : Nat) (w : World) (x0 : Int) (x1 : Int) (y0 : Int) (y1 : Int) : (Op.equalIn (k + 2) 36 (.agg #[.int .u8 x0, .int .i64 x1]) (.agg #[.int .u8 y0, .int .i64 y1])).run Try.prog w = .ok ((x0 == y0) && (x1 == y1)) w := by
 have p0 : ∀ (a0 : Int) (a1 : Int) (w : World), (part 5 #[.int .u8 a0, .int .i64 a1] 0).run Try.prog w = .ok (.int .u8 a0) w := by
  intros; simp [part, isAgg, run_underlying Try.underlying5]
 have p1 : ∀ (a0 : Int) (a1 : Int) (w : World), (part 3 #[.int .u8 a0, .int .i64 a1] 1).run Try.prog w = .ok (.int .i64 a1) w := by
  intros; simp [part, isAgg, run_underlying Try.underlying3]
 rw [run_equalIn_agg w (k + 1) 36 _ _ (by kernel_rfl) yza]
 have hf : (Try.prog.fieldsOf 36).toList = [{ name := "Yarn", type := 5, offset := 0, embedded := false, tag := "", pkgPath := "", byteOffset := 0 }, { name := "N", type := 3, offset := 1, embedded := false, tag := "", pkgPath := "", byteOffset := 8 }] := by simp [Program.fieldsOf, Try.underlying36]
 rw [hf]
 simp only [Op.eqFields]
 rw [if_pos (by decide), if_pos (by decide)]
 have q0 := fun (w : World) => run_equalIn_int w (k + 0) 5 .u8 .u8 x0 y0 Try.underlying5
 have q1 := fun (w : World) => run_equalIn_int w (k + 0) 3 .i64 .i64 x1 y1 Try.underlying3
 generalize h0 : (x0 == y0) = b0 at *
 generalize h1 : (x1 == y1) = b1 at *
 simp only [Sem.run_bind, Result.andThen_ok, p0, q0, p1, q1]
 cases b0 <;> cases b1 <;> simp [p0, q0, p1, q1]
theorem yy9 : Try.prog.stoodInHeld 56 = false := by kernel_rfl
theorem yr4 (k : Nat) (w : World) (x0 : Int) (x1 : Int) (x2 : Bool) (x3 : Int) (y0 : Int) (y1 : Int) (y2 : Bool) (y3 : Int) : (Op.equalIn (k + 3) 56 (.agg #[.int .u8 x0, .int .i64 x1, .bool x2, .int .u8 x3]) (.agg #[.int .u8 y0, .int .i64 y1, .bool y2, .int .u8 y3])).run Try.prog w = .ok (((x0 == y0) && (x1 == y1)) && (x2 == y2) && (x3 == y3)) w := by
 have p0 : ∀ (a0 : Int) (a1 : Int) (a2 : Bool) (a3 : Int) (w : World), (part 36 #[.int .u8 a0, .int .i64 a1, .bool a2, .int .u8 a3] 0).run Try.prog w = .ok (.agg #[.int .u8 a0, .int .i64 a1]) w := by
  intros; simp [part, isAgg, run_underlying Try.underlying36, ygs]
 have p1 : ∀ (a0 : Int) (a1 : Int) (a2 : Bool) (a3 : Int) (w : World), (part 4 #[.int .u8 a0, .int .i64 a1, .bool a2, .int .u8 a3] 2).run Try.prog w = .ok (.bool a2) w := by
  intros; simp [part, isAgg, run_underlying Try.underlying4]
 have p2 : ∀ (a0 : Int) (a1 : Int) (a2 : Bool) (a3 : Int) (w : World), (part 54 #[.int .u8 a0, .int .i64 a1, .bool a2, .int .u8 a3] 3).run Try.prog w = .ok (.int .u8 a3) w := by
  intros; simp [part, isAgg, run_underlying Try.underlying54]
 rw [run_equalIn_agg w (k + 2) 56 _ _ (by kernel_rfl) yy9]
 have hf : (Try.prog.fieldsOf 56).toList = [{ name := "Id", type := 36, offset := 0, embedded := false, tag := "", pkgPath := "", byteOffset := 0 }, { name := "Front", type := 4, offset := 2, embedded := false, tag := "", pkgPath := "", byteOffset := 16 }, { name := "Dir", type := 54, offset := 3, embedded := false, tag := "", pkgPath := "", byteOffset := 17 }] := by simp [Program.fieldsOf, Try.underlying56]
 rw [hf]
 simp only [Op.eqFields]
 rw [if_pos (by decide), if_pos (by decide), if_pos (by decide)]
 have q0 := fun (w : World) => yko (k + 0) w x0 x1 y0 y1
 have q1 := fun (w : World) => run_equalIn_bool' w (k + 1) 4 x2 y2 Try.underlying4
 have q2 := fun (w : World) => run_equalIn_int w (k + 1) 54 .u8 .u8 x3 y3 Try.underlying54
 generalize h0 : ((x0 == y0) && (x1 == y1)) = b0 at *
 generalize h1 : (x2 == y2) = b1 at *
 generalize h2 : (x3 == y3) = b2 at *
 simp only [Sem.run_bind, Result.andThen_ok, p0, q0, p1, q1, p2, q2]
 cases b0 <;> cases b1 <;> cases b2 <;> simp [p0, q0, p1, q1, p2, q2]
theorem ynz : Try.prog.eqGuardType Try.prog.depth 36 = false := by kernel_rfl
theorem yny : Try.prog.eqGuardType Try.prog.depth 56 = false := by kernel_rfl
def eqP : TypeId → List Value → List Value → Option Bool
 | 36, [.int .u8 x0, .int .i64 x1], [.int .u8 y0, .int .i64 y1] => some ((x0 == y0) && (x1 == y1))
 | 56, [.int .u8 x0, .int .i64 x1, .bool x2, .int .u8 x3], [.int .u8 y0, .int .i64 y1, .bool y2, .int .u8 y3] => some (((x0 == y0) && (x1 == y1)) && (x2 == y2) && (x3 == y3))
 | _, _, _ => none
theorem eqOk (t : TypeId) (us vs : List Value) (r : Bool) (h : eqP t us vs = some r) (w : World) (x y : Operand) :
  (do eqGuard .eql t x y (.agg us.toArray) (.agg vs.toArray); binOp .eql t (.agg us.toArray) (.agg vs.toArray) : Sem Value).run Try.prog w = .ok (.bool r) w ∧
  (do eqGuard .neq t x y (.agg us.toArray) (.agg vs.toArray); binOp .neq t (.agg us.toArray) (.agg vs.toArray) : Sem Value).run Try.prog w = .ok (.bool (!r)) w := by
 unfold eqP at h
 split at h
 ·injection h with h; subst h
  constructor
  ·rw [Sem.run_bind, run_eqGuard_agg w _ _ _ _ _ _ ynz, Result.andThen_ok, run_eql_struct, yko 9998]; rfl
  ·rw [Sem.run_bind, run_eqGuard_agg w _ _ _ _ _ _ ynz, Result.andThen_ok, run_neq_struct, yko 9998]; rfl
 ·injection h with h; subst h
  constructor
  ·rw [Sem.run_bind, run_eqGuard_agg w _ _ _ _ _ _ yny, Result.andThen_ok, run_eql_struct, yr4 9997]; rfl
  ·rw [Sem.run_bind, run_eqGuard_agg w _ _ _ _ _ _ yny, Result.andThen_ok, run_neq_struct, yr4 9997]; rfl
 ·cases h
def mutsB : FuncId → Bool := fun f => [].contains f
def cxN (n lo : Nat) : Cx := cxA T eqP mutsB n lo
theorem base (n lo : Nat) : CxBase Try.prog (cxN n lo) := ⟨tyOk, eqOk, by kernel_rfl⟩
end Tst
end

section
namespace Go.Lf
open Go Go.RowKit
section
variable {P : Program}
def Le (P : Program) (x y : AV) : Prop := ∀ (B0 : Nat) (w : World) (S : Nat → Prop) (n : Nat) (v : Value) (O : Own), Rv P B0 w S n v x O → Rv P B0 w S n v y O
theorem Le.refl (x : AV) : Le P x x := fun _ _ _ _ _ _ h => h
theorem Le.nil (e : TypeId) : Le P (.atom (.slice none 0 0)) (.sl .any e (some 0) []) := by
 intro B0 w S n v O h
 obtain ⟨n, rfl⟩ := h.pos
 obtain ⟨rfl, hz⟩ := h
 exact ⟨none, 0, rfl, zly _, Nat.zero_le _, rfl, fun x hx => by simp at hx, hz, fun h => absurd rfl h⟩
theorem Le.nilOwn (e : TypeId) : Le P (.atom (.slice none 0 0)) (.sl .own e (some 0) []) := by
 intro B0 w S n v O h
 obtain ⟨n, rfl⟩ := h.pos
 obtain ⟨rfl, hz⟩ := h
 exact ⟨[], fun _ => 0, World.ownsRow_nil w B0 e _, rfl, fun x hx => by simp at hx, .nil fun _ => rfl, fun b => by simp [Value.ownBlock, ind, hz b]⟩
theorem Le.cap {m : Mode} {e : TypeId} {c : Option Nat} {xs : List AV} : Le P (.sl m e c xs) (.sl m e none xs) := by
 intro B0 w S n v O h
 obtain ⟨n, rfl⟩ := h.pos
 cases m with
 | own => obtain ⟨vs, O', ho, _, hu, hr, hO⟩ := h; exact ⟨vs, O', ho, trivial, hu, hr, hO⟩
 | fresh => obtain ⟨A, k, hv, hk, hm, _, r⟩ := h; exact ⟨A, k, hv, hk, hm, trivial, r⟩
 | any => obtain ⟨A, k, hv, hk, hm, _, r⟩ := h; exact ⟨A, k, hv, hk, hm, trivial, r⟩
theorem Rc.le2 {B0 : Nat} {w : World} {S : Nat → Prop} {n : Nat} {vs : List Value} {xs ys : List AV} {O : Own} (h : Rc (Rv P B0 w S n) vs xs O) : ∀ {ys : List AV}, F2 (Le P) xs ys → Rc (Rv P B0 w S n) vs ys O := by
 induction h with
 | nil hz => intro ys h2; cases h2; exact .nil hz
 | cons h1 _ hO ih => intro ys h2; cases h2 with | cons g1 g2 => exact .cons (g1 _ _ _ _ _ _ h1) (ih g2) hO
theorem Le.agg {xs ys : List AV} (h : F2 (Le P) xs ys) : Le P (.agg xs) (.agg ys) := by
 intro B0 w S n v O hr
 obtain ⟨n, rfl⟩ := hr.pos
 obtain ⟨vs, hv, hrc⟩ := hr
 exact ⟨vs, hv, Rc.le2 (ys := ys) hrc h⟩
theorem Le.tup {xs ys : List AV} (h : F2 (Le P) xs ys) : Le P (.tup xs) (.tup ys) := by
 intro B0 w S n v O hr
 obtain ⟨n, rfl⟩ := hr.pos
 obtain ⟨vs, hv, hrc⟩ := hr
 exact ⟨vs, hv, Rc.le2 (ys := ys) hrc h⟩
theorem PureC.args {f : FuncId} {xs ys : List AV} {r : AV} (h : PureC P f ys r) (hl : F2 (Le P) xs ys) : PureC P f xs r :=
 ⟨h.1, fun w S args n hS ha => h.2 w S args n hS (Rc.le2 (ys := ys) ha hl)⟩
theorem PureC.res {f : FuncId} {xs : List AV} {r r' : AV} (h : PureC P f xs r) (hl : Le P r r') : PureC P f xs r' :=
 ⟨h.1, fun w S args n hS ha => (h.2 w S args n hS ha).mono fun e w' ⟨v, n', S', O, he, hB, hrv, rest⟩ => ⟨v, n', S', O, he, hB, hl _ _ _ _ _ _ hrv, rest⟩⟩
end
end Go.Lf
end

section
namespace Go.Lf
open Go Go.RowKit
section
variable {P : Program} {F : Frm} {B0 : Nat} {w0 w : World} {S S0 : Nat → Prop} {n : Nat} {env env2 : Env} {a : Act} {tmps : Array Value} {Os : Nat → Own} {cx : Cx}
def EnvLe (P : Program) (env env2 : Env) : Prop := F2 (fun p q => p.1 = q.1 ∧ zqf p.2 = none ∧ Le P p.2 q.2) env env2
theorem EnvLe.lk (h : EnvLe P env env2) (t : Nat) : (lk env t = none ∧ lk env2 t = none) ∨ ∃ x y, lk env t = some x ∧ lk env2 t = some y ∧ zqf x = none ∧ Le P x y := by
 induction h with
 | nil => exact .inl ⟨rfl, rfl⟩
 | @cons p q l m h _ ih =>
  obtain ⟨k, x⟩ := p
  obtain ⟨k', y⟩ := q
  obtain ⟨h1, h2, h3⟩ := h
  simp only at h1; subst h1
  by_cases hk : k = t
  ·exact .inr ⟨x, y, by simp [Lf.lk, hk], by simp [Lf.lk, hk], h2, h3⟩
  ·simp only [Lf.lk, if_neg hk]; exact ih
theorem St.less (hst : St P F B0 w0 n env tmps w S Os) (h : EnvLe P env env2) : St P F B0 w0 n env2 tmps w S Os := by
 have key : ∀ t y, Lf.lk env2 t = some y → ∃ v, tmps[t]? = some v ∧ Rv P B0 w S n v y (Os t) := by
  intro t y hy
  rcases h.lk t with ⟨_, h2⟩ | ⟨x, y', h1, h2, h3, h4⟩
  ·rw [hy] at h2; cases h2
  ·rw [hy] at h2; injection h2 with h2; subst h2
   obtain ⟨v, hv, hs⟩ := hst.rel t x h1
   rcases hs with ⟨hl, _, _⟩ | hs
   ·exact absurd h3 hl
   ·exact ⟨v, hv, h4 _ _ _ _ _ _ hs⟩
 refine ⟨hst.below, hst.b0, hst.sLt, hst.excl, hst.one, hst.dis, ?_, ?_, ?_, hst.keep, hst.pin⟩
 ·intro t y hy
  obtain ⟨v, hv, hr⟩ := key t y hy
  exact ⟨v, hv, .inr hr⟩
 ·intro t ht
  rcases h.lk t with ⟨h1, _⟩ | ⟨x, y', h1, h2, _⟩
  ·exact hst.abs t h1
  ·rw [ht] at h2; cases h2
 ·intro t y r hy hr
  obtain ⟨v, hv, hrv⟩ := key t y hy
  rw [hrv.noLeaf] at hr; cases hr
theorem Tri.less {c : Code} {env env' env2 : Env} {ex : Ex} (h : Tri P cx c env ex env') (hl : EnvLe P env' env2) : Tri P cx c env ex env2 :=
 fun ρ hρ F B0 w0 S0 ds a w Q hag hQ => h ρ hρ F B0 w0 S0 ds a w Q hag fun a' w' ⟨Ds, n, S, Os, hnd, hD, h1, h2, hn, hgr, hst⟩ => hQ a' w' ⟨Ds, n, S, Os, hnd, hD, h1, h2, hn, hgr, hst.less hl⟩
theorem Tri.more {c : Code} {env env' env2 : Env} {ex : Ex} (h : Tri P cx c env2 ex env') (hl : EnvLe P env env2) : Tri P cx c env ex env' :=
 fun ρ hρ F B0 w0 S0 ds a w Q hag hQ => h ρ hρ F B0 w0 S0 ds a w Q (match hag with | ⟨h1, h2, n, S, Os, hn, hgr, hst⟩ => ⟨h1, h2, n, S, Os, hn, hgr, hst.less hl⟩) hQ
theorem Le.box {xs ys : List AV} (h : F2 (Le P) xs ys) : Le P (.box xs) (.box ys) := by
 intro B0 w S n v O hr
 obtain ⟨n, rfl⟩ := hr.pos
 obtain ⟨g, C, T, O', hv, hg, hh, hrc, hO⟩ := hr
 exact ⟨g, C, T, O', hv, hg, hh, Rc.le2 (ys := ys) hrc h, hO⟩
theorem Le.ownEls {e : TypeId} {cap : Option Nat} {xs ys : List AV} (hl : xs.length = ys.length) (hu : ∀ sz, Uni sz xs → Uni sz ys) (hf : F2 (Le P) (flat xs) (flat ys)) : Le P (.sl .own e cap xs) (.sl .own e cap ys) := by
 intro B0 w S n v O hr
 obtain ⟨n, rfl⟩ := hr.pos
 obtain ⟨vs, O', ho, hc, hx, hrc, hO⟩ := hr
 exact ⟨vs, O', hl ▸ ho, hc, hu _ hx, Rc.le2 (ys := flat ys) hrc hf, hO⟩
theorem ykk {x : AV} (hx : x.ecells = [x]) (k : Nat) : flat (List.replicate k x) = List.replicate k x := by
 induction k with
 | zero => rfl
 | succ k ih => rw [List.replicate_succ, flat, List.flatMap_cons, hx]; show x :: flat (List.replicate k x) = _; rw [ih]
theorem F2.rep {α β : Type} {R : α → β → Prop} {x : α} {y : β} (h : R x y) : ∀ k, F2 R (List.replicate k x) (List.replicate k y)
 | 0 => .nil
 | k + 1 => .cons h (F2.rep h k)
theorem Le.ownRep {e : TypeId} {cap : Option Nat} {x y : AV} (hx : x.ecells = [x]) (hy : y.ecells = [y]) (h : Le P x y) (k : Nat) : Le P (.sl .own e cap (List.replicate k x)) (.sl .own e cap (List.replicate k y)) := by
 refine Le.ownEls (by simp) (fun sz hu z hz => ?_) (by rw [ykk hx, ykk hy]; exact F2.rep h k)
 obtain ⟨hk, rfl⟩ := List.mem_replicate.1 hz
 rw [hy]
 have := hu x (List.mem_replicate.2 ⟨hk, rfl⟩)
 rw [hx] at this; exact this
theorem EnvLe.refl : ∀ (env : Env), (∀ p ∈ env, zqf p.2 = none) → EnvLe P env env
 | [], _ => .nil
 | p :: l, h => .cons ⟨rfl, h p (by simp), Le.refl _⟩ (EnvLe.refl l fun q hq => h q (by simp [hq]))
end
end Go.Lf
end

section
open Go Go.Lf Go.Proofs
namespace Tst
structure Ps where
 y : Int
 n : Int
 f : Bool
 d : Int
 deriving Inhabited, DecidableEq
abbrev it (i : Int) : AV := .atom (.int .i64 i)
abbrev ub (i : Int) : AV := .atom (.int .u8 i)
abbrev bb (b : Bool) : AV := .atom (.bool b)
abbrev zqw : AV := .atom (.slice none 0 0)
def Ps.enc (p : Ps) : AV := .agg [.atom (.int .u8 p.y), .atom (.int .i64 p.n), .atom (.bool p.f), .atom (.int .u8 p.d)]
abbrev sl (cap : Option Nat) (l : List Ps) : AV := .sl .any 56 cap (l.map Ps.enc)
abbrev ow (cap : Option Nat) (l : List Ps) : AV := .sl .own 56 cap (l.map Ps.enc)
def yaf (p : Ps) : Ps := { p with d := if p.d == 1 then 0 else 1 }
def can (p q : Ps) : Bool := yaf p == q && yaf q == p
theorem zra (m : Lf.Mode) (c : Option Nat) (l : List Ps) : view (.sl m 56 c (l.map Ps.enc)) = .sl .any 56 c (l.map Ps.enc) := by
 show AV.sl .any 56 c ((l.map Ps.enc).map _) = _
 rw [List.map_map]; rfl
structure Idd where
 y : Int
 n : Int
 deriving Inhabited, DecidableEq
def Idd.enc (p : Idd) : AV := .agg [.atom (.int .u8 p.y), .atom (.int .i64 p.n)]
abbrev isl (c : Option Nat) (l : List Idd) : AV := .sl .any 36 c (l.map Idd.enc)
abbrev iow (c : Option Nat) (l : List Idd) : AV := .sl .own 36 c (l.map Idd.enc)
theorem ycf (f : Lf.Mode → Lf.Mode) (k : Nat) (l : List Idd) : List.map (mapE (remode f (k + 1))) (List.map Idd.enc l) = List.map Idd.enc l := by
 rw [List.map_map]; rfl
theorem yc5 (f : Lf.Mode → Lf.Mode) (k : Nat) (l : List Ps) : List.map (mapE (remode f (k + 1))) (List.map Ps.enc l) = List.map Ps.enc l := by
 rw [List.map_map]; rfl
theorem zrb (m : Lf.Mode) (c : Option Nat) (l : List Idd) : view (.sl m 36 c (l.map Idd.enc)) = .sl .any 36 c (l.map Idd.enc) := by
 show AV.sl .any 36 c ((l.map Idd.enc).map _) = _
 rw [ycf]
structure Lp where
 b : Int
 w : Bool
 ct : Option Nat
 th : List Idd
 cp : Option Nat
 pa : List Ps
 deriving Inhabited
def Lp.enc (l : Lp) : AV := .agg [ub l.b, bb l.w, isl l.ct l.th, sl l.cp l.pa]
structure Rw where
 c : Option Nat
 l : List Lp
 deriving Inhabited
abbrev lsl (c : Option Nat) (l : List Lp) : AV := .sl .any 45 c (l.map Lp.enc)
def Rw.enc (r : Rw) : AV := .sl .any 45 r.c (r.l.map Lp.enc)
abbrev tsl (c : Option Nat) (t : List Rw) : AV := .sl .any 37 c (t.map Rw.enc)
abbrev idE (y n : Int) : AV := .agg [ub y, it n]
theorem ev (H : Hints) (ans : List Ans) {n lo : Nat} {c : Code} {env env' : Env} {ex : Ex} {ps : List Prop} (hp : ∀ q ∈ ps, q) (h : evA Try.prog (cxN n lo) H c env ans = some ((ex, env'), [], ps) := by kernel_rfl) : Tri Try.prog (cxN n lo) c env ex env' := zqe (base n lo) zqb.1 zqb.2 c h hp
set_option maxHeartbeats 0
theorem yxl (x : Int) : PureC Try.prog 65 [ub x]  (bb (x != x)) :=
 zqj (H := h65) (n := 6) (ans := [.c, .c, .c, .c, .c]) (base 6 0) Try.func65 rfl (by simp) rfl (by kernel_rfl)  zqa
theorem yta (x : Int) : PureC Try.prog 66 [it x]  (bb (x != x)) :=
 zqj (H := h66) (n := 6) (ans := [.c, .c, .c, .c, .c]) (base 6 0) Try.func66 rfl (by simp) rfl (by kernel_rfl)  zqa
theorem ypf (p : Ps) (g0 : (Ps.d p == (1 : Int)) = true) : PureC Try.prog 76 [p.enc]  (AV.agg [ub (Ps.y p), it (Ps.n p), bb (Ps.f p), ub 0]) :=
 zqj (H := h76) (n := 9) (ans := [.c, .c, .c, .c, .c, .c, .c, .b true, .c, .c, .c, .c, .c, .c]) (base 9 0) Try.func76 rfl (by simp) rfl (by kernel_rfl) (allp g0 zqa)
theorem ype (p : Ps) (g0 : (Ps.d p == (1 : Int)) = false) : PureC Try.prog 76 [p.enc]  (AV.agg [ub (Ps.y p), it (Ps.n p), bb (Ps.f p), ub 1]) :=
 zqj (H := h76) (n := 9) (ans := [.c, .c, .c, .c, .c, .c, .c, .b false, .c, .c, .c, .c, .c, .c]) (base 9 0) Try.func76 rfl (by simp) rfl (by kernel_rfl) (allp g0 zqa)
theorem yp7 (c : Option Nat) (t : List Rw) (n m i : Int) (g0 : decide (i < m) = true) (g1 : decide (0 ≤ i ∧ i < ((t.map Rw.enc).length : Int)) = true) (g2 : (t.map Rw.enc).getD i.toNat AV.bad = Rw.enc (t.getD i.toNat default)) : Tri Try.prog (cxN 18 0) (zqc Try.f12 0) ([(3, it n), (6, tsl c t), (7, it m), (8, it i)]) .normal ([(3, it (i64.wrap (n + (↑(((Rw.l (t.getD i.toNat default)).map Lp.enc).length) : Int)))), (6, tsl c t), (7, it m), (8, it (i64.wrap (i + (1 : Int))))]) :=
 ev h12 [.c, .b true, .b true, .r (Rw.enc (t.getD i.toNat default)), .c, .c, .c, .c, .c, .c, .c, .c, .c, .c] (allp g0 (allp g1 (allp g2 zqa)))
theorem yp6 (c : Option Nat) (t : List Rw) (n m i : Int) (g0 : decide (i < m) = false) : Tri Try.prog (cxN 18 0) (zqc Try.f12 0) ([(3, it n), (6, tsl c t), (7, it m), (8, it i)]) (.exit 0) ([(3, it n), (6, tsl c t), (7, it m), (8, it i), (9, bb (decide (i < m)))]) :=
 ev h12 [.c, .b false] (allp g0 zqa)
theorem or0_0 (a b : Int) (g0 : (a != (0 : Int)) = true) : Tri Try.prog (cxN 18 0) (zqc Try.f48 0) ([(3, it 0), (6, .sl .any 3 (some 2) [it a, it b]), (7, it 2), (8, it 0)]) .ret ([(2, it a)]) :=
 ev h48 [.c, .c, .c, .c, .c, .c, .c, .c, .c, .c, .b true, .c, .c] (allp g0 zqa)
theorem or0_1 (a b : Int) (g0 : (a != (0 : Int)) = false) : Tri Try.prog (cxN 18 0) (zqc Try.f48 0) ([(3, it 0), (6, .sl .any 3 (some 2) [it a, it b]), (7, it 2), (8, it 0)]) .normal ([(3, it 0), (6, AV.sl .any 3 (some 2) [it a, it b]), (7, it 2), (8, it (i64.wrap ((0 : Int) + (1 : Int))))]) :=
 ev h48 [.c, .c, .c, .c, .c, .c, .c, .c, .c, .c, .b false, .c, .c] (allp g0 zqa)
theorem or1_0 (a b : Int) (g0 : (b != (0 : Int)) = true) : Tri Try.prog (cxN 18 0) (zqc Try.f48 0) ([(3, it 0), (6, .sl .any 3 (some 2) [it a, it b]), (7, it 2), (8, it 1)]) .ret ([(2, it b)]) :=
 ev h48 [.c, .c, .c, .c, .c, .c, .c, .c, .c, .c, .b true, .c, .c] (allp g0 zqa)
theorem or1_1 (a b : Int) (g0 : (b != (0 : Int)) = false) : Tri Try.prog (cxN 18 0) (zqc Try.f48 0) ([(3, it 0), (6, .sl .any 3 (some 2) [it a, it b]), (7, it 2), (8, it 1)]) .normal ([(3, it 0), (6, AV.sl .any 3 (some 2) [it a, it b]), (7, it 2), (8, it (i64.wrap ((1 : Int) + (1 : Int))))]) :=
 ev h48 [.c, .c, .c, .c, .c, .c, .c, .c, .c, .c, .b false, .c, .c] (allp g0 zqa)
theorem or2_0 (a b : Int) : Tri Try.prog (cxN 18 0) (zqc Try.f48 0) ([(3, it 0), (6, .sl .any 3 (some 2) [it a, it b]), (7, it 2), (8, it 2)]) (.exit 0) ([(3, it 0), (6, AV.sl .any 3 (some 2) [it a, it b]), (7, it 2), (8, it 2), (9, bb (decide ((2 : Int) < (2 : Int))))]) :=
 ev h48 [.c, .c] zqa
theorem has_0 (c : Option Nat) (t : List Rw) (y n : Int) (g0 : decide ((1 : Int) ≤ i64.wrap y) = true) (g1 : decide (i64.wrap y ≤ ((t.map Rw.enc).length : Int)) = true) (g2 : decide (0 ≤ n) = true) (g3 : decide (0 ≤ i64.wrap (i64.wrap y - (1 : Int)) ∧ i64.wrap (i64.wrap y - (1 : Int)) < ((t.map Rw.enc).length : Int)) = true) (g4 : (t.map Rw.enc).getD ((i64.wrap (i64.wrap y - (1 : Int))).toNat) AV.bad = Rw.enc (t.getD ((i64.wrap (i64.wrap y - (1 : Int))).toNat) default)) : PureC Try.prog 28 [tsl c t, idE y n]  (bb (decide (n < (↑(List.length (List.map Lp.enc (Rw.l (t.getD ((i64.wrap (i64.wrap y - (1 : Int))).toNat) default)))) : Int)))) :=
 zqj (H := h28) (n := 33) (ans := [.c, .c, .c, .c, .c, .c, .c, .c, .c, .c, .c, .b true, .c, .b true, .c, .b true, .c, .b true, .c, .b true, .c, .c, .b true, .c, .b true, .c, .c, .c, .b true, .c, .b true, .c, .c, .b true, .c, .b true, .c, .c, .c, .b true, .c, .b true, .c, .b true, .c, .b true, .b true, .r (Rw.enc (t.getD ((i64.wrap (i64.wrap y - (1 : Int))).toNat) default)), .c, .b true, .c, .b true, .c, .b true, .c, .b true, .c, .c]) (base 33 0) Try.func28 rfl (by simp) rfl (by kernel_rfl) (allp g0 (allp g0 (allp g0 (allp g0 (allp g0 (allp g1 (allp g1 (allp g1 (allp g1 (allp g2 (allp g2 (allp g2 (allp g2 (allp g2 (allp g2 (allp g3 (allp g4 (allp g2 (allp g2 (allp g2 (allp g2 zqa)))))))))))))))))))))
theorem has_1 (c : Option Nat) (t : List Rw) (y n : Int) (g0 : decide ((1 : Int) ≤ i64.wrap y) = true) (g1 : decide (i64.wrap y ≤ ((t.map Rw.enc).length : Int)) = true) (g2 : decide (0 ≤ n) = false) : PureC Try.prog 28 [tsl c t, idE y n]  (bb false) :=
 zqj (H := h28) (n := 33) (ans := [.c, .c, .c, .c, .c, .c, .c, .c, .c, .c, .c, .b true, .c, .b true, .c, .b true, .c, .b true, .c, .b true, .c, .c, .b true, .c, .b true, .c, .c, .c, .b true, .c, .b true, .c, .c, .b false, .c, .b false, .c, .b false, .c, .b false, .c, .b false, .c, .b false, .c, .b false, .c, .b false, .c, .b false, .c, .b false, .c, .c]) (base 33 0) Try.func28 rfl (by simp) rfl (by kernel_rfl) (allp g0 (allp g0 (allp g0 (allp g0 (allp g0 (allp g1 (allp g1 (allp g1 (allp g1 (allp g2 (allp g2 (allp g2 (allp g2 (allp g2 (allp g2 (allp g2 (allp g2 (allp g2 (allp g2 zqa)))))))))))))))))))
theorem has_2 (c : Option Nat) (t : List Rw) (y n : Int) (g0 : decide ((1 : Int) ≤ i64.wrap y) = true) (g1 : decide (i64.wrap y ≤ ((t.map Rw.enc).length : Int)) = false) : PureC Try.prog 28 [tsl c t, idE y n]  (bb false) :=
 zqj (H := h28) (n := 33) (ans := [.c, .c, .c, .c, .c, .c, .c, .c, .c, .c, .c, .b true, .c, .b true, .c, .b true, .c, .b true, .c, .b true, .c, .c, .b false, .c, .b false, .c, .b false, .c, .b false, .c, .c, .c, .c, .c, .c, .c, .c, .c, .c, .c, .c, .c, .c, .c, .c, .c, .c, .c, .c, .c, .c, .c]) (base 33 0) Try.func28 rfl (by simp) rfl (by kernel_rfl) (allp g0 (allp g0 (allp g0 (allp g0 (allp g0 (allp g1 (allp g1 (allp g1 (allp g1 zqa)))))))))
theorem has_3 (c : Option Nat) (t : List Rw) (y n : Int) (g0 : decide ((1 : Int) ≤ i64.wrap y) = false) : PureC Try.prog 28 [tsl c t, idE y n]  (bb false) :=
 zqj (H := h28) (n := 33) (ans := [.c, .c, .c, .c, .c, .c, .c, .c, .c, .c, .c, .b false, .c, .b false, .c, .b false, .c, .b false, .c, .b false, .c, .c, .c, .c, .c, .c, .c, .c, .c, .c, .c, .c, .c, .c, .c, .c, .c, .c, .c, .c, .c, .c, .c, .c, .c, .c, .c, .c, .c, .c, .c, .c]) (base 33 0) Try.func28 rfl (by simp) rfl (by kernel_rfl) (allp g0 (allp g0 (allp g0 (allp g0 (allp g0 zqa)))))
theorem yzl (c : Option Nat) (l : List Idd) (g0 : (((l.map Idd.enc).length : Int) == (0 : Int)) = true) : PureC Try.prog 41 [isl c l]  zqw :=
 zqj (H := h41) (n := 14) (ans := [.c, .c, .c, .c, .b true, .c]) (base 14 0) Try.func41 rfl (by simp) rfl (by kernel_rfl) (allp g0 zqa)
theorem yzk (c : Option Nat) (l : List Idd) (g0 : (((l.map Idd.enc).length : Int) == (0 : Int)) = false) (g1 : decide (0 ≤ ((l.map Idd.enc).length : Int) ∧ ((l.map Idd.enc).length : Int) ≤ ((l.map Idd.enc).length : Int) ∧ ((l.map Idd.enc).length : Int) ≤ (4294967296 : Int) ∧ TInfo.bytes { zero := [Value.int u8 (0 : Int), Value.int i64 (0 : Int)], bytes := (16 : Nat), agg := true, kind := TK.struct [((0 : Nat), (1 : Nat)), ((1 : Nat), (1 : Nat))] } ≤ (4096 : Nat) ∧ (0 : Nat) < List.length (TInfo.zero { zero := [Value.int u8 (0 : Int), Value.int i64 (0 : Int)], bytes := (16 : Nat), agg := true, kind := TK.struct [((0 : Nat), (1 : Nat)), ((1 : Nat), (1 : Nat))] })) = true) (g2 : AV.sl .own 36 (some (((l.map Idd.enc).length : Int).toNat)) (List.replicate (((l.map Idd.enc).length : Int).toNat) (ya6 { zero := [Value.int u8 (0 : Int), Value.int i64 (0 : Int)], bytes := (16 : Nat), agg := true, kind := TK.struct [((0 : Nat), (1 : Nat)), ((1 : Nat), (1 : Nat))] })) = iow (some (((l.map Idd.enc).length : Int).toNat)) (List.replicate (((l.map Idd.enc).length : Int).toNat) { y := (0 : Int), n := (0 : Int) })) (g3 : decide ((List.all (List.map Idd.enc l) fun y => List.all (AV.ecells y) zqt) = true ∧ (List.all (List.map Idd.enc l) fun y => decide ((AV.ecells y).length = List.length (TInfo.zero { zero := [Value.int u8 (0 : Int), Value.int i64 (0 : Int)], bytes := (16 : Nat), agg := true, kind := TK.struct [((0 : Nat), (1 : Nat)), ((1 : Nat), (1 : Nat))] }))) = true) = true) (g4 : decide (36 = (36 : TypeId) ∧ (List.all (List.map Idd.enc (List.replicate (((l.map Idd.enc).length : Int).toNat) { y := (0 : Int), n := (0 : Int) })) fun x => List.all (AV.ecells x) zqt) = true) = true) (g5 : AV.sl .own 36 (some (((l.map Idd.enc).length : Int).toNat)) (List.take (List.length (List.map Idd.enc (List.replicate (((l.map Idd.enc).length : Int).toNat) { y := (0 : Int), n := (0 : Int) }))) (List.map Idd.enc l) ++ List.drop ((l.map Idd.enc).length) (List.map Idd.enc (List.replicate (((l.map Idd.enc).length : Int).toNat) { y := (0 : Int), n := (0 : Int) }))) = iow (some (((l.map Idd.enc).length : Int).toNat)) (List.take (List.length (List.map Idd.enc (List.replicate (((l.map Idd.enc).length : Int).toNat) { y := (0 : Int), n := (0 : Int) }))) l ++ List.drop ((l.map Idd.enc).length) (List.replicate (((l.map Idd.enc).length : Int).toNat) { y := (0 : Int), n := (0 : Int) }))) : PureC Try.prog 41 [isl c l]  (iow (some (((l.map Idd.enc).length : Int).toNat)) (List.take (List.length (List.map Idd.enc (List.replicate (((l.map Idd.enc).length : Int).toNat) { y := (0 : Int), n := (0 : Int) }))) l ++ List.drop ((l.map Idd.enc).length) (List.replicate (((l.map Idd.enc).length : Int).toNat) { y := (0 : Int), n := (0 : Int) }))) :=
 zqj (H := h41) (n := 14) (ans := [.c, .c, .c, .c, .b false, .c, .c, .b true, .r (iow (some (((l.map Idd.enc).length : Int).toNat)) (List.replicate (((l.map Idd.enc).length : Int).toNat) { y := (0 : Int), n := (0 : Int) })), .c, .c, .c, .b true, .b true, .r (iow (some (((l.map Idd.enc).length : Int).toNat)) (List.take (List.length (List.map Idd.enc (List.replicate (((l.map Idd.enc).length : Int).toNat) { y := (0 : Int), n := (0 : Int) }))) l ++ List.drop ((l.map Idd.enc).length) (List.replicate (((l.map Idd.enc).length : Int).toNat) { y := (0 : Int), n := (0 : Int) }))), .c, .c, .c]) (base 14 0) Try.func41 rfl (by simp) rfl (by kernel_rfl) (allp g0 (allp g1 (allp g2 (allp g3 (allp g4 (allp g5 zqa))))))
theorem yzj (c : Option Nat) (l : List Ps) (g0 : (((l.map Ps.enc).length : Int) == (0 : Int)) = true) : PureC Try.prog 42 [sl c l]  zqw :=
 zqj (H := h42) (n := 14) (ans := [.c, .c, .c, .c, .b true, .c]) (base 14 0) Try.func42 rfl (by simp) rfl (by kernel_rfl) (allp g0 zqa)
theorem yzi (c : Option Nat) (l : List Ps) (g0 : (((l.map Ps.enc).length : Int) == (0 : Int)) = false) (g1 : decide (0 ≤ ((l.map Ps.enc).length : Int) ∧ ((l.map Ps.enc).length : Int) ≤ ((l.map Ps.enc).length : Int) ∧ ((l.map Ps.enc).length : Int) ≤ (4294967296 : Int) ∧ TInfo.bytes { zero := [Value.int u8 (0 : Int), Value.int i64 (0 : Int), Value.bool false, Value.int u8 (0 : Int)], bytes := (24 : Nat), agg := true, kind := TK.struct [((0 : Nat), (2 : Nat)), ((2 : Nat), (1 : Nat)), ((3 : Nat), (1 : Nat))] } ≤ (4096 : Nat) ∧ (0 : Nat) < List.length (TInfo.zero { zero := [Value.int u8 (0 : Int), Value.int i64 (0 : Int), Value.bool false, Value.int u8 (0 : Int)], bytes := (24 : Nat), agg := true, kind := TK.struct [((0 : Nat), (2 : Nat)), ((2 : Nat), (1 : Nat)), ((3 : Nat), (1 : Nat))] })) = true) (g2 : AV.sl .own 56 (some (((l.map Ps.enc).length : Int).toNat)) (List.replicate (((l.map Ps.enc).length : Int).toNat) (ya6 { zero := [Value.int u8 (0 : Int), Value.int i64 (0 : Int), Value.bool false, Value.int u8 (0 : Int)], bytes := (24 : Nat), agg := true, kind := TK.struct [((0 : Nat), (2 : Nat)), ((2 : Nat), (1 : Nat)), ((3 : Nat), (1 : Nat))] })) = AV.sl .own 56 (some (((l.map Ps.enc).length : Int).toNat)) (List.map Ps.enc (List.replicate (((l.map Ps.enc).length : Int).toNat) { y := (0 : Int), n := (0 : Int), f := false, d := (0 : Int) }))) (g3 : decide ((List.all (List.map Ps.enc l) fun y => List.all (AV.ecells y) zqt) = true ∧ (List.all (List.map Ps.enc l) fun y => decide ((AV.ecells y).length = List.length (TInfo.zero { zero := [Value.int u8 (0 : Int), Value.int i64 (0 : Int), Value.bool false, Value.int u8 (0 : Int)], bytes := (24 : Nat), agg := true, kind := TK.struct [((0 : Nat), (2 : Nat)), ((2 : Nat), (1 : Nat)), ((3 : Nat), (1 : Nat))] }))) = true) = true) (g4 : decide (56 = (56 : TypeId) ∧ (List.all (List.map Ps.enc (List.replicate (((l.map Ps.enc).length : Int).toNat) { y := (0 : Int), n := (0 : Int), f := false, d := (0 : Int) })) fun x => List.all (AV.ecells x) zqt) = true) = true) (g5 : AV.sl .own 56 (some (((l.map Ps.enc).length : Int).toNat)) (List.take (List.length (List.map Ps.enc (List.replicate (((l.map Ps.enc).length : Int).toNat) { y := (0 : Int), n := (0 : Int), f := false, d := (0 : Int) }))) (List.map Ps.enc l) ++ List.drop ((l.map Ps.enc).length) (List.map Ps.enc (List.replicate (((l.map Ps.enc).length : Int).toNat) { y := (0 : Int), n := (0 : Int), f := false, d := (0 : Int) }))) = AV.sl .own 56 (some (((l.map Ps.enc).length : Int).toNat)) (List.map Ps.enc (List.take (List.length (List.map Ps.enc (List.replicate (((l.map Ps.enc).length : Int).toNat) { y := (0 : Int), n := (0 : Int), f := false, d := (0 : Int) }))) l ++ List.drop ((l.map Ps.enc).length) (List.replicate (((l.map Ps.enc).length : Int).toNat) { y := (0 : Int), n := (0 : Int), f := false, d := (0 : Int) })))) : PureC Try.prog 42 [sl c l]  (AV.sl .own 56 (some (((l.map Ps.enc).length : Int).toNat)) (List.map Ps.enc (List.take (List.length (List.map Ps.enc (List.replicate (((l.map Ps.enc).length : Int).toNat) { y := (0 : Int), n := (0 : Int), f := false, d := (0 : Int) }))) l ++ List.drop ((l.map Ps.enc).length) (List.replicate (((l.map Ps.enc).length : Int).toNat) { y := (0 : Int), n := (0 : Int), f := false, d := (0 : Int) })))) :=
 zqj (H := h42) (n := 14) (ans := [.c, .c, .c, .c, .b false, .c, .c, .b true, .r (AV.sl .own 56 (some (((l.map Ps.enc).length : Int).toNat)) (List.map Ps.enc (List.replicate (((l.map Ps.enc).length : Int).toNat) { y := (0 : Int), n := (0 : Int), f := false, d := (0 : Int) }))), .c, .c, .c, .b true, .b true, .r (AV.sl .own 56 (some (((l.map Ps.enc).length : Int).toNat)) (List.map Ps.enc (List.take (List.length (List.map Ps.enc (List.replicate (((l.map Ps.enc).length : Int).toNat) { y := (0 : Int), n := (0 : Int), f := false, d := (0 : Int) }))) l ++ List.drop ((l.map Ps.enc).length) (List.replicate (((l.map Ps.enc).length : Int).toNat) { y := (0 : Int), n := (0 : Int), f := false, d := (0 : Int) })))), .c, .c, .c]) (base 14 0) Try.func42 rfl (by simp) rfl (by kernel_rfl) (allp g0 (allp g1 (allp g2 (allp g3 (allp g4 (allp g5 zqa))))))
theorem yt7 (c : Option Nat) (l : List Ps) (g0 : (((l.map Ps.enc).length : Int) == (0 : Int)) = true) : PureC Try.prog 74 [sl c l]  zqw :=
 zqj (H := h74) (n := 14) (ans := [.c, .c, .c, .c, .b true, .c]) (base 14 0) Try.func74 rfl (by simp) rfl (by kernel_rfl) (allp g0 zqa)
theorem yt6 (c : Option Nat) (l : List Ps) (g0 : (((l.map Ps.enc).length : Int) == (0 : Int)) = false) (g1 : decide (0 ≤ ((l.map Ps.enc).length : Int) ∧ ((l.map Ps.enc).length : Int) ≤ ((l.map Ps.enc).length : Int) ∧ ((l.map Ps.enc).length : Int) ≤ (4294967296 : Int) ∧ TInfo.bytes { zero := [Value.int u8 (0 : Int), Value.int i64 (0 : Int), Value.bool false, Value.int u8 (0 : Int)], bytes := (24 : Nat), agg := true, kind := TK.struct [((0 : Nat), (2 : Nat)), ((2 : Nat), (1 : Nat)), ((3 : Nat), (1 : Nat))] } ≤ (4096 : Nat) ∧ (0 : Nat) < List.length (TInfo.zero { zero := [Value.int u8 (0 : Int), Value.int i64 (0 : Int), Value.bool false, Value.int u8 (0 : Int)], bytes := (24 : Nat), agg := true, kind := TK.struct [((0 : Nat), (2 : Nat)), ((2 : Nat), (1 : Nat)), ((3 : Nat), (1 : Nat))] })) = true) (g2 : AV.sl .own 56 (some (((l.map Ps.enc).length : Int).toNat)) (List.replicate (((l.map Ps.enc).length : Int).toNat) (ya6 { zero := [Value.int u8 (0 : Int), Value.int i64 (0 : Int), Value.bool false, Value.int u8 (0 : Int)], bytes := (24 : Nat), agg := true, kind := TK.struct [((0 : Nat), (2 : Nat)), ((2 : Nat), (1 : Nat)), ((3 : Nat), (1 : Nat))] })) = AV.sl .own 56 (some (((l.map Ps.enc).length : Int).toNat)) (List.map Ps.enc (List.replicate (((l.map Ps.enc).length : Int).toNat) { y := (0 : Int), n := (0 : Int), f := false, d := (0 : Int) }))) (g3 : decide ((List.all (List.map Ps.enc l) fun y => List.all (AV.ecells y) zqt) = true ∧ (List.all (List.map Ps.enc l) fun y => decide ((AV.ecells y).length = List.length (TInfo.zero { zero := [Value.int u8 (0 : Int), Value.int i64 (0 : Int), Value.bool false, Value.int u8 (0 : Int)], bytes := (24 : Nat), agg := true, kind := TK.struct [((0 : Nat), (2 : Nat)), ((2 : Nat), (1 : Nat)), ((3 : Nat), (1 : Nat))] }))) = true) = true) (g4 : decide (56 = (56 : TypeId) ∧ (List.all (List.map Ps.enc (List.replicate (((l.map Ps.enc).length : Int).toNat) { y := (0 : Int), n := (0 : Int), f := false, d := (0 : Int) })) fun x => List.all (AV.ecells x) zqt) = true) = true) (g5 : AV.sl .own 56 (some (((l.map Ps.enc).length : Int).toNat)) (List.take (List.length (List.map Ps.enc (List.replicate (((l.map Ps.enc).length : Int).toNat) { y := (0 : Int), n := (0 : Int), f := false, d := (0 : Int) }))) (List.map Ps.enc l) ++ List.drop ((l.map Ps.enc).length) (List.map Ps.enc (List.replicate (((l.map Ps.enc).length : Int).toNat) { y := (0 : Int), n := (0 : Int), f := false, d := (0 : Int) }))) = AV.sl .own 56 (some (((l.map Ps.enc).length : Int).toNat)) (List.map Ps.enc (List.take (List.length (List.map Ps.enc (List.replicate (((l.map Ps.enc).length : Int).toNat) { y := (0 : Int), n := (0 : Int), f := false, d := (0 : Int) }))) l ++ List.drop ((l.map Ps.enc).length) (List.replicate (((l.map Ps.enc).length : Int).toNat) { y := (0 : Int), n := (0 : Int), f := false, d := (0 : Int) })))) : PureC Try.prog 74 [sl c l]  (AV.sl .own 56 (some (((l.map Ps.enc).length : Int).toNat)) (List.map Ps.enc (List.take (List.length (List.map Ps.enc (List.replicate (((l.map Ps.enc).length : Int).toNat) { y := (0 : Int), n := (0 : Int), f := false, d := (0 : Int) }))) l ++ List.drop ((l.map Ps.enc).length) (List.replicate (((l.map Ps.enc).length : Int).toNat) { y := (0 : Int), n := (0 : Int), f := false, d := (0 : Int) })))) :=
 zqj (H := h74) (n := 14) (ans := [.c, .c, .c, .c, .b false, .c, .c, .b true, .r (AV.sl .own 56 (some (((l.map Ps.enc).length : Int).toNat)) (List.map Ps.enc (List.replicate (((l.map Ps.enc).length : Int).toNat) { y := (0 : Int), n := (0 : Int), f := false, d := (0 : Int) }))), .c, .c, .c, .b true, .b true, .r (AV.sl .own 56 (some (((l.map Ps.enc).length : Int).toNat)) (List.map Ps.enc (List.take (List.length (List.map Ps.enc (List.replicate (((l.map Ps.enc).length : Int).toNat) { y := (0 : Int), n := (0 : Int), f := false, d := (0 : Int) }))) l ++ List.drop ((l.map Ps.enc).length) (List.replicate (((l.map Ps.enc).length : Int).toNat) { y := (0 : Int), n := (0 : Int), f := false, d := (0 : Int) })))), .c, .c, .c]) (base 14 0) Try.func74 rfl (by simp) rfl (by kernel_rfl) (allp g0 (allp g1 (allp g2 (allp g3 (allp g4 (allp g5 zqa))))))
theorem ytl (c : Option Nat) (l : List Ps) (m i : Int) (g0 : decide (i < m) = true) (g1 : decide (0 ≤ i ∧ i < ((l.map Ps.enc).length : Int)) = true) (g2 : (l.map Ps.enc).getD i.toNat AV.bad = Ps.enc (l.getD i.toNat default)) (g3 : (Ps.d (l.getD i.toNat default) != (0 : Int)) = true) (g4 : (Ps.d (l.getD i.toNat default) != (1 : Int)) = true) : Tri Try.prog (cxN 29 0) (zqc Try.f53 0) ([(0, sl c l), (8, sl c l), (9, it m), (10, it i)]) .ret ([(2, bb false)]) :=
 ev h53 [.c, .b true, .b true, .r (Ps.enc (l.getD i.toNat default)), .c, .c, .c, .c, .c, .c, .c, .c, .c, .c, .b true, .c, .b true, .c, .c, .c, .b true, .c, .b true, .c, .b true, .c] (allp g0 (allp g1 (allp g2 (allp g3 (allp g3 (allp g3 (allp g3 (allp g4 zqa))))))))
theorem ytk (c : Option Nat) (l : List Ps) (m i : Int) (g0 : decide (i < m) = true) (g1 : decide (0 ≤ i ∧ i < ((l.map Ps.enc).length : Int)) = true) (g2 : (l.map Ps.enc).getD i.toNat AV.bad = Ps.enc (l.getD i.toNat default)) (g3 : (Ps.d (l.getD i.toNat default) != (0 : Int)) = true) (g4 : (Ps.d (l.getD i.toNat default) != (1 : Int)) = false) : Tri Try.prog (cxN 29 0) (zqc Try.f53 0) ([(0, sl c l), (8, sl c l), (9, it m), (10, it i)]) .normal ([(0, sl c l), (8, sl c l), (9, it m), (10, it (i64.wrap (i + (1 : Int))))]) :=
 ev h53 [.c, .b true, .b true, .r (Ps.enc (l.getD i.toNat default)), .c, .c, .c, .c, .c, .c, .c, .c, .c, .c, .b true, .c, .b true, .c, .c, .c, .b true, .c, .b true, .c, .b false, .c, .c] (allp g0 (allp g1 (allp g2 (allp g3 (allp g3 (allp g3 (allp g3 (allp g4 zqa))))))))
theorem ytj (c : Option Nat) (l : List Ps) (m i : Int) (g0 : decide (i < m) = true) (g1 : decide (0 ≤ i ∧ i < ((l.map Ps.enc).length : Int)) = true) (g2 : (l.map Ps.enc).getD i.toNat AV.bad = Ps.enc (l.getD i.toNat default)) (g3 : (Ps.d (l.getD i.toNat default) != (0 : Int)) = false) : Tri Try.prog (cxN 29 0) (zqc Try.f53 0) ([(0, sl c l), (8, sl c l), (9, it m), (10, it i)]) .normal ([(0, sl c l), (8, sl c l), (9, it m), (10, it (i64.wrap (i + (1 : Int))))]) :=
 ev h53 [.c, .b true, .b true, .r (Ps.enc (l.getD i.toNat default)), .c, .c, .c, .c, .c, .c, .c, .c, .c, .c, .b false, .c, .b false, .c, .b false, .c, .b false, .c, .c, .c, .c] (allp g0 (allp g1 (allp g2 (allp g3 (allp g3 (allp g3 (allp g3 zqa)))))))
theorem yti (c : Option Nat) (l : List Ps) (m i : Int) (g0 : decide (i < m) = false) : Tri Try.prog (cxN 29 0) (zqc Try.f53 0) ([(0, sl c l), (8, sl c l), (9, it m), (10, it i)]) (.exit 0) ([(0, sl c l), (8, sl c l), (9, it m), (10, it i), (11, bb (decide (i < m)))]) :=
 ev h53 [.c, .b false] (allp g0 zqa)
theorem yx9 (c : Option Nat) (l : List Idd) (p : Idd) (m i : Int) (g0 : decide (i < m) = true) (g1 : decide (0 ≤ i ∧ i < ((l.map Idd.enc).length : Int)) = true) (g2 : (l.map Idd.enc).getD i.toNat AV.bad = Idd.enc (l.getD i.toNat default)) (g3 : (Idd.y p == Idd.y (l.getD i.toNat default) && Idd.n p == Idd.n (l.getD i.toNat default)) = true) : Tri Try.prog (cxN 19 0) (zqc Try.f52 0) ([(0, isl c l), (3, .box [ub p.y, it p.n]), (7, it m), (8, it i)]) .ret ([(4, it i)]) :=
 ev h52 [.c, .b true, .c, .c, .c, .c, .c, .b true, .r (Idd.enc (l.getD i.toNat default)), .c, .c, .c, .b true, .c, .c] (allp g0 (allp g1 (allp g2 (allp g3 zqa))))
theorem yrr (c : Option Nat) (l : List Idd) (p : Idd) (m i : Int) (g0 : decide (i < m) = true) (g1 : decide (0 ≤ i ∧ i < ((l.map Idd.enc).length : Int)) = true) (g2 : (l.map Idd.enc).getD i.toNat AV.bad = Idd.enc (l.getD i.toNat default)) (g3 : (Idd.y p == Idd.y (l.getD i.toNat default) && Idd.n p == Idd.n (l.getD i.toNat default)) = false) : Tri Try.prog (cxN 19 0) (zqc Try.f52 0) ([(0, isl c l), (3, .box [ub p.y, it p.n]), (7, it m), (8, it i)]) .normal ([(0, isl c l), (3, AV.box [ub (Idd.y p), it (Idd.n p)]), (7, it m), (8, it (i64.wrap (i + (1 : Int))))]) :=
 ev h52 [.c, .b true, .c, .c, .c, .c, .c, .b true, .r (Idd.enc (l.getD i.toNat default)), .c, .c, .c, .b false, .c, .c] (allp g0 (allp g1 (allp g2 (allp g3 zqa))))
theorem yx8 (c : Option Nat) (l : List Idd) (p : Idd) (m i : Int) (g0 : decide (i < m) = false) : Tri Try.prog (cxN 19 0) (zqc Try.f52 0) ([(0, isl c l), (3, .box [ub p.y, it p.n]), (7, it m), (8, it i)]) (.exit 0) ([(0, isl c l), (3, AV.box [ub (Idd.y p), it (Idd.n p)]), (7, it m), (8, it i), (9, bb (decide (i < m)))]) :=
 ev h52 [.c, .b false] (allp g0 zqa)
theorem yth (c : Option Nat) (l : List Idd) (s : ByteArray) (i : Int) (g0 : decide (i < ((l.map Idd.enc).length : Int)) = true) (g1 : decide (0 ≤ i ∧ i < ((l.map Idd.enc).length : Int)) = true) (g2 : (l.map Idd.enc).getD i.toNat AV.bad = Idd.enc (l.getD i.toNat default)) (g3 : decide (ByteArray.size s + ByteArray.size (yb9 [u8.wrap ((48 : Int) + Idd.y (l.getD i.toNat default)), (46 : Int), u8.wrap ((48 : Int) + u8.wrap (Int.tmod (Idd.n (l.getD i.toNat default)) (10 : Int))), (32 : Int)]) ≤ (1000000000000 : Nat)) = true) : Tri Try.prog (cxN 30 0) (zqc Try.f21 0) ([(0, isl c l), (3, .atom (.string s)), (4, it i)]) .normal ([(0, isl c l), (3, AV.atom (Value.string (s ++ yb9 [u8.wrap ((48 : Int) + Idd.y (l.getD i.toNat default)), (46 : Int), u8.wrap ((48 : Int) + u8.wrap (Int.tmod (Idd.n (l.getD i.toNat default)) (10 : Int))), (32 : Int)]))), (4, it (i64.wrap (i + (1 : Int))))]) :=
 ev h21 [.c, .c, .c, .c, .b true, .c, .c, .c, .b true, .r (Idd.enc (l.getD i.toNat default)), .c, .c, .c, .c, .c, .c, .b true, .r (Idd.enc (l.getD i.toNat default)), .c, .c, .c, .c, .c, .c, .c, .c, .b true, .c, .c, .c, .c, .c] (allp g0 (allp g1 (allp g2 (allp g1 (allp g2 (allp g3 zqa))))))
theorem ytg (c : Option Nat) (l : List Idd) (s : ByteArray) (i : Int) (g0 : decide (i < ((l.map Idd.enc).length : Int)) = false) : Tri Try.prog (cxN 30 0) (zqc Try.f21 0) ([(0, isl c l), (3, .atom (.string s)), (4, it i)]) (.exit 0) ([(0, isl c l), (3, AV.atom (Value.string s)), (4, it i), (8, bb (decide (i < ((l.map Idd.enc).length : Int))))]) :=
 ev h21 [.c, .c, .c, .c, .b false] (allp g0 zqa)
theorem yak {n : Int} (h1 : -9223372036854775808 ≤ n) (h2 : n ≤ 9223372036854775807) : i64.wrap n = n := by rw [IntKind.wrap_i64]; omega
theorem yjo {n : Int} (h1 : 0 ≤ n) (h2 : n ≤ 255) : u8.wrap n = n := by rw [IntKind.wrap_u8]; omega
theorem up64 {k : Nat} (h : k < 2 ^ 61) : IntKind.wrap i64 ((k : Int) + 1) = ((k + 1 : Nat) : Int) := by rw [yak (by omega) (by omega)]; omega
theorem yaj {l : List Idd} {i : Nat} (h : i < l.length) : (l.map Idd.enc).getD i .bad = Idd.enc (l.getD i default) := by
 simp [zld, h]
theorem yb8 {l : List Ps} {i : Nat} (h : i < l.length) : (l.map Ps.enc).getD i .bad = Ps.enc (l.getD i default) := by
 simp [zld, h]
theorem yc7 {l : List Lp} {i : Nat} (h : i < l.length) : (l.map Lp.enc).getD i .bad = Lp.enc (l.getD i default) := by
 simp [zld, h]
theorem ybb {l : List Rw} {i : Nat} (h : i < l.length) : (l.map Rw.enc).getD i .bad = Rw.enc (l.getD i default) := by
 simp [zld, h]
theorem ydr {α : Type} (l : List α) {k : Nat} (h : k < l.length) (d : α) : l.drop k = l.getD k d :: l.drop (k + 1) := by
 rw [List.drop_eq_getElem_cons h, zld, zle h]; rfl
theorem ytx (a b : Idd) : (a.y == b.y && a.n == b.n) = decide (a = b) := by
 cases a; cases b
 refine Bool.eq_iff_iff.2 ?_
 simp only [zlo, beq_iff_eq, decide_eq_true_eq, Idd.mk.injEq]
theorem yds (l : List Ps) : ((l.map Ps.enc).all fun y => y.ecells.all zqt) = true := by
 simp [zls, Ps.enc, AV.ecells, zqt, Value.oneCell']
theorem yk4 (l : List Ps) : ((l.map Ps.enc).all fun y => decide (y.ecells.length = 4)) = true := by
 simp [zls, Ps.enc, AV.ecells]
theorem yge (l : List Idd) : ((l.map Idd.enc).all fun y => y.ecells.all zqt) = true := by
 simp [zls, Idd.enc, AV.ecells, zqt, Value.oneCell']
theorem yq2 (l : List Idd) : ((l.map Idd.enc).all fun y => decide (y.ecells.length = 2)) = true := by
 simp [zls, Idd.enc, AV.ecells]
theorem yf1 (x : Int) : PureC Try.prog 65 [ub x] (bb false) := by
 have := yxl x
 simpa using this
theorem ydw (x : Int) : PureC Try.prog 66 [it x] (bb false) := by
 have := yta x
 simpa using this
theorem ymx (a b : Int) : Tri Try.prog (cxN 18 0) (.loop (zqc Try.f48 0)) [(3, it 0), (6, .sl .any 3 (some 2) [it a, it b]), (7, it 2), (8, it 0)] (if a ≠ 0 ∨ b ≠ 0 then .ret else .exit 0) (if a ≠ 0 ∨ b ≠ 0 then [(2, it (if a ≠ 0 then a else b))] else [(3, it 0)]) := by
 have w1 : IntKind.wrap i64 ((0 : Int) + 1) = 1 := by decide
 have w2 : IntKind.wrap i64 ((1 : Int) + 1) = 2 := by decide
 have h01 := or0_1 a b
 have h11 := or1_1 a b
 rw [w1] at h01
 rw [w2] at h11
 by_cases ha : a = 0
 ·by_cases hb : b = 0
  ·rw [if_neg (by simp [ha, hb]), if_neg (by simp [ha, hb])]
   exact Rnd.loop (Rnd.step (h01 (by simp [ha])) (Rnd.step (h11 (by simp [hb])) (Rnd.exit (n := 0) (Tri.after [(3, .keep)] (or2_0 a b)) (by simp))))
  ·rw [if_pos (.inr hb), if_pos (.inr hb), if_neg (by simp [ha])]
   exact Rnd.loop (Rnd.step (h01 (by simp [ha])) (Rnd.exit (n := 0) (or1_0 a b (by simpa using hb)) (by simp)))
 ·rw [if_pos (.inl ha), if_pos (.inl ha), if_pos ha]
  exact Rnd.loop (Rnd.exit (n := 0) (or0_0 a b (by simpa using ha)) (by simp))
def hasV (t : List Rw) (y n : Int) : Bool := decide (1 ≤ y) && decide (y ≤ t.length) && decide (0 ≤ n) && decide (n < (t.getD (y - 1).toNat default).l.length)
theorem yqe (c : Option Nat) (t : List Rw) (y n : Int) (h0 : 0 ≤ y) (h1 : y ≤ 255) : PureC Try.prog 28 [tsl c t, idE y n] (bb (hasV t y n)) := by
 have w : IntKind.wrap i64 y = y := yak (by omega) (by omega)
 have w2 : IntKind.wrap i64 (y - 1) = y - 1 := yak (by omega) (by omega)
 unfold hasV
 by_cases a1 : 1 ≤ y
 ·rw [zlb a1, Bool.true_and]
  by_cases a2 : y ≤ t.length
  ·rw [zlb a2, Bool.true_and]
   by_cases a3 : 0 ≤ n
   ·rw [zlb a3, Bool.true_and]
    have q := has_0 c t y n
    simp only [w, w2, zla] at q
    exact q (zlb a1) (zlb a2) (zlb a3) (zlb (by omega)) (ybb (by omega))
   ·rw [zlc a3, Bool.false_and]
    have q := has_1 c t y n
    simp only [w, zla] at q
    exact q (zlb a1) (zlb a2) (zlc a3)
  ·rw [zlc a2, Bool.false_and, Bool.false_and]
   have q := has_2 c t y n
   simp only [w, zla] at q
   exact q (zlb a1) (zlc a2)
 ·rw [zlc a1, Bool.false_and, Bool.false_and, Bool.false_and]
  have q := has_3 c t y n
  simp only [w] at q
  exact q (zlc a1)
theorem yry (c : Option Nat) (l : List Idd) (hA : l.length ≤ 4294967296) : PureC Try.prog 41 [isl c l] (iow (some l.length) l) := by
 by_cases h : l = []
 ·subst h
  exact (yzl c [] (by simp)).res (Le.nilOwn 36)
 ·have hz : List.replicate (Int.toNat ((l.map Idd.enc).length : Int)) (ya6 (TInfo.mk [.int .u8 0, .int .i64 0] 16 true (.struct [(0, 1), (1, 1)]))) = List.map Idd.enc (List.replicate (Int.toNat ((l.map Idd.enc).length : Int)) ⟨0, 0⟩) := by
   rw [List.map_replicate]; rfl
  have := yzk c l (by simpa using h) (by simp; omega) (by rw [hz]) (by simp only [decide_eq_true_eq]; exact ⟨yge l, yq2 l⟩) (by simp only [decide_eq_true_eq]; exact ⟨trivial, yge _⟩)
   (by simp [zlm])
  simpa using this
theorem yrx (c : Option Nat) (l : List Ps) (hA : l.length ≤ 4294967296) : PureC Try.prog 42 [sl c l] (ow (some l.length) l) := by
 by_cases h : l = []
 ·subst h
  exact (yzj c [] (by simp)).res (Le.nilOwn 56)
 ·have hz : List.replicate (Int.toNat ((l.map Ps.enc).length : Int)) (ya6 (TInfo.mk [.int .u8 0, .int .i64 0, .bool false, .int .u8 0] 24 true (.struct [(0, 2), (2, 1), (3, 1)]))) = List.map Ps.enc (List.replicate (Int.toNat ((l.map Ps.enc).length : Int)) ⟨0, 0, false, 0⟩) := by
   rw [List.map_replicate]; rfl
  have := yzi c l (by simpa using h) (by simp; omega) (by rw [hz]) (by simp only [decide_eq_true_eq]; exact ⟨yds l, yk4 l⟩) (by simp only [decide_eq_true_eq]; exact ⟨trivial, yds _⟩)
   (by simp [zlm])
  simpa [ow] using this
theorem yn3 (c : Option Nat) (l : List Ps) (hA : l.length ≤ 4294967296) : PureC Try.prog 74 [sl c l] (ow (some l.length) l) := by
 by_cases h : l = []
 ·subst h
  exact (yt7 c [] (by simp)).res (Le.nilOwn 56)
 ·have hz : List.replicate (Int.toNat ((l.map Ps.enc).length : Int)) (ya6 (TInfo.mk [.int .u8 0, .int .i64 0, .bool false, .int .u8 0] 24 true (.struct [(0, 2), (2, 1), (3, 1)]))) = List.map Ps.enc (List.replicate (Int.toNat ((l.map Ps.enc).length : Int)) ⟨0, 0, false, 0⟩) := by
   rw [List.map_replicate]; rfl
  have := yt6 c l (by simpa using h) (by simp; omega) (by rw [hz]) (by simp only [decide_eq_true_eq]; exact ⟨yds l, yk4 l⟩) (by simp only [decide_eq_true_eq]; exact ⟨trivial, yds _⟩)
   (by simp [zlm])
  simpa [ow] using this
def cntV (t : List Rw) : Nat := (t.map fun r => r.l.length).sum
theorem yul (c : Option Nat) (t : List Rw) (hc : cntV t < 2 ^ 62) (ht : t.length < 2 ^ 60) : ∀ (k i n : Nat), i + k = t.length → n + cntV (t.drop i) < 2 ^ 62 →
  Rnd Try.prog (cxN 18 0) (zqc Try.f12 0) (k + 1) [(3, it n), (6, tsl c t), (7, it (((t.map Rw.enc).length : Nat) : Int)), (8, it i)] (.exit 0) [(3, it ((n + cntV (t.drop i) : Nat) : Int))] := by
 intro k
 induction k with
 | zero =>
  intro i n hi hn
  rw [zln (by omega)]
  exact Rnd.exit (Tri.after [(3, .keep)] (yp6 c t n _ i (zlc (by rw [zla]; omega)))) (by simp)
 | succ k ih =>
  intro i n hi hn
  have hil : i < t.length := by omega
  have e := ydr t hil default
  have e2 : cntV (t.drop i) = (t.getD i default).l.length + cntV (t.drop (i + 1)) := by rw [e]; unfold cntV; rw [List.map_cons, List.sum_cons]
  have u := up64 (k := i) (by omega)
  have q := yp7 c t n (((t.map Rw.enc).length : Nat) : Int) i
  simp only [zlf, u] at q
  have w : IntKind.wrap i64 ((n : Int) + ((((t.getD i default).l.map Lp.enc).length : Nat) : Int)) = ((n + (t.getD i default).l.length : Nat) : Int) := by
   rw [zla, yak (by omega) (by omega)]; omega
  rw [w] at q
  rw [e2, ← Nat.add_assoc]
  exact Rnd.step (q (zlb (by rw [zla]; omega)) (zlb (by rw [zla]; omega)) (ybb hil)) (ih (i + 1) (n + (t.getD i default).l.length) (by omega) (by omega))
theorem yks (c : Option Nat) (t : List Rw) (hc : cntV t < 2 ^ 62) (ht : t.length < 2 ^ 60) : Tri Try.prog (cxN 18 0) (.loop (zqc Try.f12 0)) [(3, it 0), (6, tsl c t), (7, it (((t.map Rw.enc).length : Nat) : Int)), (8, it 0)] (.exit 0) [(3, it ((cntV t : Nat) : Int))] := by
 have := Rnd.loop (yul c t hc ht t.length 0 0 (by omega) (by simpa using hc))
 rwa [List.drop_zero, Nat.zero_add] at this
def txB (p : Idd) : ByteArray := yb9 [IntKind.wrap u8 ((48 : Int) + p.y), (46 : Int), IntKind.wrap u8 ((48 : Int) + IntKind.wrap u8 (Int.tmod p.n (10 : Int))), (32 : Int)]
def txV : List Idd → ByteArray → ByteArray
 | [], s => s
 | p :: l, s => txV l (s ++ txB p)
theorem ypb (p : Idd) : (txB p).size = 4 := by
 unfold txB yb9
 simp only [List.foldl_cons, List.foldl_nil]
 rfl
theorem yv6 (c : Option Nat) (l : List Idd) (hl : l.length ≤ 100000) : ∀ (k i : Nat) (s : ByteArray), i + k = l.length → s.size ≤ 4 * i →
  Rnd Try.prog (cxN 30 0) (zqc Try.f21 0) (k + 1) [(0, isl c l), (3, .atom (.string s)), (4, it i)] (.exit 0) [(3, .atom (.string (txV (l.drop i) s)))] := by
 intro k
 induction k with
 | zero =>
  intro i s hi hs
  rw [zln (by omega)]
  exact Rnd.exit (Tri.after [(3, .keep)] (ytg c l s i (zlc (by rw [zla]; omega)))) (by simp)
 | succ k ih =>
  intro i s hi hs
  have hil : i < l.length := by omega
  have u := up64 (k := i) (by omega)
  rw [ydr l hil default, txV]
  have hz := ypb (l.getD i default)
  have q := yth c l s i
  simp only [zlf, u] at q
  refine Rnd.step (q (zlb (by rw [zla]; omega)) (zlb (by rw [zla]; omega)) (yaj hil) (zlb ?_)) (ih (i + 1) (s ++ txB (l.getD i default)) (by omega) ?_)
  ·show s.size + (txB (l.getD i default)).size ≤ _
   rw [hz]; omega
  ·rw [ByteArray.size_append, hz]; omega
theorem ygl (p : Ps) : PureC Try.prog 76 [p.enc] (yaf p).enc := by
 unfold yaf
 cases h : (p.d == 1) with
 | true => rw [if_pos rfl]; exact ypf p h
 | false => rw [if_neg (by simp)]; exact ype p h
theorem or_Y (a b : Int) (h : a ≠ 0 ∨ b ≠ 0) : Tri Try.prog (cxN 18 0) (.loop (zqc Try.f48 0)) [(3, it 0), (6, .sl .any 3 (some 2) [it a, it b]), (7, it 2), (8, it 0)] .ret [(2, it (if a ≠ 0 then a else b))] := by
 have := ymx a b
 rwa [if_pos h, if_pos h] at this
theorem or_N (a b : Int) (h : ¬ (a ≠ 0 ∨ b ≠ 0)) : Tri Try.prog (cxN 18 0) (.loop (zqc Try.f48 0)) [(3, it 0), (6, .sl .any 3 (some 2) [it a, it b]), (7, it 2), (8, it 0)] (.exit 0) [(3, it 0)] := by
 have := ymx a b
 rwa [if_neg h, if_neg h] at this
theorem yl2 (c : Option Nat) (l : List Idd) (hl : l.length ≤ 100000) : Tri Try.prog (cxN 30 0) (.loop (zqc Try.f21 0)) [(0, isl c l), (3, .atom (.string ⟨#[]⟩)), (4, it 0)] (.exit 0) [(3, .atom (.string (txV l ⟨#[]⟩)))] := by
 have := Rnd.loop (yv6 c l hl l.length 0 ⟨#[]⟩ (by omega) (by decide))
 rwa [List.drop_zero] at this
def ixF (a : List Idd) (p : Idd) : Nat → Nat → Option Nat
 | 0, _ => none
 | k + 1, i => if p = a.getD i default then some i else ixF a p k (i + 1)
theorem ytt (ca : Option Nat) (a : List Idd) (p : Idd) (hA : a.length < 2 ^ 62) (j : Nat) : ∀ (k i : Nat), i + k = a.length → ixF a p k i = some j →
  Rnd Try.prog (cxN 19 0) (zqc Try.f52 0) (k + 1) [(0, isl ca a), (3, .box [ub p.y, it p.n]), (7, it (((a.map Idd.enc).length : Nat) : Int)), (8, it i)] .ret [(4, it j)] := by
 intro k
 induction k with
 | zero => intro i _ h; cases h
 | succ k ih =>
  intro i hi h
  have hlt : i < a.length := by omega
  have s1 : decide ((i : Int) < (((a.map Idd.enc).length : Nat) : Int)) = true := zlb (by rw [zla]; omega)
  have s2 : decide ((0 : Int) ≤ (i : Int) ∧ (i : Int) < (((a.map Idd.enc).length : Nat) : Int)) = true := zlb (by rw [zla]; omega)
  have s3 : List.getD (a.map Idd.enc) i AV.bad = Idd.enc (a.getD i default) := yaj hlt
  rw [ixF] at h
  by_cases e : p = a.getD i default
  ·rw [if_pos e] at h; injection h with h; subst h
   exact Rnd.exit (yx9 ca a p _ i s1 s2 s3 (by rw [ytx]; simp only [zlf]; simpa using e)) (by simp)
  ·rw [if_neg e] at h
   have h1 := yrr ca a p _ i s1 s2 s3 (by rw [ytx]; simp only [zlf]; simpa using e)
   rw [yak (by omega) (by omega)] at h1
   exact Rnd.step h1 (ih (i + 1) (by omega) h)
theorem ytu (ca : Option Nat) (a : List Idd) (p : Idd) (hA : a.length < 2 ^ 62) : ∀ (k i : Nat), i + k = a.length → ixF a p k i = none →
  Rnd Try.prog (cxN 19 0) (zqc Try.f52 0) (k + 1) [(0, isl ca a), (3, .box [ub p.y, it p.n]), (7, it (((a.map Idd.enc).length : Nat) : Int)), (8, it i)] (.exit 0) [] := by
 intro k
 induction k with
 | zero =>
  intro i hi _
  exact Rnd.exit (Tri.after [] (yx8 ca a p _ i (zlc (by rw [zla]; omega)))) (by simp)
 | succ k ih =>
  intro i hi h
  have hlt : i < a.length := by omega
  have s1 : decide ((i : Int) < (((a.map Idd.enc).length : Nat) : Int)) = true := zlb (by rw [zla]; omega)
  have s2 : decide ((0 : Int) ≤ (i : Int) ∧ (i : Int) < (((a.map Idd.enc).length : Nat) : Int)) = true := zlb (by rw [zla]; omega)
  have s3 : List.getD (a.map Idd.enc) i AV.bad = Idd.enc (a.getD i default) := yaj hlt
  rw [ixF] at h
  by_cases e : p = a.getD i default
  ·rw [if_pos e] at h; cases h
  ·rw [if_neg e] at h
   have h1 := yrr ca a p _ i s1 s2 s3 (by rw [ytx]; simp only [zlf]; simpa using e)
   rw [yak (by omega) (by omega)] at h1
   exact Rnd.step h1 (ih (i + 1) (by omega) h)
theorem ixS (ca : Option Nat) (a : List Idd) (p : Idd) (hA : a.length < 2 ^ 62) (j : Nat) (h : ixF a p a.length 0 = some j) :
  Tri Try.prog (cxN 19 0) (.loop (zqc Try.f52 0)) [(0, isl ca a), (3, .box [ub p.y, it p.n]), (7, it (((a.map Idd.enc).length : Nat) : Int)), (8, it 0)] .ret [(4, it j)] := Rnd.loop (ytt ca a p hA j a.length 0 (by omega) h)
theorem ixN (ca : Option Nat) (a : List Idd) (p : Idd) (hA : a.length < 2 ^ 62) (h : ixF a p a.length 0 = none) :
  Tri Try.prog (cxN 19 0) (.loop (zqc Try.f52 0)) [(0, isl ca a), (3, .box [ub p.y, it p.n]), (7, it (((a.map Idd.enc).length : Nat) : Int)), (8, it 0)] (.exit 0) [] := Rnd.loop (ytu ca a p hA a.length 0 (by omega) h)
theorem cmp8_0 (a b : Int) (g0 : decide (a < b) = true) : PureC Try.prog 49 [ub a, ub b]  (it (-1)) :=
 zqj (H := h49) (n := 20) (ans := [.c, .c, .r (bb false), .c, .c, .c, .c, .r (bb false), .c, .c, .c, .c, .c, .c, .c, .c, .c, .c, .b true, .c]) (base 20 0) Try.func49 rfl (by simp) rfl (by kernel_rfl) (allp (p := PureC Try.prog 65 [ub a] (bb false)) (by apply yf1<;>first|assumption|rfl|(simp at *<;>omega)) (allp (p := PureC Try.prog 65 [ub b] (bb false)) (by apply yf1<;>first|assumption|rfl|(simp at *<;>omega)) (allp g0 zqa)))
theorem cmp8_1 (a b : Int) (g0 : decide (a < b) = false) (g1 : decide (b < a) = true) : PureC Try.prog 49 [ub a, ub b]  (it 1) :=
 zqj (H := h49) (n := 20) (ans := [.c, .c, .r (bb false), .c, .c, .c, .c, .r (bb false), .c, .c, .c, .c, .c, .c, .c, .c, .c, .c, .b false, .c, .c, .c, .b true, .c]) (base 20 0) Try.func49 rfl (by simp) rfl (by kernel_rfl) (allp (p := PureC Try.prog 65 [ub a] (bb false)) (by apply yf1<;>first|assumption|rfl|(simp at *<;>omega)) (allp (p := PureC Try.prog 65 [ub b] (bb false)) (by apply yf1<;>first|assumption|rfl|(simp at *<;>omega)) (allp g0 (allp g1 zqa))))
theorem cmp8_2 (a b : Int) (g0 : decide (a < b) = false) (g1 : decide (b < a) = false) : PureC Try.prog 49 [ub a, ub b]  (it 0) :=
 zqj (H := h49) (n := 20) (ans := [.c, .c, .r (bb false), .c, .c, .c, .c, .r (bb false), .c, .c, .c, .c, .c, .c, .c, .c, .c, .c, .b false, .c, .c, .c, .b false, .c]) (base 20 0) Try.func49 rfl (by simp) rfl (by kernel_rfl) (allp (p := PureC Try.prog 65 [ub a] (bb false)) (by apply yf1<;>first|assumption|rfl|(simp at *<;>omega)) (allp (p := PureC Try.prog 65 [ub b] (bb false)) (by apply yf1<;>first|assumption|rfl|(simp at *<;>omega)) (allp g0 (allp g1 zqa))))
theorem yup (a b : Int) (g0 : decide (a < b) = true) : PureC Try.prog 50 [it a, it b]  (it (-1)) :=
 zqj (H := h50) (n := 20) (ans := [.c, .c, .r (bb false), .c, .c, .c, .c, .r (bb false), .c, .c, .c, .c, .c, .c, .c, .c, .c, .c, .b true, .c]) (base 20 0) Try.func50 rfl (by simp) rfl (by kernel_rfl) (allp (p := PureC Try.prog 66 [it a] (bb false)) (by apply ydw<;>first|assumption|rfl|(simp at *<;>omega)) (allp (p := PureC Try.prog 66 [it b] (bb false)) (by apply ydw<;>first|assumption|rfl|(simp at *<;>omega)) (allp g0 zqa)))
theorem yuo (a b : Int) (g0 : decide (a < b) = false) (g1 : decide (b < a) = true) : PureC Try.prog 50 [it a, it b]  (it 1) :=
 zqj (H := h50) (n := 20) (ans := [.c, .c, .r (bb false), .c, .c, .c, .c, .r (bb false), .c, .c, .c, .c, .c, .c, .c, .c, .c, .c, .b false, .c, .c, .c, .b true, .c]) (base 20 0) Try.func50 rfl (by simp) rfl (by kernel_rfl) (allp (p := PureC Try.prog 66 [it a] (bb false)) (by apply ydw<;>first|assumption|rfl|(simp at *<;>omega)) (allp (p := PureC Try.prog 66 [it b] (bb false)) (by apply ydw<;>first|assumption|rfl|(simp at *<;>omega)) (allp g0 (allp g1 zqa))))
theorem yun (a b : Int) (g0 : decide (a < b) = false) (g1 : decide (b < a) = false) : PureC Try.prog 50 [it a, it b]  (it 0) :=
 zqj (H := h50) (n := 20) (ans := [.c, .c, .r (bb false), .c, .c, .c, .c, .r (bb false), .c, .c, .c, .c, .c, .c, .c, .c, .c, .c, .b false, .c, .c, .c, .b false, .c]) (base 20 0) Try.func50 rfl (by simp) rfl (by kernel_rfl) (allp (p := PureC Try.prog 66 [it a] (bb false)) (by apply ydw<;>first|assumption|rfl|(simp at *<;>omega)) (allp (p := PureC Try.prog 66 [it b] (bb false)) (by apply ydw<;>first|assumption|rfl|(simp at *<;>omega)) (allp g0 (allp g1 zqa))))
theorem orA_0 (a b : Int) (h : a ≠ 0 ∨ b ≠ 0) : PureC Try.prog 48 [.sl .any 3 (some 2) [it a, it b]]  (it (if a ≠ (0 : Int) then a else b)) :=
 zqj (H := h48) (n := 18) (ans := [.c, .c, .c, .c, .c, .lp Ex.ret [(2, it (if a ≠ (0 : Int) then a else b))]]) (base 18 0) Try.func48 rfl (by simp) rfl (by kernel_rfl) (allp (p := Tri Try.prog (cxN (18 : Nat) (0 : Nat)) (Code.loop (zqc Try.f48 (0 : Nat))) [(3, it 0), (6, AV.sl .any 3 (some 2) [it a, it b]), (7, it ((2 : Nat) : Int)), (8, it 0)] Ex.ret [(2, it (if a ≠ (0 : Int) then a else b))]) (by first | (apply or_Y<;>first|assumption|rfl|(simp at *<;>omega)) | (refine Tri.weak [(3, .keep), (6, .keep), (7, .keep), (8, .keep)] ?_; apply or_Y<;>first|assumption|rfl|(simp at *<;>omega))) zqa)
theorem orB_0 (a b : Int) (h : ¬ (a ≠ 0 ∨ b ≠ 0)) : PureC Try.prog 48 [.sl .any 3 (some 2) [it a, it b]]  (it 0) :=
 zqj (H := h48) (n := 18) (ans := [.c, .c, .c, .c, .c, .lp (.exit 0) [(3, it 0)], .c, .c]) (base 18 0) Try.func48 rfl (by simp) rfl (by kernel_rfl) (allp (p := Tri Try.prog (cxN (18 : Nat) (0 : Nat)) (Code.loop (zqc Try.f48 (0 : Nat))) [(3, it 0), (6, AV.sl .any 3 (some 2) [it a, it b]), (7, it ((2 : Nat) : Int)), (8, it 0)] (.exit 0) [(3, it 0)]) (by first | (apply or_N<;>first|assumption|rfl|(simp at *<;>omega)) | (refine Tri.weak [(3, .keep), (6, .keep), (7, .keep), (8, .keep)] ?_; apply or_N<;>first|assumption|rfl|(simp at *<;>omega))) zqa)
theorem ybp (c : Option Nat) (t : List Rw) (hc : cntV t < 2 ^ 62) (ht : t.length < 2 ^ 60) : PureC Try.prog 12 [tsl c t]  (it (cntV t : Int)) :=
 zqj (H := h12) (n := 18) (ans := [.c, .c, .c, .c, .c, .lp (.exit 0) [(3, it (cntV t : Int))], .c, .c]) (base 18 0) Try.func12 rfl (by simp) rfl (by kernel_rfl) (allp (p := Tri Try.prog (cxN (18 : Nat) (0 : Nat)) (Code.loop (zqc Try.f12 (0 : Nat))) [(3, it 0), (6, tsl c t), (7, it ((t.map Rw.enc).length : Int)), (8, it 0)] (.exit 0) [(3, it (cntV t : Int))]) (by first | (apply yks<;>first|assumption|rfl|(simp at *<;>omega)) | (refine Tri.weak [(3, .keep), (6, .keep), (7, .keep), (8, .keep)] ?_; apply yks<;>first|assumption|rfl|(simp at *<;>omega))) zqa)
theorem ixA_0 (ca : Option Nat) (a : List Idd) (p : Idd) (hA : a.length < 2 ^ 62) (j : Nat) (h : ixF a p a.length 0 = some j) : PureC Try.prog 52 [isl ca a, .agg [ub p.y, it p.n]]  (it (↑j : Int)) :=
 zqj (H := h52) (n := 19) (ans := [.c, .c, .c, .c, .c, .lp Ex.ret [(4, it (↑j : Int))]]) (base 19 0) Try.func52 rfl (by simp) rfl (by kernel_rfl) (allp (p := Tri Try.prog (cxN (19 : Nat) (0 : Nat)) (Code.loop (zqc Try.f52 (0 : Nat))) [(0, isl ca a), (3, AV.box [ub (Idd.y p), it (Idd.n p)]), (7, it ((a.map Idd.enc).length : Int)), (8, it 0)] Ex.ret [(4, it (↑j : Int))]) (by first | (apply ixS<;>first|assumption|rfl|(simp at *<;>omega)) | (refine Tri.weak [(0, .keep), (3, .keep), (7, .keep), (8, .keep)] ?_; apply ixS<;>first|assumption|rfl|(simp at *<;>omega))) zqa)
theorem ixB_0 (ca : Option Nat) (a : List Idd) (p : Idd) (hA : a.length < 2 ^ 62) (h : ixF a p a.length 0 = none) : PureC Try.prog 52 [isl ca a, .agg [ub p.y, it p.n]]  (it (-1)) :=
 zqj (H := h52) (n := 19) (ans := [.c, .c, .c, .c, .c, .lp (.exit 0) [], .c]) (base 19 0) Try.func52 rfl (by simp) rfl (by kernel_rfl) (allp (p := Tri Try.prog (cxN (19 : Nat) (0 : Nat)) (Code.loop (zqc Try.f52 (0 : Nat))) [(0, isl ca a), (3, AV.box [ub (Idd.y p), it (Idd.n p)]), (7, it ((a.map Idd.enc).length : Int)), (8, it 0)] (.exit 0) []) (by first | (apply ixN<;>first|assumption|rfl|(simp at *<;>omega)) | (refine Tri.weak [(0, .keep), (3, .keep), (7, .keep), (8, .keep)] ?_; apply ixN<;>first|assumption|rfl|(simp at *<;>omega))) zqa)
theorem yqw (p q : Ps) (g0 : (Ps.y (yaf p) == Ps.y q && Ps.n (yaf p) == Ps.n q && Ps.f (yaf p) == Ps.f q && Ps.d (yaf p) == Ps.d q) = true) : PureC Try.prog 73 [p.enc, q.enc]  (bb (Ps.y (yaf q) == Ps.y p && Ps.n (yaf q) == Ps.n p && Ps.f (yaf q) == Ps.f p && Ps.d (yaf q) == Ps.d p)) :=
 zqj (H := h73) (n := 15) (ans := [.c, .c, .c, .c, .r (AV.agg [ub (Ps.y (yaf p)), it (Ps.n (yaf p)), bb (Ps.f (yaf p)), ub (Ps.d (yaf p))]), .c, .c, .c, .c, .c, .b true, .c, .b true, .r (AV.agg [ub (Ps.y (yaf q)), it (Ps.n (yaf q)), bb (Ps.f (yaf q)), ub (Ps.d (yaf q))]), .c, .c, .b true, .c, .b true, .c, .b true, .c, .c]) (base 15 0) Try.func73 rfl (by simp) rfl (by kernel_rfl) (allp (p := PureC Try.prog 76 [AV.agg [ub (Ps.y p), it (Ps.n p), bb (Ps.f p), ub (Ps.d p)]] (AV.agg [ub (Ps.y (yaf p)), it (Ps.n (yaf p)), bb (Ps.f (yaf p)), ub (Ps.d (yaf p))])) (by apply ygl<;>first|assumption|rfl|(simp at *<;>omega)) (allp g0 (allp g0 (allp (p := PureC Try.prog 76 [AV.agg [ub (Ps.y q), it (Ps.n q), bb (Ps.f q), ub (Ps.d q)]] (AV.agg [ub (Ps.y (yaf q)), it (Ps.n (yaf q)), bb (Ps.f (yaf q)), ub (Ps.d (yaf q))])) (by apply ygl<;>first|assumption|rfl|(simp at *<;>omega)) (allp g0 (allp g0 (allp g0 zqa)))))))
theorem yqv (p q : Ps) (g0 : (Ps.y (yaf p) == Ps.y q && Ps.n (yaf p) == Ps.n q && Ps.f (yaf p) == Ps.f q && Ps.d (yaf p) == Ps.d q) = false) : PureC Try.prog 73 [p.enc, q.enc]  (bb false) :=
 zqj (H := h73) (n := 15) (ans := [.c, .c, .c, .c, .r (AV.agg [ub (Ps.y (yaf p)), it (Ps.n (yaf p)), bb (Ps.f (yaf p)), ub (Ps.d (yaf p))]), .c, .c, .c, .c, .c, .b false, .c, .b false, .c, .b false, .c, .b false, .c, .b false, .c, .c]) (base 15 0) Try.func73 rfl (by simp) rfl (by kernel_rfl) (allp (p := PureC Try.prog 76 [AV.agg [ub (Ps.y p), it (Ps.n p), bb (Ps.f p), ub (Ps.d p)]] (AV.agg [ub (Ps.y (yaf p)), it (Ps.n (yaf p)), bb (Ps.f (yaf p)), ub (Ps.d (yaf p))])) (by apply ygl<;>first|assumption|rfl|(simp at *<;>omega)) (allp g0 (allp g0 (allp g0 (allp g0 (allp g0 zqa))))))
theorem yhr (c : Option Nat) (l : List Idd) (hl : l.length ≤ 100000) : PureC Try.prog 21 [isl c l]  (AV.atom (Value.string (txV l { data := #[] }))) :=
 zqj (H := h21) (n := 30) (ans := [.c, .c, .c, .lp (.exit 0) [(3, AV.atom (Value.string (txV l { data := #[] })))], .c, .c]) (base 30 0) Try.func21 rfl (by simp) rfl (by kernel_rfl) (allp (p := Tri Try.prog (cxN (30 : Nat) (0 : Nat)) (Code.loop (zqc Try.f21 (0 : Nat))) [(0, isl c l), (3, AV.atom (Value.string { data := #[] })), (4, it 0)] (.exit 0) [(3, AV.atom (Value.string (txV l { data := #[] })))]) (by first | (apply yl2<;>first|assumption|rfl|(simp at *<;>omega)) | (refine Tri.weak [(0, .keep), (3, .keep), (4, .keep)] ?_; apply yl2<;>first|assumption|rfl|(simp at *<;>omega))) zqa)
theorem yqt (l : Lp) (h1 : l.th.length ≤ 4294967296) (h2 : l.pa.length ≤ 4294967296) (g0 : AV.agg [ub (Lp.b l), bb (Lp.w l), AV.sl .fresh 36 (some ((Lp.th l).length)) (List.map (mapE (remode zqx (11 : Nat))) (List.map Idd.enc (Lp.th l))), AV.sl .fresh 56 (some ((Lp.pa l).length)) (List.map (mapE (remode zqx (11 : Nat))) (List.map Ps.enc (Lp.pa l)))] = AV.agg [ub (Lp.b l), bb (Lp.w l), AV.sl .fresh 36 (some ((Lp.th l).length)) (List.map Idd.enc (Lp.th l)), AV.sl .fresh 56 (some ((Lp.pa l).length)) (List.map Ps.enc (Lp.pa l))]) : PureC Try.prog 29 [l.enc]  (AV.agg [ub (Lp.b l), bb (Lp.w l), AV.sl .fresh 36 (some ((Lp.th l).length)) (List.map Idd.enc (Lp.th l)), AV.sl .fresh 56 (some ((Lp.pa l).length)) (List.map Ps.enc (Lp.pa l))]) :=
 zqj (H := h29) (n := 12) (ans := [.c, .c, .c, .c, .c, .c, .r (isl (Lp.ct l) (Lp.th l)), .r (iow (some ((Lp.th l).length)) (Lp.th l)), .c, .c, .c, .c, .c, .c, .r (sl (Lp.cp l) (Lp.pa l)), .r (AV.sl .own 56 (some ((Lp.pa l).length)) (List.map Ps.enc (Lp.pa l))), .c, .c, .c, .c, .c, .c, .c, .c, .c, .c, .c, .c, .r (AV.agg [ub (Lp.b l), bb (Lp.w l), AV.sl .fresh 36 (some ((Lp.th l).length)) (List.map Idd.enc (Lp.th l)), AV.sl .fresh 56 (some ((Lp.pa l).length)) (List.map Ps.enc (Lp.pa l))]), .c]) (base 12 0) Try.func29 rfl (by simp) rfl (by kernel_rfl) (allp (zrb .any (Lp.ct l) (Lp.th l)) (allp (p := PureC Try.prog 41 [isl (Lp.ct l) (Lp.th l)] (iow (some ((Lp.th l).length)) (Lp.th l))) (by apply yry<;>first|assumption|rfl|(simp at *<;>omega)) (allp (zra .any (Lp.cp l) (Lp.pa l)) (allp (p := PureC Try.prog 42 [sl (Lp.cp l) (Lp.pa l)] (AV.sl .own 56 (some ((Lp.pa l).length)) (List.map Ps.enc (Lp.pa l)))) (by apply yrx<;>first|assumption|rfl|(simp at *<;>omega)) (allp g0 zqa)))))
theorem yqp (u : Nat) : PureC Try.prog 15 []  (AV.sl .own 37 (some 6) [zqw, zqw, zqw, zqw, zqw, zqw]) :=
 zqj (H := h15) (n := 2) (ans := [.c, .c, .c, .c]) (base 2 0) Try.func15 rfl (by simp) rfl (by kernel_rfl)  zqa
end Tst
end

section
namespace Go.Lf
open Go Go.RowKit
section
variable {P : Program} {F : Frm} {B0 : Nat} {w0 w : World} {S S0 : Nat → Prop} {n : Nat} {env : Env} {a : Act} {tmps : Array Value} {Os : Nat → Own} {cx : Cx}
theorem St.shrBox (hst : St P F B0 w0 n env a.tmps w S Os) {r : Nat} {cs : List AV} (hr : lk env r = some (.box cs)) (hp : cs.all zqt = true) (hno : zrm r env) :
  ∃ S' Os', St P F B0 w0 n ((r, .vadr cs 0) :: env) a.tmps w S' Os' ∧ (∀ b, S b → S' b) ∧ (∀ b, S' b → S b ∨ B0 ≤ b) := by
 obtain ⟨vr, hv, hsv⟩ := hst.rel r _ hr
 have hrv := hsv.rv rfl
 obtain ⟨m, rfl⟩ := hrv.pos
 obtain ⟨g, C, T, O', rfl, hB, hg, hrc, hO⟩ := hrv
 have hz := zrg hrc hp
 have hgo : 0 < Os r g := by have := hO g; simp [ind] at this; omega
 have hd : r < a.tmps.size := (zlj.1 hv).1
 have hlen : C.toList.length = cs.length := hrc.length
 have hrc' : Rc (Rv P B0 w (fun b => S b ∨ b = g) m) C.toList cs (fun _ => 0) := by
  have h := hrc.map (g := id) (R' := Rv P B0 w (fun b => S b ∨ b = g) m) fun v x O1 hle h1 => by
   have e : O1 = fun _ => 0 := funext fun b => by have := hle b; have := hz b; omega
   subst e
   exact Rv.frame (fun b hb => .inl hb) (fun _ _ => rfl) m v x _ (fun _ _ => rfl) h1
  rwa [List.map_id] at h
 refine ⟨fun b => S b ∨ b = g, fun t => if t = r then (fun _ => 0) else Os t, ?_, fun b hb => .inl hb, ?_⟩
 rotate_left
 ·intro b hb
  rcases hb with hb | hb
  ·exact .inl hb
  ·subst hb; exact .inr hB
 have key := hst.set (zly _) r (v := .pointer (some ⟨g, 0, none⟩)) (x := .vadr cs 0) (O := fun _ => 0) (S' := fun b => S b ∨ b = g) ⟨hd, .inr hv⟩ (Below.refl _ _) (fun b hb => .inl hb)
  (fun b hb => by
   rcases hb with hb | hb
   ·exact hst.sLt b hb
   ·subst hb; exact (hst.lt r b hgo).2)
  (fun b t ht hb => by
   rcases hb with hb | hb
   ·exact hst.excl b t hb
   ·subst hb
    rcases hst.dis r t b (Ne.symm ht) with h | h
    ·omega
    ·exact h)
  (fun _ _ => rfl) (fun _ _ => rfl) (fun _ => Nat.zero_le _) (fun b t _ hb => by omega)
  (.inr ⟨g, 0, C, T, (0, 0), rfl, .inr rfl, hg, zly _, by rw [← hlen]; simp, fun _ => rfl, by
   rw [Nat.sub_self, List.drop_zero, zlm (by omega)]; exact hrc'⟩)
  (fun t y _ _ hy hyr => absurd hyr (hno t y hy))
 rwa [ya0 a.tmps r _ hv] at key
theorem Tri.shr {c : Code} {env' : Env} {ex : Ex} {r : Nat} {cs : List AV} (hr : lk env r = some (.box cs)) (hp : cs.all zqt = true) (hno : zrm r env) (h : Tri P cx c ((r, .vadr cs 0) :: env) ex env') : Tri P cx c env ex env' :=
 fun ρ hρ F B0 w0 S0 ds a w Q hag hQ => h ρ hρ F B0 w0 S0 ds a w Q (match hag with
  | ⟨h1, h2, n, S, Os, hn, hgr, hst⟩ =>
   have ⟨S', Os', hst', hS, hS'⟩ := hst.shrBox hr hp hno
   ⟨h1, h2, n, S', Os', hn, ⟨fun b hb => hS b (hgr.1 b hb), fun b hb => by
    rcases hS' b hb with h | h
    ·exact hgr.2 b h
    ·exact .inr h⟩, hst'⟩) hQ
end
end Go.Lf
end

section
namespace Go.Lf
open Go Go.RowKit
structure Grew (X : Nat → Prop) (w w' : World) : Prop where
 os : w'.os = w.os
 tape : w'.tape = w.tape
 output : w'.output = w.output
 size : w.heap.size ≤ w'.heap.size
 block : ∀ b, b < w.heap.size → ¬ X b → w'.heap[b]? = w.heap[b]?
def SeqC (P : Program) (f : FuncId) (cs : List AV) (xss : List (List AV)) : Prop :=
 (∀ (args : Array Value) (w : World), (callFunc f args).run P w = .ok (.enter f args) w) ∧
 ∀ (w : World) (S : Nat → Prop) (n : Nat) (lb : List Value) (l : Nat) (J : Nat → (Nat → Prop) → World → Prop) (Jx : Nat → World → Prop),
  (∀ b, S b → b < w.heap.size) → Rc (Rv P w.heap.size w S n) lb cs (fun _ => 0) →
  (∀ k X W W', J k X W → Below W.heap.size W W' → J k X W') → (∀ k W W', Jx k W → Below W.heap.size W W' → Jx k W') →
  (∀ k X W, J k X W → w.heap.size ≤ W.heap.size ∧ (∀ b, S b → W.heap[b]? = w.heap[b]? ∧ ¬ X b) ∧ ∀ b, X b → b < W.heap.size) →
  (∀ k X W xs vs S' m, J k X W → xss[k]? = some xs → (∀ b, S' b → (S b ∨ w.heap.size ≤ b) ∧ b < W.heap.size ∧ ¬ X b) → (∀ B1, Rc (Rv P B1 W S' m) vs xs (fun _ => 0)) →
   YieldAt (Fi none) 0 P l vs.toArray W fun e W' => (e = .returned (.bool true) ∧ ∃ X', J (k + 1) X' W' ∧ Grew X W W' ∧ ∀ b, X' b → X b ∨ W.heap.size ≤ b) ∨ (e = .returned (.bool false) ∧ Jx k W')) →
  ∀ X, J 0 X w → Calls P f ((Value.func (.yield l) #[] #[] :: lb).toArray) w fun e W' => (∃ v, e = .returned v) ∧ ((∃ X', J xss.length X' W') ∨ ∃ k, k < xss.length ∧ Jx k W')
def yid : AV → Bool
 | .atom _ => true
 | .bad => true
 | .agg cs => cs.all zqt
 | .sl .own _ _ _ => false
 | .sl .. => true
 | .vadr .. => true
 | .fn .. => true
 | _ => false
section
variable {P : Program} {F : Frm} {B0 : Nat} {w0 w w' : World} {S S' S0 : Nat → Prop} {n n' : Nat} {env env' : Env} {a : Act} {tmps : Array Value} {Os : Nat → Own} {cx : Cx}
theorem yf3 {v : Value} {x : AV} {O : Own} (h : Rv P B0 w S n v x O) (hp : yid x = true) : Zero O := by
 obtain ⟨m, rfl⟩ := h.pos
 cases x with
 | atom u => exact h.2
 | bad => exact h
 | agg cs => obtain ⟨_, _, hrc⟩ := h; exact zrg hrc hp
 | sl mm e cap xs =>
  cases mm with
  | own => simp [yid] at hp
  | fresh => obtain ⟨A, k, _, _, _, _, _, hz, _⟩ := h; exact hz
  | any => obtain ⟨A, k, _, _, _, _, _, hz, _⟩ := h; exact hz
 | vadr cs c => obtain ⟨g, o, C, T, fr, _, _, _, _, _, hz, _⟩ := h; exact hz
 | fn f cs => obtain ⟨_, _, hz, _⟩ := h; exact hz
 | _ => simp [yid] at hp
theorem ycm {x : AV} (hp : yid x = true) : zqf x = none := by cases x <;> first | rfl | simp [yid] at hp
theorem St.later (h : St P F B0 w0 n env tmps w S Os) (hnl : ∀ t x, lk env t = some x → zqf x = none) (hB : Below w.heap.size w w') : St P F B0 w0 n env tmps w' S Os := by
 have hlt : ∀ t b, 0 < Os t b → b < w.heap.size := by
  intro t b hb
  cases hl : lk env t with
  | none => have := h.abs t hl b; omega
  | some x =>
   obtain ⟨v, hv, hs⟩ := h.rel t x hl
   rcases hs with ⟨k1, _, _⟩ | hr
   ·exact absurd (hnl t x hl) k1
   ·exact (Rv.owned n v x _ hr b hb).2
 refine ⟨h.below.trans (hB.mono h.b0), Nat.le_trans h.b0 hB.size, fun b hb => Nat.lt_of_lt_of_le (h.sLt b hb) hB.size, h.excl, h.one, h.dis, ?_, h.abs, h.leaf, fun b hb => ⟨(h.keep b hb).1, (hB.block b (h.sLt b (h.keep b hb).1)).trans (h.keep b hb).2⟩, h.pin⟩
 intro t x hx
 obtain ⟨v, hv, hs⟩ := h.rel t x hx
 refine ⟨v, hv, ?_⟩
 rcases hs with ⟨k1, _, _⟩ | hr
 ·exact absurd (hnl t x hx) k1
 ·exact .inr (Rv.frame (fun _ h => h) (fun b hb => hB.block b (h.sLt b hb)) n v x (Os t) (fun b hb => hB.block b (hlt t b hb)) hr)
theorem ybe {W : World} {l : Nat} {o : Obj} {B : Nat} (hl : B ≤ l) : Below B W (W.putObj l o) :=
 ⟨rfl, rfl, rfl, by rw [World.putObj_size]; exact zly _, fun k hk => World.putObj_heap_other (by omega)⟩
theorem yfr (q : List (Nat × Value)) : ∀ (T : Array Value), (q.foldl (fun t (pv : Nat × Value) => t.setIfInBounds pv.1 pv.2) T).size = T.size := by
 induction q with
 | nil => intro T; rfl
 | cons p q ih => intro T; rw [List.foldl_cons, ih]; simp
theorem ycg (q : List (Nat × Value)) : ∀ (T : Array Value) (t : Nat), (∀ p ∈ q, p.1 ≠ t) → (q.foldl (fun t (pv : Nat × Value) => t.setIfInBounds pv.1 pv.2) T)[t]? = T[t]? := by
 induction q with
 | nil => intro T t _; rfl
 | cons p q ih =>
  intro T t h
  rw [List.foldl_cons, ih _ _ fun r hr => h r (by simp [hr]), Array.getElem?_setIfInBounds_ne (h p (by simp))]
theorem yey {R : Value → AV → Own → Prop} : ∀ {vs : List Value} {xs : List AV}, Rc R vs xs (fun _ => 0) → ∀ (ps : List Nat) (T : Array Value), ps.Nodup → (∀ p ∈ ps, p < T.size) → ∀ t x, lk (ps.zip xs) t = some x →
  ∃ v O, ((ps.zip vs).foldl (fun t (pv : Nat × Value) => t.setIfInBounds pv.1 pv.2) T)[t]? = some v ∧ R v x O ∧ Zero O
 | _, _, .nil _, ps, T, _, _, t, x, h => by cases ps <;> simp [lk] at h
 | _, _, @Rc.cons _ v y vs ys O1 O2 _ h1 h2 hO, [], T, _, _, t, x, h => by simp [lk] at h
 | _, _, @Rc.cons _ v y vs ys O1 O2 _ h1 h2 hO, p :: ps, T, hn, hT, t, x, h => by
  obtain ⟨hn1, hn2⟩ := List.nodup_cons.1 hn
  simp only [List.zip_cons_cons, lk] at h
  have hO2 : O2 = fun _ => 0 := funext fun b => by have : 0 = O1 b + O2 b := hO b; omega
  have hO1 : Zero O1 := fun b => by have : 0 = O1 b + O2 b := hO b; omega
  subst hO2
  rw [List.zip_cons_cons, List.foldl_cons]
  by_cases hp : p = t
  ·rw [if_pos hp] at h
   injection h with h; subst h hp
   refine ⟨v, O1, ?_, h1, hO1⟩
   rw [ycg _ _ _ fun r hr e => hn1 (by have := List.of_mem_zip hr; rw [← e]; exact this.1)]
   simp [hT p (by simp)]
  ·rw [if_neg hp] at h
   exact yey h2 ps _ hn2 (fun r hr => by simpa using hT r (by simp [hr])) t x h
end
end Go.Lf
end

section
namespace Go.Lf
open Go Go.RowKit
def Ex.code : Ex → Option Code
 | .normal => none
 | .exit id => some (.exit id)
 | .ret => some .ret
def ycb (fn : FuncId) (tmps : Array Value) (ps : Array Tmp) (c1 c2 : Code) (D : Nat) (pe : Option Code) : Loop :=
 { state := if pe.isNone then .ready else .done, pending := pe, fn := fn, tmps := tmps, params := ps, assign := c1, body := c2, defers := D }
def Btw (P : Program) (F : Frm) (B0 : Nat) (w0 : World) (S0 S : Nat → Prop) (tmps : Array Value) (D l : Nat) (rec : Option Code → Loop) (pe : Option Code) (env : Env) (X : Nat → Prop) (W : World) : Prop :=
 ∃ (n : Nat) (S' : Nat → Prop) (Os : Nat → Own), 0 < n ∧ Grow B0 S0 S' ∧ St P F B0 w0 n env tmps W S' Os ∧ (∀ b, S b → S' b) ∧ S' D ∧ S' l ∧ W.heap[l]? = some (.loop (rec pe)) ∧ W.heap[D]? = some (.deferred (some [])) ∧ ∀ b, X b ↔ ∃ t, 0 < Os t b
def EnvB (lo : Nat) (env : Env) : Prop := ∀ t x, lk env t = some x → t < lo ∧ zqf x = none
def EnvF (env : Env) : Prop := ∀ t x, lk env t = some x → yid x = true
section
variable {P : Program} {F : Frm} {B0 : Nat} {w0 w : World} {S S0 : Nat → Prop} {tmps : Array Value} {D l : Nat} {cx : Cx} {X : Nat → Prop} {W : World}
theorem ynk {A B : Env} {t : Nat} {x : AV} (h : lk (A ++ B) t = some x) : lk A t = some x ∨ (lk A t = none ∧ lk B t = some x) := by
 rw [yap] at h
 cases hA : lk A t with
 | some y => rw [hA] at h; exact .inl h
 | none => rw [hA] at h; exact .inr ⟨rfl, h⟩
theorem Btw.later {rec : Option Code → Loop} {pe : Option Code} {env : Env} {W' : World} (h : Btw P F B0 w0 S0 S tmps D l rec pe env X W) (hnl : ∀ t x, lk env t = some x → zqf x = none) (hB : Below W.heap.size W W') : Btw P F B0 w0 S0 S tmps D l rec pe env X W' := by
 obtain ⟨n, S', Os, hn, hgr, hst, hS, hD, hl, h1, h2, hX⟩ := h
 exact ⟨n, S', Os, hn, hgr, hst.later hnl hB, hS, hD, hl, (hB.block l (hst.sLt l hl)).trans h1, (hB.block D (hst.sLt D hD)).trans h2, hX⟩
theorem yjz {lo : Nat} (hlo : 0 < lo) {fn : FuncId} {ps : Array Tmp} {c1 c2 : Code} {Ek rest E1 E2 : Env} {ex : Ex} {xs : List AV} (hF0 : F.lo = 0) (hN : tmps.size = cx.N) (hps : ps.toList.Nodup ∧ ∀ p ∈ ps.toList, lo ≤ p ∧ p < cx.N)
  (hEk : EnvB lo Ek) (hrest : EnvF rest) (hdis : ∀ t x, lk rest t = some x → lk Ek t = none) (hE2 : EnvB lo E2) (hFl : ∀ b, F.b b → b ≠ l) (hBl : B0 ≤ l) (hDl : D ≠ l)
  (h1 : Tri P { cx with lo := lo } c1 (ps.toList.zip xs ++ Ek) .normal E1) (h2 : Tri P { cx with lo := lo } c2 E1 ex E2)
  (hb : Btw P F B0 w0 S0 S tmps D l (ycb fn tmps ps c1 c2 D) none (Ek ++ rest) X W) {S2 : Nat → Prop} {m : Nat} {vs : List Value} (hS2 : ∀ b, S2 b → (S b ∨ B0 ≤ b) ∧ b < W.heap.size ∧ ¬ X b) (hvs : Rc (Rv P B0 W S2 m) vs xs (fun _ => 0)) (hlen : xs.length = ps.size) :
  YieldAt (Fi none) 0 P l vs.toArray W fun e W' => e = .returned (.bool ex.code.isNone) ∧ ∃ X', Btw P F B0 w0 S0 S tmps D l (ycb fn tmps ps c1 c2 D) ex.code (E2 ++ rest) X' W' ∧ (ex = .normal → Grew X W W') ∧ ∀ b, X' b → X b ∨ W.heap.size ≤ b := by
 obtain ⟨n, S', Os, hn, hgr, hst, hS, hD, hl, hlw, hDw, hX⟩ := hb
 have hXn : ∀ b, ¬ X b ↔ ∀ t, Os t b = 0 := fun b => by
  rw [hX]
  constructor
  ·intro h t
   rcases zlt (Os t b) with h0 | h0
   ·exact h0
   ·exact absurd ⟨t, h0⟩ h
  ·rintro h ⟨t, ht⟩
   have := h t; omega
 have hll : l < W.heap.size := hst.sLt l hl
 have hsz : (vs.toArray).size = ps.size := by have := hvs.length; simp; omega
 have hy := run_yield (P := P) (args := vs.toArray) hlw (by simp only [ycb]; exact hsz)
 refine ⟨_, _, _, _, hy, roundIn_of_wpIn trivial ?_⟩
 -- the round's frame
 have htm : (ps.zip vs.toArray).foldl (fun (t : Array Value) (pv : Nat × Value) => t.setIfInBounds pv.1 pv.2) tmps = (ps.toList.zip vs).foldl (fun t (pv : Nat × Value) => t.setIfInBounds pv.1 pv.2) tmps := by
  rw [← Array.foldl_toList, Array.toList_zip]
 obtain ⟨T, hT⟩ : ∃ T, (ps.toList.zip vs).foldl (fun t (pv : Nat × Value) => t.setIfInBounds pv.1 pv.2) tmps = T := ⟨_, rfl⟩
 have hTs : T.size = cx.N := by rw [← hT, yfr, hN]
 have hTlow : ∀ t, t < lo → T[t]? = tmps[t]? := by
  intro t ht
  rw [← hT]
  refine ycg _ _ _ fun p hp e => ?_
  have := (hps.2 p.1 (List.of_mem_zip hp).1).1; omega
 obtain ⟨Sr, hSr⟩ : ∃ Sr : Nat → Prop, Sr = fun b => b < W.heap.size ∧ (∀ t, Os t b = 0) ∧ (S' b ∨ B0 ≤ b) := ⟨_, rfl⟩
 have hS'r : ∀ b, S' b → Sr b := fun b hb => by subst hSr; exact ⟨hst.sLt b hb, fun t => hst.excl b t hb, .inl hb⟩
 have hst0 : St P ⟨Sr, lo, tmps⟩ B0 W (n + m) (ps.toList.zip xs ++ Ek) T W Sr (fun t => if lk Ek t = none then (fun _ => 0) else Os t) := by
  refine ⟨Below.refl _ _, hst.b0, fun b hb => by subst hSr; exact hb.1, ?_, ?_, ?_, ?_, ?_, ?_, fun b hb => ⟨hb, rfl⟩, fun t ht => hTlow t ht⟩
  ·intro b t hb
   subst hSr
   split
   ·rfl
   ·exact hb.2.1 t
  ·intro t b
   split
   ·exact Nat.zero_le _
   ·exact hst.one t b
  ·intro t t' b hne
   split
   ·exact .inl rfl
   ·split
    ·exact .inr rfl
    ·exact hst.dis t t' b hne
  ·intro t x hx
   rcases ynk hx with hx | ⟨hx0, hx⟩
   ·obtain ⟨v, O, hv, hr, hz⟩ := yey hvs ps.toList tmps hps.1 (fun p hp => by rw [hN]; exact (hps.2 p hp).2) t x hx
    rw [hT] at hv
    refine ⟨v, hv, .inr ?_⟩
    have ht : lk Ek t = none := by
     cases he : lk Ek t with
     | none => rfl
     | some y =>
      exfalso
      have h3 := (hEk t y he).1
      have : t ∈ ps.toList := by
       clear hvs h1 hlen
       have key : ∀ (l1 : List Nat) (l2 : List AV) (y : AV), lk (l1.zip l2) t = some y → t ∈ l1 := by
        intro l1
        induction l1 with
        | nil => intro l2 y h; simp [lk] at h
        | cons p l1 ih =>
         intro l2 y h
         cases l2 with
         | nil => simp [lk] at h
         | cons q l2 =>
          simp only [List.zip_cons_cons, lk] at h
          split at h
          ·rename_i e; subst e; simp
          ·exact List.mem_cons_of_mem _ (ih l2 y h)
       exact key _ _ _ hx
      have := (hps.2 t this).1; omega
    rw [if_pos ht]
    refine (Rv.frame (fun b hb => ?_) (fun _ _ => rfl) m v x _ (fun _ _ => rfl) (hr.cast fun b => (hz b).symm)).le (Nat.le_add_left _ _)
    obtain ⟨h5, h6, h7⟩ := hS2 b hb
    rcases h5 with h5 | h5
    ·exact hS'r b (hS b h5)
    ·subst hSr; exact ⟨h6, (hXn b).1 h7, .inr h5⟩
   ·have hlt := (hEk t x hx).1
    obtain ⟨v, hv, hs⟩ := hst.rel t x (by rw [yap, hx])
    refine ⟨v, by rw [hTlow t hlt]; exact hv, .inr ?_⟩
    rw [if_neg (by rw [hx]; simp)]
    rcases hs with ⟨k1, _, _⟩ | hr
    ·exact absurd (hEk t x hx).2 k1
    ·exact (Rv.frame hS'r (fun _ _ => rfl) _ _ _ _ (fun _ _ => rfl) hr).le (Nat.le_add_right _ _)
  ·intro t ht b
   have : lk Ek t = none := by
    rw [yap] at ht
    cases h : lk (ps.toList.zip xs) t with
    | some y => rw [h] at ht; cases ht
    | none => rw [h] at ht; exact ht
   rw [if_pos this]
  ·intro t x r hx hr
   exfalso
   rcases ynk hx with hx | ⟨_, hx⟩
   ·obtain ⟨v, O, hv, hrv, hz⟩ := yey hvs ps.toList tmps hps.1 (fun p hp => by rw [hN]; exact (hps.2 p hp).2) t x hx
    rw [hrv.noLeaf] at hr; cases hr
   ·rw [(hEk t x hx).2] at hr; cases hr
 have hag0 : Agree P ⟨Sr, lo, tmps⟩ B0 W Sr { cx with lo := lo } [] (ps.toList.zip xs ++ Ek) { tmps := (ps.zip vs.toArray).foldl (fun (t : Array Value) (pv : Nat × Value) => t.setIfInBounds pv.1 pv.2) tmps, defers := [] } W :=
  ⟨rfl, ⟨by show _ = cx.N; rw [htm, hT, hTs], rfl⟩, n + m, Sr, _, by omega, .refl _ _, by rw [htm, hT]; exact hst0⟩
 refine h1 (some l) (fun h => absurd h (by show lo ≠ 0; omega)) _ _ _ _ _ _ _ _ hag0 fun a1 W1 ⟨Ds1, n1, S1, Os1, _, _, _, hN1, hn1, hgr1, hst1⟩ => ?_
 have hl1 : W1.heap[l]? = some (.loop (ycb fn tmps ps c1 c2 D none)) := (hst1.keep l (hS'r l hl)).2.trans hlw
 refine ⟨_, run_beginRound hl1 rfl, ?_⟩
 obtain ⟨W2, hW2⟩ : ∃ W2, W1.putObj l (.loop { ycb fn tmps ps c1 c2 D none with state := .busy }) = W2 := ⟨_, rfl⟩
 rw [hW2]
 have hl1s : l < W1.heap.size := (zlj.1 hl1).1
 have hB12 : Below B0 W1 W2 := by rw [← hW2]; exact ybe hBl
 have ho12 : ∀ b, b ≠ l → W2.heap[b]? = W1.heap[b]? := fun b hb => by rw [← hW2]; exact World.putObj_heap_other hb
 have hs12 : W2.heap.size = W1.heap.size := by rw [← hW2]; exact World.putObj_size
 have hl2 : W2.heap[l]? = some (.loop { ycb fn tmps ps c1 c2 D none with state := .busy }) := by rw [← hW2]; exact World.putObj_heap_same hl1s
 have hst2 : St P ⟨Sr, lo, tmps⟩ B0 W2 n1 E1 a1.tmps W2 S1 Os1 := by
  have g1 : St P ⟨fun b => Sr b ∧ b ≠ l, lo, tmps⟩ B0 W1 n1 E1 a1.tmps W1 S1 Os1 := hst1.reroot (fun b hb => (hst1.keep b hb.1).1) rfl rfl
  have g2 := g1.other hB12 (fun b hb => ho12 b hb.2) fun b o hg hd => ho12 b fun e => by subst e; rw [hl1] at hg; injection hg with hg; subst hg; cases hd
  exact g2.reroot (fun b hb => (hst1.keep b hb).1) rfl rfl
 refine h2 (some l) (fun h => absurd h (by show lo ≠ 0; omega)) ⟨Sr, lo, tmps⟩ B0 W2 S1 a1.defers a1 W2 _ ⟨rfl, hN1, n1, S1, Os1, hn1, .refl _ _, hst2⟩ fun a3 W3 ⟨Ds3, n3, S3, Os3, _, _, _, _, hn3, hgr3, hst3⟩ => ?_
 have hl3 : W3.heap[l]? = some (.loop { ycb fn tmps ps c1 c2 D none with state := .busy }) := (hst3.keep l (hS'r l hl)).2.trans hl2
 have hend := run_endRound (P := P) ex.code hl3
 obtain ⟨W4, hW4⟩ : ∃ W4, W3.putObj l (.loop (ycb fn tmps ps c1 c2 D ex.code)) = W4 := ⟨_, rfl⟩
 have hend' : (Instr.endRound l ex.code).run P W3 = .ok (.bool ex.code.isNone) W4 := by rw [← hW4]; exact hend
 have hl3s : l < W3.heap.size := (zlj.1 hl3).1
 have hB34 : Below B0 W3 W4 := by rw [← hW4]; exact ybe hBl
 have ho34 : ∀ b, b ≠ l → W4.heap[b]? = W3.heap[b]? := fun b hb => by rw [← hW4]; exact World.putObj_heap_other hb
 have hl4 : W4.heap[l]? = some (.loop (ycb fn tmps ps c1 c2 D ex.code)) := by rw [← hW4]; exact World.putObj_heap_same hl3s
 have hs34 : W4.heap.size = W3.heap.size := by rw [← hW4]; exact World.putObj_size
 have hSrs : ∀ b, Sr b → S3 b := fun b hb => (hst3.keep b hb).1
 have hkeep : ∀ b, Sr b → b ≠ l → W4.heap[b]? = W.heap[b]? := fun b hb hne => (ho34 b hne).trans ((hst3.keep b hb).2.trans ((ho12 b hne).trans (hst1.keep b hb).2))
 have hB04 : Below B0 W W4 := ((hst1.below.trans hB12).trans hst3.below).trans hB34
 have hBtw : Btw P F B0 w0 S0 S tmps D l (ycb fn tmps ps c1 c2 D) ex.code (E2 ++ rest) (fun b => ∃ t, 0 < (if lk E2 t = none then (fun _ => 0) else Os3 t : Own) b) W4 := by
  refine ⟨n + n3, S3, _, by omega, ?_, ?_, fun b hb => hSrs b (hS'r b (hS b hb)), hSrs D (hS'r D hD), hSrs l (hS'r l hl), hl4, (hkeep D (hS'r D hD) hDl).trans hDw, fun _ => Iff.rfl⟩
  ·refine hgr.trans ⟨fun b hb => hSrs b (hS'r b hb), fun b hb => ?_⟩
   rcases hgr3.2 b hb with h | h
   ·rcases hgr1.2 b h with h | h
    ·subst hSr; exact h.2.2
    ·exact .inr h
   ·exact .inr h
  ·refine ⟨hst.below.trans hB04, Nat.le_trans hst.b0 hB04.size, fun b hb => by rw [hs34]; exact hst3.sLt b hb, ?_, ?_, ?_, ?_, ?_, ?_, fun b hb => ⟨hSrs b (hS'r b (hst.keep b hb).1), (hkeep b (hS'r b (hst.keep b hb).1) (hFl b hb)).trans (hst.keep b hb).2⟩, fun t ht => by rw [hF0] at ht; omega⟩
   ·intro b t hb
    split
    ·rfl
    ·exact hst3.excl b t hb
   ·intro t b
    split
    ·exact Nat.zero_le _
    ·exact hst3.one t b
   ·intro t t' b hne
    split
    ·exact .inl rfl
    ·split
     ·exact .inr rfl
     ·exact hst3.dis t t' b hne
   ·intro t x hx
    have cells4 : ∀ b o, W3.heap[b]? = some o → isD o = true → W4.heap[b]? = W3.heap[b]? := fun b o hg hd => ho34 b fun e => by subst e; rw [hl3] at hg; injection hg with hg; subst hg; cases hd
    rcases ynk hx with hx | ⟨hx0, hx⟩
    ·obtain ⟨v, hv, hs⟩ := hst3.rel t x hx
     have hp := hst3.pin t (hE2 t x hx).1
     refine ⟨v, by rw [← hv]; exact hp.symm, .inr ?_⟩
     rw [if_neg (by rw [hx]; simp)]
     rcases hs with ⟨k1, _, _⟩ | hr
     ·exact absurd (hE2 t x hx).2 k1
     ·exact (Rv.frameC (fun _ h => h) (fun b C T fr _ hg => cells4 b _ hg rfl) _ _ _ _ (fun b o _ hg hd => cells4 b o hg hd) hr).le (Nat.le_add_left _ _)
    ·have hfr := hrest t x hx
     have : ∃ v, tmps[t]? = some v ∧ Rv P B0 W S' n v x (fun _ => 0) := by
      cases hk : lk Ek t with
      | none =>
       obtain ⟨v, hv, hs⟩ := hst.rel t x (by rw [yap, hk]; exact hx)
       rcases hs with ⟨k1, _, _⟩ | hr
       ·exact absurd (ycm hfr) k1
       ·exact ⟨v, hv, hr.cast fun b => (yf3 hr hfr b).symm⟩
      | some y => rw [hdis t x hx] at hk; cases hk
     obtain ⟨v, hv, hr⟩ := this
     refine ⟨v, hv, .inr ?_⟩
     rw [if_pos hx0]
     refine (Rv.frameC (fun b hb => hSrs b (hS'r b hb)) (fun b C T fr hb hg => hkeep b (hS'r b hb) fun e => by subst e; rw [hlw] at hg; cases hg) _ _ _ _ (fun b o hb _ _ => absurd hb (by simp)) hr).le (Nat.le_add_right _ _)
   ·intro t ht b
    have : lk E2 t = none := by
     rw [yap] at ht
     cases h : lk E2 t with
     | some y => rw [h] at ht; cases ht
     | none => rfl
    rw [if_pos this]
   ·intro t x r hx hr
    exfalso
    rcases ynk hx with hx | ⟨_, hx⟩
    ·rw [(hE2 t x hx).2] at hr; cases hr
    ·rw [ycm (hrest t x hx)] at hr; cases hr
 have hres : (Ending.returned (.bool ex.code.isNone) : Ending) = .returned (.bool ex.code.isNone) ∧ ∃ X', Btw P F B0 w0 S0 S tmps D l (ycb fn tmps ps c1 c2 D) ex.code (E2 ++ rest) X' W4 ∧ (ex = .normal → Grew X W W4) ∧ ∀ b, X' b → X b ∨ W.heap.size ≤ b := by
  refine ⟨rfl, _, hBtw, fun he => ?_, fun b hb => ?_⟩
  ·subst he
   refine ⟨hB04.os, hB04.tape, hB04.output, hB04.size, fun b hb hx => ?_⟩
   by_cases hbl : b = l
   ·subst hbl; rw [hl4, hlw]; rfl
   ·by_cases hbB : b < B0
    ·exact hB04.block b hbB
    ·exact hkeep b (by subst hSr; exact ⟨hb, (hXn b).1 hx, .inr (by omega)⟩) hbl
  ·obtain ⟨t, ht⟩ := hb
   split at ht
   ·exact (Nat.lt_irrefl 0 ht).elim
   ·rcases Nat.lt_or_ge b W.heap.size with hlt | hge
    ·left
     refine Classical.byContradiction fun hx => ?_
     have hown := St.lt (a := a3) hst3 t b ht
     have : Sr b := by subst hSr; exact ⟨hlt, (hXn b).1 hx, .inr hown.1⟩
     have := hst3.excl b t (hSrs b this)
     omega
    ·exact .inr hge
 cases ex with
 | normal => exact ⟨_, W4, hend', hres⟩
 | ret => exact ⟨_, W4, hend', hres⟩
 | exit id => exact ⟨_, W4, hend', hres⟩
end
end Go.Lf
end

section
namespace Go.Lf
open Go Go.RowKit
section
variable {P : Program} {cx : Cx}
theorem Tri.range (hlo0 : cx.lo = 0) {t : Nat} {ps : Array Tmp} {c1 c2 : Code} {env0 env : Env} (ks : List (Nat × Wk)) (henv : keepE ks env0 = env) {f : FuncId} {cs : List AV} {xss : List (List AV)} (hg : lk env0 t = some (.fn f cs)) (hv : cs.map (remode (fun _ => .any) 12) = cs) (hseq : SeqC P f cs xss)
  (lo : Nat) (hlo : 0 < lo) (hps : ps.toList.Nodup ∧ ∀ p ∈ ps.toList, lo ≤ p ∧ p < cx.N) (hlen : ∀ xs ∈ xss, xs.length = ps.size)
  (E : Nat → Env) (rest : Env) (m : Nat) (hE0 : env = E 0 ++ rest) (hE : ∀ k, k ≤ m → EnvB lo (E k) ∧ ∀ t x, lk rest t = some x → lk (E k) t = none) (hrest : EnvF rest)
  (hrounds : ∀ k xs, k < m → xss[k]? = some xs → ∃ E1, Tri P { cx with lo := lo } c1 (ps.toList.zip xs ++ E k) .normal E1 ∧ Tri P { cx with lo := lo } c2 E1 .normal (E (k + 1)))
  {ex : Ex} {Ex' : Env} (hlast : (m = xss.length ∧ ex = .normal ∧ Ex' = E m) ∨ (ex ≠ .normal ∧ EnvB lo Ex' ∧ ∃ xs E1, xss[m]? = some xs ∧ Tri P { cx with lo := lo } c1 (ps.toList.zip xs ++ E m) .normal E1 ∧ Tri P { cx with lo := lo } c2 E1 ex Ex')) :
  Tri P cx (.rangeFunc (.tmp t) ps c1 c2) env0 ex (Ex' ++ rest) := by
 intro ρ hρ F B0 w0 S0 ds a w Q hag0 hQ
 have hρ' := hρ hlo0
 subst hρ'
 obtain ⟨h1, h2, n, S, Os0, hn, hgr, hst00⟩ := hag0
 obtain ⟨lb, nf, hev, hrc⟩ : ∃ lb nf, a.eval (.tmp t) = .func (.func f) #[] lb ∧ Rc (Rv P B0 w S nf) lb.toList cs (fun _ => 0) := by
  obtain ⟨v, hv1, hs⟩ := hst00.rel t _ hg
  have hr := hs.rv rfl
  obtain ⟨q, rfl⟩ := hr.pos
  obtain ⟨vs, rfl, hz, hrc⟩ := hr
  refine ⟨vs, q, ?_, hrc.cast fun b => (hz b).symm⟩
  simp [Act.eval, zll, hv1]
 obtain ⟨Os, hst0⟩ := hst00.keepE hn ks
 rw [henv] at hst0
 have hnl : ∀ {A : Env}, EnvB lo A → ∀ t x, lk (A ++ rest) t = some x → zqf x = none := by
  intro A hA t x hx
  rcases ynk hx with hx | ⟨_, hx⟩
  ·exact (hA t x hx).2
  ·exact ycm (hrest t x hx)
 have hE0B := (hE 0 (Nat.zero_le _)).1
 have hN : a.tmps.size = cx.N := h2.1
 have hF0 : F.lo = 0 := h2.2.trans hlo0
 refine wpIn_rangeFunc fun fn _ => ?_
 obtain ⟨W1, hW1⟩ : ∃ W1, (w.alloc (.deferred (some []))).alloc (.loop (ycb fn a.tmps ps c1 c2 w.heap.size none)) = W1 := ⟨_, rfl⟩
 have hs1 : W1.heap.size = w.heap.size + 2 := by rw [← hW1]; simp
 have hB1 : Below w.heap.size w W1 := by rw [← hW1]; exact ((Below.refl _ w).alloc (zly _) _).alloc (by simp) _
 have hl1 : W1.heap[w.heap.size + 1]? = some (.loop (ycb fn a.tmps ps c1 c2 w.heap.size none)) := by
  rw [← hW1]; have := World.alloc_heap_new (w.alloc (.deferred (some []))) (.loop (ycb fn a.tmps ps c1 c2 w.heap.size none)); rwa [World.size_alloc] at this
 have hD1 : W1.heap[w.heap.size]? = some (.deferred (some [])) := by
  rw [← hW1]; exact (Below.heap_alloc _ _ _ (by simp)).trans (World.alloc_heap_new w _)
 have hst1 : St P F B0 w0 n (E 0 ++ rest) a.tmps W1 (fun b => S b ∨ b = w.heap.size ∨ b = w.heap.size + 1) Os := by
  refine (St.later (hE0 ▸ hst0) (hnl hE0B) hB1).share (fun b hb => .inl hb) fun b hb => ?_
  rcases hb with hb | hb
  ·exact .inl hb
  ·refine .inr ⟨by omega, fun t => ?_⟩
   rcases zlt (Os t b) with h0 | h0
   ·exact h0
   ·have := (St.lt (a := a) hst0 t b h0).2; omega
 have hgr1 : Grow B0 S0 (fun b => S b ∨ b = w.heap.size ∨ b = w.heap.size + 1) := by
  refine ⟨fun b hb => .inl (hgr.1 b hb), fun b hb => ?_⟩
  rcases hb with hb | hb
  ·exact hgr.2 b hb
  ·have := hst0.b0; exact .inr (by omega)
 refine ⟨w.heap.size + 1, [mark w.heap.size], W1, { target := .fn (.func f) lb, args := #[.func (.yield (w.heap.size + 1)) #[] #[]] }, W1, f, #[.func (.yield (w.heap.size + 1)) #[] #[]] ++ lb, W1, ?_, ?_, fun _ _ => trivial, ?_, (fun h => nomatch h), ?_⟩
 ·rw [← hW1]; exact run_enterLoop_outer _ _ _ _ _
 ·simp only [resolve, hev]
  simp [go_sem]
 ·have := hseq.1 (#[.func (.yield (w.heap.size + 1)) #[] #[]] ++ lb) W1
  simp [invoke, go_sem, this]
 ·refine yos ?_
  have harg : #[Value.func (.yield (w.heap.size + 1)) #[] #[]] ++ lb = (Value.func (.yield (w.heap.size + 1)) #[] #[] :: lb.toList).toArray := by simp
  rw [harg]
  have hrc1 : Rc (Rv P W1.heap.size W1 S nf) lb.toList cs (fun _ => 0) := by
   have g1 : Rc (Rv P B0 W1 S nf) lb.toList cs (fun _ => 0) := hrc.frame (fun _ h => h) (fun b hb => hB1.block b (hst0.sLt b hb)) fun b hb => absurd hb (by simp)
   have g2 := g1.map (g := remode (fun _ => .any) 12) (R' := Rv P W1.heap.size W1 S nf) fun v x O1 hO h => Rv.viewed (fun b hb => hb) nf 12 v x O1 (fun b hb => by have := hO b; omega) h
   rwa [hv] at g2
  have hFl : ∀ b, F.b b → b ≠ w.heap.size + 1 := fun b hb e => by have := hst0.sLt b (hst0.keep b hb).1; omega
  have hB0l : B0 ≤ w.heap.size + 1 := by have := hst0.b0; omega
  refine (hseq.2 W1 S nf lb.toList (w.heap.size + 1)
   (fun k X W => k ≤ m ∧ Btw P F B0 w0 S0 S a.tmps w.heap.size (w.heap.size + 1) (ycb fn a.tmps ps c1 c2 w.heap.size) none (E k ++ rest) X W ∧ W1.heap.size ≤ W.heap.size ∧ ∀ b, S b → W.heap[b]? = W1.heap[b]?)
   (fun k W => k = m ∧ ex ≠ .normal ∧ ∃ X, Btw P F B0 w0 S0 S a.tmps w.heap.size (w.heap.size + 1) (ycb fn a.tmps ps c1 c2 w.heap.size) ex.code (Ex' ++ rest) X W)
   (fun b hb => by have := hst0.sLt b hb; omega) hrc1 ?_ ?_ ?_ ?_ (fun b => ∃ t, 0 < Os t b) ?_).mono ?_
  ·rintro k X W W' ⟨hk, hb, hz, hS⟩ hB
   refine ⟨hk, hb.later (hnl (hE k hk).1) hB, Nat.le_trans hz hB.size, fun b hb' => (hB.block b ?_).trans (hS b hb')⟩
   have := hst0.sLt b hb'; omega
  ·rintro k W W' ⟨hk, hne, X, hb⟩ hB
   refine ⟨hk, hne, X, hb.later (hnl ?_) hB⟩
   rcases hlast with ⟨_, h, _⟩ | ⟨_, h, _⟩
   ·exact absurd h hne
   ·exact h
  ·rintro k X W ⟨hk, ⟨n', S', Os', hn', hgr', hst', hS', _, _, _, _, hX⟩, hz, hS⟩
   refine ⟨hz, fun b hb => ⟨hS b hb, fun hx => ?_⟩, fun b hx => ?_⟩
   ·obtain ⟨t, ht⟩ := (hX b).1 hx
    have := hst'.excl b t (hS' b hb); omega
   ·obtain ⟨t, ht⟩ := (hX b).1 hx
    exact (St.lt (a := a) hst' t b ht).2
  ·rintro k X W xs vs S2 m2 ⟨hk, hb, hz, hS⟩ hxs hS2 hvs
   have hx : xs.length = ps.size := hlen xs (List.mem_of_getElem? hxs)
   have hS2' : ∀ b, S2 b → (S b ∨ B0 ≤ b) ∧ b < W.heap.size ∧ ¬ X b := fun b hb => ⟨(hS2 b hb).1.imp id fun h => by have := hst0.b0; omega, (hS2 b hb).2⟩
   rcases Nat.lt_or_ge k m with hkm | hkm
   ·obtain ⟨E1, t1, t2⟩ := hrounds k xs hkm hxs
    obtain ⟨fn', tm', as', bo', hy, hr⟩ := yjz hlo hF0 hN hps (hE k hk).1 hrest (hE k hk).2 (hE (k + 1) hkm).1 hFl hB0l (by omega) t1 t2 hb hS2' (hvs B0) hx
    refine ⟨fn', tm', as', bo', hy, hr.mono ?_⟩
    rintro e W' ⟨rfl, X', hb', hgw, hX'⟩
    have hgw := hgw rfl
    refine .inl ⟨rfl, X', ⟨hkm, hb', Nat.le_trans hz hgw.size, fun b hb2 => (hgw.block b ?_ fun hx => ?_).trans (hS b hb2)⟩, hgw, hX'⟩
    ·have := hst0.sLt b hb2; omega
    ·obtain ⟨n', S', Os', hn', hgr', hst', hS', _, _, _, _, hX⟩ := hb
     obtain ⟨t, ht⟩ := (hX b).1 hx
     have := hst'.excl b t (hS' b hb2); omega
   ·have hkm' : k = m := by omega
    subst hkm'
    rcases hlast with ⟨h, _, _⟩ | ⟨hne, hEB, xs', E1, hxs', t1, t2⟩
    ·have := (zlk.1 hxs).1; omega
    ·rw [hxs] at hxs'; injection hxs' with hxs'; subst hxs'
     obtain ⟨fn', tm', as', bo', hy, hr⟩ := yjz hlo hF0 hN hps (hE k hk).1 hrest (hE k hk).2 hEB hFl hB0l (by omega) t1 t2 hb hS2' (hvs B0) hx
     refine ⟨fn', tm', as', bo', hy, hr.mono ?_⟩
     rintro e W' ⟨rfl, X', hb', hgw, hX'⟩
     refine .inr ⟨?_, rfl, hne, X', hb'⟩
     cases ex with
     | normal => exact absurd rfl hne
     | ret => rfl
     | exit id => rfl
  ·exact ⟨Nat.zero_le _, ⟨n, _, Os, hn, hgr1, hst1, fun b hb => .inl hb, .inr (.inl rfl), .inr (.inr rfl), hl1, hD1, fun _ => Iff.rfl⟩, zly _, fun _ _ => rfl⟩
  ·have fin : ∀ (pe : Option Code) (A : Env) (X : Nat → Prop) (W : World), Btw P F B0 w0 S0 S a.tmps w.heap.size (w.heap.size + 1) (ycb fn a.tmps ps c1 c2 w.heap.size) pe (A ++ rest) X W →
     ∃ W2, (Instr.endLoop (w.heap.size + 1)).run P W = .ok pe W2 ∧ AgM P F B0 w0 S0 cx ds (A ++ rest) { a with defers := [mark w.heap.size] ++ a.defers } W2 := by
    rintro pe A X W ⟨n', S', Os', hn', hgr', hst', hS', hD', hl', hlw, hDw, hX⟩
    have hrun := run_endLoop (P := P) hlw (by unfold ycb; cases pe <;> simp)
    refine ⟨_, hrun, [w.heap.size], n', S', Os', by simp, ?_, ?_, h2, hn', hgr', ?_⟩
    ·intro D hD
     have : D = w.heap.size := by simpa using hD
     subst this
     exact ⟨hst0.below.size, hD', (World.putObj_heap_other (by omega)).trans hDw⟩
    ·rw [← h1]; rfl
    ·exact hst'.other (ybe hB0l) (fun b hb => World.putObj_heap_other (hFl b hb)) fun b o hg hd => World.putObj_heap_other fun e => by subst e; rw [hlw] at hg; injection hg with hg; subst hg; cases hd
   rintro e W ⟨⟨v, rfl⟩, h⟩
   rcases h with ⟨X, hk, hb, _, _⟩ | ⟨k, hk, rfl, hne, X, hb⟩
   ·rcases hlast with ⟨hm, rfl, rfl⟩ | ⟨_, _, xs, _, hxs, _⟩
    ·subst hm
     obtain ⟨W2, h3, h4⟩ := fin none _ X W hb
     exact ⟨none, W2, h3, hQ _ _ h4⟩
    ·have := (zlk.1 hxs).1; omega
   ·obtain ⟨W2, h3, h4⟩ := fin ex.code _ X W hb
    refine ⟨ex.code, W2, h3, ?_⟩
    cases ex with
    | normal => exact absurd rfl hne
    | ret => exact wpIn_ret (hQ _ _ h4)
    | exit id => exact wpIn_exit (hQ _ _ h4)
end
end Go.Lf
end

section
namespace Go.Lf
open Go Go.RowKit
structure Hand where
 w : World
 S : Nat → Prop
 l : Nat
 J : Nat → (Nat → Prop) → World → Prop
 Jx : Nat → World → Prop
 xss : List (List AV)
structure Hand.Ok (P : Program) (p : Hand) : Prop where
 hS : ∀ b, p.S b → b < p.w.heap.size
 hJ : ∀ k X W W', p.J k X W → Below W.heap.size W W' → p.J k X W'
 hJx : ∀ k W W', p.Jx k W → Below W.heap.size W W' → p.Jx k W'
 hJS : ∀ k X W, p.J k X W → p.w.heap.size ≤ W.heap.size ∧ (∀ b, p.S b → W.heap[b]? = p.w.heap[b]? ∧ ¬ X b) ∧ ∀ b, X b → b < W.heap.size
 hY : ∀ k X W xs vs S' m, p.J k X W → p.xss[k]? = some xs → (∀ b, S' b → (p.S b ∨ p.w.heap.size ≤ b) ∧ b < W.heap.size ∧ ¬ X b) → (∀ B1, Rc (Rv P B1 W S' m) vs xs (fun _ => 0)) →
   YieldAt (Fi none) 0 P p.l vs.toArray W fun e W' => (e = .returned (.bool true) ∧ ∃ X', p.J (k + 1) X' W' ∧ Grew X W W' ∧ ∀ b, X' b → X b ∨ W.heap.size ≤ b) ∨ (e = .returned (.bool false) ∧ p.Jx k W')
def ItS (P : Program) (cx : Cx) (p : Hand) (env : Env) (X : Nat → Prop) (a : Act) (W : World) : Prop :=
 a.defers = [] ∧ a.tmps.size = cx.N ∧ ∃ (n : Nat) (S' : Nat → Prop), 0 < n ∧ (∀ b, S' b → (p.S b ∨ p.w.heap.size ≤ b) ∧ b < W.heap.size ∧ ¬ X b) ∧
  ∀ t x, lk env t = some x → ∃ v, a.tmps[t]? = some v ∧ ∀ B1, Rv P B1 W S' n v x (fun _ => 0)
def Itr (P : Program) (cx : Cx) (p : Hand) (c : Code) (env : Env) (k : Nat) (ex : Ex) (env' : Env) (k' : Nat) : Prop :=
 ∀ (a : Act) (X : Nat → Prop) (W : World) (Q : Exit → Act → World → Prop), ItS P cx p env X a W → p.J k X W → (∀ a' X' W', ItS P cx p env' X' a' W' → p.J k' X' W' → Q ex.out a' W') →
  (∀ (a' : Act) j W', j < p.xss.length → a'.defers = [] → p.Jx j W' → Q .ret a' W') → c.wpIn (Fi none) 0 P Q a W
def ItR (P : Program) (cx : Cx) (p : Hand) (c : Code) (n : Nat) (env : Env) (k : Nat) (ex : Ex) (env' : Env) (k' : Nat) : Prop :=
 ∀ (a : Act) (X : Nat → Prop) (W : World) (Q : Exit → Act → World → Prop), ItS P cx p env X a W → p.J k X W → (∀ a' X' W', ItS P cx p env' X' a' W' → p.J k' X' W' → Q ex.out a' W') →
  (∀ (a' : Act) j W', j < p.xss.length → a'.defers = [] → p.Jx j W' → Q .ret a' W') → Code.roundsIn (Fi none) 0 P c Q n a W
def Tri0 (P : Program) (cx : Cx) (c : Code) (env : Env) (ex : Ex) (env' : Env) : Prop :=
 ∀ (F : Frm) (B0 : Nat) (w0 : World) (S0 : Nat → Prop) (ds : List Deferred) (a : Act) (w : World) (Q : Exit → Act → World → Prop), Agree P F B0 w0 S0 cx ds env a w →
  (∀ a' w', Agree P F B0 w0 S0 cx ds env' a' w' → Q ex.out a' w') → c.wpIn (Fi none) 0 P Q a w
def viewed (x : AV) : Prop := yid x = true ∧ remode (fun _ => .any) 12 x = x
def EnvV (env : Env) : Prop := ∀ q ∈ env, viewed q.2
def EnvSub (env2 env : Env) : Prop := ∀ t x, lk env2 t = some x → lk env t = some x
section
variable {P : Program} {cx : Cx} {p : Hand} {H : Hints}
theorem EnvV.lk {env : Env} (h : EnvV env) {t : Nat} {x : AV} (hx : lk env t = some x) : viewed x := h _ (ynl hx)
def yby (id : Nat) : Code → Option Code
 | .region i ops d => if i = id then some (.region i ops d) else none
 | .seq a b => (yby id a).orElse fun _ => yby id b
 | .cond _ a b => (yby id a).orElse fun _ => yby id b
 | .block _ a => yby id a
 | .scope a => yby id a
 | .loop a => yby id a
 | .rangeFunc _ _ a b => (yby id a).orElse fun _ => yby id b
 | _ => none
def zqr (fn : Func) (id : Nat) : Code := match fn.body with
 | some c => (yby id c).getD .skip
 | none => .skip
def zql (fn : Func) (id : Nat) : Array Oper := match zqr fn id with
 | .region _ ops _ => ops
 | _ => #[]
def isReg : Code → Bool
 | .region .. => true
 | _ => false
theorem yat (hcx : CxBase P cx) (hK : ∀ f xs, cx.K f xs = none) (hM : ∀ f x, x ≠ .bad → cx.KM f x = none) {c : Code} (hc : isReg c = true) {env env' : Env} {ex : Ex} {ans ans' : List Ans} {ps : List Prop}
  (h : evA P cx H c env ans = some ((ex, env'), ans', ps)) (hp : ∀ q ∈ ps, q) : Tri0 P cx c env ex env' := by
 cases c with
 | region id ops draw =>
  intro F B0 w0 S0 ds a w Q hag hQ
  simp only [evA] at h
  split at h
  ·rename_i env2 as2 ps2 hr
   injection h with h; injection h with h1 h2; injection h1 with h1 h3; injection h2 with h2 h4; subst h1 h2 h3 h4
   exact yea none hcx hK hM hr hp hag fun a' w' ha => hQ a' w' ha.keep
  ·cases h
 | _ => cases hc
theorem ItS.agree (hlo : cx.lo = 0) {env : Env} {X : Nat → Prop} {a : Act} {W : World} (h : ItS P cx p env X a W) :
  ∃ S', (∀ b, S' b → (p.S b ∨ p.w.heap.size ≤ b) ∧ b < W.heap.size ∧ ¬ X b) ∧ Agree P ⟨fun _ => False, 0, #[]⟩ W.heap.size W S' cx [] env a W := by
 obtain ⟨hd, hN, n, S', hn, hS', hrel⟩ := h
 refine ⟨S', hS', hd, ⟨hN, hlo.symm⟩, n, S', fun _ _ => 0, hn, .refl _ _, Below.refl _ _, zly _, fun b hb => (hS' b hb).2.1, fun _ _ _ => rfl, fun _ _ => Nat.zero_le _, fun _ _ _ _ => .inl rfl, ?_, fun _ _ _ => rfl, ?_, fun _ h => h.elim, fun _ h => absurd h (Nat.not_lt_zero _)⟩
 ·intro t x hx
  obtain ⟨v, hv, hr⟩ := hrel t x hx
  exact ⟨v, hv, .inr (hr _)⟩
 ·intro t x r hx hr
  obtain ⟨v, hv, hrv⟩ := hrel t x hx
  rw [(hrv 0).noLeaf] at hr; cases hr
theorem ItS.back (hp : p.Ok P) {k : Nat} {env env2 : Env} {X : Nat → Prop} {a' : Act} {W W' : World} {S' : Nat → Prop} (hJ : p.J k X W) (hS' : ∀ b, S' b → (p.S b ∨ p.w.heap.size ≤ b) ∧ b < W.heap.size ∧ ¬ X b)
  (hag : Agree P ⟨fun _ => False, 0, #[]⟩ W.heap.size W S' cx [] env a' W') (hv : EnvV env2) (hs : EnvSub env2 env) : ItS P cx p env2 X a' W' ∧ Below W.heap.size W W' ∧ p.J k X W' := by
 obtain ⟨hd, hN, n, S1, Os, hn, hgr, hst⟩ := hag
 refine ⟨⟨hd, hN.1, n, S1, hn, fun b hb => ?_, fun t x hx => ?_⟩, hst.below, hp.hJ _ _ _ _ hJ hst.below⟩
 ·have hz := (hp.hJS k X W hJ).1
  rcases hgr.2 b hb with h | h
  ·exact ⟨(hS' b h).1, hst.sLt b hb, (hS' b h).2.2⟩
  ·exact ⟨.inr (by omega), hst.sLt b hb, fun hx => by have := (hp.hJS k X W hJ).2.2 b hx; omega⟩
 ·obtain ⟨v, hv1, hs1⟩ := hst.rel t x (hs t x hx)
  obtain ⟨h1, h2⟩ := hv.lk hx
  have hr := hs1.rv (ycm h1)
  refine ⟨v, hv1, fun B1 => ?_⟩
  have := Rv.viewed (B1 := B1) (fun b hb => hb) n 12 v x (Os t) (fun b hb => by have := yf3 hr h1 b; omega) hr
  rwa [h2] at this
theorem Itr.seg (hp : p.Ok P) (hlo : cx.lo = 0) {c : Code} {env env' env2 : Env} {ex : Ex} {k : Nat} (h : Tri0 P cx c env ex env') (hv : EnvV env2) (hs : EnvSub env2 env') : Itr P cx p c env k ex env2 k := by
 intro a X W Q hi hJ hQ hX
 obtain ⟨S', hS', hag⟩ := hi.agree hlo
 refine h _ _ _ _ _ _ _ _ hag fun a' W' ha => ?_
 obtain ⟨h1, _, h3⟩ := ItS.back hp hJ hS' ha hv hs
 exact hQ a' X W' h1 h3
theorem Itr.seq {c d : Code} {env env1 env' : Env} {ex : Ex} {k k1 k' : Nat} (h1 : Itr P cx p c env k .normal env1 k1) (h2 : Itr P cx p d env1 k1 ex env' k') : Itr P cx p (.seq c d) env k ex env' k' := by
 intro a X W Q hi hJ hQ hX
 exact wpIn_seq (h1 a X W _ hi hJ (fun a' X' W' hi' hJ' => h2 a' X' W' Q hi' hJ' hQ hX) hX)
theorem Itr.seqX {c d : Code} {env env' : Env} {ex : Ex} {k k' : Nat} (h1 : Itr P cx p c env k ex env' k') (hne : ex ≠ .normal) : Itr P cx p (.seq c d) env k ex env' k' := by
 intro a X W Q hi hJ hQ hX
 refine wpIn_seq (h1 a X W _ hi hJ (fun a' X' W' hi' hJ' => ?_) hX)
 cases ex with
 | normal => exact absurd rfl hne
 | exit id => exact hQ a' X' W' hi' hJ'
 | ret => exact hQ a' X' W' hi' hJ'
theorem Itr.block {id : Nat} {c : Code} {env env' : Env} {k k' : Nat} {ex ex' : Ex} (h : Itr P cx p c env k ex env' k') (he : (ex = .exit id ∧ ex' = .normal) ∨ (ex ≠ .exit id ∧ ex' = ex)) : Itr P cx p (.block id c) env k ex' env' k' := by
 intro a X W Q hi hJ hQ hX
 refine wpIn_block (h a X W _ hi hJ (fun a' X' W' hi' hJ' => ?_) hX)
 rcases he with ⟨rfl, rfl⟩ | ⟨hne, rfl⟩
 ·simp only [Ex.out, Exit.inBlock, if_true]; exact hQ a' X' W' hi' hJ'
 ·cases ex' with
  | normal => exact hQ a' X' W' hi' hJ'
  | ret => exact hQ a' X' W' hi' hJ'
  | exit id' =>
   have : id' ≠ id := fun e => hne (e ▸ rfl)
   simp only [Ex.out, Exit.inBlock, this, if_false]; exact hQ a' X' W' hi' hJ'
theorem ItS.bool {env : Env} {X : Nat → Prop} {a : Act} {W : World} (h : ItS P cx p env X a W) {t : Nat} {b : Bool} (hl : lk env t = some (.atom (.bool b))) : a.eval (.tmp t) = .bool b := by
 obtain ⟨_, _, n, S', hn, _, hrel⟩ := h
 obtain ⟨v, hv, hr⟩ := hrel t _ hl
 obtain ⟨m, rfl⟩ : ∃ m, n = m + 1 := ⟨n - 1, by omega⟩
 have := (hr 0).1
 subst this
 simp [Act.eval, zll, hv]
theorem Itr.cond {t : Nat} {b : Bool} {c d : Code} {env env' : Env} {ex : Ex} {k k' : Nat} (hl : lk env t = some (.atom (.bool b))) (h : Itr P cx p (if b = true then c else d) env k ex env' k') : Itr P cx p (.cond (.tmp t) c d) env k ex env' k' := by
 intro a X W Q hi hJ hQ hX
 have hb := hi.bool hl
 cases b with
 | true => exact wpIn_cond_true hb (h a X W Q hi hJ hQ hX)
 | false => exact wpIn_cond_false hb (h a X W Q hi hJ hQ hX)
theorem ItS.sub {env env2 : Env} {X : Nat → Prop} {a : Act} {W : World} (h : ItS P cx p env X a W) (hs : EnvSub env2 env) : ItS P cx p env2 X a W := by
 obtain ⟨hd, hN, n, S', hn, hS', hrel⟩ := h
 exact ⟨hd, hN, n, S', hn, hS', fun t x hx => hrel t x (hs t x hx)⟩
theorem Itr.skip {env env2 : Env} {k : Nat} (hs : EnvSub env2 env) : Itr P cx p .skip env k .normal env2 k := fun _ _ _ _ hi hJ hQ _ => wpIn_skip (hQ _ _ _ (hi.sub hs) hJ)
theorem Itr.exit {id : Nat} {env env2 : Env} {k : Nat} (hs : EnvSub env2 env) : Itr P cx p (.exit id) env k (.exit id) env2 k := fun _ _ _ _ hi hJ hQ _ => wpIn_exit (hQ _ _ _ (hi.sub hs) hJ)
theorem Itr.ret {env env2 : Env} {k : Nat} (hs : EnvSub env2 env) : Itr P cx p .ret env k .ret env2 k := fun _ _ _ _ hi hJ hQ _ => wpIn_ret (hQ _ _ _ (hi.sub hs) hJ)
theorem ItR.step {c : Code} {n : Nat} {env env1 env' : Env} {ex : Ex} {k k1 k' : Nat} (h : Itr P cx p c env k .normal env1 k1) (h2 : ItR P cx p c n env1 k1 ex env' k') : ItR P cx p c (n + 1) env k ex env' k' := by
 intro a X W Q hi hJ hQ hX
 rw [roundsIn_succ]
 exact h a X W _ hi hJ (fun a' X' W' hi' hJ' => h2 a' X' W' Q hi' hJ' hQ hX) hX
theorem ItR.exit {c : Code} {n : Nat} {env env' : Env} {ex : Ex} {k k' : Nat} (h : Itr P cx p c env k ex env' k') (hne : ex ≠ .normal) : ItR P cx p c (n + 1) env k ex env' k' := by
 intro a X W Q hi hJ hQ hX
 rw [roundsIn_succ]
 refine h a X W _ hi hJ (fun a' X' W' hi' hJ' => ?_) hX
 cases ex with
 | normal => exact absurd rfl hne
 | exit id => exact hQ a' X' W' hi' hJ'
 | ret => exact hQ a' X' W' hi' hJ'
theorem ItR.loop {c : Code} {n : Nat} {env env' : Env} {ex : Ex} {k k' : Nat} (h : ItR P cx p c n env k ex env' k') : Itr P cx p (.loop c) env k ex env' k' :=
 fun a X W Q hi hJ hQ hX => wpIn_loop_rounds n (h a X W Q hi hJ hQ hX)
variable {F : Frm} {B0 : Nat} {w0 : World} {S0 : Nat → Prop} {ds : List Deferred} {Q : Exit → Act → World → Prop}
theorem ycp {ρ : Option Nat} {ops : Array Oper} (rest : List Oper) : ∀ (os : List Oper) {env : Env} {es : List (List Nat × Eff)} {a : Act} {w : World}, es.length = os.length →
  (∀ i o, os[i]? = some o → ∃ x cxi, es[i]? = some x ∧ CxOk P cxi ∧ cxi.N = cx.N ∧ cxi.lo = cx.lo ∧ (ybk cxi ops o).run (atE es i env) = some x) → Agree P F B0 w0 S0 cx ds env a w →
  (∀ a' w', Agree P F B0 w0 S0 cx ds (es.foldl (fun env x => zqi x.2 env) env) a' w' → wpListIn (Fi ρ) 0 P ops Q rest a' w') → wpListIn (Fi ρ) 0 P ops Q (os ++ rest) a w
 | [], env, es, a, w, hl, _, hag, hQ => by
  have : es = [] := zli hl
  subst this
  exact hQ a w hag
 | o :: os, env, [], a, w, hl, _, _, _ => by simp at hl
 | o :: os, env, x :: es, a, w, hl, hstep, hag, hQ => by
  obtain ⟨hd, hN, n, S, Os, hn, hgr, hst⟩ := hag
  obtain ⟨x', cxi, hx, hci, hcN, hcl, hrun⟩ := hstep 0 o rfl
  have : x' = x := by simpa using hx.symm
  subst this
  have hrun' : (ybk cxi ops o).run env = some (x'.1, x'.2) := hrun
  have key := fun Q' => ydd ρ (Q := Q') hci hst hn (by rw [hcN, hcl]; exact hN) hrun'
  have next : ∀ a' w', Post P F B0 w0 S cxi env x'.2 a a' w' → wpListIn (Fi ρ) 0 P ops Q (os ++ rest) a' w' := by
   intro a' w' ⟨h1, h2, n', S', Os', k1, k2, k3⟩
   rw [hcN, hcl] at h2
   exact ycp rest os (by simpa using hl) (fun i o h => by
    obtain ⟨y, cxj, g1, g2⟩ := hstep (i + 1) o (by simpa using h)
    exact ⟨y, cxj, by simpa using g1, g2⟩) ⟨h1.trans hd, h2, n', S', Os', k1, hgr.trans k2, k3⟩ hQ
  show wpListIn (Fi ρ) 0 P ops Q (o :: (os ++ rest)) a w
  unfold wpListIn
  have k1 := key Q
  split
  ·rename_i hw
   rw [if_pos hw] at k1
   exact Oper.wpIn_mono next k1
  ·rename_i hw
   rw [if_neg hw] at k1
   exact ⟨fun _ _ => trivial, next _ _ k1⟩
def ybr (P : Program) (cx : Cx) (ops : Array Oper) (os : List Oper) (env : Env) (an : List Ans) : Option (Env × List Prop) :=
 match yeb P cx ops os env an with
 | some ((_, env'), _, ps) => some (env', ps)
 | none => none
theorem ybf {ops : Array Oper} {os : List Oper} {env env' : Env} {an : List Ans} {ps : List Prop} (h : ybr P cx ops os env an = some (env', ps)) : ∃ ls as', yeb P cx ops os env an = some ((ls, env'), as', ps) := by
 unfold ybr at h
 split at h
 ·rename_i ls e as' qs he
  injection h with h; injection h with h1 h2; subst h1 h2
  exact ⟨ls, as', he⟩
 ·cases h
def argT (env : Env) : List Operand → Option (List AV)
 | [] => some []
 | .tmp t :: l => match lk env t, argT env l with
  | some x, some xs => some (x :: xs)
  | _, _ => none
 | _ => none
theorem Itr.yield (hp : p.Ok P) (hcx : CxBase P cx) (hlo : cx.lo = 0) (hK : ∀ f xs, cx.K f xs = none) (hM : ∀ f x, x ≠ .bad → cx.KM f x = none) {id : Nat} {ops : Array Oper} {pre post : List Oper} {y : Oper} {g d b : Nat} {args : Array Operand} {ats : Array TypeId}
  (hops : ops.toList = pre ++ y :: post) (hy : y.op = .call { callee := .value (.tmp g), args := args, argTypes := ats }) (hyg : y.guard = none) (hyd : y.dst = some d) (hdN : d < cx.N)
  {env env1 env1v env2 env2v env3 : Env} {as1 as2 as3 : List Ans} {ps1 ps2 ps3 : List Prop} {k : Nat} {xs : List AV}
  (hpre : ybr P cx ops pre env as1 = some (env1, ps1)) (hp1 : ∀ q ∈ ps1, q) (hv1 : EnvV env1v) (hs1 : EnvSub env1v env1) 
  (hg : lk env1v g = some (.atom (.func (.yield p.l) #[] #[]))) (harg : argT env1v args.toList = some xs) (hxs : p.xss[k]? = some xs)
  (hpt : ybr P cx ops post ((d, .atom (.bool true)) :: env1v) as2 = some (env2, ps2)) (hp2 : ∀ q ∈ ps2, q) (hbt : lk env2 b = some (.atom (.bool false))) (hv2 : EnvV env2v) (hs2 : EnvSub env2v env2)
  (hpf : ybr P cx ops post [(d, .atom (.bool false))] as3 = some (env3, ps3)) (hp3 : ∀ q ∈ ps3, q) (hbf : lk env3 b = some (.atom (.bool true))) :
  Itr P cx p (.seq (.region id ops false) (.cond (.tmp b) .ret .skip)) env k .normal env2v (k + 1) := by
 intro a X W Q hi hJ hQ hX
 obtain ⟨ls1, as1', hpre⟩ := ybf hpre
 obtain ⟨ls2, as2', hpt⟩ := ybf hpt
 obtain ⟨ls3, as3', hpf⟩ := ybf hpf
 refine wpIn_seq (wpIn_region_list ?_)
 rw [hops]
 obtain ⟨S', hS', hag⟩ := hi.agree hlo
 obtain ⟨es, e1, _, _, rfl, e4⟩ := zrl hcx hK hM hpre hp1
 refine ycp (y :: post) pre e1 e4 hag fun a1 W1 hag1 => ?_
 obtain ⟨hi1, hB1, hJ1⟩ := ItS.back hp hJ hS' hag1 hv1 hs1
 unfold wpListIn
 have hw : Region.wanted y (yielded ops a1.tmps) = true := by unfold Region.wanted; rw [hyg]
 rw [if_pos hw]
 -- what follows, whatever the answer
 have after : ∀ (q : Bool) (e4 env4 : Env) (as4 as4' : List Ans) (ls4 : List Log) (ps4 : List Prop), yeb P cx ops post ((d, .atom (.bool q)) :: e4) as4 = some ((ls4, env4), as4', ps4) → (∀ r ∈ ps4, r) →
   ∀ (a2 : Act) (W2 : World) (S2 : Nat → Prop), Agree P ⟨fun _ => False, 0, #[]⟩ W2.heap.size W2 S2 cx [] ((d, .atom (.bool q)) :: e4) a2 W2 → ∀ Q2 : Exit → Act → World → Prop,
   (∀ a3 W3, Agree P ⟨fun _ => False, 0, #[]⟩ W2.heap.size W2 S2 cx [] env4 a3 W3 → Q2 .normal a3 W3) → wpListIn (Fi none) 0 P ops Q2 post a2 W2 := by
  intro q e4 env4 as4 as4' ls4 ps4 h4 hp4 a2 W2 S2 hag2 Q2 hQ2
  obtain ⟨es4, f1, _, _, rfl, f4⟩ := zrl hcx hK hM h4 hp4
  exact ydp none post f1 f4 hag2 hQ2
 -- the call
 obtain ⟨hd1', hN1, n1, S1, hn1, hS1, hrel1⟩ := (show ItS P cx p env1v X a1 W1 from hi1)
 obtain ⟨vs, hvs, hrc⟩ : ∃ vs : List Value, args.toList.map a1.eval = vs ∧ ∀ B1, Rc (Rv P B1 W1 S1 n1) vs xs (fun _ => 0) := by
  refine ⟨_, rfl, ?_⟩
  clear hy hxs
  generalize args.toList = al at harg
  induction al generalizing xs with
  | nil => injection harg with harg; subst harg; exact fun _ => .nil fun _ => rfl
  | cons o al ih =>
   cases o with
   | tmp t =>
    simp only [argT] at harg
    cases hl : lk env1v t with
    | none => rw [hl] at harg; cases harg
    | some x =>
     cases hr : argT env1v al with
     | none => rw [hl, hr] at harg; cases harg
     | some ys =>
      rw [hl, hr] at harg
      injection harg with harg; subst harg
      obtain ⟨v, hv, hrv⟩ := hrel1 t x hl
      intro B1
      have he : a1.eval (.tmp t) = v := by simp [Act.eval, zll, hv]
      rw [List.map_cons, he]
      exact .cons (hrv B1) (ih hr B1) fun _ => rfl
   | _ => cases harg
 have hgv : a1.eval (.tmp g) = .func (.yield p.l) #[] #[] := by
  obtain ⟨v, hv, hr⟩ := hrel1 g _ hg
  obtain ⟨m, rfl⟩ : ∃ m, n1 = m + 1 := ⟨n1 - 1, by omega⟩
  have := (hr 0).1
  subst this
  simp [Act.eval, zll, hv]
 obtain ⟨fn, tm, as', bo, hyy, hround⟩ := hp.hY k X W1 xs vs S1 n1 hJ1 hxs hS1 hrc
 have hargs : args.map a1.eval = vs.toArray := by rw [← hvs, ← Array.toList_map, Array.toArray_toList]
 have hrun : (execOp a1.eval y).run P W1 = .ok (.round p.l fn tm as' bo) W1 := by
  rw [execOp, hy]
  simp [resolve, hgv, hargs, Deferred.ofValue, invoke, hyy]
 refine ⟨fun _ _ => trivial, ?_⟩
 rw [show (Fi none).round = none from rfl, Oper.semAt_eq _ _ _ (by rw [hy]; intro c h; cases h), hrun, Oper.uponIn_round]
 refine ⟨(fun h => nomatch h), hround.mono ?_⟩
 have hdT : d < a1.tmps.size := by rw [hN1]; exact hdN
 -- the slots behind the call
 have slots : ∀ (q : Bool) (W2 : World) (X2 : Nat → Prop), (∀ b, S1 b → W2.heap[b]? = W1.heap[b]? ∧ ¬ X2 b) → W1.heap.size ≤ W2.heap.size → ItS P cx p ((d, .atom (.bool q)) :: env1v) X2 (a1.put y.dst (.bool q)) W2 := by
  intro q W2 X2 hW2 hsz
  refine ⟨by rw [hyd]; exact hd1', by rw [hyd]; simpa [Act.put] using hN1, n1, S1, hn1, fun b hb => ⟨(hS1 b hb).1, Nat.lt_of_lt_of_le (hS1 b hb).2.1 hsz, (hW2 b hb).2⟩, fun t x hx => ?_⟩
  rw [hyd]
  simp only [lk] at hx
  split at hx
  ·rename_i e; subst e
   injection hx with hx; subst hx
   refine ⟨.bool q, by simp [Act.put, hdT], fun B1 => ?_⟩
   obtain ⟨m, rfl⟩ : ∃ m, n1 = m + 1 := ⟨n1 - 1, by omega⟩
   exact ⟨rfl, fun _ => rfl⟩
  ·rename_i e
   obtain ⟨v, hv, hr⟩ := hrel1 t x hx
   refine ⟨v, by simp [Act.put, Array.getElem?_setIfInBounds_ne e, hv], fun B1 => Rv.frame (fun _ h => h) (fun b hb => (hW2 b hb).1) _ _ _ _ (fun b hb => absurd hb (by simp)) (hr B1)⟩
 rintro e W2 (⟨rfl, X2, hJ2, hgw, hX2⟩ | ⟨rfl, hJ2⟩)
 ·have hi2 := slots true W2 X2 (fun b hb => ⟨hgw.block b (hS1 b hb).2.1 (hS1 b hb).2.2, fun hx => by
   rcases hX2 b hx with h | h
   ·exact (hS1 b hb).2.2 h
   ·have := (hS1 b hb).2.1; omega⟩) hgw.size
  obtain ⟨S2, hS2, hag2⟩ := hi2.agree hlo
  refine after true _ _ _ _ _ _ hpt hp2 _ _ _ hag2 _ fun a3 W3 hag3 => ?_
  obtain ⟨hi3, _, hJ3⟩ := ItS.back hp hJ2 hS2 hag3 hv2 hs2
  exact wpIn_cond_false (hag3.bool hbt) (wpIn_skip (hQ _ _ _ hi3 hJ3))
 ·have hi2 : ItS P cx p [(d, .atom (.bool false))] (fun _ => False) (a1.put y.dst (.bool false)) W2 := by
   refine ⟨by rw [hyd]; exact hd1', by rw [hyd]; simpa [Act.put] using hN1, 1, fun _ => False, Nat.one_pos, fun b hb => hb.elim, fun t x hx => ?_⟩
   rw [hyd]
   simp only [lk] at hx
   split at hx
   ·rename_i e; subst e
    injection hx with hx; subst hx
    exact ⟨.bool false, by simp [Act.put, hdT], fun B1 => ⟨rfl, fun _ => rfl⟩⟩
   ·cases hx
  obtain ⟨S2, hS2, hag2⟩ := hi2.agree hlo
  refine after false _ _ _ _ _ _ hpf hp3 _ _ _ hag2 _ fun a3 W3 hag3 => ?_
  obtain ⟨hd3, _, n3, S3, Os3, _, _, hst3⟩ := (show Agree P _ _ _ _ _ _ _ _ _ from hag3)
  exact wpIn_cond_true (hag3.bool hbf) (wpIn_ret (hX a3 k W3 (zlk.1 hxs).1 hd3 (hp.hJx _ _ _ hJ2 hst3.below)))
end
end Go.Lf
end

section
namespace Go.Lf
open Go Go.RowKit
section
variable {P : Program} {cx : Cx}
theorem seqT {f : FuncId} {fn : Func} {c : Code} {cs : List AV} {xss : List (List AV)} {ex : Ex} (hf : P.funcs[f]? = some fn) (hname : (fn.name == "runtime.NumGoroutine") = false) (hb : fn.body = some c) (hN : fn.ntmps = cx.N) (hres : fn.results = #[]) (hlen : cs.length + 1 ≤ cx.N)
  (hcs : ∀ x ∈ cs, viewed x) (h : ∀ p : Hand, p.Ok P → p.xss = xss → ∃ env', Itr P cx p c (yc8 (.atom (.func (.yield p.l) #[] #[]) :: cs)) 0 ex env' xss.length) (hex : ex = .normal ∨ ex = .ret) : SeqC P f cs xss := by
 refine ⟨?_, ?_⟩
 ·intro args w
  have hn' : ¬ (fn.name = "runtime.NumGoroutine") := by simpa using hname
  simp [callFunc, hf, hn', hb]
 ·intro w S n lb l J Jx hS hrc hJ hJx hJS hY X hJ0
  obtain ⟨env', hit⟩ := h ⟨w, S, l, J, Jx, xss⟩ ⟨hS, hJ, hJx, hJS, hY⟩ rfl
  refine calls_of_wp hf hb ?_
  refine (wpIn_wide (n := 0)).1 ?_
  have hll := hrc.length
  have hsz : ((Value.func (.yield l) #[] #[] :: lb).toArray).size ≤ cx.N := by simp; omega
  have hlt : ∀ (t : Nat) (v : Value), (Value.func (.yield l) #[] #[] :: lb)[t]? = some v → ((Value.func (.yield l) #[] #[] :: lb).toArray ++ Array.replicate (fn.ntmps - (Value.func (.yield l) #[] #[] :: lb).toArray.size) undef)[t]? = some v := by
   intro t v hv
   have htl : t < (Value.func (.yield l) #[] #[] :: lb).length := (zlk.1 hv).1
   rw [Array.getElem?_append_left (by simpa using htl)]
   simpa using hv
  have hi : ItS P cx ⟨w, S, l, J, Jx, xss⟩ (yc8 (.atom (.func (.yield l) #[] #[]) :: cs)) X { tmps := (Value.func (.yield l) #[] #[] :: lb).toArray ++ Array.replicate (fn.ntmps - (Value.func (.yield l) #[] #[] :: lb).toArray.size) undef, defers := [] } w := by
   refine ⟨rfl, by rw [Array.size_append, Array.size_replicate, hN]; omega, n + 1, S, Nat.succ_pos n, fun b hb => ⟨.inl hb, hS b hb, ((hJS 0 X w hJ0).2.1 b hb).2⟩, fun t x hx => ?_⟩
   rw [yj9] at hx
   cases t with
   | zero =>
    injection hx with hx; subst hx
    exact ⟨_, hlt 0 _ rfl, fun B1 => ⟨rfl, fun _ => rfl⟩⟩
   | succ t =>
    have hx' : cs[t]? = some x := by simpa using hx
    obtain ⟨v, O1, hv, hr, hO⟩ := hrc.get hx'
    refine ⟨v, hlt (t + 1) v (by simpa using hv), fun B1 => ?_⟩
    obtain ⟨_, h2⟩ := hcs x (List.mem_of_getElem? hx')
    have := Rv.viewed (B1 := B1) (fun b hb => hb) n 12 v x O1 (fun b hb => by have := hO b; simp at this; omega) hr
    rw [h2] at this
    exact this.le (Nat.le_succ n)
  have hret : ∀ (a' : Act) (W' : World), (results fn a'.tmps).run P W' = .ok (.tuple #[]) W' := by
   intro a' W'
   simp [results, hres]
  refine hit _ X w _ hi hJ0 (fun a' X' W' hi' hJ' => ?_) fun a' j W' hj hd hx => ⟨hd, _, hret a' W', ⟨_, rfl⟩, .inr ⟨j, hj, hx⟩⟩
  rcases hex with rfl | rfl
  ·exact ⟨hi'.1, _, hret a' W', ⟨_, rfl⟩, .inl ⟨X', hJ'⟩⟩
  ·exact ⟨hi'.1, _, hret a' W', ⟨_, rfl⟩, .inl ⟨X', hJ'⟩⟩
end
end Go.Lf
end

section
namespace Go.Lf
open Go Go.RowKit
theorem EnvB.nil {lo : Nat} : EnvB lo [] := fun t x h => by simp [lk] at h
theorem EnvB.cons {lo t : Nat} {x : AV} {l : Env} (h1 : t < lo) (h2 : zqf x = none) (h : EnvB lo l) : EnvB lo ((t, x) :: l) := by
 intro t' y hy
 simp only [lk] at hy
 split at hy
 ·rename_i e; subst e; injection hy with hy; subst hy; exact ⟨h1, h2⟩
 ·exact h t' y hy
theorem EnvF.nil : EnvF [] := fun t x h => by simp [lk] at h
theorem ybs {α : Prop} {t : Nat} {x : AV} (h : lk [] t = some x) : α := by simp [lk] at h
section
variable {P : Program} {cx : Cx} {α : Type}
theorem Tri.rangeAll (hlo0 : cx.lo = 0) {t : Nat} {ps : Array Tmp} {c1 c2 : Code} {env0 : Env} (ks : List (Nat × Wk)) {f : FuncId} {cs : List AV} (hg : lk env0 t = some (.fn f cs)) (hv : cs.map (remode (fun _ => .any) 12) = cs) (xs : List α) (enc : α → List AV) (hseq : SeqC P f cs (xs.map enc))
  (lo : Nat) (hlo : 0 < lo) (hps : ps.toList.Nodup ∧ ∀ p ∈ ps.toList, lo ≤ p ∧ p < cx.N) (hlen : ∀ x, (enc x).length = ps.size)
  (E : List α → Env) (rest : Env) (hE0 : keepE ks env0 = E [] ++ rest) (hE : ∀ pre, EnvB lo (E pre)) (hd : ∀ pre t x, lk rest t = some x → lk (E pre) t = none) (hrest : EnvF rest)
  (hr : ∀ pre x post, xs = pre ++ x :: post → ∃ E1, Tri P { cx with lo := lo } c1 (ps.toList.zip (enc x) ++ E pre) .normal E1 ∧ Tri P { cx with lo := lo } c2 E1 .normal (E (pre ++ [x]))) :
  Tri P cx (.rangeFunc (.tmp t) ps c1 c2) env0 .normal (E xs ++ rest) := by
 refine Tri.range hlo0 ks rfl hg hv hseq lo hlo hps (fun ys hy => ?_) (fun k => E (xs.take k)) rest xs.length (by simpa using hE0) (fun k _ => ⟨hE _, hd _⟩) hrest (fun k ys hk hy => ?_) (Ex' := E xs) (.inl ⟨by simp, rfl, by simp⟩)
 ·obtain ⟨x, _, rfl⟩ := List.mem_map.1 hy
  exact hlen x
 ·have hx : xs[k]? = some xs[k] := zle hk
  rw [List.getElem?_map, hx] at hy
  injection hy with hy; subst hy
  have := hr (xs.take k) xs[k] (xs.drop (k + 1)) (by rw [← List.drop_eq_getElem_cons hk, List.take_append_drop])
  rw [List.take_append_getElem] at this
  exact this
theorem Tri.rangeStop (hlo0 : cx.lo = 0) {t : Nat} {ps : Array Tmp} {c1 c2 : Code} {env0 : Env} (ks : List (Nat × Wk)) {f : FuncId} {cs : List AV} (hg : lk env0 t = some (.fn f cs)) (hv : cs.map (remode (fun _ => .any) 12) = cs) (xs : List α) (enc : α → List AV) (hseq : SeqC P f cs (xs.map enc))
  (lo : Nat) (hlo : 0 < lo) (hps : ps.toList.Nodup ∧ ∀ p ∈ ps.toList, lo ≤ p ∧ p < cx.N) (hlen : ∀ x, (enc x).length = ps.size)
  (E : List α → Env) (rest : Env) (hE0 : keepE ks env0 = E [] ++ rest) (hE : ∀ pre, EnvB lo (E pre)) (hd : ∀ pre t x, lk rest t = some x → lk (E pre) t = none) (hrest : EnvF rest)
  (pre0 : List α) (x0 : α) (post0 : List α) (hxs : xs = pre0 ++ x0 :: post0)
  (hr : ∀ pre x post, pre0 = pre ++ x :: post → ∃ E1, Tri P { cx with lo := lo } c1 (ps.toList.zip (enc x) ++ E pre) .normal E1 ∧ Tri P { cx with lo := lo } c2 E1 .normal (E (pre ++ [x])))
  {ex : Ex} {Ex' : Env} (hne : ex ≠ .normal) (hEx : EnvB lo Ex') (hl : ∃ E1, Tri P { cx with lo := lo } c1 (ps.toList.zip (enc x0) ++ E pre0) .normal E1 ∧ Tri P { cx with lo := lo } c2 E1 ex Ex') :
  Tri P cx (.rangeFunc (.tmp t) ps c1 c2) env0 ex (Ex' ++ rest) := by
 have h0 : xs.take pre0.length = pre0 := by rw [hxs, List.take_left]
 have hx0 : xs[pre0.length]? = some x0 := by rw [hxs, List.getElem?_append_right (zly _)]; simp
 refine Tri.range hlo0 ks rfl hg hv hseq lo hlo hps (fun ys hy => ?_) (fun k => E (xs.take k)) rest pre0.length (by simpa using hE0) (fun k _ => ⟨hE _, hd _⟩) hrest (fun k ys hk hy => ?_) (Ex' := Ex') (.inr ⟨hne, hEx, enc x0, ?_⟩)
 ·obtain ⟨x, _, rfl⟩ := List.mem_map.1 hy
  exact hlen x
 ·have hk' : k < xs.length := by rw [hxs]; simp; omega
  have hx : xs[k]? = some xs[k] := zle hk'
  have hp : xs[k] = pre0[k] := by simp only [hxs]; rw [List.getElem_append_left hk]
  rw [List.getElem?_map, hx] at hy
  injection hy with hy; subst hy
  have ht : xs.take k = pre0.take k := by rw [hxs, List.take_append_of_le_length (by omega)]
  have ht1 : xs.take (k + 1) = pre0.take k ++ [pre0[k]] := by rw [hxs, List.take_append_of_le_length (by omega), List.take_append_getElem]
  have := hr (pre0.take k) pre0[k] (pre0.drop (k + 1)) (by rw [← List.drop_eq_getElem_cons hk, List.take_append_drop])
  show ∃ E1, Tri P { cx with lo := lo } c1 (ps.toList.zip (enc xs[k]) ++ E (xs.take k)) .normal E1 ∧ Tri P { cx with lo := lo } c2 E1 .normal (E (xs.take (k + 1)))
  rw [ht, ht1, hp]
  exact this
 ·obtain ⟨E1, h1, h2⟩ := hl
  refine ⟨E1, by rw [List.getElem?_map, hx0]; rfl, ?_, h2⟩
  show Tri P { cx with lo := lo } c1 (ps.toList.zip (enc x0) ++ E (xs.take pre0.length)) .normal E1
  rw [h0]; exact h1
end
end Go.Lf
end

section
namespace Go.Lf
open Go Go.RowKit
structure MapT (P : Program) (t : TypeId) (κ : Type) [DecidableEq κ] where
 k : TypeId
 e : TypeId
 enc : κ → Value
 z : Value
 und : P.underlying t = some (.map k e)
 chk : ∀ em x w, (Instr.checkKey em 10000 k (enc x)).run P w = .ok () w
 eq : ∀ x y w, (Op.equal k (enc x) (enc y)).run P w = .ok (decide (x = y)) w
 wide : ∀ x es w, (Instr.findKey k (enc x) es).run P w = (Instr.findAsking k (enc x) es 0).run P w
 zero : ∀ w, (zeroValue e).run P w = .ok z w
 bits : ∀ x, Instr.sameBits 10000 (enc x) (enc x) = true
section
variable {P : Program} {t : TypeId} {κ : Type} [DecidableEq κ]
def MapT.ents (M : MapT P t κ) (l : List (κ × Value)) : List (Value × Value) := l.map fun q => (M.enc q.1, q.2)
def getM (l : List (κ × Value)) (x : κ) (z : Value) : Value := match l with
 | [] => z
 | q :: l => if x = q.1 then q.2 else getM l x z
def setM (l : List (κ × Value)) (x : κ) (v : Value) : List (κ × Value) := match l with
 | [] => [(x, v)]
 | q :: l => if x = q.1 then (x, v) :: l else q :: setM l x v
theorem MapT.find (M : MapT P t κ) (x : κ) (w : World) : ∀ (l : List (κ × Value)) (es : List MapEntry) (i : Nat), es.map (fun e => (e.key, e.val)) = M.ents l →
  ((∀ q ∈ l, x ≠ q.1) ∧ (Instr.findAsking M.k (M.enc x) es i).run P w = .ok none w) ∨
  ∃ j q, l[j]? = some q ∧ q.1 = x ∧ (∀ j' q', j' < j → l[j']? = some q' → x ≠ q'.1) ∧ (Instr.findAsking M.k (M.enc x) es i).run P w = .ok (some (i + j, q.2)) w
 | [], es, i, h => by
  have : es = [] := by simpa [MapT.ents] using h
  subst this
  exact .inl ⟨fun q hq => by simp at hq, by simp [Instr.findAsking]⟩
 | q :: l, [], i, h => by simp [MapT.ents] at h
 | q :: l, e :: es, i, h => by
  simp only [MapT.ents, List.map_cons, List.cons.injEq, Prod.mk.injEq] at h
  obtain ⟨⟨h1, h2⟩, h3⟩ := h
  have heq := M.eq x q.1 w
  by_cases hx : x = q.1
  ·rw [zlb hx] at heq
   refine .inr ⟨0, q, rfl, hx.symm, fun j' _ hj => absurd hj (Nat.not_lt_zero _), ?_⟩
   simp only [Instr.findAsking, Sem.run_bind, h1, heq, Result.andThen_ok]
   simp [h2]
  ·rw [zlc hx] at heq
   have hrun : (Instr.findAsking M.k (M.enc x) (e :: es) i).run P w = (Instr.findAsking M.k (M.enc x) es (i + 1)).run P w := by
    simp only [Instr.findAsking, Sem.run_bind, h1, heq, Result.andThen_ok]
    simp
   rcases M.find x w l es (i + 1) h3 with ⟨g1, g2⟩ | ⟨j, q', g1, g2, g3, g4⟩
   ·refine .inl ⟨fun q' hq' => ?_, hrun.trans g2⟩
    rcases List.mem_cons.1 hq' with rfl | hq'
    ·exact hx
    ·exact g1 q' hq'
   ·refine .inr ⟨j + 1, q', g1, g2, fun j' q2 hj hq2 => ?_, by rw [hrun, g4]; congr 3; omega⟩
    cases j' with
    | zero => injection hq2 with hq2; subst hq2; exact hx
    | succ j' => exact g3 j' q2 (by omega) hq2
theorem ye9 {l : List (κ × Value)} {x : κ} {z : Value} (h : ∀ q ∈ l, x ≠ q.1) : getM l x z = z := by
 induction l with
 | nil => rfl
 | cons q l ih => rw [getM, if_neg (h q (by simp)), ih fun q' hq => h q' (by simp [hq])]
theorem ydl : ∀ {l : List (κ × Value)} {x : κ} {z : Value} {j : Nat} {q : κ × Value}, l[j]? = some q → q.1 = x → (∀ j' q', j' < j → l[j']? = some q' → x ≠ q'.1) → getM l x z = q.2
 | [], _, _, j, q, h, _, _ => by simp at h
 | p :: l, x, z, 0, q, h, hx, _ => by
  injection h with h; subst h
  rw [getM, if_pos hx.symm]
 | p :: l, x, z, j + 1, q, h, hx, hn => by
  rw [getM, if_neg (hn 0 p (by omega) rfl)]
  exact ydl (by simpa using h) hx fun j' q' hj hq' => hn (j' + 1) q' (by omega) (by simpa using hq')
theorem yhv {l : List (κ × Value)} {x : κ} {v : Value} (h : ∀ q ∈ l, x ≠ q.1) : setM l x v = l ++ [(x, v)] := by
 induction l with
 | nil => rfl
 | cons q l ih => rw [setM, if_neg (h q (by simp)), ih fun q' hq => h q' (by simp [hq])]; rfl
theorem yhu : ∀ {l : List (κ × Value)} {x : κ} {v : Value} {j : Nat} {q : κ × Value}, l[j]? = some q → q.1 = x → (∀ j' q', j' < j → l[j']? = some q' → x ≠ q'.1) → setM l x v = l.set j (x, v)
 | [], _, _, j, q, h, _, _ => by simp at h
 | p :: l, x, v, 0, q, h, hx, _ => by
  injection h with h; subst h
  rw [setM, if_pos hx.symm]; rfl
 | p :: l, x, v, j + 1, q, h, hx, hn => by
  rw [setM, if_neg (hn 0 p (by omega) rfl), yhu (by simpa using h) hx fun j' q' hj hq' => hn (j' + 1) q' (by omega) (by simpa using hq')]
  rfl
theorem MapT.lookup (M : MapT P t κ) {w : World} {g : Nat} {es : Array MapEntry} {clock : Nat} {l : List (κ × Value)} (hb : w.heap[g]? = some (.map es clock)) (he : es.toList.map (fun e => (e.key, e.val)) = M.ents l) (x : κ) :
  (Instr.lookup t (.map (some g)) (M.enc x) false).run P w = .ok (getM l x M.z) w := by
 rcases M.find x w l es.toList 0 he with ⟨g1, g2⟩ | ⟨j, q, g1, g2, g3, g4⟩
 ·rw [ye9 g1]
  simp [Instr.lookup, run_underlying M.und, MapKept.run_getObj_map hb, M.chk, M.wide, g2, M.zero, Result.andThen]
 ·rw [ydl g1 g2 g3]
  simp [Instr.lookup, run_underlying M.und, MapKept.run_getObj_map hb, M.chk, M.wide, g4, Result.andThen]
theorem yfj (es : Array MapEntry) (j : Nat) (f : MapEntry → MapEntry) (hf : ∀ e, (f e).born = e.born) : (es.modify j f).toList.map (·.born) = es.toList.map (·.born) := by
 apply List.ext_getElem?
 intro i
 rw [List.getElem?_map, List.getElem?_map, Array.getElem?_toList, Array.getElem?_toList, Array.getElem?_modify]
 split
 ·cases es[i]? with
  | none => rfl
  | some e => show some (f e).born = some e.born; rw [hf]
 ·rfl
end
end Go.Lf
end

section
namespace Go.Lf
open Go Go.RowKit
def OpsR (P : Program) (cx : Cx) (ops : Array Oper) (os : List Oper) (env : Env) (R : Env → Prop) : Prop :=
 ∀ (ρ : Option Nat) (F : Frm) (B0 : Nat) (w0 : World) (S0 : Nat → Prop) (ds : List Deferred) (a : Act) (w : World) (Q : Exit → Act → World → Prop) (rest : List Oper), Agree P F B0 w0 S0 cx ds env a w →
  (∀ env', R env' → ∀ a' w', Agree P F B0 w0 S0 cx ds env' a' w' → wpListIn (Fi ρ) 0 P ops Q rest a' w') → wpListIn (Fi ρ) 0 P ops Q (os ++ rest) a w
def TriR (P : Program) (cx : Cx) (c : Code) (env : Env) (ex : Ex) (R : Env → Prop) : Prop :=
 ∀ (ρ : Option Nat), (cx.lo = 0 → ρ = none) → ∀ (F : Frm) (B0 : Nat) (w0 : World) (S0 : Nat → Prop) (ds : List Deferred) (a : Act) (w : World) (Q : Exit → Act → World → Prop), Agree P F B0 w0 S0 cx ds env a w →
  (∀ env', R env' → ∀ a' w', AgM P F B0 w0 S0 cx ds env' a' w' → Q ex.out a' w') → c.wpIn (Fi ρ) 0 P Q a w
section
variable {P : Program} {cx : Cx} {ops : Array Oper}
theorem OpsR.ev (hcx : CxBase P cx) (hK : ∀ f xs, cx.K f xs = none) (hM : ∀ f x, x ≠ .bad → cx.KM f x = none) {os : List Oper} {env env' : Env} {ans : List Ans} {ps : List Prop} (h : ybr P cx ops os env ans = some (env', ps)) (hp : ∀ q ∈ ps, q) : OpsR P cx ops os env (· = env') := by
 intro ρ F B0 w0 S0 ds a w Q rest hag hQ
 obtain ⟨ls, as', h⟩ := ybf h
 obtain ⟨es, e1, _, _, rfl, e4⟩ := zrl hcx hK hM h hp
 exact ycp rest os e1 e4 hag fun a' w' ha => hQ _ rfl a' w' ha
theorem OpsR.seq {os1 os2 : List Oper} {env : Env} {R1 R2 : Env → Prop} (h1 : OpsR P cx ops os1 env R1) (h2 : ∀ env1, R1 env1 → OpsR P cx ops os2 env1 R2) : OpsR P cx ops (os1 ++ os2) env R2 := by
 intro ρ F B0 w0 S0 ds a w Q rest hag hQ
 rw [zlp]
 exact h1 ρ F B0 w0 S0 ds a w Q _ hag fun env1 hr a' w' ha => h2 env1 hr ρ F B0 w0 S0 ds a' w' Q rest ha hQ
theorem TriR.region {id : Nat} {env : Env} {R : Env → Prop} (h : OpsR P cx ops ops.toList env R) : TriR P cx (.region id ops false) env .normal R := by
 intro ρ hρ F B0 w0 S0 ds a w Q hag hQ
 refine wpIn_region_list ?_
 have := h ρ F B0 w0 S0 ds a w Q [] hag fun env' hr a' w' ha => hQ env' hr a' w' ha.m
 rwa [List.append_nil] at this
theorem Tri.seqR {c d : Code} {env env' : Env} {ex : Ex} {R : Env → Prop} (h1 : TriR P cx c env .normal R) (h2 : ∀ env1, R env1 → Tri P cx d env1 ex env') : Tri P cx (.seq c d) env ex env' := by
 intro ρ hρ F B0 w0 S0 ds a w Q hag hQ
 exact wpIn_seq (h1 ρ hρ F B0 w0 S0 ds a w _ hag fun env1 hr a' w' ha => (h2 env1 hr).go hρ ha hQ)
theorem Tri.ofR {c : Code} {env env' : Env} {ex : Ex} {R : Env → Prop} (h : TriR P cx c env ex R) (hr : ∀ e, R e → e = env') : Tri P cx c env ex env' :=
 fun ρ hρ F B0 w0 S0 ds a w Q hag hQ => h ρ hρ F B0 w0 S0 ds a w Q hag fun e he a' w' ha => hQ a' w' (hr e he ▸ ha)
theorem Tri.seq {c d : Code} {env env1 env' : Env} {ex : Ex} (h1 : Tri P cx c env .normal env1) (h2 : Tri P cx d env1 ex env') : Tri P cx (.seq c d) env ex env' := by
 intro ρ hρ F B0 w0 S0 ds a w Q hag hQ
 exact wpIn_seq (h1 ρ hρ F B0 w0 S0 ds a w _ hag fun a' w' ha => h2.go hρ ha hQ)
theorem Tri.seqX {c d : Code} {env env' : Env} {ex : Ex} (h1 : Tri P cx c env ex env') (hne : ex ≠ .normal) : Tri P cx (.seq c d) env ex env' := by
 intro ρ hρ F B0 w0 S0 ds a w Q hag hQ
 refine wpIn_seq (h1 ρ hρ F B0 w0 S0 ds a w _ hag fun a' w' ha => ?_)
 cases ex with
 | normal => exact absurd rfl hne
 | exit id => exact hQ a' w' ha
 | ret => exact hQ a' w' ha
theorem Tri.block {id : Nat} {c : Code} {env env' : Env} {ex ex' : Ex} (h : Tri P cx c env ex env') (he : (ex = .exit id ∧ ex' = .normal) ∨ (ex ≠ .exit id ∧ ex' = ex)) : Tri P cx (.block id c) env ex' env' := by
 intro ρ hρ F B0 w0 S0 ds a w Q hag hQ
 refine wpIn_block (h ρ hρ F B0 w0 S0 ds a w _ hag fun a' w' ha => ?_)
 rcases he with ⟨rfl, rfl⟩ | ⟨hne, rfl⟩
 ·simp only [Ex.out, Exit.inBlock, if_true]; exact hQ a' w' ha
 ·cases ex' with
  | normal => exact hQ a' w' ha
  | ret => exact hQ a' w' ha
  | exit id' =>
   have : id' ≠ id := fun e => hne (e ▸ rfl)
   simp only [Ex.out, Exit.inBlock, this, if_false]; exact hQ a' w' ha
theorem Tri.cond {t : Nat} {b : Bool} {c d : Code} {env env' : Env} {ex : Ex} (hl : lk env t = some (.atom (.bool b))) (h : Tri P cx (if b = true then c else d) env ex env') : Tri P cx (.cond (.tmp t) c d) env ex env' := by
 intro ρ hρ F B0 w0 S0 ds a w Q hag hQ
 have hb := hag.bool hl
 cases b with
 | true => exact wpIn_cond_true hb (h ρ hρ F B0 w0 S0 ds a w Q hag hQ)
 | false => exact wpIn_cond_false hb (h ρ hρ F B0 w0 S0 ds a w Q hag hQ)
theorem Tri.skip {env : Env} : Tri P cx .skip env .normal env := fun _ _ _ _ _ _ _ _ _ _ hag hQ => wpIn_skip (hQ _ _ hag.m)
theorem Tri.exit {id : Nat} {env : Env} : Tri P cx (.exit id) env (.exit id) env := fun _ _ _ _ _ _ _ _ _ _ hag hQ => wpIn_exit (hQ _ _ hag.m)
theorem Tri.ret {env : Env} : Tri P cx .ret env .ret env := fun _ _ _ _ _ _ _ _ _ _ hag hQ => wpIn_ret (hQ _ _ hag.m)
def valOf : AV → Option Value
 | .atom v => some v
 | .agg cs => (atoms cs).map fun us => .agg us.toArray
 | _ => none
theorem yps {R : Value → AV → Own → Prop} (hR : ∀ v u O, R v (.atom u) O → v = u) {vs : List Value} {cs : List AV} {O : Own} (h : Rc R vs cs O) : ∀ {us : List Value}, atoms cs = some us → vs = us := by
 induction h with
 | nil _ => intro us h; injection h
 | @cons v x vs xs O1 O2 O h1 _ _ ih =>
  intro us h
  cases x with
  | atom u =>
   simp only [atoms] at h
   cases ha : atoms xs with
   | none => rw [ha] at h; cases h
   | some ws =>
    rw [ha] at h
    injection h with h; subst h
    rw [ih ha, hR v u O1 h1]
  | _ => cases h
theorem Rv.valOf {B0 : Nat} {w : World} {S : Nat → Prop} {n : Nat} {v u : Value} {x : AV} {O : Own} (h : Rv P B0 w S n v x O) (hx : Lf.valOf x = some u) : v = u := by
 obtain ⟨m, rfl⟩ := h.pos
 cases x with
 | atom u' => injection hx with hx; subst hx; exact h.1
 | agg cs =>
  obtain ⟨vs, rfl, hrc⟩ := h
  simp only [Lf.valOf] at hx
  cases ha : atoms cs with
  | none => rw [ha] at hx; cases hx
  | some us =>
   rw [ha] at hx
   injection hx with hx; subst hx
   have := yps (fun v u O hr => by
    cases m with
    | zero => exact hr.elim
    | succ m => exact hr.1) hrc ha
   rw [← this]
 | _ => cases hx
theorem Agree.valOf {F : Frm} {B0 : Nat} {w0 : World} {S0 : Nat → Prop} {ds : List Deferred} {env : Env} {a : Act} {w : World} (h : Agree P F B0 w0 S0 cx ds env a w) {t : Nat} {x : AV} {u : Value} (hl : lk env t = some x) (hx : Lf.valOf x = some u) : a.eval (.tmp t) = u := by
 obtain ⟨_, _, n, S, Os, hn, _, hst⟩ := h
 obtain ⟨v, hv, hs⟩ := hst.rel t x hl
 have hr := hs.rv (by cases x <;> first | rfl | cases hx)
 rw [← hr.valOf hx]
 simp [Act.eval, zll, hv]
variable {t : TypeId} {κ : Type} [DecidableEq κ]
theorem OpsR.one {y : Oper} {env : Env} {R : Env → Prop} (hg : y.guard = none)
  (h : ∀ (ρ : Option Nat) (F : Frm) (B0 : Nat) (w0 : World) (S0 : Nat → Prop) (ds : List Deferred) (a : Act) (w : World) (Q : Exit → Act → World → Prop) (K : Act → World → Prop), Agree P F B0 w0 S0 cx ds env a w → (∀ env', R env' → ∀ a' w', Agree P F B0 w0 S0 cx ds env' a' w' → K a' w') → y.wpIn (Fi ρ) 0 P a w K Q) :
  OpsR P cx ops [y] env R := by
 intro ρ F B0 w0 S0 ds a w Q rest hag hQ
 show wpListIn (Fi ρ) 0 P ops Q (y :: rest) a w
 unfold wpListIn
 have hw : Region.wanted y (yielded ops a.tmps) = true := by unfold Region.wanted; rw [hg]
 rw [if_pos hw]
 exact h ρ F B0 w0 S0 ds a w Q _ hag hQ
theorem OpsR.lookup (M : MapT P t κ) {y : Oper} {tx tk r g : Nat} {env : Env} {l : List (κ × Value)} {x : κ} {kt : AV} {ls : List Nat} {eff : Eff} (hg : y.guard = none) (ho : y.op = .lookup t (.tmp tx) (.tmp tk) false)
  (h1 : lk env tx = some (.atom (.map (some g)))) (h2 : lk env tk = some kt) (h3 : valOf kt = some (M.enc x)) (h4 : lk env r = some (.mp g (M.ents l))) (hout : (outP cx y.dst (.atom (getM l x M.z)) [] []).run env = some (ls, eff)) :
  OpsR P cx ops [y] env (· = zqi eff env) := by
 refine .one hg fun ρ F B0 w0 S0 ds a w Q K hag hK => ?_
 have e1 := hag.valOf h1 rfl
 have e2 := hag.valOf h2 h3
 obtain ⟨hd, hN, n, S, Os, hn, hgr, hst⟩ := hag
 obtain ⟨v, hv, hs⟩ := hst.rel r _ h4
 have hr := hs.rv rfl
 obtain ⟨m, rfl⟩ := hr.pos
 obtain ⟨_, ⟨es, clock, hb, he, _⟩, _⟩ := hr
 have hrun : (execOp a.eval y).run P w = .ok (.value (getM l x M.z)) w := by
  rw [execOp, ho]
  simp [e1, e2, M.lookup hb he x]
 refine opIn (by intro c hc; rw [ho] at hc; cases hc) (Oper.wp_mono (fun a' w' hp => ?_) (yar (Q := Q) hst hn hN hout hrun))
 obtain ⟨p1, p2, n', S', Os', q1, q2, q3⟩ := hp
 exact hK _ rfl a' w' ⟨p1.trans hd, p2, n', S', Os', q1, hgr.trans q2, q3⟩
end
end Go.Lf
end

section
namespace Go.Lf
open Go Go.RowKit
variable {P : Program}
theorem PureC.share {f : FuncId} {xs : List AV} {r : AV} (h : PureC P f xs r) : PureC P f xs (Lf.share r) := by
 refine ⟨h.1, fun w S args n hS ha => (h.2 w S args n hS ha).mono ?_⟩
 rintro e w' ⟨v, n', S', O, he, hB, hrv, h1, h2, h3, h4⟩
 have hown := Rv.owned n' v r O hrv
 refine ⟨v, n', fun b => S' b ∨ 0 < O b, fun _ => 0, he, hB, Rv.remode zqx (fun m => by cases m <;> simp [zqx]) (fun m h => by cases m <;> simp [zqx] at h ⊢) (fun b hb => .inl hb) n' 12 v r O (fun b hb => .inr hb) hrv, fun _ => Nat.zero_le _, ?_, fun _ _ => rfl, fun b hb => .inl (h4 b hb)⟩
 intro b hb
 rcases hb with hb | hb
 ·exact h2 b hb
 ·exact ⟨.inr (hown b hb).1, (hown b hb).2⟩
end Go.Lf
end

section
namespace Go.Lf
open Go Go.RowKit
section
variable {P : Program} {cx : Cx} {p : Hand} {H : Hints}
theorem Itr.yield0 (hp : p.Ok P) (hcx : CxBase P cx) (hlo : cx.lo = 0) (hK : ∀ f xs, cx.K f xs = none) (hM : ∀ f x, x ≠ .bad → cx.KM f x = none) {id : Nat} {ops : Array Oper} {pre post : List Oper} {y : Oper} {g d b : Nat} {args : Array Operand} {ats : Array TypeId}
  (hops : ops.toList = pre ++ y :: post) (hy : y.op = .call { callee := .value (.tmp g), args := args, argTypes := ats }) (hyg : y.guard = none) (hyd : y.dst = some d) (hdN : d < cx.N)
  {c0 : Code} {env env0 env1 env1v env2 env2v env3 : Env} (h0 : Tri0 P cx c0 env .normal env0) {as1 as2 as3 : List Ans} {ps1 ps2 ps3 : List Prop} {k : Nat} {xs : List AV}
  (hpre : ybr P cx ops pre env0 as1 = some (env1, ps1)) (hp1 : ∀ q ∈ ps1, q) (hv1 : EnvV env1v) (hs1 : EnvSub env1v env1) 
  (hg : lk env1v g = some (.atom (.func (.yield p.l) #[] #[]))) (harg : argT env1v args.toList = some xs) (hxs : p.xss[k]? = some xs)
  (hpt : ybr P cx ops post ((d, .atom (.bool true)) :: env1v) as2 = some (env2, ps2)) (hp2 : ∀ q ∈ ps2, q) (hbt : lk env2 b = some (.atom (.bool false))) (hv2 : EnvV env2v) (hs2 : EnvSub env2v env2)
  (hpf : ybr P cx ops post [(d, .atom (.bool false))] as3 = some (env3, ps3)) (hp3 : ∀ q ∈ ps3, q) (hbf : lk env3 b = some (.atom (.bool true))) :
  Itr P cx p (.seq c0 (.seq (.region id ops false) (.cond (.tmp b) .ret .skip))) env k .normal env2v (k + 1) := by
 intro a X W Q hi hJ hQ hX
 obtain ⟨ls1, as1', hpre⟩ := ybf hpre
 obtain ⟨ls2, as2', hpt⟩ := ybf hpt
 obtain ⟨ls3, as3', hpf⟩ := ybf hpf
 obtain ⟨S', hS', hag⟩ := hi.agree hlo
 refine wpIn_seq (h0 _ _ _ _ _ _ _ _ hag fun a0 W0 hag0 => ?_)
 refine wpIn_seq (wpIn_region_list ?_)
 rw [hops]
 obtain ⟨es, e1, _, _, rfl, e4⟩ := zrl hcx hK hM hpre hp1
 refine ycp (y :: post) pre e1 e4 hag0 fun a1 W1 hag1 => ?_
 obtain ⟨hi1, hB1, hJ1⟩ := ItS.back hp hJ hS' hag1 hv1 hs1
 unfold wpListIn
 have hw : Region.wanted y (yielded ops a1.tmps) = true := by unfold Region.wanted; rw [hyg]
 rw [if_pos hw]
 -- what follows, whatever the answer
 have after : ∀ (q : Bool) (e4 env4 : Env) (as4 as4' : List Ans) (ls4 : List Log) (ps4 : List Prop), yeb P cx ops post ((d, .atom (.bool q)) :: e4) as4 = some ((ls4, env4), as4', ps4) → (∀ r ∈ ps4, r) →
   ∀ (a2 : Act) (W2 : World) (S2 : Nat → Prop), Agree P ⟨fun _ => False, 0, #[]⟩ W2.heap.size W2 S2 cx [] ((d, .atom (.bool q)) :: e4) a2 W2 → ∀ Q2 : Exit → Act → World → Prop,
   (∀ a3 W3, Agree P ⟨fun _ => False, 0, #[]⟩ W2.heap.size W2 S2 cx [] env4 a3 W3 → Q2 .normal a3 W3) → wpListIn (Fi none) 0 P ops Q2 post a2 W2 := by
  intro q e4 env4 as4 as4' ls4 ps4 h4 hp4 a2 W2 S2 hag2 Q2 hQ2
  obtain ⟨es4, f1, _, _, rfl, f4⟩ := zrl hcx hK hM h4 hp4
  exact ydp none post f1 f4 hag2 hQ2
 -- the call
 obtain ⟨hd1', hN1, n1, S1, hn1, hS1, hrel1⟩ := (show ItS P cx p env1v X a1 W1 from hi1)
 obtain ⟨vs, hvs, hrc⟩ : ∃ vs : List Value, args.toList.map a1.eval = vs ∧ ∀ B1, Rc (Rv P B1 W1 S1 n1) vs xs (fun _ => 0) := by
  refine ⟨_, rfl, ?_⟩
  clear hy hxs
  generalize args.toList = al at harg
  induction al generalizing xs with
  | nil => injection harg with harg; subst harg; exact fun _ => .nil fun _ => rfl
  | cons o al ih =>
   cases o with
   | tmp t =>
    simp only [argT] at harg
    cases hl : lk env1v t with
    | none => rw [hl] at harg; cases harg
    | some x =>
     cases hr : argT env1v al with
     | none => rw [hl, hr] at harg; cases harg
     | some ys =>
      rw [hl, hr] at harg
      injection harg with harg; subst harg
      obtain ⟨v, hv, hrv⟩ := hrel1 t x hl
      intro B1
      have he : a1.eval (.tmp t) = v := by simp [Act.eval, zll, hv]
      rw [List.map_cons, he]
      exact .cons (hrv B1) (ih hr B1) fun _ => rfl
   | _ => cases harg
 have hgv : a1.eval (.tmp g) = .func (.yield p.l) #[] #[] := by
  obtain ⟨v, hv, hr⟩ := hrel1 g _ hg
  obtain ⟨m, rfl⟩ : ∃ m, n1 = m + 1 := ⟨n1 - 1, by omega⟩
  have := (hr 0).1
  subst this
  simp [Act.eval, zll, hv]
 obtain ⟨fn, tm, as', bo, hyy, hround⟩ := hp.hY k X W1 xs vs S1 n1 hJ1 hxs hS1 hrc
 have hargs : args.map a1.eval = vs.toArray := by rw [← hvs, ← Array.toList_map, Array.toArray_toList]
 have hrun : (execOp a1.eval y).run P W1 = .ok (.round p.l fn tm as' bo) W1 := by
  rw [execOp, hy]
  simp [resolve, hgv, hargs, Deferred.ofValue, invoke, hyy]
 refine ⟨fun _ _ => trivial, ?_⟩
 rw [show (Fi none).round = none from rfl, Oper.semAt_eq _ _ _ (by rw [hy]; intro c h; cases h), hrun, Oper.uponIn_round]
 refine ⟨(fun h => nomatch h), hround.mono ?_⟩
 have hdT : d < a1.tmps.size := by rw [hN1]; exact hdN
 -- the slots behind the call
 have slots : ∀ (q : Bool) (W2 : World) (X2 : Nat → Prop), (∀ b, S1 b → W2.heap[b]? = W1.heap[b]? ∧ ¬ X2 b) → W1.heap.size ≤ W2.heap.size → ItS P cx p ((d, .atom (.bool q)) :: env1v) X2 (a1.put y.dst (.bool q)) W2 := by
  intro q W2 X2 hW2 hsz
  refine ⟨by rw [hyd]; exact hd1', by rw [hyd]; simpa [Act.put] using hN1, n1, S1, hn1, fun b hb => ⟨(hS1 b hb).1, Nat.lt_of_lt_of_le (hS1 b hb).2.1 hsz, (hW2 b hb).2⟩, fun t x hx => ?_⟩
  rw [hyd]
  simp only [lk] at hx
  split at hx
  ·rename_i e; subst e
   injection hx with hx; subst hx
   refine ⟨.bool q, by simp [Act.put, hdT], fun B1 => ?_⟩
   obtain ⟨m, rfl⟩ : ∃ m, n1 = m + 1 := ⟨n1 - 1, by omega⟩
   exact ⟨rfl, fun _ => rfl⟩
  ·rename_i e
   obtain ⟨v, hv, hr⟩ := hrel1 t x hx
   refine ⟨v, by simp [Act.put, Array.getElem?_setIfInBounds_ne e, hv], fun B1 => Rv.frame (fun _ h => h) (fun b hb => (hW2 b hb).1) _ _ _ _ (fun b hb => absurd hb (by simp)) (hr B1)⟩
 rintro e W2 (⟨rfl, X2, hJ2, hgw, hX2⟩ | ⟨rfl, hJ2⟩)
 ·have hi2 := slots true W2 X2 (fun b hb => ⟨hgw.block b (hS1 b hb).2.1 (hS1 b hb).2.2, fun hx => by
   rcases hX2 b hx with h | h
   ·exact (hS1 b hb).2.2 h
   ·have := (hS1 b hb).2.1; omega⟩) hgw.size
  obtain ⟨S2, hS2, hag2⟩ := hi2.agree hlo
  refine after true _ _ _ _ _ _ hpt hp2 _ _ _ hag2 _ fun a3 W3 hag3 => ?_
  obtain ⟨hi3, _, hJ3⟩ := ItS.back hp hJ2 hS2 hag3 hv2 hs2
  exact wpIn_cond_false (hag3.bool hbt) (wpIn_skip (hQ _ _ _ hi3 hJ3))
 ·have hi2 : ItS P cx p [(d, .atom (.bool false))] (fun _ => False) (a1.put y.dst (.bool false)) W2 := by
   refine ⟨by rw [hyd]; exact hd1', by rw [hyd]; simpa [Act.put] using hN1, 1, fun _ => False, Nat.one_pos, fun b hb => hb.elim, fun t x hx => ?_⟩
   rw [hyd]
   simp only [lk] at hx
   split at hx
   ·rename_i e; subst e
    injection hx with hx; subst hx
    exact ⟨.bool false, by simp [Act.put, hdT], fun B1 => ⟨rfl, fun _ => rfl⟩⟩
   ·cases hx
  obtain ⟨S2, hS2, hag2⟩ := hi2.agree hlo
  refine after false _ _ _ _ _ _ hpf hp3 _ _ _ hag2 _ fun a3 W3 hag3 => ?_
  obtain ⟨hd3, _, n3, S3, Os3, _, _, hst3⟩ := (show Agree P _ _ _ _ _ _ _ _ _ from hag3)
  exact wpIn_cond_true (hag3.bool hbf) (wpIn_ret (hX a3 k W3 (zlk.1 hxs).1 hd3 (hp.hJx _ _ _ hJ2 hst3.below)))
end
end Go.Lf
end

section
open Go Go.Lf Go.Proofs
namespace Tst
set_option maxHeartbeats 0
abbrev yv (l : Nat) : AV := .atom (.func (.yield l) #[] #[])
abbrev mbx (L : Lp) : AV := .vadr [ub L.b, bb L.w, isl L.ct L.th, sl L.cp L.pa] 0
theorem me0_0 (l : Nat) (L : Lp) : Tri0 Try.prog (cxN 32 0) (zqr Try.f45 0) ([(0, yv l), (1, mbx L)]) .normal ([(0, AV.atom (Value.func (Fn.yield l) #[] #[])), (1, AV.vadr [ub (Lp.b L), bb (Lp.w L), isl (Lp.ct L) (Lp.th L), sl (Lp.cp L) (Lp.pa L)] 0), (8, isl (Lp.ct L) (Lp.th L)), (9, it (↑(((Lp.th L).map Idd.enc).length) : Int)), (10, it 0)]) :=
 yat (H := h45) (ans := [.c, .c, .c, .c]) (ans' := []) (base 32 0) zqb.1 zqb.2 (by kernel_rfl) (by kernel_rfl)  zqa
theorem yxr (l : Nat) (L : Lp) (m i : Int) : Tri0 Try.prog (cxN 32 0) (zqr Try.f45 1) ([(0, yv l), (1, mbx L), (8, isl L.ct L.th), (9, it m), (10, it i)]) .normal ([(0, AV.atom (Value.func (Fn.yield l) #[] #[])), (1, AV.vadr [ub (Lp.b L), bb (Lp.w L), isl (Lp.ct L) (Lp.th L), sl (Lp.cp L) (Lp.pa L)] 0), (8, isl (Lp.ct L) (Lp.th L)), (9, it m), (10, it i), (11, bb (decide (i < m)))]) :=
 yat (H := h45) (ans := [.c]) (ans' := []) (base 32 0) zqb.1 zqb.2 (by kernel_rfl) (by kernel_rfl)  zqa
theorem me2_0 (l : Nat) (L : Lp) (m i : Int) (g0 : decide (0 ≤ i ∧ i < (↑(((Lp.th L).map Idd.enc).length) : Int)) = true) (g1 : ((Lp.th L).map Idd.enc).getD i.toNat AV.bad = Idd.enc ((Lp.th L).getD i.toNat default)) : Tri0 Try.prog (cxN 32 0) (zqr Try.f45 2) ([(0, yv l), (1, mbx L), (8, isl L.ct L.th), (9, it m), (10, it i)]) .normal ([(0, AV.atom (Value.func (Fn.yield l) #[] #[])), (1, AV.vadr [ub (Lp.b L), bb (Lp.w L), isl (Lp.ct L) (Lp.th L), sl (Lp.cp L) (Lp.pa L)] 0), (4, AV.box [ub (Idd.y ((Lp.th L).getD i.toNat default)), it (Idd.n ((Lp.th L).getD i.toNat default))]), (8, isl (Lp.ct L) (Lp.th L)), (9, it m), (10, it i)]) :=
 yat (H := h45) (ans := [.b true, .r (Idd.enc ((Lp.th L).getD (i.toNat) default)), .c, .c, .c, .c]) (ans' := []) (base 32 0) zqb.1 zqb.2 (by kernel_rfl) (by kernel_rfl) (allp g0 (allp g1 zqa))
theorem me4_0 (l : Nat) (L : Lp) (m i : Int) : Tri0 Try.prog (cxN 32 0) (zqr Try.f45 4) ([(0, yv l), (1, mbx L), (8, isl L.ct L.th), (9, it m), (10, it i)]) .normal ([(0, AV.atom (Value.func (Fn.yield l) #[] #[])), (1, AV.vadr [ub (Lp.b L), bb (Lp.w L), isl (Lp.ct L) (Lp.th L), sl (Lp.cp L) (Lp.pa L)] 0), (8, isl (Lp.ct L) (Lp.th L)), (9, it m), (10, it (i64.wrap (i + (1 : Int))))]) :=
 yat (H := h45) (ans := [.c, .c]) (ans' := []) (base 32 0) zqb.1 zqb.2 (by kernel_rfl) (by kernel_rfl)  zqa
theorem me5_0 (l : Nat) (L : Lp) : Tri0 Try.prog (cxN 32 0) (zqr Try.f45 5) ([(0, yv l), (1, mbx L)]) .normal ([(0, AV.atom (Value.func (Fn.yield l) #[] #[])), (20, sl (Lp.cp L) (Lp.pa L)), (21, it (↑(((Lp.pa L).map Ps.enc).length) : Int)), (22, it 0)]) :=
 yat (H := h45) (ans := [.c, .c, .c, .c]) (ans' := []) (base 32 0) zqb.1 zqb.2 (by kernel_rfl) (by kernel_rfl)  zqa
theorem yxq (l : Nat) (L : Lp) (m i : Int) : Tri0 Try.prog (cxN 32 0) (zqr Try.f45 6) ([(0, yv l), (20, sl L.cp L.pa), (21, it m), (22, it i)]) .normal ([(0, AV.atom (Value.func (Fn.yield l) #[] #[])), (20, sl (Lp.cp L) (Lp.pa L)), (21, it m), (22, it i), (23, bb (decide (i < m)))]) :=
 yat (H := h45) (ans := [.c]) (ans' := []) (base 32 0) zqb.1 zqb.2 (by kernel_rfl) (by kernel_rfl)  zqa
theorem me7_0 (l : Nat) (L : Lp) (m i : Int) (g0 : decide (0 ≤ i ∧ i < (↑(((Lp.pa L).map Ps.enc).length) : Int)) = true) (g1 : ((Lp.pa L).map Ps.enc).getD i.toNat AV.bad = Ps.enc ((Lp.pa L).getD i.toNat default)) : Tri0 Try.prog (cxN 32 0) (zqr Try.f45 7) ([(0, yv l), (20, sl L.cp L.pa), (21, it m), (22, it i)]) .normal ([(0, AV.atom (Value.func (Fn.yield l) #[] #[])), (6, AV.box [ub (Ps.y ((Lp.pa L).getD i.toNat default)), it (Ps.n ((Lp.pa L).getD i.toNat default)), bb (Ps.f ((Lp.pa L).getD i.toNat default)), ub (Ps.d ((Lp.pa L).getD i.toNat default))]), (20, sl (Lp.cp L) (Lp.pa L)), (21, it m), (22, it i)]) :=
 yat (H := h45) (ans := [.b true, .r (Ps.enc ((Lp.pa L).getD (i.toNat) default)), .c, .c, .c, .c]) (ans' := []) (base 32 0) zqb.1 zqb.2 (by kernel_rfl) (by kernel_rfl) (allp g0 (allp g1 zqa))
theorem me9_0 (l : Nat) (L : Lp) (m i : Int) : Tri0 Try.prog (cxN 32 0) (zqr Try.f45 9) ([(0, yv l), (20, sl L.cp L.pa), (21, it m), (22, it i)]) .normal ([(0, AV.atom (Value.func (Fn.yield l) #[] #[])), (20, sl (Lp.cp L) (Lp.pa L)), (21, it m), (22, it (i64.wrap (i + (1 : Int))))]) :=
 yat (H := h45) (ans := [.c, .c]) (ans' := []) (base 32 0) zqb.1 zqb.2 (by kernel_rfl) (by kernel_rfl)  zqa
theorem mlb_0 (L : Lp) : Tri Try.prog (cxN 4 0) (yga Try.f32 1) ([(1, mbx L)]) .normal ([(2, AV.fn 45 [AV.vadr [ub (Lp.b L), bb (Lp.w L), isl (Lp.ct L) (Lp.th L), sl (Lp.cp L) (Lp.pa L)] 0])]) :=
 ev h32 [.c, .c] zqa
end Tst
end
