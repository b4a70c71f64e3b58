/- Part 7 of the evaluator and of the contracts that the claim uses. -/
import Derived.Test.YtnaikfcmegkdpaaStacksSameLAA
import Derived.Test.YtnaikfcmegkdpaaStacksSameLAB
import Derived.Test.YtnaikfcmegkdpaaStacksSameLAC
import Derived.Test.YtnaikfcmegkdpaaStacksSameLAD
import Derived.Test.YtnaikfcmegkdpaaStacksSameLAE
import Derived.Test.YtnaikfcmegkdpaaStacksSameLAF
set_option linter.unusedVariables false
set_option linter.unusedSimpArgs false
set_option linter.constructorNameAsVariable false

section
open Go Go.Lf Go.Proofs
namespace Tst
set_option maxHeartbeats 0
abbrev jE (cf cb : Option Nat) (F B : List Stk) (d i e k : Int) (l m : List Idd) : Env := [(3, .box [bsl cf F, bsl cb B]), (4, .box [ub d, it i]), (5, .box [ub e, it k]), (6, .box [niln, niln]), (9, .sl .fresh 30 (some l.length) (l.map Idd.enc)), (10, .sl .fresh 30 (some m.length) (m.map Idd.enc))]
def jnL (d : Int) (l m : List Idd) : List Idd := if (d == 1) = true then l ++ m else m ++ l
theorem j11_c (cf cb : Option Nat) (F B : List Stk) (d i e k : Int) (l m : List Idd) (hl : l.length ≤ 1000000) (hm : m.length ≤ 1000000) : Tri Try.prog (cxN 68 0) (codeAt Try.f40 11) (jE cf cb F B d i e k l m) .normal [(3, .box [bsl cf F, bsl cb B]), (4, .box [ub d, it i]), (5, .box [ub e, it k]), (6, .box [niln, niln]), (9, .sl .fresh 30 (some l.length) (l.map Idd.enc)), (10, .sl .fresh 30 (some m.length) (m.map Idd.enc)), (11, iow none (m ++ l))] := by
  rw [show codeAt Try.f40 11 = regAt Try.f40 11 by kernel_rfl]
  exact Tri.after [(3, .keep), (4, .keep), (5, .keep), (6, .keep), (9, .keep), (10, .keep), (11, .keep)] (j11_0 cf cb F B d i e k l m hl hm (by rw [noAny_iow]; simp))
theorem j12_code : codeAt Try.f40 12 = .seq (regAt Try.f40 12) (.cond (.tmp 57) (regAt Try.f40 13) .skip) := by kernel_rfl
theorem j12_c (cf cb : Option Nat) (F B : List Stk) (d i e k : Int) (l m : List Idd) (hl : l.length ≤ 1000000) (hm : m.length ≤ 1000000) : Tri Try.prog (cxN 68 0) (codeAt Try.f40 12) [(3, .box [bsl cf F, bsl cb B]), (4, .box [ub d, it i]), (5, .box [ub e, it k]), (6, .box [niln, niln]), (9, .sl .fresh 30 (some l.length) (l.map Idd.enc)), (10, .sl .fresh 30 (some m.length) (m.map Idd.enc)), (11, iow none (m ++ l))] .normal
    [(3, .box [bsl cf F, bsl cb B]), (4, .box [ub d, it i]), (5, .box [ub e, it k]), (6, .box [niln, niln]), (11, iow none (jnL d l m))] := by
  rw [j12_code]
  unfold jnL
  have h := j12_0 cf cb F B d i e k l m (m ++ l)
  cases hb : (d == 1) with
  | true =>
    rw [hb] at h
    exact .seq h (.cond (b := true) rfl (.weak [(3, .keep), (4, .keep), (5, .keep), (6, .keep), (9, .keep), (10, .keep), (11, .keep)] (.after [(3, .keep), (4, .keep), (5, .keep), (6, .keep), (11, .keep)] (j13_0 cf cb F B d i e k l m (m ++ l) hl hm (by rw [noAny_iow]; simp)))))
  | false =>
    rw [hb] at h
    exact .seq h (.cond (b := false) rfl (.after [(3, .keep), (4, .keep), (5, .keep), (6, .keep), (11, .keep)] .skip))
theorem jnE_0 (cf cb : Option Nat) (F B : List Stk) (d i e k : Int) (hc : (chkV F B != (0 : Int)) = false) (hn : ((if ndV d i = true then (0 : Int) else (1 : Int)) != (0 : Int)) = false) (hn2 : ((if ndV e k = true then (0 : Int) else (1 : Int)) != (0 : Int)) = false) (hne : (d == e) = false) (v1 : ndV d i = true) (v2 : ndV e k = true) (hf : ∀ s ∈ F, s.l.length ≤ 4294967296) (hb : ∀ s ∈ B, s.l.length ≤ 4294967296) (hl : (stkAt d i F B).length ≤ 1000000) (hm : (stkAt e k F B).length ≤ 1000000) (hd : d = 0 ∨ d = 1) (h1 : 1 ≤ i) (h2 : i ≤ 40) (he : e = 0 ∨ e = 1) (h3 : 1 ≤ k) (h4 : k ≤ 40) (hA : ∀ t ∈ itms F B, t.2.2.l.length ≤ 4294967296) (hJ : (jnL d (stkAt d i F B) (stkAt e k F B)).length ≤ 4294967296) (hW : ∀ t ∈ itms (stkW (halfT (withT F B d i []) 0)) (stkW (halfT (withT F B d i []) 40)), t.2.2.l.length ≤ 4294967296) (g0 : (chkV F B != (0 : Int)) = false) (g1 : ((if ndV d i = true then (0 : Int) else (1 : Int)) != (0 : Int)) = false) (g2 : ((if ndV e k = true then (0 : Int) else (1 : Int)) != (0 : Int)) = false) (g3 : (d == e) = false) (g4 : ((↑(List.length (List.map Idd.enc (stkAt d i F B))) : Int) == (0 : Int)) = true) : PureC Try.prog 40 [beds (bsl cf F) (bsl cb B), ndl d i, ndl e k]  (AV.tup [AV.agg [niln, niln], it 13]) :=
  funA_ok (H := h40) (n := 68) (ans := [.c, .c, .c, .c, .c, .c, .r (it (chkV F B)), .c, .c, .c, .c, .c, .b false, .c, .r (it (if ndV d i = true then (0 : Int) else (1 : Int))), .c, .c, .c, .c, .b false, .c, .b false, .r (it (if ndV e k = true then (0 : Int) else (1 : Int))), .c, .c, .b false, .c, .b false, .c, .c, .b false, .c, .b false, .c, .c, .c, .b false, .c, .b false, .c, .c, .c, .b false, .c, .b false, .c, .b false, .c, .c, .r (AV.sl Mode.fresh 30 (some (List.length (stkAt d i F B))) (List.map Idd.enc (stkAt d i F B))), .c, .c, .c, .c, .r (AV.sl Mode.fresh 30 (some (List.length (stkAt e k F B))) (List.map Idd.enc (stkAt e k F B))), .c, .c, .c, .c, .c, .c, .c, .b true, .c, .c, .c]) (ps := [PureC Try.prog 31 [view (AV.agg [bsl cf F, bsl cb B])] (it (chkV F B)), (chkV F B != (0 : Int)) = false, PureC Try.prog 56 [AV.agg [ub d, it i]] (it (if ndV d i = true then (0 : Int) else (1 : Int))), ((if ndV d i = true then (0 : Int) else (1 : Int)) != (0 : Int)) = false, ((if ndV d i = true then (0 : Int) else (1 : Int)) != (0 : Int)) = false, PureC Try.prog 56 [AV.agg [ub e, it k]] (it (if ndV e k = true then (0 : Int) else (1 : Int))), ((if ndV d i = true then (0 : Int) else (1 : Int)) != (0 : Int)) = false, ((if ndV d i = true then (0 : Int) else (1 : Int)) != (0 : Int)) = false, ((if ndV e k = true then (0 : Int) else (1 : Int)) != (0 : Int)) = false, ((if ndV e k = true then (0 : Int) else (1 : Int)) != (0 : Int)) = false, ((if ndV e k = true then (0 : Int) else (1 : Int)) != (0 : Int)) = false, ((if ndV e k = true then (0 : Int) else (1 : Int)) != (0 : Int)) = false, ((if ndV e k = true then (0 : Int) else (1 : Int)) != (0 : Int)) = false, ((if ndV e k = true then (0 : Int) else (1 : Int)) != (0 : Int)) = false, (d == e) = false, PureC Try.prog 33 [view (AV.agg [bsl cf F, bsl cb B]), AV.agg [ub d, it i]] (AV.sl Mode.fresh 30 (some (List.length (stkAt d i F B))) (List.map Idd.enc (stkAt d i F B))), PureC Try.prog 33 [view (AV.agg [bsl cf F, bsl cb B]), AV.agg [ub e, it k]] (AV.sl Mode.fresh 30 (some (List.length (stkAt e k F B))) (List.map Idd.enc (stkAt e k F B))), ((↑(List.length (List.map Idd.enc (stkAt d i F B))) : Int) == (0 : Int)) = true]) (base 68 0) Try.func40 rfl (by simp) rfl (by kernel_rfl)  (allp (by (first | rw [view_yn] | rw [view_two] | rw [view_twoI] | rw [view_beds] | rw [view_frW] | rw [view_frN] | rw [view_twoF] | skip); apply chk_c <;> (first | assumption | rfl | (simp at * <;> omega))) (allp g0 (allp (by apply nck_c <;> (first | assumption | rfl | (simp at * <;> omega))) (allp g1 (allp g1 (allp (by apply nck_c <;> (first | assumption | rfl | (simp at * <;> omega))) (allp g1 (allp g1 (allp g2 (allp g2 (allp g2 (allp g2 (allp g2 (allp g2 (allp g3 (allp (by (first | rw [view_yn] | rw [view_two] | rw [view_twoI] | rw [view_beds] | rw [view_frW] | rw [view_frN] | rw [view_twoF] | skip); apply ndlAt_s <;> (first | assumption | rfl | (simp at * <;> omega))) (allp (by (first | rw [view_yn] | rw [view_two] | rw [view_twoI] | rw [view_beds] | rw [view_frW] | rw [view_frN] | rw [view_twoF] | skip); apply ndlAt_s <;> (first | assumption | rfl | (simp at * <;> omega))) (allp g4 allp_nil))))))))))))))))))
theorem jnE_1 (cf cb : Option Nat) (F B : List Stk) (d i e k : Int) (hc : (chkV F B != (0 : Int)) = false) (hn : ((if ndV d i = true then (0 : Int) else (1 : Int)) != (0 : Int)) = false) (hn2 : ((if ndV e k = true then (0 : Int) else (1 : Int)) != (0 : Int)) = false) (hne : (d == e) = false) (v1 : ndV d i = true) (v2 : ndV e k = true) (hf : ∀ s ∈ F, s.l.length ≤ 4294967296) (hb : ∀ s ∈ B, s.l.length ≤ 4294967296) (hl : (stkAt d i F B).length ≤ 1000000) (hm : (stkAt e k F B).length ≤ 1000000) (hd : d = 0 ∨ d = 1) (h1 : 1 ≤ i) (h2 : i ≤ 40) (he : e = 0 ∨ e = 1) (h3 : 1 ≤ k) (h4 : k ≤ 40) (hA : ∀ t ∈ itms F B, t.2.2.l.length ≤ 4294967296) (hJ : (jnL d (stkAt d i F B) (stkAt e k F B)).length ≤ 4294967296) (hW : ∀ t ∈ itms (stkW (halfT (withT F B d i []) 0)) (stkW (halfT (withT F B d i []) 40)), t.2.2.l.length ≤ 4294967296) (g0 : (chkV F B != (0 : Int)) = false) (g1 : ((if ndV d i = true then (0 : Int) else (1 : Int)) != (0 : Int)) = false) (g2 : ((if ndV e k = true then (0 : Int) else (1 : Int)) != (0 : Int)) = false) (g3 : (d == e) = false) (g4 : ((↑(List.length (List.map Idd.enc (stkAt d i F B))) : Int) == (0 : Int)) = false) (g5 : decide ((4 : Int) < IntKind.wrap IntKind.i64 ((↑(List.length (List.map Idd.enc (stkAt d i F B))) : Int) + (↑(List.length (List.map Idd.enc (stkAt e k F B))) : Int))) = true) : PureC Try.prog 40 [beds (bsl cf F) (bsl cb B), ndl d i, ndl e k]  (AV.tup [AV.agg [niln, niln], it 9]) :=
  funA_ok (H := h40) (n := 68) (ans := [.c, .c, .c, .c, .c, .c, .r (it (chkV F B)), .c, .c, .c, .c, .c, .b false, .c, .r (it (if ndV d i = true then (0 : Int) else (1 : Int))), .c, .c, .c, .c, .b false, .c, .b false, .r (it (if ndV e k = true then (0 : Int) else (1 : Int))), .c, .c, .b false, .c, .b false, .c, .c, .b false, .c, .b false, .c, .c, .c, .b false, .c, .b false, .c, .c, .c, .b false, .c, .b false, .c, .b false, .c, .c, .r (AV.sl Mode.fresh 30 (some (List.length (stkAt d i F B))) (List.map Idd.enc (stkAt d i F B))), .c, .c, .c, .c, .r (AV.sl Mode.fresh 30 (some (List.length (stkAt e k F B))) (List.map Idd.enc (stkAt e k F B))), .c, .c, .c, .c, .c, .c, .c, .b false, .c, .c, .c, .c, .c, .c, .b true, .c, .c, .c]) (ps := [PureC Try.prog 31 [view (AV.agg [bsl cf F, bsl cb B])] (it (chkV F B)), (chkV F B != (0 : Int)) = false, PureC Try.prog 56 [AV.agg [ub d, it i]] (it (if ndV d i = true then (0 : Int) else (1 : Int))), ((if ndV d i = true then (0 : Int) else (1 : Int)) != (0 : Int)) = false, ((if ndV d i = true then (0 : Int) else (1 : Int)) != (0 : Int)) = false, PureC Try.prog 56 [AV.agg [ub e, it k]] (it (if ndV e k = true then (0 : Int) else (1 : Int))), ((if ndV d i = true then (0 : Int) else (1 : Int)) != (0 : Int)) = false, ((if ndV d i = true then (0 : Int) else (1 : Int)) != (0 : Int)) = false, ((if ndV e k = true then (0 : Int) else (1 : Int)) != (0 : Int)) = false, ((if ndV e k = true then (0 : Int) else (1 : Int)) != (0 : Int)) = false, ((if ndV e k = true then (0 : Int) else (1 : Int)) != (0 : Int)) = false, ((if ndV e k = true then (0 : Int) else (1 : Int)) != (0 : Int)) = false, ((if ndV e k = true then (0 : Int) else (1 : Int)) != (0 : Int)) = false, ((if ndV e k = true then (0 : Int) else (1 : Int)) != (0 : Int)) = false, (d == e) = false, PureC Try.prog 33 [view (AV.agg [bsl cf F, bsl cb B]), AV.agg [ub d, it i]] (AV.sl Mode.fresh 30 (some (List.length (stkAt d i F B))) (List.map Idd.enc (stkAt d i F B))), PureC Try.prog 33 [view (AV.agg [bsl cf F, bsl cb B]), AV.agg [ub e, it k]] (AV.sl Mode.fresh 30 (some (List.length (stkAt e k F B))) (List.map Idd.enc (stkAt e k F B))), ((↑(List.length (List.map Idd.enc (stkAt d i F B))) : Int) == (0 : Int)) = false, decide ((4 : Int) < IntKind.wrap IntKind.i64 ((↑(List.length (List.map Idd.enc (stkAt d i F B))) : Int) + (↑(List.length (List.map Idd.enc (stkAt e k F B))) : Int))) = true]) (base 68 0) Try.func40 rfl (by simp) rfl (by kernel_rfl)  (allp (by (first | rw [view_yn] | rw [view_two] | rw [view_twoI] | rw [view_beds] | rw [view_frW] | rw [view_frN] | rw [view_twoF] | skip); apply chk_c <;> (first | assumption | rfl | (simp at * <;> omega))) (allp g0 (allp (by apply nck_c <;> (first | assumption | rfl | (simp at * <;> omega))) (allp g1 (allp g1 (allp (by apply nck_c <;> (first | assumption | rfl | (simp at * <;> omega))) (allp g1 (allp g1 (allp g2 (allp g2 (allp g2 (allp g2 (allp g2 (allp g2 (allp g3 (allp (by (first | rw [view_yn] | rw [view_two] | rw [view_twoI] | rw [view_beds] | rw [view_frW] | rw [view_frN] | rw [view_twoF] | skip); apply ndlAt_s <;> (first | assumption | rfl | (simp at * <;> omega))) (allp (by (first | rw [view_yn] | rw [view_two] | rw [view_twoI] | rw [view_beds] | rw [view_frW] | rw [view_frN] | rw [view_twoF] | skip); apply ndlAt_s <;> (first | assumption | rfl | (simp at * <;> omega))) (allp g4 (allp g5 allp_nil)))))))))))))))))))
theorem jnE_2 (cf cb : Option Nat) (F B : List Stk) (d i e k : Int) (hc : (chkV F B != (0 : Int)) = false) (hn : ((if ndV d i = true then (0 : Int) else (1 : Int)) != (0 : Int)) = false) (hn2 : ((if ndV e k = true then (0 : Int) else (1 : Int)) != (0 : Int)) = false) (hne : (d == e) = false) (v1 : ndV d i = true) (v2 : ndV e k = true) (hf : ∀ s ∈ F, s.l.length ≤ 4294967296) (hb : ∀ s ∈ B, s.l.length ≤ 4294967296) (hl : (stkAt d i F B).length ≤ 1000000) (hm : (stkAt e k F B).length ≤ 1000000) (hd : d = 0 ∨ d = 1) (h1 : 1 ≤ i) (h2 : i ≤ 40) (he : e = 0 ∨ e = 1) (h3 : 1 ≤ k) (h4 : k ≤ 40) (hA : ∀ t ∈ itms F B, t.2.2.l.length ≤ 4294967296) (hJ : (jnL d (stkAt d i F B) (stkAt e k F B)).length ≤ 4294967296) (hW : ∀ t ∈ itms (stkW (halfT (withT F B d i []) 0)) (stkW (halfT (withT F B d i []) 40)), t.2.2.l.length ≤ 4294967296) (g0 : (chkV F B != (0 : Int)) = false) (g1 : ((if ndV d i = true then (0 : Int) else (1 : Int)) != (0 : Int)) = false) (g2 : ((if ndV e k = true then (0 : Int) else (1 : Int)) != (0 : Int)) = false) (g3 : (d == e) = false) (g4 : ((↑(List.length (List.map Idd.enc (stkAt d i F B))) : Int) == (0 : Int)) = false) (g5 : decide ((4 : Int) < IntKind.wrap IntKind.i64 ((↑(List.length (List.map Idd.enc (stkAt d i F B))) : Int) + (↑(List.length (List.map Idd.enc (stkAt e k F B))) : Int))) = false) : PureC Try.prog 40 [beds (bsl cf F) (bsl cb B), ndl d i, ndl e k]  (AV.tup [AV.agg [AV.sl Mode.fresh 62 (some (List.length (halfT (joinT F B d i e k (jnL d (stkAt d i F B) (stkAt e k F B))) (0 : Nat)))) (List.map (mapE (remode shareM (11 : Nat))) (List.map FW (halfT (joinT F B d i e k (jnL d (stkAt d i F B) (stkAt e k F B))) (0 : Nat)))), AV.sl Mode.fresh 62 (some (List.length (halfT (joinT F B d i e k (jnL d (stkAt d i F B) (stkAt e k F B))) (40 : Nat)))) (List.map (mapE (remode shareM (11 : Nat))) (List.map FW (halfT (joinT F B d i e k (jnL d (stkAt d i F B) (stkAt e k F B))) (40 : Nat))))], it 0]) :=
  funA_ok (H := h40) (n := 68) (ans := [.c, .c, .c, .c, .c, .c, .r (it (chkV F B)), .c, .c, .c, .c, .c, .b false, .c, .r (it (if ndV d i = true then (0 : Int) else (1 : Int))), .c, .c, .c, .c, .b false, .c, .b false, .r (it (if ndV e k = true then (0 : Int) else (1 : Int))), .c, .c, .b false, .c, .b false, .c, .c, .b false, .c, .b false, .c, .c, .c, .b false, .c, .b false, .c, .c, .c, .b false, .c, .b false, .c, .b false, .c, .c, .r (AV.sl Mode.fresh 30 (some (List.length (stkAt d i F B))) (List.map Idd.enc (stkAt d i F B))), .c, .c, .c, .c, .r (AV.sl Mode.fresh 30 (some (List.length (stkAt e k F B))) (List.map Idd.enc (stkAt e k F B))), .c, .c, .c, .c, .c, .c, .c, .b false, .c, .c, .c, .c, .c, .c, .b false, .cut Ex.normal [(3, AV.box [bsl cf F, bsl cb B]), (4, AV.box [ub d, it i]), (5, AV.box [ub e, it k]), (6, AV.box [niln, niln]), (9, AV.sl Mode.fresh 30 (some (List.length (stkAt d i F B))) (List.map Idd.enc (stkAt d i F B))), (10, AV.sl Mode.fresh 30 (some (List.length (stkAt e k F B))) (List.map Idd.enc (stkAt e k F B))), (11, AV.sl Mode.own 30 none (List.map Idd.enc (stkAt e k F B ++ stkAt d i F B)))], .cut Ex.normal [(3, AV.box [bsl cf F, bsl cb B]), (4, AV.box [ub d, it i]), (5, AV.box [ub e, it k]), (6, AV.box [niln, niln]), (11, AV.sl Mode.own 30 none (List.map Idd.enc (jnL d (stkAt d i F B) (stkAt e k F B))))], .cut Ex.normal [(6, AV.box [AV.sl Mode.fresh 62 (some (List.length (halfT (joinT F B d i e k (jnL d (stkAt d i F B) (stkAt e k F B))) (0 : Nat)))) (List.map FW (halfT (joinT F B d i e k (jnL d (stkAt d i F B) (stkAt e k F B))) (0 : Nat))), AV.sl Mode.fresh 62 (some (List.length (halfT (joinT F B d i e k (jnL d (stkAt d i F B) (stkAt e k F B))) (40 : Nat)))) (List.map FW (halfT (joinT F B d i e k (jnL d (stkAt d i F B) (stkAt e k F B))) (40 : Nat)))]), (7, it 0)]]) (ps := [PureC Try.prog 31 [view (AV.agg [bsl cf F, bsl cb B])] (it (chkV F B)), (chkV F B != (0 : Int)) = false, PureC Try.prog 56 [AV.agg [ub d, it i]] (it (if ndV d i = true then (0 : Int) else (1 : Int))), ((if ndV d i = true then (0 : Int) else (1 : Int)) != (0 : Int)) = false, ((if ndV d i = true then (0 : Int) else (1 : Int)) != (0 : Int)) = false, PureC Try.prog 56 [AV.agg [ub e, it k]] (it (if ndV e k = true then (0 : Int) else (1 : Int))), ((if ndV d i = true then (0 : Int) else (1 : Int)) != (0 : Int)) = false, ((if ndV d i = true then (0 : Int) else (1 : Int)) != (0 : Int)) = false, ((if ndV e k = true then (0 : Int) else (1 : Int)) != (0 : Int)) = false, ((if ndV e k = true then (0 : Int) else (1 : Int)) != (0 : Int)) = false, ((if ndV e k = true then (0 : Int) else (1 : Int)) != (0 : Int)) = false, ((if ndV e k = true then (0 : Int) else (1 : Int)) != (0 : Int)) = false, ((if ndV e k = true then (0 : Int) else (1 : Int)) != (0 : Int)) = false, ((if ndV e k = true then (0 : Int) else (1 : Int)) != (0 : Int)) = false, (d == e) = false, PureC Try.prog 33 [view (AV.agg [bsl cf F, bsl cb B]), AV.agg [ub d, it i]] (AV.sl Mode.fresh 30 (some (List.length (stkAt d i F B))) (List.map Idd.enc (stkAt d i F B))), PureC Try.prog 33 [view (AV.agg [bsl cf F, bsl cb B]), AV.agg [ub e, it k]] (AV.sl Mode.fresh 30 (some (List.length (stkAt e k F B))) (List.map Idd.enc (stkAt e k F B))), ((↑(List.length (List.map Idd.enc (stkAt d i F B))) : Int) == (0 : Int)) = false, decide ((4 : Int) < IntKind.wrap IntKind.i64 ((↑(List.length (List.map Idd.enc (stkAt d i F B))) : Int) + (↑(List.length (List.map Idd.enc (stkAt e k F B))) : Int))) = false, Tri Try.prog (cxN (68 : Nat) (0 : Nat)) (codeAt Try.f40 (11 : Nat)) [(3, AV.box [bsl cf F, bsl cb B]), (4, AV.box [ub d, it i]), (5, AV.box [ub e, it k]), (6, AV.box [niln, niln]), (9, AV.sl Mode.fresh 30 (some (List.length (stkAt d i F B))) (List.map Idd.enc (stkAt d i F B))), (10, AV.sl Mode.fresh 30 (some (List.length (stkAt e k F B))) (List.map Idd.enc (stkAt e k F B))), (49, bb (decide ((4 : Int) < IntKind.wrap IntKind.i64 ((↑(List.length (List.map Idd.enc (stkAt d i F B))) : Int) + (↑(List.length (List.map Idd.enc (stkAt e k F B))) : Int)))))] Ex.normal [(3, AV.box [bsl cf F, bsl cb B]), (4, AV.box [ub d, it i]), (5, AV.box [ub e, it k]), (6, AV.box [niln, niln]), (9, AV.sl Mode.fresh 30 (some (List.length (stkAt d i F B))) (List.map Idd.enc (stkAt d i F B))), (10, AV.sl Mode.fresh 30 (some (List.length (stkAt e k F B))) (List.map Idd.enc (stkAt e k F B))), (11, AV.sl Mode.own 30 none (List.map Idd.enc (stkAt e k F B ++ stkAt d i F B)))], Tri Try.prog (cxN (68 : Nat) (0 : Nat)) (codeAt Try.f40 (12 : Nat)) [(3, AV.box [bsl cf F, bsl cb B]), (4, AV.box [ub d, it i]), (5, AV.box [ub e, it k]), (6, AV.box [niln, niln]), (9, AV.sl Mode.fresh 30 (some (List.length (stkAt d i F B))) (List.map Idd.enc (stkAt d i F B))), (10, AV.sl Mode.fresh 30 (some (List.length (stkAt e k F B))) (List.map Idd.enc (stkAt e k F B))), (11, AV.sl Mode.own 30 none (List.map Idd.enc (stkAt e k F B ++ stkAt d i F B)))] Ex.normal [(3, AV.box [bsl cf F, bsl cb B]), (4, AV.box [ub d, it i]), (5, AV.box [ub e, it k]), (6, AV.box [niln, niln]), (11, AV.sl Mode.own 30 none (List.map Idd.enc (jnL d (stkAt d i F B) (stkAt e k F B))))], Tri Try.prog (cxN (68 : Nat) (0 : Nat)) (codeAt Try.f40 (14 : Nat)) [(3, AV.box [bsl cf F, bsl cb B]), (4, AV.box [ub d, it i]), (5, AV.box [ub e, it k]), (6, AV.box [niln, niln]), (11, AV.sl Mode.own 30 none (List.map Idd.enc (jnL d (stkAt d i F B) (stkAt e k F B))))] Ex.normal [(6, AV.box [AV.sl Mode.fresh 62 (some (List.length (halfT (joinT F B d i e k (jnL d (stkAt d i F B) (stkAt e k F B))) (0 : Nat)))) (List.map FW (halfT (joinT F B d i e k (jnL d (stkAt d i F B) (stkAt e k F B))) (0 : Nat))), AV.sl Mode.fresh 62 (some (List.length (halfT (joinT F B d i e k (jnL d (stkAt d i F B) (stkAt e k F B))) (40 : Nat)))) (List.map FW (halfT (joinT F B d i e k (jnL d (stkAt d i F B) (stkAt e k F B))) (40 : Nat)))]), (7, it 0)]]) (base 68 0) Try.func40 rfl (by simp) rfl (by kernel_rfl)  (allp (by (first | rw [view_yn] | rw [view_two] | rw [view_twoI] | rw [view_beds] | rw [view_frW] | rw [view_frN] | rw [view_twoF] | skip); apply chk_c <;> (first | assumption | rfl | (simp at * <;> omega))) (allp g0 (allp (by apply nck_c <;> (first | assumption | rfl | (simp at * <;> omega))) (allp g1 (allp g1 (allp (by apply nck_c <;> (first | assumption | rfl | (simp at * <;> omega))) (allp g1 (allp g1 (allp g2 (allp g2 (allp g2 (allp g2 (allp g2 (allp g2 (allp g3 (allp (by (first | rw [view_yn] | rw [view_two] | rw [view_twoI] | rw [view_beds] | rw [view_frW] | rw [view_frN] | rw [view_twoF] | skip); apply ndlAt_s <;> (first | assumption | rfl | (simp at * <;> omega))) (allp (by (first | rw [view_yn] | rw [view_two] | rw [view_twoI] | rw [view_beds] | rw [view_frW] | rw [view_frN] | rw [view_twoF] | skip); apply ndlAt_s <;> (first | assumption | rfl | (simp at * <;> omega))) (allp g4 (allp g5 (allp (by first | (apply chk_c <;> (first | assumption | rfl | (simp at * <;> omega))) | (apply nck_c <;> (first | assumption | rfl | (simp at * <;> omega))) | (apply ndlAt_s <;> (first | assumption | rfl | (simp at * <;> omega))) | (apply j11_c <;> (first | assumption | rfl | (simp at * <;> omega))) | (refine Tri.weak [(3, .keep), (4, .keep), (5, .keep), (6, .keep), (9, .keep), (10, .keep)] ?_; apply j11_c <;> (first | assumption | rfl | (simp at * <;> omega))) | (apply j12_c <;> (first | assumption | rfl | (simp at * <;> omega))) | (refine Tri.weak [(3, .keep), (4, .keep), (5, .keep), (6, .keep), (9, .keep), (10, .keep), (11, .keep)] ?_; apply j12_c <;> (first | assumption | rfl | (simp at * <;> omega))) | (apply j14_c <;> (first | assumption | rfl | (simp at * <;> omega))) | (refine Tri.weak [(3, .keep), (4, .keep), (5, .keep), (6, .keep), (11, .keep)] ?_; apply j14_c <;> (first | assumption | rfl | (simp at * <;> omega)))) (allp (by first | (apply chk_c <;> (first | assumption | rfl | (simp at * <;> omega))) | (apply nck_c <;> (first | assumption | rfl | (simp at * <;> omega))) | (apply ndlAt_s <;> (first | assumption | rfl | (simp at * <;> omega))) | (apply j11_c <;> (first | assumption | rfl | (simp at * <;> omega))) | (refine Tri.weak [(3, .keep), (4, .keep), (5, .keep), (6, .keep), (9, .keep), (10, .keep)] ?_; apply j11_c <;> (first | assumption | rfl | (simp at * <;> omega))) | (apply j12_c <;> (first | assumption | rfl | (simp at * <;> omega))) | (refine Tri.weak [(3, .keep), (4, .keep), (5, .keep), (6, .keep), (9, .keep), (10, .keep), (11, .keep)] ?_; apply j12_c <;> (first | assumption | rfl | (simp at * <;> omega))) | (apply j14_c <;> (first | assumption | rfl | (simp at * <;> omega))) | (refine Tri.weak [(3, .keep), (4, .keep), (5, .keep), (6, .keep), (11, .keep)] ?_; apply j14_c <;> (first | assumption | rfl | (simp at * <;> omega)))) (allp (by first | (apply chk_c <;> (first | assumption | rfl | (simp at * <;> omega))) | (apply nck_c <;> (first | assumption | rfl | (simp at * <;> omega))) | (apply ndlAt_s <;> (first | assumption | rfl | (simp at * <;> omega))) | (apply j11_c <;> (first | assumption | rfl | (simp at * <;> omega))) | (refine Tri.weak [(3, .keep), (4, .keep), (5, .keep), (6, .keep), (9, .keep), (10, .keep)] ?_; apply j11_c <;> (first | assumption | rfl | (simp at * <;> omega))) | (apply j12_c <;> (first | assumption | rfl | (simp at * <;> omega))) | (refine Tri.weak [(3, .keep), (4, .keep), (5, .keep), (6, .keep), (9, .keep), (10, .keep), (11, .keep)] ?_; apply j12_c <;> (first | assumption | rfl | (simp at * <;> omega))) | (apply j14_c <;> (first | assumption | rfl | (simp at * <;> omega))) | (refine Tri.weak [(3, .keep), (4, .keep), (5, .keep), (6, .keep), (11, .keep)] ?_; apply j14_c <;> (first | assumption | rfl | (simp at * <;> omega)))) allp_nil))))))))))))))))))))))
end Tst
end

section
open Go Go.Lf Go.Proofs
namespace Tst
def joinV (F B : List Stk) (d i e k : Int) : AV :=
  if chkV F B != 0 then nilR (chkV F B) else if !ndV d i || !ndV e k || d == e then nilR 1
  else if (stkAt d i F B).length = 0 then nilR 13 else if 4 < (stkAt d i F B).length + (stkAt e k F B).length then nilR 9
  else bedsR (halfT (joinT F B d i e k (jnL d (stkAt d i F B) (stkAt e k F B))) 0) (halfT (joinT F B d i e k (jnL d (stkAt d i F B) (stkAt e k F B))) 40)
theorem jnL_len (d : Int) (l m : List Idd) : (jnL d l m).length = l.length + m.length := by
  unfold jnL
  split <;> simp <;> omega
theorem itms_mem_F {F B : List Stk} (hF : F.length ≤ 40) {s : Stk} (h : s ∈ F) : ∃ t ∈ itms F B, t.2.2 = s := by
  obtain ⟨j, hj, rfl⟩ := List.mem_iff_getElem.1 h
  refine ⟨(0, (j : Int) + 1, F[j]), List.mem_append.2 (.inl (List.mem_map.2 ⟨(F[j], j), ?_, rfl⟩)), rfl⟩
  rw [List.take_of_length_le hF]
  exact List.mem_zipIdx_iff_getElem?.2 (by simp [hj])
theorem itms_mem_B {F B : List Stk} (hB : B.length ≤ 40) {s : Stk} (h : s ∈ B) : ∃ t ∈ itms F B, t.2.2 = s := by
  obtain ⟨j, hj, rfl⟩ := List.mem_iff_getElem.1 h
  refine ⟨(1, (j : Int) + 1, B[j]), List.mem_append.2 (.inr (List.mem_map.2 ⟨(B[j], j), ?_, rfl⟩)), rfl⟩
  rw [List.take_of_length_le hB]
  exact List.mem_zipIdx_iff_getElem?.2 (by simp [hj])
theorem stkAt_len {F B : List Stk} {n : Nat} (hf : ∀ s ∈ F, s.l.length ≤ n) (hb : ∀ s ∈ B, s.l.length ≤ n) (d i : Int) : (stkAt d i F B).length ≤ n := by
  unfold stkAt stackOf
  split
  · split
    · have key : ∀ l : List Stk, (∀ s ∈ l, s.l.length ≤ n) → ∀ j, (l.getD j default).l.length ≤ n := by
        intro l hl j
        rw [List.getD_eq_getElem?_getD]
        cases hj : l[j]? with
        | none => exact Nat.zero_le _
        | some s => exact hl s (List.mem_of_getElem? hj)
      first | exact key _ hf _ | exact key _ hb _
    · simp
  · split
    · have key : ∀ l : List Stk, (∀ s ∈ l, s.l.length ≤ n) → ∀ j, (l.getD j default).l.length ≤ n := by
        intro l hl j
        rw [List.getD_eq_getElem?_getD]
        cases hj : l[j]? with
        | none => exact Nat.zero_le _
        | some s => exact hl s (List.mem_of_getElem? hj)
      first | exact key _ hf _ | exact key _ hb _
    · simp
theorem join_c (cf cb : Option Nat) (F B : List Stk) (d i e k : Int) : PureC Try.prog 40 [beds (bsl cf F) (bsl cb B), ndl d i, ndl e k] (joinV F B d i e k) := by
  unfold joinV
  cases hc : (chkV F B != 0) with
  | true => exact jnA_0 cf cb F B d i e k hc hc
  | false =>
    have hc0 : chkV F B = 0 := by simpa using hc
    obtain ⟨hF, hB, hA⟩ := chk_len hc0
    have hf : ∀ s ∈ F, s.l.length ≤ 4 := fun s hs => by obtain ⟨t, ht, rfl⟩ := itms_mem_F (B := B) hF hs; exact hA t ht
    have hb : ∀ s ∈ B, s.l.length ≤ 4 := fun s hs => by obtain ⟨t, ht, rfl⟩ := itms_mem_B (F := F) hB hs; exact hA t ht
    cases v1 : ndV d i with
    | false => exact jnB_0 cf cb F B d i e k hc hc (by rw [v1]; rfl)
    | true =>
      have hn : ((if ndV d i = true then (0 : Int) else (1 : Int)) != (0 : Int)) = false := by rw [v1]; rfl
      cases v2 : ndV e k with
      | false => exact jnB_1 cf cb F B d i e k hc hc hn (by rw [v2]; rfl)
      | true =>
        have hn2 : ((if ndV e k = true then (0 : Int) else (1 : Int)) != (0 : Int)) = false := by rw [v2]; rfl
        cases hne : (d == e) with
        | true => exact jnB_2 cf cb F B d i e k hc hc hn hn2 hne
        | false =>
          obtain ⟨hd, h1, h2⟩ := ndV_in v1
          obtain ⟨he, h3, h4⟩ := ndV_in v2
          have hl := stkAt_len hf hb d i
          have hm := stkAt_len hf hb e k
          have hf' : ∀ s ∈ F, s.l.length ≤ 4294967296 := fun s hs => by have := hf s hs; omega
          have hb' : ∀ s ∈ B, s.l.length ≤ 4294967296 := fun s hs => by have := hb s hs; omega
          have hA' : ∀ t ∈ itms F B, t.2.2.l.length ≤ 4294967296 := fun t ht => by have := hA t ht; omega
          have hJ : (jnL d (stkAt d i F B) (stkAt e k F B)).length ≤ 4294967296 := by rw [jnL_len]; omega
          have hlen := withT_len4 (F := F) (B := B) (d := d) (i := i) (l := []) (n := 4) hA (by simp)
          have hW : ∀ t ∈ itms (stkW (halfT (withT F B d i []) 0)) (stkW (halfT (withT F B d i []) 40)), t.2.2.l.length ≤ 4294967296 := by
            intro t ht
            rcases itms_stkW_mem ht with h | h <;> have := hlen _ (halfT_mem h) <;> omega
          have hw : IntKind.wrap IntKind.i64 ((((stkAt d i F B).map Idd.enc).length : Int) + (((stkAt e k F B).map Idd.enc).length : Int)) = (((stkAt d i F B).length + (stkAt e k F B).length : Nat) : Int) := by
            rw [wrap_id' (by omega) (by simp; omega), List.length_map, List.length_map]; omega
          by_cases g4 : (stkAt d i F B).length = 0
          · simp only [if_pos g4]
            exact jnE_0 cf cb F B d i e k hc hn hn2 hne v1 v2 hf' hb' (by omega) (by omega) hd h1 h2 he h3 h4 hA' hJ hW hc hn hn2 hne (by rw [List.length_map, g4]; rfl)
          · simp only [if_neg g4]
            have g4' : ((((stkAt d i F B).map Idd.enc).length : Int) == 0) = false := by rw [List.length_map, beq_eq_false_iff_ne]; omega
            by_cases g5 : 4 < (stkAt d i F B).length + (stkAt e k F B).length
            · simp only [if_pos g5]
              exact jnE_1 cf cb F B d i e k hc hn hn2 hne v1 v2 hf' hb' (by omega) (by omega) hd h1 h2 he h3 h4 hA' hJ hW hc hn hn2 hne g4' (by rw [hw]; exact decide_eq_true (by omega))
            · simp only [if_neg g5]
              have h := jnE_2 cf cb F B d i e k hc hn hn2 hne v1 v2 hf' hb' (by omega) (by omega) hd h1 h2 he h3 h4 hA' hJ hW hc hn hn2 hne g4' (by rw [hw]; exact decide_eq_false (by omega))
              rw [smap_FW, smap_FW] at h
              exact h
end Tst
end

section
open Go Go.Lf Go.Proofs
namespace Tst
set_option maxHeartbeats 0
theorem f2_len {α β : Type} {R : α → β → Prop} {l : List α} {m : List β} (h : F2 R l m) : l.length = m.length := by
  induction h with
  | nil => rfl
  | cons _ _ ih => simp [ih]
theorem Le.toAny {P : Program} {m : Lf.Mode} (hm : m ≠ .own) {e : TypeId} {c : Option Nat} {xs ys : List AV} (hl : xs.length = ys.length) (hu : ∀ sz, Uni sz xs → Uni sz ys) (hf : F2 (Le P) (flat xs) (flat ys)) : Le P (.sl m e c xs) (.sl .any e c ys) := by
  intro B0 w S n v O hr
  obtain ⟨n, rfl⟩ := hr.pos
  have key : ∀ m', Shs P B0 w S (Rv P B0 w S n) m' e c xs v O → Shs P B0 w S (Rv P B0 w S n) .any e c ys v O := by
    intro m' ⟨A, k, hv, hk, hm, hc, hx, hz, h⟩
    refine ⟨A, k, by rw [hv, hl], by omega, hm, hc, hu _ hx, hz, fun hne => ?_⟩
    obtain ⟨g, off, C, T, fr, h1, h2, h3, h4, h5, h6⟩ := h (fun e => hne (List.eq_nil_of_length_eq_zero (by rw [← hl, e]; rfl)))
    have hfl : (flat xs).length = (flat ys).length := f2_len hf
    exact ⟨g, off, C, T, fr, h1, h2, fun h => by (cases h), h4, by rw [← hfl]; exact h5, by rw [← hfl]; exact Rc.le2 (ys := flat ys) h6 hf⟩
  cases m with
  | own => exact absurd rfl hm
  | fresh => exact key _ hr
  | any => exact key _ hr
theorem flat_ones {xs : List AV} (h : ∀ x ∈ xs, x.ecells = [x]) : flat xs = xs := by
  induction xs with
  | nil => rfl
  | cons x xs ih => rw [flat_cons, h x (by simp), ih fun y hy => h y (by simp [hy])]; rfl
theorem F2.map2 {α β γ : Type} {R : α → β → Prop} {f : γ → α} {g : γ → β} (h : ∀ x, R (f x) (g x)) : ∀ l : List γ, F2 R (l.map f) (l.map g)
  | [] => .nil
  | x :: l => .cons (h x) (F2.map2 h l)
theorem F2.rfl' {P : Program} : ∀ l : List AV, F2 (Le P) l l
  | [] => .nil
  | x :: l => .cons (Le.refl x) (F2.rfl' l)
theorem Le.fwE {P : Program} (l : List Idd) : Le P (FW l) (Stk.enc ⟨some l.length, l⟩) := Le.toAny (by simp) rfl (fun _ h => h) (F2.rfl' _)
theorem Le.frW {P : Program} (x : List (List Idd)) : Le P (frW x) (bsl (some x.length) (stkW x)) := by
  have e : (stkW x).map Stk.enc = x.map fun l => Stk.enc ⟨some l.length, l⟩ := by unfold stkW; rw [List.map_map]; rfl
  show Le P (.sl .fresh 62 (some x.length) (x.map FW)) (.sl .any 62 (some x.length) ((stkW x).map Stk.enc))
  rw [e]
  refine Le.toAny (by simp) (by simp) (fun sz h y hy => ?_) ?_
  · obtain ⟨l, hl, rfl⟩ := List.mem_map.1 hy
    have := h (FW l) (List.mem_map.2 ⟨l, hl, rfl⟩)
    exact this
  · rw [flat_ones (fun y hy => by obtain ⟨l, _, rfl⟩ := List.mem_map.1 hy; rfl), flat_ones (fun y hy => by obtain ⟨l, _, rfl⟩ := List.mem_map.1 hy; rfl)]
    exact F2.map2 (fun l => Le.fwE l) x
abbrev ia : Idd := ⟨1, 0⟩
abbrev ib : Idd := ⟨1, 1⟩
abbrev ic : Idd := ⟨2, 0⟩
abbrev XF : List Stk := [⟨some 0, []⟩, ⟨some 2, [ia, ib]⟩]
abbrev XB : List Stk := [⟨some 0, []⟩, ⟨some 1, [ic]⟩]
abbrev bX : AV := beds (bsl (some 2) XF) (bsl (some 2) XB)
abbrev YB : List Stk := [⟨some 0, []⟩, ⟨some 3, [ic, ia, ib]⟩]
abbrev bY : AV := beds (bsl (some 0) []) (bsl (some 2) YB)
abbrev bZ : AV := beds (bsl (some 2) YB) (bsl (some 0) [])
abbrev VF : List Stk := [⟨some 0, []⟩, ⟨some 1, [ib]⟩]
abbrev VB : List Stk := [⟨some 0, []⟩, ⟨some 1, [ic]⟩]
abbrev bV : AV := beds (bsl (some 2) VF) (bsl (some 2) VB)
theorem x_find : PureC Try.prog 35 [bX, .agg [ub 2, it 0]] (.tup [ndl 1 2, it 0]) :=
  fdy_0 (some 2) (some 2) XF XB ic (by decide) [(0, 1, ⟨some 0, []⟩), (0, 2, ⟨some 2, [ia, ib]⟩), (1, 1, ⟨some 0, []⟩)] (1, 2, ⟨some 1, [ic]⟩) [] rfl (by decide) (by decide)
theorem x_chk : PureC Try.prog 31 [bX] (it 0) := chk_c (some 2) (some 2) XF XB
theorem x_at2 : PureC Try.prog 33 [bX, ndl 0 2] (iow (some 2) [ia, ib]) := ndlAt_v 0 2 (some 2) (some 2) XF XB rfl (by decide) (by decide)
theorem x_at1 : PureC Try.prog 33 [bX, ndl 0 1] (iow (some 0) []) := ndlAt_v 0 1 (some 2) (some 2) XF XB rfl (by decide) (by decide)
theorem x_cnt : PureC Try.prog 36 [bX] (it 3) := cn_0 (some 2) (some 2) XF XB (by decide)
theorem x_jn1 : PureC Try.prog 40 [bX, ndl 0 2, ndl 1 2] (.tup [.agg [.sl .fresh 62 (some 0) [], .sl .fresh 62 (some 2) [.sl .fresh 30 (some 0) [], .sl .fresh 30 (some 3) [Idd.enc ic, Idd.enc ia, Idd.enc ib]]], it 0]) := join_c (some 2) (some 2) XF XB 0 2 1 2
theorem x_jn2 : PureC Try.prog 40 [bX, ndl 1 2, ndl 0 2] (.tup [.agg [.sl .fresh 62 (some 2) [.sl .fresh 30 (some 0) [], .sl .fresh 30 (some 3) [Idd.enc ic, Idd.enc ia, Idd.enc ib]], .sl .fresh 62 (some 0) []], it 0]) := join_c (some 2) (some 2) XF XB 1 2 0 2
theorem x_jn3 : PureC Try.prog 40 [bX, ndl 0 1, ndl 1 1] (nilR 13) := join_c (some 2) (some 2) XF XB 0 1 1 1
theorem x_jn4 : PureC Try.prog 40 [bX, ndl 0 2, ndl 0 3] (nilR 1) := join_c (some 2) (some 2) XF XB 0 2 0 3
theorem x_set1 : PureC Try.prog 38 [bX, ndl 0 1, isl (some 1) [ic]] (nilR 8) := set_c (some 2) (some 2) (some 1) XF XB 0 1 [ic] (by decide)
theorem x_set2 : PureC Try.prog 38 [bX, ndl 0 2, isl (some 1) [ib]] (.tup [.agg [.sl .fresh 62 (some 2) [.sl .fresh 30 (some 0) [], .sl .fresh 30 (some 1) [Idd.enc ib]], .sl .fresh 62 (some 2) [.sl .fresh 30 (some 0) [], .sl .fresh 30 (some 1) [Idd.enc ic]]], it 0]) := set_c (some 2) (some 2) (some 1) XF XB 0 2 [ib] (by decide)
theorem y_at : PureC Try.prog 33 [bY, ndl 1 2] (iow (some 3) [ic, ia, ib]) := ndlAt_v 1 2 (some 0) (some 2) [] YB rfl (by decide) (by decide)
theorem z_at : PureC Try.prog 33 [bZ, ndl 0 2] (iow (some 3) [ic, ia, ib]) := ndlAt_v 0 2 (some 2) (some 0) YB [] rfl (by decide) (by decide)
theorem v_at : PureC Try.prog 33 [bV, ndl 0 2] (iow (some 1) [ib]) := ndlAt_v 0 2 (some 2) (some 2) VF VB rfl (by decide) (by decide)
theorem v_cnt : PureC Try.prog 36 [bV] (it 2) := cn_0 (some 2) (some 2) VF VB (by decide)
theorem s_y : PureC Try.prog 41 [isl (some 3) [ic, ia, ib], isl (some 3) [ic, ia, ib]] (it 1) := s41_c 3 (some 3) [ic, ia, ib] [ic, ia, ib] (by decide)
theorem s_v : PureC Try.prog 41 [isl (some 1) [ib], isl (some 1) [ib]] (it 1) := s41_c 1 (some 1) [ib] [ib] (by decide)
abbrev tXF : AV := .sl .any 62 (some 2) [.sl .any 30 (some 0) [], .sl .any 30 (some 2) [Idd.enc ia, Idd.enc ib]]
abbrev tXB : AV := .sl .any 62 (some 2) [.sl .any 30 (some 0) [], .sl .any 30 (some 1) [Idd.enc ic]]
abbrev tYB : AV := .sl .any 62 (some 2) [.sl .any 30 (some 0) [], .sl .any 30 (some 3) [Idd.enc ic, Idd.enc ia, Idd.enc ib]]
abbrev tVF : AV := .sl .any 62 (some 2) [.sl .any 30 (some 0) [], .sl .any 30 (some 1) [Idd.enc ib]]
abbrev tVB : AV := .sl .any 62 (some 2) [.sl .any 30 (some 0) [], .sl .any 30 (some 1) [Idd.enc ic]]
abbrev tN : AV := .sl .any 62 (some 0) []
abbrev eX : AV := .box [tXF, tXB]
abbrev eY : AV := .box [tN, tYB]
abbrev eZ : AV := .box [tYB, tN]
abbrev eV : AV := .box [tVF, tVB]
end Tst
end

section
open Go Go.Lf Go.Proofs
namespace Tst
set_option maxHeartbeats 0
theorem l0_0 (u : Nat) : Tri Try.prog (cxN 174 0) (regAt Try.f37 0) ([] ) (Ex.normal) ([]) :=
  evA_ok (H := h37) (ans := [.c]) (ps := []) (ans' := []) (base 174 0) cxA_K.1 cxA_K.2 _ (by kernel_rfl)  allp_nil
theorem l1_0 (u : Nat) : Tri Try.prog (cxN 174 0) (regAt Try.f37 1) ([] ) (Ex.normal) ([(1, AV.box [ub 1, it 0]), (2, AV.box [ub 1, it 1]), (3, AV.box [ub 2, it 0])]) :=
  evA_ok (H := h37) (ans := [.c, .c, .c, .c, .c, .c, .c, .c, .c]) (ps := []) (ans' := []) (base 174 0) cxA_K.1 cxA_K.2 _ (by kernel_rfl)  allp_nil
theorem l3_0 (u : Nat) : Tri Try.prog (cxN 174 0) (regAt Try.f37 3) ([(1, .box [ub 1, it 0]), (2, .box [ub 1, it 1]), (3, .box [ub 2, it 0]), (4, eX)] ) (Ex.normal) ([(1, AV.box [ub 1, it 0]), (2, AV.box [ub 1, it 1]), (3, AV.box [ub 2, it 0]), (4, eX), (5, AV.box [ub 0, it 1]), (6, AV.box [ub 0, it 2]), (7, AV.box [ub 1, it 2])]) :=
  evA_ok (H := h37) (ans := [.c, .c, .c, .c, .c, .c, .c, .c, .c]) (ps := []) (ans' := []) (base 174 0) cxA_K.1 cxA_K.2 _ (by kernel_rfl)  allp_nil
theorem l4_0 (u : Nat) : Tri Try.prog (cxN 174 0) (regAt Try.f37 4) ([(1, .box [ub 1, it 0]), (2, .box [ub 1, it 1]), (3, .box [ub 2, it 0]), (4, eX), (5, .box [ub 0, it 1]), (6, .box [ub 0, it 2]), (7, .box [ub 1, it 2])] ) (Ex.normal) ([(1, AV.box [ub 1, it 0]), (2, AV.box [ub 1, it 1]), (3, AV.box [ub 2, it 0]), (4, eX), (5, AV.box [ub 0, it 1]), (6, AV.box [ub 0, it 2]), (7, AV.box [ub 1, it 2]), (8, AV.box [ub 1, it 2]), (9, it 0)]) :=
  evA_ok (H := h37) (ans := [.c, .c, .r (AV.tup [AV.agg [ub 1, it 2], it 0]), .c, .c, .c, .c, .c, .c, .c, .c]) (ps := [PureC Try.prog 35 [view (AV.agg [tXF, tXB]), AV.agg [ub 2, it 0]] (AV.tup [AV.agg [ub 1, it 2], it 0])]) (ans' := []) (base 174 0) cxA_K.1 cxA_K.2 _ (by kernel_rfl)  (allp (by (first | rw [view_yn] | rw [view_two] | rw [view_twoI] | rw [view_beds] | rw [view_frW] | rw [view_frN] | rw [view_twoF] | skip); apply x_find <;> (first | assumption | rfl | (simp at * <;> omega))) allp_nil)
theorem l5_0 (u : Nat) (g0 : AV.sl Mode.own 30 (some 2) [Idd.enc ia, Idd.enc ib] = AV.sl Mode.own 30 (some 2) (List.map Idd.enc [ia, { y := Idd.y ib, n := Idd.n ib }])) (g1 : AV.sl Mode.own 30 (some 0) [] = AV.sl Mode.own 30 (some 0) (List.map Idd.enc [])) : Tri Try.prog (cxN 174 0) (regAt Try.f37 5) ([(1, .box [ub 1, it 0]), (2, .box [ub 1, it 1]), (3, .box [ub 2, it 0]), (4, eX), (5, .box [ub 0, it 1]), (6, .box [ub 0, it 2]), (7, .box [ub 1, it 2]), (8, .box [ub 1, it 2]), (9, it 0)] ) (Ex.normal) ([(1, AV.box [ub 1, it 0]), (2, AV.box [ub 1, it 1]), (3, AV.box [ub 2, it 0]), (4, eX), (5, AV.box [ub 0, it 1]), (6, AV.box [ub 0, it 2]), (7, AV.box [ub 1, it 2]), (67, bb ((0 : Int) != (0 : Int)))]) :=
  evA_ok (H := h37) (ans := [.c, .r (it 0), .c, .c, .c, .c, .c, .c, .c, .c, .c, .r (AV.sl Mode.own 30 (some 2) [Idd.enc ia, Idd.enc ib]), .c, .r (AV.sl Mode.own 30 (some 2) (List.map Idd.enc [ia, { y := Idd.y ib, n := Idd.n ib }])), .c, .c, .c, .c, .c, .c, .c, .c, .c, .c, .c, .c, .r (AV.sl Mode.own 30 (some 0) []), .c, .r (AV.sl Mode.own 30 (some 0) (List.map Idd.enc [])), .c, .c, .c, .c, .c, .c, .c, .c, .c, .c, .r (it 3), .c, .c, .c, .c, .c, .c, .c, .c, .c, .c, .c, .c, .c, .c, .c, .c, .c, .c, .c, .c, .c, .c]) (ps := [PureC Try.prog 31 [view (AV.agg [tXF, tXB])] (it 0), PureC Try.prog 33 [view (AV.agg [tXF, tXB]), AV.agg [ub 0, it 2]] (AV.sl Mode.own 30 (some 2) [Idd.enc ia, Idd.enc ib]), AV.sl Mode.own 30 (some 2) [Idd.enc ia, Idd.enc ib] = AV.sl Mode.own 30 (some 2) (List.map Idd.enc [ia, { y := Idd.y ib, n := Idd.n ib }]), PureC Try.prog 33 [view (AV.agg [tXF, tXB]), AV.agg [ub 0, it 1]] (AV.sl Mode.own 30 (some 0) []), AV.sl Mode.own 30 (some 0) [] = AV.sl Mode.own 30 (some 0) (List.map Idd.enc []), PureC Try.prog 36 [view (AV.agg [tXF, tXB])] (it 3)]) (ans' := []) (base 174 0) cxA_K.1 cxA_K.2 _ (by kernel_rfl)  (allp (by (first | rw [view_yn] | rw [view_two] | rw [view_twoI] | rw [view_beds] | rw [view_frW] | rw [view_frN] | rw [view_twoF] | skip); apply x_chk <;> (first | assumption | rfl | (simp at * <;> omega))) (allp (by (first | rw [view_yn] | rw [view_two] | rw [view_twoI] | rw [view_beds] | rw [view_frW] | rw [view_frN] | rw [view_twoF] | skip); first | (apply x_at2 <;> (first | assumption | rfl | (simp at * <;> omega))) | (apply x_at1 <;> (first | assumption | rfl | (simp at * <;> omega)))) (allp g0 (allp (by (first | rw [view_yn] | rw [view_two] | rw [view_twoI] | rw [view_beds] | rw [view_frW] | rw [view_frN] | rw [view_twoF] | skip); first | (apply x_at2 <;> (first | assumption | rfl | (simp at * <;> omega))) | (apply x_at1 <;> (first | assumption | rfl | (simp at * <;> omega)))) (allp g1 (allp (by (first | rw [view_yn] | rw [view_two] | rw [view_twoI] | rw [view_beds] | rw [view_frW] | rw [view_frN] | rw [view_twoF] | skip); apply x_cnt <;> (first | assumption | rfl | (simp at * <;> omega))) allp_nil))))))
theorem l7_0 (u : Nat) (g0 : AV.agg [AV.sl Mode.fresh 62 (some 0) [], AV.sl Mode.fresh 62 (some 2) [AV.sl Mode.fresh 30 (some 0) [], AV.sl Mode.fresh 30 (some 3) [Idd.enc ic, Idd.enc ia, Idd.enc ib]]] = AV.agg [AV.sl Mode.fresh 62 (some 0) (List.map Stk.enc []), AV.sl Mode.fresh 62 (some 2) [AV.sl Mode.fresh 30 (some 0) [], AV.sl Mode.fresh 30 (some 3) [Idd.enc ic, Idd.enc ia, Idd.enc ib]]]) : Tri Try.prog (cxN 174 0) (regAt Try.f37 7) ([(1, .box [ub 1, it 0]), (2, .box [ub 1, it 1]), (3, .box [ub 2, it 0]), (4, eX), (5, .box [ub 0, it 1]), (6, .box [ub 0, it 2]), (7, .box [ub 1, it 2])] ) (Ex.normal) ([(1, AV.box [ub 1, it 0]), (2, AV.box [ub 1, it 1]), (3, AV.box [ub 2, it 0]), (4, eX), (5, AV.box [ub 0, it 1]), (6, AV.box [ub 0, it 2]), (7, AV.box [ub 1, it 2]), (9, it 0), (10, AV.box [AV.sl Mode.fresh 62 (some 0) [], AV.sl Mode.fresh 62 (some 2) [AV.sl Mode.fresh 30 (some 0) [], AV.sl Mode.fresh 30 (some 3) [Idd.enc ic, Idd.enc ia, Idd.enc ib]]])]) :=
  evA_ok (H := h37) (ans := [.c, .c, .c, .r (AV.tup [AV.agg [AV.sl Mode.fresh 62 (some 0) [], AV.sl Mode.fresh 62 (some 2) [AV.sl Mode.fresh 30 (some 0) [], AV.sl Mode.fresh 30 (some 3) [Idd.enc ic, Idd.enc ia, Idd.enc ib]]], it 0]), .c, .c, .c, .r (AV.agg [AV.sl Mode.fresh 62 (some 0) (List.map Stk.enc []), AV.sl Mode.fresh 62 (some 2) [AV.sl Mode.fresh 30 (some 0) [], AV.sl Mode.fresh 30 (some 3) [Idd.enc ic, Idd.enc ia, Idd.enc ib]]]), .c, .c, .c, .c]) (ps := [PureC Try.prog 40 [view (AV.agg [tXF, tXB]), AV.agg [ub 0, it 2], AV.agg [ub 1, it 2]] (AV.tup [AV.agg [AV.sl Mode.fresh 62 (some 0) [], AV.sl Mode.fresh 62 (some 2) [AV.sl Mode.fresh 30 (some 0) [], AV.sl Mode.fresh 30 (some 3) [Idd.enc ic, Idd.enc ia, Idd.enc ib]]], it 0]), AV.agg [AV.sl Mode.fresh 62 (some 0) [], AV.sl Mode.fresh 62 (some 2) [AV.sl Mode.fresh 30 (some 0) [], AV.sl Mode.fresh 30 (some 3) [Idd.enc ic, Idd.enc ia, Idd.enc ib]]] = AV.agg [AV.sl Mode.fresh 62 (some 0) (List.map Stk.enc []), AV.sl Mode.fresh 62 (some 2) [AV.sl Mode.fresh 30 (some 0) [], AV.sl Mode.fresh 30 (some 3) [Idd.enc ic, Idd.enc ia, Idd.enc ib]]]]) (ans' := []) (base 174 0) cxA_K.1 cxA_K.2 _ (by kernel_rfl)  (allp (by (first | rw [view_yn] | rw [view_two] | rw [view_twoI] | rw [view_beds] | rw [view_frW] | rw [view_frN] | rw [view_twoF] | skip); apply x_jn1 <;> (first | assumption | rfl | (simp at * <;> omega))) (allp g0 allp_nil))
theorem l8_0 (u : Nat) (g0 : AV.agg [AV.sl Mode.fresh 62 (some 2) [AV.sl Mode.fresh 30 (some 0) [], AV.sl Mode.fresh 30 (some 3) [Idd.enc ic, Idd.enc ia, Idd.enc ib]], AV.sl Mode.fresh 62 (some 0) []] = AV.agg [AV.sl Mode.fresh 62 (some 2) [AV.sl Mode.fresh 30 (some 0) [], AV.sl Mode.fresh 30 (some 3) [Idd.enc ic, Idd.enc ia, Idd.enc ib]], AV.sl Mode.fresh 62 (some 0) (List.map Stk.enc [])]) : Tri Try.prog (cxN 174 0) (regAt Try.f37 8) ([(1, .box [ub 1, it 0]), (2, .box [ub 1, it 1]), (3, .box [ub 2, it 0]), (4, eX), (5, .box [ub 0, it 1]), (6, .box [ub 0, it 2]), (7, .box [ub 1, it 2]), (9, it 0), (10, eY)] ) (Ex.normal) ([(1, AV.box [ub 1, it 0]), (2, AV.box [ub 1, it 1]), (3, AV.box [ub 2, it 0]), (4, eX), (5, AV.box [ub 0, it 1]), (6, AV.box [ub 0, it 2]), (7, AV.box [ub 1, it 2]), (9, it 0), (10, eY), (11, AV.box [AV.sl Mode.fresh 62 (some 2) [AV.sl Mode.fresh 30 (some 0) [], AV.sl Mode.fresh 30 (some 3) [Idd.enc ic, Idd.enc ia, Idd.enc ib]], AV.sl Mode.fresh 62 (some 0) []]), (12, it 0)]) :=
  evA_ok (H := h37) (ans := [.c, .c, .c, .r (AV.tup [AV.agg [AV.sl Mode.fresh 62 (some 2) [AV.sl Mode.fresh 30 (some 0) [], AV.sl Mode.fresh 30 (some 3) [Idd.enc ic, Idd.enc ia, Idd.enc ib]], AV.sl Mode.fresh 62 (some 0) []], it 0]), .c, .c, .c, .r (AV.agg [AV.sl Mode.fresh 62 (some 2) [AV.sl Mode.fresh 30 (some 0) [], AV.sl Mode.fresh 30 (some 3) [Idd.enc ic, Idd.enc ia, Idd.enc ib]], AV.sl Mode.fresh 62 (some 0) (List.map Stk.enc [])]), .c, .c, .c, .c]) (ps := [PureC Try.prog 40 [view (AV.agg [tXF, tXB]), AV.agg [ub 1, it 2], AV.agg [ub 0, it 2]] (AV.tup [AV.agg [AV.sl Mode.fresh 62 (some 2) [AV.sl Mode.fresh 30 (some 0) [], AV.sl Mode.fresh 30 (some 3) [Idd.enc ic, Idd.enc ia, Idd.enc ib]], AV.sl Mode.fresh 62 (some 0) []], it 0]), AV.agg [AV.sl Mode.fresh 62 (some 2) [AV.sl Mode.fresh 30 (some 0) [], AV.sl Mode.fresh 30 (some 3) [Idd.enc ic, Idd.enc ia, Idd.enc ib]], AV.sl Mode.fresh 62 (some 0) []] = AV.agg [AV.sl Mode.fresh 62 (some 2) [AV.sl Mode.fresh 30 (some 0) [], AV.sl Mode.fresh 30 (some 3) [Idd.enc ic, Idd.enc ia, Idd.enc ib]], AV.sl Mode.fresh 62 (some 0) (List.map Stk.enc [])]]) (ans' := []) (base 174 0) cxA_K.1 cxA_K.2 _ (by kernel_rfl)  (allp (by (first | rw [view_yn] | rw [view_two] | rw [view_twoI] | rw [view_beds] | rw [view_frW] | rw [view_frN] | rw [view_twoF] | skip); apply x_jn2 <;> (first | assumption | rfl | (simp at * <;> omega))) (allp g0 allp_nil))
theorem l9_0 (u : Nat) : Tri Try.prog (cxN 174 0) (regAt Try.f37 9) ([(1, .box [ub 1, it 0]), (2, .box [ub 1, it 1]), (3, .box [ub 2, it 0]), (4, eX), (5, .box [ub 0, it 1]), (6, .box [ub 0, it 2]), (7, .box [ub 1, it 2]), (9, it 0), (10, eY), (11, eZ), (12, it 0)] ) (Ex.normal) ([(1, AV.box [ub 1, it 0]), (2, AV.box [ub 1, it 1]), (3, AV.box [ub 2, it 0]), (4, eX), (5, AV.box [ub 0, it 1]), (6, AV.box [ub 0, it 2]), (7, AV.box [ub 1, it 2]), (9, it 0), (10, eY), (11, eZ), (12, it 0), (14, it 13)]) :=
  evA_ok (H := h37) (ans := [.c, .c, .c, .r (AV.tup [AV.agg [niln, niln], it 13]), .c, .c, .c, .c, .c, .c, .c, .c]) (ps := [PureC Try.prog 40 [view (AV.agg [tXF, tXB]), AV.agg [ub 0, it 1], AV.agg [ub 1, it 1]] (AV.tup [AV.agg [niln, niln], it 13])]) (ans' := []) (base 174 0) cxA_K.1 cxA_K.2 _ (by kernel_rfl)  (allp (by (first | rw [view_yn] | rw [view_two] | rw [view_twoI] | rw [view_beds] | rw [view_frW] | rw [view_frN] | rw [view_twoF] | skip); apply x_jn3 <;> (first | assumption | rfl | (simp at * <;> omega))) allp_nil)
theorem l10_0 (u : Nat) : Tri Try.prog (cxN 174 0) (regAt Try.f37 10) ([(1, .box [ub 1, it 0]), (2, .box [ub 1, it 1]), (3, .box [ub 2, it 0]), (4, eX), (5, .box [ub 0, it 1]), (6, .box [ub 0, it 2]), (7, .box [ub 1, it 2]), (9, it 0), (10, eY), (11, eZ), (12, it 0), (14, it 13)] ) (Ex.normal) ([(1, AV.box [ub 1, it 0]), (2, AV.box [ub 1, it 1]), (3, AV.box [ub 2, it 0]), (4, eX), (5, AV.box [ub 0, it 1]), (6, AV.box [ub 0, it 2]), (7, AV.box [ub 1, it 2]), (9, it 0), (10, eY), (11, eZ), (12, it 0), (14, it 13), (16, it 1)]) :=
  evA_ok (H := h37) (ans := [.c, .c, .c, .r (AV.tup [AV.agg [niln, niln], it 1]), .c, .c, .c, .c, .c, .c, .c, .c]) (ps := [PureC Try.prog 40 [view (AV.agg [tXF, tXB]), AV.agg [ub 0, it 2], AV.agg [ub 0, it 3]] (AV.tup [AV.agg [niln, niln], it 1])]) (ans' := []) (base 174 0) cxA_K.1 cxA_K.2 _ (by kernel_rfl)  (allp (by (first | rw [view_yn] | rw [view_two] | rw [view_twoI] | rw [view_beds] | rw [view_frW] | rw [view_frN] | rw [view_twoF] | skip); apply x_jn4 <;> (first | assumption | rfl | (simp at * <;> omega))) allp_nil)
theorem l11_0 (u : Nat) (g0 : AV.agg [tN, tYB] = AV.agg [AV.sl Mode.any 62 (some (0 : Nat)) (List.map Stk.enc []), tYB]) (g1 : AV.sl Mode.own 30 (some 3) [Idd.enc ic, Idd.enc ia, Idd.enc ib] = AV.sl Mode.own 30 (some 3) (List.map Idd.enc [{ y := Idd.y ic, n := Idd.n ic }, ia, { y := Idd.y ib, n := Idd.n ib }])) (g2 : AV.sl Mode.own 30 (some 3) [AV.agg [ub 2, it 0], AV.agg [ub 1, it 0], AV.agg [ub 1, it 1]] = AV.sl Mode.own 30 (some (3 : Nat)) (List.map Idd.enc [{ y := (2 : Int), n := (0 : Int) }, { y := (1 : Int), n := (0 : Int) }, { y := (1 : Int), n := (1 : Int) }])) (g3 : List.getD [tN, tYB] (0 : Nat) AV.bad = AV.sl Mode.any 62 (some (0 : Nat)) (List.map Stk.enc [])) (g4 : AV.agg [tYB, tN] = AV.agg [tYB, AV.sl Mode.any 62 (some (0 : Nat)) (List.map Stk.enc [])]) : Tri Try.prog (cxN 174 0) (regAt Try.f37 11) ([(1, .box [ub 1, it 0]), (2, .box [ub 1, it 1]), (3, .box [ub 2, it 0]), (4, eX), (5, .box [ub 0, it 1]), (6, .box [ub 0, it 2]), (7, .box [ub 1, it 2]), (9, it 0), (10, eY), (11, eZ), (12, it 0), (14, it 13), (16, it 1)] ) (Ex.normal) ([(2, AV.box [ub 1, it 1]), (3, AV.box [ub 2, it 0]), (4, eX), (5, AV.box [ub 0, it 1]), (6, AV.box [ub 0, it 2]), (10, eY), (137, bb ((1 : Int) == (0 : Int)))]) :=
  evA_ok (H := h37) (ans := [.c, .c, .c, .c, .c, .c, .c, .c, .c, .c, .c, .c, .c, .c, .c, .c, .c, .c, .c, .c, .c, .c, .c, .c, .c, .r (AV.agg [AV.sl Mode.any 62 (some (0 : Nat)) (List.map Stk.enc []), tYB]), .c, .c, .c, .r (AV.sl Mode.own 30 (some 3) [Idd.enc ic, Idd.enc ia, Idd.enc ib]), .c, .r (AV.sl Mode.own 30 (some 3) (List.map Idd.enc [{ y := Idd.y ic, n := Idd.n ic }, ia, { y := Idd.y ib, n := Idd.n ib }])), .c, .c, .c, .c, .c, .c, .c, .r (AV.sl Mode.own 30 (some (3 : Nat)) (List.map Idd.enc [{ y := (2 : Int), n := (0 : Int) }, { y := (1 : Int), n := (0 : Int) }, { y := (1 : Int), n := (1 : Int) }])), .c, .r (AV.sl Mode.any 30 (some 3) (List.map Idd.enc [{ y := Idd.y ic, n := Idd.n ic }, ia, { y := Idd.y ib, n := Idd.n ib }])), .r (AV.sl Mode.any 30 (some (3 : Nat)) (List.map Idd.enc [{ y := (2 : Int), n := (0 : Int) }, { y := (1 : Int), n := (0 : Int) }, { y := (1 : Int), n := (1 : Int) }])), .r (it 1), .c, .c, .c, .c, .c, .c, .c, .c, .c, .c, .c, .r (AV.sl Mode.any 62 (some (0 : Nat)) (List.map Stk.enc [])), .c, .c, .c, .c, .c, .c, .c, .c, .c, .r (AV.agg [tYB, AV.sl Mode.any 62 (some (0 : Nat)) (List.map Stk.enc [])]), .c, .c, .c, .r (AV.sl Mode.own 30 (some 3) [Idd.enc ic, Idd.enc ia, Idd.enc ib]), .c, .r (AV.sl Mode.own 30 (some 3) (List.map Idd.enc [{ y := Idd.y ic, n := Idd.n ic }, ia, { y := Idd.y ib, n := Idd.n ib }])), .c, .c, .c, .c, .c, .c, .c, .r (AV.sl Mode.own 30 (some (3 : Nat)) (List.map Idd.enc [{ y := (2 : Int), n := (0 : Int) }, { y := (1 : Int), n := (0 : Int) }, { y := (1 : Int), n := (1 : Int) }])), .c, .r (AV.sl Mode.any 30 (some 3) (List.map Idd.enc [{ y := Idd.y ic, n := Idd.n ic }, ia, { y := Idd.y ib, n := Idd.n ib }])), .r (AV.sl Mode.any 30 (some (3 : Nat)) (List.map Idd.enc [{ y := (2 : Int), n := (0 : Int) }, { y := (1 : Int), n := (0 : Int) }, { y := (1 : Int), n := (1 : Int) }])), .r (it 1), .c, .c, .c, .c, .c, .c]) (ps := [AV.agg [tN, tYB] = AV.agg [AV.sl Mode.any 62 (some (0 : Nat)) (List.map Stk.enc []), tYB], PureC Try.prog 33 [view (AV.agg [tN, tYB]), AV.agg [ub 1, it 2]] (AV.sl Mode.own 30 (some 3) [Idd.enc ic, Idd.enc ia, Idd.enc ib]), AV.sl Mode.own 30 (some 3) [Idd.enc ic, Idd.enc ia, Idd.enc ib] = AV.sl Mode.own 30 (some 3) (List.map Idd.enc [{ y := Idd.y ic, n := Idd.n ic }, ia, { y := Idd.y ib, n := Idd.n ib }]), AV.sl Mode.own 30 (some 3) [AV.agg [ub 2, it 0], AV.agg [ub 1, it 0], AV.agg [ub 1, it 1]] = AV.sl Mode.own 30 (some (3 : Nat)) (List.map Idd.enc [{ y := (2 : Int), n := (0 : Int) }, { y := (1 : Int), n := (0 : Int) }, { y := (1 : Int), n := (1 : Int) }]), view (AV.sl Mode.own 30 (some 3) [AV.agg [ub (Idd.y { y := Idd.y ic, n := Idd.n ic }), it (Idd.n { y := Idd.y ic, n := Idd.n ic })], AV.agg [ub (Idd.y ia), it (Idd.n ia)], AV.agg [ub (Idd.y { y := Idd.y ib, n := Idd.n ib }), it (Idd.n { y := Idd.y ib, n := Idd.n ib })]]) = AV.sl Mode.any 30 (some 3) [AV.agg [ub (Idd.y { y := Idd.y ic, n := Idd.n ic }), it (Idd.n { y := Idd.y ic, n := Idd.n ic })], AV.agg [ub (Idd.y ia), it (Idd.n ia)], AV.agg [ub (Idd.y { y := Idd.y ib, n := Idd.n ib }), it (Idd.n { y := Idd.y ib, n := Idd.n ib })]], view (AV.sl Mode.own 30 (some 3) [AV.agg [ub (Idd.y { y := (2 : Int), n := (0 : Int) }), it (Idd.n { y := (2 : Int), n := (0 : Int) })], AV.agg [ub (Idd.y { y := (1 : Int), n := (0 : Int) }), it (Idd.n { y := (1 : Int), n := (0 : Int) })], AV.agg [ub (Idd.y { y := (1 : Int), n := (1 : Int) }), it (Idd.n { y := (1 : Int), n := (1 : Int) })]]) = AV.sl Mode.any 30 (some 3) [AV.agg [ub (Idd.y { y := (2 : Int), n := (0 : Int) }), it (Idd.n { y := (2 : Int), n := (0 : Int) })], AV.agg [ub (Idd.y { y := (1 : Int), n := (0 : Int) }), it (Idd.n { y := (1 : Int), n := (0 : Int) })], AV.agg [ub (Idd.y { y := (1 : Int), n := (1 : Int) }), it (Idd.n { y := (1 : Int), n := (1 : Int) })]], PureC Try.prog 41 [AV.sl Mode.any 30 (some 3) [AV.agg [ub (Idd.y { y := Idd.y ic, n := Idd.n ic }), it (Idd.n { y := Idd.y ic, n := Idd.n ic })], AV.agg [ub (Idd.y ia), it (Idd.n ia)], AV.agg [ub (Idd.y { y := Idd.y ib, n := Idd.n ib }), it (Idd.n { y := Idd.y ib, n := Idd.n ib })]], AV.sl Mode.any 30 (some 3) [AV.agg [ub (Idd.y { y := (2 : Int), n := (0 : Int) }), it (Idd.n { y := (2 : Int), n := (0 : Int) })], AV.agg [ub (Idd.y { y := (1 : Int), n := (0 : Int) }), it (Idd.n { y := (1 : Int), n := (0 : Int) })], AV.agg [ub (Idd.y { y := (1 : Int), n := (1 : Int) }), it (Idd.n { y := (1 : Int), n := (1 : Int) })]]] (it 1), List.getD [tN, tYB] (0 : Nat) AV.bad = AV.sl Mode.any 62 (some (0 : Nat)) (List.map Stk.enc []), AV.agg [tYB, tN] = AV.agg [tYB, AV.sl Mode.any 62 (some (0 : Nat)) (List.map Stk.enc [])], PureC Try.prog 33 [view (AV.agg [tYB, tN]), AV.agg [ub 0, it 2]] (AV.sl Mode.own 30 (some 3) [Idd.enc ic, Idd.enc ia, Idd.enc ib]), AV.sl Mode.own 30 (some 3) [Idd.enc ic, Idd.enc ia, Idd.enc ib] = AV.sl Mode.own 30 (some 3) (List.map Idd.enc [{ y := Idd.y ic, n := Idd.n ic }, ia, { y := Idd.y ib, n := Idd.n ib }]), AV.sl Mode.own 30 (some 3) [AV.agg [ub 2, it 0], AV.agg [ub 1, it 0], AV.agg [ub 1, it 1]] = AV.sl Mode.own 30 (some (3 : Nat)) (List.map Idd.enc [{ y := (2 : Int), n := (0 : Int) }, { y := (1 : Int), n := (0 : Int) }, { y := (1 : Int), n := (1 : Int) }]), view (AV.sl Mode.own 30 (some 3) [AV.agg [ub (Idd.y { y := Idd.y ic, n := Idd.n ic }), it (Idd.n { y := Idd.y ic, n := Idd.n ic })], AV.agg [ub (Idd.y ia), it (Idd.n ia)], AV.agg [ub (Idd.y { y := Idd.y ib, n := Idd.n ib }), it (Idd.n { y := Idd.y ib, n := Idd.n ib })]]) = AV.sl Mode.any 30 (some 3) [AV.agg [ub (Idd.y { y := Idd.y ic, n := Idd.n ic }), it (Idd.n { y := Idd.y ic, n := Idd.n ic })], AV.agg [ub (Idd.y ia), it (Idd.n ia)], AV.agg [ub (Idd.y { y := Idd.y ib, n := Idd.n ib }), it (Idd.n { y := Idd.y ib, n := Idd.n ib })]], view (AV.sl Mode.own 30 (some 3) [AV.agg [ub (Idd.y { y := (2 : Int), n := (0 : Int) }), it (Idd.n { y := (2 : Int), n := (0 : Int) })], AV.agg [ub (Idd.y { y := (1 : Int), n := (0 : Int) }), it (Idd.n { y := (1 : Int), n := (0 : Int) })], AV.agg [ub (Idd.y { y := (1 : Int), n := (1 : Int) }), it (Idd.n { y := (1 : Int), n := (1 : Int) })]]) = AV.sl Mode.any 30 (some 3) [AV.agg [ub (Idd.y { y := (2 : Int), n := (0 : Int) }), it (Idd.n { y := (2 : Int), n := (0 : Int) })], AV.agg [ub (Idd.y { y := (1 : Int), n := (0 : Int) }), it (Idd.n { y := (1 : Int), n := (0 : Int) })], AV.agg [ub (Idd.y { y := (1 : Int), n := (1 : Int) }), it (Idd.n { y := (1 : Int), n := (1 : Int) })]], PureC Try.prog 41 [AV.sl Mode.any 30 (some 3) [AV.agg [ub (Idd.y { y := Idd.y ic, n := Idd.n ic }), it (Idd.n { y := Idd.y ic, n := Idd.n ic })], AV.agg [ub (Idd.y ia), it (Idd.n ia)], AV.agg [ub (Idd.y { y := Idd.y ib, n := Idd.n ib }), it (Idd.n { y := Idd.y ib, n := Idd.n ib })]], AV.sl Mode.any 30 (some 3) [AV.agg [ub (Idd.y { y := (2 : Int), n := (0 : Int) }), it (Idd.n { y := (2 : Int), n := (0 : Int) })], AV.agg [ub (Idd.y { y := (1 : Int), n := (0 : Int) }), it (Idd.n { y := (1 : Int), n := (0 : Int) })], AV.agg [ub (Idd.y { y := (1 : Int), n := (1 : Int) }), it (Idd.n { y := (1 : Int), n := (1 : Int) })]]] (it 1)]) (ans' := []) (base 174 0) cxA_K.1 cxA_K.2 _ (by kernel_rfl)  (allp g0 (allp (by (first | rw [view_yn] | rw [view_two] | rw [view_twoI] | rw [view_beds] | rw [view_frW] | rw [view_frN] | rw [view_twoF] | skip); first | (apply y_at <;> (first | assumption | rfl | (simp at * <;> omega))) | (apply z_at <;> (first | assumption | rfl | (simp at * <;> omega)))) (allp g1 (allp g2 (allp (by first | exact view_ps _ _ _ | exact view_u8 _ _ _ | rfl | exact view_yn _ _ _ _ _ _ _ | exact view_id _ _ _ | exact view_stk _ _ _ | exact view_beds _ _ _ _ _ _ | exact view_pt _ _ _) (allp (by first | exact view_ps _ _ _ | exact view_u8 _ _ _ | rfl | exact view_yn _ _ _ _ _ _ _ | exact view_id _ _ _ | exact view_stk _ _ _ | exact view_beds _ _ _ _ _ _ | exact view_pt _ _ _) (allp (by apply s_y <;> (first | assumption | rfl | (simp at * <;> omega))) (allp g3 (allp g4 (allp (by (first | rw [view_yn] | rw [view_two] | rw [view_twoI] | rw [view_beds] | rw [view_frW] | rw [view_frN] | rw [view_twoF] | skip); first | (apply y_at <;> (first | assumption | rfl | (simp at * <;> omega))) | (apply z_at <;> (first | assumption | rfl | (simp at * <;> omega)))) (allp g1 (allp g2 (allp (by first | exact view_ps _ _ _ | exact view_u8 _ _ _ | rfl | exact view_yn _ _ _ _ _ _ _ | exact view_id _ _ _ | exact view_stk _ _ _ | exact view_beds _ _ _ _ _ _ | exact view_pt _ _ _) (allp (by first | exact view_ps _ _ _ | exact view_u8 _ _ _ | rfl | exact view_yn _ _ _ _ _ _ _ | exact view_id _ _ _ | exact view_stk _ _ _ | exact view_beds _ _ _ _ _ _ | exact view_pt _ _ _) (allp (by apply s_y <;> (first | assumption | rfl | (simp at * <;> omega))) allp_nil)))))))))))))))
theorem l13_0 (u : Nat) (g0 : AV.sl Mode.own 30 (some 1) [AV.agg [ub 2, it 0]] = AV.sl Mode.own 30 (some (1 : Nat)) (List.map Idd.enc [{ y := (2 : Int), n := (0 : Int) }])) : Tri Try.prog (cxN 174 0) (regAt Try.f37 13) ([(2, .box [ub 1, it 1]), (3, .box [ub 2, it 0]), (4, eX), (5, .box [ub 0, it 1]), (6, .box [ub 0, it 2]), (10, eY)] ) (Ex.normal) ([(2, AV.box [ub 1, it 1]), (4, eX), (6, AV.box [ub 0, it 2]), (9, it 8), (10, eY)]) :=
  evA_ok (H := h37) (ans := [.c, .c, .c, .r (AV.sl Mode.own 30 (some (1 : Nat)) (List.map Idd.enc [{ y := (2 : Int), n := (0 : Int) }])), .r (AV.sl Mode.any 30 (some (1 : Nat)) (List.map Idd.enc [{ y := (2 : Int), n := (0 : Int) }])), .r (AV.tup [AV.agg [niln, niln], it 8]), .c, .c, .c, .c, .c, .c]) (ps := [AV.sl Mode.own 30 (some 1) [AV.agg [ub 2, it 0]] = AV.sl Mode.own 30 (some (1 : Nat)) (List.map Idd.enc [{ y := (2 : Int), n := (0 : Int) }]), view (AV.sl Mode.own 30 (some 1) [AV.agg [ub (Idd.y { y := (2 : Int), n := (0 : Int) }), it (Idd.n { y := (2 : Int), n := (0 : Int) })]]) = AV.sl Mode.any 30 (some 1) [AV.agg [ub (Idd.y { y := (2 : Int), n := (0 : Int) }), it (Idd.n { y := (2 : Int), n := (0 : Int) })]], PureC Try.prog 38 [view (AV.agg [tXF, tXB]), AV.agg [ub 0, it 1], AV.sl Mode.any 30 (some 1) [AV.agg [ub (Idd.y { y := (2 : Int), n := (0 : Int) }), it (Idd.n { y := (2 : Int), n := (0 : Int) })]]] (AV.tup [AV.agg [niln, niln], it 8])]) (ans' := []) (base 174 0) cxA_K.1 cxA_K.2 _ (by kernel_rfl)  (allp g0 (allp (by first | exact view_ps _ _ _ | exact view_u8 _ _ _ | rfl | exact view_yn _ _ _ _ _ _ _ | exact view_id _ _ _ | exact view_stk _ _ _ | exact view_beds _ _ _ _ _ _ | exact view_pt _ _ _) (allp (by (first | rw [view_yn] | rw [view_two] | rw [view_twoI] | rw [view_beds] | rw [view_frW] | rw [view_frN] | rw [view_twoF] | skip); apply x_set1 <;> (first | assumption | rfl | (simp at * <;> omega))) allp_nil)))
theorem l14_0 (u : Nat) (g0 : AV.sl Mode.own 30 (some 1) [AV.agg [ub 1, it 1]] = AV.sl Mode.own 30 (some (1 : Nat)) (List.map Idd.enc [{ y := (1 : Int), n := (1 : Int) }])) : Tri Try.prog (cxN 174 0) (regAt Try.f37 14) ([(2, .box [ub 1, it 1]), (4, eX), (6, .box [ub 0, it 2]), (9, it 8), (10, eY)] ) (Ex.normal) ([(2, AV.box [ub 1, it 1]), (6, AV.box [ub 0, it 2]), (9, it 8), (10, AV.box [AV.sl Mode.fresh 62 (some 2) [AV.sl Mode.fresh 30 (some 0) [], AV.sl Mode.fresh 30 (some 1) [Idd.enc ib]], AV.sl Mode.fresh 62 (some 2) [AV.sl Mode.fresh 30 (some 0) [], AV.sl Mode.fresh 30 (some 1) [Idd.enc ic]]]), (12, it 0)]) :=
  evA_ok (H := h37) (ans := [.c, .c, .c, .r (AV.sl Mode.own 30 (some (1 : Nat)) (List.map Idd.enc [{ y := (1 : Int), n := (1 : Int) }])), .r (AV.sl Mode.any 30 (some (1 : Nat)) (List.map Idd.enc [{ y := (1 : Int), n := (1 : Int) }])), .r (AV.tup [AV.agg [AV.sl Mode.fresh 62 (some 2) [AV.sl Mode.fresh 30 (some 0) [], AV.sl Mode.fresh 30 (some 1) [Idd.enc ib]], AV.sl Mode.fresh 62 (some 2) [AV.sl Mode.fresh 30 (some 0) [], AV.sl Mode.fresh 30 (some 1) [Idd.enc ic]]], it 0]), .c, .c, .c, .c, .c, .c, .c]) (ps := [AV.sl Mode.own 30 (some 1) [AV.agg [ub 1, it 1]] = AV.sl Mode.own 30 (some (1 : Nat)) (List.map Idd.enc [{ y := (1 : Int), n := (1 : Int) }]), view (AV.sl Mode.own 30 (some 1) [AV.agg [ub (Idd.y { y := (1 : Int), n := (1 : Int) }), it (Idd.n { y := (1 : Int), n := (1 : Int) })]]) = AV.sl Mode.any 30 (some 1) [AV.agg [ub (Idd.y { y := (1 : Int), n := (1 : Int) }), it (Idd.n { y := (1 : Int), n := (1 : Int) })]], PureC Try.prog 38 [view (AV.agg [tXF, tXB]), AV.agg [ub 0, it 2], AV.sl Mode.any 30 (some 1) [AV.agg [ub (Idd.y { y := (1 : Int), n := (1 : Int) }), it (Idd.n { y := (1 : Int), n := (1 : Int) })]]] (AV.tup [AV.agg [AV.sl Mode.fresh 62 (some 2) [AV.sl Mode.fresh 30 (some 0) [], AV.sl Mode.fresh 30 (some 1) [Idd.enc ib]], AV.sl Mode.fresh 62 (some 2) [AV.sl Mode.fresh 30 (some 0) [], AV.sl Mode.fresh 30 (some 1) [Idd.enc ic]]], it 0])]) (ans' := []) (base 174 0) cxA_K.1 cxA_K.2 _ (by kernel_rfl)  (allp g0 (allp (by first | exact view_ps _ _ _ | exact view_u8 _ _ _ | rfl | exact view_yn _ _ _ _ _ _ _ | exact view_id _ _ _ | exact view_stk _ _ _ | exact view_beds _ _ _ _ _ _ | exact view_pt _ _ _) (allp (by (first | rw [view_yn] | rw [view_two] | rw [view_twoI] | rw [view_beds] | rw [view_frW] | rw [view_frN] | rw [view_twoF] | skip); apply x_set2 <;> (first | assumption | rfl | (simp at * <;> omega))) allp_nil)))
theorem l15_0 (u : Nat) (g0 : AV.sl Mode.own 30 (some 1) [Idd.enc ib] = AV.sl Mode.own 30 (some 1) (List.map Idd.enc [{ y := Idd.y ib, n := Idd.n ib }])) (g1 : AV.sl Mode.own 30 (some 1) [AV.agg [ub 1, it 1]] = AV.sl Mode.own 30 (some (1 : Nat)) (List.map Idd.enc [{ y := (1 : Int), n := (1 : Int) }])) : Tri Try.prog (cxN 174 0) (regAt Try.f37 15) ([(2, .box [ub 1, it 1]), (6, .box [ub 0, it 2]), (9, it 8), (10, eV), (12, it 0)] ) (Ex.normal) ([(0, bb ((2 : Int) == (2 : Int)))]) :=
  evA_ok (H := h37) (ans := [.c, .c, .c, .c, .c, .c, .c, .c, .c, .c, .c, .c, .c, .c, .c, .r (AV.sl Mode.own 30 (some 1) [Idd.enc ib]), .c, .r (AV.sl Mode.own 30 (some 1) (List.map Idd.enc [{ y := Idd.y ib, n := Idd.n ib }])), .c, .c, .c, .r (AV.sl Mode.own 30 (some (1 : Nat)) (List.map Idd.enc [{ y := (1 : Int), n := (1 : Int) }])), .c, .r (AV.sl Mode.any 30 (some 1) (List.map Idd.enc [{ y := Idd.y ib, n := Idd.n ib }])), .r (AV.sl Mode.any 30 (some (1 : Nat)) (List.map Idd.enc [{ y := (1 : Int), n := (1 : Int) }])), .r (it 1), .c, .c, .c, .c, .c, .c, .c, .c, .c, .c, .r (it 2), .c, .c, .c, .c, .c, .c, .c]) (ps := [PureC Try.prog 33 [view (AV.agg [tVF, tXB]), AV.agg [ub 0, it 2]] (AV.sl Mode.own 30 (some 1) [Idd.enc ib]), AV.sl Mode.own 30 (some 1) [Idd.enc ib] = AV.sl Mode.own 30 (some 1) (List.map Idd.enc [{ y := Idd.y ib, n := Idd.n ib }]), AV.sl Mode.own 30 (some 1) [AV.agg [ub 1, it 1]] = AV.sl Mode.own 30 (some (1 : Nat)) (List.map Idd.enc [{ y := (1 : Int), n := (1 : Int) }]), view (AV.sl Mode.own 30 (some 1) [AV.agg [ub (Idd.y { y := Idd.y ib, n := Idd.n ib }), it (Idd.n { y := Idd.y ib, n := Idd.n ib })]]) = AV.sl Mode.any 30 (some 1) [AV.agg [ub (Idd.y { y := Idd.y ib, n := Idd.n ib }), it (Idd.n { y := Idd.y ib, n := Idd.n ib })]], view (AV.sl Mode.own 30 (some 1) [AV.agg [ub (Idd.y { y := (1 : Int), n := (1 : Int) }), it (Idd.n { y := (1 : Int), n := (1 : Int) })]]) = AV.sl Mode.any 30 (some 1) [AV.agg [ub (Idd.y { y := (1 : Int), n := (1 : Int) }), it (Idd.n { y := (1 : Int), n := (1 : Int) })]], PureC Try.prog 41 [AV.sl Mode.any 30 (some 1) [AV.agg [ub (Idd.y { y := Idd.y ib, n := Idd.n ib }), it (Idd.n { y := Idd.y ib, n := Idd.n ib })]], AV.sl Mode.any 30 (some 1) [AV.agg [ub (Idd.y { y := (1 : Int), n := (1 : Int) }), it (Idd.n { y := (1 : Int), n := (1 : Int) })]]] (it 1), PureC Try.prog 36 [view (AV.agg [tVF, tXB])] (it 2)]) (ans' := []) (base 174 0) cxA_K.1 cxA_K.2 _ (by kernel_rfl)  (allp (by (first | rw [view_yn] | rw [view_two] | rw [view_twoI] | rw [view_beds] | rw [view_frW] | rw [view_frN] | rw [view_twoF] | skip); apply v_at <;> (first | assumption | rfl | (simp at * <;> omega))) (allp g0 (allp g1 (allp (by first | exact view_ps _ _ _ | exact view_u8 _ _ _ | rfl | exact view_yn _ _ _ _ _ _ _ | exact view_id _ _ _ | exact view_stk _ _ _ | exact view_beds _ _ _ _ _ _ | exact view_pt _ _ _) (allp (by first | exact view_ps _ _ _ | exact view_u8 _ _ _ | rfl | exact view_yn _ _ _ _ _ _ _ | exact view_id _ _ _ | exact view_stk _ _ _ | exact view_beds _ _ _ _ _ _ | exact view_pt _ _ _) (allp (by apply s_v <;> (first | assumption | rfl | (simp at * <;> omega))) (allp (by (first | rw [view_yn] | rw [view_two] | rw [view_twoI] | rw [view_beds] | rw [view_frW] | rw [view_frN] | rw [view_twoF] | skip); apply v_cnt <;> (first | assumption | rfl | (simp at * <;> omega))) allp_nil)))))))
end Tst
end

section
open Go Go.Lf Go.Proofs
namespace Tst
set_option maxHeartbeats 0
theorem OpsR.grab {P : Program} {cx : Cx} {ops : Array Oper} {env : Env} {r : Nat} {e : TypeId} {cap : Option Nat} {xs : List AV} (hr : lk env r = some (.sl .own e cap xs)) : OpsR P cx ops [] env (· = (r, share (.sl .own e cap xs)) :: env) := by
  intro ρ F B0 w0 S0 ds a w Q rest hag hQ
  obtain ⟨hd, hN, n, S, Os, hn, hgr, hst⟩ := hag
  obtain ⟨n', S', Os', vr, u, m, hn', hst', hS, _, _, _, _, _, hS'⟩ := hst.shareAt (p := []) hr rfl rfl (.inl rfl)
  refine hQ _ rfl a w ⟨hd, hN, n', S', Os', by omega, ⟨fun b hb => hS b (hgr.1 b hb), fun b hb => ?_⟩, hst'⟩
  rcases hS' b hb with h | h
  · exact hgr.2 b h
  · exact .inr (hst.lt r b h).1
abbrev e2 : Env := [(1, .box [ub 1, it 0]), (2, .box [ub 1, it 1]), (3, .box [ub 2, it 0])]
abbrev q20 : AV := .agg [ub 1, it 0]
abbrev q21 : AV := .agg [ub 1, it 1]
abbrev q24 : AV := .agg [ub 2, it 0]
abbrev s22 : AV := .sl .fresh 30 (some 2) [q20, q21]
abbrev s25 : AV := .sl .fresh 30 (some 1) [q24]
abbrev f2 : Env := [(26, .sl .own 62 (some 2) [niln, s25]), (25, s25), (25, .sl .own 30 (some 1) [q24]), (24, q24), (23, .sl .own 62 (some 2) [niln, s22]), (22, s22), (22, .sl .own 30 (some 2) [q20, q21]), (21, q21), (20, q20), (1, .box [ub 1, it 0]), (2, .box [ub 1, it 1]), (3, .box [ub 2, it 0])]
abbrev s23 : AV := .sl .fresh 62 (some 2) [niln, s22]
abbrev s26 : AV := .sl .fresh 62 (some 2) [niln, s25]
theorem r2code : regAt Try.f37 2 = .region 2 (opsAt Try.f37 2) false := by kernel_rfl
theorem r2ops : (opsAt Try.f37 2).toList = (opsAt Try.f37 2).toList.take 7 ++ ([] ++ (opsAt Try.f37 2).toList.drop 7) := by kernel_rfl
abbrev f3 : Env := [(4, .box [s23, s26]), (4, .box [niln, niln]), (27, .agg [s23, s26]), (26, s26)] ++ (23, s23) :: f2
theorem le_nl (l : List Idd) : Le Try.prog (.sl .fresh 30 (some l.length) (l.map Idd.enc)) (.sl .any 30 (some l.length) (l.map Idd.enc)) := Le.toAny (by decide) rfl (fun _ h => h) (F2.rfl' _)
theorem le_el (l : List Idd) : Le Try.prog (.sl .fresh 62 (some 2) [niln, .sl .fresh 30 (some l.length) (l.map Idd.enc)]) (.sl .any 62 (some 2) [.sl .any 30 (some 0) [], .sl .any 30 (some l.length) (l.map Idd.enc)]) := by
  refine Le.toAny (by decide) rfl (fun sz h y hy => ?_) (.cons (Le.nil 30) (.cons (le_nl l) .nil))
  have h1 := h _ (List.mem_cons_self)
  rcases List.mem_cons.1 hy with rfl | hy
  · exact h1
  · rcases List.mem_cons.1 hy with rfl | hy
    · exact h1
    · cases hy
theorem le_e2 (l m : List Idd) : Le Try.prog (.sl .fresh 62 (some 2) [.sl .fresh 30 (some l.length) (l.map Idd.enc), .sl .fresh 30 (some m.length) (m.map Idd.enc)]) (.sl .any 62 (some 2) [.sl .any 30 (some l.length) (l.map Idd.enc), .sl .any 30 (some m.length) (m.map Idd.enc)]) := by
  refine Le.toAny (by decide) rfl (fun sz h y hy => ?_) (.cons (le_nl l) (.cons (le_nl m) .nil))
  have h1 := h _ (List.mem_cons_self)
  rcases List.mem_cons.1 hy with rfl | hy
  · exact h1
  · rcases List.mem_cons.1 hy with rfl | hy
    · exact h1
    · cases hy
theorem le_n : Le Try.prog (.sl .fresh 62 (some 0) []) tN := Le.toAny (by decide) rfl (fun _ h => h) .nil
abbrev E3 : Env := e2 ++ [(4, eX)]
theorem l2_c : Tri Try.prog (cxN 174 0) (regAt Try.f37 2) e2 .normal E3 := by
  have h : Tri Try.prog (cxN 174 0) (regAt Try.f37 2) e2 .normal f3 := by
    rw [r2code]
    refine Tri.ofR (R := (· = f3)) (TriR.region ?_) fun _ h => h
    rw [r2ops]
    refine .seq (OpsR.ev (base 174 0) cxA_K.1 cxA_K.2 (ans := List.replicate 9 .c) (ps := []) (env' := f2) (by kernel_rfl) allp_nil) ?_
    rintro _ rfl
    refine .seq (OpsR.grab (r := 23) rfl) ?_
    rintro _ rfl
    exact OpsR.ev (base 174 0) cxA_K.1 cxA_K.2 (ans := List.replicate 20 .c) (ps := []) (env' := f3) (by kernel_rfl) allp_nil
  refine Tri.less (Tri.after [(1, .keep), (2, .keep), (3, .keep), (4, .keep)] h) ?_
  show EnvLe Try.prog (e2 ++ [(4, .box [s23, s26])]) E3
  exact .cons ⟨rfl, rfl, Le.refl _⟩ (.cons ⟨rfl, rfl, Le.refl _⟩ (.cons ⟨rfl, rfl, Le.refl _⟩ (.cons ⟨rfl, rfl, Le.box (.cons (le_el [ia, ib]) (.cons (le_el [ic]) .nil))⟩ .nil)))
abbrev E7 : Env := [(1, .box [ub 1, it 0]), (2, .box [ub 1, it 1]), (3, .box [ub 2, it 0]), (4, eX), (5, .box [ub 0, it 1]), (6, .box [ub 0, it 2]), (7, .box [ub 1, it 2])]
theorem lives_code : Try.f37.body = some (.seq (regAt Try.f37 0) (.seq (regAt Try.f37 1) (.seq (regAt Try.f37 2) (.seq (regAt Try.f37 3) (.seq (regAt Try.f37 4) (.seq (.seq (regAt Try.f37 5) (.cond (.tmp 67) (.seq (regAt Try.f37 6) .ret) .skip))
    (.seq (regAt Try.f37 7) (.seq (regAt Try.f37 8) (.seq (regAt Try.f37 9) (.seq (regAt Try.f37 10) (.seq (.seq (regAt Try.f37 11) (.cond (.tmp 137) (.seq (regAt Try.f37 12) .ret) .skip)) (.seq (regAt Try.f37 13) (.seq (regAt Try.f37 14) (.seq (regAt Try.f37 15) .ret)))))))))))))) := by kernel_rfl
abbrev E8 : Env := E7 ++ [(9, it 0), (10, eY)]
abbrev E9 : Env := E8 ++ [(11, eZ), (12, it 0)]
abbrev E14 : Env := [(2, .box [ub 1, it 1]), (6, .box [ub 0, it 2]), (9, it 8), (10, eV), (12, it 0)]
theorem lives : PureC Try.prog 37 [] (bb true) := by
  refine pureT ((base 174 0).ok cxA_K.1 cxA_K.2) Try.func37 rfl (by show 0 ≤ 174; omega) rfl lives_code rfl (ex := .ret) (env' := [(0, bb true)]) ?_ rfl
  refine .seq (l0_0 0) (.seq (l1_0 0) (.seq l2_c (.seq (l3_0 0) (.seq (l4_0 0) (.seq (.seq (l5_0 0 rfl rfl) (.cond (b := false) rfl .skip)) ?_)))))
  refine Tri.weak [(1, .keep), (2, .keep), (3, .keep), (4, .keep), (5, .keep), (6, .keep), (7, .keep)] ?_
  refine .seq (Tri.less (env2 := E8) (l7_0 0 rfl) ?_) (.seq (Tri.less (env2 := E9) (l8_0 0 rfl) ?_) (.seq (l9_0 0) (.seq (l10_0 0) (.seq (.seq (l11_0 0 rfl rfl rfl rfl rfl) (.cond (b := false) rfl .skip)) ?_))))
  · exact .cons ⟨rfl, rfl, Le.refl _⟩ (.cons ⟨rfl, rfl, Le.refl _⟩ (.cons ⟨rfl, rfl, Le.refl _⟩ (.cons ⟨rfl, rfl, Le.refl _⟩ (.cons ⟨rfl, rfl, Le.refl _⟩ (.cons ⟨rfl, rfl, Le.refl _⟩ (.cons ⟨rfl, rfl, Le.refl _⟩ (.cons ⟨rfl, rfl, Le.refl _⟩ (.cons ⟨rfl, rfl, Le.box (.cons le_n (.cons (le_e2 [] [ic, ia, ib]) .nil))⟩ .nil))))))))
  · exact .cons ⟨rfl, rfl, Le.refl _⟩ (.cons ⟨rfl, rfl, Le.refl _⟩ (.cons ⟨rfl, rfl, Le.refl _⟩ (.cons ⟨rfl, rfl, Le.refl _⟩ (.cons ⟨rfl, rfl, Le.refl _⟩ (.cons ⟨rfl, rfl, Le.refl _⟩ (.cons ⟨rfl, rfl, Le.refl _⟩ (.cons ⟨rfl, rfl, Le.refl _⟩ (.cons ⟨rfl, rfl, Le.refl _⟩ (.cons ⟨rfl, rfl, Le.box (.cons (le_e2 [] [ic, ia, ib]) (.cons le_n .nil))⟩ (.cons ⟨rfl, rfl, Le.refl _⟩ .nil))))))))))
  refine Tri.weak [(2, .keep), (3, .keep), (4, .keep), (5, .keep), (6, .keep), (10, .keep)] ?_
  refine .seq (l13_0 0 rfl) (.seq (Tri.less (env2 := E14) (l14_0 0 rfl) ?_) (.seq (l15_0 0 rfl rfl) .ret))
  exact .cons ⟨rfl, rfl, Le.refl _⟩ (.cons ⟨rfl, rfl, Le.refl _⟩ (.cons ⟨rfl, rfl, Le.refl _⟩ (.cons ⟨rfl, rfl, Le.box (.cons (le_e2 [] [ib]) (.cons (le_e2 [] [ic]) .nil))⟩ (.cons ⟨rfl, rfl, Le.refl _⟩ .nil))))
end Tst
end

section
open Go Go.Lf Go.Proofs
namespace Tst
theorem fold_zip (d : Int) (j : Nat) : ∀ (L : List Stk) (k : Nat) (tb : List (List Idd)),
    (((L.zipIdx k).map fun q => (d, ((q.2 : Int) + 1), q.1)).foldl putT tb).getD j [] = if d.toNat * 40 + k ≤ j ∧ j < d.toNat * 40 + k + L.length ∧ j < tb.length then (L.getD (j - (d.toNat * 40 + k)) default).l else tb.getD j []
  | [], k, tb => by
    rw [if_neg (by simp; omega)]; rfl
  | s :: L, k, tb => by
    rw [List.zipIdx_cons, List.map_cons, List.foldl_cons, fold_zip d j L (k + 1)]
    have e : putT tb (d, ((k : Int) + 1), s) = tb.set (d.toNat * 40 + k) s.l := by
      show tb.set (d.toNat * 40 + ((k : Int) + 1 - 1).toNat) s.l = _
      rw [show ((k : Int) + 1 - 1).toNat = k by omega]
    show (if _ then _ else (putT tb (d, ((k : Int) + 1), s)).getD j []) = _
    rw [e, List.length_set, List.length_cons]
    generalize d.toNat * 40 = o
    by_cases h1 : o + (k + 1) ≤ j ∧ j < o + (k + 1) + L.length ∧ j < tb.length
    · rw [if_pos h1, if_pos (by omega)]
      obtain ⟨m, hm⟩ : ∃ m, j - (o + k) = m + 1 := ⟨j - (o + k) - 1, by omega⟩
      rw [hm, show j - (o + (k + 1)) = m by omega, List.getD_cons_succ]
    · rw [if_neg h1]
      by_cases h2 : j = o + k
      · subst h2
        by_cases h3 : o + k < tb.length
        · rw [if_pos (by omega), Nat.sub_self, List.getD_cons_zero, List.getD_eq_getElem?_getD, List.getElem?_set_self h3]; rfl
        · rw [if_neg (by omega), List.getD_eq_getElem?_getD, List.getD_eq_getElem?_getD, List.getElem?_eq_none (by simp; omega), List.getElem?_eq_none (by omega)]
      · rw [if_neg (by omega), List.getD_eq_getElem?_getD, List.getElem?_set_ne (by omega), ← List.getD_eq_getElem?_getD]
theorem stackOf_nat (l : List Stk) (j : Nat) : stackOf l (j : Int) = if j < l.length then (l.getD j default).l else [] := by
  unfold stackOf
  by_cases h : j < l.length
  · rw [if_pos (by omega), if_pos h]; rfl
  · rw [if_neg (by omega), if_neg h]
theorem getD_take {α : Type} [Inhabited α] (l : List α) (n j : Nat) (h : j < n) (d : α) : (l.take n).getD j d = l.getD j d := by
  rw [List.getD_eq_getElem?_getD, List.getD_eq_getElem?_getD, List.getElem?_take_of_lt h]
theorem tbOf_get (F B : List Stk) (j : Nat) (hj : j < 80) : (tbOf (itms F B)).getD j [] = stkN F B j := by
  unfold tbOf itms
  rw [List.foldl_append, fold_zip, fold_zip]
  have hl : ∀ (l : List (Int × Int × Stk)) (tb : List (List Idd)), (l.foldl putT tb).length = tb.length := by
    intro l
    induction l with
    | nil => intro tb; rfl
    | cons x l ih => intro tb; rw [List.foldl_cons, ih]; simp [putT]
  rw [hl, List.length_replicate, List.length_take, List.length_take]
  unfold stkN
  rw [stackOf_nat]
  simp only [Int.toNat_one, Int.toNat_zero, Nat.one_mul, Nat.zero_mul, Nat.add_zero, Nat.zero_add, Nat.sub_zero]
  by_cases h : j < 40
  · rw [if_neg (by omega), if_pos h, show j % 40 = j by omega]
    by_cases h2 : j < F.length
    · rw [if_pos (by omega), if_pos h2, getD_take _ _ _ h]
    · rw [if_neg (by omega), if_neg h2]
      rw [List.getD_eq_getElem?_getD, List.getElem?_replicate]; split <;> rfl
  · rw [if_neg h, show j % 40 = j - 40 by omega]
    by_cases h2 : j - 40 < B.length
    · rw [if_pos (by omega), if_pos h2, getD_take _ _ _ (by omega)]
    · rw [if_neg (by omega), if_neg (by omega), if_neg h2]
      rw [List.getD_eq_getElem?_getD, List.getElem?_replicate]; split <;> rfl
structure Rep (F B : List Stk) (tb : List (List Idd)) : Prop where
  f : F.length ≤ 40
  b : B.length ≤ 40
  l : tb.length = 80
  at' : ∀ j, j < 80 → stkN F B j = tb.getD j []
theorem Rep.tb {F B : List Stk} {tb : List (List Idd)} (h : Rep F B tb) : tbOf (itms F B) = tb := by
  apply List.ext_getElem
  · rw [tbOf_len, h.l]
  · intro j h1 h2
    have h3 : j < 80 := by rw [tbOf_len] at h1; exact h1
    have := (tbOf_get F B j h3).trans (h.at' j h3)
    rw [List.getD_eq_getElem?_getD, List.getElem?_eq_getElem h1, List.getD_eq_getElem?_getD, List.getElem?_eq_getElem h2] at this
    exact this
theorem range_flat (F : List Stk) : ∀ n : Nat, (List.range n).flatMap (fun j : Nat => stackOf F (j : Int)) = (F.take n).flatMap Stk.l
  | 0 => by simp
  | n + 1 => by
    rw [List.range_succ, List.flatMap_append, range_flat F n, List.take_add_one, List.flatMap_append]
    congr 1
    rw [List.flatMap_cons, List.flatMap_nil, List.append_nil, stackOf_nat]
    by_cases h : n < F.length
    · rw [if_pos h, List.getElem?_eq_getElem h, List.getD_eq_getElem?_getD, List.getElem?_eq_getElem h]; simp
    · rw [if_neg h, List.getElem?_eq_none (by omega)]; rfl
theorem flatMap_cong {α β : Type} {f g : α → List β} : ∀ {l : List α}, (∀ a ∈ l, f a = g a) → l.flatMap f = l.flatMap g
  | [], _ => rfl
  | a :: l, h => by rw [List.flatMap_cons, List.flatMap_cons, h a (by simp), flatMap_cong fun b hb => h b (by simp [hb])]
theorem Rep.list {F B : List Stk} {tb : List (List Idd)} (h : Rep F B tb) : tb = (List.range 80).map (stkN F B) := by
  apply List.ext_getElem
  · rw [h.l]; simp
  · intro j h1 h2
    have h3 : j < 80 := by rw [h.l] at h1; exact h1
    have := h.at' j h3
    rw [List.getD_eq_getElem?_getD, List.getElem?_eq_getElem h1] at this
    simp [this]
theorem flatMap_zip (d : Int) : ∀ (L : List Stk) (k : Nat), (((L.zipIdx k).map fun q => (d, ((q.2 : Int) + 1), q.1)).flatMap fun t => t.2.2.l) = L.flatMap Stk.l
  | [], _ => rfl
  | s :: L, k => by rw [List.zipIdx_cons, List.map_cons, List.flatMap_cons, List.flatMap_cons, flatMap_zip d L (k + 1)]
theorem Rep.all {F B : List Stk} {tb : List (List Idd)} (h : Rep F B tb) : allI (itms F B) = tb.flatten := by
  unfold allI itms
  rw [List.flatMap_append, flatMap_zip, flatMap_zip, ← range_flat, ← range_flat, h.list, ← List.flatMap_def]
  rw [show List.range 80 = List.range 40 ++ (List.range 40).map (40 + ·) by decide +kernel, List.flatMap_append, List.flatMap_map]
  have a1 : (List.range 40).flatMap (stkN F B) = (List.range 40).flatMap fun j : Nat => stackOf F (j : Int) := flatMap_cong fun j hj => by
    have : j < 40 := List.mem_range.1 hj
    unfold stkN
    rw [if_pos this, show j % 40 = j by omega]
  have a2 : ((List.range 40).flatMap fun j => stkN F B (40 + j)) = (List.range 40).flatMap fun j : Nat => stackOf B (j : Int) := flatMap_cong fun j hj => by
    have : j < 40 := List.mem_range.1 hj
    unfold stkN
    rw [if_neg (by omega), show (40 + j) % 40 = j by omega]
  rw [a1, a2]
structure Good' (tb : List (List Idd)) : Prop where
  s : ∀ i, (tb.getD i []).length ≤ 4
  n : ∀ p ∈ tb.flatten, nmI p = true
  d : tb.flatten.Nodup
theorem Rep.mem {F B : List Stk} {tb : List (List Idd)} (h : Rep F B tb) {s : Stk} (hs : s ∈ F ∨ s ∈ B) : ∃ j, j < 80 ∧ s.l = tb.getD j [] := by
  have hf := h.f
  have hb := h.b
  rcases hs with hs | hs
  · obtain ⟨j, hj, rfl⟩ := List.mem_iff_getElem.1 hs
    refine ⟨j, by omega, ?_⟩
    rw [← h.at' j (by omega)]
    unfold stkN
    rw [if_pos (by omega), show j % 40 = j by omega, stackOf_nat, if_pos hj, List.getD_eq_getElem?_getD, List.getElem?_eq_getElem hj]; rfl
  · obtain ⟨j, hj, rfl⟩ := List.mem_iff_getElem.1 hs
    refine ⟨40 + j, by omega, ?_⟩
    rw [← h.at' (40 + j) (by omega)]
    unfold stkN
    rw [if_neg (by omega), show (40 + j) % 40 = j by omega, stackOf_nat, if_pos hj, List.getD_eq_getElem?_getD, List.getElem?_eq_getElem hj]; rfl
theorem Rep.len {F B : List Stk} {tb : List (List Idd)} (h : Rep F B tb) (g : Good' tb) : ∀ s, s ∈ F ∨ s ∈ B → s.l.length ≤ 4 := fun s hs => by
  obtain ⟨j, _, e⟩ := h.mem hs
  rw [e]; exact g.s j
theorem Rep.chk {F B : List Stk} {tb : List (List Idd)} (h : Rep F B tb) (g : Good' tb) : chkV F B = 0 := by
  have hf := h.f
  have hb := h.b
  have ho : ovV F B = false := by
    unfold ovV
    rw [decide_eq_false (by omega), decide_eq_false (by omega)]
    simp only [Bool.false_or]
    rw [List.any_eq_false]
    intro t ht
    have := h.len g _ (itms_ok ht).2.2.2
    simp; omega
  have hn : nmV F B = true := by
    unfold nmV
    rw [List.all_eq_true]
    intro t ht
    rw [List.all_eq_true]
    intro p hp
    refine g.n p ?_
    rw [← h.all]
    exact List.mem_flatMap.2 ⟨t, ht, hp⟩
  have ht : twV F B = false := by
    unfold twV
    rw [h.all, decide_eq_true g.d]; rfl
  unfold chkV
  rw [ho, hn, ht]; rfl
end Tst
end

section
open Go Go.Lf Go.Proofs
namespace Tst
theorem stack_mk (mk : List Idd → Stk) (hm : ∀ l, (mk l).l = l) (x : List (List Idd)) (j : Nat) : stackOf (x.map mk) (j : Int) = x.getD j [] := by
  rw [stackOf_nat]
  by_cases h : j < x.length
  · rw [if_pos (by simpa using h), List.getD_eq_getElem?_getD, List.getElem?_map, List.getD_eq_getElem?_getD, List.getElem?_eq_getElem h]
    exact hm _
  · rw [if_neg (by simpa using h), List.getD_eq_getElem?_getD, List.getElem?_eq_none (by omega)]; rfl
theorem rep_mk (mk : List Idd → Stk) (hm : ∀ l, (mk l).l = l) {x y tb : List (List Idd)} (h : tb.length = 80) (hx : x.length ≤ 40) (hy : y.length ≤ 40) (ax : ∀ j, j < 40 → x.getD j [] = tb.getD (0 + j) []) (ay : ∀ j, j < 40 → y.getD j [] = tb.getD (40 + j) []) : Rep (x.map mk) (y.map mk) tb := by
  refine ⟨by simpa using hx, by simpa using hy, h, fun j hj => ?_⟩
  unfold stkN
  by_cases h40 : j < 40
  · rw [if_pos h40, show j % 40 = j by omega, stack_mk mk hm, ax j h40, Nat.zero_add]
  · rw [if_neg h40, show j % 40 = j - 40 by omega, stack_mk mk hm, ay (j - 40) (by omega), show 40 + (j - 40) = j by omega]
theorem lenF_keep (tb : List (List Idd)) (o : Nat) : ∀ k a, a ≠ 0 → lenF tb o k a = a
  | 0, a, _ => rfl
  | k + 1, a, h => by
    show lenF tb o k (lenStep tb o k a) = a
    have : lenStep tb o k a = a := by unfold lenStep; rw [if_neg (by omega)]
    rw [this, lenF_keep tb o k a h]
theorem lenF_empty (tb : List (List Idd)) (o : Nat) : ∀ k i, lenF tb o k 0 ≤ i → i < k → tb.getD (o + i) [] = []
  | 0, i, _, h => by omega
  | k + 1, i, h1, h2 => by
    have h1' : lenF tb o k (lenStep tb o k 0) ≤ i := h1
    by_cases hs : 0 < (tb.getD (o + k) []).length
    · have : lenStep tb o k 0 = k + 1 := by unfold lenStep; rw [if_pos ⟨rfl, hs⟩]
      rw [this, lenF_keep _ _ _ _ (by omega)] at h1'
      omega
    · have : lenStep tb o k 0 = 0 := by unfold lenStep; rw [if_neg (by omega)]
      rw [this] at h1'
      by_cases hi : i = k
      · subst hi; exact List.eq_nil_of_length_eq_zero (by omega)
      · exact lenF_empty tb o k i h1' (by omega)
theorem bed_get (tb : List (List Idd)) (o j : Nat) (hj : j < 40) : (bedOfT tb o).getD j [] = tb.getD (o + j) [] := by
  unfold bedOfT
  by_cases h : j < lenF tb o 40 0
  · rw [List.getD_eq_getElem?_getD, List.getElem?_map, List.getElem?_range h]; rfl
  · rw [List.getD_eq_getElem?_getD, List.getElem?_eq_none (by simp; omega), lenF_empty tb o 40 j (by omega) hj]; rfl
theorem rep_bed (tb : List (List Idd)) (h : tb.length = 80) (hl : ∀ o, (bedOfT tb o).length ≤ 40) : Rep (stkF (bedOfT tb 0)) (stkF (bedOfT tb 40)) tb :=
  rep_mk (fun l => ⟨none, l⟩) (fun _ => rfl) h (hl 0) (hl 40) (fun j hj => bed_get tb 0 j hj) (fun j hj => bed_get tb 40 j hj)
theorem getD_set (tb : List (List Idd)) (p j : Nat) (l : List Idd) (hp : p < tb.length) : (tb.set p l).getD j [] = if j = p then l else tb.getD j [] := by
  by_cases h : j = p
  · subst h; rw [if_pos rfl, List.getD_eq_getElem?_getD, List.getElem?_set_self hp]; rfl
  · rw [if_neg h, List.getD_eq_getElem?_getD, List.getElem?_set_ne (by omega), ← List.getD_eq_getElem?_getD]
end Tst
end

section
open Go Go.Lf Go.Proofs
namespace Tst
structure Inv (s : List (List Idd) × Nat) : Prop where
  l : s.1.length = 80
  p : s.1.flatten.Perm ((List.range s.2).map idAt)
end Tst
end

section
open Go Go.Lf Go.Proofs
namespace Tst
abbrev pe (v : Int) : Int := ndB (IntKind.u8.wrap (40 + Int.tmod v 40))
end Tst
end

section
open Go Go.Lf Go.Proofs
namespace Tst
section
variable {F B : List Stk} {tb : List (List Idd)} (h : Rep F B tb) (g : Good' tb) {i k : Nat} (hi : i < 80) (hk : k < 80)
include h g hi hk
end
theorem same_nat {F B G C : List Stk} {tb ub : List (List Idd)} (h : Rep F B tb) (h2 : Rep G C ub) : (sameB F G && sameB B C) = decide (tb = ub) := by
  have hF := h.f
  have hB := h.b
  have hG := h2.f
  have hC := h2.b
  have key : (sameB F G && sameB B C) = true ↔ tb = ub := by
    unfold sameB sameAt
    rw [Bool.and_eq_true, List.all_eq_true, List.all_eq_true]
    constructor
    · rintro ⟨a, b⟩
      rw [h.list, h2.list]
      refine List.map_congr_left fun j hj => ?_
      have hj : j < 80 := List.mem_range.1 hj
      unfold stkN
      by_cases hj2 : j < 40
      · rw [if_pos hj2, if_pos hj2, show j % 40 = j by omega]
        by_cases hm : j < max F.length G.length
        · simpa using a j (List.mem_range.2 hm)
        · rw [stackOf_nat, stackOf_nat, if_neg (by omega), if_neg (by omega)]
      · rw [if_neg hj2, if_neg hj2, show j % 40 = j - 40 by omega]
        by_cases hm : j - 40 < max B.length C.length
        · simpa using b (j - 40) (List.mem_range.2 hm)
        · rw [stackOf_nat, stackOf_nat, if_neg (by omega), if_neg (by omega)]
    · rintro rfl
      constructor
      · intro j hj
        have hj := List.mem_range.1 hj
        have e := (h.at' j (by omega)).trans (h2.at' j (by omega)).symm
        unfold stkN at e
        rw [if_pos (by omega), if_pos (by omega), show j % 40 = j by omega] at e
        simpa using e
      · intro j hj
        have hj := List.mem_range.1 hj
        have e := (h.at' (40 + j) (by omega)).trans (h2.at' (40 + j) (by omega)).symm
        unfold stkN at e
        rw [if_neg (by omega), if_neg (by omega), show (40 + j) % 40 = j by omega] at e
        simpa using e
  by_cases e : tb = ub
  · rw [decide_eq_true e, key.2 e]
  · rw [decide_eq_false e]
    exact Bool.eq_false_iff.2 fun c => e (key.1 c)
end Tst
end

section
open Go Go.Lf Go.Proofs
namespace Tst
set_option maxHeartbeats 0
end Tst
end

section
open Go Go.Lf Go.Proofs
namespace Tst
end Tst
namespace Tst
end Tst
end

section
open Go Go.Lf Go.Proofs
namespace Tst
theorem view_bedS (g : Nat → List Idd) : view (.agg (bedS g)) = .agg (bedS g) := by
  show AV.agg ((bedS g).map (remode (fun _ => .any) 11)) = _
  unfold bedS
  rw [List.map_map]
  congr 1
  refine List.map_congr_left fun i _ => ?_
  show AV.sl .any 30 none (((g i).map Idd.enc).map (mapE (remode (fun _ => .any) 10))) = _
  rw [List.map_map]; rfl
abbrev frE (X : List (List Idd)) : AV := .sl .fresh 62 (some X.length) (X.map FN)
def OfOk (x : List Pt) (g : Nat → List Idd) : Prop := PureC Try.prog 29 [psl none x] (.agg (bed80F g))
theorem ofok (x : List Pt) (g : Nat → List Idd) (h : OfOk x g) : PureC Try.prog 29 [psl none x] (.agg (bed80F g)) := h
def BdOk (g : Nat → List Idd) (X Y : List (List Idd)) : Prop := PureC Try.prog 30 [.agg (bedS g)] (.agg [frE X, frE Y])
theorem bdok (g : Nat → List Idd) (X Y : List (List Idd)) (h : BdOk g X Y) : PureC Try.prog 30 [.agg (bedS g)] (.agg [frE X, frE Y]) := h
end Tst
end

section
open Go Go.Lf Go.Proofs
namespace Tst
theorem le_tab (g : Nat → List Idd) : Le Try.prog (.box (bed80F g)) (.box (bedS g)) :=
  Le.box (F2.map2 (fun i => Le.toAny (by simp) rfl (fun _ h => h) (F2.rfl' _)) (List.range 80))
theorem le_fnE {P : Program} (l : List Idd) : Le P (FN l) (Stk.enc ⟨none, l⟩) := Le.toAny (by simp) rfl (fun _ h => h) (F2.rfl' _)
theorem le_frE {P : Program} (x : List (List Idd)) : Le P (frE x) (bsl (some x.length) (stkF x)) := by
  have e : (stkF x).map Stk.enc = x.map fun l => Stk.enc ⟨none, l⟩ := by unfold stkF; rw [List.map_map]; rfl
  show Le P (.sl .fresh 62 (some x.length) (x.map FN)) (.sl .any 62 (some x.length) ((stkF x).map Stk.enc))
  rw [e]
  refine Le.toAny (by simp) (by simp) (fun sz h y hy => ?_) ?_
  · obtain ⟨l, hl, rfl⟩ := List.mem_map.1 hy
    have := h (FN l) (List.mem_map.2 ⟨l, hl, rfl⟩)
    exact this
  · rw [flat_ones (fun y hy => by obtain ⟨l, _, rfl⟩ := List.mem_map.1 hy; rfl), flat_ones (fun y hy => by obtain ⟨l, _, rfl⟩ := List.mem_map.1 hy; rfl)]
    exact F2.map2 (fun l => le_fnE l) x
theorem smapFN (k : Nat) (x : List (List Idd)) : (x.map FN).map (mapE (remode shareM (k + 2))) = x.map FN := by
  rw [List.map_map]
  refine List.map_congr_left fun l _ => ?_
  show AV.sl .fresh 30 none ((l.map Idd.enc).map (mapE (remode shareM (k + 1)))) = _
  rw [map_re]; rfl
section
variable {F B : List Stk} {tb : List (List Idd)} (h : Rep F B tb)
include h
variable (g : Good' tb)
include g
end
section
variable {F B : List Stk} {tb : List (List Idd)} (h : Rep F B tb) (g : Good' tb)
include h g
end
theorem up64 {k : Nat} (h : k < 2 ^ 61) : IntKind.wrap IntKind.i64 ((k : Int) + 1) = ((k + 1 : Nat) : Int) := by rw [wrap_id' (by omega) (by omega)]; omega
end Tst
end

section
open Go Go.Lf Go.Proofs
namespace Tst
end Tst
end

section
open Go Go.Lf Go.Proofs
namespace Tst
set_option maxHeartbeats 0
end Tst
end

section
open Go Go.Lf Go.Proofs
namespace Tst
theorem topNo {env : Env} (h : ∀ p ∈ env, leafRoot p.2 = none) (r : Nat) : topOnly r env := by
  intro t y hl hy
  have : ∃ p ∈ env, p.2 = y := by
    clear hy
    induction env with
    | nil => cases hl
    | cons p env ih =>
      obtain ⟨s, z⟩ := p
      unfold Lf.lk at hl
      split at hl
      · injection hl with hl; exact ⟨(s, z), List.mem_cons_self, hl⟩
      · obtain ⟨q, hq, e⟩ := ih (fun q hq => h q (by simp [hq])) hl
        exact ⟨q, by simp [hq], e⟩
  obtain ⟨p, hp, rfl⟩ := this
  rw [h p hp] at hy; cases hy
theorem Tri.moreBox {P : Program} {cx : Cx} {c : Code} {env env' : Env} {ex : Ex} {r : Nat} {cs : List AV} (hr : lk env r = some (.box cs)) (htop : topOnly r env) (h : Tri P cx c ((r, .box (cs.map share)) :: env) ex env') : Tri P cx c env ex env' := by
  intro ρ hρ F B0 w0 S0 ds a w Q hag hQ
  obtain ⟨hd, hN, n, S, Os, hn, hgr, hst⟩ := hag
  obtain ⟨n1, S', Os', g, C, T, _, _, hst', hS, hS', _⟩ := hst.shareBox hr htop
  refine h ρ hρ F B0 w0 S0 ds a w Q ⟨hd, hN, n1 + 1, S', Os', by omega, ⟨fun b hb => hS b (hgr.1 b hb), fun b hb => ?_⟩, hst'⟩ hQ
  rcases hS' b hb with h | h
  · exact hgr.2 b h
  · exact .inr (hst.lt r b h).1
theorem Tri.afterBox {P : Program} {cx : Cx} {c : Code} {env env' : Env} {ex : Ex} {r : Nat} {cs : List AV} (h : Tri P cx c env ex env') (hr : lk env' r = some (.box cs)) (htop : topOnly r env') : Tri P cx c env ex ((r, .box (cs.map share)) :: env') := by
  intro ρ hρ F B0 w0 S0 ds a w Q hag hQ
  refine h ρ hρ F B0 w0 S0 ds a w Q hag fun a' w' ha => ?_
  obtain ⟨Ds, n, S, Os, h1, h2, h3, h4, h5, hgr, hst⟩ := ha
  obtain ⟨n1, S', Os', g, C, T, _, _, hst', hS, hS', _⟩ := hst.shareBox hr htop
  refine hQ a' w' ⟨Ds, n1 + 1, S', Os', h1, fun D hD => ⟨(h2 D hD).1, hS D (h2 D hD).2.1, (h2 D hD).2.2⟩, h3, h4, by omega, ⟨fun b hb => hS b (hgr.1 b hb), fun b hb => ?_⟩, hst'⟩
  rcases hS' b hb with h | h
  · exact hgr.2 b h
  · exact .inr (hst.lt r b h).1
theorem share_SH (l : List Idd) : share (SH l) = SH l := by
  show AV.sl .any 30 none ((l.map Idd.enc).map (mapE (remode shareM 11))) = _
  rw [map_re]; rfl
theorem share_own (c : Option Nat) (l : List Idd) : share (.sl .own 30 c (l.map Idd.enc)) = .sl .fresh 30 c (l.map Idd.enc) := by
  show AV.sl .fresh 30 c ((l.map Idd.enc).map (mapE (remode shareM 11))) = _
  rw [map_re]
theorem le_row {tb : List (List Idd)} {b : Nat} (l : List Idd) {y : AV} (hb : b < tb.length) (hy : Le Try.prog y (SH l)) : Le Try.prog (.box (List.take b (tb.map SH) ++ [y] ++ List.drop (b + 1) (tb.map SH))) (.box ((tb.set b l).map SH)) := by
  rw [← set_SH l hb]
  refine Le.box ?_
  have ap : ∀ {a b c d : List AV}, F2 (Le Try.prog) a b → F2 (Le Try.prog) c d → F2 (Le Try.prog) (a ++ c) (b ++ d) := by
    intro a b c d h1 h2
    induction h1 with
    | nil => exact h2
    | cons h _ ih => exact .cons h ih
  exact ap (ap (F2.rfl' _) (.cons hy .nil)) (F2.rfl' _)
theorem share_row (tb : List (List Idd)) (b : Nat) (c : Option Nat) (l : List Idd) : (List.take b (tb.map SH) ++ [AV.sl .own 30 c (l.map Idd.enc)] ++ List.drop (b + 1) (tb.map SH)).map share = List.take b (tb.map SH) ++ [AV.sl .fresh 30 c (l.map Idd.enc)] ++ List.drop (b + 1) (tb.map SH) := by
  have e : (tb.map SH).map share = tb.map SH := by
    rw [List.map_map]
    exact List.map_congr_left fun l _ => share_SH l
  rw [List.map_append, List.map_append, List.map_take, List.map_drop, e, List.map_cons, List.map_nil, share_own]
theorem le_fr30 (c : Option Nat) (l : List Idd) : Le Try.prog (.sl .fresh 30 c (l.map Idd.enc)) (SH l) := fun B0 w S n v O h => Le.cap B0 w S n v O (Le.toAny (ys := l.map Idd.enc) (by simp) rfl (fun _ h => h) (F2.rfl' _) B0 w S n v O h)
end Tst
end

section
open Go Go.Lf Go.Proofs
namespace Tst
def SmA (F B G C : List Stk) (r : Bool) : Prop := ∀ c1 c2 c3 c4 : Option Nat, PureC Try.prog 39 [beds (bsl c1 F) (bsl c2 B), beds (bsl c3 G) (bsl c4 C)] (bb r)
theorem sma (c1 c2 c3 c4 : Option Nat) (F B G C : List Stk) (r : Bool) (h : SmA F B G C r) : PureC Try.prog 39 [beds (bsl c1 F) (bsl c2 B), beds (bsl c3 G) (bsl c4 C)] (bb r) := h c1 c2 c3 c4
end Tst
end

section
open Go Go.Lf Go.Proofs
namespace Tst
set_option maxHeartbeats 0
theorem sm0_0 (x y : List Pt) (m0 m1 : Int) : Tri Try.prog (cxN 104 0) (regAt Try.f13 0) ([(0, psl none x), (1, psl none y), (2, .agg [ub m0, ub m1])] ) (Ex.normal) ([(0, AV.sl Mode.any 87 none (List.map Pt.enc x)), (1, AV.sl Mode.any 87 none (List.map Pt.enc y)), (5, AV.box [ub m0, ub m1])]) :=
  evA_ok (H := h13) (ans := [.c, .c]) (ps := []) (ans' := []) (base 104 0) cxA_K.1 cxA_K.2 _ (by kernel_rfl)  allp_nil
theorem sm1_0 (x y : List Pt) (g h : Nat → List Idd) (y5 : List AV) (hg : OfOk x g) (hh : OfOk y h) : Tri Try.prog (cxN 104 0) (regAt Try.f13 1) ([(0, psl none x), (1, psl none y), (5, .box y5)] ) (Ex.normal) ([(5, AV.box y5), (7, AV.box (bed80F g)), (8, AV.box (bed80F h))]) :=
  evA_ok (H := h13) (ans := [.c, .r (AV.sl Mode.any 87 none (List.map Pt.enc x)), .r (AV.agg (bed80F g)), .c, .r (AV.agg (bed80F g)), .c, .r (AV.sl Mode.any 87 none (List.map Pt.enc y)), .r (AV.agg (bed80F h)), .c, .r (AV.agg (bed80F h)), .c, .c, .c, .c]) (ps := [view (AV.sl Mode.any 87 none (List.map Pt.enc x)) = AV.sl Mode.any 87 none (List.map Pt.enc x), PureC Try.prog 29 [AV.sl Mode.any 87 none (List.map Pt.enc x)] (AV.agg (bed80F g)), normR (AV.agg (bed80F g)) = AV.agg (bed80F g), view (AV.sl Mode.any 87 none (List.map Pt.enc y)) = AV.sl Mode.any 87 none (List.map Pt.enc y), PureC Try.prog 29 [AV.sl Mode.any 87 none (List.map Pt.enc y)] (AV.agg (bed80F h)), normR (AV.agg (bed80F h)) = AV.agg (bed80F h)]) (ans' := []) (base 104 0) cxA_K.1 cxA_K.2 _ (by kernel_rfl)  (allp (by first | exact view_ps _ _ _ | exact view_u8 _ _ _ | rfl | exact view_yn _ _ _ _ _ _ _ | exact view_id _ _ _ | exact view_stk _ _ _ | exact view_beds _ _ _ _ _ _ | exact view_pt _ _ _) (allp (by apply ofok <;> (first | assumption | rfl | (simp at * <;> omega))) (allp (by first | rfl | exact normR_bed80F _) (allp (by first | exact view_ps _ _ _ | exact view_u8 _ _ _ | rfl | exact view_yn _ _ _ _ _ _ _ | exact view_id _ _ _ | exact view_stk _ _ _ | exact view_beds _ _ _ _ _ _ | exact view_pt _ _ _) (allp (by apply ofok <;> (first | assumption | rfl | (simp at * <;> omega))) (allp (by first | rfl | exact normR_bed80F _) allp_nil))))))
theorem sm2_0 (y7 y8 : List AV) (m0 m1 : Int) : Tri Try.prog (cxN 104 0) (regAt Try.f13 2) ([(5, .box [ub m0, ub m1]), (7, .box y7), (8, .box y8)] ) (Ex.normal) ([(5, AV.box [ub m0, ub m1]), (7, AV.box y7), (8, AV.box y8), (22, bb (Int.tmod m1 (2 : Int) == (1 : Int)))]) :=
  evA_ok (H := h13) (ans := [.c, .c, .c, .c, .c, .c, .c]) (ps := []) (ans' := []) (base 104 0) cxA_K.1 cxA_K.2 _ (by kernel_rfl)  allp_nil
theorem sm3_0 (g h : Nat → List Idd) (y5 : List AV) (g0 : AV.agg (bedS g) = AV.agg (bedS g)) : Tri Try.prog (cxN 104 0) (regAt Try.f13 3) ([(5, .box y5), (7, .box (bedS g)), (8, .box (bedS h))] ) (Ex.normal) ([(5, AV.box y5), (7, AV.box (bedS g)), (8, AV.box (bedS g))]) :=
  evA_ok (H := h13) (ans := [.r (AV.agg (bedS g)), .c]) (ps := [AV.agg (bedS g) = AV.agg (bedS g)]) (ans' := []) (base 104 0) cxA_K.1 cxA_K.2 _ (by kernel_rfl)  (allp g0 allp_nil)
theorem sm4_0 (y7 y8 : List AV) (m0 m1 : Int) : Tri Try.prog (cxN 104 0) (regAt Try.f13 4) ([(5, .box [ub m0, ub m1]), (7, .box y7), (8, .box y8)] ) (Ex.normal) ([(5, AV.box [ub m0, ub m1]), (7, AV.box y7), (8, AV.box y8), (27, bb (Int.tmod m1 (4 : Int) == (3 : Int)))]) :=
  evA_ok (H := h13) (ans := [.c, .c, .c, .c, .c, .c, .c]) (ps := []) (ans' := []) (base 104 0) cxA_K.1 cxA_K.2 _ (by kernel_rfl)  allp_nil
theorem sm5_0 (y7 y8 : List AV) (m0 m1 : Int) (h1 : 0 ≤ m1) : Tri Try.prog (cxN 104 0) (regAt Try.f13 5) ([(5, .box [ub m0, ub m1]), (7, .box y7), (8, .box y8)] ) (Ex.normal) ([(5, AV.box [ub m0, ub m1]), (7, AV.box y7), (8, AV.box y8), (9, it (Int.tmod (IntKind.wrap IntKind.i64 (IntKind.wrap IntKind.u8 (Int.tdiv m1 (4 : Int)))) (80 : Int)))]) :=
  evA_ok (H := h13) (ans := [.c, .c, .c, .c, .c, .c, .c, .c, .c]) (ps := []) (ans' := []) (base 104 0) cxA_K.1 cxA_K.2 _ (by kernel_rfl)  allp_nil
theorem sm6_0 (tb : List (List Idd)) (y5 y7 : List AV) (a : Int) (g0 : AV.sl Mode.own 30 (some 0) [] = AV.sl Mode.own 30 (some (0 : Nat)) (List.map Idd.enc [])) (g1 : decide ((0 : Int) ≤ a ∧ a < (↑(80 : Nat) : Int) ∧ (0 : Nat) < (1 : Nat)) = true) (g2 : decide ((0 : Nat) = (0 : Nat) ∧ Int.toNat a * (1 : Nat) < List.length (List.map SH tb)) = true) (g3 : List.getD (List.map SH tb) (Int.toNat a * (1 : Nat)) AV.bad = SH (List.getD tb (Int.toNat a * (1 : Nat)) default)) (g4 : decide ((62 : Nat) = (62 : Nat) ∧ (List.all (List.map Idd.enc (List.getD tb (Int.toNat a * (1 : Nat)) default)) fun y => List.all (AV.ecells y) plainA) = true ∧ (List.all (List.map Idd.enc (List.getD tb (Int.toNat a * (1 : Nat)) default)) fun y => decide (List.length (AV.ecells y) = List.length (TInfo.zero { zero := [Value.int IntKind.u8 (0 : Int), Value.int IntKind.i64 (0 : Int)], bytes := (16 : Nat), agg := true, kind := TK.struct [((0 : Nat), (1 : Nat)), ((1 : Nat), (1 : Nat))] }))) = true) = true) (g5 : decide (30 = (30 : TypeId) ∧ List.length (List.map Idd.enc []) + List.length (List.map Idd.enc (List.getD tb (Int.toNat a * (1 : Nat)) default)) ≤ (4294967296 : Nat) ∧ Oper.dst { dst := some (38 : Nat), op := Op.call { callee := Callee.builtin Builtin.append, args := #[Operand.tmp (34 : Nat), Operand.tmp (37 : Nat)], argTypes := #[(62 : Nat), (62 : Nat)] }, type := (62 : Nat), pos := "law.go:299", after := #[{ on := (1 : Nat), ground := Ground.data }, { on := (4 : Nat), ground := Ground.data }], guard := none } ≠ some (34 : Nat)) = true) (g6 : AV.sl Mode.own 30 (if List.length (List.map Idd.enc []) + List.length (List.map Idd.enc (List.getD tb (Int.toNat a * (1 : Nat)) default)) ≤ (0 : Nat) then some (0 : Nat) else none) (List.map Idd.enc [] ++ List.map Idd.enc (List.getD tb (Int.toNat a * (1 : Nat)) default)) = AV.sl Mode.own 30 (if List.length (List.map Idd.enc []) + List.length (List.map Idd.enc (List.getD tb (Int.toNat a * (1 : Nat)) default)) ≤ (0 : Nat) then some (0 : Nat) else none) (List.map Idd.enc ([] ++ List.getD tb (Int.toNat a * (1 : Nat)) default))) (g7 : AV.sl Mode.own 30 (some 1) [AV.agg [ub 6, it 9]] = AV.sl Mode.own 30 (some (1 : Nat)) (List.map Idd.enc [{ y := (6 : Int), n := (9 : Int) }])) (g8 : decide (30 = (30 : TypeId) ∧ List.length (List.map Idd.enc ([] ++ List.getD tb (Int.toNat a * (1 : Nat)) default)) + List.length (List.map Idd.enc [{ y := (6 : Int), n := (9 : Int) }]) ≤ (4294967296 : Nat) ∧ Oper.dst { dst := some (41 : Nat), op := Op.call { callee := Callee.builtin Builtin.append, args := #[Operand.tmp (38 : Nat), Operand.tmp (40 : Nat)], argTypes := #[(62 : Nat), (62 : Nat)] }, type := (62 : Nat), pos := "law.go:299", after := #[{ on := (5 : Nat), ground := Ground.data }, { on := (7 : Nat), ground := Ground.data }, { on := (5 : Nat), ground := Ground.chain }], guard := none } ≠ some (38 : Nat)) = true) (g9 : AV.sl Mode.own 30 (match if List.length (List.map Idd.enc []) + List.length (List.map Idd.enc (List.getD tb (Int.toNat a * (1 : Nat)) default)) ≤ (0 : Nat) then some (0 : Nat) else none with | some c => if List.length (List.map Idd.enc ([] ++ List.getD tb (Int.toNat a * (1 : Nat)) default)) + List.length (List.map Idd.enc [{ y := (6 : Int), n := (9 : Int) }]) ≤ c then some c else none | none => none) (List.map Idd.enc ([] ++ List.getD tb (Int.toNat a * (1 : Nat)) default) ++ List.map Idd.enc [{ y := (6 : Int), n := (9 : Int) }]) = AV.sl Mode.own 30 (match if List.length (List.map Idd.enc []) + List.length (List.map Idd.enc (List.getD tb (Int.toNat a * (1 : Nat)) default)) ≤ (0 : Nat) then some (0 : Nat) else none with | some c => if List.length (List.map Idd.enc ([] ++ List.getD tb (Int.toNat a * (1 : Nat)) default)) + List.length (List.map Idd.enc [{ y := (6 : Int), n := (9 : Int) }]) ≤ c then some c else none | none => none) (List.map Idd.enc ([] ++ List.getD tb (Int.toNat a * (1 : Nat)) default ++ [{ y := (6 : Int), n := (9 : Int) }]))) : Tri Try.prog (cxN 104 0) (regAt Try.f13 6) ([(5, .box y5), (7, .box y7), (8, .box (tb.map SH)), (9, it a)] ) (Ex.normal) ([(5, AV.box y5), (7, AV.box y7), (8, AV.box (List.take (Int.toNat a * (1 : Nat)) (List.map SH tb) ++ [AV.sl Mode.own 30 (match if List.length (List.map Idd.enc []) + List.length (List.map Idd.enc (List.getD tb (Int.toNat a * (1 : Nat)) default)) ≤ (0 : Nat) then some (0 : Nat) else none with | some c => if List.length (List.map Idd.enc ([] ++ List.getD tb (Int.toNat a * (1 : Nat)) default)) + List.length (List.map Idd.enc [{ y := (6 : Int), n := (9 : Int) }]) ≤ c then some c else none | none => none) (List.map Idd.enc ([] ++ List.getD tb (Int.toNat a * (1 : Nat)) default ++ [{ y := (6 : Int), n := (9 : Int) }]))] ++ List.drop (Int.toNat a * (1 : Nat) + (1 : Nat)) (List.map SH tb)))]) :=
  evA_ok (H := h13) (ans := [.c, .r (AV.sl Mode.own 30 (some (0 : Nat)) (List.map Idd.enc [])), .c, .b true, .c, .b true, .r (SH (List.getD tb (Int.toNat a * (1 : Nat)) default)), .c, .b true, .b true, .r (AV.sl Mode.own 30 (if List.length (List.map Idd.enc []) + List.length (List.map Idd.enc (List.getD tb (Int.toNat a * (1 : Nat)) default)) ≤ (0 : Nat) then some (0 : Nat) else none) (List.map Idd.enc ([] ++ List.getD tb (Int.toNat a * (1 : Nat)) default))), .c, .r (AV.sl Mode.own 30 (some (1 : Nat)) (List.map Idd.enc [{ y := (6 : Int), n := (9 : Int) }])), .c, .b true, .r (AV.sl Mode.own 30 (match if List.length (List.map Idd.enc []) + List.length (List.map Idd.enc (List.getD tb (Int.toNat a * (1 : Nat)) default)) ≤ (0 : Nat) then some (0 : Nat) else none with | some c => if List.length (List.map Idd.enc ([] ++ List.getD tb (Int.toNat a * (1 : Nat)) default)) + List.length (List.map Idd.enc [{ y := (6 : Int), n := (9 : Int) }]) ≤ c then some c else none | none => none) (List.map Idd.enc ([] ++ List.getD tb (Int.toNat a * (1 : Nat)) default ++ [{ y := (6 : Int), n := (9 : Int) }]))), .b true, .c, .b true, .r (SH (List.getD tb (Int.toNat a * (1 : Nat)) default)), .c]) (ps := [AV.sl Mode.own 30 (some 0) [] = AV.sl Mode.own 30 (some (0 : Nat)) (List.map Idd.enc []), decide ((0 : Int) ≤ a ∧ a < (↑(80 : Nat) : Int) ∧ (0 : Nat) < (1 : Nat)) = true, decide ((0 : Nat) = (0 : Nat) ∧ Int.toNat a * (1 : Nat) < List.length (List.map SH tb)) = true, List.getD (List.map SH tb) (Int.toNat a * (1 : Nat)) AV.bad = SH (List.getD tb (Int.toNat a * (1 : Nat)) default), decide ((62 : Nat) = (62 : Nat) ∧ (List.all (List.map Idd.enc (List.getD tb (Int.toNat a * (1 : Nat)) default)) fun y => List.all (AV.ecells y) plainA) = true ∧ (List.all (List.map Idd.enc (List.getD tb (Int.toNat a * (1 : Nat)) default)) fun y => decide (List.length (AV.ecells y) = List.length (TInfo.zero { zero := [Value.int IntKind.u8 (0 : Int), Value.int IntKind.i64 (0 : Int)], bytes := (16 : Nat), agg := true, kind := TK.struct [((0 : Nat), (1 : Nat)), ((1 : Nat), (1 : Nat))] }))) = true) = true, decide (30 = (30 : TypeId) ∧ List.length (List.map Idd.enc []) + List.length (List.map Idd.enc (List.getD tb (Int.toNat a * (1 : Nat)) default)) ≤ (4294967296 : Nat) ∧ Oper.dst { dst := some (38 : Nat), op := Op.call { callee := Callee.builtin Builtin.append, args := #[Operand.tmp (34 : Nat), Operand.tmp (37 : Nat)], argTypes := #[(62 : Nat), (62 : Nat)] }, type := (62 : Nat), pos := "law.go:299", after := #[{ on := (1 : Nat), ground := Ground.data }, { on := (4 : Nat), ground := Ground.data }], guard := none } ≠ some (34 : Nat)) = true, AV.sl Mode.own 30 (if List.length (List.map Idd.enc []) + List.length (List.map Idd.enc (List.getD tb (Int.toNat a * (1 : Nat)) default)) ≤ (0 : Nat) then some (0 : Nat) else none) (List.map Idd.enc [] ++ List.map Idd.enc (List.getD tb (Int.toNat a * (1 : Nat)) default)) = AV.sl Mode.own 30 (if List.length (List.map Idd.enc []) + List.length (List.map Idd.enc (List.getD tb (Int.toNat a * (1 : Nat)) default)) ≤ (0 : Nat) then some (0 : Nat) else none) (List.map Idd.enc ([] ++ List.getD tb (Int.toNat a * (1 : Nat)) default)), AV.sl Mode.own 30 (some 1) [AV.agg [ub 6, it 9]] = AV.sl Mode.own 30 (some (1 : Nat)) (List.map Idd.enc [{ y := (6 : Int), n := (9 : Int) }]), decide (30 = (30 : TypeId) ∧ List.length (List.map Idd.enc ([] ++ List.getD tb (Int.toNat a * (1 : Nat)) default)) + List.length (List.map Idd.enc [{ y := (6 : Int), n := (9 : Int) }]) ≤ (4294967296 : Nat) ∧ Oper.dst { dst := some (41 : Nat), op := Op.call { callee := Callee.builtin Builtin.append, args := #[Operand.tmp (38 : Nat), Operand.tmp (40 : Nat)], argTypes := #[(62 : Nat), (62 : Nat)] }, type := (62 : Nat), pos := "law.go:299", after := #[{ on := (5 : Nat), ground := Ground.data }, { on := (7 : Nat), ground := Ground.data }, { on := (5 : Nat), ground := Ground.chain }], guard := none } ≠ some (38 : Nat)) = true, AV.sl Mode.own 30 (match if List.length (List.map Idd.enc []) + List.length (List.map Idd.enc (List.getD tb (Int.toNat a * (1 : Nat)) default)) ≤ (0 : Nat) then some (0 : Nat) else none with | some c => if List.length (List.map Idd.enc ([] ++ List.getD tb (Int.toNat a * (1 : Nat)) default)) + List.length (List.map Idd.enc [{ y := (6 : Int), n := (9 : Int) }]) ≤ c then some c else none | none => none) (List.map Idd.enc ([] ++ List.getD tb (Int.toNat a * (1 : Nat)) default) ++ List.map Idd.enc [{ y := (6 : Int), n := (9 : Int) }]) = AV.sl Mode.own 30 (match if List.length (List.map Idd.enc []) + List.length (List.map Idd.enc (List.getD tb (Int.toNat a * (1 : Nat)) default)) ≤ (0 : Nat) then some (0 : Nat) else none with | some c => if List.length (List.map Idd.enc ([] ++ List.getD tb (Int.toNat a * (1 : Nat)) default)) + List.length (List.map Idd.enc [{ y := (6 : Int), n := (9 : Int) }]) ≤ c then some c else none | none => none) (List.map Idd.enc ([] ++ List.getD tb (Int.toNat a * (1 : Nat)) default ++ [{ y := (6 : Int), n := (9 : Int) }])), decide ((0 : Int) ≤ a ∧ a < (↑(80 : Nat) : Int) ∧ (0 : Nat) < (1 : Nat)) = true, decide ((0 : Nat) = (0 : Nat) ∧ Int.toNat a * (1 : Nat) < List.length (List.map SH tb)) = true, List.getD (List.map SH tb) (Int.toNat a * (1 : Nat)) AV.bad = SH (List.getD tb (Int.toNat a * (1 : Nat)) default)]) (ans' := []) (base 104 0) cxA_K.1 cxA_K.2 _ (by kernel_rfl)  (allp g0 (allp g1 (allp g2 (allp g3 (allp g4 (allp g5 (allp g6 (allp g7 (allp g8 (allp g9 (allp g1 (allp g2 (allp g3 allp_nil)))))))))))))
theorem sm7_0 (y5 y7 y8 : List AV) : Tri Try.prog (cxN 104 0) (regAt Try.f13 7) ([(5, .box y5), (7, .box y7), (8, .box y8)] ) (Ex.normal) ([(5, AV.box y5), (7, AV.box y7), (8, AV.box y8), (10, bb true)]) :=
  evA_ok (H := h13) (ans := [.c]) (ps := []) (ans' := []) (base 104 0) cxA_K.1 cxA_K.2 _ (by kernel_rfl)  allp_nil
theorem sm8_0 (y5 y7 y8 : List AV) (e : Bool) : Tri Try.prog (cxN 104 0) (regAt Try.f13 8) ([(5, .box y5), (7, .box y7), (8, .box y8), (10, bb e)] ) (Ex.normal) ([(5, AV.box y5), (7, AV.box y7), (8, AV.box y8), (10, bb e), (11, it 0)]) :=
  evA_ok (H := h13) (ans := [.c]) (ps := []) (ans' := []) (base 104 0) cxA_K.1 cxA_K.2 _ (by kernel_rfl)  allp_nil
theorem sma_0 (y5 : List AV) (tb tc : List (List Idd)) (e : Bool) (j : Int) (hl : (List.getD tb (Int.toNat j * 1) default).length < 2 ^ 62) (g0 : decide (j < (80 : Int)) = true) (g1 : decide ((0 : Int) ≤ j ∧ j < (↑(80 : Nat) : Int) ∧ (0 : Nat) < (1 : Nat)) = true) (g2 : decide ((0 : Nat) = (0 : Nat) ∧ Int.toNat j * (1 : Nat) < List.length (List.map SH tb)) = true) (g3 : List.getD (List.map SH tb) (Int.toNat j * (1 : Nat)) AV.bad = SH (List.getD tb (Int.toNat j * (1 : Nat)) default)) (g4 : decide ((0 : Int) ≤ (0 : Int) ∧ (0 : Int) ≤ (↑(List.length (List.map Idd.enc (List.getD tb (Int.toNat j * (1 : Nat)) default))) : Int) ∧ (↑(List.length (List.map Idd.enc (List.getD tb (Int.toNat j * (1 : Nat)) default))) : Int) ≤ (4294967296 : Int) ∧ TInfo.bytes { zero := [Value.int IntKind.u8 (0 : Int), Value.int IntKind.i64 (0 : Int)], bytes := (16 : Nat), agg := true, kind := TK.struct [((0 : Nat), (1 : Nat)), ((1 : Nat), (1 : Nat))] } ≤ (4096 : Nat) ∧ (0 : Nat) < List.length (TInfo.zero { zero := [Value.int IntKind.u8 (0 : Int), Value.int IntKind.i64 (0 : Int)], bytes := (16 : Nat), agg := true, kind := TK.struct [((0 : Nat), (1 : Nat)), ((1 : Nat), (1 : Nat))] })) = true) (g5 : AV.sl Mode.own 30 (some (Int.toNat (↑(List.length (List.map Idd.enc (List.getD tb (Int.toNat j * (1 : Nat)) default))) : Int))) [] = AV.sl Mode.own 30 (some (Int.toNat (↑(List.length (List.map Idd.enc (List.getD tb (Int.toNat j * (1 : Nat)) default))) : Int))) (List.map Idd.enc (List.replicate (Int.toNat (0 : Int)) { y := (0 : Int), n := (0 : Int) }))) (g6 : decide ((62 : Nat) = (62 : Nat) ∧ (List.all (List.map Idd.enc (List.getD tb (Int.toNat j * (1 : Nat)) default)) fun y => List.all (AV.ecells y) plainA) = true ∧ (List.all (List.map Idd.enc (List.getD tb (Int.toNat j * (1 : Nat)) default)) fun y => decide (List.length (AV.ecells y) = List.length (TInfo.zero { zero := [Value.int IntKind.u8 (0 : Int), Value.int IntKind.i64 (0 : Int)], bytes := (16 : Nat), agg := true, kind := TK.struct [((0 : Nat), (1 : Nat)), ((1 : Nat), (1 : Nat))] }))) = true) = true) (g7 : decide (30 = (30 : TypeId) ∧ List.length (List.map Idd.enc (List.replicate (Int.toNat (0 : Int)) { y := (0 : Int), n := (0 : Int) })) + List.length (List.map Idd.enc (List.getD tb (Int.toNat j * (1 : Nat)) default)) ≤ (4294967296 : Nat) ∧ Oper.dst { dst := some (55 : Nat), op := Op.call { callee := Callee.builtin Builtin.append, args := #[Operand.tmp (51 : Nat), Operand.tmp (54 : Nat)], argTypes := #[(62 : Nat), (62 : Nat)] }, type := (62 : Nat), pos := "law.go:304", after := #[{ on := (4 : Nat), ground := Ground.data }, { on := (7 : Nat), ground := Ground.data }], guard := none } ≠ some (51 : Nat)) = true) (g8 : AV.sl Mode.own 30 (if List.length (List.map Idd.enc (List.replicate (Int.toNat (0 : Int)) { y := (0 : Int), n := (0 : Int) })) + List.length (List.map Idd.enc (List.getD tb (Int.toNat j * (1 : Nat)) default)) ≤ Int.toNat (↑(List.length (List.map Idd.enc (List.getD tb (Int.toNat j * (1 : Nat)) default))) : Int) then some (Int.toNat (↑(List.length (List.map Idd.enc (List.getD tb (Int.toNat j * (1 : Nat)) default))) : Int)) else none) (List.map Idd.enc (List.replicate (Int.toNat (0 : Int)) { y := (0 : Int), n := (0 : Int) }) ++ List.map Idd.enc (List.getD tb (Int.toNat j * (1 : Nat)) default)) = AV.sl Mode.own 30 (some (Int.toNat (↑(List.length (List.map Idd.enc (List.getD tb (Int.toNat j * (1 : Nat)) default))) : Int))) (List.map Idd.enc (List.replicate (Int.toNat (0 : Int)) { y := (0 : Int), n := (0 : Int) } ++ List.getD tb (Int.toNat j * (1 : Nat)) default))) (g9 : decide ((0 : Nat) = (0 : Nat) ∧ Int.toNat j * (1 : Nat) < List.length (List.map SH tc)) = true) (g10 : List.getD (List.map SH tc) (Int.toNat j * (1 : Nat)) AV.bad = SH (List.getD tc (Int.toNat j * (1 : Nat)) default)) (g11 : ((if List.replicate (Int.toNat (0 : Int)) { y := (0 : Int), n := (0 : Int) } ++ List.getD tb (Int.toNat j * (1 : Nat)) default = List.getD tc (Int.toNat j * (1 : Nat)) default ∧ Int.toNat (↑(List.length (List.map Idd.enc (List.getD tb (Int.toNat j * (1 : Nat)) default))) : Int) = List.length (List.replicate (Int.toNat (0 : Int)) { y := (0 : Int), n := (0 : Int) } ++ List.getD tb (Int.toNat j * (1 : Nat)) default) then (1 : Int) else (0 : Int)) == (0 : Int)) = true) : Tri Try.prog (cxN 104 0) (loopBody Try.f13 0) ([(5, .box y5), (7, .box (tb.map SH)), (8, .box (tc.map SH)), (10, bb e), (11, it j)] ) (Ex.normal) ([(5, AV.box y5), (7, AV.box (List.map SH tb)), (8, AV.box (List.map SH tc)), (10, bb false), (11, it (IntKind.wrap IntKind.i64 (j + (1 : Int))))]) :=
  evA_ok (H := h13) (ans := [.c, .c, .b true, .c, .b true, .c, .b true, .r (SH (List.getD tb (Int.toNat j * (1 : Nat)) default)), .c, .c, .b true, .r (AV.sl Mode.own 30 (some (Int.toNat (↑(List.length (List.map Idd.enc (List.getD tb (Int.toNat j * (1 : Nat)) default))) : Int))) (List.map Idd.enc (List.replicate (Int.toNat (0 : Int)) { y := (0 : Int), n := (0 : Int) }))), .c, .b true, .c, .b true, .r (SH (List.getD tb (Int.toNat j * (1 : Nat)) default)), .c, .b true, .b true, .r (AV.sl Mode.own 30 (some (Int.toNat (↑(List.length (List.map Idd.enc (List.getD tb (Int.toNat j * (1 : Nat)) default))) : Int))) (List.map Idd.enc (List.replicate (Int.toNat (0 : Int)) { y := (0 : Int), n := (0 : Int) } ++ List.getD tb (Int.toNat j * (1 : Nat)) default))), .c, .b true, .c, .b true, .r (SH (List.getD tc (Int.toNat j * (1 : Nat)) default)), .c, .r (AV.sl Mode.any 30 (some (Int.toNat (↑(List.length (List.map Idd.enc (List.getD tb (Int.toNat j * (1 : Nat)) default))) : Int))) (List.map Idd.enc (List.replicate (Int.toNat (0 : Int)) { y := (0 : Int), n := (0 : Int) } ++ List.getD tb (Int.toNat j * (1 : Nat)) default))), .r (AV.sl Mode.any 30 none (List.map Idd.enc (List.getD tc (Int.toNat j * (1 : Nat)) default))), .r (it (if List.replicate (Int.toNat (0 : Int)) { y := (0 : Int), n := (0 : Int) } ++ List.getD tb (Int.toNat j * (1 : Nat)) default = List.getD tc (Int.toNat j * (1 : Nat)) default ∧ Int.toNat (↑(List.length (List.map Idd.enc (List.getD tb (Int.toNat j * (1 : Nat)) default))) : Int) = List.length (List.replicate (Int.toNat (0 : Int)) { y := (0 : Int), n := (0 : Int) } ++ List.getD tb (Int.toNat j * (1 : Nat)) default) then (1 : Int) else (0 : Int))), .c, .c, .c, .b true, .c, .c, .c, .c]) (ps := [decide (j < (80 : Int)) = true, decide ((0 : Int) ≤ j ∧ j < (↑(80 : Nat) : Int) ∧ (0 : Nat) < (1 : Nat)) = true, decide ((0 : Nat) = (0 : Nat) ∧ Int.toNat j * (1 : Nat) < List.length (List.map SH tb)) = true, List.getD (List.map SH tb) (Int.toNat j * (1 : Nat)) AV.bad = SH (List.getD tb (Int.toNat j * (1 : Nat)) default), decide ((0 : Int) ≤ (0 : Int) ∧ (0 : Int) ≤ (↑(List.length (List.map Idd.enc (List.getD tb (Int.toNat j * (1 : Nat)) default))) : Int) ∧ (↑(List.length (List.map Idd.enc (List.getD tb (Int.toNat j * (1 : Nat)) default))) : Int) ≤ (4294967296 : Int) ∧ TInfo.bytes { zero := [Value.int IntKind.u8 (0 : Int), Value.int IntKind.i64 (0 : Int)], bytes := (16 : Nat), agg := true, kind := TK.struct [((0 : Nat), (1 : Nat)), ((1 : Nat), (1 : Nat))] } ≤ (4096 : Nat) ∧ (0 : Nat) < List.length (TInfo.zero { zero := [Value.int IntKind.u8 (0 : Int), Value.int IntKind.i64 (0 : Int)], bytes := (16 : Nat), agg := true, kind := TK.struct [((0 : Nat), (1 : Nat)), ((1 : Nat), (1 : Nat))] })) = true, AV.sl Mode.own 30 (some (Int.toNat (↑(List.length (List.map Idd.enc (List.getD tb (Int.toNat j * (1 : Nat)) default))) : Int))) [] = AV.sl Mode.own 30 (some (Int.toNat (↑(List.length (List.map Idd.enc (List.getD tb (Int.toNat j * (1 : Nat)) default))) : Int))) (List.map Idd.enc (List.replicate (Int.toNat (0 : Int)) { y := (0 : Int), n := (0 : Int) })), decide ((0 : Int) ≤ j ∧ j < (↑(80 : Nat) : Int) ∧ (0 : Nat) < (1 : Nat)) = true, decide ((0 : Nat) = (0 : Nat) ∧ Int.toNat j * (1 : Nat) < List.length (List.map SH tb)) = true, List.getD (List.map SH tb) (Int.toNat j * (1 : Nat)) AV.bad = SH (List.getD tb (Int.toNat j * (1 : Nat)) default), decide ((62 : Nat) = (62 : Nat) ∧ (List.all (List.map Idd.enc (List.getD tb (Int.toNat j * (1 : Nat)) default)) fun y => List.all (AV.ecells y) plainA) = true ∧ (List.all (List.map Idd.enc (List.getD tb (Int.toNat j * (1 : Nat)) default)) fun y => decide (List.length (AV.ecells y) = List.length (TInfo.zero { zero := [Value.int IntKind.u8 (0 : Int), Value.int IntKind.i64 (0 : Int)], bytes := (16 : Nat), agg := true, kind := TK.struct [((0 : Nat), (1 : Nat)), ((1 : Nat), (1 : Nat))] }))) = true) = true, decide (30 = (30 : TypeId) ∧ List.length (List.map Idd.enc (List.replicate (Int.toNat (0 : Int)) { y := (0 : Int), n := (0 : Int) })) + List.length (List.map Idd.enc (List.getD tb (Int.toNat j * (1 : Nat)) default)) ≤ (4294967296 : Nat) ∧ Oper.dst { dst := some (55 : Nat), op := Op.call { callee := Callee.builtin Builtin.append, args := #[Operand.tmp (51 : Nat), Operand.tmp (54 : Nat)], argTypes := #[(62 : Nat), (62 : Nat)] }, type := (62 : Nat), pos := "law.go:304", after := #[{ on := (4 : Nat), ground := Ground.data }, { on := (7 : Nat), ground := Ground.data }], guard := none } ≠ some (51 : Nat)) = true, AV.sl Mode.own 30 (if List.length (List.map Idd.enc (List.replicate (Int.toNat (0 : Int)) { y := (0 : Int), n := (0 : Int) })) + List.length (List.map Idd.enc (List.getD tb (Int.toNat j * (1 : Nat)) default)) ≤ Int.toNat (↑(List.length (List.map Idd.enc (List.getD tb (Int.toNat j * (1 : Nat)) default))) : Int) then some (Int.toNat (↑(List.length (List.map Idd.enc (List.getD tb (Int.toNat j * (1 : Nat)) default))) : Int)) else none) (List.map Idd.enc (List.replicate (Int.toNat (0 : Int)) { y := (0 : Int), n := (0 : Int) }) ++ List.map Idd.enc (List.getD tb (Int.toNat j * (1 : Nat)) default)) = AV.sl Mode.own 30 (some (Int.toNat (↑(List.length (List.map Idd.enc (List.getD tb (Int.toNat j * (1 : Nat)) default))) : Int))) (List.map Idd.enc (List.replicate (Int.toNat (0 : Int)) { y := (0 : Int), n := (0 : Int) } ++ List.getD tb (Int.toNat j * (1 : Nat)) default)), decide ((0 : Int) ≤ j ∧ j < (↑(80 : Nat) : Int) ∧ (0 : Nat) < (1 : Nat)) = true, decide ((0 : Nat) = (0 : Nat) ∧ Int.toNat j * (1 : Nat) < List.length (List.map SH tc)) = true, List.getD (List.map SH tc) (Int.toNat j * (1 : Nat)) AV.bad = SH (List.getD tc (Int.toNat j * (1 : Nat)) default), view (AV.sl Mode.own 30 (some (Int.toNat (↑(List.length (List.map Idd.enc (List.getD tb (Int.toNat j * (1 : Nat)) default))) : Int))) (List.map Idd.enc (List.replicate (Int.toNat (0 : Int)) { y := (0 : Int), n := (0 : Int) } ++ List.getD tb (Int.toNat j * (1 : Nat)) default))) = AV.sl Mode.any 30 (some (Int.toNat (↑(List.length (List.map Idd.enc (List.getD tb (Int.toNat j * (1 : Nat)) default))) : Int))) (List.map Idd.enc (List.replicate (Int.toNat (0 : Int)) { y := (0 : Int), n := (0 : Int) } ++ List.getD tb (Int.toNat j * (1 : Nat)) default)), view (AV.sl Mode.any 30 none (List.map Idd.enc (List.getD tc (Int.toNat j * (1 : Nat)) default))) = AV.sl Mode.any 30 none (List.map Idd.enc (List.getD tc (Int.toNat j * (1 : Nat)) default)), PureC Try.prog 41 [AV.sl Mode.any 30 (some (Int.toNat (↑(List.length (List.map Idd.enc (List.getD tb (Int.toNat j * (1 : Nat)) default))) : Int))) (List.map Idd.enc (List.replicate (Int.toNat (0 : Int)) { y := (0 : Int), n := (0 : Int) } ++ List.getD tb (Int.toNat j * (1 : Nat)) default)), AV.sl Mode.any 30 none (List.map Idd.enc (List.getD tc (Int.toNat j * (1 : Nat)) default))] (it (if List.replicate (Int.toNat (0 : Int)) { y := (0 : Int), n := (0 : Int) } ++ List.getD tb (Int.toNat j * (1 : Nat)) default = List.getD tc (Int.toNat j * (1 : Nat)) default ∧ Int.toNat (↑(List.length (List.map Idd.enc (List.getD tb (Int.toNat j * (1 : Nat)) default))) : Int) = List.length (List.replicate (Int.toNat (0 : Int)) { y := (0 : Int), n := (0 : Int) } ++ List.getD tb (Int.toNat j * (1 : Nat)) default) then (1 : Int) else (0 : Int))), ((if List.replicate (Int.toNat (0 : Int)) { y := (0 : Int), n := (0 : Int) } ++ List.getD tb (Int.toNat j * (1 : Nat)) default = List.getD tc (Int.toNat j * (1 : Nat)) default ∧ Int.toNat (↑(List.length (List.map Idd.enc (List.getD tb (Int.toNat j * (1 : Nat)) default))) : Int) = List.length (List.replicate (Int.toNat (0 : Int)) { y := (0 : Int), n := (0 : Int) } ++ List.getD tb (Int.toNat j * (1 : Nat)) default) then (1 : Int) else (0 : Int)) == (0 : Int)) = true]) (ans' := []) (base 104 0) cxA_K.1 cxA_K.2 _ (by kernel_rfl)  (allp g0 (allp g1 (allp g2 (allp g3 (allp g4 (allp g5 (allp g1 (allp g2 (allp g3 (allp g6 (allp g7 (allp g8 (allp g1 (allp g9 (allp g10 (allp (by first | exact view_ps _ _ _ | exact view_u8 _ _ _ | rfl | exact view_yn _ _ _ _ _ _ _ | exact view_id _ _ _ | exact view_stk _ _ _ | exact view_beds _ _ _ _ _ _ | exact view_pt _ _ _) (allp (by first | exact view_ps _ _ _ | exact view_u8 _ _ _ | rfl | exact view_yn _ _ _ _ _ _ _ | exact view_id _ _ _ | exact view_stk _ _ _ | exact view_beds _ _ _ _ _ _ | exact view_pt _ _ _) (allp (by apply s41_c <;> (first | assumption | rfl | (simp at * <;> omega))) (allp g11 allp_nil)))))))))))))))))))
theorem sma_1 (y5 : List AV) (tb tc : List (List Idd)) (e : Bool) (j : Int) (hl : (List.getD tb (Int.toNat j * 1) default).length < 2 ^ 62) (g0 : decide (j < (80 : Int)) = true) (g1 : decide ((0 : Int) ≤ j ∧ j < (↑(80 : Nat) : Int) ∧ (0 : Nat) < (1 : Nat)) = true) (g2 : decide ((0 : Nat) = (0 : Nat) ∧ Int.toNat j * (1 : Nat) < List.length (List.map SH tb)) = true) (g3 : List.getD (List.map SH tb) (Int.toNat j * (1 : Nat)) AV.bad = SH (List.getD tb (Int.toNat j * (1 : Nat)) default)) (g4 : decide ((0 : Int) ≤ (0 : Int) ∧ (0 : Int) ≤ (↑(List.length (List.map Idd.enc (List.getD tb (Int.toNat j * (1 : Nat)) default))) : Int) ∧ (↑(List.length (List.map Idd.enc (List.getD tb (Int.toNat j * (1 : Nat)) default))) : Int) ≤ (4294967296 : Int) ∧ TInfo.bytes { zero := [Value.int IntKind.u8 (0 : Int), Value.int IntKind.i64 (0 : Int)], bytes := (16 : Nat), agg := true, kind := TK.struct [((0 : Nat), (1 : Nat)), ((1 : Nat), (1 : Nat))] } ≤ (4096 : Nat) ∧ (0 : Nat) < List.length (TInfo.zero { zero := [Value.int IntKind.u8 (0 : Int), Value.int IntKind.i64 (0 : Int)], bytes := (16 : Nat), agg := true, kind := TK.struct [((0 : Nat), (1 : Nat)), ((1 : Nat), (1 : Nat))] })) = true) (g5 : AV.sl Mode.own 30 (some (Int.toNat (↑(List.length (List.map Idd.enc (List.getD tb (Int.toNat j * (1 : Nat)) default))) : Int))) [] = AV.sl Mode.own 30 (some (Int.toNat (↑(List.length (List.map Idd.enc (List.getD tb (Int.toNat j * (1 : Nat)) default))) : Int))) (List.map Idd.enc (List.replicate (Int.toNat (0 : Int)) { y := (0 : Int), n := (0 : Int) }))) (g6 : decide ((62 : Nat) = (62 : Nat) ∧ (List.all (List.map Idd.enc (List.getD tb (Int.toNat j * (1 : Nat)) default)) fun y => List.all (AV.ecells y) plainA) = true ∧ (List.all (List.map Idd.enc (List.getD tb (Int.toNat j * (1 : Nat)) default)) fun y => decide (List.length (AV.ecells y) = List.length (TInfo.zero { zero := [Value.int IntKind.u8 (0 : Int), Value.int IntKind.i64 (0 : Int)], bytes := (16 : Nat), agg := true, kind := TK.struct [((0 : Nat), (1 : Nat)), ((1 : Nat), (1 : Nat))] }))) = true) = true) (g7 : decide (30 = (30 : TypeId) ∧ List.length (List.map Idd.enc (List.replicate (Int.toNat (0 : Int)) { y := (0 : Int), n := (0 : Int) })) + List.length (List.map Idd.enc (List.getD tb (Int.toNat j * (1 : Nat)) default)) ≤ (4294967296 : Nat) ∧ Oper.dst { dst := some (55 : Nat), op := Op.call { callee := Callee.builtin Builtin.append, args := #[Operand.tmp (51 : Nat), Operand.tmp (54 : Nat)], argTypes := #[(62 : Nat), (62 : Nat)] }, type := (62 : Nat), pos := "law.go:304", after := #[{ on := (4 : Nat), ground := Ground.data }, { on := (7 : Nat), ground := Ground.data }], guard := none } ≠ some (51 : Nat)) = true) (g8 : AV.sl Mode.own 30 (if List.length (List.map Idd.enc (List.replicate (Int.toNat (0 : Int)) { y := (0 : Int), n := (0 : Int) })) + List.length (List.map Idd.enc (List.getD tb (Int.toNat j * (1 : Nat)) default)) ≤ Int.toNat (↑(List.length (List.map Idd.enc (List.getD tb (Int.toNat j * (1 : Nat)) default))) : Int) then some (Int.toNat (↑(List.length (List.map Idd.enc (List.getD tb (Int.toNat j * (1 : Nat)) default))) : Int)) else none) (List.map Idd.enc (List.replicate (Int.toNat (0 : Int)) { y := (0 : Int), n := (0 : Int) }) ++ List.map Idd.enc (List.getD tb (Int.toNat j * (1 : Nat)) default)) = AV.sl Mode.own 30 (some (Int.toNat (↑(List.length (List.map Idd.enc (List.getD tb (Int.toNat j * (1 : Nat)) default))) : Int))) (List.map Idd.enc (List.replicate (Int.toNat (0 : Int)) { y := (0 : Int), n := (0 : Int) } ++ List.getD tb (Int.toNat j * (1 : Nat)) default))) (g9 : decide ((0 : Nat) = (0 : Nat) ∧ Int.toNat j * (1 : Nat) < List.length (List.map SH tc)) = true) (g10 : List.getD (List.map SH tc) (Int.toNat j * (1 : Nat)) AV.bad = SH (List.getD tc (Int.toNat j * (1 : Nat)) default)) (g11 : ((if List.replicate (Int.toNat (0 : Int)) { y := (0 : Int), n := (0 : Int) } ++ List.getD tb (Int.toNat j * (1 : Nat)) default = List.getD tc (Int.toNat j * (1 : Nat)) default ∧ Int.toNat (↑(List.length (List.map Idd.enc (List.getD tb (Int.toNat j * (1 : Nat)) default))) : Int) = List.length (List.replicate (Int.toNat (0 : Int)) { y := (0 : Int), n := (0 : Int) } ++ List.getD tb (Int.toNat j * (1 : Nat)) default) then (1 : Int) else (0 : Int)) == (0 : Int)) = false) : Tri Try.prog (cxN 104 0) (loopBody Try.f13 0) ([(5, .box y5), (7, .box (tb.map SH)), (8, .box (tc.map SH)), (10, bb e), (11, it j)] ) (Ex.normal) ([(5, AV.box y5), (7, AV.box (List.map SH tb)), (8, AV.box (List.map SH tc)), (10, bb e), (11, it (IntKind.wrap IntKind.i64 (j + (1 : Int))))]) :=
  evA_ok (H := h13) (ans := [.c, .c, .b true, .c, .b true, .c, .b true, .r (SH (List.getD tb (Int.toNat j * (1 : Nat)) default)), .c, .c, .b true, .r (AV.sl Mode.own 30 (some (Int.toNat (↑(List.length (List.map Idd.enc (List.getD tb (Int.toNat j * (1 : Nat)) default))) : Int))) (List.map Idd.enc (List.replicate (Int.toNat (0 : Int)) { y := (0 : Int), n := (0 : Int) }))), .c, .b true, .c, .b true, .r (SH (List.getD tb (Int.toNat j * (1 : Nat)) default)), .c, .b true, .b true, .r (AV.sl Mode.own 30 (some (Int.toNat (↑(List.length (List.map Idd.enc (List.getD tb (Int.toNat j * (1 : Nat)) default))) : Int))) (List.map Idd.enc (List.replicate (Int.toNat (0 : Int)) { y := (0 : Int), n := (0 : Int) } ++ List.getD tb (Int.toNat j * (1 : Nat)) default))), .c, .b true, .c, .b true, .r (SH (List.getD tc (Int.toNat j * (1 : Nat)) default)), .c, .r (AV.sl Mode.any 30 (some (Int.toNat (↑(List.length (List.map Idd.enc (List.getD tb (Int.toNat j * (1 : Nat)) default))) : Int))) (List.map Idd.enc (List.replicate (Int.toNat (0 : Int)) { y := (0 : Int), n := (0 : Int) } ++ List.getD tb (Int.toNat j * (1 : Nat)) default))), .r (AV.sl Mode.any 30 none (List.map Idd.enc (List.getD tc (Int.toNat j * (1 : Nat)) default))), .r (it (if List.replicate (Int.toNat (0 : Int)) { y := (0 : Int), n := (0 : Int) } ++ List.getD tb (Int.toNat j * (1 : Nat)) default = List.getD tc (Int.toNat j * (1 : Nat)) default ∧ Int.toNat (↑(List.length (List.map Idd.enc (List.getD tb (Int.toNat j * (1 : Nat)) default))) : Int) = List.length (List.replicate (Int.toNat (0 : Int)) { y := (0 : Int), n := (0 : Int) } ++ List.getD tb (Int.toNat j * (1 : Nat)) default) then (1 : Int) else (0 : Int))), .c, .c, .c, .b false, .c, .c, .c]) (ps := [decide (j < (80 : Int)) = true, decide ((0 : Int) ≤ j ∧ j < (↑(80 : Nat) : Int) ∧ (0 : Nat) < (1 : Nat)) = true, decide ((0 : Nat) = (0 : Nat) ∧ Int.toNat j * (1 : Nat) < List.length (List.map SH tb)) = true, List.getD (List.map SH tb) (Int.toNat j * (1 : Nat)) AV.bad = SH (List.getD tb (Int.toNat j * (1 : Nat)) default), decide ((0 : Int) ≤ (0 : Int) ∧ (0 : Int) ≤ (↑(List.length (List.map Idd.enc (List.getD tb (Int.toNat j * (1 : Nat)) default))) : Int) ∧ (↑(List.length (List.map Idd.enc (List.getD tb (Int.toNat j * (1 : Nat)) default))) : Int) ≤ (4294967296 : Int) ∧ TInfo.bytes { zero := [Value.int IntKind.u8 (0 : Int), Value.int IntKind.i64 (0 : Int)], bytes := (16 : Nat), agg := true, kind := TK.struct [((0 : Nat), (1 : Nat)), ((1 : Nat), (1 : Nat))] } ≤ (4096 : Nat) ∧ (0 : Nat) < List.length (TInfo.zero { zero := [Value.int IntKind.u8 (0 : Int), Value.int IntKind.i64 (0 : Int)], bytes := (16 : Nat), agg := true, kind := TK.struct [((0 : Nat), (1 : Nat)), ((1 : Nat), (1 : Nat))] })) = true, AV.sl Mode.own 30 (some (Int.toNat (↑(List.length (List.map Idd.enc (List.getD tb (Int.toNat j * (1 : Nat)) default))) : Int))) [] = AV.sl Mode.own 30 (some (Int.toNat (↑(List.length (List.map Idd.enc (List.getD tb (Int.toNat j * (1 : Nat)) default))) : Int))) (List.map Idd.enc (List.replicate (Int.toNat (0 : Int)) { y := (0 : Int), n := (0 : Int) })), decide ((0 : Int) ≤ j ∧ j < (↑(80 : Nat) : Int) ∧ (0 : Nat) < (1 : Nat)) = true, decide ((0 : Nat) = (0 : Nat) ∧ Int.toNat j * (1 : Nat) < List.length (List.map SH tb)) = true, List.getD (List.map SH tb) (Int.toNat j * (1 : Nat)) AV.bad = SH (List.getD tb (Int.toNat j * (1 : Nat)) default), decide ((62 : Nat) = (62 : Nat) ∧ (List.all (List.map Idd.enc (List.getD tb (Int.toNat j * (1 : Nat)) default)) fun y => List.all (AV.ecells y) plainA) = true ∧ (List.all (List.map Idd.enc (List.getD tb (Int.toNat j * (1 : Nat)) default)) fun y => decide (List.length (AV.ecells y) = List.length (TInfo.zero { zero := [Value.int IntKind.u8 (0 : Int), Value.int IntKind.i64 (0 : Int)], bytes := (16 : Nat), agg := true, kind := TK.struct [((0 : Nat), (1 : Nat)), ((1 : Nat), (1 : Nat))] }))) = true) = true, decide (30 = (30 : TypeId) ∧ List.length (List.map Idd.enc (List.replicate (Int.toNat (0 : Int)) { y := (0 : Int), n := (0 : Int) })) + List.length (List.map Idd.enc (List.getD tb (Int.toNat j * (1 : Nat)) default)) ≤ (4294967296 : Nat) ∧ Oper.dst { dst := some (55 : Nat), op := Op.call { callee := Callee.builtin Builtin.append, args := #[Operand.tmp (51 : Nat), Operand.tmp (54 : Nat)], argTypes := #[(62 : Nat), (62 : Nat)] }, type := (62 : Nat), pos := "law.go:304", after := #[{ on := (4 : Nat), ground := Ground.data }, { on := (7 : Nat), ground := Ground.data }], guard := none } ≠ some (51 : Nat)) = true, AV.sl Mode.own 30 (if List.length (List.map Idd.enc (List.replicate (Int.toNat (0 : Int)) { y := (0 : Int), n := (0 : Int) })) + List.length (List.map Idd.enc (List.getD tb (Int.toNat j * (1 : Nat)) default)) ≤ Int.toNat (↑(List.length (List.map Idd.enc (List.getD tb (Int.toNat j * (1 : Nat)) default))) : Int) then some (Int.toNat (↑(List.length (List.map Idd.enc (List.getD tb (Int.toNat j * (1 : Nat)) default))) : Int)) else none) (List.map Idd.enc (List.replicate (Int.toNat (0 : Int)) { y := (0 : Int), n := (0 : Int) }) ++ List.map Idd.enc (List.getD tb (Int.toNat j * (1 : Nat)) default)) = AV.sl Mode.own 30 (some (Int.toNat (↑(List.length (List.map Idd.enc (List.getD tb (Int.toNat j * (1 : Nat)) default))) : Int))) (List.map Idd.enc (List.replicate (Int.toNat (0 : Int)) { y := (0 : Int), n := (0 : Int) } ++ List.getD tb (Int.toNat j * (1 : Nat)) default)), decide ((0 : Int) ≤ j ∧ j < (↑(80 : Nat) : Int) ∧ (0 : Nat) < (1 : Nat)) = true, decide ((0 : Nat) = (0 : Nat) ∧ Int.toNat j * (1 : Nat) < List.length (List.map SH tc)) = true, List.getD (List.map SH tc) (Int.toNat j * (1 : Nat)) AV.bad = SH (List.getD tc (Int.toNat j * (1 : Nat)) default), view (AV.sl Mode.own 30 (some (Int.toNat (↑(List.length (List.map Idd.enc (List.getD tb (Int.toNat j * (1 : Nat)) default))) : Int))) (List.map Idd.enc (List.replicate (Int.toNat (0 : Int)) { y := (0 : Int), n := (0 : Int) } ++ List.getD tb (Int.toNat j * (1 : Nat)) default))) = AV.sl Mode.any 30 (some (Int.toNat (↑(List.length (List.map Idd.enc (List.getD tb (Int.toNat j * (1 : Nat)) default))) : Int))) (List.map Idd.enc (List.replicate (Int.toNat (0 : Int)) { y := (0 : Int), n := (0 : Int) } ++ List.getD tb (Int.toNat j * (1 : Nat)) default)), view (AV.sl Mode.any 30 none (List.map Idd.enc (List.getD tc (Int.toNat j * (1 : Nat)) default))) = AV.sl Mode.any 30 none (List.map Idd.enc (List.getD tc (Int.toNat j * (1 : Nat)) default)), PureC Try.prog 41 [AV.sl Mode.any 30 (some (Int.toNat (↑(List.length (List.map Idd.enc (List.getD tb (Int.toNat j * (1 : Nat)) default))) : Int))) (List.map Idd.enc (List.replicate (Int.toNat (0 : Int)) { y := (0 : Int), n := (0 : Int) } ++ List.getD tb (Int.toNat j * (1 : Nat)) default)), AV.sl Mode.any 30 none (List.map Idd.enc (List.getD tc (Int.toNat j * (1 : Nat)) default))] (it (if List.replicate (Int.toNat (0 : Int)) { y := (0 : Int), n := (0 : Int) } ++ List.getD tb (Int.toNat j * (1 : Nat)) default = List.getD tc (Int.toNat j * (1 : Nat)) default ∧ Int.toNat (↑(List.length (List.map Idd.enc (List.getD tb (Int.toNat j * (1 : Nat)) default))) : Int) = List.length (List.replicate (Int.toNat (0 : Int)) { y := (0 : Int), n := (0 : Int) } ++ List.getD tb (Int.toNat j * (1 : Nat)) default) then (1 : Int) else (0 : Int))), ((if List.replicate (Int.toNat (0 : Int)) { y := (0 : Int), n := (0 : Int) } ++ List.getD tb (Int.toNat j * (1 : Nat)) default = List.getD tc (Int.toNat j * (1 : Nat)) default ∧ Int.toNat (↑(List.length (List.map Idd.enc (List.getD tb (Int.toNat j * (1 : Nat)) default))) : Int) = List.length (List.replicate (Int.toNat (0 : Int)) { y := (0 : Int), n := (0 : Int) } ++ List.getD tb (Int.toNat j * (1 : Nat)) default) then (1 : Int) else (0 : Int)) == (0 : Int)) = false]) (ans' := []) (base 104 0) cxA_K.1 cxA_K.2 _ (by kernel_rfl)  (allp g0 (allp g1 (allp g2 (allp g3 (allp g4 (allp g5 (allp g1 (allp g2 (allp g3 (allp g6 (allp g7 (allp g8 (allp g1 (allp g9 (allp g10 (allp (by first | exact view_ps _ _ _ | exact view_u8 _ _ _ | rfl | exact view_yn _ _ _ _ _ _ _ | exact view_id _ _ _ | exact view_stk _ _ _ | exact view_beds _ _ _ _ _ _ | exact view_pt _ _ _) (allp (by first | exact view_ps _ _ _ | exact view_u8 _ _ _ | rfl | exact view_yn _ _ _ _ _ _ _ | exact view_id _ _ _ | exact view_stk _ _ _ | exact view_beds _ _ _ _ _ _ | exact view_pt _ _ _) (allp (by apply s41_c <;> (first | assumption | rfl | (simp at * <;> omega))) (allp g11 allp_nil)))))))))))))))))))
theorem sma_2 (y5 : List AV) (tb tc : List (List Idd)) (e : Bool) (j : Int) (hl : (List.getD tb (Int.toNat j * 1) default).length < 2 ^ 62) (g0 : decide (j < (80 : Int)) = false) : Tri Try.prog (cxN 104 0) (loopBody Try.f13 0) ([(5, .box y5), (7, .box (tb.map SH)), (8, .box (tc.map SH)), (10, bb e), (11, it j)] ) (Ex.exit 0) ([(5, AV.box y5), (7, AV.box (List.map SH tb)), (8, AV.box (List.map SH tc)), (10, bb e), (11, it j), (44, bb (decide (j < (80 : Int))))]) :=
  evA_ok (H := h13) (ans := [.c, .c, .b false]) (ps := [decide (j < (80 : Int)) = false]) (ans' := []) (base 104 0) cxA_K.1 cxA_K.2 _ (by kernel_rfl)  (allp g0 allp_nil)
theorem sm13_0 (g h : Nat → List Idd) (X Y Z W : List (List Idd)) (y5 : List AV) (e : Bool) (hg : BdOk g X Y) (hh : BdOk h Z W) (g0 : AV.agg (bedS g) = AV.agg (bedS g)) (g1 : AV.agg [AV.sl Mode.fresh 62 (some (List.length X)) (List.map (mapE (remode shareM (10 : Nat))) (List.map FN X)), AV.sl Mode.fresh 62 (some (List.length Y)) (List.map (mapE (remode shareM (10 : Nat))) (List.map FN Y))] = AV.agg [AV.sl Mode.fresh 62 (some (List.length X)) (List.map FN X), AV.sl Mode.fresh 62 (some (List.length Y)) (List.map FN Y)]) (g2 : AV.agg (bedS h) = AV.agg (bedS h)) (g3 : AV.agg [AV.sl Mode.fresh 62 (some (List.length Z)) (List.map (mapE (remode shareM (10 : Nat))) (List.map FN Z)), AV.sl Mode.fresh 62 (some (List.length W)) (List.map (mapE (remode shareM (10 : Nat))) (List.map FN W))] = AV.agg [AV.sl Mode.fresh 62 (some (List.length Z)) (List.map FN Z), AV.sl Mode.fresh 62 (some (List.length W)) (List.map FN W)]) : Tri Try.prog (cxN 104 0) (regAt Try.f13 13) ([(5, .box y5), (7, .box (bedS g)), (8, .box (bedS h)), (10, bb e)] ) (Ex.normal) ([(5, AV.box y5), (10, bb e), (12, AV.box [AV.sl Mode.fresh 62 (some (List.length X)) (List.map FN X), AV.sl Mode.fresh 62 (some (List.length Y)) (List.map FN Y)]), (13, AV.box [AV.sl Mode.fresh 62 (some (List.length Z)) (List.map FN Z), AV.sl Mode.fresh 62 (some (List.length W)) (List.map FN W)])]) :=
  evA_ok (H := h13) (ans := [.r (AV.agg (bedS g)), .r (AV.agg [AV.sl Mode.fresh 62 (some (List.length X)) (List.map FN X), AV.sl Mode.fresh 62 (some (List.length Y)) (List.map FN Y)]), .c, .r (AV.agg [AV.sl Mode.fresh 62 (some (List.length X)) (List.map FN X), AV.sl Mode.fresh 62 (some (List.length Y)) (List.map FN Y)]), .r (AV.agg (bedS h)), .r (AV.agg [AV.sl Mode.fresh 62 (some (List.length Z)) (List.map FN Z), AV.sl Mode.fresh 62 (some (List.length W)) (List.map FN W)]), .c, .r (AV.agg [AV.sl Mode.fresh 62 (some (List.length Z)) (List.map FN Z), AV.sl Mode.fresh 62 (some (List.length W)) (List.map FN W)]), .c, .c, .c, .c, .c, .c]) (ps := [AV.agg (bedS g) = AV.agg (bedS g), PureC Try.prog 30 [view (AV.agg (bedS g))] (AV.agg [AV.sl Mode.fresh 62 (some (List.length X)) (List.map FN X), AV.sl Mode.fresh 62 (some (List.length Y)) (List.map FN Y)]), AV.agg [AV.sl Mode.fresh 62 (some (List.length X)) (List.map (mapE (remode shareM (10 : Nat))) (List.map FN X)), AV.sl Mode.fresh 62 (some (List.length Y)) (List.map (mapE (remode shareM (10 : Nat))) (List.map FN Y))] = AV.agg [AV.sl Mode.fresh 62 (some (List.length X)) (List.map FN X), AV.sl Mode.fresh 62 (some (List.length Y)) (List.map FN Y)], AV.agg (bedS h) = AV.agg (bedS h), PureC Try.prog 30 [view (AV.agg (bedS h))] (AV.agg [AV.sl Mode.fresh 62 (some (List.length Z)) (List.map FN Z), AV.sl Mode.fresh 62 (some (List.length W)) (List.map FN W)]), AV.agg [AV.sl Mode.fresh 62 (some (List.length Z)) (List.map (mapE (remode shareM (10 : Nat))) (List.map FN Z)), AV.sl Mode.fresh 62 (some (List.length W)) (List.map (mapE (remode shareM (10 : Nat))) (List.map FN W))] = AV.agg [AV.sl Mode.fresh 62 (some (List.length Z)) (List.map FN Z), AV.sl Mode.fresh 62 (some (List.length W)) (List.map FN W)]]) (ans' := []) (base 104 0) cxA_K.1 cxA_K.2 _ (by kernel_rfl)  (allp g0 (allp (by (first | rw [view_bed80F, view_frN] | rw [view_bed80F, view_beds] | rw [view_bedS, view_frN] | rw [view_bedS, view_frW] | rw [view_bedS, view_beds] | rw [view_bed80F] | rw [view_bedS]); apply bdok <;> (first | assumption | rfl | (simp at * <;> omega))) (allp g1 (allp g2 (allp (by (first | rw [view_bed80F, view_frN] | rw [view_bed80F, view_beds] | rw [view_bedS, view_frN] | rw [view_bedS, view_frW] | rw [view_bedS, view_beds] | rw [view_bed80F] | rw [view_bedS]); apply bdok <;> (first | assumption | rfl | (simp at * <;> omega))) (allp g3 allp_nil))))))
theorem sm14_0 (y5 y12 y13 : List AV) (e : Bool) : Tri Try.prog (cxN 104 0) (regAt Try.f13 14) ([(5, .box y5), (10, bb e), (12, .box y12), (13, .box y13)] ) (Ex.normal) ([(5, AV.box y5), (10, bb e), (12, AV.box y12), (13, AV.box y13), (14, it 0)]) :=
  evA_ok (H := h13) (ans := [.c]) (ps := []) (ans' := []) (base 104 0) cxA_K.1 cxA_K.2 _ (by kernel_rfl)  allp_nil
theorem sm15_0 (y12 y13 : List AV) (e : Bool) (m0 m1 k : Int) : Tri Try.prog (cxN 104 0) (regAt Try.f13 15) ([(5, .box [ub m0, ub m1]), (10, bb e), (12, .box y12), (13, .box y13), (14, it k)] ) (Ex.normal) ([(5, AV.box [ub m0, ub m1]), (10, bb e), (12, AV.box y12), (13, AV.box y13), (14, it k), (70, bb (decide (k < IntKind.wrap IntKind.i64 (Int.tmod m0 (5 : Int)))))]) :=
  evA_ok (H := h13) (ans := [.c, .c, .c, .c, .c, .c, .c, .c, .c]) (ps := []) (ans' := []) (base 104 0) cxA_K.1 cxA_K.2 _ (by kernel_rfl)  allp_nil
theorem sm16_0 (y5 y12 y13 : List AV) (e : Bool) (k : Int) : Tri Try.prog (cxN 104 0) (regAt Try.f13 16) ([(5, .box y5), (10, bb e), (12, .box y12), (13, .box y13), (14, it k)] ) (Ex.normal) ([(5, AV.box y5), (10, bb e), (12, AV.box y12), (13, AV.box y13), (14, it (IntKind.wrap IntKind.i64 (k + (1 : Int))))]) :=
  evA_ok (H := h13) (ans := [.c, .c, .c]) (ps := []) (ans' := []) (base 104 0) cxA_K.1 cxA_K.2 _ (by kernel_rfl)  allp_nil
theorem sm17a_0 (y5 y13 : List AV) (c : Nat) (S : List Stk) (z : AV) (e : Bool) (k : Int) (g0 : decide ((62 : TypeId) = (62 : TypeId) ∧ c < List.length (List.map Stk.enc S) + (1 : Nat) ∧ List.length (List.map Stk.enc S) + (1 : Nat) ≤ (4294967296 : Nat)) = true) : Tri Try.prog (cxN 104 0) (regAt Try.f13 17) ([(5, .box y5), (10, bb e), (12, .box [bsl (some c) S, z]), (13, .box y13), (14, it k)] ) (Ex.normal) ([(5, AV.box y5), (10, bb e), (12, AV.box [AV.sl Mode.own 62 none (List.map Stk.enc S ++ [AV.atom (Value.slice none (0 : Nat) (0 : Nat))]), z]), (13, AV.box y13), (14, it k)]) :=
  evA_ok (H := h13) (ans := [.c, .c, .c, .c, .c, .c, .b true, .c, .c, .c, .c, .c]) (ps := [decide ((62 : TypeId) = (62 : TypeId) ∧ c < List.length (List.map Stk.enc S) + (1 : Nat) ∧ List.length (List.map Stk.enc S) + (1 : Nat) ≤ (4294967296 : Nat)) = true]) (ans' := []) (base 104 0) cxA_K.1 cxA_K.2 _ (by kernel_rfl)  (allp g0 allp_nil)
theorem sm17b_0 (y5 y13 : List AV) (c : Option Nat) (S : List Stk) (z : AV) (e : Bool) (k : Int) (g0 : decide (List.length (List.map Stk.enc S) + (1 : Nat) ≤ (4294967296 : Nat)) = true) : Tri Try.prog (cxN 104 0) (regAt Try.f13 17) ([(5, .box y5), (10, bb e), (12, .box [.sl .own 62 c (S.map Stk.enc), z]), (13, .box y13), (14, it k)] ) (Ex.normal) ([(5, AV.box y5), (10, bb e), (12, AV.box [AV.sl Mode.own 62 (match c with | some c => if List.length (List.map Stk.enc S) + (1 : Nat) ≤ c then some c else none | none => none) (List.map Stk.enc S ++ [AV.atom (Value.slice none (0 : Nat) (0 : Nat))]), z]), (13, AV.box y13), (14, it k)]) :=
  evA_ok (H := h13) (ans := [.c, .c, .c, .c, .c, .c, .c, .c, .c, .c, .b true, .c, .c, .c, .c, .c]) (ps := [decide (List.length (List.map Stk.enc S) + (1 : Nat) ≤ (4294967296 : Nat)) = true]) (ans' := []) (base 104 0) cxA_K.1 cxA_K.2 _ (by kernel_rfl)  (allp g0 allp_nil)
theorem sm18a_0 (y5 y12 : List AV) (c : Nat) (S : List Stk) (z : AV) (e : Bool) (k : Int) (g0 : AV.sl Mode.own 30 (some 0) [] = AV.sl Mode.own 30 (some (0 : Nat)) (List.map Idd.enc [])) (g1 : AV.sl Mode.fresh 30 (some 0) [] = AV.sl Mode.fresh 30 (some (0 : Nat)) (List.map Idd.enc [])) (g2 : decide ((62 : TypeId) = (62 : TypeId) ∧ c < List.length (List.map Stk.enc S) + (1 : Nat) ∧ List.length (List.map Stk.enc S) + (1 : Nat) ≤ (4294967296 : Nat)) = true) : Tri Try.prog (cxN 104 0) (regAt Try.f13 18) ([(5, .box y5), (10, bb e), (12, .box y12), (13, .box [z, bsl (some c) S]), (14, it k)] ) (Ex.normal) ([(5, AV.box y5), (10, bb e), (12, AV.box y12), (13, AV.box [z, AV.sl Mode.own 62 none (List.map Stk.enc S ++ [AV.sl Mode.fresh 30 (some (0 : Nat)) (List.map Idd.enc [])])]), (14, it k)]) :=
  evA_ok (H := h13) (ans := [.c, .c, .c, .c, .r (AV.sl Mode.own 30 (some (0 : Nat)) (List.map Idd.enc [])), .r (AV.sl Mode.fresh 30 (some (0 : Nat)) (List.map Idd.enc [])), .c, .c, .b true, .c, .c, .c, .c, .c]) (ps := [AV.sl Mode.own 30 (some 0) [] = AV.sl Mode.own 30 (some (0 : Nat)) (List.map Idd.enc []), AV.sl Mode.fresh 30 (some 0) [] = AV.sl Mode.fresh 30 (some (0 : Nat)) (List.map Idd.enc []), decide ((62 : TypeId) = (62 : TypeId) ∧ c < List.length (List.map Stk.enc S) + (1 : Nat) ∧ List.length (List.map Stk.enc S) + (1 : Nat) ≤ (4294967296 : Nat)) = true]) (ans' := []) (base 104 0) cxA_K.1 cxA_K.2 _ (by kernel_rfl)  (allp g0 (allp g1 (allp g2 allp_nil)))
theorem sm18b_0 (y5 y12 : List AV) (S : List Stk) (z : AV) (e : Bool) (k : Int) (g0 : AV.sl Mode.own 30 (some 0) [] = AV.sl Mode.own 30 (some (0 : Nat)) (List.map Idd.enc [])) (g1 : AV.sl Mode.fresh 30 (some 0) [] = AV.sl Mode.fresh 30 (some (0 : Nat)) (List.map Idd.enc [])) (g2 : decide (List.length (List.map Stk.enc S) + (1 : Nat) ≤ (4294967296 : Nat)) = true) : Tri Try.prog (cxN 104 0) (regAt Try.f13 18) ([(5, .box y5), (10, bb e), (12, .box y12), (13, .box [z, .sl .own 62 none (S.map Stk.enc)]), (14, it k)] ) (Ex.normal) ([(5, AV.box y5), (10, bb e), (12, AV.box y12), (13, AV.box [z, AV.sl Mode.own 62 none (List.map Stk.enc S ++ [AV.sl Mode.fresh 30 (some (0 : Nat)) (List.map Idd.enc [])])]), (14, it k)]) :=
  evA_ok (H := h13) (ans := [.c, .c, .c, .c, .r (AV.sl Mode.own 30 (some (0 : Nat)) (List.map Idd.enc [])), .r (AV.sl Mode.fresh 30 (some (0 : Nat)) (List.map Idd.enc [])), .c, .c, .c, .c, .c, .c, .b true, .c, .c, .c, .c, .c]) (ps := [AV.sl Mode.own 30 (some 0) [] = AV.sl Mode.own 30 (some (0 : Nat)) (List.map Idd.enc []), AV.sl Mode.fresh 30 (some 0) [] = AV.sl Mode.fresh 30 (some (0 : Nat)) (List.map Idd.enc []), decide (List.length (List.map Stk.enc S) + (1 : Nat) ≤ (4294967296 : Nat)) = true]) (ans' := []) (base 104 0) cxA_K.1 cxA_K.2 _ (by kernel_rfl)  (allp g0 (allp g1 (allp g2 allp_nil)))
theorem sm19_0 (F B G C : List Stk) (e : Bool) (h1 : SmA F B G C e) (h2 : SmA G C F B e) (h3 : SmA F B F B true) (g0 : (e == e) = true) : Tri Try.prog (cxN 104 0) (regAt Try.f13 19) ([(10, bb e), (12, .box [bsl none F, bsl none B]), (13, .box [bsl none G, bsl none C])] ) (Ex.normal) ([(6, bb true)]) :=
  evA_ok (H := h13) (ans := [.c, .c, .r (bb e), .c, .c, .c, .c, .c, .b true, .c, .b true, .c, .b true, .r (bb e), .c, .c, .b true, .c, .b true, .c, .b true, .c, .c, .b true, .c, .b true, .c, .b true, .r (bb true), .c, .c, .b true, .c, .c, .c, .r (bb true), .c, .c, .c, .c, .c]) (ps := [PureC Try.prog 39 [view (AV.agg [bsl none F, bsl none B]), view (AV.agg [bsl none G, bsl none C])] (bb e), (e == e) = true, (e == e) = true, (e == e) = true, PureC Try.prog 39 [view (AV.agg [bsl none G, bsl none C]), view (AV.agg [bsl none F, bsl none B])] (bb e), (e == e) = true, (e == e) = true, (e == e) = true, (e == e) = true, (e == e) = true, (e == e) = true, PureC Try.prog 39 [view (AV.agg [bsl none F, bsl none B]), view (AV.agg [bsl none F, bsl none B])] (bb true), (e == e) = true, PureC Try.prog 37 [] (bb true)]) (ans' := []) (base 104 0) cxA_K.1 cxA_K.2 _ (by kernel_rfl)  (allp (by (first | rw [view_frW, view_frN] | rw [view_beds, view_beds] | rw [view_yn] | rw [view_two] | rw [view_twoI] | rw [view_beds] | rw [view_frW] | rw [view_frN] | rw [view_twoF] | skip); apply sma <;> (first | assumption | rfl | (simp at * <;> omega))) (allp g0 (allp g0 (allp g0 (allp (by (first | rw [view_frW, view_frN] | rw [view_beds, view_beds] | rw [view_yn] | rw [view_two] | rw [view_twoI] | rw [view_beds] | rw [view_frW] | rw [view_frN] | rw [view_twoF] | skip); apply sma <;> (first | assumption | rfl | (simp at * <;> omega))) (allp g0 (allp g0 (allp g0 (allp g0 (allp g0 (allp g0 (allp (by (first | rw [view_frW, view_frN] | rw [view_beds, view_beds] | rw [view_yn] | rw [view_two] | rw [view_twoI] | rw [view_beds] | rw [view_frW] | rw [view_frN] | rw [view_twoF] | skip); apply sma <;> (first | assumption | rfl | (simp at * <;> omega))) (allp g0 (allp (by apply lives <;> (first | assumption | rfl | (simp at * <;> omega))) allp_nil))))))))))))))
end Tst
end

section
open Go Go.Lf Go.Proofs
namespace Tst
theorem sm_body : Try.f13.body = some (.seq (regAt Try.f13 0) (.seq (regAt Try.f13 1) (.seq (.seq (regAt Try.f13 2) (.cond (.tmp 22) (.seq (regAt Try.f13 3) (.seq (regAt Try.f13 4) (.cond (.tmp 27) (.seq (regAt Try.f13 5) (regAt Try.f13 6)) .skip))) .skip)) (.seq (regAt Try.f13 7) (.seq (.seq (regAt Try.f13 8) (.block 0 (.loop (loopBody Try.f13 0)))) (.seq (regAt Try.f13 13) (.seq (.seq (regAt Try.f13 14) (.block 2 (.loop (loopBody Try.f13 1)))) (.seq (regAt Try.f13 19) .ret)))))))) := by kernel_rfl
abbrev qE (y5 : List AV) (T U : List (List Idd)) (e : Bool) : Env := [(5, .box y5), (7, .box (T.map SH)), (8, .box (U.map SH)), (10, bb e)]
section
variable (y5 : List AV) (T U : List (List Idd)) (hT : T.length = 80) (hU : U.length = 80) (hs : ∀ i, (T.getD i []).length ≤ 8)
include hT hU hs
theorem sma_step (e : Bool) {j : Nat} (hj : j < 80) : Tri Try.prog (cxN 104 0) (loopBody Try.f13 0) (qE y5 T U e ++ [(11, it j)]) .normal (qE y5 T U (e && decide (T.getD j [] = U.getD j [])) ++ [(11, it ((j + 1 : Nat) : Int))]) := by
  have u := up64 (k := j) (by omega)
  have hsj := hs j
  have b0 : decide ((j : Int) < (80 : Int)) = true := decide_eq_true (by omega)
  have b1 : decide ((0 : Int) ≤ (j : Int) ∧ (j : Int) < ((80 : Nat) : Int) ∧ (0 : Nat) < (1 : Nat)) = true := decide_eq_true (by omega)
  have b2 : decide (True ∧ j < (List.map SH T).length) = true := decide_eq_true ⟨trivial, by rw [List.length_map]; omega⟩
  have b3 : List.getD (List.map SH T) j AV.bad = SH (T.getD j []) := getD_SH (by omega)
  have b4 : decide (True ∧ j < (List.map SH U).length) = true := decide_eq_true ⟨trivial, by rw [List.length_map]; omega⟩
  have b5 : List.getD (List.map SH U) j AV.bad = SH (U.getD j []) := getD_SH (by omega)
  have hl : (List.getD T (Int.toNat (j : Int) * 1) default).length < 2 ^ 62 := by
    rw [Int.toNat_natCast, Nat.mul_one]
    show (T.getD j []).length < _
    omega
  by_cases h : T.getD j [] = U.getD j []
  · rw [decide_eq_true h, Bool.and_true]
    have q := sma_1 y5 T U e j hl
    simp only [u, Int.toNat_natCast, Nat.mul_one] at q
    refine q b0 b1 b2 b3 (decide_eq_true ?_) rfl (decide_eq_true (all_enc _)) (decide_eq_true ?_) (cap_eq (T.getD j [])) b4 b5 ?_
    · rw [List.length_map]; exact ⟨by omega, by omega, by show ((T.getD j []).length : Int) ≤ _; omega, by decide, by decide⟩
    · exact ⟨trivial, by show 0 + ((T.getD j []).map Idd.enc).length ≤ _; rw [List.length_map]; omega, by simp⟩
    · rw [if_pos ⟨h, by rw [List.length_map]; rfl⟩]; rfl
  · rw [decide_eq_false h, Bool.and_false]
    have q := sma_0 y5 T U e j hl
    simp only [u, Int.toNat_natCast, Nat.mul_one] at q
    refine q b0 b1 b2 b3 (decide_eq_true ?_) rfl (decide_eq_true (all_enc _)) (decide_eq_true ?_) (cap_eq (T.getD j [])) b4 b5 ?_
    · rw [List.length_map]; exact ⟨by omega, by omega, by show ((T.getD j []).length : Int) ≤ _; omega, by decide, by decide⟩
    · exact ⟨trivial, by show 0 + ((T.getD j []).map Idd.enc).length ≤ _; rw [List.length_map]; omega, by simp⟩
    · rw [if_neg fun c => h c.1]; rfl
open Classical in
theorem sma_rnd : ∀ (n j : Nat) (e : Bool), j + n = 80 → Rnd Try.prog (cxN 104 0) (loopBody Try.f13 0) (n + 1) (qE y5 T U e ++ [(11, it j)]) (.exit 0) (qE y5 T U (e && decide (∀ i, j ≤ i → i < 80 → T.getD i [] = U.getD i []))) := by
  intro n
  induction n with
  | zero =>
    intro j e hj
    rw [decide_eq_true (fun i h1 h2 => by omega), Bool.and_true]
    exact Rnd.exit (Tri.after [(5, .keep), (7, .keep), (8, .keep), (10, .keep)] (sma_2 y5 T U e j (by
      rw [Int.toNat_natCast, Nat.mul_one]
      have := hs j
      show (T.getD j []).length < _
      omega) (decide_eq_false (by omega)))) (by simp)
  | succ n ih =>
    intro j e hj
    have := Rnd.step (sma_step y5 T U hT hU hs e (j := j) (by omega)) (ih (j + 1) (e && decide (T.getD j [] = U.getD j [])) (by omega))
    rw [Bool.and_assoc] at this
    have ee : (decide (T.getD j [] = U.getD j []) && decide (∀ i, j + 1 ≤ i → i < 80 → T.getD i [] = U.getD i [])) = decide (∀ i, j ≤ i → i < 80 → T.getD i [] = U.getD i []) := by
      refine Bool.eq_iff_iff.2 ?_
      rw [Bool.and_eq_true, decide_eq_true_eq, decide_eq_true_eq, decide_eq_true_eq]
      exact ⟨fun h i h1 h2 => by by_cases c : i = j; · subst c; exact h.1
                                 · exact h.2 i (by omega) h2, fun h => ⟨h j (Nat.le_refl _) (by omega), fun i h1 h2 => h i (by omega) h2⟩⟩
    rwa [ee] at this
omit hs in
theorem eq_tab : (∀ i, 0 ≤ i → i < 80 → T.getD i [] = U.getD i []) ↔ T = U := by
  constructor
  · intro h
    apply List.ext_getElem (by omega)
    intro i h1 h2
    have := h i (Nat.zero_le _) (by omega)
    rw [List.getD_eq_getElem?_getD, List.getElem?_eq_getElem h1, List.getD_eq_getElem?_getD, List.getElem?_eq_getElem h2] at this
    exact this
  · rintro rfl i _ _; rfl
end
def em : Stk := ⟨some 0, []⟩
def gr (c : Nat) (S : List Stk) : Nat → AV
  | 0 => bsl (some c) S
  | k + 1 => .sl .own 62 none ((S ++ List.replicate (k + 1) em).map Stk.enc)
theorem le_app {S : List Stk} {c : Option Nat} {y : AV} (hy : Le Try.prog y em.enc) (h1 : y.ecells = [y]) : Le Try.prog (.sl .own 62 c (S.map Stk.enc ++ [y])) (.sl .own 62 none ((S ++ [em]).map Stk.enc)) := by
  have ce : ∀ x ∈ S.map Stk.enc ++ [y], x.ecells = [x] := fun x hx => by
    rcases List.mem_append.1 hx with hx | hx
    · obtain ⟨s, _, rfl⟩ := List.mem_map.1 hx; rfl
    · rw [List.mem_singleton.1 hx, h1]
  have ce2 : ∀ x ∈ (S ++ [em]).map Stk.enc, x.ecells = [x] := fun x hx => by obtain ⟨s, _, rfl⟩ := List.mem_map.1 hx; rfl
  have f : F2 (Le Try.prog) (S.map Stk.enc ++ [y]) ((S ++ [em]).map Stk.enc) := by
    rw [List.map_append]
    have ap : ∀ {a b c d : List AV}, F2 (Le Try.prog) a b → F2 (Le Try.prog) c d → F2 (Le Try.prog) (a ++ c) (b ++ d) := by
      intro a b c d h1 h2
      induction h1 with
      | nil => exact h2
      | cons h _ ih => exact .cons h ih
    exact ap (F2.rfl' _) (.cons hy .nil)
  exact fun B0 w S' n v O h => Le.cap B0 w S' n v O (Le.ownPt ce ce2 f B0 w S' n v O h)
theorem le_nilE : Le Try.prog niln em.enc := Le.nil 30
theorem le_frEm : Le Try.prog (.sl .fresh 30 (some 0) (List.map Idd.enc [])) em.enc := Le.fwE []
theorem rep_snoc (S : List Stk) (k : Nat) : S ++ List.replicate (k + 1) em = (S ++ List.replicate k em) ++ [em] := by rw [List.replicate_succ', List.append_assoc]
section
variable (y5 : List AV) (c c' : Nat) (S R : List Stk) (z z' : AV) (e : Bool) (hc : c = S.length) (hc' : c' = R.length) (hS : S.length ≤ 1000) (hR : R.length ≤ 1000)
include hc hS in
theorem gr17 (y13 : List AV) (k : Nat) (hk : k ≤ 4) (i : Int) : Tri Try.prog (cxN 104 0) (regAt Try.f13 17) [(5, .box y5), (10, bb e), (12, .box [gr c S k, z]), (13, .box y13), (14, it i)] .normal [(5, .box y5), (10, bb e), (12, .box [gr c S (k + 1), z]), (13, .box y13), (14, it i)] := by
  cases k with
  | zero =>
    refine Tri.less (sm17a_0 y5 y13 c S z e i (decide_eq_true ⟨rfl, by rw [List.length_map]; omega, by rw [List.length_map]; omega⟩)) ?_
    exact .cons ⟨rfl, rfl, Le.refl _⟩ (.cons ⟨rfl, rfl, Le.refl _⟩ (.cons ⟨rfl, rfl, Le.box (.cons (le_app le_nilE rfl) (.cons (Le.refl _) .nil))⟩ (.cons ⟨rfl, rfl, Le.refl _⟩ (.cons ⟨rfl, rfl, Le.refl _⟩ .nil))))
  | succ k =>
    refine Tri.less (sm17b_0 y5 y13 none (S ++ List.replicate (k + 1) em) z e i (decide_eq_true (by rw [List.length_map, List.length_append, List.length_replicate]; omega))) ?_
    show EnvLe Try.prog _ [(5, .box y5), (10, bb e), (12, .box [.sl .own 62 none ((S ++ List.replicate (k + 1 + 1) em).map Stk.enc), z]), (13, .box y13), (14, it i)]
    rw [rep_snoc S (k + 1)]
    exact .cons ⟨rfl, rfl, Le.refl _⟩ (.cons ⟨rfl, rfl, Le.refl _⟩ (.cons ⟨rfl, rfl, Le.box (.cons (le_app le_nilE rfl) (.cons (Le.refl _) .nil))⟩ (.cons ⟨rfl, rfl, Le.refl _⟩ (.cons ⟨rfl, rfl, Le.refl _⟩ .nil))))
include hc' hR in
theorem gr18 (y12 : List AV) (k : Nat) (hk : k ≤ 4) (i : Int) : Tri Try.prog (cxN 104 0) (regAt Try.f13 18) [(5, .box y5), (10, bb e), (12, .box y12), (13, .box [z', gr c' R k]), (14, it i)] .normal [(5, .box y5), (10, bb e), (12, .box y12), (13, .box [z', gr c' R (k + 1)]), (14, it i)] := by
  cases k with
  | zero =>
    refine Tri.less (sm18a_0 y5 y12 c' R z' e i rfl rfl (decide_eq_true ⟨rfl, by rw [List.length_map]; omega, by rw [List.length_map]; omega⟩)) ?_
    exact .cons ⟨rfl, rfl, Le.refl _⟩ (.cons ⟨rfl, rfl, Le.refl _⟩ (.cons ⟨rfl, rfl, Le.refl _⟩ (.cons ⟨rfl, rfl, Le.box (.cons (Le.refl _) (.cons (le_app le_frEm rfl) .nil))⟩ (.cons ⟨rfl, rfl, Le.refl _⟩ .nil))))
  | succ k =>
    refine Tri.less (sm18b_0 y5 y12 (R ++ List.replicate (k + 1) em) z' e i rfl rfl (decide_eq_true (by rw [List.length_map, List.length_append, List.length_replicate]; omega))) ?_
    show EnvLe Try.prog _ [(5, .box y5), (10, bb e), (12, .box y12), (13, .box [z', .sl .own 62 none ((R ++ List.replicate (k + 1 + 1) em).map Stk.enc)]), (14, it i)]
    rw [rep_snoc R (k + 1)]
    exact .cons ⟨rfl, rfl, Le.refl _⟩ (.cons ⟨rfl, rfl, Le.refl _⟩ (.cons ⟨rfl, rfl, Le.refl _⟩ (.cons ⟨rfl, rfl, Le.box (.cons (Le.refl _) (.cons (le_app le_frEm rfl) .nil))⟩ (.cons ⟨rfl, rfl, Le.refl _⟩ .nil))))
end
end Tst
end

section
open Go Go.Lf Go.Proofs
namespace Tst
theorem sm_l1 : loopBody Try.f13 1 = .seq (.seq (regAt Try.f13 15) (.cond (.tmp 70) .skip (.exit 2))) (.seq (.block 3 (.seq (regAt Try.f13 17) (regAt Try.f13 18))) (regAt Try.f13 16)) := by kernel_rfl
section
variable (c c' : Nat) (S R : List Stk) (z z' : AV) (e : Bool) (hc : c = S.length) (hc' : c' = R.length) (hS : S.length ≤ 1000) (hR : R.length ≤ 1000)
include hc hc' hS hR
abbrev grE (c c' : Nat) (S R : List Stk) (z z' : AV) (e : Bool) (k : Nat) : Env := [(10, bb e), (12, .box [gr c S k, z]), (13, .box [z', gr c' R k])]
theorem gr_rnd (m0 m1 : Int) {n : Nat} (hn : IntKind.wrap IntKind.i64 (Int.tmod m0 (5 : Int)) = (n : Int)) (h5 : n ≤ 4) : ∀ (f k : Nat), k + f = n → Rnd Try.prog (cxN 104 0) (loopBody Try.f13 1) (f + 1) ([(5, .box [ub m0, ub m1])] ++ grE c c' S R z z' e k ++ [(14, it k)]) (.exit 2) (grE c c' S R z z' e n) := by
  intro f
  induction f with
  | zero =>
    intro k hk
    have hk : k = n := by omega
    subst hk
    refine Rnd.exit (ex := .exit 2) ?_ (by simp)
    rw [sm_l1]
    refine Tri.after [(10, .keep), (12, .keep), (13, .keep)] (.seqX (.seq (sm15_0 [gr c S k, z] [z', gr c' R k] e m0 m1 k) (.cond (b := false) ?_ .exit)) (by simp))
    show some (AV.atom (Value.bool (decide ((k : Int) < IntKind.wrap IntKind.i64 (Int.tmod m0 (5 : Int)))))) = _
    rw [hn, decide_eq_false (by omega)]
  | succ f ih =>
    intro k hk
    have u := up64 (k := k) (by omega)
    refine Rnd.step ?_ (ih (k + 1) (by omega))
    rw [sm_l1]
    refine .seq (.seq (sm15_0 [gr c S k, z] [z', gr c' R k] e m0 m1 k) (.cond (b := true) ?_ .skip)) ?_
    · show some (AV.atom (Value.bool (decide ((k : Int) < IntKind.wrap IntKind.i64 (Int.tmod m0 (5 : Int)))))) = _
      rw [hn, decide_eq_true (by omega)]
    refine Tri.weak [(5, .keep), (10, .keep), (12, .keep), (13, .keep), (14, .keep)] ?_
    have q := sm16_0 [ub m0, ub m1] [gr c S (k + 1), z] [z', gr c' R (k + 1)] e k
    rw [u] at q
    exact .seq (.block (ex := .normal) (.seq (gr17 [ub m0, ub m1] c S z e hc hS [z', gr c' R k] k (by omega) k) (gr18 [ub m0, ub m1] c' R z' e hc' hR [gr c S (k + 1), z] k (by omega) k)) (.inr ⟨by simp, rfl⟩)) q
end
theorem map_re62 (k : Nat) (L : List Stk) : (L.map Stk.enc).map (mapE (remode shareM (k + 2))) = L.map Stk.enc := by
  rw [List.map_map]
  refine List.map_congr_left fun s _ => ?_
  show AV.sl .any 30 s.c ((s.l.map Idd.enc).map (mapE (remode shareM (k + 1)))) = _
  rw [map_re]; rfl
theorem share_bsl (c : Option Nat) (L : List Stk) : share (bsl c L) = bsl c L := by
  show AV.sl .any 62 c ((L.map Stk.enc).map (mapE (remode shareM 11))) = _
  rw [map_re62 9]
theorem le_gr (c : Nat) (S : List Stk) (k : Nat) : Le Try.prog (share (gr c S k)) (bsl none (S ++ List.replicate k em)) := by
  cases k with
  | zero =>
    show Le Try.prog (share (bsl (some c) S)) _
    rw [share_bsl, List.replicate_zero, List.append_nil]
    exact Le.cap
  | succ k =>
    show Le Try.prog (AV.sl .fresh 62 none (((S ++ List.replicate (k + 1) em).map Stk.enc).map (mapE (remode shareM 11)))) _
    rw [map_re62 9]
    exact Le.toAny (by simp) rfl (fun _ h => h) (F2.rfl' _)
theorem stackOf_em (S : List Stk) (k j : Nat) : stackOf (S ++ List.replicate k em) (j : Int) = stackOf S (j : Int) := by
  rw [stackOf_nat, stackOf_nat]
  by_cases h : j < S.length
  · rw [if_pos h, if_pos (by rw [List.length_append]; omega), List.getD_eq_getElem?_getD, List.getElem?_append_left h, ← List.getD_eq_getElem?_getD]
  · rw [if_neg h]
    split
    · rename_i h2
      rw [List.getD_eq_getElem?_getD, List.getElem?_append_right (by omega), List.getElem?_replicate]
      split <;> rfl
    · rfl
theorem sameB_iff (F G : List Stk) : sameB F G = true ↔ ∀ j : Nat, stackOf F (j : Int) = stackOf G (j : Int) := by
  unfold sameB sameAt
  rw [List.all_eq_true]
  constructor
  · intro h j
    by_cases hj : j < max F.length G.length
    · simpa using h j (List.mem_range.2 hj)
    · rw [stackOf_nat, stackOf_nat, if_neg (by omega), if_neg (by omega)]
  · intro h j _
    simpa using h j
theorem sameB_em (F G : List Stk) (k : Nat) : sameB (F ++ List.replicate k em) G = sameB F G := by
  refine Bool.eq_iff_iff.2 ?_
  rw [sameB_iff, sameB_iff]
  simp only [stackOf_em]
theorem sameB_em' (F G : List Stk) (k : Nat) : sameB G (F ++ List.replicate k em) = sameB G F := by
  refine Bool.eq_iff_iff.2 ?_
  rw [sameB_iff, sameB_iff]
  simp only [stackOf_em]
theorem em_len {F : List Stk} {n k : Nat} (h : ∀ s ∈ F, s.l.length ≤ n) : ∀ s ∈ F ++ List.replicate k em, s.l.length ≤ n := fun s hs => by
  rcases List.mem_append.1 hs with hs | hs
  · exact h s hs
  · rw [List.eq_of_mem_replicate hs]; exact Nat.zero_le _
theorem rep_len {F B : List Stk} {T : List (List Idd)} (h : Rep F B T) (hs : ∀ i, (T.getD i []).length ≤ 8) : ∀ s, s ∈ F ∨ s ∈ B → s.l.length ≤ 4294967296 := fun s hm => by
  obtain ⟨j, _, e⟩ := h.mem hm
  have := hs j
  rw [e]; omega
theorem sm_tab (T V : List (List Idd)) (hT : T.length = 80) (hV : V.length = 80) (hs : ∀ i, (T.getD i []).length ≤ 4) (hv : ∀ i, (V.getD i []).length ≤ 4) (m0 m1 : Int) (h0 : 0 ≤ m1) (h1 : m1 ≤ 255) :
    ∃ U : List (List Idd), U.length = 80 ∧ (∀ i, (U.getD i []).length ≤ 8) ∧ Tri Try.prog (cxN 104 0) (.seq (regAt Try.f13 2) (.cond (.tmp 22) (.seq (regAt Try.f13 3) (.seq (regAt Try.f13 4) (.cond (.tmp 27) (.seq (regAt Try.f13 5) (regAt Try.f13 6)) .skip))) .skip))
      [(5, .box [ub m0, ub m1]), (7, .box (T.map SH)), (8, .box (V.map SH))] .normal [(5, .box [ub m0, ub m1]), (7, .box (T.map SH)), (8, .box (U.map SH))] := by
  have ks : ∀ {c : Code} {env env' : Env} {W : List (List Idd)}, keepE [(5, .keep), (7, .keep), (8, .keep)] env' = [(5, .box [ub m0, ub m1]), (7, .box (T.map SH)), (8, .box (W.map SH))] → Tri Try.prog (cxN 104 0) c env .normal env' → Tri Try.prog (cxN 104 0) c env .normal [(5, .box [ub m0, ub m1]), (7, .box (T.map SH)), (8, .box (W.map SH))] := fun e h => by
    rw [← e]; exact Tri.after _ h
  obtain ⟨M, rfl⟩ := Int.eq_ofNat_of_zero_le h0
  by_cases p1 : (Int.tmod (M : Int) (2 : Int) == (1 : Int)) = true
  · by_cases p2 : (Int.tmod (M : Int) (4 : Int) == (3 : Int)) = true
    · have eI : Int.tmod (IntKind.wrap IntKind.i64 (IntKind.wrap IntKind.u8 (Int.tdiv (M : Int) (4 : Int)))) (80 : Int) = ((M / 4 % 80 : Nat) : Int) := by
        have e1 : Int.tdiv (M : Int) (4 : Int) = ((M / 4 : Nat) : Int) := by rw [Int.tdiv_eq_ediv_of_nonneg (by omega)]; omega
        rw [e1, wrap_u8 (by omega) (by omega), wrap_id' (by omega) (by omega), Int.tmod_eq_emod_of_nonneg (by omega)]; omega
      have hI : M / 4 % 80 < 80 := by omega
      generalize M / 4 % 80 = I at *
      refine ⟨T.set I ([] ++ T.getD I [] ++ [⟨6, 9⟩]), by rw [List.length_set, hT], fun j => ?_, ?_⟩
      · rw [getD_set _ _ _ _ (by omega)]
        split
        · have := hs I; rw [List.length_append, List.length_append, List.length_nil, List.length_singleton]; omega
        · have := hs j; omega
      · have lI := hs I
        refine .seq (sm2_0 (T.map SH) (V.map SH) m0 M) (.cond (b := true) (by show some (AV.atom (Value.bool (Int.tmod (M : Int) (2 : Int) == (1 : Int)))) = _; rw [p1]) ?_)
        refine Tri.weak [(5, .keep), (7, .keep), (8, .keep)] ?_
        show Tri Try.prog (cxN 104 0) (.seq _ _) [(5, .box [ub m0, ub M]), (7, .box (T.map SH)), (8, .box (V.map SH))] _ _
        rw [bedS_eq hT, bedS_eq hV]
        refine .seq (sm3_0 _ _ _ rfl) ?_
        rw [← bedS_eq hT]
        refine .seq (sm4_0 (T.map SH) (T.map SH) m0 M) (.cond (b := true) (by show some (AV.atom (Value.bool (Int.tmod (M : Int) (4 : Int) == (3 : Int)))) = _; rw [p2]) ?_)
        refine Tri.weak [(5, .keep), (7, .keep), (8, .keep)] ?_
        have q5 := sm5_0 (T.map SH) (T.map SH) m0 M h0
        rw [eI] at q5
        have q6 := sm6_0 T [ub m0, ub M] (T.map SH) I rfl (decide_eq_true (by omega)) (decide_eq_true ⟨rfl, by rw [List.length_map, Int.toNat_natCast]; omega⟩) (by simp only [Int.toNat_natCast, Nat.mul_one]; exact getD_SH (by omega))
        simp only [Int.toNat_natCast, Nat.mul_one] at q6
        have q7 := q6 (decide_eq_true (all_enc _)) (decide_eq_true ⟨trivial, by rw [List.length_map, List.length_map]; show 0 + (T.getD I []).length ≤ _; omega, by simp⟩) rfl rfl (decide_eq_true ⟨trivial, by rw [List.length_map, List.length_map]; show (T.getD I []).length + 1 ≤ _; omega, by simp⟩) (by rw [← List.map_append])
        have q8 := Tri.afterBox q7 (r := 8) rfl (topNo (by intro p hp; simp only [List.mem_cons, List.not_mem_nil, or_false] at hp; rcases hp with rfl | rfl | rfl <;> rfl) 8)
        rw [share_row] at q8
        have q9 := Tri.less (Tri.after [(5, .keep), (7, .keep), (8, .keep)] q8) (env2 := [(5, .box [ub m0, ub M]), (7, .box (T.map SH)), (8, .box ((T.set I ([] ++ T.getD I [] ++ [⟨6, 9⟩])).map SH))]) (.cons ⟨rfl, rfl, Le.refl _⟩ (.cons ⟨rfl, rfl, Le.refl _⟩ (.cons ⟨rfl, rfl, le_row _ (by omega) (le_fr30 _ _)⟩ .nil)))
        exact .seq q5 q9
    · refine ⟨T, hT, fun i => by have := hs i; omega, ?_⟩
      refine .seq (sm2_0 (T.map SH) (V.map SH) m0 M) (.cond (b := true) (by show some (AV.atom (Value.bool (Int.tmod (M : Int) (2 : Int) == (1 : Int)))) = _; rw [p1]) ?_)
      refine Tri.weak [(5, .keep), (7, .keep), (8, .keep)] ?_
      show Tri Try.prog (cxN 104 0) (.seq _ _) [(5, .box [ub m0, ub M]), (7, .box (T.map SH)), (8, .box (V.map SH))] _ _
      rw [bedS_eq hT, bedS_eq hV]
      refine .seq (sm3_0 _ _ _ rfl) ?_
      rw [← bedS_eq hT]
      exact ks rfl (.seq (sm4_0 (T.map SH) (T.map SH) m0 M) (.cond (b := false) (by show some (AV.atom (Value.bool (Int.tmod (M : Int) (4 : Int) == (3 : Int)))) = _; rw [show (Int.tmod (M : Int) (4 : Int) == (3 : Int)) = false by simpa using p2]) .skip))
  · refine ⟨V, hV, fun i => by have := hv i; omega, ?_⟩
    exact ks rfl (.seq (sm2_0 (T.map SH) (V.map SH) m0 M) (.cond (b := false) (by show some (AV.atom (Value.bool (Int.tmod (M : Int) (2 : Int) == (1 : Int)))) = _; rw [show (Int.tmod (M : Int) (2 : Int) == (1 : Int)) = false by simpa using p1]) .skip))
end Tst
end

section
open Go Go.Lf Go.Proofs
namespace Tst
section
variable {F B G C : List Stk} {T U : List (List Idd)} (h : Rep F B T) (h2 : Rep G C U) (hs : ∀ i, (T.getD i []).length ≤ 8) (hu : ∀ i, (U.getD i []).length ≤ 8) (k : Nat) (hk : k ≤ 4)
include h h2 hs hu hk
omit hu in
theorem sm_pq : SmA (F ++ List.replicate k em) B G (C ++ List.replicate k em) (decide (T = U)) := fun c1 c2 c3 c4 => by
  have hF := h.f
  have hB := h.b
  have hG := h2.f
  have hC := h2.b
  have := same_c c1 c2 c3 c4 (F ++ List.replicate k em) B G (C ++ List.replicate k em) (em_len fun s hs' => rep_len h hs s (.inl hs')) (fun s hs' => rep_len h hs s (.inr hs')) (by rw [List.length_append, List.length_replicate]; omega) (by rw [List.length_append, List.length_replicate]; omega)
  rwa [sameB_em, sameB_em', same_nat h h2] at this
omit hs in
theorem sm_qp : SmA G (C ++ List.replicate k em) (F ++ List.replicate k em) B (decide (T = U)) := fun c1 c2 c3 c4 => by
  have hF := h.f
  have hB := h.b
  have hG := h2.f
  have hC := h2.b
  have := same_c c1 c2 c3 c4 G (C ++ List.replicate k em) (F ++ List.replicate k em) B (fun s hs' => rep_len h2 hu s (.inl hs')) (em_len fun s hs' => rep_len h2 hu s (.inr hs')) (by rw [List.length_append, List.length_replicate]; omega) (by rw [List.length_append, List.length_replicate]; omega)
  rw [sameB_em, sameB_em', same_nat h2 h] at this
  rwa [show decide (T = U) = decide (U = T) from Bool.eq_iff_iff.2 (by simp [eq_comm])]
omit h2 hu in
theorem sm_pp : SmA (F ++ List.replicate k em) B (F ++ List.replicate k em) B true := fun c1 c2 c3 c4 => by
  have hF := h.f
  have hB := h.b
  have := same_c c1 c2 c3 c4 (F ++ List.replicate k em) B (F ++ List.replicate k em) B (em_len fun s hs' => rep_len h hs s (.inl hs')) (fun s hs' => rep_len h hs s (.inr hs')) (by rw [List.length_append, List.length_replicate]; omega) (by omega)
  rwa [sameB_em, sameB_em', same_nat h h, decide_eq_true rfl] at this
end
open Classical in
theorem law13_c (x y : List Pt) (hx : ∀ q ∈ x, 0 ≤ q.a ∧ 0 ≤ q.m) (hy : ∀ q ∈ y, 0 ≤ q.a ∧ 0 ≤ q.m) (m0 m1 : Int) (h0 : 0 ≤ m0 ∧ m0 ≤ 255) (h1 : 0 ≤ m1 ∧ m1 ≤ 255) : PureC Try.prog 13 [psl none x, psl none y, .agg [ub m0, ub m1]] (bb true) := by
  have hof : OfOk x fun i => (ofT x).getD i [] := of_c none x hx
  have hof2 : OfOk y fun i => (ofT y).getD i [] := of_c none y hy
  have hT : (ofT x).length = 80 := ofT_len x
  have hV : (ofT y).length = 80 := ofT_len y
  have hs4 := ofT_short x
  have hv4 := ofT_short y
  generalize ofT x = T at *
  generalize ofT y = V at *
  have hs : ∀ i, (T.getD i []).length ≤ 8 := fun i => Nat.le_trans (hs4 i) (by decide)
  obtain ⟨U, hU, hu, htab⟩ := sm_tab T V hT hV hs4 hv4 m0 m1 h1.1 h1.2
  obtain ⟨n, hn, hn4⟩ : ∃ n : Nat, IntKind.wrap IntKind.i64 (Int.tmod m0 (5 : Int)) = (n : Int) ∧ n ≤ 4 := by
    obtain ⟨N, rfl⟩ := Int.eq_ofNat_of_zero_le h0.1
    refine ⟨N % 5, ?_, by omega⟩
    rw [Int.tmod_eq_emod_of_nonneg (by omega), wrap_id' (by omega) (by omega)]; omega
  have hbd : BdOk (fun i => T.getD i []) (bedOfT T 0) (bedOfT T 40) := beds_c8 T hT hs
  have hbd2 : BdOk (fun i => U.getD i []) (bedOfT U 0) (bedOfT U 40) := beds_c8 U hU hu
  have hR : Rep (stkF (bedOfT T 0)) (stkF (bedOfT T 40)) T := rep_bed _ hT fun o => bedOfT_len _ o
  have hR2 : Rep (stkF (bedOfT U 0)) (stkF (bedOfT U 40)) U := rep_bed _ hU fun o => bedOfT_len _ o
  have s1 := sm_pq hR hR2 hs n hn4
  have s2 := sm_qp hR hR2 hu n hn4
  have s3 := sm_pp hR hs n hn4
  have f1 := hR.f
  have f2 := hR2.b
  have l1 := le_frE (P := Try.prog) (bedOfT T 0)
  have l2 := le_frE (P := Try.prog) (bedOfT T 40)
  have l3 := le_frE (P := Try.prog) (bedOfT U 0)
  have l4 := le_frE (P := Try.prog) (bedOfT U 40)
  have e1 : (bedOfT T 0).length = (stkF (bedOfT T 0)).length := by simp [stkF]
  have e2 : (bedOfT U 40).length = (stkF (bedOfT U 40)).length := by simp [stkF]
  generalize bedOfT T 0 = X at *
  generalize bedOfT T 40 = Y at *
  generalize bedOfT U 0 = Z at *
  generalize bedOfT U 40 = W at *
  have hE : (true && decide (∀ i, 0 ≤ i → i < 80 → T.getD i [] = U.getD i [])) = decide (T = U) := by
    rw [Bool.true_and]
    refine Bool.eq_iff_iff.2 ?_
    rw [decide_eq_true_eq, decide_eq_true_eq]
    exact eq_tab T U hT hU
  refine pureT ((base 104 0).ok cxA_K.1 cxA_K.2) Try.func13 rfl (by show 3 ≤ 104; omega) rfl sm_body rfl (ex := .ret) (env' := [(6, bb true)]) ?_ rfl
  refine .seq (sm0_0 x y m0 m1) (.seq (Tri.less (sm1_0 x y _ _ _ hof hof2) (env2 := [(5, .box [ub m0, ub m1]), (7, .box (bedS fun i => T.getD i [])), (8, .box (bedS fun i => V.getD i []))]) (.cons ⟨rfl, rfl, Le.refl _⟩ (.cons ⟨rfl, rfl, le_tab _⟩ (.cons ⟨rfl, rfl, le_tab _⟩ .nil)))) ?_)
  rw [← bedS_eq hT, ← bedS_eq hV]
  refine .seq htab ?_
  refine .seq (sm7_0 _ _ _) (.seq (.seq (sm8_0 _ _ _ true) (.block (ex := .exit 0) (Rnd.loop (sma_rnd [ub m0, ub m1] T U hT hU hs 80 0 true rfl)) (.inl ⟨rfl, rfl⟩))) ?_)
  rw [hE]
  show Tri Try.prog (cxN 104 0) _ [(5, .box [ub m0, ub m1]), (7, .box (T.map SH)), (8, .box (U.map SH)), (10, bb (decide (T = U)))] _ _
  rw [bedS_eq hT, bedS_eq hU]
  refine .seq (Tri.less (sm13_0 _ _ X Y Z W _ _ hbd hbd2 rfl (by rw [smapFN, smapFN]) rfl (by rw [smapFN, smapFN])) (env2 := [(5, .box [ub m0, ub m1]), (10, bb (decide (T = U))), (12, .box [bsl (some X.length) (stkF X), bsl (some Y.length) (stkF Y)]), (13, .box [bsl (some Z.length) (stkF Z), bsl (some W.length) (stkF W)])]) (.cons ⟨rfl, rfl, Le.refl _⟩ (.cons ⟨rfl, rfl, Le.refl _⟩ (.cons ⟨rfl, rfl, Le.box (.cons l1 (.cons l2 .nil))⟩ (.cons ⟨rfl, rfl, Le.box (.cons l3 (.cons l4 .nil))⟩ .nil))))) ?_
  have hgr := Rnd.loop (gr_rnd X.length W.length (stkF X) (stkF W) (bsl (some Y.length) (stkF Y)) (bsl (some Z.length) (stkF Z)) (decide (T = U)) e1 e2 (by omega) (by omega) m0 m1 hn hn4 n 0 (by omega))
  refine .seq (.seq (sm14_0 _ _ _ _) (.block (ex := .exit 2) hgr (.inl ⟨rfl, rfl⟩))) ?_
  refine Tri.moreBox (r := 12) rfl (topNo (by intro p hp; simp only [List.mem_cons, List.not_mem_nil, or_false] at hp; rcases hp with rfl | rfl | rfl <;> rfl) 12) ?_
  refine Tri.weak [(10, .keep), (12, .keep), (13, .keep)] ?_
  show Tri Try.prog (cxN 104 0) _ [(10, bb (decide (T = U))), (12, .box ([gr X.length (stkF X) n, bsl (some Y.length) (stkF Y)].map share)), (13, .box [bsl (some Z.length) (stkF Z), gr W.length (stkF W) n])] _ _
  refine Tri.moreBox (r := 13) rfl (topNo (by intro p hp; simp only [List.mem_cons, List.not_mem_nil, or_false] at hp; rcases hp with rfl | rfl | rfl <;> rfl) 13) ?_
  refine Tri.weak [(10, .keep), (12, .keep), (13, .keep)] ?_
  refine Tri.more (env2 := [(10, bb (decide (T = U))), (12, .box [bsl none (stkF X ++ List.replicate n em), bsl none (stkF Y)]), (13, .box [bsl none (stkF Z), bsl none (stkF W ++ List.replicate n em)])]) (.seq (sm19_0 _ _ _ _ _ s1 s2 s3 (by simp)) .ret) ?_
  have b1 : ∀ (c : Nat) (L : List Stk), Le Try.prog (share (bsl (some c) L)) (bsl none L) := fun c L => by rw [share_bsl]; exact Le.cap
  exact .cons ⟨rfl, rfl, Le.refl _⟩ (.cons ⟨rfl, rfl, Le.box (.cons (le_gr _ _ _) (.cons (b1 _ _) .nil))⟩ (.cons ⟨rfl, rfl, Le.box (.cons (b1 _ _) (.cons (le_gr _ _ _) .nil))⟩ .nil))
end Tst
end

section
open Go Go.Lf Go.Proofs
namespace Tst
theorem F2.cons' {α β : Type} {R : α → β → Prop} {x : α} {l : List α} {m : List β} (h : F2 R (x :: l) m) : ∃ y m', m = y :: m' ∧ R x y ∧ F2 R l m' := by
  cases h with
  | cons h t => exact ⟨_, _, rfl, h, t⟩
theorem F2.nil' {α β : Type} {R : α → β → Prop} {m : List β} (h : F2 R [] m) : m = [] := by cases h; rfl
section
variable {P : Program} {t : TypeId} {ys : List AV}
theorem sh_int (m : Nat) {k : IntKind} (hu : P.underlying t = some (.int k)) (h : Shape P (m + 1) t ys) : ∃ i, ys = [.atom (.int k i)] ∧ (Lit.int k i).wf = true := by
  unfold Shape at h; rw [hu] at h; exact h
theorem sh_slice (m : Nat) {e : TypeId} (hu : P.underlying t = some (.slice e)) (h : Shape P (m + 1) t ys) : ∃ xs, ys = [.sl .any e none xs] ∧ xs.length ≤ maxLen ∧ ∀ x ∈ xs, ∃ cs, x = elOf P e cs ∧ cs.length = P.cellsOf e ∧ Shape P m e cs := by
  unfold Shape at h; rw [hu] at h; exact h
theorem sh_array (m : Nat) {n : Nat} {e : TypeId} (hu : P.underlying t = some (.array n e)) (h : Shape P (m + 1) t ys) : ∃ yss : List (List AV), ys = yss.flatten ∧ yss.length = n ∧ ∀ cs ∈ yss, Shape P m e cs := by
  unfold Shape at h; rw [hu] at h; exact h
theorem sh_struct (m : Nat) {fs : Array Field} (hu : P.underlying t = some (.struct fs)) (h : Shape P (m + 1) t ys) : ∃ yss : List (List AV), ys = yss.flatten ∧ F2 (fun f cs => Shape P m f.type cs) fs.toList yss := by
  unfold Shape at h; rw [hu] at h; exact h
end
theorem choose_map {α : Type} (f : α → AV) (Q : α → Prop) : ∀ xs : List AV, (∀ x ∈ xs, ∃ a, x = f a ∧ Q a) → ∃ l : List α, xs = l.map f ∧ ∀ a ∈ l, Q a
  | [], _ => ⟨[], rfl, by simp⟩
  | x :: xs, h => by
    obtain ⟨a, rfl, ha⟩ := h x (by simp)
    obtain ⟨l, rfl, hl⟩ := choose_map f Q xs fun y hy => h y (by simp [hy])
    exact ⟨a :: l, rfl, by
      intro b hb
      rcases List.mem_cons.1 hb with rfl | hb
      · exact ha
      · exact hl b hb⟩
def U8 (x : Int) : Prop := 0 ≤ x ∧ x ≤ 255
theorem u8_wf {i : Int} (h : (Lit.int .u8 i).wf = true) : U8 i := by
  simp only [Lit.wf, Bool.and_eq_true, decide_eq_true_eq] at h
  exact h
structure Ty3 (P : Program) : Prop where
  u3 : P.underlying 3 = some (.int .i64)
  u5 : P.underlying 5 = some (.int .u8)
  u52 : P.underlying 52 = some (.array 2 5)
  a52 : aggT P 52 = true
theorem tyP3 : Ty3 Try.prog := ⟨Try.underlying3, Try.underlying5, Try.underlying52, by kernel_rfl⟩
def Arg (P : Program) (t : TypeId) (x : AV) : Prop := ∃ ys, x = elOf P t ys ∧ Shape P 8 t ys ∧ ys.length = P.cellsOf t
theorem args3 {P : Program} {s t u : TypeId} {xs : List AV} (h : F2 (Arg P) [s, t, u] xs) : ∃ x y z, xs = [x, y, z] ∧ Arg P s x ∧ Arg P t y ∧ Arg P u z := by
  obtain ⟨x, _, rfl, h1, h⟩ := F2.cons' h
  obtain ⟨y, _, rfl, h2, h⟩ := F2.cons' h
  obtain ⟨z, _, rfl, h3, h⟩ := F2.cons' h
  obtain rfl := F2.nil' h
  exact ⟨x, y, z, rfl, h1, h2, h3⟩
theorem arg52 {P : Program} (T : Ty3 P) {x : AV} (h : Arg P 52 x) : ∃ u v, x = .agg [.atom (.int .u8 u), .atom (.int .u8 v)] ∧ U8 u ∧ U8 v := by
  obtain ⟨ys, rfl, hs, _⟩ := h
  obtain ⟨yss, rfl, hl, hy⟩ := sh_array 7 T.u52 hs
  match yss, hl with
  | [c1, c2], _ =>
    obtain ⟨u, rfl, hu⟩ := sh_int 6 T.u5 (hy c1 (by simp))
    obtain ⟨v, rfl, hv⟩ := sh_int 6 T.u5 (hy c2 (by simp))
    exact ⟨u, v, by unfold elOf; rw [if_pos T.a52]; rfl, u8_wf hu, u8_wf hv⟩
end Tst
end

section
open Go Go.Lf Go.Proofs
namespace Tst
structure Ty4 (P : Program) : Prop where
  u58 : P.underlying 58 = some (.slice 87)
  u62 : P.underlying 62 = some (.slice 30)
  u66 : P.underlying 66 = some (.slice 62)
  u59 : P.underlying 59 = some (.int .u8)
  u87 : ∃ a b : Field, P.underlying 87 = some (.struct #[a, b]) ∧ a.type = 5 ∧ b.type = 5
  u61 : ∃ a b : Field, P.underlying 61 = some (.struct #[a, b]) ∧ a.type = 59 ∧ b.type = 3
  u30 : ∃ a b : Field, P.underlying 30 = some (.struct #[a, b]) ∧ a.type = 5 ∧ b.type = 3
  u68 : ∃ a b : Field, P.underlying 68 = some (.struct #[a, b]) ∧ a.type = 66 ∧ b.type = 66
  a87 : aggT P 87 = true
  a61 : aggT P 61 = true
  a30 : aggT P 30 = true
  a68 : aggT P 68 = true
  a58 : aggT P 58 = false
  a62 : aggT P 62 = false
  a66 : aggT P 66 = false
theorem tyP4 : Ty4 Try.prog := ⟨Try.underlying58, Try.underlying62, Try.underlying66, Try.underlying59, ⟨_, _, Try.underlying87, rfl, rfl⟩, ⟨_, _, Try.underlying61, rfl, rfl⟩, ⟨_, _, Try.underlying30, rfl, rfl⟩, ⟨_, _, Try.underlying68, rfl, rfl⟩,
  by kernel_rfl, by kernel_rfl, by kernel_rfl, by kernel_rfl, by kernel_rfl, by kernel_rfl, by kernel_rfl⟩
section
variable {P : Program} {m : Nat}
theorem pt_of (T : Ty3 P) (U : Ty4 P) {cs : List AV} (h : Shape P (m + 2) 87 cs) : ∃ p : Pt, cs = [ub p.a, ub p.m] ∧ U8 p.a ∧ U8 p.m := by
  obtain ⟨fa, fb, hu, ta, tb⟩ := U.u87
  obtain ⟨yss, rfl, hf⟩ := sh_struct (m + 1) hu h
  obtain ⟨c1, _, rfl, h1, hf⟩ := F2.cons' hf
  obtain ⟨c2, _, rfl, h2, hf⟩ := F2.cons' hf
  obtain rfl := F2.nil' hf
  rw [ta] at h1; rw [tb] at h2
  obtain ⟨y, rfl, w1⟩ := sh_int m T.u5 h1
  obtain ⟨n, rfl, w2⟩ := sh_int m T.u5 h2
  exact ⟨⟨y, n⟩, rfl, u8_wf w1, u8_wf w2⟩
theorem el_no {t : TypeId} (h : aggT P t = false) (x : AV) : elOf P t [x] = x := by unfold elOf; rw [if_neg (Bool.eq_false_iff.1 h)]; rfl
end
section
variable {P : Program}
theorem arg58 (T : Ty3 P) (U : Ty4 P) {x : AV} (h : Arg P 58 x) : ∃ l : List Pt, x = psl none l ∧ (∀ p ∈ l, U8 p.a ∧ U8 p.m) ∧ l.length ≤ maxLen := by
  obtain ⟨ys, rfl, hs, _⟩ := h
  obtain ⟨xs, rfl, hl, hx⟩ := sh_slice 7 U.u58 hs
  obtain ⟨a, rfl, ha⟩ := choose_map Pt.enc (fun p => U8 p.a ∧ U8 p.m) xs fun x hx' => by
    obtain ⟨cs, rfl, _, hc⟩ := hx x hx'
    obtain ⟨p, rfl, w⟩ := pt_of (m := 5) T U hc
    exact ⟨p, by unfold elOf; rw [if_pos U.a87]; rfl, w⟩
  exact ⟨a, el_no U.a58 _, ha, by simpa using hl⟩
end
end Tst
end

section
open Go Go.Lf Go.Proofs Tst
namespace Go.Proofs.Ytnaikfcmegkdpaa.stacksSame
theorem StacksSame_pure (xs : List AV) (h : F2 (fun t x => ∃ ys, x = elOf Try.prog t ys ∧ Shape Try.prog 8 t ys ∧ ys.length = Try.prog.cellsOf t) Try.f13.params.toList xs) : PureC Try.prog 13 xs (.atom (.bool true)) := by
  rw [Try.params13] at h
  obtain ⟨x, y, z, rfl, h1, h2, h3⟩ := args3 (P := Try.prog) h
  obtain ⟨l, rfl, hl, _⟩ := arg58 tyP3 tyP4 h1
  obtain ⟨m, rfl, hm, _⟩ := arg58 tyP3 tyP4 h2
  obtain ⟨u, v, rfl, hu, hv⟩ := arg52 tyP3 h3
  exact law13_c l m (fun q hq => ⟨(hl q hq).1.1, (hl q hq).2.1⟩) (fun q hq => ⟨(hm q hq).1.1, (hm q hq).2.1⟩) u v hu hv
end Go.Proofs.Ytnaikfcmegkdpaa.stacksSame
end
