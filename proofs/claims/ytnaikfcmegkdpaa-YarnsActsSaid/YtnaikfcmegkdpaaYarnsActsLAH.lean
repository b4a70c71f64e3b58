/- Part 8 of the evaluator and of the contracts that the claim uses. -/
import Derived.Test.YtnaikfcmegkdpaaYarnsActsLAA
import Derived.Test.YtnaikfcmegkdpaaYarnsActsLAB
import Derived.Test.YtnaikfcmegkdpaaYarnsActsLAC
import Derived.Test.YtnaikfcmegkdpaaYarnsActsLAD
import Derived.Test.YtnaikfcmegkdpaaYarnsActsLAE
import Derived.Test.YtnaikfcmegkdpaaYarnsActsLAF
import Derived.Test.YtnaikfcmegkdpaaYarnsActsLAG
set_option linter.unusedVariables false
set_option linter.unusedSimpArgs false
set_option linter.constructorNameAsVariable false

section
open Go Go.Lf Go.Proofs
namespace Tst
set_option maxHeartbeats 0
theorem yaC_0 (ca : Option Nat) (acts : List Act) (x1 : decide ((30 : Int) < ((List.length (List.map Act.enc acts) : Nat) : Int)) = false) (h : LoopOut ca acts) (g0 : decide ((30 : Int) < (↑(List.length (List.map Act.enc acts)) : Int)) = false) : PureC Try.prog 5 [asl ca acts]  (AV.atom (Value.bool true)) :=
  funA_ok (H := h5) (n := 232) (ans := [Ans.c, Ans.c, Ans.c, Ans.c, Ans.b false, Ans.c, Ans.c, Ans.c, Ans.c, Ans.c, Ans.c, Ans.c, Ans.lp (Ex.exit (nat_lit 0)) [], Ans.r (AV.atom (Value.bool true)), Ans.c, Ans.c, Ans.c]) (ps := [decide ((30 : Int) < (↑(List.length (List.map Act.enc acts)) : Int)) = false, Tri Try.prog (cxN (232 : Nat) (0 : Nat)) (Code.loop (loopBody Try.f5 (0 : Nat))) [(nat_lit 0, AV.sl Mode.any (nat_lit 40) ca (List.map Act.enc acts)), (nat_lit 3, AV.box [AV.atom (Value.bool false), AV.atom (Value.int IntKind.i64 (0 : Int)), AV.atom (Value.int IntKind.i64 (0 : Int)), AV.atom (Value.bool false), AV.atom (Value.slice none (nat_lit 0) (nat_lit 0))]), (nat_lit 4, AV.atom (Value.bool false)), (nat_lit 5, AV.atom (Value.int IntKind.i64 (0 : Int))), (nat_lit 6, AV.atom (Value.int IntKind.i64 (0 : Int))), (nat_lit 7, AV.atom (Value.bool false)), (nat_lit 8, AV.atom (Value.slice none (nat_lit 0) (nat_lit 0))), (nat_lit 9, AV.atom (Value.int IntKind.i64 (0 : Int)))] (Ex.exit (nat_lit 0)) [], PureC Try.prog (nat_lit 15) [] (AV.atom (Value.bool true))]) (base 232 0) Try.func5 rfl (by simp) rfl (by kernel_rfl)  (allp g0 (allp (by first | (apply useOut <;> (first | assumption | rfl | (simp at *; done) | (simp at *; omega))) | (refine Tri.weak [(0, .keep), (3, .keep), (4, .keep), (5, .keep), (6, .keep), (7, .keep), (8, .keep), (9, .keep)] ?_; apply useOut <;> (first | assumption | rfl | (simp at *; done) | (simp at *; omega))) | (apply lives_ok <;> (first | assumption | rfl | (simp at *; done) | (simp at *; omega)))) (allp (by first | (apply useOut <;> (first | assumption | rfl | (simp at *; done) | (simp at *; omega))) | (refine Tri.weak [(0, .keep), (3, .keep), (4, .keep), (5, .keep), (6, .keep), (7, .keep), (8, .keep), (9, .keep)] ?_; apply useOut <;> (first | assumption | rfl | (simp at *; done) | (simp at *; omega))) | (apply lives_ok <;> (first | assumption | rfl | (simp at *; done) | (simp at *; omega)))) allp_nil)))


end Tst
end

section
open Go Go.Lf Go.Proofs
namespace Tst
structure WfA (a : Act) : Prop where
  w : U8 a.w
  sd : U8 a.sd
  past : ∀ x ∈ a.past, U8 x
theorem law5_c (ca : Option Nat) (acts : List Act) (hw : ∀ a ∈ acts, WfA a) : PureC Try.prog 5 [asl ca acts] (.atom (.bool true)) := by
  by_cases h1 : 30 < acts.length
  · exact yaA_0 ca acts (by simp; omega) (by simp; omega)
  have x1 : decide ((30 : Int) < ((List.length (List.map Act.enc acts) : Nat) : Int)) = false := by simp; omega
  rcases ac_loop ca acts (fun a ha => ⟨(hw a ha).w, (hw a ha).sd, (hw a ha).past⟩) (by omega) with h | h
  · exact yaB_0 ca acts x1 h x1
  · exact yaC_0 ca acts x1 h x1
theorem act_of {P : Program} (T : Ty P) (T2 : Ty2 P) {m : Nat} {cs : List AV} (h : Shape P (m + 3) 40 cs) : ∃ a : Act, cs = [.atom (.int .u8 a.w), it a.q, .atom (.int .u8 a.sd), pl none a.past] ∧ WfA a := by
  obtain ⟨fa, fb, fc, fd, hu, ta, tb, tc, td⟩ := T2.u40
  obtain ⟨yss, rfl, hf⟩ := sh_struct (m + 2) hu h
  obtain ⟨c1, _, rfl, h1, hf⟩ := F2.cons' hf
  obtain ⟨c2, _, rfl, h2, hf⟩ := F2.cons' hf
  obtain ⟨c3, _, rfl, h3, hf⟩ := F2.cons' hf
  obtain ⟨c4, _, rfl, h4, hf⟩ := F2.cons' hf
  obtain rfl := F2.nil' hf
  rw [ta] at h1; rw [tb] at h2; rw [tc] at h3; rw [td] at h4
  obtain ⟨w, rfl, w1⟩ := sh_int (m + 1) T.u5 h1
  obtain ⟨q, rfl, _⟩ := sh_int (m + 1) T.u3 h2
  obtain ⟨sd, rfl, w3⟩ := sh_int (m + 1) T.u5 h3
  obtain ⟨past, rfl, w4, _⟩ := list_of_u8 (m := m) T h4
  exact ⟨⟨w, q, sd, past⟩, rfl, u8_wf w1, u8_wf w3, w4⟩
theorem arg36 {P : Program} (T : Ty P) (T2 : Ty2 P) {x : AV} (h : Arg P 36 x) : ∃ acts, x = asl none acts ∧ ∀ a ∈ acts, WfA a := by
  obtain ⟨ys, rfl, hs, _⟩ := h
  obtain ⟨xs, rfl, hl, hx⟩ := sh_slice 7 T2.u36 hs
  obtain ⟨acts, rfl, ha⟩ := choose_map Act.enc WfA xs fun x hx' => by
    obtain ⟨cs, rfl, _, hc⟩ := hx x hx'
    obtain ⟨a, rfl, w⟩ := act_of (m := 4) T T2 hc
    exact ⟨a, by unfold elOf; rw [if_pos T2.a40]; rfl, w⟩
  exact ⟨acts, by unfold elOf; rw [if_neg (Bool.eq_false_iff.1 T2.a36)]; rfl, ha⟩
end Tst
end

section
open Go Go.Lf Go.Proofs Tst
namespace Go.Proofs.Ytnaikfcmegkdpaa.yarnsActs
theorem YarnsActs_pure (xs : List AV) (h : F2 (fun t x => ∃ ys, x = elOf Try.prog t ys ∧ Shape Try.prog 8 t ys ∧ ys.length = Try.prog.cellsOf t) Try.f5.params.toList xs) : PureC Try.prog 5 xs (.atom (.bool true)) := by
  rw [Try.params5] at h
  obtain ⟨x, rfl, h1⟩ := args1 (P := Try.prog) h
  obtain ⟨acts, rfl, hw⟩ := arg36 tyP tyP2 h1
  exact law5_c none acts hw
end Go.Proofs.Ytnaikfcmegkdpaa.yarnsActs
end
