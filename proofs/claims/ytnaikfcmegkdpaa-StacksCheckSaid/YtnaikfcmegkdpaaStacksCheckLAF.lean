/- Part 6 of the evaluator and of the contracts that the claim uses. -/
import Derived.Test.YtnaikfcmegkdpaaStacksCheckLAA
import Derived.Test.YtnaikfcmegkdpaaStacksCheckLAB
import Derived.Test.YtnaikfcmegkdpaaStacksCheckLAC
import Derived.Test.YtnaikfcmegkdpaaStacksCheckLAD
import Derived.Test.YtnaikfcmegkdpaaStacksCheckLAE
set_option linter.unusedVariables false
set_option linter.unusedSimpArgs false
set_option linter.constructorNameAsVariable false

section
open Go Go.Lf Go.Proofs
namespace Tst
theorem smap_FW (k : Nat) (x : List (List Idd)) : (x.map FW).map (mapE (remode shareM (k + 2))) = x.map FW := by
  rw [List.map_map]
  refine List.map_congr_left fun l _ => ?_
  show AV.sl .fresh 30 (some l.length) ((l.map Idd.enc).map (mapE (remode shareM (k + 1)))) = _
  rw [map_re]; rfl
abbrev nilR (e : Int) : AV := .tup [.agg [niln, niln], it e]
abbrev bedsR (x y : List (List Idd)) : AV := .tup [.agg [frW x, frW y], it 0]
def setV (F B : List Stk) (d i : Int) (l : List Idd) : AV :=
  if chkV F B != 0 then nilR (chkV F B) else if !ndV d i || !l.all nmI then nilR 1 else if 4 < l.length then nilR 9
  else if twV (stkW (halfT (withT F B d i l) 0)) (stkW (halfT (withT F B d i l) 40)) then nilR 8 else bedsR (halfT (withT F B d i l) 0) (halfT (withT F B d i l) 40)
theorem ndV_in {d i : Int} (h : ndV d i = true) : (d = 0 ∨ d = 1) ∧ 1 ≤ i ∧ i ≤ 40 := by
  unfold ndV at h
  simp only [Bool.and_eq_true, Bool.or_eq_true, beq_iff_eq, Bool.not_eq_true', decide_eq_false_iff_not] at h
  exact ⟨h.1.1, by omega, by omega⟩
theorem chk_len {F B : List Stk} (h : chkV F B = 0) : F.length ≤ 40 ∧ B.length ≤ 40 ∧ ∀ t ∈ itms F B, t.2.2.l.length ≤ 4 := by
  unfold chkV at h
  cases ho : ovV F B with
  | true => rw [ho] at h; simp at h
  | false => exact ov_short ho
theorem itms_stkW_mem {x y : List (List Idd)} {t : Int × Int × Stk} (h : t ∈ itms (stkW x) (stkW y)) : t.2.2.l ∈ x ∨ t.2.2.l ∈ y := by
  rcases (itms_ok h).2.2.2 with h | h <;> obtain ⟨l, hl, he⟩ := List.mem_map.1 h <;> rw [← he]
  · exact .inl hl
  · exact .inr hl
theorem halfT_mem {tb : List (List Idd)} {k : Nat} {l : List Idd} (h : l ∈ halfT tb k) : l ∈ tb := by
  unfold halfT shT at h
  obtain ⟨s, hs, rfl⟩ := List.mem_map.1 h
  have := List.mem_of_mem_drop (List.mem_of_mem_take (List.mem_of_mem_take hs))
  obtain ⟨l, hl, rfl⟩ := List.mem_map.1 this
  exact hl
theorem withT_mem {F B : List Stk} {d i : Int} {l x : List Idd} (h : x ∈ withT F B d i l) : x = l ∨ x = [] ∨ ∃ t ∈ itms F B, x = t.2.2.l := by
  rcases List.mem_or_eq_of_mem_set h with h | h
  · exact .inr (tbOf_mem _ _ h)
  · exact .inl h
theorem withT_len4 {F B : List Stk} {d i : Int} {l : List Idd} {n : Nat} (hA : ∀ t ∈ itms F B, t.2.2.l.length ≤ n) (hl : l.length ≤ n) : ∀ x ∈ withT F B d i l, x.length ≤ n := by
  intro x hx
  rcases withT_mem hx with rfl | rfl | ⟨t, ht, rfl⟩
  · exact hl
  · simp
  · exact hA t ht
theorem set_c (cf cb c : Option Nat) (F B : List Stk) (d i : Int) (l : List Idd) (hl : l.length ≤ 4294967296) : PureC Try.prog 38 [beds (bsl cf F) (bsl cb B), ndl d i, isl c l] (setV F B d i l) := by
  unfold setV
  have h62 : l.length < 2 ^ 62 := by omega
  cases hc : (chkV F B != 0) with
  | true => exact stA_0 cf cb c F B d i l hc hc
  | false =>
    have hc0 : chkV F B = 0 := by simpa using hc
    obtain ⟨hF, hB, hA⟩ := chk_len hc0
    cases hn : ndV d i with
    | false => exact stB_0 cf cb c F B d i l hc (by rw [hn]; rfl) hc (by rw [hn]; rfl)
    | true =>
      have hn' : ((if ndV d i = true then (0 : Int) else (1 : Int)) != (0 : Int)) = false := by rw [hn]; rfl
      obtain ⟨hd, h1, h2⟩ := ndV_in hn
      cases hm : l.all nmI with
      | false => exact stC_0 cf cb c F B d i l h62 hc hn' (by rw [hm]; rfl) hc hn' (by rw [hm]; rfl)
      | true =>
        have hm' : (!List.all l nmI) = false := by rw [hm]; rfl
        by_cases h4 : 4 < l.length
        · have h4' : decide ((4 : Int) < (((l.map Idd.enc).length : Nat) : Int)) = true := by rw [List.length_map]; exact decide_eq_true (by omega)
          simp only [if_pos h4]
          exact stD_0 cf cb c F B d i l h62 hc hn' hm' h4' hc hn' hm' h4'
        · have h4' : decide ((4 : Int) < (((l.map Idd.enc).length : Nat) : Int)) = false := by rw [List.length_map]; exact decide_eq_false (by omega)
          simp only [if_neg h4]
          have hlen := withT_len4 (F := F) (B := B) (d := d) (i := i) (l := l) (n := 4) hA (by omega)
          have hW : ∀ t ∈ itms (stkW (halfT (withT F B d i l) 0)) (stkW (halfT (withT F B d i l) 40)), t.2.2.l.length < 2 ^ 62 := by
            intro t ht
            rcases itms_stkW_mem ht with h | h <;> have := hlen _ (halfT_mem h) <;> omega
          have hA' : ∀ t ∈ itms F B, t.2.2.l.length ≤ 4294967296 := fun t ht => by have := hA t ht; omega
          cases ht : twV (stkW (halfT (withT F B d i l) 0)) (stkW (halfT (withT F B d i l) 40)) with
          | true => exact stE_0 cf cb c F B d i l h62 hl hA' hd h1 h2 hW hc hn' hm' h4' hc hn' hm' h4' (by rw [smap_FW, smap_FW]) ht
          | false =>
            have h := stE_1 cf cb c F B d i l h62 hl hA' hd h1 h2 hW hc hn' hm' h4' hc hn' hm' h4' (by rw [smap_FW, smap_FW]) ht
            rw [smap_FW, smap_FW] at h
            exact h
end Tst
end

section
open Go Go.Lf Go.Proofs
namespace Tst
set_option maxHeartbeats 0
theorem view_twoF (ca cb : Option Nat) (l m : List Idd) : view (.sl .own 62 (some 2) [.sl .fresh 30 ca (l.map Idd.enc), .sl .fresh 30 cb (m.map Idd.enc)]) = twoI ca cb l m := by
  show AV.sl .any 62 (some 2) [.sl .any 30 ca ((l.map Idd.enc).map (mapE (remode (fun _ => .any) 10))), .sl .any 30 cb ((m.map Idd.enc).map (mapE (remode (fun _ => .any) 10)))] = _
  rw [map_idd, map_idd]
theorem ndlAt_s (d i : Int) (cf cb : Option Nat) (f b : List Stk) (h : ndV d i = true) (hf : ∀ s ∈ f, s.l.length ≤ 4294967296) (hb : ∀ s ∈ b, s.l.length ≤ 4294967296) :
    PureC Try.prog 33 [beds (bsl cf f) (bsl cb b), ndl d i] (.sl .fresh 30 (some (stkAt d i f b).length) ((stkAt d i f b).map Idd.enc)) := by
  have h1 := (ndlAt_v d i cf cb f b h hf hb).share
  have e : share (.sl .own 30 (some (stkAt d i f b).length) ((stkAt d i f b).map Idd.enc)) = .sl .fresh 30 (some (stkAt d i f b).length) ((stkAt d i f b).map Idd.enc) := by
    show AV.sl .fresh 30 (some (stkAt d i f b).length) (((stkAt d i f b).map Idd.enc).map (mapE (remode shareM 11))) = _
    rw [map_re]
  rwa [e] at h1
theorem with_n (cf cb : Option Nat) (F B : List Stk) (d i : Int) (hd : d = 0 ∨ d = 1) (h1 : 1 ≤ i) (h2 : i ≤ 40) (hA : ∀ t ∈ itms F B, t.2.2.l.length ≤ 4294967296) :
    PureC Try.prog 63 [beds (bsl cf F) (bsl cb B), ndl d i, niln] (.agg [.sl .fresh 62 (some (halfT (withT F B d i []) 0).length) ((halfT (withT F B d i []) 0).map FW), .sl .fresh 62 (some (halfT (withT F B d i []) 40).length) ((halfT (withT F B d i []) 40).map FW)]) :=
  (with_v cf cb (some 0) F B d i [] hd h1 h2 (by simp) hA).args (.cons (Le.refl _) (.cons (Le.refl _) (.cons (Le.nil 30) .nil)))
theorem jnA_0 (cf cb : Option Nat) (F B : List Stk) (d i e k : Int) (hc : (chkV F B != (0 : Int)) = true) (g0 : (chkV F B != (0 : Int)) = true) : PureC Try.prog 40 [beds (bsl cf F) (bsl cb B), ndl d i, ndl e k]  (AV.tup [AV.agg [niln, niln], it (chkV F B)]) :=
  funA_ok (H := h40) (n := 68) (ans := [.c, .c, .c, .c, .c, .c, .r (it (chkV F B)), .c, .c, .c, .c, .c, .b true, .c, .c, .c, .c]) (ps := [PureC Try.prog 31 [view (AV.agg [bsl cf F, bsl cb B])] (it (chkV F B)), (chkV F B != (0 : Int)) = true]) (base 68 0) Try.func40 rfl (by simp) rfl (by kernel_rfl)  (allp (by (first | rw [view_yn] | rw [view_two] | rw [view_twoI] | rw [view_beds] | rw [view_frW] | rw [view_frN] | rw [view_twoF] | skip); apply chk_c <;> (first | assumption | rfl | (simp at * <;> omega))) (allp g0 allp_nil))
theorem jnB_0 (cf cb : Option Nat) (F B : List Stk) (d i e k : Int) (hc : (chkV F B != (0 : Int)) = false) (g0 : (chkV F B != (0 : Int)) = false) (g1 : ((if ndV d i = true then (0 : Int) else (1 : Int)) != (0 : Int)) = true) : PureC Try.prog 40 [beds (bsl cf F) (bsl cb B), ndl d i, ndl e k]  (AV.tup [AV.agg [niln, niln], it 1]) :=
  funA_ok (H := h40) (n := 68) (ans := [.c, .c, .c, .c, .c, .c, .r (it (chkV F B)), .c, .c, .c, .c, .c, .b false, .c, .r (it (if ndV d i = true then (0 : Int) else (1 : Int))), .c, .c, .c, .c, .b true, .c, .b true, .c, .b true, .c, .b true, .c, .c, .c, .c, .c, .c, .c, .c, .c, .c, .c, .c, .c, .c, .c, .c, .c, .c]) (ps := [PureC Try.prog 31 [view (AV.agg [bsl cf F, bsl cb B])] (it (chkV F B)), (chkV F B != (0 : Int)) = false, PureC Try.prog 56 [AV.agg [ub d, it i]] (it (if ndV d i = true then (0 : Int) else (1 : Int))), ((if ndV d i = true then (0 : Int) else (1 : Int)) != (0 : Int)) = true, ((if ndV d i = true then (0 : Int) else (1 : Int)) != (0 : Int)) = true, ((if ndV d i = true then (0 : Int) else (1 : Int)) != (0 : Int)) = true, ((if ndV d i = true then (0 : Int) else (1 : Int)) != (0 : Int)) = true]) (base 68 0) Try.func40 rfl (by simp) rfl (by kernel_rfl)  (allp (by (first | rw [view_yn] | rw [view_two] | rw [view_twoI] | rw [view_beds] | rw [view_frW] | rw [view_frN] | rw [view_twoF] | skip); apply chk_c <;> (first | assumption | rfl | (simp at * <;> omega))) (allp g0 (allp (by apply nck_c <;> (first | assumption | rfl | (simp at * <;> omega))) (allp g1 (allp g1 (allp g1 (allp g1 allp_nil)))))))
theorem jnB_1 (cf cb : Option Nat) (F B : List Stk) (d i e k : Int) (hc : (chkV F B != (0 : Int)) = false) (g0 : (chkV F B != (0 : Int)) = false) (g1 : ((if ndV d i = true then (0 : Int) else (1 : Int)) != (0 : Int)) = false) (g2 : ((if ndV e k = true then (0 : Int) else (1 : Int)) != (0 : Int)) = true) : PureC Try.prog 40 [beds (bsl cf F) (bsl cb B), ndl d i, ndl e k]  (AV.tup [AV.agg [niln, niln], it 1]) :=
  funA_ok (H := h40) (n := 68) (ans := [.c, .c, .c, .c, .c, .c, .r (it (chkV F B)), .c, .c, .c, .c, .c, .b false, .c, .r (it (if ndV d i = true then (0 : Int) else (1 : Int))), .c, .c, .c, .c, .b false, .c, .b false, .r (it (if ndV e k = true then (0 : Int) else (1 : Int))), .c, .c, .b false, .c, .b false, .c, .c, .b true, .c, .b true, .c, .b true, .c, .b true, .c, .b true, .c, .b true, .c, .c, .c, .c, .c]) (ps := [PureC Try.prog 31 [view (AV.agg [bsl cf F, bsl cb B])] (it (chkV F B)), (chkV F B != (0 : Int)) = false, PureC Try.prog 56 [AV.agg [ub d, it i]] (it (if ndV d i = true then (0 : Int) else (1 : Int))), ((if ndV d i = true then (0 : Int) else (1 : Int)) != (0 : Int)) = false, ((if ndV d i = true then (0 : Int) else (1 : Int)) != (0 : Int)) = false, PureC Try.prog 56 [AV.agg [ub e, it k]] (it (if ndV e k = true then (0 : Int) else (1 : Int))), ((if ndV d i = true then (0 : Int) else (1 : Int)) != (0 : Int)) = false, ((if ndV d i = true then (0 : Int) else (1 : Int)) != (0 : Int)) = false, ((if ndV e k = true then (0 : Int) else (1 : Int)) != (0 : Int)) = true, ((if ndV e k = true then (0 : Int) else (1 : Int)) != (0 : Int)) = true, ((if ndV e k = true then (0 : Int) else (1 : Int)) != (0 : Int)) = true, ((if ndV e k = true then (0 : Int) else (1 : Int)) != (0 : Int)) = true, ((if ndV e k = true then (0 : Int) else (1 : Int)) != (0 : Int)) = true, ((if ndV e k = true then (0 : Int) else (1 : Int)) != (0 : Int)) = true]) (base 68 0) Try.func40 rfl (by simp) rfl (by kernel_rfl)  (allp (by (first | rw [view_yn] | rw [view_two] | rw [view_twoI] | rw [view_beds] | rw [view_frW] | rw [view_frN] | rw [view_twoF] | skip); apply chk_c <;> (first | assumption | rfl | (simp at * <;> omega))) (allp g0 (allp (by apply nck_c <;> (first | assumption | rfl | (simp at * <;> omega))) (allp g1 (allp g1 (allp (by apply nck_c <;> (first | assumption | rfl | (simp at * <;> omega))) (allp g1 (allp g1 (allp g2 (allp g2 (allp g2 (allp g2 (allp g2 (allp g2 allp_nil))))))))))))))
theorem jnB_2 (cf cb : Option Nat) (F B : List Stk) (d i e k : Int) (hc : (chkV F B != (0 : Int)) = false) (g0 : (chkV F B != (0 : Int)) = false) (g1 : ((if ndV d i = true then (0 : Int) else (1 : Int)) != (0 : Int)) = false) (g2 : ((if ndV e k = true then (0 : Int) else (1 : Int)) != (0 : Int)) = false) (g3 : (d == e) = true) : PureC Try.prog 40 [beds (bsl cf F) (bsl cb B), ndl d i, ndl e k]  (AV.tup [AV.agg [niln, niln], it 1]) :=
  funA_ok (H := h40) (n := 68) (ans := [.c, .c, .c, .c, .c, .c, .r (it (chkV F B)), .c, .c, .c, .c, .c, .b false, .c, .r (it (if ndV d i = true then (0 : Int) else (1 : Int))), .c, .c, .c, .c, .b false, .c, .b false, .r (it (if ndV e k = true then (0 : Int) else (1 : Int))), .c, .c, .b false, .c, .b false, .c, .c, .b false, .c, .b false, .c, .c, .c, .b false, .c, .b false, .c, .c, .c, .b false, .c, .b false, .c, .b true, .c, .c, .c]) (ps := [PureC Try.prog 31 [view (AV.agg [bsl cf F, bsl cb B])] (it (chkV F B)), (chkV F B != (0 : Int)) = false, PureC Try.prog 56 [AV.agg [ub d, it i]] (it (if ndV d i = true then (0 : Int) else (1 : Int))), ((if ndV d i = true then (0 : Int) else (1 : Int)) != (0 : Int)) = false, ((if ndV d i = true then (0 : Int) else (1 : Int)) != (0 : Int)) = false, PureC Try.prog 56 [AV.agg [ub e, it k]] (it (if ndV e k = true then (0 : Int) else (1 : Int))), ((if ndV d i = true then (0 : Int) else (1 : Int)) != (0 : Int)) = false, ((if ndV d i = true then (0 : Int) else (1 : Int)) != (0 : Int)) = false, ((if ndV e k = true then (0 : Int) else (1 : Int)) != (0 : Int)) = false, ((if ndV e k = true then (0 : Int) else (1 : Int)) != (0 : Int)) = false, ((if ndV e k = true then (0 : Int) else (1 : Int)) != (0 : Int)) = false, ((if ndV e k = true then (0 : Int) else (1 : Int)) != (0 : Int)) = false, ((if ndV e k = true then (0 : Int) else (1 : Int)) != (0 : Int)) = false, ((if ndV e k = true then (0 : Int) else (1 : Int)) != (0 : Int)) = false, (d == e) = true]) (base 68 0) Try.func40 rfl (by simp) rfl (by kernel_rfl)  (allp (by (first | rw [view_yn] | rw [view_two] | rw [view_twoI] | rw [view_beds] | rw [view_frW] | rw [view_frN] | rw [view_twoF] | skip); apply chk_c <;> (first | assumption | rfl | (simp at * <;> omega))) (allp g0 (allp (by apply nck_c <;> (first | assumption | rfl | (simp at * <;> omega))) (allp g1 (allp g1 (allp (by apply nck_c <;> (first | assumption | rfl | (simp at * <;> omega))) (allp g1 (allp g1 (allp g2 (allp g2 (allp g2 (allp g2 (allp g2 (allp g2 (allp g3 allp_nil)))))))))))))))
theorem j14_0 (cf cb : Option Nat) (F B : List Stk) (d i e k : Int) (J : List Idd) (hd : d = 0 ∨ d = 1) (h1 : 1 ≤ i) (h2 : i ≤ 40) (he : e = 0 ∨ e = 1) (h3 : 1 ≤ k) (h4 : k ≤ 40) (hA : ∀ t ∈ itms F B, t.2.2.l.length ≤ 4294967296) (hJ : J.length ≤ 4294967296) (hW : ∀ t ∈ itms (stkW (halfT (withT F B d i []) 0)) (stkW (halfT (withT F B d i []) 40)), t.2.2.l.length ≤ 4294967296) (g0 : AV.agg [AV.sl Mode.fresh 62 (some (List.length (halfT (withT F B d i []) (0 : Nat)))) (List.map (mapE (remode shareM (10 : Nat))) (List.map FW (halfT (withT F B d i []) (0 : Nat)))), AV.sl Mode.fresh 62 (some (List.length (halfT (withT F B d i []) (40 : Nat)))) (List.map (mapE (remode shareM (10 : Nat))) (List.map FW (halfT (withT F B d i []) (40 : Nat))))] = AV.agg [AV.sl Mode.fresh 62 (some (List.length (halfT (withT F B d i []) (0 : Nat)))) (List.map FW (halfT (withT F B d i []) (0 : Nat))), AV.sl Mode.fresh 62 (some (List.length (halfT (withT F B d i []) (40 : Nat)))) (List.map FW (halfT (withT F B d i []) (40 : Nat)))]) (g1 : decide ((false || (false || (true || false))) = true → noAny (12 : Nat) (AV.agg [AV.sl Mode.fresh 62 (some (List.length (halfT (withT (stkW (halfT (withT F B d i []) (0 : Nat))) (stkW (halfT (withT F B d i []) (40 : Nat))) e k J) (0 : Nat)))) (List.map FW (halfT (withT (stkW (halfT (withT F B d i []) (0 : Nat))) (stkW (halfT (withT F B d i []) (40 : Nat))) e k J) (0 : Nat))), AV.sl Mode.fresh 62 (some (List.length (halfT (withT (stkW (halfT (withT F B d i []) (0 : Nat))) (stkW (halfT (withT F B d i []) (40 : Nat))) e k J) (40 : Nat)))) (List.map FW (halfT (withT (stkW (halfT (withT F B d i []) (0 : Nat))) (stkW (halfT (withT F B d i []) (40 : Nat))) e k J) (40 : Nat)))]) = true) = true) (g2 : AV.agg [AV.sl Mode.fresh 62 (some (List.length (halfT (withT (stkW (halfT (withT F B d i []) (0 : Nat))) (stkW (halfT (withT F B d i []) (40 : Nat))) e k J) (0 : Nat)))) (List.map (mapE (remode shareM (10 : Nat))) (List.map FW (halfT (withT (stkW (halfT (withT F B d i []) (0 : Nat))) (stkW (halfT (withT F B d i []) (40 : Nat))) e k J) (0 : Nat)))), AV.sl Mode.fresh 62 (some (List.length (halfT (withT (stkW (halfT (withT F B d i []) (0 : Nat))) (stkW (halfT (withT F B d i []) (40 : Nat))) e k J) (40 : Nat)))) (List.map (mapE (remode shareM (10 : Nat))) (List.map FW (halfT (withT (stkW (halfT (withT F B d i []) (0 : Nat))) (stkW (halfT (withT F B d i []) (40 : Nat))) e k J) (40 : Nat))))] = AV.agg [AV.sl Mode.fresh 62 (some (List.length (halfT (withT (stkW (halfT (withT F B d i []) (0 : Nat))) (stkW (halfT (withT F B d i []) (40 : Nat))) e k J) (0 : Nat)))) (List.map FW (halfT (withT (stkW (halfT (withT F B d i []) (0 : Nat))) (stkW (halfT (withT F B d i []) (40 : Nat))) e k J) (0 : Nat))), AV.sl Mode.fresh 62 (some (List.length (halfT (withT (stkW (halfT (withT F B d i []) (0 : Nat))) (stkW (halfT (withT F B d i []) (40 : Nat))) e k J) (40 : Nat)))) (List.map FW (halfT (withT (stkW (halfT (withT F B d i []) (0 : Nat))) (stkW (halfT (withT F B d i []) (40 : Nat))) e k J) (40 : Nat)))]) : Tri Try.prog (cxN 68 0) (regAt Try.f40 14) ([(3, .box [bsl cf F, bsl cb B]), (4, .box [ub d, it i]), (5, .box [ub e, it k]), (6, .box [niln, niln]), (11, iow none J)] ) (Ex.normal) ([(6, AV.box [AV.sl Mode.fresh 62 (some (List.length (halfT (withT (stkW (halfT (withT F B d i []) (0 : Nat))) (stkW (halfT (withT F B d i []) (40 : Nat))) e k J) (0 : Nat)))) (List.map FW (halfT (withT (stkW (halfT (withT F B d i []) (0 : Nat))) (stkW (halfT (withT F B d i []) (40 : Nat))) e k J) (0 : Nat))), AV.sl Mode.fresh 62 (some (List.length (halfT (withT (stkW (halfT (withT F B d i []) (0 : Nat))) (stkW (halfT (withT F B d i []) (40 : Nat))) e k J) (40 : Nat)))) (List.map FW (halfT (withT (stkW (halfT (withT F B d i []) (0 : Nat))) (stkW (halfT (withT F B d i []) (40 : Nat))) e k J) (40 : Nat)))]), (7, it 0)]) :=
  evA_ok (H := h40) (ans := [.c, .c, .r (AV.agg [AV.sl Mode.fresh 62 (some (List.length (halfT (withT F B d i []) (0 : Nat)))) (List.map FW (halfT (withT F B d i []) (0 : Nat))), AV.sl Mode.fresh 62 (some (List.length (halfT (withT F B d i []) (40 : Nat)))) (List.map FW (halfT (withT F B d i []) (40 : Nat)))]), .c, .r (AV.agg [AV.sl Mode.fresh 62 (some (List.length (halfT (withT F B d i []) (0 : Nat)))) (List.map FW (halfT (withT F B d i []) (0 : Nat))), AV.sl Mode.fresh 62 (some (List.length (halfT (withT F B d i []) (40 : Nat)))) (List.map FW (halfT (withT F B d i []) (40 : Nat)))]), .c, .c, .r (AV.sl Mode.any 30 none (List.map Idd.enc J)), .r (AV.agg [AV.sl Mode.fresh 62 (some (List.length (halfT (withT (stkW (halfT (withT F B d i []) (0 : Nat))) (stkW (halfT (withT F B d i []) (40 : Nat))) e k J) (0 : Nat)))) (List.map FW (halfT (withT (stkW (halfT (withT F B d i []) (0 : Nat))) (stkW (halfT (withT F B d i []) (40 : Nat))) e k J) (0 : Nat))), AV.sl Mode.fresh 62 (some (List.length (halfT (withT (stkW (halfT (withT F B d i []) (0 : Nat))) (stkW (halfT (withT F B d i []) (40 : Nat))) e k J) (40 : Nat)))) (List.map FW (halfT (withT (stkW (halfT (withT F B d i []) (0 : Nat))) (stkW (halfT (withT F B d i []) (40 : Nat))) e k J) (40 : Nat)))]), .b true, .r (AV.agg [AV.sl Mode.fresh 62 (some (List.length (halfT (withT (stkW (halfT (withT F B d i []) (0 : Nat))) (stkW (halfT (withT F B d i []) (40 : Nat))) e k J) (0 : Nat)))) (List.map FW (halfT (withT (stkW (halfT (withT F B d i []) (0 : Nat))) (stkW (halfT (withT F B d i []) (40 : Nat))) e k J) (0 : Nat))), AV.sl Mode.fresh 62 (some (List.length (halfT (withT (stkW (halfT (withT F B d i []) (0 : Nat))) (stkW (halfT (withT F B d i []) (40 : Nat))) e k J) (40 : Nat)))) (List.map FW (halfT (withT (stkW (halfT (withT F B d i []) (0 : Nat))) (stkW (halfT (withT F B d i []) (40 : Nat))) e k J) (40 : Nat)))]), .c, .c, .c]) (ps := [PureC Try.prog 63 [view (AV.agg [bsl cf F, bsl cb B]), AV.agg [ub d, it i], niln] (AV.agg [AV.sl Mode.fresh 62 (some (List.length (halfT (withT F B d i []) (0 : Nat)))) (List.map FW (halfT (withT F B d i []) (0 : Nat))), AV.sl Mode.fresh 62 (some (List.length (halfT (withT F B d i []) (40 : Nat)))) (List.map FW (halfT (withT F B d i []) (40 : Nat)))]), AV.agg [AV.sl Mode.fresh 62 (some (List.length (halfT (withT F B d i []) (0 : Nat)))) (List.map (mapE (remode shareM (10 : Nat))) (List.map FW (halfT (withT F B d i []) (0 : Nat)))), AV.sl Mode.fresh 62 (some (List.length (halfT (withT F B d i []) (40 : Nat)))) (List.map (mapE (remode shareM (10 : Nat))) (List.map FW (halfT (withT F B d i []) (40 : Nat))))] = AV.agg [AV.sl Mode.fresh 62 (some (List.length (halfT (withT F B d i []) (0 : Nat)))) (List.map FW (halfT (withT F B d i []) (0 : Nat))), AV.sl Mode.fresh 62 (some (List.length (halfT (withT F B d i []) (40 : Nat)))) (List.map FW (halfT (withT F B d i []) (40 : Nat)))], view (AV.sl Mode.own 30 none (List.map Idd.enc J)) = AV.sl Mode.any 30 none (List.map Idd.enc J), PureC Try.prog 63 [view (AV.agg [AV.sl Mode.fresh 62 (some (List.length (halfT (withT F B d i []) (0 : Nat)))) (List.map FW (halfT (withT F B d i []) (0 : Nat))), AV.sl Mode.fresh 62 (some (List.length (halfT (withT F B d i []) (40 : Nat)))) (List.map FW (halfT (withT F B d i []) (40 : Nat)))]), AV.agg [ub e, it k], AV.sl Mode.any 30 none (List.map Idd.enc J)] (AV.agg [AV.sl Mode.fresh 62 (some (List.length (halfT (withT (stkW (halfT (withT F B d i []) (0 : Nat))) (stkW (halfT (withT F B d i []) (40 : Nat))) e k J) (0 : Nat)))) (List.map FW (halfT (withT (stkW (halfT (withT F B d i []) (0 : Nat))) (stkW (halfT (withT F B d i []) (40 : Nat))) e k J) (0 : Nat))), AV.sl Mode.fresh 62 (some (List.length (halfT (withT (stkW (halfT (withT F B d i []) (0 : Nat))) (stkW (halfT (withT F B d i []) (40 : Nat))) e k J) (40 : Nat)))) (List.map FW (halfT (withT (stkW (halfT (withT F B d i []) (0 : Nat))) (stkW (halfT (withT F B d i []) (40 : Nat))) e k J) (40 : Nat)))]), decide ((false || (false || (true || false))) = true → noAny (12 : Nat) (AV.agg [AV.sl Mode.fresh 62 (some (List.length (halfT (withT (stkW (halfT (withT F B d i []) (0 : Nat))) (stkW (halfT (withT F B d i []) (40 : Nat))) e k J) (0 : Nat)))) (List.map FW (halfT (withT (stkW (halfT (withT F B d i []) (0 : Nat))) (stkW (halfT (withT F B d i []) (40 : Nat))) e k J) (0 : Nat))), AV.sl Mode.fresh 62 (some (List.length (halfT (withT (stkW (halfT (withT F B d i []) (0 : Nat))) (stkW (halfT (withT F B d i []) (40 : Nat))) e k J) (40 : Nat)))) (List.map FW (halfT (withT (stkW (halfT (withT F B d i []) (0 : Nat))) (stkW (halfT (withT F B d i []) (40 : Nat))) e k J) (40 : Nat)))]) = true) = true, AV.agg [AV.sl Mode.fresh 62 (some (List.length (halfT (withT (stkW (halfT (withT F B d i []) (0 : Nat))) (stkW (halfT (withT F B d i []) (40 : Nat))) e k J) (0 : Nat)))) (List.map (mapE (remode shareM (10 : Nat))) (List.map FW (halfT (withT (stkW (halfT (withT F B d i []) (0 : Nat))) (stkW (halfT (withT F B d i []) (40 : Nat))) e k J) (0 : Nat)))), AV.sl Mode.fresh 62 (some (List.length (halfT (withT (stkW (halfT (withT F B d i []) (0 : Nat))) (stkW (halfT (withT F B d i []) (40 : Nat))) e k J) (40 : Nat)))) (List.map (mapE (remode shareM (10 : Nat))) (List.map FW (halfT (withT (stkW (halfT (withT F B d i []) (0 : Nat))) (stkW (halfT (withT F B d i []) (40 : Nat))) e k J) (40 : Nat))))] = AV.agg [AV.sl Mode.fresh 62 (some (List.length (halfT (withT (stkW (halfT (withT F B d i []) (0 : Nat))) (stkW (halfT (withT F B d i []) (40 : Nat))) e k J) (0 : Nat)))) (List.map FW (halfT (withT (stkW (halfT (withT F B d i []) (0 : Nat))) (stkW (halfT (withT F B d i []) (40 : Nat))) e k J) (0 : Nat))), AV.sl Mode.fresh 62 (some (List.length (halfT (withT (stkW (halfT (withT F B d i []) (0 : Nat))) (stkW (halfT (withT F B d i []) (40 : Nat))) e k J) (40 : Nat)))) (List.map FW (halfT (withT (stkW (halfT (withT F B d i []) (0 : Nat))) (stkW (halfT (withT F B d i []) (40 : Nat))) e k J) (40 : Nat)))]]) (ans' := []) (base 68 0) cxA_K.1 cxA_K.2 _ (by kernel_rfl)  (allp (by (first | rw [view_yn] | rw [view_two] | rw [view_twoI] | rw [view_beds] | rw [view_frW] | rw [view_frN] | rw [view_twoF] | skip); first | (apply with_n <;> (first | assumption | rfl | (simp at * <;> omega))) | (apply with_v <;> (first | assumption | rfl | (simp at * <;> omega)))) (allp g0 (allp (by first | exact view_ps _ _ _ | exact view_u8 _ _ _ | rfl | exact view_yn _ _ _ _ _ _ _ | exact view_id _ _ _ | exact view_stk _ _ _ | exact view_beds _ _ _ _ _ _ | exact view_pt _ _ _) (allp (by (first | rw [view_yn] | rw [view_two] | rw [view_twoI] | rw [view_beds] | rw [view_frW] | rw [view_frN] | rw [view_twoF] | skip); first | (apply with_n <;> (first | assumption | rfl | (simp at * <;> omega))) | (apply with_v <;> (first | assumption | rfl | (simp at * <;> omega)))) (allp g1 (allp g2 allp_nil))))))
end Tst
end

section
open Go Go.Lf Go.Proofs
namespace Tst
set_option maxHeartbeats 0
theorem noAny_FW (k : Nat) (x : List (List Idd)) : (x.map FW).all (noAny (k + 3)) = true := by
  rw [List.all_map, List.all_eq_true]
  intro l _
  show ((true && (l.map Idd.enc).all (noAny (k + 2))) : Bool) = true
  rw [Bool.true_and, List.all_map, List.all_eq_true]
  intro p _
  rfl
theorem noAny_iow (l : List Idd) : noAny 12 (AV.sl Mode.own 30 none (List.map Idd.enc l)) = true := by
  show ((true && (l.map Idd.enc).all (noAny 11)) : Bool) = true
  rw [Bool.true_and, List.all_map, List.all_eq_true]
  intro p _
  rfl
theorem noAny_bd (x y : List (List Idd)) (c c' : Option Nat) : noAny 12 (AV.agg [AV.sl Mode.fresh 62 c (x.map FW), AV.sl Mode.fresh 62 c' (y.map FW)]) = true := by
  show (((true && (x.map FW).all (noAny 10)) && ((true && (y.map FW).all (noAny 10)) && true)) : Bool) = true
  rw [noAny_FW 7, noAny_FW 7]; rfl
def joinT (F B : List Stk) (d i e k : Int) (J : List Idd) : List (List Idd) := withT (stkW (halfT (withT F B d i []) 0)) (stkW (halfT (withT F B d i []) 40)) e k J
theorem j14_c (cf cb : Option Nat) (F B : List Stk) (d i e k : Int) (J : List Idd) (hd : d = 0 ∨ d = 1) (h1 : 1 ≤ i) (h2 : i ≤ 40) (he : e = 0 ∨ e = 1) (h3 : 1 ≤ k) (h4 : k ≤ 40) (hA : ∀ t ∈ itms F B, t.2.2.l.length ≤ 4294967296) (hJ : J.length ≤ 4294967296) (hW : ∀ t ∈ itms (stkW (halfT (withT F B d i []) 0)) (stkW (halfT (withT F B d i []) 40)), t.2.2.l.length ≤ 4294967296) :
    Tri Try.prog (cxN 68 0) (codeAt Try.f40 14) [(3, .box [bsl cf F, bsl cb B]), (4, .box [ub d, it i]), (5, .box [ub e, it k]), (6, .box [niln, niln]), (11, iow none J)] .normal [(6, .box [frW (halfT (joinT F B d i e k J) 0), frW (halfT (joinT F B d i e k J) 40)]), (7, it 0)] := by
  rw [show codeAt Try.f40 14 = regAt Try.f40 14 by kernel_rfl]
  exact j14_0 cf cb F B d i e k J hd h1 h2 he h3 h4 hA hJ hW (by rw [smap_FW, smap_FW]) (by rw [noAny_bd]; simp) (by rw [smap_FW, smap_FW])
theorem j11_0 (cf cb : Option Nat) (F B : List Stk) (d i e k : Int) (l m : List Idd) (hl : l.length ≤ 1000000) (hm : m.length ≤ 1000000) (g0 : decide ((true || false) = true → noAny (12 : Nat) (AV.sl Mode.own 30 none (List.map Idd.enc (m ++ l))) = true) = true) : Tri Try.prog (cxN 68 0) (regAt Try.f40 11) ([(3, .box [bsl cf F, bsl cb B]), (4, .box [ub d, it i]), (5, .box [ub e, it k]), (6, .box [niln, niln]), (9, .sl .fresh 30 (some l.length) (l.map Idd.enc)), (10, .sl .fresh 30 (some m.length) (m.map Idd.enc))] ) (Ex.normal) ([(3, AV.box [bsl cf F, bsl cb B]), (4, AV.box [ub d, it i]), (5, AV.box [ub e, it k]), (6, AV.box [niln, niln]), (9, AV.sl Mode.fresh 30 (some (List.length l)) (List.map Idd.enc l)), (10, AV.sl Mode.fresh 30 (some (List.length m)) (List.map Idd.enc m)), (11, AV.sl Mode.own 30 none (List.map Idd.enc (m ++ l)))]) :=
  evA_ok (H := h40) (ans := [.c, .c, .c, .c, .r (AV.sl Mode.own 30 none (List.map Idd.enc (m ++ l))), .b true, .c, .c]) (ps := [PureC Try.prog 65 [view (AV.sl Mode.own 62 (some 2) [AV.sl Mode.fresh 30 (some (List.length m)) (List.map Idd.enc m), AV.sl Mode.fresh 30 (some (List.length l)) (List.map Idd.enc l)])] (AV.sl Mode.own 30 none (List.map Idd.enc (m ++ l))), decide ((true || false) = true → noAny (12 : Nat) (AV.sl Mode.own 30 none (List.map Idd.enc (m ++ l))) = true) = true]) (ans' := []) (base 68 0) cxA_K.1 cxA_K.2 _ (by kernel_rfl)  (allp (by (first | rw [view_yn] | rw [view_two] | rw [view_twoI] | rw [view_beds] | rw [view_frW] | rw [view_frN] | rw [view_twoF] | skip); apply conI_c <;> (first | assumption | rfl | (simp at * <;> omega))) (allp g0 allp_nil))
theorem j12_0 (cf cb : Option Nat) (F B : List Stk) (d i e k : Int) (l m J : List Idd) : Tri Try.prog (cxN 68 0) (regAt Try.f40 12) ([(3, .box [bsl cf F, bsl cb B]), (4, .box [ub d, it i]), (5, .box [ub e, it k]), (6, .box [niln, niln]), (9, .sl .fresh 30 (some l.length) (l.map Idd.enc)), (10, .sl .fresh 30 (some m.length) (m.map Idd.enc)), (11, iow none J)] ) (Ex.normal) ([(3, AV.box [bsl cf F, bsl cb B]), (4, AV.box [ub d, it i]), (5, AV.box [ub e, it k]), (6, AV.box [niln, niln]), (9, AV.sl Mode.fresh 30 (some (List.length l)) (List.map Idd.enc l)), (10, AV.sl Mode.fresh 30 (some (List.length m)) (List.map Idd.enc m)), (11, AV.sl Mode.own 30 none (List.map Idd.enc J)), (57, bb (d == (1 : Int)))]) :=
  evA_ok (H := h40) (ans := [.c, .c, .c, .c, .c]) (ps := []) (ans' := []) (base 68 0) cxA_K.1 cxA_K.2 _ (by kernel_rfl)  allp_nil
theorem j13_0 (cf cb : Option Nat) (F B : List Stk) (d i e k : Int) (l m J : List Idd) (hl : l.length ≤ 1000000) (hm : m.length ≤ 1000000) (g0 : decide ((true || false) = true → noAny (12 : Nat) (AV.sl Mode.own 30 none (List.map Idd.enc (l ++ m))) = true) = true) : Tri Try.prog (cxN 68 0) (regAt Try.f40 13) ([(3, .box [bsl cf F, bsl cb B]), (4, .box [ub d, it i]), (5, .box [ub e, it k]), (6, .box [niln, niln]), (9, .sl .fresh 30 (some l.length) (l.map Idd.enc)), (10, .sl .fresh 30 (some m.length) (m.map Idd.enc)), (11, iow none J)] ) (Ex.normal) ([(3, AV.box [bsl cf F, bsl cb B]), (4, AV.box [ub d, it i]), (5, AV.box [ub e, it k]), (6, AV.box [niln, niln]), (11, AV.sl Mode.own 30 none (List.map Idd.enc (l ++ m)))]) :=
  evA_ok (H := h40) (ans := [.c, .c, .c, .c, .r (AV.sl Mode.own 30 none (List.map Idd.enc (l ++ m))), .b true, .c, .c]) (ps := [PureC Try.prog 65 [view (AV.sl Mode.own 62 (some 2) [AV.sl Mode.fresh 30 (some (List.length l)) (List.map Idd.enc l), AV.sl Mode.fresh 30 (some (List.length m)) (List.map Idd.enc m)])] (AV.sl Mode.own 30 none (List.map Idd.enc (l ++ m))), decide ((true || false) = true → noAny (12 : Nat) (AV.sl Mode.own 30 none (List.map Idd.enc (l ++ m))) = true) = true]) (ans' := []) (base 68 0) cxA_K.1 cxA_K.2 _ (by kernel_rfl)  (allp (by (first | rw [view_yn] | rw [view_two] | rw [view_twoI] | rw [view_beds] | rw [view_frW] | rw [view_frN] | rw [view_twoF] | skip); apply conI_c <;> (first | assumption | rfl | (simp at * <;> omega))) (allp g0 allp_nil))
end Tst
end

section
open Go Go.Lf Go.Proofs
namespace Tst
set_option maxHeartbeats 0
abbrev jE (cf cb : Option Nat) (F B : List Stk) (d i e k : Int) (l m : List Idd) : Env := [(3, .box [bsl cf F, bsl cb B]), (4, .box [ub d, it i]), (5, .box [ub e, it k]), (6, .box [niln, niln]), (9, .sl .fresh 30 (some l.length) (l.map Idd.enc)), (10, .sl .fresh 30 (some m.length) (m.map Idd.enc))]
def jnL (d : Int) (l m : List Idd) : List Idd := if (d == 1) = true then l ++ m else m ++ l
theorem j11_c (cf cb : Option Nat) (F B : List Stk) (d i e k : Int) (l m : List Idd) (hl : l.length ≤ 1000000) (hm : m.length ≤ 1000000) : Tri Try.prog (cxN 68 0) (codeAt Try.f40 11) (jE cf cb F B d i e k l m) .normal [(3, .box [bsl cf F, bsl cb B]), (4, .box [ub d, it i]), (5, .box [ub e, it k]), (6, .box [niln, niln]), (9, .sl .fresh 30 (some l.length) (l.map Idd.enc)), (10, .sl .fresh 30 (some m.length) (m.map Idd.enc)), (11, iow none (m ++ l))] := by
  rw [show codeAt Try.f40 11 = regAt Try.f40 11 by kernel_rfl]
  exact Tri.after [(3, .keep), (4, .keep), (5, .keep), (6, .keep), (9, .keep), (10, .keep), (11, .keep)] (j11_0 cf cb F B d i e k l m hl hm (by rw [noAny_iow]; simp))
theorem j12_code : codeAt Try.f40 12 = .seq (regAt Try.f40 12) (.cond (.tmp 57) (regAt Try.f40 13) .skip) := by kernel_rfl
theorem j12_c (cf cb : Option Nat) (F B : List Stk) (d i e k : Int) (l m : List Idd) (hl : l.length ≤ 1000000) (hm : m.length ≤ 1000000) : Tri Try.prog (cxN 68 0) (codeAt Try.f40 12) [(3, .box [bsl cf F, bsl cb B]), (4, .box [ub d, it i]), (5, .box [ub e, it k]), (6, .box [niln, niln]), (9, .sl .fresh 30 (some l.length) (l.map Idd.enc)), (10, .sl .fresh 30 (some m.length) (m.map Idd.enc)), (11, iow none (m ++ l))] .normal
    [(3, .box [bsl cf F, bsl cb B]), (4, .box [ub d, it i]), (5, .box [ub e, it k]), (6, .box [niln, niln]), (11, iow none (jnL d l m))] := by
  rw [j12_code]
  unfold jnL
  have h := j12_0 cf cb F B d i e k l m (m ++ l)
  cases hb : (d == 1) with
  | true =>
    rw [hb] at h
    exact .seq h (.cond (b := true) rfl (.weak [(3, .keep), (4, .keep), (5, .keep), (6, .keep), (9, .keep), (10, .keep), (11, .keep)] (.after [(3, .keep), (4, .keep), (5, .keep), (6, .keep), (11, .keep)] (j13_0 cf cb F B d i e k l m (m ++ l) hl hm (by rw [noAny_iow]; simp)))))
  | false =>
    rw [hb] at h
    exact .seq h (.cond (b := false) rfl (.after [(3, .keep), (4, .keep), (5, .keep), (6, .keep), (11, .keep)] .skip))
theorem jnE_0 (cf cb : Option Nat) (F B : List Stk) (d i e k : Int) (hc : (chkV F B != (0 : Int)) = false) (hn : ((if ndV d i = true then (0 : Int) else (1 : Int)) != (0 : Int)) = false) (hn2 : ((if ndV e k = true then (0 : Int) else (1 : Int)) != (0 : Int)) = false) (hne : (d == e) = false) (v1 : ndV d i = true) (v2 : ndV e k = true) (hf : ∀ s ∈ F, s.l.length ≤ 4294967296) (hb : ∀ s ∈ B, s.l.length ≤ 4294967296) (hl : (stkAt d i F B).length ≤ 1000000) (hm : (stkAt e k F B).length ≤ 1000000) (hd : d = 0 ∨ d = 1) (h1 : 1 ≤ i) (h2 : i ≤ 40) (he : e = 0 ∨ e = 1) (h3 : 1 ≤ k) (h4 : k ≤ 40) (hA : ∀ t ∈ itms F B, t.2.2.l.length ≤ 4294967296) (hJ : (jnL d (stkAt d i F B) (stkAt e k F B)).length ≤ 4294967296) (hW : ∀ t ∈ itms (stkW (halfT (withT F B d i []) 0)) (stkW (halfT (withT F B d i []) 40)), t.2.2.l.length ≤ 4294967296) (g0 : (chkV F B != (0 : Int)) = false) (g1 : ((if ndV d i = true then (0 : Int) else (1 : Int)) != (0 : Int)) = false) (g2 : ((if ndV e k = true then (0 : Int) else (1 : Int)) != (0 : Int)) = false) (g3 : (d == e) = false) (g4 : ((↑(List.length (List.map Idd.enc (stkAt d i F B))) : Int) == (0 : Int)) = true) : PureC Try.prog 40 [beds (bsl cf F) (bsl cb B), ndl d i, ndl e k]  (AV.tup [AV.agg [niln, niln], it 13]) :=
  funA_ok (H := h40) (n := 68) (ans := [.c, .c, .c, .c, .c, .c, .r (it (chkV F B)), .c, .c, .c, .c, .c, .b false, .c, .r (it (if ndV d i = true then (0 : Int) else (1 : Int))), .c, .c, .c, .c, .b false, .c, .b false, .r (it (if ndV e k = true then (0 : Int) else (1 : Int))), .c, .c, .b false, .c, .b false, .c, .c, .b false, .c, .b false, .c, .c, .c, .b false, .c, .b false, .c, .c, .c, .b false, .c, .b false, .c, .b false, .c, .c, .r (AV.sl Mode.fresh 30 (some (List.length (stkAt d i F B))) (List.map Idd.enc (stkAt d i F B))), .c, .c, .c, .c, .r (AV.sl Mode.fresh 30 (some (List.length (stkAt e k F B))) (List.map Idd.enc (stkAt e k F B))), .c, .c, .c, .c, .c, .c, .c, .b true, .c, .c, .c]) (ps := [PureC Try.prog 31 [view (AV.agg [bsl cf F, bsl cb B])] (it (chkV F B)), (chkV F B != (0 : Int)) = false, PureC Try.prog 56 [AV.agg [ub d, it i]] (it (if ndV d i = true then (0 : Int) else (1 : Int))), ((if ndV d i = true then (0 : Int) else (1 : Int)) != (0 : Int)) = false, ((if ndV d i = true then (0 : Int) else (1 : Int)) != (0 : Int)) = false, PureC Try.prog 56 [AV.agg [ub e, it k]] (it (if ndV e k = true then (0 : Int) else (1 : Int))), ((if ndV d i = true then (0 : Int) else (1 : Int)) != (0 : Int)) = false, ((if ndV d i = true then (0 : Int) else (1 : Int)) != (0 : Int)) = false, ((if ndV e k = true then (0 : Int) else (1 : Int)) != (0 : Int)) = false, ((if ndV e k = true then (0 : Int) else (1 : Int)) != (0 : Int)) = false, ((if ndV e k = true then (0 : Int) else (1 : Int)) != (0 : Int)) = false, ((if ndV e k = true then (0 : Int) else (1 : Int)) != (0 : Int)) = false, ((if ndV e k = true then (0 : Int) else (1 : Int)) != (0 : Int)) = false, ((if ndV e k = true then (0 : Int) else (1 : Int)) != (0 : Int)) = false, (d == e) = false, PureC Try.prog 33 [view (AV.agg [bsl cf F, bsl cb B]), AV.agg [ub d, it i]] (AV.sl Mode.fresh 30 (some (List.length (stkAt d i F B))) (List.map Idd.enc (stkAt d i F B))), PureC Try.prog 33 [view (AV.agg [bsl cf F, bsl cb B]), AV.agg [ub e, it k]] (AV.sl Mode.fresh 30 (some (List.length (stkAt e k F B))) (List.map Idd.enc (stkAt e k F B))), ((↑(List.length (List.map Idd.enc (stkAt d i F B))) : Int) == (0 : Int)) = true]) (base 68 0) Try.func40 rfl (by simp) rfl (by kernel_rfl)  (allp (by (first | rw [view_yn] | rw [view_two] | rw [view_twoI] | rw [view_beds] | rw [view_frW] | rw [view_frN] | rw [view_twoF] | skip); apply chk_c <;> (first | assumption | rfl | (simp at * <;> omega))) (allp g0 (allp (by apply nck_c <;> (first | assumption | rfl | (simp at * <;> omega))) (allp g1 (allp g1 (allp (by apply nck_c <;> (first | assumption | rfl | (simp at * <;> omega))) (allp g1 (allp g1 (allp g2 (allp g2 (allp g2 (allp g2 (allp g2 (allp g2 (allp g3 (allp (by (first | rw [view_yn] | rw [view_two] | rw [view_twoI] | rw [view_beds] | rw [view_frW] | rw [view_frN] | rw [view_twoF] | skip); apply ndlAt_s <;> (first | assumption | rfl | (simp at * <;> omega))) (allp (by (first | rw [view_yn] | rw [view_two] | rw [view_twoI] | rw [view_beds] | rw [view_frW] | rw [view_frN] | rw [view_twoF] | skip); apply ndlAt_s <;> (first | assumption | rfl | (simp at * <;> omega))) (allp g4 allp_nil))))))))))))))))))
theorem jnE_1 (cf cb : Option Nat) (F B : List Stk) (d i e k : Int) (hc : (chkV F B != (0 : Int)) = false) (hn : ((if ndV d i = true then (0 : Int) else (1 : Int)) != (0 : Int)) = false) (hn2 : ((if ndV e k = true then (0 : Int) else (1 : Int)) != (0 : Int)) = false) (hne : (d == e) = false) (v1 : ndV d i = true) (v2 : ndV e k = true) (hf : ∀ s ∈ F, s.l.length ≤ 4294967296) (hb : ∀ s ∈ B, s.l.length ≤ 4294967296) (hl : (stkAt d i F B).length ≤ 1000000) (hm : (stkAt e k F B).length ≤ 1000000) (hd : d = 0 ∨ d = 1) (h1 : 1 ≤ i) (h2 : i ≤ 40) (he : e = 0 ∨ e = 1) (h3 : 1 ≤ k) (h4 : k ≤ 40) (hA : ∀ t ∈ itms F B, t.2.2.l.length ≤ 4294967296) (hJ : (jnL d (stkAt d i F B) (stkAt e k F B)).length ≤ 4294967296) (hW : ∀ t ∈ itms (stkW (halfT (withT F B d i []) 0)) (stkW (halfT (withT F B d i []) 40)), t.2.2.l.length ≤ 4294967296) (g0 : (chkV F B != (0 : Int)) = false) (g1 : ((if ndV d i = true then (0 : Int) else (1 : Int)) != (0 : Int)) = false) (g2 : ((if ndV e k = true then (0 : Int) else (1 : Int)) != (0 : Int)) = false) (g3 : (d == e) = false) (g4 : ((↑(List.length (List.map Idd.enc (stkAt d i F B))) : Int) == (0 : Int)) = false) (g5 : decide ((4 : Int) < IntKind.wrap IntKind.i64 ((↑(List.length (List.map Idd.enc (stkAt d i F B))) : Int) + (↑(List.length (List.map Idd.enc (stkAt e k F B))) : Int))) = true) : PureC Try.prog 40 [beds (bsl cf F) (bsl cb B), ndl d i, ndl e k]  (AV.tup [AV.agg [niln, niln], it 9]) :=
  funA_ok (H := h40) (n := 68) (ans := [.c, .c, .c, .c, .c, .c, .r (it (chkV F B)), .c, .c, .c, .c, .c, .b false, .c, .r (it (if ndV d i = true then (0 : Int) else (1 : Int))), .c, .c, .c, .c, .b false, .c, .b false, .r (it (if ndV e k = true then (0 : Int) else (1 : Int))), .c, .c, .b false, .c, .b false, .c, .c, .b false, .c, .b false, .c, .c, .c, .b false, .c, .b false, .c, .c, .c, .b false, .c, .b false, .c, .b false, .c, .c, .r (AV.sl Mode.fresh 30 (some (List.length (stkAt d i F B))) (List.map Idd.enc (stkAt d i F B))), .c, .c, .c, .c, .r (AV.sl Mode.fresh 30 (some (List.length (stkAt e k F B))) (List.map Idd.enc (stkAt e k F B))), .c, .c, .c, .c, .c, .c, .c, .b false, .c, .c, .c, .c, .c, .c, .b true, .c, .c, .c]) (ps := [PureC Try.prog 31 [view (AV.agg [bsl cf F, bsl cb B])] (it (chkV F B)), (chkV F B != (0 : Int)) = false, PureC Try.prog 56 [AV.agg [ub d, it i]] (it (if ndV d i = true then (0 : Int) else (1 : Int))), ((if ndV d i = true then (0 : Int) else (1 : Int)) != (0 : Int)) = false, ((if ndV d i = true then (0 : Int) else (1 : Int)) != (0 : Int)) = false, PureC Try.prog 56 [AV.agg [ub e, it k]] (it (if ndV e k = true then (0 : Int) else (1 : Int))), ((if ndV d i = true then (0 : Int) else (1 : Int)) != (0 : Int)) = false, ((if ndV d i = true then (0 : Int) else (1 : Int)) != (0 : Int)) = false, ((if ndV e k = true then (0 : Int) else (1 : Int)) != (0 : Int)) = false, ((if ndV e k = true then (0 : Int) else (1 : Int)) != (0 : Int)) = false, ((if ndV e k = true then (0 : Int) else (1 : Int)) != (0 : Int)) = false, ((if ndV e k = true then (0 : Int) else (1 : Int)) != (0 : Int)) = false, ((if ndV e k = true then (0 : Int) else (1 : Int)) != (0 : Int)) = false, ((if ndV e k = true then (0 : Int) else (1 : Int)) != (0 : Int)) = false, (d == e) = false, PureC Try.prog 33 [view (AV.agg [bsl cf F, bsl cb B]), AV.agg [ub d, it i]] (AV.sl Mode.fresh 30 (some (List.length (stkAt d i F B))) (List.map Idd.enc (stkAt d i F B))), PureC Try.prog 33 [view (AV.agg [bsl cf F, bsl cb B]), AV.agg [ub e, it k]] (AV.sl Mode.fresh 30 (some (List.length (stkAt e k F B))) (List.map Idd.enc (stkAt e k F B))), ((↑(List.length (List.map Idd.enc (stkAt d i F B))) : Int) == (0 : Int)) = false, decide ((4 : Int) < IntKind.wrap IntKind.i64 ((↑(List.length (List.map Idd.enc (stkAt d i F B))) : Int) + (↑(List.length (List.map Idd.enc (stkAt e k F B))) : Int))) = true]) (base 68 0) Try.func40 rfl (by simp) rfl (by kernel_rfl)  (allp (by (first | rw [view_yn] | rw [view_two] | rw [view_twoI] | rw [view_beds] | rw [view_frW] | rw [view_frN] | rw [view_twoF] | skip); apply chk_c <;> (first | assumption | rfl | (simp at * <;> omega))) (allp g0 (allp (by apply nck_c <;> (first | assumption | rfl | (simp at * <;> omega))) (allp g1 (allp g1 (allp (by apply nck_c <;> (first | assumption | rfl | (simp at * <;> omega))) (allp g1 (allp g1 (allp g2 (allp g2 (allp g2 (allp g2 (allp g2 (allp g2 (allp g3 (allp (by (first | rw [view_yn] | rw [view_two] | rw [view_twoI] | rw [view_beds] | rw [view_frW] | rw [view_frN] | rw [view_twoF] | skip); apply ndlAt_s <;> (first | assumption | rfl | (simp at * <;> omega))) (allp (by (first | rw [view_yn] | rw [view_two] | rw [view_twoI] | rw [view_beds] | rw [view_frW] | rw [view_frN] | rw [view_twoF] | skip); apply ndlAt_s <;> (first | assumption | rfl | (simp at * <;> omega))) (allp g4 (allp g5 allp_nil)))))))))))))))))))
theorem jnE_2 (cf cb : Option Nat) (F B : List Stk) (d i e k : Int) (hc : (chkV F B != (0 : Int)) = false) (hn : ((if ndV d i = true then (0 : Int) else (1 : Int)) != (0 : Int)) = false) (hn2 : ((if ndV e k = true then (0 : Int) else (1 : Int)) != (0 : Int)) = false) (hne : (d == e) = false) (v1 : ndV d i = true) (v2 : ndV e k = true) (hf : ∀ s ∈ F, s.l.length ≤ 4294967296) (hb : ∀ s ∈ B, s.l.length ≤ 4294967296) (hl : (stkAt d i F B).length ≤ 1000000) (hm : (stkAt e k F B).length ≤ 1000000) (hd : d = 0 ∨ d = 1) (h1 : 1 ≤ i) (h2 : i ≤ 40) (he : e = 0 ∨ e = 1) (h3 : 1 ≤ k) (h4 : k ≤ 40) (hA : ∀ t ∈ itms F B, t.2.2.l.length ≤ 4294967296) (hJ : (jnL d (stkAt d i F B) (stkAt e k F B)).length ≤ 4294967296) (hW : ∀ t ∈ itms (stkW (halfT (withT F B d i []) 0)) (stkW (halfT (withT F B d i []) 40)), t.2.2.l.length ≤ 4294967296) (g0 : (chkV F B != (0 : Int)) = false) (g1 : ((if ndV d i = true then (0 : Int) else (1 : Int)) != (0 : Int)) = false) (g2 : ((if ndV e k = true then (0 : Int) else (1 : Int)) != (0 : Int)) = false) (g3 : (d == e) = false) (g4 : ((↑(List.length (List.map Idd.enc (stkAt d i F B))) : Int) == (0 : Int)) = false) (g5 : decide ((4 : Int) < IntKind.wrap IntKind.i64 ((↑(List.length (List.map Idd.enc (stkAt d i F B))) : Int) + (↑(List.length (List.map Idd.enc (stkAt e k F B))) : Int))) = false) : PureC Try.prog 40 [beds (bsl cf F) (bsl cb B), ndl d i, ndl e k]  (AV.tup [AV.agg [AV.sl Mode.fresh 62 (some (List.length (halfT (joinT F B d i e k (jnL d (stkAt d i F B) (stkAt e k F B))) (0 : Nat)))) (List.map (mapE (remode shareM (11 : Nat))) (List.map FW (halfT (joinT F B d i e k (jnL d (stkAt d i F B) (stkAt e k F B))) (0 : Nat)))), AV.sl Mode.fresh 62 (some (List.length (halfT (joinT F B d i e k (jnL d (stkAt d i F B) (stkAt e k F B))) (40 : Nat)))) (List.map (mapE (remode shareM (11 : Nat))) (List.map FW (halfT (joinT F B d i e k (jnL d (stkAt d i F B) (stkAt e k F B))) (40 : Nat))))], it 0]) :=
  funA_ok (H := h40) (n := 68) (ans := [.c, .c, .c, .c, .c, .c, .r (it (chkV F B)), .c, .c, .c, .c, .c, .b false, .c, .r (it (if ndV d i = true then (0 : Int) else (1 : Int))), .c, .c, .c, .c, .b false, .c, .b false, .r (it (if ndV e k = true then (0 : Int) else (1 : Int))), .c, .c, .b false, .c, .b false, .c, .c, .b false, .c, .b false, .c, .c, .c, .b false, .c, .b false, .c, .c, .c, .b false, .c, .b false, .c, .b false, .c, .c, .r (AV.sl Mode.fresh 30 (some (List.length (stkAt d i F B))) (List.map Idd.enc (stkAt d i F B))), .c, .c, .c, .c, .r (AV.sl Mode.fresh 30 (some (List.length (stkAt e k F B))) (List.map Idd.enc (stkAt e k F B))), .c, .c, .c, .c, .c, .c, .c, .b false, .c, .c, .c, .c, .c, .c, .b false, .cut Ex.normal [(3, AV.box [bsl cf F, bsl cb B]), (4, AV.box [ub d, it i]), (5, AV.box [ub e, it k]), (6, AV.box [niln, niln]), (9, AV.sl Mode.fresh 30 (some (List.length (stkAt d i F B))) (List.map Idd.enc (stkAt d i F B))), (10, AV.sl Mode.fresh 30 (some (List.length (stkAt e k F B))) (List.map Idd.enc (stkAt e k F B))), (11, AV.sl Mode.own 30 none (List.map Idd.enc (stkAt e k F B ++ stkAt d i F B)))], .cut Ex.normal [(3, AV.box [bsl cf F, bsl cb B]), (4, AV.box [ub d, it i]), (5, AV.box [ub e, it k]), (6, AV.box [niln, niln]), (11, AV.sl Mode.own 30 none (List.map Idd.enc (jnL d (stkAt d i F B) (stkAt e k F B))))], .cut Ex.normal [(6, AV.box [AV.sl Mode.fresh 62 (some (List.length (halfT (joinT F B d i e k (jnL d (stkAt d i F B) (stkAt e k F B))) (0 : Nat)))) (List.map FW (halfT (joinT F B d i e k (jnL d (stkAt d i F B) (stkAt e k F B))) (0 : Nat))), AV.sl Mode.fresh 62 (some (List.length (halfT (joinT F B d i e k (jnL d (stkAt d i F B) (stkAt e k F B))) (40 : Nat)))) (List.map FW (halfT (joinT F B d i e k (jnL d (stkAt d i F B) (stkAt e k F B))) (40 : Nat)))]), (7, it 0)]]) (ps := [PureC Try.prog 31 [view (AV.agg [bsl cf F, bsl cb B])] (it (chkV F B)), (chkV F B != (0 : Int)) = false, PureC Try.prog 56 [AV.agg [ub d, it i]] (it (if ndV d i = true then (0 : Int) else (1 : Int))), ((if ndV d i = true then (0 : Int) else (1 : Int)) != (0 : Int)) = false, ((if ndV d i = true then (0 : Int) else (1 : Int)) != (0 : Int)) = false, PureC Try.prog 56 [AV.agg [ub e, it k]] (it (if ndV e k = true then (0 : Int) else (1 : Int))), ((if ndV d i = true then (0 : Int) else (1 : Int)) != (0 : Int)) = false, ((if ndV d i = true then (0 : Int) else (1 : Int)) != (0 : Int)) = false, ((if ndV e k = true then (0 : Int) else (1 : Int)) != (0 : Int)) = false, ((if ndV e k = true then (0 : Int) else (1 : Int)) != (0 : Int)) = false, ((if ndV e k = true then (0 : Int) else (1 : Int)) != (0 : Int)) = false, ((if ndV e k = true then (0 : Int) else (1 : Int)) != (0 : Int)) = false, ((if ndV e k = true then (0 : Int) else (1 : Int)) != (0 : Int)) = false, ((if ndV e k = true then (0 : Int) else (1 : Int)) != (0 : Int)) = false, (d == e) = false, PureC Try.prog 33 [view (AV.agg [bsl cf F, bsl cb B]), AV.agg [ub d, it i]] (AV.sl Mode.fresh 30 (some (List.length (stkAt d i F B))) (List.map Idd.enc (stkAt d i F B))), PureC Try.prog 33 [view (AV.agg [bsl cf F, bsl cb B]), AV.agg [ub e, it k]] (AV.sl Mode.fresh 30 (some (List.length (stkAt e k F B))) (List.map Idd.enc (stkAt e k F B))), ((↑(List.length (List.map Idd.enc (stkAt d i F B))) : Int) == (0 : Int)) = false, decide ((4 : Int) < IntKind.wrap IntKind.i64 ((↑(List.length (List.map Idd.enc (stkAt d i F B))) : Int) + (↑(List.length (List.map Idd.enc (stkAt e k F B))) : Int))) = false, Tri Try.prog (cxN (68 : Nat) (0 : Nat)) (codeAt Try.f40 (11 : Nat)) [(3, AV.box [bsl cf F, bsl cb B]), (4, AV.box [ub d, it i]), (5, AV.box [ub e, it k]), (6, AV.box [niln, niln]), (9, AV.sl Mode.fresh 30 (some (List.length (stkAt d i F B))) (List.map Idd.enc (stkAt d i F B))), (10, AV.sl Mode.fresh 30 (some (List.length (stkAt e k F B))) (List.map Idd.enc (stkAt e k F B))), (49, bb (decide ((4 : Int) < IntKind.wrap IntKind.i64 ((↑(List.length (List.map Idd.enc (stkAt d i F B))) : Int) + (↑(List.length (List.map Idd.enc (stkAt e k F B))) : Int)))))] Ex.normal [(3, AV.box [bsl cf F, bsl cb B]), (4, AV.box [ub d, it i]), (5, AV.box [ub e, it k]), (6, AV.box [niln, niln]), (9, AV.sl Mode.fresh 30 (some (List.length (stkAt d i F B))) (List.map Idd.enc (stkAt d i F B))), (10, AV.sl Mode.fresh 30 (some (List.length (stkAt e k F B))) (List.map Idd.enc (stkAt e k F B))), (11, AV.sl Mode.own 30 none (List.map Idd.enc (stkAt e k F B ++ stkAt d i F B)))], Tri Try.prog (cxN (68 : Nat) (0 : Nat)) (codeAt Try.f40 (12 : Nat)) [(3, AV.box [bsl cf F, bsl cb B]), (4, AV.box [ub d, it i]), (5, AV.box [ub e, it k]), (6, AV.box [niln, niln]), (9, AV.sl Mode.fresh 30 (some (List.length (stkAt d i F B))) (List.map Idd.enc (stkAt d i F B))), (10, AV.sl Mode.fresh 30 (some (List.length (stkAt e k F B))) (List.map Idd.enc (stkAt e k F B))), (11, AV.sl Mode.own 30 none (List.map Idd.enc (stkAt e k F B ++ stkAt d i F B)))] Ex.normal [(3, AV.box [bsl cf F, bsl cb B]), (4, AV.box [ub d, it i]), (5, AV.box [ub e, it k]), (6, AV.box [niln, niln]), (11, AV.sl Mode.own 30 none (List.map Idd.enc (jnL d (stkAt d i F B) (stkAt e k F B))))], Tri Try.prog (cxN (68 : Nat) (0 : Nat)) (codeAt Try.f40 (14 : Nat)) [(3, AV.box [bsl cf F, bsl cb B]), (4, AV.box [ub d, it i]), (5, AV.box [ub e, it k]), (6, AV.box [niln, niln]), (11, AV.sl Mode.own 30 none (List.map Idd.enc (jnL d (stkAt d i F B) (stkAt e k F B))))] Ex.normal [(6, AV.box [AV.sl Mode.fresh 62 (some (List.length (halfT (joinT F B d i e k (jnL d (stkAt d i F B) (stkAt e k F B))) (0 : Nat)))) (List.map FW (halfT (joinT F B d i e k (jnL d (stkAt d i F B) (stkAt e k F B))) (0 : Nat))), AV.sl Mode.fresh 62 (some (List.length (halfT (joinT F B d i e k (jnL d (stkAt d i F B) (stkAt e k F B))) (40 : Nat)))) (List.map FW (halfT (joinT F B d i e k (jnL d (stkAt d i F B) (stkAt e k F B))) (40 : Nat)))]), (7, it 0)]]) (base 68 0) Try.func40 rfl (by simp) rfl (by kernel_rfl)  (allp (by (first | rw [view_yn] | rw [view_two] | rw [view_twoI] | rw [view_beds] | rw [view_frW] | rw [view_frN] | rw [view_twoF] | skip); apply chk_c <;> (first | assumption | rfl | (simp at * <;> omega))) (allp g0 (allp (by apply nck_c <;> (first | assumption | rfl | (simp at * <;> omega))) (allp g1 (allp g1 (allp (by apply nck_c <;> (first | assumption | rfl | (simp at * <;> omega))) (allp g1 (allp g1 (allp g2 (allp g2 (allp g2 (allp g2 (allp g2 (allp g2 (allp g3 (allp (by (first | rw [view_yn] | rw [view_two] | rw [view_twoI] | rw [view_beds] | rw [view_frW] | rw [view_frN] | rw [view_twoF] | skip); apply ndlAt_s <;> (first | assumption | rfl | (simp at * <;> omega))) (allp (by (first | rw [view_yn] | rw [view_two] | rw [view_twoI] | rw [view_beds] | rw [view_frW] | rw [view_frN] | rw [view_twoF] | skip); apply ndlAt_s <;> (first | assumption | rfl | (simp at * <;> omega))) (allp g4 (allp g5 (allp (by first | (apply chk_c <;> (first | assumption | rfl | (simp at * <;> omega))) | (apply nck_c <;> (first | assumption | rfl | (simp at * <;> omega))) | (apply ndlAt_s <;> (first | assumption | rfl | (simp at * <;> omega))) | (apply j11_c <;> (first | assumption | rfl | (simp at * <;> omega))) | (refine Tri.weak [(3, .keep), (4, .keep), (5, .keep), (6, .keep), (9, .keep), (10, .keep)] ?_; apply j11_c <;> (first | assumption | rfl | (simp at * <;> omega))) | (apply j12_c <;> (first | assumption | rfl | (simp at * <;> omega))) | (refine Tri.weak [(3, .keep), (4, .keep), (5, .keep), (6, .keep), (9, .keep), (10, .keep), (11, .keep)] ?_; apply j12_c <;> (first | assumption | rfl | (simp at * <;> omega))) | (apply j14_c <;> (first | assumption | rfl | (simp at * <;> omega))) | (refine Tri.weak [(3, .keep), (4, .keep), (5, .keep), (6, .keep), (11, .keep)] ?_; apply j14_c <;> (first | assumption | rfl | (simp at * <;> omega)))) (allp (by first | (apply chk_c <;> (first | assumption | rfl | (simp at * <;> omega))) | (apply nck_c <;> (first | assumption | rfl | (simp at * <;> omega))) | (apply ndlAt_s <;> (first | assumption | rfl | (simp at * <;> omega))) | (apply j11_c <;> (first | assumption | rfl | (simp at * <;> omega))) | (refine Tri.weak [(3, .keep), (4, .keep), (5, .keep), (6, .keep), (9, .keep), (10, .keep)] ?_; apply j11_c <;> (first | assumption | rfl | (simp at * <;> omega))) | (apply j12_c <;> (first | assumption | rfl | (simp at * <;> omega))) | (refine Tri.weak [(3, .keep), (4, .keep), (5, .keep), (6, .keep), (9, .keep), (10, .keep), (11, .keep)] ?_; apply j12_c <;> (first | assumption | rfl | (simp at * <;> omega))) | (apply j14_c <;> (first | assumption | rfl | (simp at * <;> omega))) | (refine Tri.weak [(3, .keep), (4, .keep), (5, .keep), (6, .keep), (11, .keep)] ?_; apply j14_c <;> (first | assumption | rfl | (simp at * <;> omega)))) (allp (by first | (apply chk_c <;> (first | assumption | rfl | (simp at * <;> omega))) | (apply nck_c <;> (first | assumption | rfl | (simp at * <;> omega))) | (apply ndlAt_s <;> (first | assumption | rfl | (simp at * <;> omega))) | (apply j11_c <;> (first | assumption | rfl | (simp at * <;> omega))) | (refine Tri.weak [(3, .keep), (4, .keep), (5, .keep), (6, .keep), (9, .keep), (10, .keep)] ?_; apply j11_c <;> (first | assumption | rfl | (simp at * <;> omega))) | (apply j12_c <;> (first | assumption | rfl | (simp at * <;> omega))) | (refine Tri.weak [(3, .keep), (4, .keep), (5, .keep), (6, .keep), (9, .keep), (10, .keep), (11, .keep)] ?_; apply j12_c <;> (first | assumption | rfl | (simp at * <;> omega))) | (apply j14_c <;> (first | assumption | rfl | (simp at * <;> omega))) | (refine Tri.weak [(3, .keep), (4, .keep), (5, .keep), (6, .keep), (11, .keep)] ?_; apply j14_c <;> (first | assumption | rfl | (simp at * <;> omega)))) allp_nil))))))))))))))))))))))
end Tst
end

section
open Go Go.Lf Go.Proofs
namespace Tst
def joinV (F B : List Stk) (d i e k : Int) : AV :=
  if chkV F B != 0 then nilR (chkV F B) else if !ndV d i || !ndV e k || d == e then nilR 1
  else if (stkAt d i F B).length = 0 then nilR 13 else if 4 < (stkAt d i F B).length + (stkAt e k F B).length then nilR 9
  else bedsR (halfT (joinT F B d i e k (jnL d (stkAt d i F B) (stkAt e k F B))) 0) (halfT (joinT F B d i e k (jnL d (stkAt d i F B) (stkAt e k F B))) 40)
theorem jnL_len (d : Int) (l m : List Idd) : (jnL d l m).length = l.length + m.length := by
  unfold jnL
  split <;> simp <;> omega
theorem itms_mem_F {F B : List Stk} (hF : F.length ≤ 40) {s : Stk} (h : s ∈ F) : ∃ t ∈ itms F B, t.2.2 = s := by
  obtain ⟨j, hj, rfl⟩ := List.mem_iff_getElem.1 h
  refine ⟨(0, (j : Int) + 1, F[j]), List.mem_append.2 (.inl (List.mem_map.2 ⟨(F[j], j), ?_, rfl⟩)), rfl⟩
  rw [List.take_of_length_le hF]
  exact List.mem_zipIdx_iff_getElem?.2 (by simp [hj])
theorem itms_mem_B {F B : List Stk} (hB : B.length ≤ 40) {s : Stk} (h : s ∈ B) : ∃ t ∈ itms F B, t.2.2 = s := by
  obtain ⟨j, hj, rfl⟩ := List.mem_iff_getElem.1 h
  refine ⟨(1, (j : Int) + 1, B[j]), List.mem_append.2 (.inr (List.mem_map.2 ⟨(B[j], j), ?_, rfl⟩)), rfl⟩
  rw [List.take_of_length_le hB]
  exact List.mem_zipIdx_iff_getElem?.2 (by simp [hj])
theorem stkAt_len {F B : List Stk} {n : Nat} (hf : ∀ s ∈ F, s.l.length ≤ n) (hb : ∀ s ∈ B, s.l.length ≤ n) (d i : Int) : (stkAt d i F B).length ≤ n := by
  unfold stkAt stackOf
  split
  · split
    · have key : ∀ l : List Stk, (∀ s ∈ l, s.l.length ≤ n) → ∀ j, (l.getD j default).l.length ≤ n := by
        intro l hl j
        rw [List.getD_eq_getElem?_getD]
        cases hj : l[j]? with
        | none => exact Nat.zero_le _
        | some s => exact hl s (List.mem_of_getElem? hj)
      first | exact key _ hf _ | exact key _ hb _
    · simp
  · split
    · have key : ∀ l : List Stk, (∀ s ∈ l, s.l.length ≤ n) → ∀ j, (l.getD j default).l.length ≤ n := by
        intro l hl j
        rw [List.getD_eq_getElem?_getD]
        cases hj : l[j]? with
        | none => exact Nat.zero_le _
        | some s => exact hl s (List.mem_of_getElem? hj)
      first | exact key _ hf _ | exact key _ hb _
    · simp
theorem join_c (cf cb : Option Nat) (F B : List Stk) (d i e k : Int) : PureC Try.prog 40 [beds (bsl cf F) (bsl cb B), ndl d i, ndl e k] (joinV F B d i e k) := by
  unfold joinV
  cases hc : (chkV F B != 0) with
  | true => exact jnA_0 cf cb F B d i e k hc hc
  | false =>
    have hc0 : chkV F B = 0 := by simpa using hc
    obtain ⟨hF, hB, hA⟩ := chk_len hc0
    have hf : ∀ s ∈ F, s.l.length ≤ 4 := fun s hs => by obtain ⟨t, ht, rfl⟩ := itms_mem_F (B := B) hF hs; exact hA t ht
    have hb : ∀ s ∈ B, s.l.length ≤ 4 := fun s hs => by obtain ⟨t, ht, rfl⟩ := itms_mem_B (F := F) hB hs; exact hA t ht
    cases v1 : ndV d i with
    | false => exact jnB_0 cf cb F B d i e k hc hc (by rw [v1]; rfl)
    | true =>
      have hn : ((if ndV d i = true then (0 : Int) else (1 : Int)) != (0 : Int)) = false := by rw [v1]; rfl
      cases v2 : ndV e k with
      | false => exact jnB_1 cf cb F B d i e k hc hc hn (by rw [v2]; rfl)
      | true =>
        have hn2 : ((if ndV e k = true then (0 : Int) else (1 : Int)) != (0 : Int)) = false := by rw [v2]; rfl
        cases hne : (d == e) with
        | true => exact jnB_2 cf cb F B d i e k hc hc hn hn2 hne
        | false =>
          obtain ⟨hd, h1, h2⟩ := ndV_in v1
          obtain ⟨he, h3, h4⟩ := ndV_in v2
          have hl := stkAt_len hf hb d i
          have hm := stkAt_len hf hb e k
          have hf' : ∀ s ∈ F, s.l.length ≤ 4294967296 := fun s hs => by have := hf s hs; omega
          have hb' : ∀ s ∈ B, s.l.length ≤ 4294967296 := fun s hs => by have := hb s hs; omega
          have hA' : ∀ t ∈ itms F B, t.2.2.l.length ≤ 4294967296 := fun t ht => by have := hA t ht; omega
          have hJ : (jnL d (stkAt d i F B) (stkAt e k F B)).length ≤ 4294967296 := by rw [jnL_len]; omega
          have hlen := withT_len4 (F := F) (B := B) (d := d) (i := i) (l := []) (n := 4) hA (by simp)
          have hW : ∀ t ∈ itms (stkW (halfT (withT F B d i []) 0)) (stkW (halfT (withT F B d i []) 40)), t.2.2.l.length ≤ 4294967296 := by
            intro t ht
            rcases itms_stkW_mem ht with h | h <;> have := hlen _ (halfT_mem h) <;> omega
          have hw : IntKind.wrap IntKind.i64 ((((stkAt d i F B).map Idd.enc).length : Int) + (((stkAt e k F B).map Idd.enc).length : Int)) = (((stkAt d i F B).length + (stkAt e k F B).length : Nat) : Int) := by
            rw [wrap_id' (by omega) (by simp; omega), List.length_map, List.length_map]; omega
          by_cases g4 : (stkAt d i F B).length = 0
          · simp only [if_pos g4]
            exact jnE_0 cf cb F B d i e k hc hn hn2 hne v1 v2 hf' hb' (by omega) (by omega) hd h1 h2 he h3 h4 hA' hJ hW hc hn hn2 hne (by rw [List.length_map, g4]; rfl)
          · simp only [if_neg g4]
            have g4' : ((((stkAt d i F B).map Idd.enc).length : Int) == 0) = false := by rw [List.length_map, beq_eq_false_iff_ne]; omega
            by_cases g5 : 4 < (stkAt d i F B).length + (stkAt e k F B).length
            · simp only [if_pos g5]
              exact jnE_1 cf cb F B d i e k hc hn hn2 hne v1 v2 hf' hb' (by omega) (by omega) hd h1 h2 he h3 h4 hA' hJ hW hc hn hn2 hne g4' (by rw [hw]; exact decide_eq_true (by omega))
            · simp only [if_neg g5]
              have h := jnE_2 cf cb F B d i e k hc hn hn2 hne v1 v2 hf' hb' (by omega) (by omega) hd h1 h2 he h3 h4 hA' hJ hW hc hn hn2 hne g4' (by rw [hw]; exact decide_eq_false (by omega))
              rw [smap_FW, smap_FW] at h
              exact h
end Tst
end

section
open Go Go.Lf Go.Proofs
namespace Tst
set_option maxHeartbeats 0
theorem f2_len {α β : Type} {R : α → β → Prop} {l : List α} {m : List β} (h : F2 R l m) : l.length = m.length := by
  induction h with
  | nil => rfl
  | cons _ _ ih => simp [ih]
theorem Le.toAny {P : Program} {m : Lf.Mode} (hm : m ≠ .own) {e : TypeId} {c : Option Nat} {xs ys : List AV} (hl : xs.length = ys.length) (hu : ∀ sz, Uni sz xs → Uni sz ys) (hf : F2 (Le P) (flat xs) (flat ys)) : Le P (.sl m e c xs) (.sl .any e c ys) := by
  intro B0 w S n v O hr
  obtain ⟨n, rfl⟩ := hr.pos
  have key : ∀ m', Shs P B0 w S (Rv P B0 w S n) m' e c xs v O → Shs P B0 w S (Rv P B0 w S n) .any e c ys v O := by
    intro m' ⟨A, k, hv, hk, hm, hc, hx, hz, h⟩
    refine ⟨A, k, by rw [hv, hl], by omega, hm, hc, hu _ hx, hz, fun hne => ?_⟩
    obtain ⟨g, off, C, T, fr, h1, h2, h3, h4, h5, h6⟩ := h (fun e => hne (List.eq_nil_of_length_eq_zero (by rw [← hl, e]; rfl)))
    have hfl : (flat xs).length = (flat ys).length := f2_len hf
    exact ⟨g, off, C, T, fr, h1, h2, fun h => by (cases h), h4, by rw [← hfl]; exact h5, by rw [← hfl]; exact Rc.le2 (ys := flat ys) h6 hf⟩
  cases m with
  | own => exact absurd rfl hm
  | fresh => exact key _ hr
  | any => exact key _ hr
theorem flat_ones {xs : List AV} (h : ∀ x ∈ xs, x.ecells = [x]) : flat xs = xs := by
  induction xs with
  | nil => rfl
  | cons x xs ih => rw [flat_cons, h x (by simp), ih fun y hy => h y (by simp [hy])]; rfl
theorem F2.map2 {α β γ : Type} {R : α → β → Prop} {f : γ → α} {g : γ → β} (h : ∀ x, R (f x) (g x)) : ∀ l : List γ, F2 R (l.map f) (l.map g)
  | [] => .nil
  | x :: l => .cons (h x) (F2.map2 h l)
theorem F2.rfl' {P : Program} : ∀ l : List AV, F2 (Le P) l l
  | [] => .nil
  | x :: l => .cons (Le.refl x) (F2.rfl' l)
theorem Le.fwE {P : Program} (l : List Idd) : Le P (FW l) (Stk.enc ⟨some l.length, l⟩) := Le.toAny (by simp) rfl (fun _ h => h) (F2.rfl' _)
theorem Le.frW {P : Program} (x : List (List Idd)) : Le P (frW x) (bsl (some x.length) (stkW x)) := by
  have e : (stkW x).map Stk.enc = x.map fun l => Stk.enc ⟨some l.length, l⟩ := by unfold stkW; rw [List.map_map]; rfl
  show Le P (.sl .fresh 62 (some x.length) (x.map FW)) (.sl .any 62 (some x.length) ((stkW x).map Stk.enc))
  rw [e]
  refine Le.toAny (by simp) (by simp) (fun sz h y hy => ?_) ?_
  · obtain ⟨l, hl, rfl⟩ := List.mem_map.1 hy
    have := h (FW l) (List.mem_map.2 ⟨l, hl, rfl⟩)
    exact this
  · rw [flat_ones (fun y hy => by obtain ⟨l, _, rfl⟩ := List.mem_map.1 hy; rfl), flat_ones (fun y hy => by obtain ⟨l, _, rfl⟩ := List.mem_map.1 hy; rfl)]
    exact F2.map2 (fun l => Le.fwE l) x
abbrev ia : Idd := ⟨1, 0⟩
abbrev ib : Idd := ⟨1, 1⟩
abbrev ic : Idd := ⟨2, 0⟩
abbrev XF : List Stk := [⟨some 0, []⟩, ⟨some 2, [ia, ib]⟩]
abbrev XB : List Stk := [⟨some 0, []⟩, ⟨some 1, [ic]⟩]
abbrev bX : AV := beds (bsl (some 2) XF) (bsl (some 2) XB)
abbrev YB : List Stk := [⟨some 0, []⟩, ⟨some 3, [ic, ia, ib]⟩]
abbrev bY : AV := beds (bsl (some 0) []) (bsl (some 2) YB)
abbrev bZ : AV := beds (bsl (some 2) YB) (bsl (some 0) [])
abbrev VF : List Stk := [⟨some 0, []⟩, ⟨some 1, [ib]⟩]
abbrev VB : List Stk := [⟨some 0, []⟩, ⟨some 1, [ic]⟩]
abbrev bV : AV := beds (bsl (some 2) VF) (bsl (some 2) VB)
theorem x_find : PureC Try.prog 35 [bX, .agg [ub 2, it 0]] (.tup [ndl 1 2, it 0]) :=
  fdy_0 (some 2) (some 2) XF XB ic (by decide) [(0, 1, ⟨some 0, []⟩), (0, 2, ⟨some 2, [ia, ib]⟩), (1, 1, ⟨some 0, []⟩)] (1, 2, ⟨some 1, [ic]⟩) [] rfl (by decide) (by decide)
theorem x_chk : PureC Try.prog 31 [bX] (it 0) := chk_c (some 2) (some 2) XF XB
theorem x_at2 : PureC Try.prog 33 [bX, ndl 0 2] (iow (some 2) [ia, ib]) := ndlAt_v 0 2 (some 2) (some 2) XF XB rfl (by decide) (by decide)
theorem x_at1 : PureC Try.prog 33 [bX, ndl 0 1] (iow (some 0) []) := ndlAt_v 0 1 (some 2) (some 2) XF XB rfl (by decide) (by decide)
theorem x_cnt : PureC Try.prog 36 [bX] (it 3) := cn_0 (some 2) (some 2) XF XB (by decide)
theorem x_jn1 : PureC Try.prog 40 [bX, ndl 0 2, ndl 1 2] (.tup [.agg [.sl .fresh 62 (some 0) [], .sl .fresh 62 (some 2) [.sl .fresh 30 (some 0) [], .sl .fresh 30 (some 3) [Idd.enc ic, Idd.enc ia, Idd.enc ib]]], it 0]) := join_c (some 2) (some 2) XF XB 0 2 1 2
theorem x_jn2 : PureC Try.prog 40 [bX, ndl 1 2, ndl 0 2] (.tup [.agg [.sl .fresh 62 (some 2) [.sl .fresh 30 (some 0) [], .sl .fresh 30 (some 3) [Idd.enc ic, Idd.enc ia, Idd.enc ib]], .sl .fresh 62 (some 0) []], it 0]) := join_c (some 2) (some 2) XF XB 1 2 0 2
theorem x_jn3 : PureC Try.prog 40 [bX, ndl 0 1, ndl 1 1] (nilR 13) := join_c (some 2) (some 2) XF XB 0 1 1 1
theorem x_jn4 : PureC Try.prog 40 [bX, ndl 0 2, ndl 0 3] (nilR 1) := join_c (some 2) (some 2) XF XB 0 2 0 3
theorem x_set1 : PureC Try.prog 38 [bX, ndl 0 1, isl (some 1) [ic]] (nilR 8) := set_c (some 2) (some 2) (some 1) XF XB 0 1 [ic] (by decide)
theorem x_set2 : PureC Try.prog 38 [bX, ndl 0 2, isl (some 1) [ib]] (.tup [.agg [.sl .fresh 62 (some 2) [.sl .fresh 30 (some 0) [], .sl .fresh 30 (some 1) [Idd.enc ib]], .sl .fresh 62 (some 2) [.sl .fresh 30 (some 0) [], .sl .fresh 30 (some 1) [Idd.enc ic]]], it 0]) := set_c (some 2) (some 2) (some 1) XF XB 0 2 [ib] (by decide)
theorem y_at : PureC Try.prog 33 [bY, ndl 1 2] (iow (some 3) [ic, ia, ib]) := ndlAt_v 1 2 (some 0) (some 2) [] YB rfl (by decide) (by decide)
theorem z_at : PureC Try.prog 33 [bZ, ndl 0 2] (iow (some 3) [ic, ia, ib]) := ndlAt_v 0 2 (some 2) (some 0) YB [] rfl (by decide) (by decide)
theorem v_at : PureC Try.prog 33 [bV, ndl 0 2] (iow (some 1) [ib]) := ndlAt_v 0 2 (some 2) (some 2) VF VB rfl (by decide) (by decide)
theorem v_cnt : PureC Try.prog 36 [bV] (it 2) := cn_0 (some 2) (some 2) VF VB (by decide)
theorem s_y : PureC Try.prog 41 [isl (some 3) [ic, ia, ib], isl (some 3) [ic, ia, ib]] (it 1) := s41_c 3 (some 3) [ic, ia, ib] [ic, ia, ib] (by decide)
theorem s_v : PureC Try.prog 41 [isl (some 1) [ib], isl (some 1) [ib]] (it 1) := s41_c 1 (some 1) [ib] [ib] (by decide)
abbrev tXF : AV := .sl .any 62 (some 2) [.sl .any 30 (some 0) [], .sl .any 30 (some 2) [Idd.enc ia, Idd.enc ib]]
abbrev tXB : AV := .sl .any 62 (some 2) [.sl .any 30 (some 0) [], .sl .any 30 (some 1) [Idd.enc ic]]
abbrev tYB : AV := .sl .any 62 (some 2) [.sl .any 30 (some 0) [], .sl .any 30 (some 3) [Idd.enc ic, Idd.enc ia, Idd.enc ib]]
abbrev tVF : AV := .sl .any 62 (some 2) [.sl .any 30 (some 0) [], .sl .any 30 (some 1) [Idd.enc ib]]
abbrev tVB : AV := .sl .any 62 (some 2) [.sl .any 30 (some 0) [], .sl .any 30 (some 1) [Idd.enc ic]]
abbrev tN : AV := .sl .any 62 (some 0) []
abbrev eX : AV := .box [tXF, tXB]
abbrev eY : AV := .box [tN, tYB]
abbrev eZ : AV := .box [tYB, tN]
abbrev eV : AV := .box [tVF, tVB]
end Tst
end

section
open Go Go.Lf Go.Proofs
namespace Tst
set_option maxHeartbeats 0
theorem l0_0 (u : Nat) : Tri Try.prog (cxN 174 0) (regAt Try.f37 0) ([] ) (Ex.normal) ([]) :=
  evA_ok (H := h37) (ans := [.c]) (ps := []) (ans' := []) (base 174 0) cxA_K.1 cxA_K.2 _ (by kernel_rfl)  allp_nil
theorem l1_0 (u : Nat) : Tri Try.prog (cxN 174 0) (regAt Try.f37 1) ([] ) (Ex.normal) ([(1, AV.box [ub 1, it 0]), (2, AV.box [ub 1, it 1]), (3, AV.box [ub 2, it 0])]) :=
  evA_ok (H := h37) (ans := [.c, .c, .c, .c, .c, .c, .c, .c, .c]) (ps := []) (ans' := []) (base 174 0) cxA_K.1 cxA_K.2 _ (by kernel_rfl)  allp_nil
theorem l3_0 (u : Nat) : Tri Try.prog (cxN 174 0) (regAt Try.f37 3) ([(1, .box [ub 1, it 0]), (2, .box [ub 1, it 1]), (3, .box [ub 2, it 0]), (4, eX)] ) (Ex.normal) ([(1, AV.box [ub 1, it 0]), (2, AV.box [ub 1, it 1]), (3, AV.box [ub 2, it 0]), (4, eX), (5, AV.box [ub 0, it 1]), (6, AV.box [ub 0, it 2]), (7, AV.box [ub 1, it 2])]) :=
  evA_ok (H := h37) (ans := [.c, .c, .c, .c, .c, .c, .c, .c, .c]) (ps := []) (ans' := []) (base 174 0) cxA_K.1 cxA_K.2 _ (by kernel_rfl)  allp_nil
theorem l4_0 (u : Nat) : Tri Try.prog (cxN 174 0) (regAt Try.f37 4) ([(1, .box [ub 1, it 0]), (2, .box [ub 1, it 1]), (3, .box [ub 2, it 0]), (4, eX), (5, .box [ub 0, it 1]), (6, .box [ub 0, it 2]), (7, .box [ub 1, it 2])] ) (Ex.normal) ([(1, AV.box [ub 1, it 0]), (2, AV.box [ub 1, it 1]), (3, AV.box [ub 2, it 0]), (4, eX), (5, AV.box [ub 0, it 1]), (6, AV.box [ub 0, it 2]), (7, AV.box [ub 1, it 2]), (8, AV.box [ub 1, it 2]), (9, it 0)]) :=
  evA_ok (H := h37) (ans := [.c, .c, .r (AV.tup [AV.agg [ub 1, it 2], it 0]), .c, .c, .c, .c, .c, .c, .c, .c]) (ps := [PureC Try.prog 35 [view (AV.agg [tXF, tXB]), AV.agg [ub 2, it 0]] (AV.tup [AV.agg [ub 1, it 2], it 0])]) (ans' := []) (base 174 0) cxA_K.1 cxA_K.2 _ (by kernel_rfl)  (allp (by (first | rw [view_yn] | rw [view_two] | rw [view_twoI] | rw [view_beds] | rw [view_frW] | rw [view_frN] | rw [view_twoF] | skip); apply x_find <;> (first | assumption | rfl | (simp at * <;> omega))) allp_nil)
theorem l5_0 (u : Nat) (g0 : AV.sl Mode.own 30 (some 2) [Idd.enc ia, Idd.enc ib] = AV.sl Mode.own 30 (some 2) (List.map Idd.enc [ia, { y := Idd.y ib, n := Idd.n ib }])) (g1 : AV.sl Mode.own 30 (some 0) [] = AV.sl Mode.own 30 (some 0) (List.map Idd.enc [])) : Tri Try.prog (cxN 174 0) (regAt Try.f37 5) ([(1, .box [ub 1, it 0]), (2, .box [ub 1, it 1]), (3, .box [ub 2, it 0]), (4, eX), (5, .box [ub 0, it 1]), (6, .box [ub 0, it 2]), (7, .box [ub 1, it 2]), (8, .box [ub 1, it 2]), (9, it 0)] ) (Ex.normal) ([(1, AV.box [ub 1, it 0]), (2, AV.box [ub 1, it 1]), (3, AV.box [ub 2, it 0]), (4, eX), (5, AV.box [ub 0, it 1]), (6, AV.box [ub 0, it 2]), (7, AV.box [ub 1, it 2]), (67, bb ((0 : Int) != (0 : Int)))]) :=
  evA_ok (H := h37) (ans := [.c, .r (it 0), .c, .c, .c, .c, .c, .c, .c, .c, .c, .r (AV.sl Mode.own 30 (some 2) [Idd.enc ia, Idd.enc ib]), .c, .r (AV.sl Mode.own 30 (some 2) (List.map Idd.enc [ia, { y := Idd.y ib, n := Idd.n ib }])), .c, .c, .c, .c, .c, .c, .c, .c, .c, .c, .c, .c, .r (AV.sl Mode.own 30 (some 0) []), .c, .r (AV.sl Mode.own 30 (some 0) (List.map Idd.enc [])), .c, .c, .c, .c, .c, .c, .c, .c, .c, .c, .r (it 3), .c, .c, .c, .c, .c, .c, .c, .c, .c, .c, .c, .c, .c, .c, .c, .c, .c, .c, .c, .c, .c, .c]) (ps := [PureC Try.prog 31 [view (AV.agg [tXF, tXB])] (it 0), PureC Try.prog 33 [view (AV.agg [tXF, tXB]), AV.agg [ub 0, it 2]] (AV.sl Mode.own 30 (some 2) [Idd.enc ia, Idd.enc ib]), AV.sl Mode.own 30 (some 2) [Idd.enc ia, Idd.enc ib] = AV.sl Mode.own 30 (some 2) (List.map Idd.enc [ia, { y := Idd.y ib, n := Idd.n ib }]), PureC Try.prog 33 [view (AV.agg [tXF, tXB]), AV.agg [ub 0, it 1]] (AV.sl Mode.own 30 (some 0) []), AV.sl Mode.own 30 (some 0) [] = AV.sl Mode.own 30 (some 0) (List.map Idd.enc []), PureC Try.prog 36 [view (AV.agg [tXF, tXB])] (it 3)]) (ans' := []) (base 174 0) cxA_K.1 cxA_K.2 _ (by kernel_rfl)  (allp (by (first | rw [view_yn] | rw [view_two] | rw [view_twoI] | rw [view_beds] | rw [view_frW] | rw [view_frN] | rw [view_twoF] | skip); apply x_chk <;> (first | assumption | rfl | (simp at * <;> omega))) (allp (by (first | rw [view_yn] | rw [view_two] | rw [view_twoI] | rw [view_beds] | rw [view_frW] | rw [view_frN] | rw [view_twoF] | skip); first | (apply x_at2 <;> (first | assumption | rfl | (simp at * <;> omega))) | (apply x_at1 <;> (first | assumption | rfl | (simp at * <;> omega)))) (allp g0 (allp (by (first | rw [view_yn] | rw [view_two] | rw [view_twoI] | rw [view_beds] | rw [view_frW] | rw [view_frN] | rw [view_twoF] | skip); first | (apply x_at2 <;> (first | assumption | rfl | (simp at * <;> omega))) | (apply x_at1 <;> (first | assumption | rfl | (simp at * <;> omega)))) (allp g1 (allp (by (first | rw [view_yn] | rw [view_two] | rw [view_twoI] | rw [view_beds] | rw [view_frW] | rw [view_frN] | rw [view_twoF] | skip); apply x_cnt <;> (first | assumption | rfl | (simp at * <;> omega))) allp_nil))))))
theorem l7_0 (u : Nat) (g0 : AV.agg [AV.sl Mode.fresh 62 (some 0) [], AV.sl Mode.fresh 62 (some 2) [AV.sl Mode.fresh 30 (some 0) [], AV.sl Mode.fresh 30 (some 3) [Idd.enc ic, Idd.enc ia, Idd.enc ib]]] = AV.agg [AV.sl Mode.fresh 62 (some 0) (List.map Stk.enc []), AV.sl Mode.fresh 62 (some 2) [AV.sl Mode.fresh 30 (some 0) [], AV.sl Mode.fresh 30 (some 3) [Idd.enc ic, Idd.enc ia, Idd.enc ib]]]) : Tri Try.prog (cxN 174 0) (regAt Try.f37 7) ([(1, .box [ub 1, it 0]), (2, .box [ub 1, it 1]), (3, .box [ub 2, it 0]), (4, eX), (5, .box [ub 0, it 1]), (6, .box [ub 0, it 2]), (7, .box [ub 1, it 2])] ) (Ex.normal) ([(1, AV.box [ub 1, it 0]), (2, AV.box [ub 1, it 1]), (3, AV.box [ub 2, it 0]), (4, eX), (5, AV.box [ub 0, it 1]), (6, AV.box [ub 0, it 2]), (7, AV.box [ub 1, it 2]), (9, it 0), (10, AV.box [AV.sl Mode.fresh 62 (some 0) [], AV.sl Mode.fresh 62 (some 2) [AV.sl Mode.fresh 30 (some 0) [], AV.sl Mode.fresh 30 (some 3) [Idd.enc ic, Idd.enc ia, Idd.enc ib]]])]) :=
  evA_ok (H := h37) (ans := [.c, .c, .c, .r (AV.tup [AV.agg [AV.sl Mode.fresh 62 (some 0) [], AV.sl Mode.fresh 62 (some 2) [AV.sl Mode.fresh 30 (some 0) [], AV.sl Mode.fresh 30 (some 3) [Idd.enc ic, Idd.enc ia, Idd.enc ib]]], it 0]), .c, .c, .c, .r (AV.agg [AV.sl Mode.fresh 62 (some 0) (List.map Stk.enc []), AV.sl Mode.fresh 62 (some 2) [AV.sl Mode.fresh 30 (some 0) [], AV.sl Mode.fresh 30 (some 3) [Idd.enc ic, Idd.enc ia, Idd.enc ib]]]), .c, .c, .c, .c]) (ps := [PureC Try.prog 40 [view (AV.agg [tXF, tXB]), AV.agg [ub 0, it 2], AV.agg [ub 1, it 2]] (AV.tup [AV.agg [AV.sl Mode.fresh 62 (some 0) [], AV.sl Mode.fresh 62 (some 2) [AV.sl Mode.fresh 30 (some 0) [], AV.sl Mode.fresh 30 (some 3) [Idd.enc ic, Idd.enc ia, Idd.enc ib]]], it 0]), AV.agg [AV.sl Mode.fresh 62 (some 0) [], AV.sl Mode.fresh 62 (some 2) [AV.sl Mode.fresh 30 (some 0) [], AV.sl Mode.fresh 30 (some 3) [Idd.enc ic, Idd.enc ia, Idd.enc ib]]] = AV.agg [AV.sl Mode.fresh 62 (some 0) (List.map Stk.enc []), AV.sl Mode.fresh 62 (some 2) [AV.sl Mode.fresh 30 (some 0) [], AV.sl Mode.fresh 30 (some 3) [Idd.enc ic, Idd.enc ia, Idd.enc ib]]]]) (ans' := []) (base 174 0) cxA_K.1 cxA_K.2 _ (by kernel_rfl)  (allp (by (first | rw [view_yn] | rw [view_two] | rw [view_twoI] | rw [view_beds] | rw [view_frW] | rw [view_frN] | rw [view_twoF] | skip); apply x_jn1 <;> (first | assumption | rfl | (simp at * <;> omega))) (allp g0 allp_nil))
theorem l8_0 (u : Nat) (g0 : AV.agg [AV.sl Mode.fresh 62 (some 2) [AV.sl Mode.fresh 30 (some 0) [], AV.sl Mode.fresh 30 (some 3) [Idd.enc ic, Idd.enc ia, Idd.enc ib]], AV.sl Mode.fresh 62 (some 0) []] = AV.agg [AV.sl Mode.fresh 62 (some 2) [AV.sl Mode.fresh 30 (some 0) [], AV.sl Mode.fresh 30 (some 3) [Idd.enc ic, Idd.enc ia, Idd.enc ib]], AV.sl Mode.fresh 62 (some 0) (List.map Stk.enc [])]) : Tri Try.prog (cxN 174 0) (regAt Try.f37 8) ([(1, .box [ub 1, it 0]), (2, .box [ub 1, it 1]), (3, .box [ub 2, it 0]), (4, eX), (5, .box [ub 0, it 1]), (6, .box [ub 0, it 2]), (7, .box [ub 1, it 2]), (9, it 0), (10, eY)] ) (Ex.normal) ([(1, AV.box [ub 1, it 0]), (2, AV.box [ub 1, it 1]), (3, AV.box [ub 2, it 0]), (4, eX), (5, AV.box [ub 0, it 1]), (6, AV.box [ub 0, it 2]), (7, AV.box [ub 1, it 2]), (9, it 0), (10, eY), (11, AV.box [AV.sl Mode.fresh 62 (some 2) [AV.sl Mode.fresh 30 (some 0) [], AV.sl Mode.fresh 30 (some 3) [Idd.enc ic, Idd.enc ia, Idd.enc ib]], AV.sl Mode.fresh 62 (some 0) []]), (12, it 0)]) :=
  evA_ok (H := h37) (ans := [.c, .c, .c, .r (AV.tup [AV.agg [AV.sl Mode.fresh 62 (some 2) [AV.sl Mode.fresh 30 (some 0) [], AV.sl Mode.fresh 30 (some 3) [Idd.enc ic, Idd.enc ia, Idd.enc ib]], AV.sl Mode.fresh 62 (some 0) []], it 0]), .c, .c, .c, .r (AV.agg [AV.sl Mode.fresh 62 (some 2) [AV.sl Mode.fresh 30 (some 0) [], AV.sl Mode.fresh 30 (some 3) [Idd.enc ic, Idd.enc ia, Idd.enc ib]], AV.sl Mode.fresh 62 (some 0) (List.map Stk.enc [])]), .c, .c, .c, .c]) (ps := [PureC Try.prog 40 [view (AV.agg [tXF, tXB]), AV.agg [ub 1, it 2], AV.agg [ub 0, it 2]] (AV.tup [AV.agg [AV.sl Mode.fresh 62 (some 2) [AV.sl Mode.fresh 30 (some 0) [], AV.sl Mode.fresh 30 (some 3) [Idd.enc ic, Idd.enc ia, Idd.enc ib]], AV.sl Mode.fresh 62 (some 0) []], it 0]), AV.agg [AV.sl Mode.fresh 62 (some 2) [AV.sl Mode.fresh 30 (some 0) [], AV.sl Mode.fresh 30 (some 3) [Idd.enc ic, Idd.enc ia, Idd.enc ib]], AV.sl Mode.fresh 62 (some 0) []] = AV.agg [AV.sl Mode.fresh 62 (some 2) [AV.sl Mode.fresh 30 (some 0) [], AV.sl Mode.fresh 30 (some 3) [Idd.enc ic, Idd.enc ia, Idd.enc ib]], AV.sl Mode.fresh 62 (some 0) (List.map Stk.enc [])]]) (ans' := []) (base 174 0) cxA_K.1 cxA_K.2 _ (by kernel_rfl)  (allp (by (first | rw [view_yn] | rw [view_two] | rw [view_twoI] | rw [view_beds] | rw [view_frW] | rw [view_frN] | rw [view_twoF] | skip); apply x_jn2 <;> (first | assumption | rfl | (simp at * <;> omega))) (allp g0 allp_nil))
theorem l9_0 (u : Nat) : Tri Try.prog (cxN 174 0) (regAt Try.f37 9) ([(1, .box [ub 1, it 0]), (2, .box [ub 1, it 1]), (3, .box [ub 2, it 0]), (4, eX), (5, .box [ub 0, it 1]), (6, .box [ub 0, it 2]), (7, .box [ub 1, it 2]), (9, it 0), (10, eY), (11, eZ), (12, it 0)] ) (Ex.normal) ([(1, AV.box [ub 1, it 0]), (2, AV.box [ub 1, it 1]), (3, AV.box [ub 2, it 0]), (4, eX), (5, AV.box [ub 0, it 1]), (6, AV.box [ub 0, it 2]), (7, AV.box [ub 1, it 2]), (9, it 0), (10, eY), (11, eZ), (12, it 0), (14, it 13)]) :=
  evA_ok (H := h37) (ans := [.c, .c, .c, .r (AV.tup [AV.agg [niln, niln], it 13]), .c, .c, .c, .c, .c, .c, .c, .c]) (ps := [PureC Try.prog 40 [view (AV.agg [tXF, tXB]), AV.agg [ub 0, it 1], AV.agg [ub 1, it 1]] (AV.tup [AV.agg [niln, niln], it 13])]) (ans' := []) (base 174 0) cxA_K.1 cxA_K.2 _ (by kernel_rfl)  (allp (by (first | rw [view_yn] | rw [view_two] | rw [view_twoI] | rw [view_beds] | rw [view_frW] | rw [view_frN] | rw [view_twoF] | skip); apply x_jn3 <;> (first | assumption | rfl | (simp at * <;> omega))) allp_nil)
theorem l10_0 (u : Nat) : Tri Try.prog (cxN 174 0) (regAt Try.f37 10) ([(1, .box [ub 1, it 0]), (2, .box [ub 1, it 1]), (3, .box [ub 2, it 0]), (4, eX), (5, .box [ub 0, it 1]), (6, .box [ub 0, it 2]), (7, .box [ub 1, it 2]), (9, it 0), (10, eY), (11, eZ), (12, it 0), (14, it 13)] ) (Ex.normal) ([(1, AV.box [ub 1, it 0]), (2, AV.box [ub 1, it 1]), (3, AV.box [ub 2, it 0]), (4, eX), (5, AV.box [ub 0, it 1]), (6, AV.box [ub 0, it 2]), (7, AV.box [ub 1, it 2]), (9, it 0), (10, eY), (11, eZ), (12, it 0), (14, it 13), (16, it 1)]) :=
  evA_ok (H := h37) (ans := [.c, .c, .c, .r (AV.tup [AV.agg [niln, niln], it 1]), .c, .c, .c, .c, .c, .c, .c, .c]) (ps := [PureC Try.prog 40 [view (AV.agg [tXF, tXB]), AV.agg [ub 0, it 2], AV.agg [ub 0, it 3]] (AV.tup [AV.agg [niln, niln], it 1])]) (ans' := []) (base 174 0) cxA_K.1 cxA_K.2 _ (by kernel_rfl)  (allp (by (first | rw [view_yn] | rw [view_two] | rw [view_twoI] | rw [view_beds] | rw [view_frW] | rw [view_frN] | rw [view_twoF] | skip); apply x_jn4 <;> (first | assumption | rfl | (simp at * <;> omega))) allp_nil)
theorem l11_0 (u : Nat) (g0 : AV.agg [tN, tYB] = AV.agg [AV.sl Mode.any 62 (some (0 : Nat)) (List.map Stk.enc []), tYB]) (g1 : AV.sl Mode.own 30 (some 3) [Idd.enc ic, Idd.enc ia, Idd.enc ib] = AV.sl Mode.own 30 (some 3) (List.map Idd.enc [{ y := Idd.y ic, n := Idd.n ic }, ia, { y := Idd.y ib, n := Idd.n ib }])) (g2 : AV.sl Mode.own 30 (some 3) [AV.agg [ub 2, it 0], AV.agg [ub 1, it 0], AV.agg [ub 1, it 1]] = AV.sl Mode.own 30 (some (3 : Nat)) (List.map Idd.enc [{ y := (2 : Int), n := (0 : Int) }, { y := (1 : Int), n := (0 : Int) }, { y := (1 : Int), n := (1 : Int) }])) (g3 : List.getD [tN, tYB] (0 : Nat) AV.bad = AV.sl Mode.any 62 (some (0 : Nat)) (List.map Stk.enc [])) (g4 : AV.agg [tYB, tN] = AV.agg [tYB, AV.sl Mode.any 62 (some (0 : Nat)) (List.map Stk.enc [])]) : Tri Try.prog (cxN 174 0) (regAt Try.f37 11) ([(1, .box [ub 1, it 0]), (2, .box [ub 1, it 1]), (3, .box [ub 2, it 0]), (4, eX), (5, .box [ub 0, it 1]), (6, .box [ub 0, it 2]), (7, .box [ub 1, it 2]), (9, it 0), (10, eY), (11, eZ), (12, it 0), (14, it 13), (16, it 1)] ) (Ex.normal) ([(2, AV.box [ub 1, it 1]), (3, AV.box [ub 2, it 0]), (4, eX), (5, AV.box [ub 0, it 1]), (6, AV.box [ub 0, it 2]), (10, eY), (137, bb ((1 : Int) == (0 : Int)))]) :=
  evA_ok (H := h37) (ans := [.c, .c, .c, .c, .c, .c, .c, .c, .c, .c, .c, .c, .c, .c, .c, .c, .c, .c, .c, .c, .c, .c, .c, .c, .c, .r (AV.agg [AV.sl Mode.any 62 (some (0 : Nat)) (List.map Stk.enc []), tYB]), .c, .c, .c, .r (AV.sl Mode.own 30 (some 3) [Idd.enc ic, Idd.enc ia, Idd.enc ib]), .c, .r (AV.sl Mode.own 30 (some 3) (List.map Idd.enc [{ y := Idd.y ic, n := Idd.n ic }, ia, { y := Idd.y ib, n := Idd.n ib }])), .c, .c, .c, .c, .c, .c, .c, .r (AV.sl Mode.own 30 (some (3 : Nat)) (List.map Idd.enc [{ y := (2 : Int), n := (0 : Int) }, { y := (1 : Int), n := (0 : Int) }, { y := (1 : Int), n := (1 : Int) }])), .c, .r (AV.sl Mode.any 30 (some 3) (List.map Idd.enc [{ y := Idd.y ic, n := Idd.n ic }, ia, { y := Idd.y ib, n := Idd.n ib }])), .r (AV.sl Mode.any 30 (some (3 : Nat)) (List.map Idd.enc [{ y := (2 : Int), n := (0 : Int) }, { y := (1 : Int), n := (0 : Int) }, { y := (1 : Int), n := (1 : Int) }])), .r (it 1), .c, .c, .c, .c, .c, .c, .c, .c, .c, .c, .c, .r (AV.sl Mode.any 62 (some (0 : Nat)) (List.map Stk.enc [])), .c, .c, .c, .c, .c, .c, .c, .c, .c, .r (AV.agg [tYB, AV.sl Mode.any 62 (some (0 : Nat)) (List.map Stk.enc [])]), .c, .c, .c, .r (AV.sl Mode.own 30 (some 3) [Idd.enc ic, Idd.enc ia, Idd.enc ib]), .c, .r (AV.sl Mode.own 30 (some 3) (List.map Idd.enc [{ y := Idd.y ic, n := Idd.n ic }, ia, { y := Idd.y ib, n := Idd.n ib }])), .c, .c, .c, .c, .c, .c, .c, .r (AV.sl Mode.own 30 (some (3 : Nat)) (List.map Idd.enc [{ y := (2 : Int), n := (0 : Int) }, { y := (1 : Int), n := (0 : Int) }, { y := (1 : Int), n := (1 : Int) }])), .c, .r (AV.sl Mode.any 30 (some 3) (List.map Idd.enc [{ y := Idd.y ic, n := Idd.n ic }, ia, { y := Idd.y ib, n := Idd.n ib }])), .r (AV.sl Mode.any 30 (some (3 : Nat)) (List.map Idd.enc [{ y := (2 : Int), n := (0 : Int) }, { y := (1 : Int), n := (0 : Int) }, { y := (1 : Int), n := (1 : Int) }])), .r (it 1), .c, .c, .c, .c, .c, .c]) (ps := [AV.agg [tN, tYB] = AV.agg [AV.sl Mode.any 62 (some (0 : Nat)) (List.map Stk.enc []), tYB], PureC Try.prog 33 [view (AV.agg [tN, tYB]), AV.agg [ub 1, it 2]] (AV.sl Mode.own 30 (some 3) [Idd.enc ic, Idd.enc ia, Idd.enc ib]), AV.sl Mode.own 30 (some 3) [Idd.enc ic, Idd.enc ia, Idd.enc ib] = AV.sl Mode.own 30 (some 3) (List.map Idd.enc [{ y := Idd.y ic, n := Idd.n ic }, ia, { y := Idd.y ib, n := Idd.n ib }]), AV.sl Mode.own 30 (some 3) [AV.agg [ub 2, it 0], AV.agg [ub 1, it 0], AV.agg [ub 1, it 1]] = AV.sl Mode.own 30 (some (3 : Nat)) (List.map Idd.enc [{ y := (2 : Int), n := (0 : Int) }, { y := (1 : Int), n := (0 : Int) }, { y := (1 : Int), n := (1 : Int) }]), view (AV.sl Mode.own 30 (some 3) [AV.agg [ub (Idd.y { y := Idd.y ic, n := Idd.n ic }), it (Idd.n { y := Idd.y ic, n := Idd.n ic })], AV.agg [ub (Idd.y ia), it (Idd.n ia)], AV.agg [ub (Idd.y { y := Idd.y ib, n := Idd.n ib }), it (Idd.n { y := Idd.y ib, n := Idd.n ib })]]) = AV.sl Mode.any 30 (some 3) [AV.agg [ub (Idd.y { y := Idd.y ic, n := Idd.n ic }), it (Idd.n { y := Idd.y ic, n := Idd.n ic })], AV.agg [ub (Idd.y ia), it (Idd.n ia)], AV.agg [ub (Idd.y { y := Idd.y ib, n := Idd.n ib }), it (Idd.n { y := Idd.y ib, n := Idd.n ib })]], view (AV.sl Mode.own 30 (some 3) [AV.agg [ub (Idd.y { y := (2 : Int), n := (0 : Int) }), it (Idd.n { y := (2 : Int), n := (0 : Int) })], AV.agg [ub (Idd.y { y := (1 : Int), n := (0 : Int) }), it (Idd.n { y := (1 : Int), n := (0 : Int) })], AV.agg [ub (Idd.y { y := (1 : Int), n := (1 : Int) }), it (Idd.n { y := (1 : Int), n := (1 : Int) })]]) = AV.sl Mode.any 30 (some 3) [AV.agg [ub (Idd.y { y := (2 : Int), n := (0 : Int) }), it (Idd.n { y := (2 : Int), n := (0 : Int) })], AV.agg [ub (Idd.y { y := (1 : Int), n := (0 : Int) }), it (Idd.n { y := (1 : Int), n := (0 : Int) })], AV.agg [ub (Idd.y { y := (1 : Int), n := (1 : Int) }), it (Idd.n { y := (1 : Int), n := (1 : Int) })]], PureC Try.prog 41 [AV.sl Mode.any 30 (some 3) [AV.agg [ub (Idd.y { y := Idd.y ic, n := Idd.n ic }), it (Idd.n { y := Idd.y ic, n := Idd.n ic })], AV.agg [ub (Idd.y ia), it (Idd.n ia)], AV.agg [ub (Idd.y { y := Idd.y ib, n := Idd.n ib }), it (Idd.n { y := Idd.y ib, n := Idd.n ib })]], AV.sl Mode.any 30 (some 3) [AV.agg [ub (Idd.y { y := (2 : Int), n := (0 : Int) }), it (Idd.n { y := (2 : Int), n := (0 : Int) })], AV.agg [ub (Idd.y { y := (1 : Int), n := (0 : Int) }), it (Idd.n { y := (1 : Int), n := (0 : Int) })], AV.agg [ub (Idd.y { y := (1 : Int), n := (1 : Int) }), it (Idd.n { y := (1 : Int), n := (1 : Int) })]]] (it 1), List.getD [tN, tYB] (0 : Nat) AV.bad = AV.sl Mode.any 62 (some (0 : Nat)) (List.map Stk.enc []), AV.agg [tYB, tN] = AV.agg [tYB, AV.sl Mode.any 62 (some (0 : Nat)) (List.map Stk.enc [])], PureC Try.prog 33 [view (AV.agg [tYB, tN]), AV.agg [ub 0, it 2]] (AV.sl Mode.own 30 (some 3) [Idd.enc ic, Idd.enc ia, Idd.enc ib]), AV.sl Mode.own 30 (some 3) [Idd.enc ic, Idd.enc ia, Idd.enc ib] = AV.sl Mode.own 30 (some 3) (List.map Idd.enc [{ y := Idd.y ic, n := Idd.n ic }, ia, { y := Idd.y ib, n := Idd.n ib }]), AV.sl Mode.own 30 (some 3) [AV.agg [ub 2, it 0], AV.agg [ub 1, it 0], AV.agg [ub 1, it 1]] = AV.sl Mode.own 30 (some (3 : Nat)) (List.map Idd.enc [{ y := (2 : Int), n := (0 : Int) }, { y := (1 : Int), n := (0 : Int) }, { y := (1 : Int), n := (1 : Int) }]), view (AV.sl Mode.own 30 (some 3) [AV.agg [ub (Idd.y { y := Idd.y ic, n := Idd.n ic }), it (Idd.n { y := Idd.y ic, n := Idd.n ic })], AV.agg [ub (Idd.y ia), it (Idd.n ia)], AV.agg [ub (Idd.y { y := Idd.y ib, n := Idd.n ib }), it (Idd.n { y := Idd.y ib, n := Idd.n ib })]]) = AV.sl Mode.any 30 (some 3) [AV.agg [ub (Idd.y { y := Idd.y ic, n := Idd.n ic }), it (Idd.n { y := Idd.y ic, n := Idd.n ic })], AV.agg [ub (Idd.y ia), it (Idd.n ia)], AV.agg [ub (Idd.y { y := Idd.y ib, n := Idd.n ib }), it (Idd.n { y := Idd.y ib, n := Idd.n ib })]], view (AV.sl Mode.own 30 (some 3) [AV.agg [ub (Idd.y { y := (2 : Int), n := (0 : Int) }), it (Idd.n { y := (2 : Int), n := (0 : Int) })], AV.agg [ub (Idd.y { y := (1 : Int), n := (0 : Int) }), it (Idd.n { y := (1 : Int), n := (0 : Int) })], AV.agg [ub (Idd.y { y := (1 : Int), n := (1 : Int) }), it (Idd.n { y := (1 : Int), n := (1 : Int) })]]) = AV.sl Mode.any 30 (some 3) [AV.agg [ub (Idd.y { y := (2 : Int), n := (0 : Int) }), it (Idd.n { y := (2 : Int), n := (0 : Int) })], AV.agg [ub (Idd.y { y := (1 : Int), n := (0 : Int) }), it (Idd.n { y := (1 : Int), n := (0 : Int) })], AV.agg [ub (Idd.y { y := (1 : Int), n := (1 : Int) }), it (Idd.n { y := (1 : Int), n := (1 : Int) })]], PureC Try.prog 41 [AV.sl Mode.any 30 (some 3) [AV.agg [ub (Idd.y { y := Idd.y ic, n := Idd.n ic }), it (Idd.n { y := Idd.y ic, n := Idd.n ic })], AV.agg [ub (Idd.y ia), it (Idd.n ia)], AV.agg [ub (Idd.y { y := Idd.y ib, n := Idd.n ib }), it (Idd.n { y := Idd.y ib, n := Idd.n ib })]], AV.sl Mode.any 30 (some 3) [AV.agg [ub (Idd.y { y := (2 : Int), n := (0 : Int) }), it (Idd.n { y := (2 : Int), n := (0 : Int) })], AV.agg [ub (Idd.y { y := (1 : Int), n := (0 : Int) }), it (Idd.n { y := (1 : Int), n := (0 : Int) })], AV.agg [ub (Idd.y { y := (1 : Int), n := (1 : Int) }), it (Idd.n { y := (1 : Int), n := (1 : Int) })]]] (it 1)]) (ans' := []) (base 174 0) cxA_K.1 cxA_K.2 _ (by kernel_rfl)  (allp g0 (allp (by (first | rw [view_yn] | rw [view_two] | rw [view_twoI] | rw [view_beds] | rw [view_frW] | rw [view_frN] | rw [view_twoF] | skip); first | (apply y_at <;> (first | assumption | rfl | (simp at * <;> omega))) | (apply z_at <;> (first | assumption | rfl | (simp at * <;> omega)))) (allp g1 (allp g2 (allp (by first | exact view_ps _ _ _ | exact view_u8 _ _ _ | rfl | exact view_yn _ _ _ _ _ _ _ | exact view_id _ _ _ | exact view_stk _ _ _ | exact view_beds _ _ _ _ _ _ | exact view_pt _ _ _) (allp (by first | exact view_ps _ _ _ | exact view_u8 _ _ _ | rfl | exact view_yn _ _ _ _ _ _ _ | exact view_id _ _ _ | exact view_stk _ _ _ | exact view_beds _ _ _ _ _ _ | exact view_pt _ _ _) (allp (by apply s_y <;> (first | assumption | rfl | (simp at * <;> omega))) (allp g3 (allp g4 (allp (by (first | rw [view_yn] | rw [view_two] | rw [view_twoI] | rw [view_beds] | rw [view_frW] | rw [view_frN] | rw [view_twoF] | skip); first | (apply y_at <;> (first | assumption | rfl | (simp at * <;> omega))) | (apply z_at <;> (first | assumption | rfl | (simp at * <;> omega)))) (allp g1 (allp g2 (allp (by first | exact view_ps _ _ _ | exact view_u8 _ _ _ | rfl | exact view_yn _ _ _ _ _ _ _ | exact view_id _ _ _ | exact view_stk _ _ _ | exact view_beds _ _ _ _ _ _ | exact view_pt _ _ _) (allp (by first | exact view_ps _ _ _ | exact view_u8 _ _ _ | rfl | exact view_yn _ _ _ _ _ _ _ | exact view_id _ _ _ | exact view_stk _ _ _ | exact view_beds _ _ _ _ _ _ | exact view_pt _ _ _) (allp (by apply s_y <;> (first | assumption | rfl | (simp at * <;> omega))) allp_nil)))))))))))))))
theorem l13_0 (u : Nat) (g0 : AV.sl Mode.own 30 (some 1) [AV.agg [ub 2, it 0]] = AV.sl Mode.own 30 (some (1 : Nat)) (List.map Idd.enc [{ y := (2 : Int), n := (0 : Int) }])) : Tri Try.prog (cxN 174 0) (regAt Try.f37 13) ([(2, .box [ub 1, it 1]), (3, .box [ub 2, it 0]), (4, eX), (5, .box [ub 0, it 1]), (6, .box [ub 0, it 2]), (10, eY)] ) (Ex.normal) ([(2, AV.box [ub 1, it 1]), (4, eX), (6, AV.box [ub 0, it 2]), (9, it 8), (10, eY)]) :=
  evA_ok (H := h37) (ans := [.c, .c, .c, .r (AV.sl Mode.own 30 (some (1 : Nat)) (List.map Idd.enc [{ y := (2 : Int), n := (0 : Int) }])), .r (AV.sl Mode.any 30 (some (1 : Nat)) (List.map Idd.enc [{ y := (2 : Int), n := (0 : Int) }])), .r (AV.tup [AV.agg [niln, niln], it 8]), .c, .c, .c, .c, .c, .c]) (ps := [AV.sl Mode.own 30 (some 1) [AV.agg [ub 2, it 0]] = AV.sl Mode.own 30 (some (1 : Nat)) (List.map Idd.enc [{ y := (2 : Int), n := (0 : Int) }]), view (AV.sl Mode.own 30 (some 1) [AV.agg [ub (Idd.y { y := (2 : Int), n := (0 : Int) }), it (Idd.n { y := (2 : Int), n := (0 : Int) })]]) = AV.sl Mode.any 30 (some 1) [AV.agg [ub (Idd.y { y := (2 : Int), n := (0 : Int) }), it (Idd.n { y := (2 : Int), n := (0 : Int) })]], PureC Try.prog 38 [view (AV.agg [tXF, tXB]), AV.agg [ub 0, it 1], AV.sl Mode.any 30 (some 1) [AV.agg [ub (Idd.y { y := (2 : Int), n := (0 : Int) }), it (Idd.n { y := (2 : Int), n := (0 : Int) })]]] (AV.tup [AV.agg [niln, niln], it 8])]) (ans' := []) (base 174 0) cxA_K.1 cxA_K.2 _ (by kernel_rfl)  (allp g0 (allp (by first | exact view_ps _ _ _ | exact view_u8 _ _ _ | rfl | exact view_yn _ _ _ _ _ _ _ | exact view_id _ _ _ | exact view_stk _ _ _ | exact view_beds _ _ _ _ _ _ | exact view_pt _ _ _) (allp (by (first | rw [view_yn] | rw [view_two] | rw [view_twoI] | rw [view_beds] | rw [view_frW] | rw [view_frN] | rw [view_twoF] | skip); apply x_set1 <;> (first | assumption | rfl | (simp at * <;> omega))) allp_nil)))
theorem l14_0 (u : Nat) (g0 : AV.sl Mode.own 30 (some 1) [AV.agg [ub 1, it 1]] = AV.sl Mode.own 30 (some (1 : Nat)) (List.map Idd.enc [{ y := (1 : Int), n := (1 : Int) }])) : Tri Try.prog (cxN 174 0) (regAt Try.f37 14) ([(2, .box [ub 1, it 1]), (4, eX), (6, .box [ub 0, it 2]), (9, it 8), (10, eY)] ) (Ex.normal) ([(2, AV.box [ub 1, it 1]), (6, AV.box [ub 0, it 2]), (9, it 8), (10, AV.box [AV.sl Mode.fresh 62 (some 2) [AV.sl Mode.fresh 30 (some 0) [], AV.sl Mode.fresh 30 (some 1) [Idd.enc ib]], AV.sl Mode.fresh 62 (some 2) [AV.sl Mode.fresh 30 (some 0) [], AV.sl Mode.fresh 30 (some 1) [Idd.enc ic]]]), (12, it 0)]) :=
  evA_ok (H := h37) (ans := [.c, .c, .c, .r (AV.sl Mode.own 30 (some (1 : Nat)) (List.map Idd.enc [{ y := (1 : Int), n := (1 : Int) }])), .r (AV.sl Mode.any 30 (some (1 : Nat)) (List.map Idd.enc [{ y := (1 : Int), n := (1 : Int) }])), .r (AV.tup [AV.agg [AV.sl Mode.fresh 62 (some 2) [AV.sl Mode.fresh 30 (some 0) [], AV.sl Mode.fresh 30 (some 1) [Idd.enc ib]], AV.sl Mode.fresh 62 (some 2) [AV.sl Mode.fresh 30 (some 0) [], AV.sl Mode.fresh 30 (some 1) [Idd.enc ic]]], it 0]), .c, .c, .c, .c, .c, .c, .c]) (ps := [AV.sl Mode.own 30 (some 1) [AV.agg [ub 1, it 1]] = AV.sl Mode.own 30 (some (1 : Nat)) (List.map Idd.enc [{ y := (1 : Int), n := (1 : Int) }]), view (AV.sl Mode.own 30 (some 1) [AV.agg [ub (Idd.y { y := (1 : Int), n := (1 : Int) }), it (Idd.n { y := (1 : Int), n := (1 : Int) })]]) = AV.sl Mode.any 30 (some 1) [AV.agg [ub (Idd.y { y := (1 : Int), n := (1 : Int) }), it (Idd.n { y := (1 : Int), n := (1 : Int) })]], PureC Try.prog 38 [view (AV.agg [tXF, tXB]), AV.agg [ub 0, it 2], AV.sl Mode.any 30 (some 1) [AV.agg [ub (Idd.y { y := (1 : Int), n := (1 : Int) }), it (Idd.n { y := (1 : Int), n := (1 : Int) })]]] (AV.tup [AV.agg [AV.sl Mode.fresh 62 (some 2) [AV.sl Mode.fresh 30 (some 0) [], AV.sl Mode.fresh 30 (some 1) [Idd.enc ib]], AV.sl Mode.fresh 62 (some 2) [AV.sl Mode.fresh 30 (some 0) [], AV.sl Mode.fresh 30 (some 1) [Idd.enc ic]]], it 0])]) (ans' := []) (base 174 0) cxA_K.1 cxA_K.2 _ (by kernel_rfl)  (allp g0 (allp (by first | exact view_ps _ _ _ | exact view_u8 _ _ _ | rfl | exact view_yn _ _ _ _ _ _ _ | exact view_id _ _ _ | exact view_stk _ _ _ | exact view_beds _ _ _ _ _ _ | exact view_pt _ _ _) (allp (by (first | rw [view_yn] | rw [view_two] | rw [view_twoI] | rw [view_beds] | rw [view_frW] | rw [view_frN] | rw [view_twoF] | skip); apply x_set2 <;> (first | assumption | rfl | (simp at * <;> omega))) allp_nil)))
theorem l15_0 (u : Nat) (g0 : AV.sl Mode.own 30 (some 1) [Idd.enc ib] = AV.sl Mode.own 30 (some 1) (List.map Idd.enc [{ y := Idd.y ib, n := Idd.n ib }])) (g1 : AV.sl Mode.own 30 (some 1) [AV.agg [ub 1, it 1]] = AV.sl Mode.own 30 (some (1 : Nat)) (List.map Idd.enc [{ y := (1 : Int), n := (1 : Int) }])) : Tri Try.prog (cxN 174 0) (regAt Try.f37 15) ([(2, .box [ub 1, it 1]), (6, .box [ub 0, it 2]), (9, it 8), (10, eV), (12, it 0)] ) (Ex.normal) ([(0, bb ((2 : Int) == (2 : Int)))]) :=
  evA_ok (H := h37) (ans := [.c, .c, .c, .c, .c, .c, .c, .c, .c, .c, .c, .c, .c, .c, .c, .r (AV.sl Mode.own 30 (some 1) [Idd.enc ib]), .c, .r (AV.sl Mode.own 30 (some 1) (List.map Idd.enc [{ y := Idd.y ib, n := Idd.n ib }])), .c, .c, .c, .r (AV.sl Mode.own 30 (some (1 : Nat)) (List.map Idd.enc [{ y := (1 : Int), n := (1 : Int) }])), .c, .r (AV.sl Mode.any 30 (some 1) (List.map Idd.enc [{ y := Idd.y ib, n := Idd.n ib }])), .r (AV.sl Mode.any 30 (some (1 : Nat)) (List.map Idd.enc [{ y := (1 : Int), n := (1 : Int) }])), .r (it 1), .c, .c, .c, .c, .c, .c, .c, .c, .c, .c, .r (it 2), .c, .c, .c, .c, .c, .c, .c]) (ps := [PureC Try.prog 33 [view (AV.agg [tVF, tXB]), AV.agg [ub 0, it 2]] (AV.sl Mode.own 30 (some 1) [Idd.enc ib]), AV.sl Mode.own 30 (some 1) [Idd.enc ib] = AV.sl Mode.own 30 (some 1) (List.map Idd.enc [{ y := Idd.y ib, n := Idd.n ib }]), AV.sl Mode.own 30 (some 1) [AV.agg [ub 1, it 1]] = AV.sl Mode.own 30 (some (1 : Nat)) (List.map Idd.enc [{ y := (1 : Int), n := (1 : Int) }]), view (AV.sl Mode.own 30 (some 1) [AV.agg [ub (Idd.y { y := Idd.y ib, n := Idd.n ib }), it (Idd.n { y := Idd.y ib, n := Idd.n ib })]]) = AV.sl Mode.any 30 (some 1) [AV.agg [ub (Idd.y { y := Idd.y ib, n := Idd.n ib }), it (Idd.n { y := Idd.y ib, n := Idd.n ib })]], view (AV.sl Mode.own 30 (some 1) [AV.agg [ub (Idd.y { y := (1 : Int), n := (1 : Int) }), it (Idd.n { y := (1 : Int), n := (1 : Int) })]]) = AV.sl Mode.any 30 (some 1) [AV.agg [ub (Idd.y { y := (1 : Int), n := (1 : Int) }), it (Idd.n { y := (1 : Int), n := (1 : Int) })]], PureC Try.prog 41 [AV.sl Mode.any 30 (some 1) [AV.agg [ub (Idd.y { y := Idd.y ib, n := Idd.n ib }), it (Idd.n { y := Idd.y ib, n := Idd.n ib })]], AV.sl Mode.any 30 (some 1) [AV.agg [ub (Idd.y { y := (1 : Int), n := (1 : Int) }), it (Idd.n { y := (1 : Int), n := (1 : Int) })]]] (it 1), PureC Try.prog 36 [view (AV.agg [tVF, tXB])] (it 2)]) (ans' := []) (base 174 0) cxA_K.1 cxA_K.2 _ (by kernel_rfl)  (allp (by (first | rw [view_yn] | rw [view_two] | rw [view_twoI] | rw [view_beds] | rw [view_frW] | rw [view_frN] | rw [view_twoF] | skip); apply v_at <;> (first | assumption | rfl | (simp at * <;> omega))) (allp g0 (allp g1 (allp (by first | exact view_ps _ _ _ | exact view_u8 _ _ _ | rfl | exact view_yn _ _ _ _ _ _ _ | exact view_id _ _ _ | exact view_stk _ _ _ | exact view_beds _ _ _ _ _ _ | exact view_pt _ _ _) (allp (by first | exact view_ps _ _ _ | exact view_u8 _ _ _ | rfl | exact view_yn _ _ _ _ _ _ _ | exact view_id _ _ _ | exact view_stk _ _ _ | exact view_beds _ _ _ _ _ _ | exact view_pt _ _ _) (allp (by apply s_v <;> (first | assumption | rfl | (simp at * <;> omega))) (allp (by (first | rw [view_yn] | rw [view_two] | rw [view_twoI] | rw [view_beds] | rw [view_frW] | rw [view_frN] | rw [view_twoF] | skip); apply v_cnt <;> (first | assumption | rfl | (simp at * <;> omega))) allp_nil)))))))
end Tst
end

section
open Go Go.Lf Go.Proofs
namespace Tst
set_option maxHeartbeats 0
theorem OpsR.grab {P : Program} {cx : Cx} {ops : Array Oper} {env : Env} {r : Nat} {e : TypeId} {cap : Option Nat} {xs : List AV} (hr : lk env r = some (.sl .own e cap xs)) : OpsR P cx ops [] env (· = (r, share (.sl .own e cap xs)) :: env) := by
  intro ρ F B0 w0 S0 ds a w Q rest hag hQ
  obtain ⟨hd, hN, n, S, Os, hn, hgr, hst⟩ := hag
  obtain ⟨n', S', Os', vr, u, m, hn', hst', hS, _, _, _, _, _, hS'⟩ := hst.shareAt (p := []) hr rfl rfl (.inl rfl)
  refine hQ _ rfl a w ⟨hd, hN, n', S', Os', by omega, ⟨fun b hb => hS b (hgr.1 b hb), fun b hb => ?_⟩, hst'⟩
  rcases hS' b hb with h | h
  · exact hgr.2 b h
  · exact .inr (hst.lt r b h).1
abbrev e2 : Env := [(1, .box [ub 1, it 0]), (2, .box [ub 1, it 1]), (3, .box [ub 2, it 0])]
abbrev q20 : AV := .agg [ub 1, it 0]
abbrev q21 : AV := .agg [ub 1, it 1]
abbrev q24 : AV := .agg [ub 2, it 0]
abbrev s22 : AV := .sl .fresh 30 (some 2) [q20, q21]
abbrev s25 : AV := .sl .fresh 30 (some 1) [q24]
abbrev f2 : Env := [(26, .sl .own 62 (some 2) [niln, s25]), (25, s25), (25, .sl .own 30 (some 1) [q24]), (24, q24), (23, .sl .own 62 (some 2) [niln, s22]), (22, s22), (22, .sl .own 30 (some 2) [q20, q21]), (21, q21), (20, q20), (1, .box [ub 1, it 0]), (2, .box [ub 1, it 1]), (3, .box [ub 2, it 0])]
abbrev s23 : AV := .sl .fresh 62 (some 2) [niln, s22]
abbrev s26 : AV := .sl .fresh 62 (some 2) [niln, s25]
theorem r2code : regAt Try.f37 2 = .region 2 (opsAt Try.f37 2) false := by kernel_rfl
theorem r2ops : (opsAt Try.f37 2).toList = (opsAt Try.f37 2).toList.take 7 ++ ([] ++ (opsAt Try.f37 2).toList.drop 7) := by kernel_rfl
abbrev f3 : Env := [(4, .box [s23, s26]), (4, .box [niln, niln]), (27, .agg [s23, s26]), (26, s26)] ++ (23, s23) :: f2
theorem le_nl (l : List Idd) : Le Try.prog (.sl .fresh 30 (some l.length) (l.map Idd.enc)) (.sl .any 30 (some l.length) (l.map Idd.enc)) := Le.toAny (by decide) rfl (fun _ h => h) (F2.rfl' _)
theorem le_el (l : List Idd) : Le Try.prog (.sl .fresh 62 (some 2) [niln, .sl .fresh 30 (some l.length) (l.map Idd.enc)]) (.sl .any 62 (some 2) [.sl .any 30 (some 0) [], .sl .any 30 (some l.length) (l.map Idd.enc)]) := by
  refine Le.toAny (by decide) rfl (fun sz h y hy => ?_) (.cons (Le.nil 30) (.cons (le_nl l) .nil))
  have h1 := h _ (List.mem_cons_self)
  rcases List.mem_cons.1 hy with rfl | hy
  · exact h1
  · rcases List.mem_cons.1 hy with rfl | hy
    · exact h1
    · cases hy
theorem le_e2 (l m : List Idd) : Le Try.prog (.sl .fresh 62 (some 2) [.sl .fresh 30 (some l.length) (l.map Idd.enc), .sl .fresh 30 (some m.length) (m.map Idd.enc)]) (.sl .any 62 (some 2) [.sl .any 30 (some l.length) (l.map Idd.enc), .sl .any 30 (some m.length) (m.map Idd.enc)]) := by
  refine Le.toAny (by decide) rfl (fun sz h y hy => ?_) (.cons (le_nl l) (.cons (le_nl m) .nil))
  have h1 := h _ (List.mem_cons_self)
  rcases List.mem_cons.1 hy with rfl | hy
  · exact h1
  · rcases List.mem_cons.1 hy with rfl | hy
    · exact h1
    · cases hy
theorem le_n : Le Try.prog (.sl .fresh 62 (some 0) []) tN := Le.toAny (by decide) rfl (fun _ h => h) .nil
abbrev E3 : Env := e2 ++ [(4, eX)]
theorem l2_c : Tri Try.prog (cxN 174 0) (regAt Try.f37 2) e2 .normal E3 := by
  have h : Tri Try.prog (cxN 174 0) (regAt Try.f37 2) e2 .normal f3 := by
    rw [r2code]
    refine Tri.ofR (R := (· = f3)) (TriR.region ?_) fun _ h => h
    rw [r2ops]
    refine .seq (OpsR.ev (base 174 0) cxA_K.1 cxA_K.2 (ans := List.replicate 9 .c) (ps := []) (env' := f2) (by kernel_rfl) allp_nil) ?_
    rintro _ rfl
    refine .seq (OpsR.grab (r := 23) rfl) ?_
    rintro _ rfl
    exact OpsR.ev (base 174 0) cxA_K.1 cxA_K.2 (ans := List.replicate 20 .c) (ps := []) (env' := f3) (by kernel_rfl) allp_nil
  refine Tri.less (Tri.after [(1, .keep), (2, .keep), (3, .keep), (4, .keep)] h) ?_
  show EnvLe Try.prog (e2 ++ [(4, .box [s23, s26])]) E3
  exact .cons ⟨rfl, rfl, Le.refl _⟩ (.cons ⟨rfl, rfl, Le.refl _⟩ (.cons ⟨rfl, rfl, Le.refl _⟩ (.cons ⟨rfl, rfl, Le.box (.cons (le_el [ia, ib]) (.cons (le_el [ic]) .nil))⟩ .nil)))
abbrev E7 : Env := [(1, .box [ub 1, it 0]), (2, .box [ub 1, it 1]), (3, .box [ub 2, it 0]), (4, eX), (5, .box [ub 0, it 1]), (6, .box [ub 0, it 2]), (7, .box [ub 1, it 2])]
theorem lives_code : Try.f37.body = some (.seq (regAt Try.f37 0) (.seq (regAt Try.f37 1) (.seq (regAt Try.f37 2) (.seq (regAt Try.f37 3) (.seq (regAt Try.f37 4) (.seq (.seq (regAt Try.f37 5) (.cond (.tmp 67) (.seq (regAt Try.f37 6) .ret) .skip))
    (.seq (regAt Try.f37 7) (.seq (regAt Try.f37 8) (.seq (regAt Try.f37 9) (.seq (regAt Try.f37 10) (.seq (.seq (regAt Try.f37 11) (.cond (.tmp 137) (.seq (regAt Try.f37 12) .ret) .skip)) (.seq (regAt Try.f37 13) (.seq (regAt Try.f37 14) (.seq (regAt Try.f37 15) .ret)))))))))))))) := by kernel_rfl
abbrev E8 : Env := E7 ++ [(9, it 0), (10, eY)]
abbrev E9 : Env := E8 ++ [(11, eZ), (12, it 0)]
abbrev E14 : Env := [(2, .box [ub 1, it 1]), (6, .box [ub 0, it 2]), (9, it 8), (10, eV), (12, it 0)]
theorem lives : PureC Try.prog 37 [] (bb true) := by
  refine pureT ((base 174 0).ok cxA_K.1 cxA_K.2) Try.func37 rfl (by show 0 ≤ 174; omega) rfl lives_code rfl (ex := .ret) (env' := [(0, bb true)]) ?_ rfl
  refine .seq (l0_0 0) (.seq (l1_0 0) (.seq l2_c (.seq (l3_0 0) (.seq (l4_0 0) (.seq (.seq (l5_0 0 rfl rfl) (.cond (b := false) rfl .skip)) ?_)))))
  refine Tri.weak [(1, .keep), (2, .keep), (3, .keep), (4, .keep), (5, .keep), (6, .keep), (7, .keep)] ?_
  refine .seq (Tri.less (env2 := E8) (l7_0 0 rfl) ?_) (.seq (Tri.less (env2 := E9) (l8_0 0 rfl) ?_) (.seq (l9_0 0) (.seq (l10_0 0) (.seq (.seq (l11_0 0 rfl rfl rfl rfl rfl) (.cond (b := false) rfl .skip)) ?_))))
  · exact .cons ⟨rfl, rfl, Le.refl _⟩ (.cons ⟨rfl, rfl, Le.refl _⟩ (.cons ⟨rfl, rfl, Le.refl _⟩ (.cons ⟨rfl, rfl, Le.refl _⟩ (.cons ⟨rfl, rfl, Le.refl _⟩ (.cons ⟨rfl, rfl, Le.refl _⟩ (.cons ⟨rfl, rfl, Le.refl _⟩ (.cons ⟨rfl, rfl, Le.refl _⟩ (.cons ⟨rfl, rfl, Le.box (.cons le_n (.cons (le_e2 [] [ic, ia, ib]) .nil))⟩ .nil))))))))
  · exact .cons ⟨rfl, rfl, Le.refl _⟩ (.cons ⟨rfl, rfl, Le.refl _⟩ (.cons ⟨rfl, rfl, Le.refl _⟩ (.cons ⟨rfl, rfl, Le.refl _⟩ (.cons ⟨rfl, rfl, Le.refl _⟩ (.cons ⟨rfl, rfl, Le.refl _⟩ (.cons ⟨rfl, rfl, Le.refl _⟩ (.cons ⟨rfl, rfl, Le.refl _⟩ (.cons ⟨rfl, rfl, Le.refl _⟩ (.cons ⟨rfl, rfl, Le.box (.cons (le_e2 [] [ic, ia, ib]) (.cons le_n .nil))⟩ (.cons ⟨rfl, rfl, Le.refl _⟩ .nil))))))))))
  refine Tri.weak [(2, .keep), (3, .keep), (4, .keep), (5, .keep), (6, .keep), (10, .keep)] ?_
  refine .seq (l13_0 0 rfl) (.seq (Tri.less (env2 := E14) (l14_0 0 rfl) ?_) (.seq (l15_0 0 rfl rfl) .ret))
  exact .cons ⟨rfl, rfl, Le.refl _⟩ (.cons ⟨rfl, rfl, Le.refl _⟩ (.cons ⟨rfl, rfl, Le.refl _⟩ (.cons ⟨rfl, rfl, Le.box (.cons (le_e2 [] [ib]) (.cons (le_e2 [] [ic]) .nil))⟩ (.cons ⟨rfl, rfl, Le.refl _⟩ .nil))))
end Tst
end

section
open Go Go.Lf Go.Proofs
namespace Tst
theorem fold_zip (d : Int) (j : Nat) : ∀ (L : List Stk) (k : Nat) (tb : List (List Idd)),
    (((L.zipIdx k).map fun q => (d, ((q.2 : Int) + 1), q.1)).foldl putT tb).getD j [] = if d.toNat * 40 + k ≤ j ∧ j < d.toNat * 40 + k + L.length ∧ j < tb.length then (L.getD (j - (d.toNat * 40 + k)) default).l else tb.getD j []
  | [], k, tb => by
    rw [if_neg (by simp; omega)]; rfl
  | s :: L, k, tb => by
    rw [List.zipIdx_cons, List.map_cons, List.foldl_cons, fold_zip d j L (k + 1)]
    have e : putT tb (d, ((k : Int) + 1), s) = tb.set (d.toNat * 40 + k) s.l := by
      show tb.set (d.toNat * 40 + ((k : Int) + 1 - 1).toNat) s.l = _
      rw [show ((k : Int) + 1 - 1).toNat = k by omega]
    show (if _ then _ else (putT tb (d, ((k : Int) + 1), s)).getD j []) = _
    rw [e, List.length_set, List.length_cons]
    generalize d.toNat * 40 = o
    by_cases h1 : o + (k + 1) ≤ j ∧ j < o + (k + 1) + L.length ∧ j < tb.length
    · rw [if_pos h1, if_pos (by omega)]
      obtain ⟨m, hm⟩ : ∃ m, j - (o + k) = m + 1 := ⟨j - (o + k) - 1, by omega⟩
      rw [hm, show j - (o + (k + 1)) = m by omega, List.getD_cons_succ]
    · rw [if_neg h1]
      by_cases h2 : j = o + k
      · subst h2
        by_cases h3 : o + k < tb.length
        · rw [if_pos (by omega), Nat.sub_self, List.getD_cons_zero, List.getD_eq_getElem?_getD, List.getElem?_set_self h3]; rfl
        · rw [if_neg (by omega), List.getD_eq_getElem?_getD, List.getD_eq_getElem?_getD, List.getElem?_eq_none (by simp; omega), List.getElem?_eq_none (by omega)]
      · rw [if_neg (by omega), List.getD_eq_getElem?_getD, List.getElem?_set_ne (by omega), ← List.getD_eq_getElem?_getD]
theorem stackOf_nat (l : List Stk) (j : Nat) : stackOf l (j : Int) = if j < l.length then (l.getD j default).l else [] := by
  unfold stackOf
  by_cases h : j < l.length
  · rw [if_pos (by omega), if_pos h]; rfl
  · rw [if_neg (by omega), if_neg h]
theorem getD_take {α : Type} [Inhabited α] (l : List α) (n j : Nat) (h : j < n) (d : α) : (l.take n).getD j d = l.getD j d := by
  rw [List.getD_eq_getElem?_getD, List.getD_eq_getElem?_getD, List.getElem?_take_of_lt h]
theorem tbOf_get (F B : List Stk) (j : Nat) (hj : j < 80) : (tbOf (itms F B)).getD j [] = stkN F B j := by
  unfold tbOf itms
  rw [List.foldl_append, fold_zip, fold_zip]
  have hl : ∀ (l : List (Int × Int × Stk)) (tb : List (List Idd)), (l.foldl putT tb).length = tb.length := by
    intro l
    induction l with
    | nil => intro tb; rfl
    | cons x l ih => intro tb; rw [List.foldl_cons, ih]; simp [putT]
  rw [hl, List.length_replicate, List.length_take, List.length_take]
  unfold stkN
  rw [stackOf_nat]
  simp only [Int.toNat_one, Int.toNat_zero, Nat.one_mul, Nat.zero_mul, Nat.add_zero, Nat.zero_add, Nat.sub_zero]
  by_cases h : j < 40
  · rw [if_neg (by omega), if_pos h, show j % 40 = j by omega]
    by_cases h2 : j < F.length
    · rw [if_pos (by omega), if_pos h2, getD_take _ _ _ h]
    · rw [if_neg (by omega), if_neg h2]
      rw [List.getD_eq_getElem?_getD, List.getElem?_replicate]; split <;> rfl
  · rw [if_neg h, show j % 40 = j - 40 by omega]
    by_cases h2 : j - 40 < B.length
    · rw [if_pos (by omega), if_pos h2, getD_take _ _ _ (by omega)]
    · rw [if_neg (by omega), if_neg (by omega), if_neg h2]
      rw [List.getD_eq_getElem?_getD, List.getElem?_replicate]; split <;> rfl
structure Rep (F B : List Stk) (tb : List (List Idd)) : Prop where
  f : F.length ≤ 40
  b : B.length ≤ 40
  l : tb.length = 80
  at' : ∀ j, j < 80 → stkN F B j = tb.getD j []
theorem Rep.tb {F B : List Stk} {tb : List (List Idd)} (h : Rep F B tb) : tbOf (itms F B) = tb := by
  apply List.ext_getElem
  · rw [tbOf_len, h.l]
  · intro j h1 h2
    have h3 : j < 80 := by rw [tbOf_len] at h1; exact h1
    have := (tbOf_get F B j h3).trans (h.at' j h3)
    rw [List.getD_eq_getElem?_getD, List.getElem?_eq_getElem h1, List.getD_eq_getElem?_getD, List.getElem?_eq_getElem h2] at this
    exact this
theorem range_flat (F : List Stk) : ∀ n : Nat, (List.range n).flatMap (fun j : Nat => stackOf F (j : Int)) = (F.take n).flatMap Stk.l
  | 0 => by simp
  | n + 1 => by
    rw [List.range_succ, List.flatMap_append, range_flat F n, List.take_add_one, List.flatMap_append]
    congr 1
    rw [List.flatMap_cons, List.flatMap_nil, List.append_nil, stackOf_nat]
    by_cases h : n < F.length
    · rw [if_pos h, List.getElem?_eq_getElem h, List.getD_eq_getElem?_getD, List.getElem?_eq_getElem h]; simp
    · rw [if_neg h, List.getElem?_eq_none (by omega)]; rfl
theorem flatMap_cong {α β : Type} {f g : α → List β} : ∀ {l : List α}, (∀ a ∈ l, f a = g a) → l.flatMap f = l.flatMap g
  | [], _ => rfl
  | a :: l, h => by rw [List.flatMap_cons, List.flatMap_cons, h a (by simp), flatMap_cong fun b hb => h b (by simp [hb])]
theorem Rep.list {F B : List Stk} {tb : List (List Idd)} (h : Rep F B tb) : tb = (List.range 80).map (stkN F B) := by
  apply List.ext_getElem
  · rw [h.l]; simp
  · intro j h1 h2
    have h3 : j < 80 := by rw [h.l] at h1; exact h1
    have := h.at' j h3
    rw [List.getD_eq_getElem?_getD, List.getElem?_eq_getElem h1] at this
    simp [this]
theorem flatMap_zip (d : Int) : ∀ (L : List Stk) (k : Nat), (((L.zipIdx k).map fun q => (d, ((q.2 : Int) + 1), q.1)).flatMap fun t => t.2.2.l) = L.flatMap Stk.l
  | [], _ => rfl
  | s :: L, k => by rw [List.zipIdx_cons, List.map_cons, List.flatMap_cons, List.flatMap_cons, flatMap_zip d L (k + 1)]
theorem Rep.all {F B : List Stk} {tb : List (List Idd)} (h : Rep F B tb) : allI (itms F B) = tb.flatten := by
  unfold allI itms
  rw [List.flatMap_append, flatMap_zip, flatMap_zip, ← range_flat, ← range_flat, h.list, ← List.flatMap_def]
  rw [show List.range 80 = List.range 40 ++ (List.range 40).map (40 + ·) by decide +kernel, List.flatMap_append, List.flatMap_map]
  have a1 : (List.range 40).flatMap (stkN F B) = (List.range 40).flatMap fun j : Nat => stackOf F (j : Int) := flatMap_cong fun j hj => by
    have : j < 40 := List.mem_range.1 hj
    unfold stkN
    rw [if_pos this, show j % 40 = j by omega]
  have a2 : ((List.range 40).flatMap fun j => stkN F B (40 + j)) = (List.range 40).flatMap fun j : Nat => stackOf B (j : Int) := flatMap_cong fun j hj => by
    have : j < 40 := List.mem_range.1 hj
    unfold stkN
    rw [if_neg (by omega), show (40 + j) % 40 = j by omega]
  rw [a1, a2]
structure Good' (tb : List (List Idd)) : Prop where
  s : ∀ i, (tb.getD i []).length ≤ 4
  n : ∀ p ∈ tb.flatten, nmI p = true
  d : tb.flatten.Nodup
theorem Rep.mem {F B : List Stk} {tb : List (List Idd)} (h : Rep F B tb) {s : Stk} (hs : s ∈ F ∨ s ∈ B) : ∃ j, j < 80 ∧ s.l = tb.getD j [] := by
  have hf := h.f
  have hb := h.b
  rcases hs with hs | hs
  · obtain ⟨j, hj, rfl⟩ := List.mem_iff_getElem.1 hs
    refine ⟨j, by omega, ?_⟩
    rw [← h.at' j (by omega)]
    unfold stkN
    rw [if_pos (by omega), show j % 40 = j by omega, stackOf_nat, if_pos hj, List.getD_eq_getElem?_getD, List.getElem?_eq_getElem hj]; rfl
  · obtain ⟨j, hj, rfl⟩ := List.mem_iff_getElem.1 hs
    refine ⟨40 + j, by omega, ?_⟩
    rw [← h.at' (40 + j) (by omega)]
    unfold stkN
    rw [if_neg (by omega), show (40 + j) % 40 = j by omega, stackOf_nat, if_pos hj, List.getD_eq_getElem?_getD, List.getElem?_eq_getElem hj]; rfl
theorem Rep.len {F B : List Stk} {tb : List (List Idd)} (h : Rep F B tb) (g : Good' tb) : ∀ s, s ∈ F ∨ s ∈ B → s.l.length ≤ 4 := fun s hs => by
  obtain ⟨j, _, e⟩ := h.mem hs
  rw [e]; exact g.s j
theorem Rep.chk {F B : List Stk} {tb : List (List Idd)} (h : Rep F B tb) (g : Good' tb) : chkV F B = 0 := by
  have hf := h.f
  have hb := h.b
  have ho : ovV F B = false := by
    unfold ovV
    rw [decide_eq_false (by omega), decide_eq_false (by omega)]
    simp only [Bool.false_or]
    rw [List.any_eq_false]
    intro t ht
    have := h.len g _ (itms_ok ht).2.2.2
    simp; omega
  have hn : nmV F B = true := by
    unfold nmV
    rw [List.all_eq_true]
    intro t ht
    rw [List.all_eq_true]
    intro p hp
    refine g.n p ?_
    rw [← h.all]
    exact List.mem_flatMap.2 ⟨t, ht, hp⟩
  have ht : twV F B = false := by
    unfold twV
    rw [h.all, decide_eq_true g.d]; rfl
  unfold chkV
  rw [ho, hn, ht]; rfl
end Tst
end

section
open Go Go.Lf Go.Proofs
namespace Tst
end Tst
end

section
open Go Go.Lf Go.Proofs
namespace Tst
structure Inv (s : List (List Idd) × Nat) : Prop where
  l : s.1.length = 80
  p : s.1.flatten.Perm ((List.range s.2).map idAt)
end Tst
end

section
open Go Go.Lf Go.Proofs
namespace Tst
abbrev pe (v : Int) : Int := ndB (IntKind.u8.wrap (40 + Int.tmod v 40))
end Tst
end

section
open Go Go.Lf Go.Proofs
namespace Tst
section
variable {F B : List Stk} {tb : List (List Idd)} (h : Rep F B tb) (g : Good' tb) {i k : Nat} (hi : i < 80) (hk : k < 80)
include h g hi hk
end
end Tst
end

section
open Go Go.Lf Go.Proofs
namespace Tst
set_option maxHeartbeats 0
end Tst
end

section
open Go Go.Lf Go.Proofs
namespace Tst
end Tst
namespace Tst
end Tst
end

section
open Go Go.Lf Go.Proofs
namespace Tst
end Tst
end

section
open Go Go.Lf Go.Proofs
namespace Tst
section
variable {F B : List Stk} {tb : List (List Idd)} (h : Rep F B tb)
include h
variable (g : Good' tb)
include g
end
theorem total_all : ∀ l : List (Int × Int × Stk), total l = ((allI l).length : Nat)
  | [] => rfl
  | t :: l => by
    have := total_all l
    unfold total allI at *
    rw [List.map_cons, List.sum_cons, this, List.flatMap_cons, List.length_append]; omega
section
variable {F B : List Stk} {tb : List (List Idd)} (h : Rep F B tb) (g : Good' tb)
include h g
end
theorem up64 {k : Nat} (h : k < 2 ^ 61) : IntKind.wrap IntKind.i64 ((k : Int) + 1) = ((k + 1 : Nat) : Int) := by rw [wrap_id' (by omega) (by omega)]; omega
theorem drop_cons {α : Type} (l : List α) {k : Nat} (h : k < l.length) (d : α) : l.drop k = l.getD k d :: l.drop (k + 1) := by
  rw [List.drop_eq_getElem_cons h, List.getD_eq_getElem?_getD, List.getElem?_eq_getElem h]; rfl
theorem id_eq (a b : Idd) : (a.y == b.y && a.n == b.n) = decide (a = b) := by
  cases a; cases b
  refine Bool.eq_iff_iff.2 ?_
  simp only [Bool.and_eq_true, beq_iff_eq, decide_eq_true_eq, Idd.mk.injEq]
end Tst
end

section
open Go Go.Lf Go.Proofs
namespace Tst
end Tst
end

section
open Go Go.Lf Go.Proofs
namespace Tst
set_option maxHeartbeats 0
end Tst
end

section
open Go Go.Lf Go.Proofs
namespace Tst
end Tst
end

section
open Go Go.Lf Go.Proofs
namespace Tst
abbrev bdn (F B : List Stk) : AV := beds (bsl none F) (bsl none B)
def ChA (F B : List Stk) (n : Int) : Prop := PureC Try.prog 31 [bdn F B] (it n)
theorem cha (F B : List Stk) (n : Int) (h : ChA F B n) : PureC Try.prog 31 [bdn F B] (it n) := h
def SeA (F B : List Stk) (r : Int) : Prop := PureC Try.prog 38 [bdn F B, ndl 0 1, niln] (nilR r)
theorem sea (F B : List Stk) (r : Int) (h : SeA F B r) : PureC Try.prog 38 [bdn F B, ndl 0 1, niln] (nilR r) := h
def JnA (F B : List Stk) (r : Int) : Prop := PureC Try.prog 40 [bdn F B, ndl 0 1, ndl 1 1] (nilR r)
theorem jna (F B : List Stk) (r : Int) (h : JnA F B r) : PureC Try.prog 40 [bdn F B, ndl 0 1, ndl 1 1] (nilR r) := h
def CtA (F B : List Stk) (n : Int) : Prop := PureC Try.prog 36 [bdn F B] (it n)
theorem cta (F B : List Stk) (n : Int) (h : CtA F B n) : PureC Try.prog 36 [bdn F B] (it n) := h
abbrev ownI (l : List Idd) : AV := .sl .own 30 none (l.map Idd.enc)
abbrev ownS (L : List Stk) : AV := .sl .own 62 none (L.map Stk.enc)
end Tst
end

section
open Go Go.Lf Go.Proofs
namespace Tst
set_option maxHeartbeats 0
theorem kc0_0 (F B : List Stk) : Tri Try.prog (cxN 174 0) (regAt Try.f12 0) ([(0, bdn F B)] ) (Ex.normal) ([(1, AV.box [bsl none F, bsl none B])]) :=
  evA_ok (H := h12) (ans := [.c, .c]) (ps := []) (ans' := []) (base 174 0) cxA_K.1 cxA_K.2 _ (by kernel_rfl)  allp_nil
theorem kc1_0 (F B : List Stk) (g0 : decide ((45 : Int) < (↑(List.length (List.map Stk.enc F)) : Int)) = true) : Tri Try.prog (cxN 174 0) (codeAt Try.f12 1) ([(1, .box [bsl none F, bsl none B])] ) (Ex.ret) ([(2, bb true)]) :=
  evA_ok (H := h12) (ans := [.c, .c, .c, .c, .c, .c, .c, .b true, .c, .b true, .c, .b true, .c, .b true, .c, .b true, .c, .c, .r (bb true), .c, .c, .c]) (ps := [decide ((45 : Int) < (↑(List.length (List.map Stk.enc F)) : Int)) = true, decide ((45 : Int) < (↑(List.length (List.map Stk.enc F)) : Int)) = true, decide ((45 : Int) < (↑(List.length (List.map Stk.enc F)) : Int)) = true, decide ((45 : Int) < (↑(List.length (List.map Stk.enc F)) : Int)) = true, decide ((45 : Int) < (↑(List.length (List.map Stk.enc F)) : Int)) = true, PureC Try.prog 37 [] (bb true)]) (ans' := []) (base 174 0) cxA_K.1 cxA_K.2 _ (by kernel_rfl)  (allp g0 (allp g0 (allp g0 (allp g0 (allp g0 (allp (by apply lives <;> (first | assumption | rfl | (simp at * <;> omega))) allp_nil))))))
theorem kc1_1 (F B : List Stk) (g0 : decide ((45 : Int) < (↑(List.length (List.map Stk.enc F)) : Int)) = false) (g1 : decide ((45 : Int) < (↑(List.length (List.map Stk.enc B)) : Int)) = true) : Tri Try.prog (cxN 174 0) (codeAt Try.f12 1) ([(1, .box [bsl none F, bsl none B])] ) (Ex.ret) ([(2, bb true)]) :=
  evA_ok (H := h12) (ans := [.c, .c, .c, .c, .c, .c, .c, .b false, .c, .b false, .c, .c, .c, .b false, .c, .b false, .c, .b false, .c, .b true, .r (bb true), .c, .c, .c]) (ps := [decide ((45 : Int) < (↑(List.length (List.map Stk.enc F)) : Int)) = false, decide ((45 : Int) < (↑(List.length (List.map Stk.enc F)) : Int)) = false, decide ((45 : Int) < (↑(List.length (List.map Stk.enc F)) : Int)) = false, decide ((45 : Int) < (↑(List.length (List.map Stk.enc F)) : Int)) = false, decide ((45 : Int) < (↑(List.length (List.map Stk.enc F)) : Int)) = false, decide ((45 : Int) < (↑(List.length (List.map Stk.enc B)) : Int)) = true, PureC Try.prog 37 [] (bb true)]) (ans' := []) (base 174 0) cxA_K.1 cxA_K.2 _ (by kernel_rfl)  (allp g0 (allp g0 (allp g0 (allp g0 (allp g0 (allp g1 (allp (by apply lives <;> (first | assumption | rfl | (simp at * <;> omega))) allp_nil)))))))
theorem kc1_2 (F B : List Stk) (g0 : decide ((45 : Int) < (↑(List.length (List.map Stk.enc F)) : Int)) = false) (g1 : decide ((45 : Int) < (↑(List.length (List.map Stk.enc B)) : Int)) = false) : Tri Try.prog (cxN 174 0) (codeAt Try.f12 1) ([(1, .box [bsl none F, bsl none B])] ) (Ex.normal) ([(1, AV.box [bsl none F, bsl none B]), (23, bb (decide ((45 : Int) < (↑(List.length (List.map Stk.enc B)) : Int))))]) :=
  evA_ok (H := h12) (ans := [.c, .c, .c, .c, .c, .c, .c, .b false, .c, .b false, .c, .c, .c, .b false, .c, .b false, .c, .b false, .c, .b false]) (ps := [decide ((45 : Int) < (↑(List.length (List.map Stk.enc F)) : Int)) = false, decide ((45 : Int) < (↑(List.length (List.map Stk.enc F)) : Int)) = false, decide ((45 : Int) < (↑(List.length (List.map Stk.enc F)) : Int)) = false, decide ((45 : Int) < (↑(List.length (List.map Stk.enc F)) : Int)) = false, decide ((45 : Int) < (↑(List.length (List.map Stk.enc F)) : Int)) = false, decide ((45 : Int) < (↑(List.length (List.map Stk.enc B)) : Int)) = false]) (ans' := []) (base 174 0) cxA_K.1 cxA_K.2 _ (by kernel_rfl)  (allp g0 (allp g0 (allp g0 (allp g0 (allp g0 (allp g1 allp_nil))))))
theorem kc3_0 (F B : List Stk) (g0 : AV.sl Mode.own 62 (some 0) [] = AV.sl Mode.own 62 (some (0 : Nat)) (List.map Stk.enc [])) (g1 : decide ((66 : Nat) = (66 : Nat) ∧ (List.all (List.map Stk.enc F) fun y => List.all (AV.ecells y) plainA) = true ∧ (List.all (List.map Stk.enc F) fun y => decide (List.length (AV.ecells y) = (1 : Nat))) = true) = true) (g2 : decide (62 = (62 : TypeId) ∧ List.length (List.map Stk.enc []) + List.length (List.map Stk.enc F) ≤ (4294967296 : Nat) ∧ Oper.dst { dst := some (28 : Nat), op := Op.call { callee := Callee.builtin Builtin.append, args := #[Operand.tmp (25 : Nat), Operand.tmp (27 : Nat)], argTypes := #[(66 : Nat), (66 : Nat)] }, type := (66 : Nat), pos := "law.go:253", after := #[{ on := (0 : Nat), ground := Ground.data }, { on := (2 : Nat), ground := Ground.data }], guard := none } ≠ some (25 : Nat)) = true) (g3 : AV.sl Mode.own 62 (if List.length (List.map Stk.enc []) + List.length (List.map Stk.enc F) ≤ (0 : Nat) then some (0 : Nat) else none) (List.map Stk.enc [] ++ List.map Stk.enc F) = AV.sl Mode.own 62 (if List.length (List.map Stk.enc []) + List.length (List.map Stk.enc F) ≤ (0 : Nat) then some (0 : Nat) else none) (List.map Stk.enc ([] ++ F))) (g4 : decide ((66 : Nat) = (66 : Nat) ∧ (List.all (List.map Stk.enc B) fun y => List.all (AV.ecells y) plainA) = true ∧ (List.all (List.map Stk.enc B) fun y => decide (List.length (AV.ecells y) = (1 : Nat))) = true) = true) (g5 : decide (62 = (62 : TypeId) ∧ List.length (List.map Stk.enc ([] ++ F)) + List.length (List.map Stk.enc B) ≤ (4294967296 : Nat) ∧ Oper.dst { dst := some (31 : Nat), op := Op.call { callee := Callee.builtin Builtin.append, args := #[Operand.tmp (28 : Nat), Operand.tmp (30 : Nat)], argTypes := #[(66 : Nat), (66 : Nat)] }, type := (66 : Nat), pos := "law.go:253", after := #[{ on := (3 : Nat), ground := Ground.data }, { on := (5 : Nat), ground := Ground.data }, { on := (3 : Nat), ground := Ground.chain }], guard := none } ≠ some (28 : Nat)) = true) (g6 : AV.sl Mode.own 62 (match if List.length (List.map Stk.enc []) + List.length (List.map Stk.enc F) ≤ (0 : Nat) then some (0 : Nat) else none with | some c => if List.length (List.map Stk.enc ([] ++ F)) + List.length (List.map Stk.enc B) ≤ c then some c else none | none => none) (List.map Stk.enc ([] ++ F) ++ List.map Stk.enc B) = AV.sl Mode.own 62 (match if List.length (List.map Stk.enc []) + List.length (List.map Stk.enc F) ≤ (0 : Nat) then some (0 : Nat) else none with | some c => if List.length (List.map Stk.enc ([] ++ F)) + List.length (List.map Stk.enc B) ≤ c then some c else none | none => none) (List.map Stk.enc ([] ++ F ++ B))) : Tri Try.prog (cxN 174 0) (regAt Try.f12 3) ([(1, .box [bsl none F, bsl none B])] ) (Ex.normal) ([(1, AV.box [bsl none F, bsl none B]), (3, AV.sl Mode.own 62 (match if List.length (List.map Stk.enc []) + List.length (List.map Stk.enc F) ≤ (0 : Nat) then some (0 : Nat) else none with | some c => if List.length (List.map Stk.enc ([] ++ F)) + List.length (List.map Stk.enc B) ≤ c then some c else none | none => none) (List.map Stk.enc ([] ++ F ++ B)))]) :=
  evA_ok (H := h12) (ans := [.r (AV.sl Mode.own 62 (some (0 : Nat)) (List.map Stk.enc [])), .c, .c, .c, .c, .b true, .b true, .r (AV.sl Mode.own 62 (if List.length (List.map Stk.enc []) + List.length (List.map Stk.enc F) ≤ (0 : Nat) then some (0 : Nat) else none) (List.map Stk.enc ([] ++ F))), .c, .c, .c, .c, .b true, .b true, .r (AV.sl Mode.own 62 (match if List.length (List.map Stk.enc []) + List.length (List.map Stk.enc F) ≤ (0 : Nat) then some (0 : Nat) else none with | some c => if List.length (List.map Stk.enc ([] ++ F)) + List.length (List.map Stk.enc B) ≤ c then some c else none | none => none) (List.map Stk.enc ([] ++ F ++ B))), .c]) (ps := [AV.sl Mode.own 62 (some 0) [] = AV.sl Mode.own 62 (some (0 : Nat)) (List.map Stk.enc []), decide ((66 : Nat) = (66 : Nat) ∧ (List.all (List.map Stk.enc F) fun y => List.all (AV.ecells y) plainA) = true ∧ (List.all (List.map Stk.enc F) fun y => decide (List.length (AV.ecells y) = (1 : Nat))) = true) = true, decide (62 = (62 : TypeId) ∧ List.length (List.map Stk.enc []) + List.length (List.map Stk.enc F) ≤ (4294967296 : Nat) ∧ Oper.dst { dst := some (28 : Nat), op := Op.call { callee := Callee.builtin Builtin.append, args := #[Operand.tmp (25 : Nat), Operand.tmp (27 : Nat)], argTypes := #[(66 : Nat), (66 : Nat)] }, type := (66 : Nat), pos := "law.go:253", after := #[{ on := (0 : Nat), ground := Ground.data }, { on := (2 : Nat), ground := Ground.data }], guard := none } ≠ some (25 : Nat)) = true, AV.sl Mode.own 62 (if List.length (List.map Stk.enc []) + List.length (List.map Stk.enc F) ≤ (0 : Nat) then some (0 : Nat) else none) (List.map Stk.enc [] ++ List.map Stk.enc F) = AV.sl Mode.own 62 (if List.length (List.map Stk.enc []) + List.length (List.map Stk.enc F) ≤ (0 : Nat) then some (0 : Nat) else none) (List.map Stk.enc ([] ++ F)), decide ((66 : Nat) = (66 : Nat) ∧ (List.all (List.map Stk.enc B) fun y => List.all (AV.ecells y) plainA) = true ∧ (List.all (List.map Stk.enc B) fun y => decide (List.length (AV.ecells y) = (1 : Nat))) = true) = true, decide (62 = (62 : TypeId) ∧ List.length (List.map Stk.enc ([] ++ F)) + List.length (List.map Stk.enc B) ≤ (4294967296 : Nat) ∧ Oper.dst { dst := some (31 : Nat), op := Op.call { callee := Callee.builtin Builtin.append, args := #[Operand.tmp (28 : Nat), Operand.tmp (30 : Nat)], argTypes := #[(66 : Nat), (66 : Nat)] }, type := (66 : Nat), pos := "law.go:253", after := #[{ on := (3 : Nat), ground := Ground.data }, { on := (5 : Nat), ground := Ground.data }, { on := (3 : Nat), ground := Ground.chain }], guard := none } ≠ some (28 : Nat)) = true, AV.sl Mode.own 62 (match if List.length (List.map Stk.enc []) + List.length (List.map Stk.enc F) ≤ (0 : Nat) then some (0 : Nat) else none with | some c => if List.length (List.map Stk.enc ([] ++ F)) + List.length (List.map Stk.enc B) ≤ c then some c else none | none => none) (List.map Stk.enc ([] ++ F) ++ List.map Stk.enc B) = AV.sl Mode.own 62 (match if List.length (List.map Stk.enc []) + List.length (List.map Stk.enc F) ≤ (0 : Nat) then some (0 : Nat) else none with | some c => if List.length (List.map Stk.enc ([] ++ F)) + List.length (List.map Stk.enc B) ≤ c then some c else none | none => none) (List.map Stk.enc ([] ++ F ++ B))]) (ans' := []) (base 174 0) cxA_K.1 cxA_K.2 _ (by kernel_rfl)  (allp g0 (allp g1 (allp g2 (allp g3 (allp g4 (allp g5 (allp g6 allp_nil)))))))
theorem kc4_0 (y1 : List AV) (L : List Stk) : Tri Try.prog (cxN 174 0) (regAt Try.f12 4) ([(1, .box y1), (3, ownS L)] ) (Ex.normal) ([(1, AV.box y1), (3, AV.sl Mode.own 62 none (List.map Stk.enc L)), (4, niln)]) :=
  evA_ok (H := h12) (ans := [.c]) (ps := []) (ans' := []) (base 174 0) cxA_K.1 cxA_K.2 _ (by kernel_rfl)  allp_nil
theorem kc5_0 (y1 : List AV) (L : List Stk) (n : List Idd) : Tri Try.prog (cxN 174 0) (regAt Try.f12 5) ([(1, .box y1), (3, ownS L), (4, ownI n)] ) (Ex.normal) ([(1, AV.box y1), (3, AV.sl Mode.own 62 none (List.map Stk.enc L)), (4, AV.sl Mode.own 30 none (List.map Idd.enc n)), (5, it 0)]) :=
  evA_ok (H := h12) (ans := [.c]) (ps := []) (ans' := []) (base 174 0) cxA_K.1 cxA_K.2 _ (by kernel_rfl)  allp_nil
theorem kc6_0 (y1 : List AV) (L : List Stk) (n : List Idd) (w : Int) : Tri Try.prog (cxN 174 0) (regAt Try.f12 6) ([(1, .box y1), (3, ownS L), (4, ownI n), (5, it w)] ) (Ex.normal) ([(1, AV.box y1), (3, AV.sl Mode.own 62 none (List.map Stk.enc L)), (4, AV.sl Mode.own 30 none (List.map Idd.enc n)), (5, it w), (6, it 0)]) :=
  evA_ok (H := h12) (ans := [.c]) (ps := []) (ans' := []) (base 174 0) cxA_K.1 cxA_K.2 _ (by kernel_rfl)  allp_nil
theorem ka_0 (y1 : List AV) (L : List Stk) (n : List Idd) (w i : Int) (g0 : decide (i < (↑(List.length (List.map Stk.enc L)) : Int)) = true) (g1 : decide ((0 : Int) ≤ i ∧ i < (↑(List.length (List.map Stk.enc L)) : Int)) = true) (g2 : decide (Int.toNat i < List.length (List.map Stk.enc L)) = true) (g3 : List.getD (List.map Stk.enc L) (Int.toNat i) AV.bad = Stk.enc (List.getD L (Int.toNat i) default)) (g4 : decide ((6 : Int) < (↑(List.length (List.map Idd.enc (Stk.l (List.getD L (Int.toNat i) default)))) : Int)) = true) : Tri Try.prog (cxN 174 0) (loopBody Try.f12 0) ([(1, .box y1), (3, ownS L), (4, ownI n), (5, it w), (6, it i)] ) (Ex.ret) ([(2, bb true)]) :=
  evA_ok (H := h12) (ans := [.c, .c, .c, .c, .b true, .c, .c, .b true, .c, .b true, .r (Stk.enc (List.getD L (Int.toNat i) default)), .c, .c, .c, .c, .b true, .c, .b true, .c, .b true, .c, .b true, .c, .c, .r (bb true), .c, .c, .c]) (ps := [decide (i < (↑(List.length (List.map Stk.enc L)) : Int)) = true, decide ((0 : Int) ≤ i ∧ i < (↑(List.length (List.map Stk.enc L)) : Int)) = true, decide (Int.toNat i < List.length (List.map Stk.enc L)) = true, List.getD (List.map Stk.enc L) (Int.toNat i) AV.bad = Stk.enc (List.getD L (Int.toNat i) default), decide ((6 : Int) < (↑(List.length (List.map Idd.enc (Stk.l (List.getD L (Int.toNat i) default)))) : Int)) = true, decide ((6 : Int) < (↑(List.length (List.map Idd.enc (Stk.l (List.getD L (Int.toNat i) default)))) : Int)) = true, decide ((6 : Int) < (↑(List.length (List.map Idd.enc (Stk.l (List.getD L (Int.toNat i) default)))) : Int)) = true, decide ((6 : Int) < (↑(List.length (List.map Idd.enc (Stk.l (List.getD L (Int.toNat i) default)))) : Int)) = true, PureC Try.prog 37 [] (bb true)]) (ans' := []) (base 174 0) cxA_K.1 cxA_K.2 _ (by kernel_rfl)  (allp g0 (allp g1 (allp g2 (allp g3 (allp g4 (allp g4 (allp g4 (allp g4 (allp (by apply lives <;> (first | assumption | rfl | (simp at * <;> omega))) allp_nil)))))))))
theorem ka_1 (y1 : List AV) (L : List Stk) (n : List Idd) (w i : Int) (g0 : decide (i < (↑(List.length (List.map Stk.enc L)) : Int)) = true) (g1 : decide ((0 : Int) ≤ i ∧ i < (↑(List.length (List.map Stk.enc L)) : Int)) = true) (g2 : decide (Int.toNat i < List.length (List.map Stk.enc L)) = true) (g3 : List.getD (List.map Stk.enc L) (Int.toNat i) AV.bad = Stk.enc (List.getD L (Int.toNat i) default)) (g4 : decide ((6 : Int) < (↑(List.length (List.map Idd.enc (Stk.l (List.getD L (Int.toNat i) default)))) : Int)) = false) (g5 : decide ((60 : Int) < (↑(List.length (List.map Idd.enc n)) : Int)) = true) : Tri Try.prog (cxN 174 0) (loopBody Try.f12 0) ([(1, .box y1), (3, ownS L), (4, ownI n), (5, it w), (6, it i)] ) (Ex.ret) ([(2, bb true)]) :=
  evA_ok (H := h12) (ans := [.c, .c, .c, .c, .b true, .c, .c, .b true, .c, .b true, .r (Stk.enc (List.getD L (Int.toNat i) default)), .c, .c, .c, .c, .b false, .c, .b false, .c, .b false, .c, .b false, .c, .b true, .r (bb true), .c, .c, .c]) (ps := [decide (i < (↑(List.length (List.map Stk.enc L)) : Int)) = true, decide ((0 : Int) ≤ i ∧ i < (↑(List.length (List.map Stk.enc L)) : Int)) = true, decide (Int.toNat i < List.length (List.map Stk.enc L)) = true, List.getD (List.map Stk.enc L) (Int.toNat i) AV.bad = Stk.enc (List.getD L (Int.toNat i) default), decide ((6 : Int) < (↑(List.length (List.map Idd.enc (Stk.l (List.getD L (Int.toNat i) default)))) : Int)) = false, decide ((6 : Int) < (↑(List.length (List.map Idd.enc (Stk.l (List.getD L (Int.toNat i) default)))) : Int)) = false, decide ((6 : Int) < (↑(List.length (List.map Idd.enc (Stk.l (List.getD L (Int.toNat i) default)))) : Int)) = false, decide ((6 : Int) < (↑(List.length (List.map Idd.enc (Stk.l (List.getD L (Int.toNat i) default)))) : Int)) = false, decide ((60 : Int) < (↑(List.length (List.map Idd.enc n)) : Int)) = true, PureC Try.prog 37 [] (bb true)]) (ans' := []) (base 174 0) cxA_K.1 cxA_K.2 _ (by kernel_rfl)  (allp g0 (allp g1 (allp g2 (allp g3 (allp g4 (allp g4 (allp g4 (allp g4 (allp g5 (allp (by apply lives <;> (first | assumption | rfl | (simp at * <;> omega))) allp_nil))))))))))
theorem ka_2 (y1 : List AV) (L : List Stk) (n : List Idd) (w i : Int) (g0 : decide (i < (↑(List.length (List.map Stk.enc L)) : Int)) = true) (g1 : decide ((0 : Int) ≤ i ∧ i < (↑(List.length (List.map Stk.enc L)) : Int)) = true) (g2 : decide (Int.toNat i < List.length (List.map Stk.enc L)) = true) (g3 : List.getD (List.map Stk.enc L) (Int.toNat i) AV.bad = Stk.enc (List.getD L (Int.toNat i) default)) (g4 : decide ((6 : Int) < (↑(List.length (List.map Idd.enc (Stk.l (List.getD L (Int.toNat i) default)))) : Int)) = false) (g5 : decide ((60 : Int) < (↑(List.length (List.map Idd.enc n)) : Int)) = false) (g6 : decide ((4 : Int) < (↑(List.length (List.map Idd.enc (Stk.l (List.getD L (Int.toNat i) default)))) : Int)) = true) (g7 : decide ((62 : Nat) = (62 : Nat) ∧ (List.all (List.map Idd.enc (Stk.l (List.getD L (Int.toNat i) default))) fun y => List.all (AV.ecells y) plainA) = true ∧ (List.all (List.map Idd.enc (Stk.l (List.getD L (Int.toNat i) default))) fun y => decide (List.length (AV.ecells y) = List.length (TInfo.zero { zero := [Value.int IntKind.u8 (0 : Int), Value.int IntKind.i64 (0 : Int)], bytes := (16 : Nat), agg := true, kind := TK.struct [((0 : Nat), (1 : Nat)), ((1 : Nat), (1 : Nat))] }))) = true) = true) (g8 : decide (List.length (List.map Idd.enc n) + List.length (List.map Idd.enc (Stk.l (List.getD L (Int.toNat i) default))) ≤ (4294967296 : Nat)) = true) (g9 : AV.sl Mode.own 30 none (List.map Idd.enc n ++ List.map Idd.enc (Stk.l (List.getD L (Int.toNat i) default))) = AV.sl Mode.own 30 none (List.map Idd.enc (n ++ Stk.l (List.getD L (Int.toNat i) default)))) : Tri Try.prog (cxN 174 0) (loopBody Try.f12 0) ([(1, .box y1), (3, ownS L), (4, ownI n), (5, it w), (6, it i)] ) (Ex.normal) ([(1, AV.box y1), (3, AV.sl Mode.own 62 none (List.map Stk.enc L)), (4, AV.sl Mode.own 30 none (List.map Idd.enc (n ++ Stk.l (List.getD L (Int.toNat i) default)))), (5, it 9), (6, it (IntKind.wrap IntKind.i64 (i + (1 : Int))))]) :=
  evA_ok (H := h12) (ans := [.c, .c, .c, .c, .b true, .c, .c, .b true, .c, .b true, .r (Stk.enc (List.getD L (Int.toNat i) default)), .c, .c, .c, .c, .b false, .c, .b false, .c, .b false, .c, .b false, .c, .b false, .c, .c, .b true, .c, .b true, .r (Stk.enc (List.getD L (Int.toNat i) default)), .c, .c, .c, .b true, .c, .c, .c, .c, .b true, .c, .b true, .r (Stk.enc (List.getD L (Int.toNat i) default)), .c, .b true, .b true, .r (AV.sl Mode.own 30 none (List.map Idd.enc (n ++ Stk.l (List.getD L (Int.toNat i) default)))), .c, .c, .c, .c]) (ps := [decide (i < (↑(List.length (List.map Stk.enc L)) : Int)) = true, decide ((0 : Int) ≤ i ∧ i < (↑(List.length (List.map Stk.enc L)) : Int)) = true, decide (Int.toNat i < List.length (List.map Stk.enc L)) = true, List.getD (List.map Stk.enc L) (Int.toNat i) AV.bad = Stk.enc (List.getD L (Int.toNat i) default), decide ((6 : Int) < (↑(List.length (List.map Idd.enc (Stk.l (List.getD L (Int.toNat i) default)))) : Int)) = false, decide ((6 : Int) < (↑(List.length (List.map Idd.enc (Stk.l (List.getD L (Int.toNat i) default)))) : Int)) = false, decide ((6 : Int) < (↑(List.length (List.map Idd.enc (Stk.l (List.getD L (Int.toNat i) default)))) : Int)) = false, decide ((6 : Int) < (↑(List.length (List.map Idd.enc (Stk.l (List.getD L (Int.toNat i) default)))) : Int)) = false, decide ((60 : Int) < (↑(List.length (List.map Idd.enc n)) : Int)) = false, decide ((0 : Int) ≤ i ∧ i < (↑(List.length (List.map Stk.enc L)) : Int)) = true, decide (Int.toNat i < List.length (List.map Stk.enc L)) = true, List.getD (List.map Stk.enc L) (Int.toNat i) AV.bad = Stk.enc (List.getD L (Int.toNat i) default), decide ((4 : Int) < (↑(List.length (List.map Idd.enc (Stk.l (List.getD L (Int.toNat i) default)))) : Int)) = true, decide ((0 : Int) ≤ i ∧ i < (↑(List.length (List.map Stk.enc L)) : Int)) = true, decide (Int.toNat i < List.length (List.map Stk.enc L)) = true, List.getD (List.map Stk.enc L) (Int.toNat i) AV.bad = Stk.enc (List.getD L (Int.toNat i) default), decide ((62 : Nat) = (62 : Nat) ∧ (List.all (List.map Idd.enc (Stk.l (List.getD L (Int.toNat i) default))) fun y => List.all (AV.ecells y) plainA) = true ∧ (List.all (List.map Idd.enc (Stk.l (List.getD L (Int.toNat i) default))) fun y => decide (List.length (AV.ecells y) = List.length (TInfo.zero { zero := [Value.int IntKind.u8 (0 : Int), Value.int IntKind.i64 (0 : Int)], bytes := (16 : Nat), agg := true, kind := TK.struct [((0 : Nat), (1 : Nat)), ((1 : Nat), (1 : Nat))] }))) = true) = true, decide (List.length (List.map Idd.enc n) + List.length (List.map Idd.enc (Stk.l (List.getD L (Int.toNat i) default))) ≤ (4294967296 : Nat)) = true, AV.sl Mode.own 30 none (List.map Idd.enc n ++ List.map Idd.enc (Stk.l (List.getD L (Int.toNat i) default))) = AV.sl Mode.own 30 none (List.map Idd.enc (n ++ Stk.l (List.getD L (Int.toNat i) default)))]) (ans' := []) (base 174 0) cxA_K.1 cxA_K.2 _ (by kernel_rfl)  (allp g0 (allp g1 (allp g2 (allp g3 (allp g4 (allp g4 (allp g4 (allp g4 (allp g5 (allp g1 (allp g2 (allp g3 (allp g6 (allp g1 (allp g2 (allp g3 (allp g7 (allp g8 (allp g9 allp_nil)))))))))))))))))))
theorem ka_3 (y1 : List AV) (L : List Stk) (n : List Idd) (w i : Int) (g0 : decide (i < (↑(List.length (List.map Stk.enc L)) : Int)) = true) (g1 : decide ((0 : Int) ≤ i ∧ i < (↑(List.length (List.map Stk.enc L)) : Int)) = true) (g2 : decide (Int.toNat i < List.length (List.map Stk.enc L)) = true) (g3 : List.getD (List.map Stk.enc L) (Int.toNat i) AV.bad = Stk.enc (List.getD L (Int.toNat i) default)) (g4 : decide ((6 : Int) < (↑(List.length (List.map Idd.enc (Stk.l (List.getD L (Int.toNat i) default)))) : Int)) = false) (g5 : decide ((60 : Int) < (↑(List.length (List.map Idd.enc n)) : Int)) = false) (g6 : decide ((4 : Int) < (↑(List.length (List.map Idd.enc (Stk.l (List.getD L (Int.toNat i) default)))) : Int)) = false) (g7 : decide ((62 : Nat) = (62 : Nat) ∧ (List.all (List.map Idd.enc (Stk.l (List.getD L (Int.toNat i) default))) fun y => List.all (AV.ecells y) plainA) = true ∧ (List.all (List.map Idd.enc (Stk.l (List.getD L (Int.toNat i) default))) fun y => decide (List.length (AV.ecells y) = List.length (TInfo.zero { zero := [Value.int IntKind.u8 (0 : Int), Value.int IntKind.i64 (0 : Int)], bytes := (16 : Nat), agg := true, kind := TK.struct [((0 : Nat), (1 : Nat)), ((1 : Nat), (1 : Nat))] }))) = true) = true) (g8 : decide (List.length (List.map Idd.enc n) + List.length (List.map Idd.enc (Stk.l (List.getD L (Int.toNat i) default))) ≤ (4294967296 : Nat)) = true) (g9 : AV.sl Mode.own 30 none (List.map Idd.enc n ++ List.map Idd.enc (Stk.l (List.getD L (Int.toNat i) default))) = AV.sl Mode.own 30 none (List.map Idd.enc (n ++ Stk.l (List.getD L (Int.toNat i) default)))) : Tri Try.prog (cxN 174 0) (loopBody Try.f12 0) ([(1, .box y1), (3, ownS L), (4, ownI n), (5, it w), (6, it i)] ) (Ex.normal) ([(1, AV.box y1), (3, AV.sl Mode.own 62 none (List.map Stk.enc L)), (4, AV.sl Mode.own 30 none (List.map Idd.enc (n ++ Stk.l (List.getD L (Int.toNat i) default)))), (5, it w), (6, it (IntKind.wrap IntKind.i64 (i + (1 : Int))))]) :=
  evA_ok (H := h12) (ans := [.c, .c, .c, .c, .b true, .c, .c, .b true, .c, .b true, .r (Stk.enc (List.getD L (Int.toNat i) default)), .c, .c, .c, .c, .b false, .c, .b false, .c, .b false, .c, .b false, .c, .b false, .c, .c, .b true, .c, .b true, .r (Stk.enc (List.getD L (Int.toNat i) default)), .c, .c, .c, .b false, .c, .c, .c, .b true, .c, .b true, .r (Stk.enc (List.getD L (Int.toNat i) default)), .c, .b true, .b true, .r (AV.sl Mode.own 30 none (List.map Idd.enc (n ++ Stk.l (List.getD L (Int.toNat i) default)))), .c, .c, .c, .c]) (ps := [decide (i < (↑(List.length (List.map Stk.enc L)) : Int)) = true, decide ((0 : Int) ≤ i ∧ i < (↑(List.length (List.map Stk.enc L)) : Int)) = true, decide (Int.toNat i < List.length (List.map Stk.enc L)) = true, List.getD (List.map Stk.enc L) (Int.toNat i) AV.bad = Stk.enc (List.getD L (Int.toNat i) default), decide ((6 : Int) < (↑(List.length (List.map Idd.enc (Stk.l (List.getD L (Int.toNat i) default)))) : Int)) = false, decide ((6 : Int) < (↑(List.length (List.map Idd.enc (Stk.l (List.getD L (Int.toNat i) default)))) : Int)) = false, decide ((6 : Int) < (↑(List.length (List.map Idd.enc (Stk.l (List.getD L (Int.toNat i) default)))) : Int)) = false, decide ((6 : Int) < (↑(List.length (List.map Idd.enc (Stk.l (List.getD L (Int.toNat i) default)))) : Int)) = false, decide ((60 : Int) < (↑(List.length (List.map Idd.enc n)) : Int)) = false, decide ((0 : Int) ≤ i ∧ i < (↑(List.length (List.map Stk.enc L)) : Int)) = true, decide (Int.toNat i < List.length (List.map Stk.enc L)) = true, List.getD (List.map Stk.enc L) (Int.toNat i) AV.bad = Stk.enc (List.getD L (Int.toNat i) default), decide ((4 : Int) < (↑(List.length (List.map Idd.enc (Stk.l (List.getD L (Int.toNat i) default)))) : Int)) = false, decide ((0 : Int) ≤ i ∧ i < (↑(List.length (List.map Stk.enc L)) : Int)) = true, decide (Int.toNat i < List.length (List.map Stk.enc L)) = true, List.getD (List.map Stk.enc L) (Int.toNat i) AV.bad = Stk.enc (List.getD L (Int.toNat i) default), decide ((62 : Nat) = (62 : Nat) ∧ (List.all (List.map Idd.enc (Stk.l (List.getD L (Int.toNat i) default))) fun y => List.all (AV.ecells y) plainA) = true ∧ (List.all (List.map Idd.enc (Stk.l (List.getD L (Int.toNat i) default))) fun y => decide (List.length (AV.ecells y) = List.length (TInfo.zero { zero := [Value.int IntKind.u8 (0 : Int), Value.int IntKind.i64 (0 : Int)], bytes := (16 : Nat), agg := true, kind := TK.struct [((0 : Nat), (1 : Nat)), ((1 : Nat), (1 : Nat))] }))) = true) = true, decide (List.length (List.map Idd.enc n) + List.length (List.map Idd.enc (Stk.l (List.getD L (Int.toNat i) default))) ≤ (4294967296 : Nat)) = true, AV.sl Mode.own 30 none (List.map Idd.enc n ++ List.map Idd.enc (Stk.l (List.getD L (Int.toNat i) default))) = AV.sl Mode.own 30 none (List.map Idd.enc (n ++ Stk.l (List.getD L (Int.toNat i) default)))]) (ans' := []) (base 174 0) cxA_K.1 cxA_K.2 _ (by kernel_rfl)  (allp g0 (allp g1 (allp g2 (allp g3 (allp g4 (allp g4 (allp g4 (allp g4 (allp g5 (allp g1 (allp g2 (allp g3 (allp g6 (allp g1 (allp g2 (allp g3 (allp g7 (allp g8 (allp g9 allp_nil)))))))))))))))))))
theorem ka_4 (y1 : List AV) (L : List Stk) (n : List Idd) (w i : Int) (g0 : decide (i < (↑(List.length (List.map Stk.enc L)) : Int)) = false) : Tri Try.prog (cxN 174 0) (loopBody Try.f12 0) ([(1, .box y1), (3, ownS L), (4, ownI n), (5, it w), (6, it i)] ) (Ex.exit 0) ([(1, AV.box y1), (3, AV.sl Mode.own 62 none (List.map Stk.enc L)), (4, AV.sl Mode.own 30 none (List.map Idd.enc n)), (5, it w), (6, it i), (35, bb (decide (i < (↑(List.length (List.map Stk.enc L)) : Int))))]) :=
  evA_ok (H := h12) (ans := [.c, .c, .c, .c, .b false]) (ps := [decide (i < (↑(List.length (List.map Stk.enc L)) : Int)) = false]) (ans' := []) (base 174 0) cxA_K.1 cxA_K.2 _ (by kernel_rfl)  (allp g0 allp_nil)
theorem kc14_0 (F B : List Stk) (n : List Idd) (w : Int) (g0 : decide ((40 : Int) < (↑(List.length (List.map Stk.enc F)) : Int)) = true) : Tri Try.prog (cxN 174 0) (codeAt Try.f12 14) ([(1, .box [bsl none F, bsl none B]), (4, ownI n), (5, it w)] ) (Ex.normal) ([(1, AV.box [bsl none F, bsl none B]), (4, AV.sl Mode.own 30 none (List.map Idd.enc n)), (5, it 9)]) :=
  evA_ok (H := h12) (ans := [.c, .c, .c, .c, .c, .c, .c, .b true, .c, .b true, .c, .b true, .c, .b true, .c, .b true, .c, .c, .c]) (ps := [decide ((40 : Int) < (↑(List.length (List.map Stk.enc F)) : Int)) = true, decide ((40 : Int) < (↑(List.length (List.map Stk.enc F)) : Int)) = true, decide ((40 : Int) < (↑(List.length (List.map Stk.enc F)) : Int)) = true, decide ((40 : Int) < (↑(List.length (List.map Stk.enc F)) : Int)) = true, decide ((40 : Int) < (↑(List.length (List.map Stk.enc F)) : Int)) = true]) (ans' := []) (base 174 0) cxA_K.1 cxA_K.2 _ (by kernel_rfl)  (allp g0 (allp g0 (allp g0 (allp g0 (allp g0 allp_nil)))))
theorem kc14_1 (F B : List Stk) (n : List Idd) (w : Int) (g0 : decide ((40 : Int) < (↑(List.length (List.map Stk.enc F)) : Int)) = false) (g1 : decide ((40 : Int) < (↑(List.length (List.map Stk.enc B)) : Int)) = true) : Tri Try.prog (cxN 174 0) (codeAt Try.f12 14) ([(1, .box [bsl none F, bsl none B]), (4, ownI n), (5, it w)] ) (Ex.normal) ([(1, AV.box [bsl none F, bsl none B]), (4, AV.sl Mode.own 30 none (List.map Idd.enc n)), (5, it 9)]) :=
  evA_ok (H := h12) (ans := [.c, .c, .c, .c, .c, .c, .c, .b false, .c, .b false, .c, .c, .c, .b false, .c, .b false, .c, .b false, .c, .b true, .c]) (ps := [decide ((40 : Int) < (↑(List.length (List.map Stk.enc F)) : Int)) = false, decide ((40 : Int) < (↑(List.length (List.map Stk.enc F)) : Int)) = false, decide ((40 : Int) < (↑(List.length (List.map Stk.enc F)) : Int)) = false, decide ((40 : Int) < (↑(List.length (List.map Stk.enc F)) : Int)) = false, decide ((40 : Int) < (↑(List.length (List.map Stk.enc F)) : Int)) = false, decide ((40 : Int) < (↑(List.length (List.map Stk.enc B)) : Int)) = true]) (ans' := []) (base 174 0) cxA_K.1 cxA_K.2 _ (by kernel_rfl)  (allp g0 (allp g0 (allp g0 (allp g0 (allp g0 (allp g1 allp_nil))))))
theorem kc14_2 (F B : List Stk) (n : List Idd) (w : Int) (g0 : decide ((40 : Int) < (↑(List.length (List.map Stk.enc F)) : Int)) = false) (g1 : decide ((40 : Int) < (↑(List.length (List.map Stk.enc B)) : Int)) = false) : Tri Try.prog (cxN 174 0) (codeAt Try.f12 14) ([(1, .box [bsl none F, bsl none B]), (4, ownI n), (5, it w)] ) (Ex.normal) ([(1, AV.box [bsl none F, bsl none B]), (4, AV.sl Mode.own 30 none (List.map Idd.enc n)), (5, it w), (71, bb (decide ((40 : Int) < (↑(List.length (List.map Stk.enc B)) : Int))))]) :=
  evA_ok (H := h12) (ans := [.c, .c, .c, .c, .c, .c, .c, .b false, .c, .b false, .c, .c, .c, .b false, .c, .b false, .c, .b false, .c, .b false]) (ps := [decide ((40 : Int) < (↑(List.length (List.map Stk.enc F)) : Int)) = false, decide ((40 : Int) < (↑(List.length (List.map Stk.enc F)) : Int)) = false, decide ((40 : Int) < (↑(List.length (List.map Stk.enc F)) : Int)) = false, decide ((40 : Int) < (↑(List.length (List.map Stk.enc F)) : Int)) = false, decide ((40 : Int) < (↑(List.length (List.map Stk.enc F)) : Int)) = false, decide ((40 : Int) < (↑(List.length (List.map Stk.enc B)) : Int)) = false]) (ans' := []) (base 174 0) cxA_K.1 cxA_K.2 _ (by kernel_rfl)  (allp g0 (allp g0 (allp g0 (allp g0 (allp g0 (allp g1 allp_nil))))))
theorem kc16_0 (y1 : List AV) (n : List Idd) (w : Int) : Tri Try.prog (cxN 174 0) (regAt Try.f12 16) ([(1, .box y1), (4, ownI n), (5, it w)] ) (Ex.normal) ([(1, AV.box y1), (4, AV.sl Mode.own 30 none (List.map Idd.enc n)), (5, it w), (7, it 0)]) :=
  evA_ok (H := h12) (ans := [.c]) (ps := []) (ans' := []) (base 174 0) cxA_K.1 cxA_K.2 _ (by kernel_rfl)  allp_nil
theorem kb_0 (y1 : List AV) (l : List Idd) (w k : Int) (g0 : decide (k < (↑(List.length (List.map Idd.enc l)) : Int)) = true) (g1 : (w == (0 : Int)) = true) (g2 : decide ((0 : Int) ≤ k ∧ k < (↑(List.length (List.map Idd.enc l)) : Int)) = true) (g3 : decide (Int.toNat k < List.length (List.map Idd.enc l)) = true) (g4 : List.getD (List.map Idd.enc l) (Int.toNat k) AV.bad = Idd.enc (List.getD l (Int.toNat k) default)) (g5 : decide (Idd.y (List.getD l (Int.toNat k) default) < (1 : Int)) = true) : Tri Try.prog (cxN 174 0) (loopBody Try.f12 1) ([(1, .box y1), (4, ownI l), (5, it w), (7, it k)] ) (Ex.normal) ([(1, AV.box y1), (4, AV.sl Mode.own 30 none (List.map Idd.enc l)), (5, it 1), (7, it (IntKind.wrap IntKind.i64 (k + (1 : Int))))]) :=
  evA_ok (H := h12) (ans := [.c, .c, .c, .c, .c, .b true, .c, .b true, .c, .b true, .c, .b true, .c, .c, .b true, .c, .c, .b true, .r (Idd.enc (List.getD l (Int.toNat k) default)), .c, .c, .c, .b true, .c, .b true, .c, .b true, .c, .b true, .c, .b true, .c, .b true, .c, .b true, .c, .c, .c, .c, .c, .c, .c, .c, .c, .c, .c, .c, .c, .c, .c, .c, .c, .c, .c, .c, .c, .c, .c, .c, .c, .c, .c, .c, .c, .c, .c, .c, .c, .c, .c, .c]) (ps := [decide (k < (↑(List.length (List.map Idd.enc l)) : Int)) = true, decide (k < (↑(List.length (List.map Idd.enc l)) : Int)) = true, decide (k < (↑(List.length (List.map Idd.enc l)) : Int)) = true, (w == (0 : Int)) = true, decide ((0 : Int) ≤ k ∧ k < (↑(List.length (List.map Idd.enc l)) : Int)) = true, decide (Int.toNat k < List.length (List.map Idd.enc l)) = true, List.getD (List.map Idd.enc l) (Int.toNat k) AV.bad = Idd.enc (List.getD l (Int.toNat k) default), decide (Idd.y (List.getD l (Int.toNat k) default) < (1 : Int)) = true, decide (Idd.y (List.getD l (Int.toNat k) default) < (1 : Int)) = true, decide (Idd.y (List.getD l (Int.toNat k) default) < (1 : Int)) = true, decide (Idd.y (List.getD l (Int.toNat k) default) < (1 : Int)) = true, decide (Idd.y (List.getD l (Int.toNat k) default) < (1 : Int)) = true, decide (Idd.y (List.getD l (Int.toNat k) default) < (1 : Int)) = true, decide (Idd.y (List.getD l (Int.toNat k) default) < (1 : Int)) = true]) (ans' := []) (base 174 0) cxA_K.1 cxA_K.2 _ (by kernel_rfl)  (allp g0 (allp g0 (allp g0 (allp g1 (allp g2 (allp g3 (allp g4 (allp g5 (allp g5 (allp g5 (allp g5 (allp g5 (allp g5 (allp g5 allp_nil))))))))))))))
theorem kb_1 (y1 : List AV) (l : List Idd) (w k : Int) (g0 : decide (k < (↑(List.length (List.map Idd.enc l)) : Int)) = true) (g1 : (w == (0 : Int)) = true) (g2 : decide ((0 : Int) ≤ k ∧ k < (↑(List.length (List.map Idd.enc l)) : Int)) = true) (g3 : decide (Int.toNat k < List.length (List.map Idd.enc l)) = true) (g4 : List.getD (List.map Idd.enc l) (Int.toNat k) AV.bad = Idd.enc (List.getD l (Int.toNat k) default)) (g5 : decide (Idd.y (List.getD l (Int.toNat k) default) < (1 : Int)) = false) (g6 : decide ((6 : Int) < Idd.y (List.getD l (Int.toNat k) default)) = true) : Tri Try.prog (cxN 174 0) (loopBody Try.f12 1) ([(1, .box y1), (4, ownI l), (5, it w), (7, it k)] ) (Ex.normal) ([(1, AV.box y1), (4, AV.sl Mode.own 30 none (List.map Idd.enc l)), (5, it 1), (7, it (IntKind.wrap IntKind.i64 (k + (1 : Int))))]) :=
  evA_ok (H := h12) (ans := [.c, .c, .c, .c, .c, .b true, .c, .b true, .c, .b true, .c, .b true, .c, .c, .b true, .c, .c, .b true, .r (Idd.enc (List.getD l (Int.toNat k) default)), .c, .c, .c, .b false, .c, .b false, .c, .b false, .b true, .c, .b false, .c, .b false, .b true, .r (Idd.enc (List.getD l (Int.toNat k) default)), .c, .b false, .c, .b false, .c, .c, .b true, .c, .b true, .c, .b true, .c, .b true, .c, .b true, .c, .b true, .c, .b true, .c, .c, .c, .c, .c, .c, .c, .c, .c, .c, .c, .c, .c, .c, .c, .c, .c, .c, .c, .c, .c]) (ps := [decide (k < (↑(List.length (List.map Idd.enc l)) : Int)) = true, decide (k < (↑(List.length (List.map Idd.enc l)) : Int)) = true, decide (k < (↑(List.length (List.map Idd.enc l)) : Int)) = true, (w == (0 : Int)) = true, decide ((0 : Int) ≤ k ∧ k < (↑(List.length (List.map Idd.enc l)) : Int)) = true, decide (Int.toNat k < List.length (List.map Idd.enc l)) = true, List.getD (List.map Idd.enc l) (Int.toNat k) AV.bad = Idd.enc (List.getD l (Int.toNat k) default), decide (Idd.y (List.getD l (Int.toNat k) default) < (1 : Int)) = false, decide (Idd.y (List.getD l (Int.toNat k) default) < (1 : Int)) = false, decide (Idd.y (List.getD l (Int.toNat k) default) < (1 : Int)) = false, decide ((0 : Int) ≤ k ∧ k < (↑(List.length (List.map Idd.enc l)) : Int)) = true, decide (Idd.y (List.getD l (Int.toNat k) default) < (1 : Int)) = false, decide (Idd.y (List.getD l (Int.toNat k) default) < (1 : Int)) = false, decide (Int.toNat k < List.length (List.map Idd.enc l)) = true, List.getD (List.map Idd.enc l) (Int.toNat k) AV.bad = Idd.enc (List.getD l (Int.toNat k) default), decide (Idd.y (List.getD l (Int.toNat k) default) < (1 : Int)) = false, decide (Idd.y (List.getD l (Int.toNat k) default) < (1 : Int)) = false, decide ((6 : Int) < Idd.y (List.getD l (Int.toNat k) default)) = true, decide ((6 : Int) < Idd.y (List.getD l (Int.toNat k) default)) = true, decide ((6 : Int) < Idd.y (List.getD l (Int.toNat k) default)) = true, decide ((6 : Int) < Idd.y (List.getD l (Int.toNat k) default)) = true, decide ((6 : Int) < Idd.y (List.getD l (Int.toNat k) default)) = true, decide ((6 : Int) < Idd.y (List.getD l (Int.toNat k) default)) = true, decide ((6 : Int) < Idd.y (List.getD l (Int.toNat k) default)) = true]) (ans' := []) (base 174 0) cxA_K.1 cxA_K.2 _ (by kernel_rfl)  (allp g0 (allp g0 (allp g0 (allp g1 (allp g2 (allp g3 (allp g4 (allp g5 (allp g5 (allp g5 (allp g2 (allp g5 (allp g5 (allp g3 (allp g4 (allp g5 (allp g5 (allp g6 (allp g6 (allp g6 (allp g6 (allp g6 (allp g6 (allp g6 allp_nil))))))))))))))))))))))))
theorem kb_2 (y1 : List AV) (l : List Idd) (w k : Int) (g0 : decide (k < (↑(List.length (List.map Idd.enc l)) : Int)) = true) (g1 : (w == (0 : Int)) = true) (g2 : decide ((0 : Int) ≤ k ∧ k < (↑(List.length (List.map Idd.enc l)) : Int)) = true) (g3 : decide (Int.toNat k < List.length (List.map Idd.enc l)) = true) (g4 : List.getD (List.map Idd.enc l) (Int.toNat k) AV.bad = Idd.enc (List.getD l (Int.toNat k) default)) (g5 : decide (Idd.y (List.getD l (Int.toNat k) default) < (1 : Int)) = false) (g6 : decide ((6 : Int) < Idd.y (List.getD l (Int.toNat k) default)) = false) (g7 : decide (Idd.n (List.getD l (Int.toNat k) default) < (0 : Int)) = true) : Tri Try.prog (cxN 174 0) (loopBody Try.f12 1) ([(1, .box y1), (4, ownI l), (5, it w), (7, it k)] ) (Ex.normal) ([(1, AV.box y1), (4, AV.sl Mode.own 30 none (List.map Idd.enc l)), (5, it 1), (7, it (IntKind.wrap IntKind.i64 (k + (1 : Int))))]) :=
  evA_ok (H := h12) (ans := [.c, .c, .c, .c, .c, .b true, .c, .b true, .c, .b true, .c, .b true, .c, .c, .b true, .c, .c, .b true, .r (Idd.enc (List.getD l (Int.toNat k) default)), .c, .c, .c, .b false, .c, .b false, .c, .b false, .b true, .c, .b false, .c, .b false, .b true, .r (Idd.enc (List.getD l (Int.toNat k) default)), .c, .b false, .c, .b false, .c, .c, .b false, .c, .b false, .c, .b false, .b true, .c, .b false, .c, .b false, .b true, .r (Idd.enc (List.getD l (Int.toNat k) default)), .c, .b false, .c, .b false, .c, .c, .b true, .c, .b true, .c, .b true, .c, .b true, .c, .b true, .c, .b true, .c, .b true, .c, .c, .c, .c, .c, .c]) (ps := [decide (k < (↑(List.length (List.map Idd.enc l)) : Int)) = true, decide (k < (↑(List.length (List.map Idd.enc l)) : Int)) = true, decide (k < (↑(List.length (List.map Idd.enc l)) : Int)) = true, (w == (0 : Int)) = true, decide ((0 : Int) ≤ k ∧ k < (↑(List.length (List.map Idd.enc l)) : Int)) = true, decide (Int.toNat k < List.length (List.map Idd.enc l)) = true, List.getD (List.map Idd.enc l) (Int.toNat k) AV.bad = Idd.enc (List.getD l (Int.toNat k) default), decide (Idd.y (List.getD l (Int.toNat k) default) < (1 : Int)) = false, decide (Idd.y (List.getD l (Int.toNat k) default) < (1 : Int)) = false, decide (Idd.y (List.getD l (Int.toNat k) default) < (1 : Int)) = false, decide ((0 : Int) ≤ k ∧ k < (↑(List.length (List.map Idd.enc l)) : Int)) = true, decide (Idd.y (List.getD l (Int.toNat k) default) < (1 : Int)) = false, decide (Idd.y (List.getD l (Int.toNat k) default) < (1 : Int)) = false, decide (Int.toNat k < List.length (List.map Idd.enc l)) = true, List.getD (List.map Idd.enc l) (Int.toNat k) AV.bad = Idd.enc (List.getD l (Int.toNat k) default), decide (Idd.y (List.getD l (Int.toNat k) default) < (1 : Int)) = false, decide (Idd.y (List.getD l (Int.toNat k) default) < (1 : Int)) = false, decide ((6 : Int) < Idd.y (List.getD l (Int.toNat k) default)) = false, decide ((6 : Int) < Idd.y (List.getD l (Int.toNat k) default)) = false, decide ((6 : Int) < Idd.y (List.getD l (Int.toNat k) default)) = false, decide ((0 : Int) ≤ k ∧ k < (↑(List.length (List.map Idd.enc l)) : Int)) = true, decide ((6 : Int) < Idd.y (List.getD l (Int.toNat k) default)) = false, decide ((6 : Int) < Idd.y (List.getD l (Int.toNat k) default)) = false, decide (Int.toNat k < List.length (List.map Idd.enc l)) = true, List.getD (List.map Idd.enc l) (Int.toNat k) AV.bad = Idd.enc (List.getD l (Int.toNat k) default), decide ((6 : Int) < Idd.y (List.getD l (Int.toNat k) default)) = false, decide ((6 : Int) < Idd.y (List.getD l (Int.toNat k) default)) = false, decide (Idd.n (List.getD l (Int.toNat k) default) < (0 : Int)) = true, decide (Idd.n (List.getD l (Int.toNat k) default) < (0 : Int)) = true, decide (Idd.n (List.getD l (Int.toNat k) default) < (0 : Int)) = true, decide (Idd.n (List.getD l (Int.toNat k) default) < (0 : Int)) = true, decide (Idd.n (List.getD l (Int.toNat k) default) < (0 : Int)) = true, decide (Idd.n (List.getD l (Int.toNat k) default) < (0 : Int)) = true, decide (Idd.n (List.getD l (Int.toNat k) default) < (0 : Int)) = true]) (ans' := []) (base 174 0) cxA_K.1 cxA_K.2 _ (by kernel_rfl)  (allp g0 (allp g0 (allp g0 (allp g1 (allp g2 (allp g3 (allp g4 (allp g5 (allp g5 (allp g5 (allp g2 (allp g5 (allp g5 (allp g3 (allp g4 (allp g5 (allp g5 (allp g6 (allp g6 (allp g6 (allp g2 (allp g6 (allp g6 (allp g3 (allp g4 (allp g6 (allp g6 (allp g7 (allp g7 (allp g7 (allp g7 (allp g7 (allp g7 (allp g7 allp_nil))))))))))))))))))))))))))))))))))
theorem kb_3 (y1 : List AV) (l : List Idd) (w k : Int) (g0 : decide (k < (↑(List.length (List.map Idd.enc l)) : Int)) = true) (g1 : (w == (0 : Int)) = true) (g2 : decide ((0 : Int) ≤ k ∧ k < (↑(List.length (List.map Idd.enc l)) : Int)) = true) (g3 : decide (Int.toNat k < List.length (List.map Idd.enc l)) = true) (g4 : List.getD (List.map Idd.enc l) (Int.toNat k) AV.bad = Idd.enc (List.getD l (Int.toNat k) default)) (g5 : decide (Idd.y (List.getD l (Int.toNat k) default) < (1 : Int)) = false) (g6 : decide ((6 : Int) < Idd.y (List.getD l (Int.toNat k) default)) = false) (g7 : decide (Idd.n (List.getD l (Int.toNat k) default) < (0 : Int)) = false) (g8 : decide ((2047 : Int) < Idd.n (List.getD l (Int.toNat k) default)) = true) : Tri Try.prog (cxN 174 0) (loopBody Try.f12 1) ([(1, .box y1), (4, ownI l), (5, it w), (7, it k)] ) (Ex.normal) ([(1, AV.box y1), (4, AV.sl Mode.own 30 none (List.map Idd.enc l)), (5, it 1), (7, it (IntKind.wrap IntKind.i64 (k + (1 : Int))))]) :=
  evA_ok (H := h12) (ans := [.c, .c, .c, .c, .c, .b true, .c, .b true, .c, .b true, .c, .b true, .c, .c, .b true, .c, .c, .b true, .r (Idd.enc (List.getD l (Int.toNat k) default)), .c, .c, .c, .b false, .c, .b false, .c, .b false, .b true, .c, .b false, .c, .b false, .b true, .r (Idd.enc (List.getD l (Int.toNat k) default)), .c, .b false, .c, .b false, .c, .c, .b false, .c, .b false, .c, .b false, .b true, .c, .b false, .c, .b false, .b true, .r (Idd.enc (List.getD l (Int.toNat k) default)), .c, .b false, .c, .b false, .c, .c, .b false, .c, .b false, .c, .b false, .b true, .c, .b false, .c, .b false, .b true, .r (Idd.enc (List.getD l (Int.toNat k) default)), .c, .b false, .c, .b false, .c, .b true, .c, .c, .c, .c]) (ps := [decide (k < (↑(List.length (List.map Idd.enc l)) : Int)) = true, decide (k < (↑(List.length (List.map Idd.enc l)) : Int)) = true, decide (k < (↑(List.length (List.map Idd.enc l)) : Int)) = true, (w == (0 : Int)) = true, decide ((0 : Int) ≤ k ∧ k < (↑(List.length (List.map Idd.enc l)) : Int)) = true, decide (Int.toNat k < List.length (List.map Idd.enc l)) = true, List.getD (List.map Idd.enc l) (Int.toNat k) AV.bad = Idd.enc (List.getD l (Int.toNat k) default), decide (Idd.y (List.getD l (Int.toNat k) default) < (1 : Int)) = false, decide (Idd.y (List.getD l (Int.toNat k) default) < (1 : Int)) = false, decide (Idd.y (List.getD l (Int.toNat k) default) < (1 : Int)) = false, decide ((0 : Int) ≤ k ∧ k < (↑(List.length (List.map Idd.enc l)) : Int)) = true, decide (Idd.y (List.getD l (Int.toNat k) default) < (1 : Int)) = false, decide (Idd.y (List.getD l (Int.toNat k) default) < (1 : Int)) = false, decide (Int.toNat k < List.length (List.map Idd.enc l)) = true, List.getD (List.map Idd.enc l) (Int.toNat k) AV.bad = Idd.enc (List.getD l (Int.toNat k) default), decide (Idd.y (List.getD l (Int.toNat k) default) < (1 : Int)) = false, decide (Idd.y (List.getD l (Int.toNat k) default) < (1 : Int)) = false, decide ((6 : Int) < Idd.y (List.getD l (Int.toNat k) default)) = false, decide ((6 : Int) < Idd.y (List.getD l (Int.toNat k) default)) = false, decide ((6 : Int) < Idd.y (List.getD l (Int.toNat k) default)) = false, decide ((0 : Int) ≤ k ∧ k < (↑(List.length (List.map Idd.enc l)) : Int)) = true, decide ((6 : Int) < Idd.y (List.getD l (Int.toNat k) default)) = false, decide ((6 : Int) < Idd.y (List.getD l (Int.toNat k) default)) = false, decide (Int.toNat k < List.length (List.map Idd.enc l)) = true, List.getD (List.map Idd.enc l) (Int.toNat k) AV.bad = Idd.enc (List.getD l (Int.toNat k) default), decide ((6 : Int) < Idd.y (List.getD l (Int.toNat k) default)) = false, decide ((6 : Int) < Idd.y (List.getD l (Int.toNat k) default)) = false, decide (Idd.n (List.getD l (Int.toNat k) default) < (0 : Int)) = false, decide (Idd.n (List.getD l (Int.toNat k) default) < (0 : Int)) = false, decide (Idd.n (List.getD l (Int.toNat k) default) < (0 : Int)) = false, decide ((0 : Int) ≤ k ∧ k < (↑(List.length (List.map Idd.enc l)) : Int)) = true, decide (Idd.n (List.getD l (Int.toNat k) default) < (0 : Int)) = false, decide (Idd.n (List.getD l (Int.toNat k) default) < (0 : Int)) = false, decide (Int.toNat k < List.length (List.map Idd.enc l)) = true, List.getD (List.map Idd.enc l) (Int.toNat k) AV.bad = Idd.enc (List.getD l (Int.toNat k) default), decide (Idd.n (List.getD l (Int.toNat k) default) < (0 : Int)) = false, decide (Idd.n (List.getD l (Int.toNat k) default) < (0 : Int)) = false, decide ((2047 : Int) < Idd.n (List.getD l (Int.toNat k) default)) = true]) (ans' := []) (base 174 0) cxA_K.1 cxA_K.2 _ (by kernel_rfl)  (allp g0 (allp g0 (allp g0 (allp g1 (allp g2 (allp g3 (allp g4 (allp g5 (allp g5 (allp g5 (allp g2 (allp g5 (allp g5 (allp g3 (allp g4 (allp g5 (allp g5 (allp g6 (allp g6 (allp g6 (allp g2 (allp g6 (allp g6 (allp g3 (allp g4 (allp g6 (allp g6 (allp g7 (allp g7 (allp g7 (allp g2 (allp g7 (allp g7 (allp g3 (allp g4 (allp g7 (allp g7 (allp g8 allp_nil))))))))))))))))))))))))))))))))))))))
theorem kb_4 (y1 : List AV) (l : List Idd) (w k : Int) (g0 : decide (k < (↑(List.length (List.map Idd.enc l)) : Int)) = true) (g1 : (w == (0 : Int)) = true) (g2 : decide ((0 : Int) ≤ k ∧ k < (↑(List.length (List.map Idd.enc l)) : Int)) = true) (g3 : decide (Int.toNat k < List.length (List.map Idd.enc l)) = true) (g4 : List.getD (List.map Idd.enc l) (Int.toNat k) AV.bad = Idd.enc (List.getD l (Int.toNat k) default)) (g5 : decide (Idd.y (List.getD l (Int.toNat k) default) < (1 : Int)) = false) (g6 : decide ((6 : Int) < Idd.y (List.getD l (Int.toNat k) default)) = false) (g7 : decide (Idd.n (List.getD l (Int.toNat k) default) < (0 : Int)) = false) (g8 : decide ((2047 : Int) < Idd.n (List.getD l (Int.toNat k) default)) = false) : Tri Try.prog (cxN 174 0) (loopBody Try.f12 1) ([(1, .box y1), (4, ownI l), (5, it w), (7, it k)] ) (Ex.normal) ([(1, AV.box y1), (4, AV.sl Mode.own 30 none (List.map Idd.enc l)), (5, it w), (7, it (IntKind.wrap IntKind.i64 (k + (1 : Int))))]) :=
  evA_ok (H := h12) (ans := [.c, .c, .c, .c, .c, .b true, .c, .b true, .c, .b true, .c, .b true, .c, .c, .b true, .c, .c, .b true, .r (Idd.enc (List.getD l (Int.toNat k) default)), .c, .c, .c, .b false, .c, .b false, .c, .b false, .b true, .c, .b false, .c, .b false, .b true, .r (Idd.enc (List.getD l (Int.toNat k) default)), .c, .b false, .c, .b false, .c, .c, .b false, .c, .b false, .c, .b false, .b true, .c, .b false, .c, .b false, .b true, .r (Idd.enc (List.getD l (Int.toNat k) default)), .c, .b false, .c, .b false, .c, .c, .b false, .c, .b false, .c, .b false, .b true, .c, .b false, .c, .b false, .b true, .r (Idd.enc (List.getD l (Int.toNat k) default)), .c, .b false, .c, .b false, .c, .b false, .c, .c, .c]) (ps := [decide (k < (↑(List.length (List.map Idd.enc l)) : Int)) = true, decide (k < (↑(List.length (List.map Idd.enc l)) : Int)) = true, decide (k < (↑(List.length (List.map Idd.enc l)) : Int)) = true, (w == (0 : Int)) = true, decide ((0 : Int) ≤ k ∧ k < (↑(List.length (List.map Idd.enc l)) : Int)) = true, decide (Int.toNat k < List.length (List.map Idd.enc l)) = true, List.getD (List.map Idd.enc l) (Int.toNat k) AV.bad = Idd.enc (List.getD l (Int.toNat k) default), decide (Idd.y (List.getD l (Int.toNat k) default) < (1 : Int)) = false, decide (Idd.y (List.getD l (Int.toNat k) default) < (1 : Int)) = false, decide (Idd.y (List.getD l (Int.toNat k) default) < (1 : Int)) = false, decide ((0 : Int) ≤ k ∧ k < (↑(List.length (List.map Idd.enc l)) : Int)) = true, decide (Idd.y (List.getD l (Int.toNat k) default) < (1 : Int)) = false, decide (Idd.y (List.getD l (Int.toNat k) default) < (1 : Int)) = false, decide (Int.toNat k < List.length (List.map Idd.enc l)) = true, List.getD (List.map Idd.enc l) (Int.toNat k) AV.bad = Idd.enc (List.getD l (Int.toNat k) default), decide (Idd.y (List.getD l (Int.toNat k) default) < (1 : Int)) = false, decide (Idd.y (List.getD l (Int.toNat k) default) < (1 : Int)) = false, decide ((6 : Int) < Idd.y (List.getD l (Int.toNat k) default)) = false, decide ((6 : Int) < Idd.y (List.getD l (Int.toNat k) default)) = false, decide ((6 : Int) < Idd.y (List.getD l (Int.toNat k) default)) = false, decide ((0 : Int) ≤ k ∧ k < (↑(List.length (List.map Idd.enc l)) : Int)) = true, decide ((6 : Int) < Idd.y (List.getD l (Int.toNat k) default)) = false, decide ((6 : Int) < Idd.y (List.getD l (Int.toNat k) default)) = false, decide (Int.toNat k < List.length (List.map Idd.enc l)) = true, List.getD (List.map Idd.enc l) (Int.toNat k) AV.bad = Idd.enc (List.getD l (Int.toNat k) default), decide ((6 : Int) < Idd.y (List.getD l (Int.toNat k) default)) = false, decide ((6 : Int) < Idd.y (List.getD l (Int.toNat k) default)) = false, decide (Idd.n (List.getD l (Int.toNat k) default) < (0 : Int)) = false, decide (Idd.n (List.getD l (Int.toNat k) default) < (0 : Int)) = false, decide (Idd.n (List.getD l (Int.toNat k) default) < (0 : Int)) = false, decide ((0 : Int) ≤ k ∧ k < (↑(List.length (List.map Idd.enc l)) : Int)) = true, decide (Idd.n (List.getD l (Int.toNat k) default) < (0 : Int)) = false, decide (Idd.n (List.getD l (Int.toNat k) default) < (0 : Int)) = false, decide (Int.toNat k < List.length (List.map Idd.enc l)) = true, List.getD (List.map Idd.enc l) (Int.toNat k) AV.bad = Idd.enc (List.getD l (Int.toNat k) default), decide (Idd.n (List.getD l (Int.toNat k) default) < (0 : Int)) = false, decide (Idd.n (List.getD l (Int.toNat k) default) < (0 : Int)) = false, decide ((2047 : Int) < Idd.n (List.getD l (Int.toNat k) default)) = false]) (ans' := []) (base 174 0) cxA_K.1 cxA_K.2 _ (by kernel_rfl)  (allp g0 (allp g0 (allp g0 (allp g1 (allp g2 (allp g3 (allp g4 (allp g5 (allp g5 (allp g5 (allp g2 (allp g5 (allp g5 (allp g3 (allp g4 (allp g5 (allp g5 (allp g6 (allp g6 (allp g6 (allp g2 (allp g6 (allp g6 (allp g3 (allp g4 (allp g6 (allp g6 (allp g7 (allp g7 (allp g7 (allp g2 (allp g7 (allp g7 (allp g3 (allp g4 (allp g7 (allp g7 (allp g8 allp_nil))))))))))))))))))))))))))))))))))))))
theorem kb_5 (y1 : List AV) (l : List Idd) (w k : Int) (g0 : decide (k < (↑(List.length (List.map Idd.enc l)) : Int)) = true) (g1 : (w == (0 : Int)) = false) : Tri Try.prog (cxN 174 0) (loopBody Try.f12 1) ([(1, .box y1), (4, ownI l), (5, it w), (7, it k)] ) (Ex.exit 2) ([(1, AV.box y1), (4, AV.sl Mode.own 30 none (List.map Idd.enc l)), (5, it w), (7, it k), (79, bb (w == (0 : Int)))]) :=
  evA_ok (H := h12) (ans := [.c, .c, .c, .c, .c, .b true, .c, .b true, .c, .b true, .c, .b false]) (ps := [decide (k < (↑(List.length (List.map Idd.enc l)) : Int)) = true, decide (k < (↑(List.length (List.map Idd.enc l)) : Int)) = true, decide (k < (↑(List.length (List.map Idd.enc l)) : Int)) = true, (w == (0 : Int)) = false]) (ans' := []) (base 174 0) cxA_K.1 cxA_K.2 _ (by kernel_rfl)  (allp g0 (allp g0 (allp g0 (allp g1 allp_nil))))
theorem kb_6 (y1 : List AV) (l : List Idd) (w k : Int) (g0 : decide (k < (↑(List.length (List.map Idd.enc l)) : Int)) = false) : Tri Try.prog (cxN 174 0) (loopBody Try.f12 1) ([(1, .box y1), (4, ownI l), (5, it w), (7, it k)] ) (Ex.exit 2) ([(1, AV.box y1), (4, AV.sl Mode.own 30 none (List.map Idd.enc l)), (5, it w), (7, it k), (79, bb false)]) :=
  evA_ok (H := h12) (ans := [.c, .c, .c, .c, .c, .b false, .c, .b false, .c, .b false, .c, .c]) (ps := [decide (k < (↑(List.length (List.map Idd.enc l)) : Int)) = false, decide (k < (↑(List.length (List.map Idd.enc l)) : Int)) = false, decide (k < (↑(List.length (List.map Idd.enc l)) : Int)) = false]) (ans' := []) (base 174 0) cxA_K.1 cxA_K.2 _ (by kernel_rfl)  (allp g0 (allp g0 (allp g0 allp_nil)))
theorem kc21_0 (y1 : List AV) (n : List Idd) (w : Int) : Tri Try.prog (cxN 174 0) (regAt Try.f12 21) ([(1, .box y1), (4, ownI n), (5, it w)] ) (Ex.normal) ([(1, AV.box y1), (4, AV.sl Mode.own 30 none (List.map Idd.enc n)), (5, it w), (8, it 0)]) :=
  evA_ok (H := h12) (ans := [.c]) (ps := []) (ans' := []) (base 174 0) cxA_K.1 cxA_K.2 _ (by kernel_rfl)  allp_nil
theorem kc22_0 (y1 : List AV) (l : List Idd) (w i : Int) (g0 : decide (i < (↑(List.length (List.map Idd.enc l)) : Int)) = true) : Tri Try.prog (cxN 174 0) (regAt Try.f12 22) ([(1, .box y1), (4, ownI l), (5, it w), (8, it i)] ) (Ex.normal) ([(1, AV.box y1), (4, AV.sl Mode.own 30 none (List.map Idd.enc l)), (5, it w), (8, it i), (119, bb (w == (0 : Int)))]) :=
  evA_ok (H := h12) (ans := [.c, .c, .c, .c, .c, .b true, .c, .b true, .c, .b true, .c]) (ps := [decide (i < (↑(List.length (List.map Idd.enc l)) : Int)) = true, decide (i < (↑(List.length (List.map Idd.enc l)) : Int)) = true, decide (i < (↑(List.length (List.map Idd.enc l)) : Int)) = true]) (ans' := []) (base 174 0) cxA_K.1 cxA_K.2 _ (by kernel_rfl)  (allp g0 (allp g0 (allp g0 allp_nil)))
theorem kc22_1 (y1 : List AV) (l : List Idd) (w i : Int) (g0 : decide (i < (↑(List.length (List.map Idd.enc l)) : Int)) = false) : Tri Try.prog (cxN 174 0) (regAt Try.f12 22) ([(1, .box y1), (4, ownI l), (5, it w), (8, it i)] ) (Ex.normal) ([(1, AV.box y1), (4, AV.sl Mode.own 30 none (List.map Idd.enc l)), (5, it w), (8, it i), (119, bb false)]) :=
  evA_ok (H := h12) (ans := [.c, .c, .c, .c, .c, .b false, .c, .b false, .c, .b false, .c]) (ps := [decide (i < (↑(List.length (List.map Idd.enc l)) : Int)) = false, decide (i < (↑(List.length (List.map Idd.enc l)) : Int)) = false, decide (i < (↑(List.length (List.map Idd.enc l)) : Int)) = false]) (ans' := []) (base 174 0) cxA_K.1 cxA_K.2 _ (by kernel_rfl)  (allp g0 (allp g0 (allp g0 allp_nil)))
theorem kc23_0 (y1 : List AV) (l : List Idd) (w i : Int) : Tri Try.prog (cxN 174 0) (regAt Try.f12 23) ([(1, .box y1), (4, ownI l), (5, it w), (8, it i)] ) (Ex.normal) ([(1, AV.box y1), (4, AV.sl Mode.own 30 none (List.map Idd.enc l)), (5, it w), (8, it (IntKind.wrap IntKind.i64 (i + (1 : Int))))]) :=
  evA_ok (H := h12) (ans := [.c, .c, .c]) (ps := []) (ans' := []) (base 174 0) cxA_K.1 cxA_K.2 _ (by kernel_rfl)  allp_nil
theorem kc24_0 (y1 : List AV) (l : List Idd) (w i : Int) : Tri Try.prog (cxN 174 0) (regAt Try.f12 24) ([(1, .box y1), (4, ownI l), (5, it w), (8, it i)] ) (Ex.normal) ([(1, AV.box y1), (4, AV.sl Mode.own 30 none (List.map Idd.enc l)), (5, it w), (8, it i), (9, it 0)]) :=
  evA_ok (H := h12) (ans := [.c]) (ps := []) (ans' := []) (base 174 0) cxA_K.1 cxA_K.2 _ (by kernel_rfl)  allp_nil
theorem ke_0 (y1 : List AV) (l : List Idd) (w i k : Int) (g0 : decide (k < i) = true) (g1 : decide ((0 : Int) ≤ k ∧ k < (↑(List.length (List.map Idd.enc l)) : Int)) = true) (g2 : decide (Int.toNat k < List.length (List.map Idd.enc l)) = true) (g3 : List.getD (List.map Idd.enc l) (Int.toNat k) AV.bad = Idd.enc (List.getD l (Int.toNat k) default)) (g4 : decide ((0 : Int) ≤ i ∧ i < (↑(List.length (List.map Idd.enc l)) : Int)) = true) (g5 : decide (Int.toNat i < List.length (List.map Idd.enc l)) = true) (g6 : List.getD (List.map Idd.enc l) (Int.toNat i) AV.bad = Idd.enc (List.getD l (Int.toNat i) default)) (g7 : (Idd.y (List.getD l (Int.toNat k) default) == Idd.y (List.getD l (Int.toNat i) default) && Idd.n (List.getD l (Int.toNat k) default) == Idd.n (List.getD l (Int.toNat i) default)) = true) : Tri Try.prog (cxN 174 0) (loopBody Try.f12 3) ([(1, .box y1), (4, ownI l), (5, it w), (8, it i), (9, it k)] ) (Ex.normal) ([(1, AV.box y1), (4, AV.sl Mode.own 30 none (List.map Idd.enc l)), (5, it 8), (8, it i), (9, it (IntKind.wrap IntKind.i64 (k + (1 : Int))))]) :=
  evA_ok (H := h12) (ans := [.c, .c, .c, .b true, .c, .c, .b true, .c, .b true, .r (Idd.enc (List.getD l (Int.toNat k) default)), .c, .c, .c, .b true, .c, .b true, .r (Idd.enc (List.getD l (Int.toNat i) default)), .c, .c, .b true, .c, .c, .c, .c]) (ps := [decide (k < i) = true, decide ((0 : Int) ≤ k ∧ k < (↑(List.length (List.map Idd.enc l)) : Int)) = true, decide (Int.toNat k < List.length (List.map Idd.enc l)) = true, List.getD (List.map Idd.enc l) (Int.toNat k) AV.bad = Idd.enc (List.getD l (Int.toNat k) default), decide ((0 : Int) ≤ i ∧ i < (↑(List.length (List.map Idd.enc l)) : Int)) = true, decide (Int.toNat i < List.length (List.map Idd.enc l)) = true, List.getD (List.map Idd.enc l) (Int.toNat i) AV.bad = Idd.enc (List.getD l (Int.toNat i) default), (Idd.y (List.getD l (Int.toNat k) default) == Idd.y (List.getD l (Int.toNat i) default) && Idd.n (List.getD l (Int.toNat k) default) == Idd.n (List.getD l (Int.toNat i) default)) = true]) (ans' := []) (base 174 0) cxA_K.1 cxA_K.2 _ (by kernel_rfl)  (allp g0 (allp g1 (allp g2 (allp g3 (allp g4 (allp g5 (allp g6 (allp g7 allp_nil))))))))
theorem ke_1 (y1 : List AV) (l : List Idd) (w i k : Int) (g0 : decide (k < i) = true) (g1 : decide ((0 : Int) ≤ k ∧ k < (↑(List.length (List.map Idd.enc l)) : Int)) = true) (g2 : decide (Int.toNat k < List.length (List.map Idd.enc l)) = true) (g3 : List.getD (List.map Idd.enc l) (Int.toNat k) AV.bad = Idd.enc (List.getD l (Int.toNat k) default)) (g4 : decide ((0 : Int) ≤ i ∧ i < (↑(List.length (List.map Idd.enc l)) : Int)) = true) (g5 : decide (Int.toNat i < List.length (List.map Idd.enc l)) = true) (g6 : List.getD (List.map Idd.enc l) (Int.toNat i) AV.bad = Idd.enc (List.getD l (Int.toNat i) default)) (g7 : (Idd.y (List.getD l (Int.toNat k) default) == Idd.y (List.getD l (Int.toNat i) default) && Idd.n (List.getD l (Int.toNat k) default) == Idd.n (List.getD l (Int.toNat i) default)) = false) : Tri Try.prog (cxN 174 0) (loopBody Try.f12 3) ([(1, .box y1), (4, ownI l), (5, it w), (8, it i), (9, it k)] ) (Ex.normal) ([(1, AV.box y1), (4, AV.sl Mode.own 30 none (List.map Idd.enc l)), (5, it w), (8, it i), (9, it (IntKind.wrap IntKind.i64 (k + (1 : Int))))]) :=
  evA_ok (H := h12) (ans := [.c, .c, .c, .b true, .c, .c, .b true, .c, .b true, .r (Idd.enc (List.getD l (Int.toNat k) default)), .c, .c, .c, .b true, .c, .b true, .r (Idd.enc (List.getD l (Int.toNat i) default)), .c, .c, .b false, .c, .c, .c]) (ps := [decide (k < i) = true, decide ((0 : Int) ≤ k ∧ k < (↑(List.length (List.map Idd.enc l)) : Int)) = true, decide (Int.toNat k < List.length (List.map Idd.enc l)) = true, List.getD (List.map Idd.enc l) (Int.toNat k) AV.bad = Idd.enc (List.getD l (Int.toNat k) default), decide ((0 : Int) ≤ i ∧ i < (↑(List.length (List.map Idd.enc l)) : Int)) = true, decide (Int.toNat i < List.length (List.map Idd.enc l)) = true, List.getD (List.map Idd.enc l) (Int.toNat i) AV.bad = Idd.enc (List.getD l (Int.toNat i) default), (Idd.y (List.getD l (Int.toNat k) default) == Idd.y (List.getD l (Int.toNat i) default) && Idd.n (List.getD l (Int.toNat k) default) == Idd.n (List.getD l (Int.toNat i) default)) = false]) (ans' := []) (base 174 0) cxA_K.1 cxA_K.2 _ (by kernel_rfl)  (allp g0 (allp g1 (allp g2 (allp g3 (allp g4 (allp g5 (allp g6 (allp g7 allp_nil))))))))
theorem ke_2 (y1 : List AV) (l : List Idd) (w i k : Int) (g0 : decide (k < i) = false) : Tri Try.prog (cxN 174 0) (loopBody Try.f12 3) ([(1, .box y1), (4, ownI l), (5, it w), (8, it i), (9, it k)] ) (Ex.exit 6) ([(1, AV.box y1), (4, AV.sl Mode.own 30 none (List.map Idd.enc l)), (5, it w), (8, it i), (9, it k), (124, bb (decide (k < i)))]) :=
  evA_ok (H := h12) (ans := [.c, .c, .c, .b false]) (ps := [decide (k < i) = false]) (ans' := []) (base 174 0) cxA_K.1 cxA_K.2 _ (by kernel_rfl)  (allp g0 allp_nil)
theorem kc29_0 (F B : List Stk) (l : List Idd) (w r : Int) (hc : ChA F B r) (q : (r != w) = false) (g0 : (r != w) = false) : Tri Try.prog (cxN 174 0) (codeAt Try.f12 29) ([(1, .box [bsl none F, bsl none B]), (4, ownI l), (5, it w)] ) (Ex.normal) ([(1, AV.box [bsl none F, bsl none B]), (4, AV.sl Mode.own 30 none (List.map Idd.enc l)), (5, it w), (139, bb (r != w))]) :=
  evA_ok (H := h12) (ans := [.c, .r (it r), .c, .c, .c, .c, .b false]) (ps := [PureC Try.prog 31 [view (AV.agg [bsl none F, bsl none B])] (it r), (r != w) = false]) (ans' := []) (base 174 0) cxA_K.1 cxA_K.2 _ (by kernel_rfl)  (allp (by (first | rw [view_frW, view_frN] | rw [view_beds, view_beds] | rw [view_yn] | rw [view_two] | rw [view_twoI] | rw [view_beds] | rw [view_frW] | rw [view_frN] | rw [view_twoF] | skip); apply cha <;> (first | assumption | rfl | (simp at * <;> omega))) (allp g0 allp_nil))
theorem kc31e_0 (F B : List Stk) (l : List Idd) (w r : Int) (q : (w != (0 : Int)) = true) (hs : SeA F B r) (hj : JnA F B r) (q2 : (r == w) = true) (g0 : (w != (0 : Int)) = true) (g1 : (r == w) = true) : Tri Try.prog (cxN 174 0) (codeAt Try.f12 31) ([(1, .box [bsl none F, bsl none B]), (4, ownI l), (5, it w)] ) (Ex.ret) ([(2, bb true)]) :=
  evA_ok (H := h12) (ans := [.c, .c, .b true, .c, .c, .r (AV.tup [AV.agg [niln, niln], it r]), .c, .c, .c, .c, .c, .c, .c, .c, .c, .c, .c, .r (AV.tup [AV.agg [niln, niln], it r]), .c, .c, .c, .c, .c, .c, .c, .c, .c, .c, .c, .c, .b true, .c, .b true, .c, .b true, .c, .b true, .c, .c, .b true, .r (bb true), .c, .c, .b true, .c, .c]) (ps := [(w != (0 : Int)) = true, PureC Try.prog 38 [view (AV.agg [bsl none F, bsl none B]), AV.agg [ub 0, it 1], niln] (AV.tup [AV.agg [niln, niln], it r]), PureC Try.prog 40 [view (AV.agg [bsl none F, bsl none B]), AV.agg [ub 0, it 1], AV.agg [ub 1, it 1]] (AV.tup [AV.agg [niln, niln], it r]), (r == w) = true, (r == w) = true, (r == w) = true, (r == w) = true, (r == w) = true, PureC Try.prog 37 [] (bb true), (r == w) = true]) (ans' := []) (base 174 0) cxA_K.1 cxA_K.2 _ (by kernel_rfl)  (allp g0 (allp (by (first | rw [view_frW, view_frN] | rw [view_beds, view_beds] | rw [view_yn] | rw [view_two] | rw [view_twoI] | rw [view_beds] | rw [view_frW] | rw [view_frN] | rw [view_twoF] | skip); apply sea <;> (first | assumption | rfl | (simp at * <;> omega))) (allp (by (first | rw [view_frW, view_frN] | rw [view_beds, view_beds] | rw [view_yn] | rw [view_two] | rw [view_twoI] | rw [view_beds] | rw [view_frW] | rw [view_frN] | rw [view_twoF] | skip); apply jna <;> (first | assumption | rfl | (simp at * <;> omega))) (allp g1 (allp g1 (allp g1 (allp g1 (allp g1 (allp (by apply lives <;> (first | assumption | rfl | (simp at * <;> omega))) (allp g1 allp_nil))))))))))
theorem kc31o_0 (y1 : List AV) (l : List Idd) : Tri Try.prog (cxN 174 0) (codeAt Try.f12 31) ([(1, .box y1), (4, ownI l), (5, it 0)] ) (Ex.normal) ([(1, AV.box y1), (4, AV.sl Mode.own 30 none (List.map Idd.enc l)), (5, it 0), (141, bb ((0 : Int) != (0 : Int)))]) :=
  evA_ok (H := h12) (ans := [.c, .c, .c]) (ps := []) (ans' := []) (base 174 0) cxA_K.1 cxA_K.2 _ (by kernel_rfl)  allp_nil
theorem kc35_0 (F B : List Stk) (l : List Idd) (n : Int) (hc : CtA F B n) (q : (n == (↑(List.length (List.map Idd.enc l)) : Int)) = true) (g0 : (n == (↑(List.length (List.map Idd.enc l)) : Int)) = true) : Tri Try.prog (cxN 174 0) (regAt Try.f12 35) ([(1, .box [bsl none F, bsl none B]), (4, ownI l)] ) (Ex.normal) ([(2, bb true)]) :=
  evA_ok (H := h12) (ans := [.c, .r (it n), .c, .c, .c, .c, .c, .c, .b true, .r (bb true), .c, .c, .b true, .c, .c]) (ps := [PureC Try.prog 36 [view (AV.agg [bsl none F, bsl none B])] (it n), (n == (↑(List.length (List.map Idd.enc l)) : Int)) = true, PureC Try.prog 37 [] (bb true), (n == (↑(List.length (List.map Idd.enc l)) : Int)) = true]) (ans' := []) (base 174 0) cxA_K.1 cxA_K.2 _ (by kernel_rfl)  (allp (by (first | rw [view_frW, view_frN] | rw [view_beds, view_beds] | rw [view_yn] | rw [view_two] | rw [view_twoI] | rw [view_beds] | rw [view_frW] | rw [view_frN] | rw [view_twoF] | skip); apply cta <;> (first | assumption | rfl | (simp at * <;> omega))) (allp g0 (allp (by apply lives <;> (first | assumption | rfl | (simp at * <;> omega))) (allp g0 allp_nil))))
end Tst
end

section
open Go Go.Lf Go.Proofs
namespace Tst
theorem len_lt2 (l : List Idd) (k : Nat) (h : k < l.length) : decide ((k : Int) < (((List.map Idd.enc l).length : Nat) : Int)) = true := decide_eq_true (by rw [List.length_map]; omega)
theorem len_ge2 (l : List Idd) (k : Nat) (h : l.length ≤ k) : decide ((k : Int) < (((List.map Idd.enc l).length : Nat) : Int)) = false := decide_eq_false (by rw [List.length_map]; omega)
theorem len_in2 (l : List Idd) (k : Nat) (h : k < l.length) : decide ((0 : Int) ≤ (k : Int) ∧ (k : Int) < (((List.map Idd.enc l).length : Nat) : Int)) = true := decide_eq_true (by rw [List.length_map]; omega)
theorem len_nt (l : List Idd) (k : Nat) (h : k < l.length) : decide (k < (List.map Idd.enc l).length) = true := decide_eq_true (by rw [List.length_map]; omega)
def ckL : List Stk → List Idd → Int → Option (List Idd × Int)
  | [], nm, w => some (nm, w)
  | s :: L, nm, w => if 6 < s.l.length ∨ 60 < nm.length then none else ckL L (nm ++ s.l) (if 4 < s.l.length then 9 else w)
theorem ckL_eq : ∀ (L : List Stk) (nm : List Idd) (w : Int), nm.length ≤ 66 → ∀ r, ckL L nm w = some r → r = (nm ++ L.flatMap Stk.l, if L.any (fun s => decide (4 < s.l.length)) = true then 9 else w) ∧ r.1.length ≤ 66
  | [], nm, w, hn, r, h => by
    injection h with h
    subst h
    exact ⟨by simp, hn⟩
  | s :: L, nm, w, hn, r, h => by
    rw [ckL] at h
    split at h
    · cases h
    · rename_i c
      obtain ⟨h1, h2⟩ := ckL_eq L (nm ++ s.l) (if 4 < s.l.length then 9 else w) (by rw [List.length_append]; omega) r h
      refine ⟨?_, h2⟩
      rw [h1, List.flatMap_cons, List.append_assoc, List.any_cons]
      by_cases c4 : 4 < s.l.length
      · rw [if_pos c4, decide_eq_true c4, ite_self]; rfl
      · rw [if_neg c4, decide_eq_false c4]; rfl
abbrev kaE (y1 : List AV) (L : List Stk) (nm : List Idd) (w : Int) (k : Nat) : Env := [(1, .box y1), (3, ownS L), (4, ownI nm), (5, it w), (6, it k)]
section
variable (y1 : List AV) (L : List Stk) (hL : L.length ≤ 90)
include hL
theorem ka_rnd : ∀ (n k : Nat) (nm : List Idd) (w : Int), k + n = L.length → nm.length ≤ 66 →
    (∀ r, ckL (L.drop k) nm w = some r → Rnd Try.prog (cxN 174 0) (loopBody Try.f12 0) (n + 1) (kaE y1 L nm w k) (.exit 0) [(1, .box y1), (4, ownI r.1), (5, it r.2)]) ∧
    (ckL (L.drop k) nm w = none → Rnd Try.prog (cxN 174 0) (loopBody Try.f12 0) (n + 1) (kaE y1 L nm w k) .ret [(2, bb true)]) := by
  intro n
  induction n with
  | zero =>
    intro k nm w hk hn
    rw [List.drop_eq_nil_of_le (by omega)]
    refine ⟨fun r hr => ?_, fun hr => by cases hr⟩
    injection hr with hr
    subst hr
    exact Rnd.exit (Tri.after [(1, .keep), (4, .keep), (5, .keep)] (ka_4 y1 L nm w k (decide_eq_false (by rw [List.length_map]; omega)))) (by simp)
  | succ n ih =>
    intro k nm w hk hn
    have hkl : k < L.length := by omega
    have u := up64 (k := k) (by omega)
    rw [drop_cons L hkl default, ckL]
    have g0 : decide ((k : Int) < (((List.map Stk.enc L).length : Nat) : Int)) = true := decide_eq_true (by rw [List.length_map]; omega)
    have g1 : decide ((0 : Int) ≤ (k : Int) ∧ (k : Int) < (((List.map Stk.enc L).length : Nat) : Int)) = true := decide_eq_true (by rw [List.length_map]; omega)
    have g2 : decide (k < (List.map Stk.enc L).length) = true := decide_eq_true (by rw [List.length_map]; omega)
    have g3 : List.getD (List.map Stk.enc L) k AV.bad = Stk.enc (L.getD k default) := getD_stk hkl
    generalize hs : L.getD k default = s at *
    have q0 := ka_0 y1 L nm w k
    have q1 := ka_1 y1 L nm w k
    have q2 := ka_2 y1 L nm w k
    have q3 := ka_3 y1 L nm w k
    simp only [Int.toNat_natCast, u, hs] at q0 q1 q2 q3
    by_cases h6 : 6 < s.l.length
    · rw [if_pos (.inl h6)]
      exact ⟨fun r hr => (by cases hr), fun _ => Rnd.exit (q0 g0 g1 g2 g3 (decide_eq_true (by rw [List.length_map]; omega))) (by simp)⟩
    have n6 : decide ((6 : Int) < (((List.map Idd.enc s.l).length : Nat) : Int)) = false := decide_eq_false (by rw [List.length_map]; omega)
    by_cases h60 : 60 < nm.length
    · rw [if_pos (.inr h60)]
      exact ⟨fun r hr => (by cases hr), fun _ => Rnd.exit (q1 g0 g1 g2 g3 n6 (decide_eq_true (by rw [List.length_map]; omega))) (by simp)⟩
    have n60 : decide ((60 : Int) < (((List.map Idd.enc nm).length : Nat) : Int)) = false := decide_eq_false (by rw [List.length_map]; omega)
    rw [if_neg (by rintro (h | h) <;> omega)]
    have a1 := ih (k + 1) (nm ++ s.l) (if 4 < s.l.length then 9 else w) (by omega) (by rw [List.length_append]; omega)
    have st : Tri Try.prog (cxN 174 0) (loopBody Try.f12 0) (kaE y1 L nm w k) .normal (kaE y1 L (nm ++ s.l) (if 4 < s.l.length then 9 else w) (k + 1)) := by
      have g8 : decide ((List.map Idd.enc nm).length + (List.map Idd.enc s.l).length ≤ 4294967296) = true := decide_eq_true (by rw [List.length_map, List.length_map]; omega)
      by_cases h4 : 4 < s.l.length
      · rw [if_pos h4]
        exact q2 g0 g1 g2 g3 n6 n60 (decide_eq_true (by rw [List.length_map]; omega)) (decide_eq_true (all_enc _)) g8 (by rw [← List.map_append])
      · rw [if_neg h4]
        exact q3 g0 g1 g2 g3 n6 n60 (decide_eq_false (by rw [List.length_map]; omega)) (decide_eq_true (all_enc _)) g8 (by rw [← List.map_append])
    exact ⟨fun r hr => Rnd.step st (a1.1 r hr), fun hr => Rnd.step st (a1.2 hr)⟩
end
section
variable (y1 : List AV) (l : List Idd) (hl : l.length ≤ 66)
include hl
abbrev kbE (y1 : List AV) (l : List Idd) (w : Int) : Env := [(1, .box y1), (4, ownI l), (5, it w)]
abbrev kbK : List (Nat × Wk) := [(1, .keep), (4, .keep), (5, .keep)]
theorem kb_rnd : ∀ (n k : Nat) (w : Int), k + n = l.length → Rnd Try.prog (cxN 174 0) (loopBody Try.f12 1) (n + 1) (kbE y1 l w ++ [(7, it k)]) (.exit 2) (kbE y1 l (if w ≠ 0 then w else if (l.drop k).all nmI = true then 0 else 1)) := by
  have stop : ∀ (n k : Nat) (w : Int), w ≠ 0 → Rnd Try.prog (cxN 174 0) (loopBody Try.f12 1) (n + 1) (kbE y1 l w ++ [(7, it k)]) (.exit 2) (kbE y1 l w) := fun n k w hw => by
    by_cases hk : k < l.length
    · exact Rnd.exit (Tri.after kbK (kb_5 y1 l w k (len_lt2 l k hk) (by simpa using hw))) (by simp)
    · exact Rnd.exit (Tri.after kbK (kb_6 y1 l w k (len_ge2 l k (by omega)))) (by simp)
  intro n
  induction n with
  | zero =>
    intro k w hk
    by_cases hw : w ≠ 0
    · rw [if_pos hw]; exact stop 0 k w hw
    · rw [if_neg hw, List.drop_eq_nil_of_le (by omega)]
      have hw : w = 0 := by simpa using hw
      subst hw
      exact Rnd.exit (Tri.after kbK (kb_6 y1 l 0 k (len_ge2 l k (by omega)))) (by simp)
  | succ n ih =>
    intro k w hk
    by_cases hw : w ≠ 0
    · rw [if_pos hw]; exact stop (n + 1) k w hw
    rw [if_neg hw]
    have hw : w = 0 := by simpa using hw
    subst hw
    have hkl : k < l.length := by omega
    have u := up64 (k := k) (by omega)
    rw [drop_cons l hkl default, List.all_cons]
    have g0 := len_lt2 l k hkl
    have g1 := len_in2 l k hkl
    have g2 := len_nt l k hkl
    have g3 : List.getD (List.map Idd.enc l) k AV.bad = Idd.enc (l.getD k default) := getD_id hkl
    generalize hp : l.getD k default = p at *
    have q0 := kb_0 y1 l 0 k
    have q1 := kb_1 y1 l 0 k
    have q2 := kb_2 y1 l 0 k
    have q3 := kb_3 y1 l 0 k
    have q4 := kb_4 y1 l 0 k
    simp only [Int.toNat_natCast, u, hp] at q0 q1 q2 q3 q4
    have bad : nmI p = false → Tri Try.prog (cxN 174 0) (loopBody Try.f12 1) (kbE y1 l 0 ++ [(7, it k)]) .normal (kbE y1 l 1 ++ [(7, it ((k + 1 : Nat) : Int))]) → Rnd Try.prog (cxN 174 0) (loopBody Try.f12 1) (n + 1 + 1) (kbE y1 l 0 ++ [(7, it k)]) (.exit 2) (kbE y1 l (if (nmI p && (l.drop (k + 1)).all nmI) = true then 0 else 1)) := fun hb h => by
      rw [if_neg (by rw [hb]; simp)]
      exact Rnd.step h (stop n (k + 1) 1 (by decide))
    by_cases h1 : p.y < 1
    · exact bad (by unfold nmI namedB; simp; omega) (q0 g0 rfl g1 g2 g3 (decide_eq_true h1))
    by_cases h2 : 6 < p.y
    · exact bad (by unfold nmI namedB; simp; omega) (q1 g0 rfl g1 g2 g3 (decide_eq_false h1) (decide_eq_true h2))
    by_cases h3 : p.n < 0
    · exact bad (by unfold nmI namedB; simp; omega) (q2 g0 rfl g1 g2 g3 (decide_eq_false h1) (decide_eq_false h2) (decide_eq_true h3))
    by_cases h4 : 2047 < p.n
    · exact bad (by unfold nmI namedB; simp; omega) (q3 g0 rfl g1 g2 g3 (decide_eq_false h1) (decide_eq_false h2) (decide_eq_false h3) (decide_eq_true h4))
    have hn : nmI p = true := by unfold nmI namedB; simp; omega
    rw [hn, Bool.true_and]
    have := ih (k + 1) 0 (by omega)
    rw [if_neg (by decide)] at this
    exact Rnd.step (q4 g0 rfl g1 g2 g3 (decide_eq_false h1) (decide_eq_false h2) (decide_eq_false h3) (decide_eq_false h4)) this
open Classical in
theorem ke_rnd {i : Nat} (hi : i < l.length) : ∀ (n k : Nat) (w : Int), k + n = i → Rnd Try.prog (cxN 174 0) (loopBody Try.f12 3) (n + 1) ([(1, .box y1), (4, ownI l), (5, it w), (8, it i), (9, it k)]) (.exit 6) [(1, .box y1), (4, ownI l), (5, it (if ∃ j, k ≤ j ∧ j < i ∧ l.getD j default = l.getD i default then 8 else w)), (8, it i)] := by
  intro n
  induction n with
  | zero =>
    intro k w hk
    rw [if_neg (by rintro ⟨j, h1, h2, _⟩; omega)]
    exact Rnd.exit (Tri.after [(1, .keep), (4, .keep), (5, .keep), (8, .keep)] (ke_2 y1 l w i k (decide_eq_false (by omega)))) (by simp)
  | succ n ih =>
    intro k w hk
    have u := up64 (k := k) (by omega)
    by_cases h : l.getD k default = l.getD i default
    · have q := ke_0 y1 l w i k
      simp only [Int.toNat_natCast, u] at q
      have := ih (k + 1) 8 (by omega)
      rw [if_pos ⟨k, Nat.le_refl _, by omega, h⟩]
      rw [ite_self] at this
      exact Rnd.step (q (decide_eq_true (by omega)) (len_in2 l k (by omega)) (len_nt l k (by omega)) (getD_id (by omega)) (len_in2 l i hi) (len_nt l i hi) (getD_id hi) ((id_eq _ _).trans (decide_eq_true h))) this
    · have q := ke_1 y1 l w i k
      simp only [Int.toNat_natCast, u] at q
      have := ih (k + 1) w (by omega)
      have e : (∃ j, k ≤ j ∧ j < i ∧ l.getD j default = l.getD i default) ↔ ∃ j, k + 1 ≤ j ∧ j < i ∧ l.getD j default = l.getD i default :=
        ⟨fun ⟨j, h1, h2, h3⟩ => ⟨j, by by_cases c : j = k; · subst c; exact absurd h3 h
                                       · omega, h2, h3⟩, fun ⟨j, h1, h2, h3⟩ => ⟨j, by omega, h2, h3⟩⟩
      simp only [e]
      exact Rnd.step (q (decide_eq_true (by omega)) (len_in2 l k (by omega)) (len_nt l k (by omega)) (getD_id (by omega)) (len_in2 l i hi) (len_nt l i hi) (getD_id hi) ((id_eq _ _).trans (decide_eq_false h))) this
omit hl in
theorem kl2 : loopBody Try.f12 2 = .seq (.seq (regAt Try.f12 22) (.cond (.tmp 119) .skip (.exit 4))) (.seq (.block 5 (.seq (regAt Try.f12 24) (.block 6 (.loop (loopBody Try.f12 3))))) (regAt Try.f12 23)) := by kernel_rfl
open Classical in
theorem kd_rnd : ∀ (n i : Nat) (w : Int), i + n = l.length → Rnd Try.prog (cxN 174 0) (loopBody Try.f12 2) (n + 1) (kbE y1 l w ++ [(8, it i)]) (.exit 4) (kbE y1 l (if w ≠ 0 then w else if ∃ j, i ≤ j ∧ j < l.length ∧ ∃ k, 0 ≤ k ∧ k < j ∧ l.getD k default = l.getD j default then 8 else 0)) := by
  have stop : ∀ (n i : Nat) (w : Int), w ≠ 0 → Rnd Try.prog (cxN 174 0) (loopBody Try.f12 2) (n + 1) (kbE y1 l w ++ [(8, it i)]) (.exit 4) (kbE y1 l w) := fun n i w hw => by
    refine Rnd.exit (ex := .exit 4) ?_ (by simp)
    rw [kl2]
    by_cases hi : i < l.length
    · refine Tri.after kbK (.seqX (.seq (kc22_0 y1 l w i (len_lt2 l i hi)) (.cond (b := false) ?_ .exit)) (by simp))
      show some (AV.atom (Value.bool (w == (0 : Int)))) = _
      rw [show (w == (0 : Int)) = false by simpa using hw]
    · exact Tri.after kbK (.seqX (.seq (kc22_1 y1 l w i (len_ge2 l i (by omega))) (.cond (b := false) rfl .exit)) (by simp))
  intro n
  induction n with
  | zero =>
    intro i w hi
    by_cases hw : w ≠ 0
    · rw [if_pos hw]; exact stop 0 i w hw
    · rw [if_neg hw, if_neg (by rintro ⟨j, h1, h2, _⟩; omega)]
      have hw : w = 0 := by simpa using hw
      subst hw
      refine Rnd.exit (ex := .exit 4) ?_ (by simp)
      rw [kl2]
      exact Tri.after kbK (.seqX (.seq (kc22_1 y1 l 0 i (len_ge2 l i (by omega))) (.cond (b := false) rfl .exit)) (by simp))
  | succ n ih =>
    intro i w hi
    by_cases hw : w ≠ 0
    · rw [if_pos hw]; exact stop (n + 1) i w hw
    rw [if_neg hw]
    have hw : w = 0 := by simpa using hw
    subst hw
    have hil : i < l.length := by omega
    have u := up64 (k := i) (by omega)
    have st : Tri Try.prog (cxN 174 0) (loopBody Try.f12 2) (kbE y1 l 0 ++ [(8, it i)]) .normal (kbE y1 l (if ∃ k, 0 ≤ k ∧ k < i ∧ l.getD k default = l.getD i default then 8 else 0) ++ [(8, it ((i + 1 : Nat) : Int))]) := by
      rw [kl2]
      refine .seq (.seq (kc22_0 y1 l 0 i (len_lt2 l i hil)) (.cond (b := true) rfl .skip)) ?_
      refine Tri.weak [(1, .keep), (4, .keep), (5, .keep), (8, .keep)] ?_
      have h3 := Rnd.loop (ke_rnd y1 l hl hil i 0 0 (by omega))
      have q := fun w => kc23_0 y1 l w i
      simp only [u] at q
      exact .seq (.block (ex := .normal) (.seq (kc24_0 y1 l 0 i) (.block (ex := .exit 6) h3 (.inl ⟨rfl, rfl⟩))) (.inr ⟨by simp, rfl⟩)) (q _)
    have := ih (i + 1) (if ∃ k, 0 ≤ k ∧ k < i ∧ l.getD k default = l.getD i default then 8 else 0) (by omega)
    by_cases h : ∃ k, 0 ≤ k ∧ k < i ∧ l.getD k default = l.getD i default
    · rw [if_pos ⟨i, Nat.le_refl _, hil, h⟩]
      rw [if_pos h] at this st
      rw [if_pos (by decide)] at this
      exact Rnd.step st this
    · rw [if_neg h] at this st
      rw [if_neg (by decide)] at this
      have e : (∃ j, i ≤ j ∧ j < l.length ∧ ∃ k, 0 ≤ k ∧ k < j ∧ l.getD k default = l.getD j default) ↔ ∃ j, i + 1 ≤ j ∧ j < l.length ∧ ∃ k, 0 ≤ k ∧ k < j ∧ l.getD k default = l.getD j default :=
        ⟨fun ⟨j, h1, h2, h3⟩ => ⟨j, by by_cases c : j = i; · subst c; exact absurd h3 h
                                       · omega, h2, h3⟩, fun ⟨j, h1, h2, h3⟩ => ⟨j, by omega, h2, h3⟩⟩
      simp only [e]
      exact Rnd.step st this
end
end Tst
end
