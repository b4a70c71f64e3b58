/- NeedlesSpots: the law returns true for any needle and any rack. -/
import Derived.Test.YtofgnfnngljilaaDoorLives
import Derived.OpenShut
namespace Go.Proofs.YtofgnfnngljilaaDoor
open Go.RowKit

theorem below_alloc' (w : World) (o : Obj) : Below w.heap.size w (w.alloc o) := (Below.refl _ _).alloc (Nat.le_refl _) _
theorem valid_ok_b (b a : Int) (w : World) (h : Ok b a) : Calls Tryd.prog 9 #[nd b a] w fun e w' => e = .returned (.int .i64 1) ∧ Below w.heap.size w w' := (valid_ok b a w h).mono fun _ _ ⟨he, hw⟩ => ⟨he, by subst hw; exact (Below.refl _ _).alloc (Nat.le_refl _) _⟩
theorem valid_no_b (b a : Int) (w : World) (h0 : 0 ≤ b) (h : ¬ Ok b a) : Calls Tryd.prog 9 #[nd b a] w fun e w' => e = .returned (.int .i64 0) ∧ Below w.heap.size w w' := (valid_no b a w h0 h).mono fun _ _ ⟨he, hw⟩ => ⟨he, by subst hw; exact (Below.refl _ _).alloc (Nat.le_refl _) _⟩
theorem check_ok_b (b a : Int) (w : World) (h : Ok b a) : Calls Tryd.prog 10 #[nd b a] w fun e w' => e = .returned (.int .i64 0) ∧ Below w.heap.size w w' := (check_ok b a w h).mono fun _ _ ⟨he, hw⟩ => ⟨he, by subst hw; exact (Below.refl _ _).alloc (Nat.le_refl _) _⟩
theorem check_no_b (b a : Int) (w : World) (h : ¬ Ok b a) : Calls Tryd.prog 10 #[nd b a] w fun e w' => e = .returned (.int .i64 1) ∧ Below w.heap.size w w' := (check_no b a w h).mono fun _ _ ⟨he, hw⟩ => ⟨he, by subst hw; exact (Below.refl _ _).alloc (Nat.le_refl _) _⟩
theorem spot_bad_b (b a r : Int) (w : World) (h : ¬ Ok b a) : Calls Tryd.prog 11 #[nd b a, .int .i64 r] w fun e w' => e = .returned (.int .i64 0) ∧ Below w.heap.size w w' := (spot_bad b a r w h).mono fun _ _ ⟨he, hw⟩ => ⟨he, below_spot hw⟩
theorem spot_rack_b (b a r : Int) (w : World) (h : Ok b a) (hr : r < -4 ∨ 4 < r) : Calls Tryd.prog 11 #[nd b a, .int .i64 r] w fun e w' => e = .returned (.int .i64 0) ∧ Below w.heap.size w w' := (spot_rack b a r w h hr).mono fun _ _ ⟨he, hw⟩ => ⟨he, below_spot hw⟩
theorem lspot_b (b a r : Int) (w : World) (h : Ok b a) (h3 : -4 ≤ r) (h4 : r ≤ 4) : Calls Tryd.prog 14 #[nd b a, .int .i64 r] w fun e w' => e = .returned (.int .i64 (spotI b a r)) ∧ Below w.heap.size w w' := (lspot b a r w h h3 h4).mono fun _ _ ⟨he, hw⟩ => ⟨he, by subst hw; exact (Below.refl _ _).alloc (Nat.le_refl _) _⟩

set_option maxHeartbeats 1000000 in
theorem spots_bad (b a r : Int) (w : World) (hV : Vars w) (hb : 0 ≤ b) (h : ¬ Ok b a) :
    Calls Tryd.prog 3 #[nd b a, .int .i64 r] w fun e w' => e = .returned (.bool true) ∧ Below w.heap.size w w' := by
  have HV := Lib.hid hV; clear hV
  have x0 := Box.new w b a
  go_enter Tryd.func3, Tryd.ntmps3
  go_wp2_with fail
  refine (valid_no_b b a _ hb h).mono ?_
  rintro e w1 ⟨rfl, b1⟩
  have x1 := x0.to b1; have z1 := (below_alloc' w (nbox b a)).trans (b1.mono (by simp))
  clear x0 b1
  have c0 := x1.c0; have c1 := x1.c1
  go_wp2_with fail
  clear c0 c1
  refine (check_no_b b a _ h).mono ?_
  rintro e w2 ⟨rfl, b2⟩
  have x2 := x1.to b2; have z2 := z1.trans (b2.mono z1.size)
  clear x1 z1 b2
  have c0 := x2.c0; have c1 := x2.c1
  go_wp2_with fail
  clear c0 c1
  refine (spot_bad_b b a r _ h).mono ?_
  rintro e w3 ⟨rfl, b3⟩
  have z3 := z2.trans (b3.mono z2.size)
  clear x2 z2 b3
  go_wp2_with fail
  refine (lives_true _ (HV.out.below z3)).mono ?_
  rintro e w4 ⟨rfl, b4⟩
  have z4 := z3.trans (b4.mono z3.size)
  go_wp2
  go_ret
  exact ⟨rfl, z4⟩

set_option maxHeartbeats 1000000 in
theorem spots_rack (b a r : Int) (w : World) (hV : Vars w) (h : Ok b a) (hr : r < -4 ∨ 4 < r) :
    Calls Tryd.prog 3 #[nd b a, .int .i64 r] w fun e w' => e = .returned (.bool true) ∧ Below w.heap.size w w' := by
  have HV := Lib.hid hV; clear hV
  have hR := Lib.hid hr
  have x0 := Box.new w b a
  go_enter Tryd.func3, Tryd.ntmps3
  go_wp2_with fail
  refine (valid_ok_b b a _ h).mono ?_
  rintro e w1 ⟨rfl, b1⟩
  have x1 := x0.to b1; have z1 := (below_alloc' w (nbox b a)).trans (b1.mono (by simp))
  clear x0 b1
  have c0 := x1.c0; have c1 := x1.c1
  go_wp2_with fail
  clear c0 c1
  refine (check_ok_b b a _ h).mono ?_
  rintro e w2 ⟨rfl, b2⟩
  have x2 := x1.to b2; have z2 := z1.trans (b2.mono z1.size)
  clear x1 z1 b2
  have c0 := x2.c0; have c1 := x2.c1
  go_wp2_with fail
  clear c0 c1
  refine (spot_rack_b b a r _ h hR.out).mono ?_
  rintro e w3 ⟨rfl, b3⟩
  have z3 := z2.trans (b3.mono z2.size)
  clear x2 z2 b3
  rcases hr with hr | hr
  · go_wp2_with fail
    refine (lives_true _ (HV.out.below z3)).mono ?_
    rintro e w4 ⟨rfl, b4⟩
    have z4 := z3.trans (b4.mono z3.size)
    go_wp2
    go_ret
    exact ⟨rfl, z4⟩
  · have hd : decide (r < -4) = false := by simp; omega
    go_wp2_with fail
    refine (lives_true _ (HV.out.below z3)).mono ?_
    rintro e w4 ⟨rfl, b4⟩
    have z4 := z3.trans (b4.mono z3.size)
    go_wp2
    go_ret
    exact ⟨rfl, z4⟩

theorem spot_even (b a r s : Int) (h : Ok b a) (h3 : -4 ≤ r) (h4 : r ≤ 4) (e : spotI b a r = s) : (s.tmod 2 == 0) = true ∧ -13 < s ∧ s < 179 := by
  have h1 := h.lo; have h2 := h.hi
  have even : ∀ c : Int, s = 2 * c → (s.tmod 2 == 0) = true := fun c hc => by rw [hc, Int.mul_tmod_right]; rfl
  unfold spotI at e
  rcases h.bed with rfl | rfl
  · rw [if_pos rfl] at e
    exact ⟨even (2 * a + 1) (by omega), by omega, by omega⟩
  · rw [if_neg (by decide)] at e
    exact ⟨even (2 * (a + r)) (by omega), by omega, by omega⟩

set_option maxHeartbeats 1000000 in
theorem spots_ok (b a r s : Int) (w : World) (hV : Vars w) (h : Ok b a) (h3 : -4 ≤ r) (h4 : r ≤ 4) (hs : spotI b a r = s) :
    Calls Tryd.prog 3 #[nd b a, .int .i64 r] w fun e w' => e = .returned (.bool true) ∧ Below w.heap.size w w' := by
  obtain ⟨s1, s2, s3⟩ := spot_even b a r s h h3 h4 hs
  have HS := Lib.hid hs; clear hs
  have HV := Lib.hid hV; clear hV
  have x0 := Box.new w b a
  go_enter Tryd.func3, Tryd.ntmps3
  go_wp2_with fail
  refine (valid_ok_b b a _ h).mono ?_
  rintro e w1 ⟨rfl, b1⟩
  have x1 := x0.to b1; have z1 := (below_alloc' w (nbox b a)).trans (b1.mono (by simp))
  clear x0 b1
  have c0 := x1.c0; have c1 := x1.c1
  go_wp2_with fail
  clear c0 c1
  refine (check_ok_b b a _ h).mono ?_
  rintro e w2 ⟨rfl, b2⟩
  have x2 := x1.to b2; have z2 := z1.trans (b2.mono z1.size)
  clear x1 z1 b2
  have c0 := x2.c0; have c1 := x2.c1
  go_wp2_with fail
  clear c0 c1
  refine (spot_b b a r _ h h3 h4).mono ?_
  rintro e w3 ⟨rfl, b3⟩
  rw [HS.out]
  have x3 := x2.to b3; have z3 := z2.trans (b3.mono z2.size)
  clear x2 z2 b3
  go_wp2_with fail
  refine (at_hit s b a r _ h h3 h4 HS.out).mono ?_
  rintro e w4 ⟨rfl, b4⟩
  have x4 := (x3.to b4).alloc (nbox b a); have z4 := (z3.trans (b4.mono z3.size))
  have y4 := Box.new w4 b a
  have q4 := z4.alloc z4.size (nbox b a)
  clear x3 z3 b4
  have c0 := x4.c0; have c1 := x4.c1
  go_wp2_with fail
  clear c0 c1
  refine (lspot_b b a r _ h h3 h4).mono ?_
  rintro e w5 ⟨rfl, b5⟩
  rw [HS.out]
  have x5 := x4.to b5; have y5 := y4.to b5; have z5 := q4.trans (b5.mono q4.size)
  clear x4 y4 z4 q4 b5
  have c0 := x5.c0; have c1 := x5.c1; have d0 := y5.c0; have d1 := y5.c1
  go_wp2_with fail
  clear c0 c1 d0 d1
  refine (lives_true _ (HV.out.below z5)).mono ?_
  rintro e w6 ⟨rfl, b6⟩
  have z6 := z5.trans (b6.mono z5.size)
  go_wp2
  go_ret
  exact ⟨rfl, z6⟩

theorem NeedlesSpots_walk (b a : Int) (w0 : (Lit.int .u8 b).wf = true) (_ : (Lit.int .i64 a).wf = true) (r : Int) (_ : (Lit.int .i64 r).wf = true) (w : World) (hV : Vars w) :
    Calls Tryd.prog 3 #[nd b a, .int .i64 r] w fun e w' => e = .returned (.bool true) ∧ Below w.heap.size w w' := by
  obtain ⟨b0, _⟩ := bounds_u8 w0
  by_cases h : Ok b a
  · by_cases hr : r < -4 ∨ 4 < r
    · exact spots_rack b a r w hV h hr
    · exact spots_ok b a r _ w hV h (by omega) (by omega) rfl
  · exact spots_bad b a r w hV b0 h
end Go.Proofs.YtofgnfnngljilaaDoor
