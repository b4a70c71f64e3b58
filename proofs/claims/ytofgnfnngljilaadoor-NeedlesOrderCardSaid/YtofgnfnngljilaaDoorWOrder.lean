/- NeedlesOrder: from left to right there are a back needle, the front needle of the same position, and then the next position: the law returns true for any two needles and any valid rack. -/
import Derived.Test.YtofgnfnngljilaaDoorKeep
import Derived.Deep.RegionHeld3
import Derived.OpenShut
namespace Go.Proofs.YtofgnfnngljilaaDoor
open Go.RowKit

theorem needle_at (i b a : Int) (w : World) (h0 : 0 ≤ i) (h1 : i ≤ 255) (hb : bedOf i = b) (ha : atOf i = a) : Calls Tryd.prog 15 #[.int .u8 i] w fun e w' => e = .returned (nd b a) ∧ w' = w.alloc (nbox b a) := by
  subst hb ha; exact needle_any i w h0 h1
theorem below_alloc (w : World) (o : Obj) : Below w.heap.size w (w.alloc o) := (Below.refl _ _).alloc (Nat.le_refl _) _

theorem spot_c (b a r : Int) (w : World) (h : Ok b a) (h3 : -4 ≤ r) (h4 : r ≤ 4) : Calls Tryd.prog 11 #[nd b a, .int .i64 r] w fun e w' => e = .returned (.int .i64 (spotI b a r)) ∧ Below w.heap.size w w' := spot_b b a r w h h3 h4

set_option maxHeartbeats 1000000 in
theorem order_00lt (i j k a a' : Int) (w : World) (HV : Hid (Vars w)) (h4 : 0 ≤ k) (h5 : k ≤ 255) (ho : Ok 0 a) (ho' : Ok 0 a')
    (C1 : Hid (∀ w, Calls Tryd.prog 15 #[.int .u8 i] w fun e w' => e = .returned (nd 0 a) ∧ w' = w.alloc (nbox 0 a)))
    (C2 : Hid (∀ w, Calls Tryd.prog 15 #[.int .u8 j] w fun e w' => e = .returned (nd 0 a') ∧ w' = w.alloc (nbox 0 a'))) (hl : a < a') :
    Calls Tryd.prog 8 #[.int .u8 i, .int .u8 j, .int .u8 k] w fun e w' => e = .returned (.bool true) ∧ Below w.heap.size w w' := by
  have a1 := ho.lo; have a2 := ho.hi; have a3 := ho'.lo; have a4 := ho'.hi
  have k1 : 0 ≤ k % 9 := by omega
  have k2 : k % 9 ≤ 8 := by omega
  have hd : decide (spotI 0 a (k % 9 - 4) < spotI 0 a' (k % 9 - 4)) = true := by simp [spotI] <;> omega
  go_enter Tryd.func8, Tryd.ntmps8
  go_wp2_with fail
  refine (C1.out _).mono ?_
  rintro e w1 ⟨rfl, rfl⟩
  go_wp2_with fail
  refine (C2.out _).mono ?_
  rintro e w2 ⟨rfl, rfl⟩
  go_wp2_with fail
  go_quiet (fail)
  go_wp2_with fail
  have K := Keep2.start w 0 a 0 a' nq HV.out
  generalize hW : ((((w.alloc (nbox 0 a)).alloc (nbox 0 a')).alloc (nbox 0 a)).alloc (nbox 0 a')).drewN nq = W at K ⊢
  clear hW
  obtain ⟨x0, x1, y0, y1, K⟩ := K.all
  go_region_held3 (fun w' => w'.cell? ⟨w.heap.size + 1 + 1, 0, none⟩ = some (.int .u8 0) ∧ w'.cell? ⟨w.heap.size + 1 + 1, 1, none⟩ = some (.int .i64 a) ∧ w'.cell? ⟨w.heap.size + 1 + 1 + 1, 0, none⟩ = some (.int .u8 0) ∧ w'.cell? ⟨w.heap.size + 1 + 1 + 1, 1, none⟩ = some (.int .i64 a') ∧ Keep2 w (w.heap.size + 1 + 1) 0 a (w.heap.size + 1 + 1 + 1) 0 a' w')
    (first | exact Keep2.all (Keep2.drew (by assumption)) | exact Keep2.allto (by assumption) hb)
    (first
      | (go_at_call 11; with_reducible refine (spot_c 0 a (k % 9 - 4) _ ho (by omega) (by omega)).mono ?_; rintro e w' ⟨rfl, hb⟩)
      | (go_at_call 11; with_reducible refine (spot_c 0 a' (k % 9 - 4) _ ho' (by omega) (by omega)).mono ?_; rintro e w' ⟨rfl, hb⟩)
      | (go_at_call 12; with_reducible refine (lives_true _ (Keep2.allv (by assumption))).mono ?_; rintro e w' ⟨rfl, hb⟩))
  go_wp2
  go_ret
  exact ⟨rfl, Keep2.allz (by assumption)⟩

set_option maxHeartbeats 1000000 in
theorem order_00eq (i j k a a' : Int) (w : World) (HV : Hid (Vars w)) (h4 : 0 ≤ k) (h5 : k ≤ 255) (ho : Ok 0 a) (ho' : Ok 0 a')
    (C1 : Hid (∀ w, Calls Tryd.prog 15 #[.int .u8 i] w fun e w' => e = .returned (nd 0 a) ∧ w' = w.alloc (nbox 0 a)))
    (C2 : Hid (∀ w, Calls Tryd.prog 15 #[.int .u8 j] w fun e w' => e = .returned (nd 0 a') ∧ w' = w.alloc (nbox 0 a'))) (hl : a = a') :
    Calls Tryd.prog 8 #[.int .u8 i, .int .u8 j, .int .u8 k] w fun e w' => e = .returned (.bool true) ∧ Below w.heap.size w w' := by
  have a1 := ho.lo; have a2 := ho.hi; have a3 := ho'.lo; have a4 := ho'.hi
  have k1 : 0 ≤ k % 9 := by omega
  have k2 : k % 9 ≤ 8 := by omega
  have hd : decide (spotI 0 a (k % 9 - 4) < spotI 0 a' (k % 9 - 4)) = false := by simp [spotI] <;> omega
  obtain rfl : a = a' := by omega
  clear hl hd
  have hd : decide (spotI 0 a (k % 9 - 4) < spotI 0 a (k % 9 - 4)) = false := by simp
  go_enter Tryd.func8, Tryd.ntmps8
  go_wp2_with fail
  refine (C1.out _).mono ?_
  rintro e w1 ⟨rfl, rfl⟩
  go_wp2_with fail
  refine (C2.out _).mono ?_
  rintro e w2 ⟨rfl, rfl⟩
  go_wp2_with fail
  go_quiet (fail)
  go_wp2_with fail
  have K := Keep2.start w 0 a 0 a nq HV.out
  generalize hW : ((((w.alloc (nbox 0 a)).alloc (nbox 0 a)).alloc (nbox 0 a)).alloc (nbox 0 a)).drewN nq = W at K ⊢
  clear hW
  obtain ⟨x0, x1, y0, y1, K⟩ := K.all
  go_region_held3 (fun w' => w'.cell? ⟨w.heap.size + 1 + 1, 0, none⟩ = some (.int .u8 0) ∧ w'.cell? ⟨w.heap.size + 1 + 1, 1, none⟩ = some (.int .i64 a) ∧ w'.cell? ⟨w.heap.size + 1 + 1 + 1, 0, none⟩ = some (.int .u8 0) ∧ w'.cell? ⟨w.heap.size + 1 + 1 + 1, 1, none⟩ = some (.int .i64 a) ∧ Keep2 w (w.heap.size + 1 + 1) 0 a (w.heap.size + 1 + 1 + 1) 0 a w')
    (first | exact Keep2.all (Keep2.drew (by assumption)) | exact Keep2.allto (by assumption) hb)
    (first
      | (go_at_call 11; with_reducible refine (spot_c 0 a (k % 9 - 4) _ ho (by omega) (by omega)).mono ?_; rintro e w' ⟨rfl, hb⟩)
      | (go_at_call 11; with_reducible refine (spot_c 0 a (k % 9 - 4) _ ho' (by omega) (by omega)).mono ?_; rintro e w' ⟨rfl, hb⟩)
      | (go_at_call 12; with_reducible refine (lives_true _ (Keep2.allv (by assumption))).mono ?_; rintro e w' ⟨rfl, hb⟩))
  go_wp2
  go_ret
  exact ⟨rfl, Keep2.allz (by assumption)⟩

set_option maxHeartbeats 1000000 in
theorem order_00gt (i j k a a' : Int) (w : World) (HV : Hid (Vars w)) (h4 : 0 ≤ k) (h5 : k ≤ 255) (ho : Ok 0 a) (ho' : Ok 0 a')
    (C1 : Hid (∀ w, Calls Tryd.prog 15 #[.int .u8 i] w fun e w' => e = .returned (nd 0 a) ∧ w' = w.alloc (nbox 0 a)))
    (C2 : Hid (∀ w, Calls Tryd.prog 15 #[.int .u8 j] w fun e w' => e = .returned (nd 0 a') ∧ w' = w.alloc (nbox 0 a'))) (hl : a' < a) :
    Calls Tryd.prog 8 #[.int .u8 i, .int .u8 j, .int .u8 k] w fun e w' => e = .returned (.bool true) ∧ Below w.heap.size w w' := by
  have a1 := ho.lo; have a2 := ho.hi; have a3 := ho'.lo; have a4 := ho'.hi
  have k1 : 0 ≤ k % 9 := by omega
  have k2 : k % 9 ≤ 8 := by omega
  have hd : decide (spotI 0 a (k % 9 - 4) < spotI 0 a' (k % 9 - 4)) = false := by simp [spotI] <;> omega
  have e1 : decide (a < a') = false := by simp; omega
  have e2 : (a == a') = false := by simp; omega
  go_enter Tryd.func8, Tryd.ntmps8
  go_wp2_with fail
  refine (C1.out _).mono ?_
  rintro e w1 ⟨rfl, rfl⟩
  go_wp2_with fail
  refine (C2.out _).mono ?_
  rintro e w2 ⟨rfl, rfl⟩
  go_wp2_with fail
  go_quiet (fail)
  go_wp2_with fail
  have K := Keep2.start w 0 a 0 a' nq HV.out
  generalize hW : ((((w.alloc (nbox 0 a)).alloc (nbox 0 a')).alloc (nbox 0 a)).alloc (nbox 0 a')).drewN nq = W at K ⊢
  clear hW
  obtain ⟨x0, x1, y0, y1, K⟩ := K.all
  go_region_held3 (fun w' => w'.cell? ⟨w.heap.size + 1 + 1, 0, none⟩ = some (.int .u8 0) ∧ w'.cell? ⟨w.heap.size + 1 + 1, 1, none⟩ = some (.int .i64 a) ∧ w'.cell? ⟨w.heap.size + 1 + 1 + 1, 0, none⟩ = some (.int .u8 0) ∧ w'.cell? ⟨w.heap.size + 1 + 1 + 1, 1, none⟩ = some (.int .i64 a') ∧ Keep2 w (w.heap.size + 1 + 1) 0 a (w.heap.size + 1 + 1 + 1) 0 a' w')
    (first | exact Keep2.all (Keep2.drew (by assumption)) | exact Keep2.allto (by assumption) hb)
    (first
      | (go_at_call 11; with_reducible refine (spot_c 0 a (k % 9 - 4) _ ho (by omega) (by omega)).mono ?_; rintro e w' ⟨rfl, hb⟩)
      | (go_at_call 11; with_reducible refine (spot_c 0 a' (k % 9 - 4) _ ho' (by omega) (by omega)).mono ?_; rintro e w' ⟨rfl, hb⟩)
      | (go_at_call 12; with_reducible refine (lives_true _ (Keep2.allv (by assumption))).mono ?_; rintro e w' ⟨rfl, hb⟩))
  go_wp2
  go_ret
  exact ⟨rfl, Keep2.allz (by assumption)⟩

set_option maxHeartbeats 1000000 in
theorem order_01lt (i j k a a' : Int) (w : World) (HV : Hid (Vars w)) (h4 : 0 ≤ k) (h5 : k ≤ 255) (ho : Ok 0 a) (ho' : Ok 1 a')
    (C1 : Hid (∀ w, Calls Tryd.prog 15 #[.int .u8 i] w fun e w' => e = .returned (nd 0 a) ∧ w' = w.alloc (nbox 0 a)))
    (C2 : Hid (∀ w, Calls Tryd.prog 15 #[.int .u8 j] w fun e w' => e = .returned (nd 1 a') ∧ w' = w.alloc (nbox 1 a'))) (hl : a < a' + (k % 9 - 4)) :
    Calls Tryd.prog 8 #[.int .u8 i, .int .u8 j, .int .u8 k] w fun e w' => e = .returned (.bool true) ∧ Below w.heap.size w w' := by
  have a1 := ho.lo; have a2 := ho.hi; have a3 := ho'.lo; have a4 := ho'.hi
  have k1 : 0 ≤ k % 9 := by omega
  have k2 : k % 9 ≤ 8 := by omega
  have hd : decide (spotI 0 a (k % 9 - 4) < spotI 1 a' (k % 9 - 4)) = true := by simp [spotI] <;> omega
  go_enter Tryd.func8, Tryd.ntmps8
  go_wp2_with fail
  refine (C1.out _).mono ?_
  rintro e w1 ⟨rfl, rfl⟩
  go_wp2_with fail
  refine (C2.out _).mono ?_
  rintro e w2 ⟨rfl, rfl⟩
  go_wp2_with fail
  go_quiet (fail)
  go_wp2_with fail
  have K := Keep2.start w 0 a 1 a' nq HV.out
  generalize hW : ((((w.alloc (nbox 0 a)).alloc (nbox 1 a')).alloc (nbox 0 a)).alloc (nbox 1 a')).drewN nq = W at K ⊢
  clear hW
  obtain ⟨x0, x1, y0, y1, K⟩ := K.all
  go_region_held3 (fun w' => w'.cell? ⟨w.heap.size + 1 + 1, 0, none⟩ = some (.int .u8 0) ∧ w'.cell? ⟨w.heap.size + 1 + 1, 1, none⟩ = some (.int .i64 a) ∧ w'.cell? ⟨w.heap.size + 1 + 1 + 1, 0, none⟩ = some (.int .u8 1) ∧ w'.cell? ⟨w.heap.size + 1 + 1 + 1, 1, none⟩ = some (.int .i64 a') ∧ Keep2 w (w.heap.size + 1 + 1) 0 a (w.heap.size + 1 + 1 + 1) 1 a' w')
    (first | exact Keep2.all (Keep2.drew (by assumption)) | exact Keep2.allto (by assumption) hb)
    (first
      | (go_at_call 11; with_reducible refine (spot_c 0 a (k % 9 - 4) _ ho (by omega) (by omega)).mono ?_; rintro e w' ⟨rfl, hb⟩)
      | (go_at_call 11; with_reducible refine (spot_c 1 a' (k % 9 - 4) _ ho' (by omega) (by omega)).mono ?_; rintro e w' ⟨rfl, hb⟩)
      | (go_at_call 12; with_reducible refine (lives_true _ (Keep2.allv (by assumption))).mono ?_; rintro e w' ⟨rfl, hb⟩))
  go_wp2
  go_ret
  exact ⟨rfl, Keep2.allz (by assumption)⟩

set_option maxHeartbeats 1000000 in
theorem order_01eq (i j k a a' : Int) (w : World) (HV : Hid (Vars w)) (h4 : 0 ≤ k) (h5 : k ≤ 255) (ho : Ok 0 a) (ho' : Ok 1 a')
    (C1 : Hid (∀ w, Calls Tryd.prog 15 #[.int .u8 i] w fun e w' => e = .returned (nd 0 a) ∧ w' = w.alloc (nbox 0 a)))
    (C2 : Hid (∀ w, Calls Tryd.prog 15 #[.int .u8 j] w fun e w' => e = .returned (nd 1 a') ∧ w' = w.alloc (nbox 1 a'))) (hl : a = a' + (k % 9 - 4)) :
    Calls Tryd.prog 8 #[.int .u8 i, .int .u8 j, .int .u8 k] w fun e w' => e = .returned (.bool true) ∧ Below w.heap.size w w' := by
  have a1 := ho.lo; have a2 := ho.hi; have a3 := ho'.lo; have a4 := ho'.hi
  have k1 : 0 ≤ k % 9 := by omega
  have k2 : k % 9 ≤ 8 := by omega
  have hd : decide (spotI 0 a (k % 9 - 4) < spotI 1 a' (k % 9 - 4)) = false := by simp [spotI] <;> omega
  have e1 : decide (a < a' + (k % 9 - 4)) = false := by simp; omega
  have e2 : (a == a' + (k % 9 - 4)) = true := by simp; omega
  clear hl
  go_enter Tryd.func8, Tryd.ntmps8
  go_wp2_with fail
  refine (C1.out _).mono ?_
  rintro e w1 ⟨rfl, rfl⟩
  go_wp2_with fail
  refine (C2.out _).mono ?_
  rintro e w2 ⟨rfl, rfl⟩
  go_wp2_with fail
  go_quiet (fail)
  go_wp2_with fail
  have K := Keep2.start w 0 a 1 a' nq HV.out
  generalize hW : ((((w.alloc (nbox 0 a)).alloc (nbox 1 a')).alloc (nbox 0 a)).alloc (nbox 1 a')).drewN nq = W at K ⊢
  clear hW
  obtain ⟨x0, x1, y0, y1, K⟩ := K.all
  go_region_held3 (fun w' => w'.cell? ⟨w.heap.size + 1 + 1, 0, none⟩ = some (.int .u8 0) ∧ w'.cell? ⟨w.heap.size + 1 + 1, 1, none⟩ = some (.int .i64 a) ∧ w'.cell? ⟨w.heap.size + 1 + 1 + 1, 0, none⟩ = some (.int .u8 1) ∧ w'.cell? ⟨w.heap.size + 1 + 1 + 1, 1, none⟩ = some (.int .i64 a') ∧ Keep2 w (w.heap.size + 1 + 1) 0 a (w.heap.size + 1 + 1 + 1) 1 a' w')
    (first | exact Keep2.all (Keep2.drew (by assumption)) | exact Keep2.allto (by assumption) hb)
    (first
      | (go_at_call 11; with_reducible refine (spot_c 0 a (k % 9 - 4) _ ho (by omega) (by omega)).mono ?_; rintro e w' ⟨rfl, hb⟩)
      | (go_at_call 11; with_reducible refine (spot_c 1 a' (k % 9 - 4) _ ho' (by omega) (by omega)).mono ?_; rintro e w' ⟨rfl, hb⟩)
      | (go_at_call 12; with_reducible refine (lives_true _ (Keep2.allv (by assumption))).mono ?_; rintro e w' ⟨rfl, hb⟩))
  go_wp2
  go_ret
  exact ⟨rfl, Keep2.allz (by assumption)⟩

set_option maxHeartbeats 1000000 in
theorem order_01gt (i j k a a' : Int) (w : World) (HV : Hid (Vars w)) (h4 : 0 ≤ k) (h5 : k ≤ 255) (ho : Ok 0 a) (ho' : Ok 1 a')
    (C1 : Hid (∀ w, Calls Tryd.prog 15 #[.int .u8 i] w fun e w' => e = .returned (nd 0 a) ∧ w' = w.alloc (nbox 0 a)))
    (C2 : Hid (∀ w, Calls Tryd.prog 15 #[.int .u8 j] w fun e w' => e = .returned (nd 1 a') ∧ w' = w.alloc (nbox 1 a'))) (hl : a' + (k % 9 - 4) < a) :
    Calls Tryd.prog 8 #[.int .u8 i, .int .u8 j, .int .u8 k] w fun e w' => e = .returned (.bool true) ∧ Below w.heap.size w w' := by
  have a1 := ho.lo; have a2 := ho.hi; have a3 := ho'.lo; have a4 := ho'.hi
  have k1 : 0 ≤ k % 9 := by omega
  have k2 : k % 9 ≤ 8 := by omega
  have hd : decide (spotI 0 a (k % 9 - 4) < spotI 1 a' (k % 9 - 4)) = false := by simp [spotI] <;> omega
  have e1 : decide (a < a' + (k % 9 - 4)) = false := by simp; omega
  have e2 : (a == a' + (k % 9 - 4)) = false := by simp; omega
  go_enter Tryd.func8, Tryd.ntmps8
  go_wp2_with fail
  refine (C1.out _).mono ?_
  rintro e w1 ⟨rfl, rfl⟩
  go_wp2_with fail
  refine (C2.out _).mono ?_
  rintro e w2 ⟨rfl, rfl⟩
  go_wp2_with fail
  go_quiet (fail)
  go_wp2_with fail
  have K := Keep2.start w 0 a 1 a' nq HV.out
  generalize hW : ((((w.alloc (nbox 0 a)).alloc (nbox 1 a')).alloc (nbox 0 a)).alloc (nbox 1 a')).drewN nq = W at K ⊢
  clear hW
  obtain ⟨x0, x1, y0, y1, K⟩ := K.all
  go_region_held3 (fun w' => w'.cell? ⟨w.heap.size + 1 + 1, 0, none⟩ = some (.int .u8 0) ∧ w'.cell? ⟨w.heap.size + 1 + 1, 1, none⟩ = some (.int .i64 a) ∧ w'.cell? ⟨w.heap.size + 1 + 1 + 1, 0, none⟩ = some (.int .u8 1) ∧ w'.cell? ⟨w.heap.size + 1 + 1 + 1, 1, none⟩ = some (.int .i64 a') ∧ Keep2 w (w.heap.size + 1 + 1) 0 a (w.heap.size + 1 + 1 + 1) 1 a' w')
    (first | exact Keep2.all (Keep2.drew (by assumption)) | exact Keep2.allto (by assumption) hb)
    (first
      | (go_at_call 11; with_reducible refine (spot_c 0 a (k % 9 - 4) _ ho (by omega) (by omega)).mono ?_; rintro e w' ⟨rfl, hb⟩)
      | (go_at_call 11; with_reducible refine (spot_c 1 a' (k % 9 - 4) _ ho' (by omega) (by omega)).mono ?_; rintro e w' ⟨rfl, hb⟩)
      | (go_at_call 12; with_reducible refine (lives_true _ (Keep2.allv (by assumption))).mono ?_; rintro e w' ⟨rfl, hb⟩))
  go_wp2
  go_ret
  exact ⟨rfl, Keep2.allz (by assumption)⟩

set_option maxHeartbeats 1000000 in
theorem order_10lt (i j k a a' : Int) (w : World) (HV : Hid (Vars w)) (h4 : 0 ≤ k) (h5 : k ≤ 255) (ho : Ok 1 a) (ho' : Ok 0 a')
    (C1 : Hid (∀ w, Calls Tryd.prog 15 #[.int .u8 i] w fun e w' => e = .returned (nd 1 a) ∧ w' = w.alloc (nbox 1 a)))
    (C2 : Hid (∀ w, Calls Tryd.prog 15 #[.int .u8 j] w fun e w' => e = .returned (nd 0 a') ∧ w' = w.alloc (nbox 0 a'))) (hl : a + (k % 9 - 4) < a') :
    Calls Tryd.prog 8 #[.int .u8 i, .int .u8 j, .int .u8 k] w fun e w' => e = .returned (.bool true) ∧ Below w.heap.size w w' := by
  have a1 := ho.lo; have a2 := ho.hi; have a3 := ho'.lo; have a4 := ho'.hi
  have k1 : 0 ≤ k % 9 := by omega
  have k2 : k % 9 ≤ 8 := by omega
  have hd : decide (spotI 1 a (k % 9 - 4) < spotI 0 a' (k % 9 - 4)) = true := by simp [spotI] <;> omega
  go_enter Tryd.func8, Tryd.ntmps8
  go_wp2_with fail
  refine (C1.out _).mono ?_
  rintro e w1 ⟨rfl, rfl⟩
  go_wp2_with fail
  refine (C2.out _).mono ?_
  rintro e w2 ⟨rfl, rfl⟩
  go_wp2_with fail
  go_quiet (fail)
  go_wp2_with fail
  have K := Keep2.start w 1 a 0 a' nq HV.out
  generalize hW : ((((w.alloc (nbox 1 a)).alloc (nbox 0 a')).alloc (nbox 1 a)).alloc (nbox 0 a')).drewN nq = W at K ⊢
  clear hW
  obtain ⟨x0, x1, y0, y1, K⟩ := K.all
  go_region_held3 (fun w' => w'.cell? ⟨w.heap.size + 1 + 1, 0, none⟩ = some (.int .u8 1) ∧ w'.cell? ⟨w.heap.size + 1 + 1, 1, none⟩ = some (.int .i64 a) ∧ w'.cell? ⟨w.heap.size + 1 + 1 + 1, 0, none⟩ = some (.int .u8 0) ∧ w'.cell? ⟨w.heap.size + 1 + 1 + 1, 1, none⟩ = some (.int .i64 a') ∧ Keep2 w (w.heap.size + 1 + 1) 1 a (w.heap.size + 1 + 1 + 1) 0 a' w')
    (first | exact Keep2.all (Keep2.drew (by assumption)) | exact Keep2.allto (by assumption) hb)
    (first
      | (go_at_call 11; with_reducible refine (spot_c 1 a (k % 9 - 4) _ ho (by omega) (by omega)).mono ?_; rintro e w' ⟨rfl, hb⟩)
      | (go_at_call 11; with_reducible refine (spot_c 0 a' (k % 9 - 4) _ ho' (by omega) (by omega)).mono ?_; rintro e w' ⟨rfl, hb⟩)
      | (go_at_call 12; with_reducible refine (lives_true _ (Keep2.allv (by assumption))).mono ?_; rintro e w' ⟨rfl, hb⟩))
  go_wp2
  go_ret
  exact ⟨rfl, Keep2.allz (by assumption)⟩

set_option maxHeartbeats 1000000 in
theorem order_10eq (i j k a a' : Int) (w : World) (HV : Hid (Vars w)) (h4 : 0 ≤ k) (h5 : k ≤ 255) (ho : Ok 1 a) (ho' : Ok 0 a')
    (C1 : Hid (∀ w, Calls Tryd.prog 15 #[.int .u8 i] w fun e w' => e = .returned (nd 1 a) ∧ w' = w.alloc (nbox 1 a)))
    (C2 : Hid (∀ w, Calls Tryd.prog 15 #[.int .u8 j] w fun e w' => e = .returned (nd 0 a') ∧ w' = w.alloc (nbox 0 a'))) (hl : a + (k % 9 - 4) = a') :
    Calls Tryd.prog 8 #[.int .u8 i, .int .u8 j, .int .u8 k] w fun e w' => e = .returned (.bool true) ∧ Below w.heap.size w w' := by
  have a1 := ho.lo; have a2 := ho.hi; have a3 := ho'.lo; have a4 := ho'.hi
  have k1 : 0 ≤ k % 9 := by omega
  have k2 : k % 9 ≤ 8 := by omega
  have hd : decide (spotI 1 a (k % 9 - 4) < spotI 0 a' (k % 9 - 4)) = true := by simp [spotI] <;> omega
  have e1 : decide (a + (k % 9 - 4) < a') = false := by simp; omega
  have e2 : (a + (k % 9 - 4) == a') = true := by simp; omega
  clear hl
  go_enter Tryd.func8, Tryd.ntmps8
  go_wp2_with fail
  refine (C1.out _).mono ?_
  rintro e w1 ⟨rfl, rfl⟩
  go_wp2_with fail
  refine (C2.out _).mono ?_
  rintro e w2 ⟨rfl, rfl⟩
  go_wp2_with fail
  go_quiet (fail)
  go_wp2_with fail
  have K := Keep2.start w 1 a 0 a' nq HV.out
  generalize hW : ((((w.alloc (nbox 1 a)).alloc (nbox 0 a')).alloc (nbox 1 a)).alloc (nbox 0 a')).drewN nq = W at K ⊢
  clear hW
  obtain ⟨x0, x1, y0, y1, K⟩ := K.all
  go_region_held3 (fun w' => w'.cell? ⟨w.heap.size + 1 + 1, 0, none⟩ = some (.int .u8 1) ∧ w'.cell? ⟨w.heap.size + 1 + 1, 1, none⟩ = some (.int .i64 a) ∧ w'.cell? ⟨w.heap.size + 1 + 1 + 1, 0, none⟩ = some (.int .u8 0) ∧ w'.cell? ⟨w.heap.size + 1 + 1 + 1, 1, none⟩ = some (.int .i64 a') ∧ Keep2 w (w.heap.size + 1 + 1) 1 a (w.heap.size + 1 + 1 + 1) 0 a' w')
    (first | exact Keep2.all (Keep2.drew (by assumption)) | exact Keep2.allto (by assumption) hb)
    (first
      | (go_at_call 11; with_reducible refine (spot_c 1 a (k % 9 - 4) _ ho (by omega) (by omega)).mono ?_; rintro e w' ⟨rfl, hb⟩)
      | (go_at_call 11; with_reducible refine (spot_c 0 a' (k % 9 - 4) _ ho' (by omega) (by omega)).mono ?_; rintro e w' ⟨rfl, hb⟩)
      | (go_at_call 12; with_reducible refine (lives_true _ (Keep2.allv (by assumption))).mono ?_; rintro e w' ⟨rfl, hb⟩))
  go_wp2
  go_ret
  exact ⟨rfl, Keep2.allz (by assumption)⟩

set_option maxHeartbeats 1000000 in
theorem order_10gt (i j k a a' : Int) (w : World) (HV : Hid (Vars w)) (h4 : 0 ≤ k) (h5 : k ≤ 255) (ho : Ok 1 a) (ho' : Ok 0 a')
    (C1 : Hid (∀ w, Calls Tryd.prog 15 #[.int .u8 i] w fun e w' => e = .returned (nd 1 a) ∧ w' = w.alloc (nbox 1 a)))
    (C2 : Hid (∀ w, Calls Tryd.prog 15 #[.int .u8 j] w fun e w' => e = .returned (nd 0 a') ∧ w' = w.alloc (nbox 0 a'))) (hl : a' < a + (k % 9 - 4)) :
    Calls Tryd.prog 8 #[.int .u8 i, .int .u8 j, .int .u8 k] w fun e w' => e = .returned (.bool true) ∧ Below w.heap.size w w' := by
  have a1 := ho.lo; have a2 := ho.hi; have a3 := ho'.lo; have a4 := ho'.hi
  have k1 : 0 ≤ k % 9 := by omega
  have k2 : k % 9 ≤ 8 := by omega
  have hd : decide (spotI 1 a (k % 9 - 4) < spotI 0 a' (k % 9 - 4)) = false := by simp [spotI] <;> omega
  have e1 : decide (a + (k % 9 - 4) < a') = false := by simp; omega
  have e2 : (a + (k % 9 - 4) == a') = false := by simp; omega
  go_enter Tryd.func8, Tryd.ntmps8
  go_wp2_with fail
  refine (C1.out _).mono ?_
  rintro e w1 ⟨rfl, rfl⟩
  go_wp2_with fail
  refine (C2.out _).mono ?_
  rintro e w2 ⟨rfl, rfl⟩
  go_wp2_with fail
  go_quiet (fail)
  go_wp2_with fail
  have K := Keep2.start w 1 a 0 a' nq HV.out
  generalize hW : ((((w.alloc (nbox 1 a)).alloc (nbox 0 a')).alloc (nbox 1 a)).alloc (nbox 0 a')).drewN nq = W at K ⊢
  clear hW
  obtain ⟨x0, x1, y0, y1, K⟩ := K.all
  go_region_held3 (fun w' => w'.cell? ⟨w.heap.size + 1 + 1, 0, none⟩ = some (.int .u8 1) ∧ w'.cell? ⟨w.heap.size + 1 + 1, 1, none⟩ = some (.int .i64 a) ∧ w'.cell? ⟨w.heap.size + 1 + 1 + 1, 0, none⟩ = some (.int .u8 0) ∧ w'.cell? ⟨w.heap.size + 1 + 1 + 1, 1, none⟩ = some (.int .i64 a') ∧ Keep2 w (w.heap.size + 1 + 1) 1 a (w.heap.size + 1 + 1 + 1) 0 a' w')
    (first | exact Keep2.all (Keep2.drew (by assumption)) | exact Keep2.allto (by assumption) hb)
    (first
      | (go_at_call 11; with_reducible refine (spot_c 1 a (k % 9 - 4) _ ho (by omega) (by omega)).mono ?_; rintro e w' ⟨rfl, hb⟩)
      | (go_at_call 11; with_reducible refine (spot_c 0 a' (k % 9 - 4) _ ho' (by omega) (by omega)).mono ?_; rintro e w' ⟨rfl, hb⟩)
      | (go_at_call 12; with_reducible refine (lives_true _ (Keep2.allv (by assumption))).mono ?_; rintro e w' ⟨rfl, hb⟩))
  go_wp2
  go_ret
  exact ⟨rfl, Keep2.allz (by assumption)⟩

set_option maxHeartbeats 1000000 in
theorem order_11lt (i j k a a' : Int) (w : World) (HV : Hid (Vars w)) (h4 : 0 ≤ k) (h5 : k ≤ 255) (ho : Ok 1 a) (ho' : Ok 1 a')
    (C1 : Hid (∀ w, Calls Tryd.prog 15 #[.int .u8 i] w fun e w' => e = .returned (nd 1 a) ∧ w' = w.alloc (nbox 1 a)))
    (C2 : Hid (∀ w, Calls Tryd.prog 15 #[.int .u8 j] w fun e w' => e = .returned (nd 1 a') ∧ w' = w.alloc (nbox 1 a'))) (hl : a < a') :
    Calls Tryd.prog 8 #[.int .u8 i, .int .u8 j, .int .u8 k] w fun e w' => e = .returned (.bool true) ∧ Below w.heap.size w w' := by
  have a1 := ho.lo; have a2 := ho.hi; have a3 := ho'.lo; have a4 := ho'.hi
  have k1 : 0 ≤ k % 9 := by omega
  have k2 : k % 9 ≤ 8 := by omega
  have hd : decide (spotI 1 a (k % 9 - 4) < spotI 1 a' (k % 9 - 4)) = true := by simp [spotI] <;> omega
  go_enter Tryd.func8, Tryd.ntmps8
  go_wp2_with fail
  refine (C1.out _).mono ?_
  rintro e w1 ⟨rfl, rfl⟩
  go_wp2_with fail
  refine (C2.out _).mono ?_
  rintro e w2 ⟨rfl, rfl⟩
  go_wp2_with fail
  go_quiet (fail)
  go_wp2_with fail
  have K := Keep2.start w 1 a 1 a' nq HV.out
  generalize hW : ((((w.alloc (nbox 1 a)).alloc (nbox 1 a')).alloc (nbox 1 a)).alloc (nbox 1 a')).drewN nq = W at K ⊢
  clear hW
  obtain ⟨x0, x1, y0, y1, K⟩ := K.all
  go_region_held3 (fun w' => w'.cell? ⟨w.heap.size + 1 + 1, 0, none⟩ = some (.int .u8 1) ∧ w'.cell? ⟨w.heap.size + 1 + 1, 1, none⟩ = some (.int .i64 a) ∧ w'.cell? ⟨w.heap.size + 1 + 1 + 1, 0, none⟩ = some (.int .u8 1) ∧ w'.cell? ⟨w.heap.size + 1 + 1 + 1, 1, none⟩ = some (.int .i64 a') ∧ Keep2 w (w.heap.size + 1 + 1) 1 a (w.heap.size + 1 + 1 + 1) 1 a' w')
    (first | exact Keep2.all (Keep2.drew (by assumption)) | exact Keep2.allto (by assumption) hb)
    (first
      | (go_at_call 11; with_reducible refine (spot_c 1 a (k % 9 - 4) _ ho (by omega) (by omega)).mono ?_; rintro e w' ⟨rfl, hb⟩)
      | (go_at_call 11; with_reducible refine (spot_c 1 a' (k % 9 - 4) _ ho' (by omega) (by omega)).mono ?_; rintro e w' ⟨rfl, hb⟩)
      | (go_at_call 12; with_reducible refine (lives_true _ (Keep2.allv (by assumption))).mono ?_; rintro e w' ⟨rfl, hb⟩))
  go_wp2
  go_ret
  exact ⟨rfl, Keep2.allz (by assumption)⟩

set_option maxHeartbeats 1000000 in
theorem order_11eq (i j k a a' : Int) (w : World) (HV : Hid (Vars w)) (h4 : 0 ≤ k) (h5 : k ≤ 255) (ho : Ok 1 a) (ho' : Ok 1 a')
    (C1 : Hid (∀ w, Calls Tryd.prog 15 #[.int .u8 i] w fun e w' => e = .returned (nd 1 a) ∧ w' = w.alloc (nbox 1 a)))
    (C2 : Hid (∀ w, Calls Tryd.prog 15 #[.int .u8 j] w fun e w' => e = .returned (nd 1 a') ∧ w' = w.alloc (nbox 1 a'))) (hl : a = a') :
    Calls Tryd.prog 8 #[.int .u8 i, .int .u8 j, .int .u8 k] w fun e w' => e = .returned (.bool true) ∧ Below w.heap.size w w' := by
  have a1 := ho.lo; have a2 := ho.hi; have a3 := ho'.lo; have a4 := ho'.hi
  have k1 : 0 ≤ k % 9 := by omega
  have k2 : k % 9 ≤ 8 := by omega
  have hd : decide (spotI 1 a (k % 9 - 4) < spotI 1 a' (k % 9 - 4)) = false := by simp [spotI] <;> omega
  obtain rfl : a = a' := by omega
  clear hl hd
  have hd : decide (spotI 1 a (k % 9 - 4) < spotI 1 a (k % 9 - 4)) = false := by simp
  go_enter Tryd.func8, Tryd.ntmps8
  go_wp2_with fail
  refine (C1.out _).mono ?_
  rintro e w1 ⟨rfl, rfl⟩
  go_wp2_with fail
  refine (C2.out _).mono ?_
  rintro e w2 ⟨rfl, rfl⟩
  go_wp2_with fail
  go_quiet (fail)
  go_wp2_with fail
  have K := Keep2.start w 1 a 1 a nq HV.out
  generalize hW : ((((w.alloc (nbox 1 a)).alloc (nbox 1 a)).alloc (nbox 1 a)).alloc (nbox 1 a)).drewN nq = W at K ⊢
  clear hW
  obtain ⟨x0, x1, y0, y1, K⟩ := K.all
  go_region_held3 (fun w' => w'.cell? ⟨w.heap.size + 1 + 1, 0, none⟩ = some (.int .u8 1) ∧ w'.cell? ⟨w.heap.size + 1 + 1, 1, none⟩ = some (.int .i64 a) ∧ w'.cell? ⟨w.heap.size + 1 + 1 + 1, 0, none⟩ = some (.int .u8 1) ∧ w'.cell? ⟨w.heap.size + 1 + 1 + 1, 1, none⟩ = some (.int .i64 a) ∧ Keep2 w (w.heap.size + 1 + 1) 1 a (w.heap.size + 1 + 1 + 1) 1 a w')
    (first | exact Keep2.all (Keep2.drew (by assumption)) | exact Keep2.allto (by assumption) hb)
    (first
      | (go_at_call 11; with_reducible refine (spot_c 1 a (k % 9 - 4) _ ho (by omega) (by omega)).mono ?_; rintro e w' ⟨rfl, hb⟩)
      | (go_at_call 11; with_reducible refine (spot_c 1 a (k % 9 - 4) _ ho' (by omega) (by omega)).mono ?_; rintro e w' ⟨rfl, hb⟩)
      | (go_at_call 12; with_reducible refine (lives_true _ (Keep2.allv (by assumption))).mono ?_; rintro e w' ⟨rfl, hb⟩))
  go_wp2
  go_ret
  exact ⟨rfl, Keep2.allz (by assumption)⟩

set_option maxHeartbeats 1000000 in
theorem order_11gt (i j k a a' : Int) (w : World) (HV : Hid (Vars w)) (h4 : 0 ≤ k) (h5 : k ≤ 255) (ho : Ok 1 a) (ho' : Ok 1 a')
    (C1 : Hid (∀ w, Calls Tryd.prog 15 #[.int .u8 i] w fun e w' => e = .returned (nd 1 a) ∧ w' = w.alloc (nbox 1 a)))
    (C2 : Hid (∀ w, Calls Tryd.prog 15 #[.int .u8 j] w fun e w' => e = .returned (nd 1 a') ∧ w' = w.alloc (nbox 1 a'))) (hl : a' < a) :
    Calls Tryd.prog 8 #[.int .u8 i, .int .u8 j, .int .u8 k] w fun e w' => e = .returned (.bool true) ∧ Below w.heap.size w w' := by
  have a1 := ho.lo; have a2 := ho.hi; have a3 := ho'.lo; have a4 := ho'.hi
  have k1 : 0 ≤ k % 9 := by omega
  have k2 : k % 9 ≤ 8 := by omega
  have hd : decide (spotI 1 a (k % 9 - 4) < spotI 1 a' (k % 9 - 4)) = false := by simp [spotI] <;> omega
  have e1 : decide (a < a') = false := by simp; omega
  have e2 : (a == a') = false := by simp; omega
  go_enter Tryd.func8, Tryd.ntmps8
  go_wp2_with fail
  refine (C1.out _).mono ?_
  rintro e w1 ⟨rfl, rfl⟩
  go_wp2_with fail
  refine (C2.out _).mono ?_
  rintro e w2 ⟨rfl, rfl⟩
  go_wp2_with fail
  go_quiet (fail)
  go_wp2_with fail
  have K := Keep2.start w 1 a 1 a' nq HV.out
  generalize hW : ((((w.alloc (nbox 1 a)).alloc (nbox 1 a')).alloc (nbox 1 a)).alloc (nbox 1 a')).drewN nq = W at K ⊢
  clear hW
  obtain ⟨x0, x1, y0, y1, K⟩ := K.all
  go_region_held3 (fun w' => w'.cell? ⟨w.heap.size + 1 + 1, 0, none⟩ = some (.int .u8 1) ∧ w'.cell? ⟨w.heap.size + 1 + 1, 1, none⟩ = some (.int .i64 a) ∧ w'.cell? ⟨w.heap.size + 1 + 1 + 1, 0, none⟩ = some (.int .u8 1) ∧ w'.cell? ⟨w.heap.size + 1 + 1 + 1, 1, none⟩ = some (.int .i64 a') ∧ Keep2 w (w.heap.size + 1 + 1) 1 a (w.heap.size + 1 + 1 + 1) 1 a' w')
    (first | exact Keep2.all (Keep2.drew (by assumption)) | exact Keep2.allto (by assumption) hb)
    (first
      | (go_at_call 11; with_reducible refine (spot_c 1 a (k % 9 - 4) _ ho (by omega) (by omega)).mono ?_; rintro e w' ⟨rfl, hb⟩)
      | (go_at_call 11; with_reducible refine (spot_c 1 a' (k % 9 - 4) _ ho' (by omega) (by omega)).mono ?_; rintro e w' ⟨rfl, hb⟩)
      | (go_at_call 12; with_reducible refine (lives_true _ (Keep2.allv (by assumption))).mono ?_; rintro e w' ⟨rfl, hb⟩))
  go_wp2
  go_ret
  exact ⟨rfl, Keep2.allz (by assumption)⟩

theorem order_core (i j k b a b' a' : Int) (w : World) (hV : Vars w) (h0 : 0 ≤ i) (h1 : i ≤ 255) (h2 : 0 ≤ j) (h3 : j ≤ 255) (h4 : 0 ≤ k) (h5 : k ≤ 255)
    (hb : bedOf i = b) (ha : atOf i = a) (hb' : bedOf j = b') (ha' : atOf j = a') (ho : Ok b a) (ho' : Ok b' a') :
    Calls Tryd.prog 8 #[.int .u8 i, .int .u8 j, .int .u8 k] w fun e w' => e = .returned (.bool true) ∧ Below w.heap.size w w' := by
  have C1 := fun w => needle_at i b a w h0 h1 hb ha
  have C2 := fun w => needle_at j b' a' w h2 h3 hb' ha'
  have three : ∀ x y : Int, x < y ∨ x = y ∨ y < x := fun x y => by omega
  rcases ho.bed with rfl | rfl <;> rcases ho'.bed with rfl | rfl
  · rcases three a a' with hl | hl | hl
    · exact order_00lt i j k a a' w hV h4 h5 ho ho' C1 C2 hl
    · exact order_00eq i j k a a' w hV h4 h5 ho ho' C1 C2 hl
    · exact order_00gt i j k a a' w hV h4 h5 ho ho' C1 C2 hl
  · rcases three a (a' + (k % 9 - 4)) with hl | hl | hl
    · exact order_01lt i j k a a' w hV h4 h5 ho ho' C1 C2 hl
    · exact order_01eq i j k a a' w hV h4 h5 ho ho' C1 C2 hl
    · exact order_01gt i j k a a' w hV h4 h5 ho ho' C1 C2 hl
  · rcases three (a + (k % 9 - 4)) a' with hl | hl | hl
    · exact order_10lt i j k a a' w hV h4 h5 ho ho' C1 C2 hl
    · exact order_10eq i j k a a' w hV h4 h5 ho ho' C1 C2 hl
    · exact order_10gt i j k a a' w hV h4 h5 ho ho' C1 C2 hl
  · rcases three a a' with hl | hl | hl
    · exact order_11lt i j k a a' w hV h4 h5 ho ho' C1 C2 hl
    · exact order_11eq i j k a a' w hV h4 h5 ho ho' C1 C2 hl
    · exact order_11gt i j k a a' w hV h4 h5 ho ho' C1 C2 hl

theorem bounds8 {a : Int} (h : (Lit.int .u8 a).wf = true) : 0 ≤ a ∧ a ≤ 255 := bounds_u8 h
theorem NeedlesOrder_walk (i : Int) (w0 : (Lit.int .u8 i).wf = true) (j : Int) (w1 : (Lit.int .u8 j).wf = true) (k : Int) (w2 : (Lit.int .u8 k).wf = true) (w : World) (hV : Vars w) :
    Calls Tryd.prog 8 #[.int .u8 i, .int .u8 j, .int .u8 k] w fun e w' => e = .returned (.bool true) ∧ Below w.heap.size w w' := by
  obtain ⟨i0, i1⟩ := bounds8 w0; obtain ⟨j0, j1⟩ := bounds8 w1; obtain ⟨k0, k1⟩ := bounds8 w2
  exact order_core i j k _ _ _ _ w hV i0 i1 j0 j1 k0 k1 rfl rfl rfl rfl (ok_of i) (ok_of j)
end Go.Proofs.YtofgnfnngljilaaDoor
