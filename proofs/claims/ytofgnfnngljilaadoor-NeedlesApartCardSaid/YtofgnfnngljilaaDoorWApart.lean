/- NeedlesApart: different needles have different spots, a step of the rack moves a back needle by 4 past at most one front needle: the law returns true for any two needles and any rack. -/
import Derived.Test.YtofgnfnngljilaaDoorKeep
import Derived.Deep.RegionHeld3
import Derived.OpenShut
namespace Go.Proofs.YtofgnfnngljilaaDoor
open Go.RowKit

theorem needle_at (i b a : Int) (w : World) (h0 : 0 ≤ i) (h1 : i ≤ 255) (hb : bedOf i = b) (ha : atOf i = a) : Calls Tryd.prog 15 #[.int .u8 i] w fun e w' => e = .returned (nd b a) ∧ w' = w.alloc (nbox b a) := by
  subst hb ha; exact needle_any i w h0 h1
theorem spot_v (b a r s : Int) (w : World) (h : Ok b a) (h3 : -4 ≤ r) (h4 : r ≤ 4) (hs : Hid (spotI b a r = s)) : Calls Tryd.prog 11 #[nd b a, .int .i64 r] w fun e w' => e = .returned (.int .i64 s) ∧ Below w.heap.size w w' := by
  have h' := hs.out
  subst h'; exact spot_b b a r w h h3 h4
/-- The front needle number k from 0. -/
theorem front_k (k : Nat) (w : World) (hk : k < 40) : Calls Tryd.prog 15 #[.int .u8 k] w fun e w' => e = .returned (nd 0 ((k : Int) + 1)) ∧ Below w.heap.size w w' :=
  (needle_at k 0 ((k : Int) + 1) w (by omega) (by omega) (by unfold bedOf; omega) (by unfold atOf; omega)).mono fun _ _ ⟨he, hw⟩ => ⟨he, by subst hw; exact below_alloc' _ _⟩
theorem ok_front (k : Nat) (hk : k < 40) : Ok 0 ((k : Int) + 1) := ⟨by simp, by omega, by omega⟩
theorem spot_front (a r : Int) (w : World) (h : Ok 0 a) (h3 : -4 ≤ r) (h4 : r ≤ 4) : Calls Tryd.prog 11 #[nd 0 a, .int .i64 r] w fun e w' => e = .returned (.int .i64 (4 * a + 2)) ∧ Below w.heap.size w w' :=
  (spot_ok0 a r w h.lo h.hi h3 h4).mono fun _ _ ⟨he, hw⟩ => ⟨he, below_spot hw⟩

set_option maxHeartbeats 2000000 in
set_option maxRecDepth 100000 in
theorem apart_00e (i j k a r p : Int) (w : World) (HV : Hid (Vars w)) (hr : k % 8 - 4 = r) (h0 : 0 ≤ k) (h5 : k ≤ 255) (h3 : -4 ≤ r) (_h4 : r ≤ 3) (ho : Ok 0 a) (hp : Hid (spotI 0 a r = p)) (hp1 : Hid (spotI 0 a (r + 1) = p))
    (C1 : Hid (∀ w, Calls Tryd.prog 15 #[.int .u8 i] w fun e w' => e = .returned (nd 0 a) ∧ w' = w.alloc (nbox 0 a)))
    (C2 : Hid (∀ w, Calls Tryd.prog 15 #[.int .u8 j] w fun e w' => e = .returned (nd 0 a) ∧ w' = w.alloc (nbox 0 a))) :
    Calls Tryd.prog 7 #[.int .u8 i, .int .u8 j, .int .u8 k] w fun e w' => e = .returned (.bool true) ∧ Below w.heap.size w w' := by
  have a1 := ho.lo; have a2 := ho.hi
  have m1 : 0 ≤ k % 8 := by omega
  have m2 : k % 8 ≤ 7 := by omega
  have pl : -1000 ≤ p ∧ p ≤ 1000 := by
    have := hp.out
    simp [spotI] at this
    omega
  obtain ⟨pl1, pl2⟩ := pl
  go_enter Tryd.func7, Tryd.ntmps7
  go_wp2_with fail
  refine (C1.out _).mono ?_
  rintro e w1 ⟨rfl, rfl⟩
  go_wp2_with fail
  refine (C2.out _).mono ?_
  rintro e w2 ⟨rfl, rfl⟩
  go_wp2_with fail
  have K := Keep2.start w 0 a 0 a 0 HV.out
  rw [World.drewN_zero] at K
  generalize hW : (((w.alloc (nbox 0 a)).alloc (nbox 0 a)).alloc (nbox 0 a)).alloc (nbox 0 a) = W at K ⊢
  clear hW
  obtain ⟨x0, x1, y0, y1, K⟩ := K.all
  go_region_held3 (fun w' => w'.cell? ⟨w.heap.size + 1 + 1, 0, none⟩ = some (.int .u8 0) ∧ w'.cell? ⟨w.heap.size + 1 + 1, 1, none⟩ = some (.int .i64 a) ∧ w'.cell? ⟨w.heap.size + 1 + 1 + 1, 0, none⟩ = some (.int .u8 0) ∧ w'.cell? ⟨w.heap.size + 1 + 1 + 1, 1, none⟩ = some (.int .i64 a) ∧ Keep2 w (w.heap.size + 1 + 1) 0 a (w.heap.size + 1 + 1 + 1) 0 a w')
    (first | exact Keep2.all (Keep2.drew (by assumption)) | exact Keep2.allto (by assumption) hb)
    (first
      | (go_at_call 11; with_reducible refine (spot_v 0 a r p _ ho (by omega) (by omega) hp).mono ?_; rintro e w' ⟨rfl, hb⟩)
      | (go_at_call 11; with_reducible refine (spot_v 0 a r p _ ho (by omega) (by omega) hp).mono ?_; rintro e w' ⟨rfl, hb⟩))
  rename_i hH
  obtain ⟨z0, z1, z2, z3, KK⟩ := hH
  clear x0 x1 y0 y1 K
  go_wp2_with fail
  refine (spot_v 0 a (r + 1) _ _ ho (by omega) (by omega) hp1).mono ?_
  rintro e w3 ⟨rfl, b3⟩
  have K3 := KK.to b3
  clear z0 z1 z2 z3 KK b3
  go_wp2_with fail
  refine (lives_true _ K3.v).mono ?_
  rintro e w4 ⟨rfl, b4⟩
  have zz := K3.z.trans (b4.mono K3.le)
  go_wp2
  go_ret
  exact ⟨rfl, zz⟩

set_option maxHeartbeats 2000000 in
set_option maxRecDepth 100000 in
theorem apart_00n (i j k a r p : Int) (a' q : Int) (w : World) (HV : Hid (Vars w)) (hr : k % 8 - 4 = r) (h0 : 0 ≤ k) (h5 : k ≤ 255) (h3 : -4 ≤ r) (_h4 : r ≤ 3) (ho : Ok 0 a) (hp : Hid (spotI 0 a r = p)) (hp1 : Hid (spotI 0 a (r + 1) = p)) (ho' : Ok 0 a') (hq : Hid (spotI 0 a' r = q)) (hpq : (p == q) = false) (hne : (a == a') = false)
    (C1 : Hid (∀ w, Calls Tryd.prog 15 #[.int .u8 i] w fun e w' => e = .returned (nd 0 a) ∧ w' = w.alloc (nbox 0 a)))
    (C2 : Hid (∀ w, Calls Tryd.prog 15 #[.int .u8 j] w fun e w' => e = .returned (nd 0 a') ∧ w' = w.alloc (nbox 0 a'))) :
    Calls Tryd.prog 7 #[.int .u8 i, .int .u8 j, .int .u8 k] w fun e w' => e = .returned (.bool true) ∧ Below w.heap.size w w' := by
  have a1 := ho.lo; have a2 := ho.hi
  have m1 : 0 ≤ k % 8 := by omega
  have m2 : k % 8 ≤ 7 := by omega
  have pl : -1000 ≤ p ∧ p ≤ 1000 := by
    have := hp.out
    simp [spotI] at this
    omega
  obtain ⟨pl1, pl2⟩ := pl
  go_enter Tryd.func7, Tryd.ntmps7
  go_wp2_with fail
  refine (C1.out _).mono ?_
  rintro e w1 ⟨rfl, rfl⟩
  go_wp2_with fail
  refine (C2.out _).mono ?_
  rintro e w2 ⟨rfl, rfl⟩
  go_wp2_with fail
  have K := Keep2.start w 0 a 0 a' 0 HV.out
  rw [World.drewN_zero] at K
  generalize hW : (((w.alloc (nbox 0 a)).alloc (nbox 0 a')).alloc (nbox 0 a)).alloc (nbox 0 a') = W at K ⊢
  clear hW
  obtain ⟨x0, x1, y0, y1, K⟩ := K.all
  go_region_held3 (fun w' => w'.cell? ⟨w.heap.size + 1 + 1, 0, none⟩ = some (.int .u8 0) ∧ w'.cell? ⟨w.heap.size + 1 + 1, 1, none⟩ = some (.int .i64 a) ∧ w'.cell? ⟨w.heap.size + 1 + 1 + 1, 0, none⟩ = some (.int .u8 0) ∧ w'.cell? ⟨w.heap.size + 1 + 1 + 1, 1, none⟩ = some (.int .i64 a') ∧ Keep2 w (w.heap.size + 1 + 1) 0 a (w.heap.size + 1 + 1 + 1) 0 a' w')
    (first | exact Keep2.all (Keep2.drew (by assumption)) | exact Keep2.allto (by assumption) hb)
    (first
      | (go_at_call 11; with_reducible refine (spot_v 0 a r p _ ho (by omega) (by omega) hp).mono ?_; rintro e w' ⟨rfl, hb⟩)
      | (go_at_call 11; with_reducible refine (spot_v 0 a' r q _ ho' (by omega) (by omega) hq).mono ?_; rintro e w' ⟨rfl, hb⟩))
  rename_i hH
  obtain ⟨z0, z1, z2, z3, KK⟩ := hH
  clear x0 x1 y0 y1 K
  go_wp2_with fail
  refine (spot_v 0 a (r + 1) _ _ ho (by omega) (by omega) hp1).mono ?_
  rintro e w3 ⟨rfl, b3⟩
  have K3 := KK.to b3
  clear z0 z1 z2 z3 KK b3
  go_wp2_with fail
  refine (lives_true _ K3.v).mono ?_
  rintro e w4 ⟨rfl, b4⟩
  have zz := K3.z.trans (b4.mono K3.le)
  go_wp2
  go_ret
  exact ⟨rfl, zz⟩

set_option maxHeartbeats 2000000 in
set_option maxRecDepth 100000 in
theorem apart_01n (i j k a r p : Int) (a' q : Int) (w : World) (HV : Hid (Vars w)) (hr : k % 8 - 4 = r) (h0 : 0 ≤ k) (h5 : k ≤ 255) (h3 : -4 ≤ r) (_h4 : r ≤ 3) (ho : Ok 0 a) (hp : Hid (spotI 0 a r = p)) (hp1 : Hid (spotI 0 a (r + 1) = p)) (ho' : Ok 1 a') (hq : Hid (spotI 1 a' r = q)) (hpq : (p == q) = false)
    (C1 : Hid (∀ w, Calls Tryd.prog 15 #[.int .u8 i] w fun e w' => e = .returned (nd 0 a) ∧ w' = w.alloc (nbox 0 a)))
    (C2 : Hid (∀ w, Calls Tryd.prog 15 #[.int .u8 j] w fun e w' => e = .returned (nd 1 a') ∧ w' = w.alloc (nbox 1 a'))) :
    Calls Tryd.prog 7 #[.int .u8 i, .int .u8 j, .int .u8 k] w fun e w' => e = .returned (.bool true) ∧ Below w.heap.size w w' := by
  have a1 := ho.lo; have a2 := ho.hi
  have m1 : 0 ≤ k % 8 := by omega
  have m2 : k % 8 ≤ 7 := by omega
  have pl : -1000 ≤ p ∧ p ≤ 1000 := by
    have := hp.out
    simp [spotI] at this
    omega
  obtain ⟨pl1, pl2⟩ := pl
  go_enter Tryd.func7, Tryd.ntmps7
  go_wp2_with fail
  refine (C1.out _).mono ?_
  rintro e w1 ⟨rfl, rfl⟩
  go_wp2_with fail
  refine (C2.out _).mono ?_
  rintro e w2 ⟨rfl, rfl⟩
  go_wp2_with fail
  have K := Keep2.start w 0 a 1 a' 0 HV.out
  rw [World.drewN_zero] at K
  generalize hW : (((w.alloc (nbox 0 a)).alloc (nbox 1 a')).alloc (nbox 0 a)).alloc (nbox 1 a') = W at K ⊢
  clear hW
  obtain ⟨x0, x1, y0, y1, K⟩ := K.all
  go_region_held3 (fun w' => w'.cell? ⟨w.heap.size + 1 + 1, 0, none⟩ = some (.int .u8 0) ∧ w'.cell? ⟨w.heap.size + 1 + 1, 1, none⟩ = some (.int .i64 a) ∧ w'.cell? ⟨w.heap.size + 1 + 1 + 1, 0, none⟩ = some (.int .u8 1) ∧ w'.cell? ⟨w.heap.size + 1 + 1 + 1, 1, none⟩ = some (.int .i64 a') ∧ Keep2 w (w.heap.size + 1 + 1) 0 a (w.heap.size + 1 + 1 + 1) 1 a' w')
    (first | exact Keep2.all (Keep2.drew (by assumption)) | exact Keep2.allto (by assumption) hb)
    (first
      | (go_at_call 11; with_reducible refine (spot_v 0 a r p _ ho (by omega) (by omega) hp).mono ?_; rintro e w' ⟨rfl, hb⟩)
      | (go_at_call 11; with_reducible refine (spot_v 1 a' r q _ ho' (by omega) (by omega) hq).mono ?_; rintro e w' ⟨rfl, hb⟩))
  rename_i hH
  obtain ⟨z0, z1, z2, z3, KK⟩ := hH
  clear x0 x1 y0 y1 K
  go_wp2_with fail
  refine (spot_v 0 a (r + 1) _ _ ho (by omega) (by omega) hp1).mono ?_
  rintro e w3 ⟨rfl, b3⟩
  have K3 := KK.to b3
  clear z0 z1 z2 z3 KK b3
  go_wp2_with fail
  refine (lives_true _ K3.v).mono ?_
  rintro e w4 ⟨rfl, b4⟩
  have zz := K3.z.trans (b4.mono K3.le)
  go_wp2
  go_ret
  exact ⟨rfl, zz⟩

set_option maxHeartbeats 2000000 in
set_option maxRecDepth 100000 in
theorem apart_11et (i j k a r p : Int) (w : World) (HV : Hid (Vars w)) (hr : k % 8 - 4 = r) (h0 : 0 ≤ k) (h5 : k ≤ 255) (h3 : -4 ≤ r) (_h4 : r ≤ 3) (ho : Ok 1 a) (hp : Hid (spotI 1 a r = p)) (hp1 : Hid (spotI 1 a (r + 1) = p + 4))
    (C1 : Hid (∀ w, Calls Tryd.prog 15 #[.int .u8 i] w fun e w' => e = .returned (nd 1 a) ∧ w' = w.alloc (nbox 1 a)))
    (C2 : Hid (∀ w, Calls Tryd.prog 15 #[.int .u8 j] w fun e w' => e = .returned (nd 1 a) ∧ w' = w.alloc (nbox 1 a))) (t : Nat) (ht : t < 40) (e1 : p ≤ 4 * (t + 1)) (e2 : 4 * (t + 1) ≤ p) (e3 : a + r ≤ t + 1) (e4 : t + 1 ≤ a + r) :
    Calls Tryd.prog 7 #[.int .u8 i, .int .u8 j, .int .u8 k] w fun e w' => e = .returned (.bool true) ∧ Below w.heap.size w w' := by
  have a1 := ho.lo; have a2 := ho.hi
  have m1 : 0 ≤ k % 8 := by omega
  have m2 : k % 8 ≤ 7 := by omega
  have pl : -1000 ≤ p ∧ p ≤ 1000 := by
    have := hp.out
    simp [spotI] at this
    omega
  obtain ⟨pl1, pl2⟩ := pl
  go_enter Tryd.func7, Tryd.ntmps7
  go_wp2_with fail
  refine (C1.out _).mono ?_
  rintro e w1 ⟨rfl, rfl⟩
  go_wp2_with fail
  refine (C2.out _).mono ?_
  rintro e w2 ⟨rfl, rfl⟩
  go_wp2_with fail
  have K := Keep2.start w 1 a 1 a 0 HV.out
  rw [World.drewN_zero] at K
  generalize hW : (((w.alloc (nbox 1 a)).alloc (nbox 1 a)).alloc (nbox 1 a)).alloc (nbox 1 a) = W at K ⊢
  clear hW
  obtain ⟨x0, x1, y0, y1, K⟩ := K.all
  go_region_held3 (fun w' => w'.cell? ⟨w.heap.size + 1 + 1, 0, none⟩ = some (.int .u8 1) ∧ w'.cell? ⟨w.heap.size + 1 + 1, 1, none⟩ = some (.int .i64 a) ∧ w'.cell? ⟨w.heap.size + 1 + 1 + 1, 0, none⟩ = some (.int .u8 1) ∧ w'.cell? ⟨w.heap.size + 1 + 1 + 1, 1, none⟩ = some (.int .i64 a) ∧ Keep2 w (w.heap.size + 1 + 1) 1 a (w.heap.size + 1 + 1 + 1) 1 a w')
    (first | exact Keep2.all (Keep2.drew (by assumption)) | exact Keep2.allto (by assumption) hb)
    (first
      | (go_at_call 11; with_reducible refine (spot_v 1 a r p _ ho (by omega) (by omega) hp).mono ?_; rintro e w' ⟨rfl, hb⟩)
      | (go_at_call 11; with_reducible refine (spot_v 1 a r p _ ho (by omega) (by omega) hp).mono ?_; rintro e w' ⟨rfl, hb⟩))
  rename_i hH
  obtain ⟨z0, z1, z2, z3, KK⟩ := hH
  clear x0 x1 y0 y1 K
  go_wp2_with fail
  refine (spot_v 1 a (r + 1) _ _ ho (by omega) (by omega) hp1).mono ?_
  rintro e w3 ⟨rfl, b3⟩
  have K3 := KK.to b3
  clear z0 z1 z2 z3 KK b3
  go_wp2_with fail
  go_loopw [12, 13] (fun m i wr => ∃ n : Nat, n ≤ 40 ∧ i = .int .i64 n ∧ ((n ≤ t ∧ m = .int .i64 0) ∨ (t < n ∧ m = .int .i64 1)) ∧ Keep2 w (w.heap.size + 1 + 1) 1 a (w.heap.size + 1 + 1 + 1) 1 a wr) (fun _ i _ => 40 - (intOf i).toNat)
  case atStart => exact ⟨0, by omega, rfl, Or.inl ⟨by omega, rfl⟩, K3⟩
  case round =>
    clear K3
    obtain ⟨n, hn, rfl, ⟨hnt, rfl⟩ | ⟨hnt, rfl⟩, K⟩ := hrel
    · have hlt : n < 40 := by omega
      by_cases he : n = t
      · have g1 : p < 4 * ((n : Int) + 1) + 2 := by omega
        have g2 : 4 * ((n : Int) + 1) + 2 < p + 4 := by omega
        have HE := Lib.hid he; clear he
        go_wp2_with fail
        refine (front_k n _ hlt).mono ?_
        rintro e w4 ⟨rfl, b4⟩
        have K4 := K.to b4
        clear K b4
        go_wp2_with fail
        refine (spot_front _ r _ (ok_front n hlt) (by omega) (by omega)).mono ?_
        rintro e w5 ⟨rfl, b5⟩
        have K5 := K4.to b5
        clear K4 b5
        go_wp2
        go_roundw
        case rel => exact ⟨n + 1, by omega, by go_num, Or.inr ⟨by have := HE.out; omega, rfl⟩, K5⟩
        case measure => simp [intOf]; omega
      · have g1 : decide (p < 4 * ((n : Int) + 1) + 2) = false := by simp; omega
        go_wp2_with fail
        refine (front_k n _ hlt).mono ?_
        rintro e w4 ⟨rfl, b4⟩
        have K4 := K.to b4
        clear K b4
        go_wp2_with fail
        refine (spot_front _ r _ (ok_front n hlt) (by omega) (by omega)).mono ?_
        rintro e w5 ⟨rfl, b5⟩
        have K5 := K4.to b5
        clear K4 b5
        go_wp2
        go_roundw
        case rel => exact ⟨n + 1, by omega, by go_num, Or.inl ⟨by omega, rfl⟩, K5⟩
        case measure => simp [intOf]; omega
    · by_cases hlt : n < 40
      · have g1 : p < 4 * ((n : Int) + 1) + 2 := by omega
        have g2 : decide (4 * ((n : Int) + 1) + 2 < p + 4) = false := by simp; omega
        go_wp2_with fail
        refine (front_k n _ hlt).mono ?_
        rintro e w4 ⟨rfl, b4⟩
        have K4 := K.to b4
        clear K b4
        go_wp2_with fail
        refine (spot_front _ r _ (ok_front n hlt) (by omega) (by omega)).mono ?_
        rintro e w5 ⟨rfl, b5⟩
        have K5 := K4.to b5
        clear K4 b5
        go_wp2
        go_roundw
        case rel => exact ⟨n + 1, by omega, by go_num, Or.inr ⟨by omega, rfl⟩, K5⟩
        case measure => simp [intOf]; omega
      · obtain rfl : n = 40 := by omega
        have w1 : 1 ≤ a + r := by omega
        have w2 : a + r ≤ 40 := by omega
        have c0 := K.x.c0; have c1 := K.x.c1
        go_wp2_with fail
        clear c0 c1
        refine (lives_true _ K.v).mono ?_
        rintro e w4 ⟨rfl, b4⟩
        have zz := K.z.trans (b4.mono K.le)
        go_wp2
        go_ret
        exact ⟨rfl, zz⟩

set_option maxHeartbeats 2000000 in
set_option maxRecDepth 100000 in
theorem apart_11ef (i j k a r p : Int) (w : World) (HV : Hid (Vars w)) (hr : k % 8 - 4 = r) (h0 : 0 ≤ k) (h5 : k ≤ 255) (h3 : -4 ≤ r) (_h4 : r ≤ 3) (ho : Ok 1 a) (hp : Hid (spotI 1 a r = p)) (hp1 : Hid (spotI 1 a (r + 1) = p + 4))
    (C1 : Hid (∀ w, Calls Tryd.prog 15 #[.int .u8 i] w fun e w' => e = .returned (nd 1 a) ∧ w' = w.alloc (nbox 1 a)))
    (C2 : Hid (∀ w, Calls Tryd.prog 15 #[.int .u8 j] w fun e w' => e = .returned (nd 1 a) ∧ w' = w.alloc (nbox 1 a))) (hout : a + r < 1 ∨ 40 < a + r) (e1 : p ≤ 4 * (a + r)) (e2 : 4 * (a + r) ≤ p) :
    Calls Tryd.prog 7 #[.int .u8 i, .int .u8 j, .int .u8 k] w fun e w' => e = .returned (.bool true) ∧ Below w.heap.size w w' := by
  have a1 := ho.lo; have a2 := ho.hi
  have m1 : 0 ≤ k % 8 := by omega
  have m2 : k % 8 ≤ 7 := by omega
  have pl : -1000 ≤ p ∧ p ≤ 1000 := by
    have := hp.out
    simp [spotI] at this
    omega
  obtain ⟨pl1, pl2⟩ := pl
  go_enter Tryd.func7, Tryd.ntmps7
  go_wp2_with fail
  refine (C1.out _).mono ?_
  rintro e w1 ⟨rfl, rfl⟩
  go_wp2_with fail
  refine (C2.out _).mono ?_
  rintro e w2 ⟨rfl, rfl⟩
  go_wp2_with fail
  have K := Keep2.start w 1 a 1 a 0 HV.out
  rw [World.drewN_zero] at K
  generalize hW : (((w.alloc (nbox 1 a)).alloc (nbox 1 a)).alloc (nbox 1 a)).alloc (nbox 1 a) = W at K ⊢
  clear hW
  obtain ⟨x0, x1, y0, y1, K⟩ := K.all
  go_region_held3 (fun w' => w'.cell? ⟨w.heap.size + 1 + 1, 0, none⟩ = some (.int .u8 1) ∧ w'.cell? ⟨w.heap.size + 1 + 1, 1, none⟩ = some (.int .i64 a) ∧ w'.cell? ⟨w.heap.size + 1 + 1 + 1, 0, none⟩ = some (.int .u8 1) ∧ w'.cell? ⟨w.heap.size + 1 + 1 + 1, 1, none⟩ = some (.int .i64 a) ∧ Keep2 w (w.heap.size + 1 + 1) 1 a (w.heap.size + 1 + 1 + 1) 1 a w')
    (first | exact Keep2.all (Keep2.drew (by assumption)) | exact Keep2.allto (by assumption) hb)
    (first
      | (go_at_call 11; with_reducible refine (spot_v 1 a r p _ ho (by omega) (by omega) hp).mono ?_; rintro e w' ⟨rfl, hb⟩)
      | (go_at_call 11; with_reducible refine (spot_v 1 a r p _ ho (by omega) (by omega) hp).mono ?_; rintro e w' ⟨rfl, hb⟩))
  rename_i hH
  obtain ⟨z0, z1, z2, z3, KK⟩ := hH
  clear x0 x1 y0 y1 K
  go_wp2_with fail
  refine (spot_v 1 a (r + 1) _ _ ho (by omega) (by omega) hp1).mono ?_
  rintro e w3 ⟨rfl, b3⟩
  have K3 := KK.to b3
  clear z0 z1 z2 z3 KK b3
  go_wp2_with fail
  go_loopw [12, 13] (fun m i wr => ∃ n : Nat, n ≤ 40 ∧ i = .int .i64 n ∧ m = .int .i64 0 ∧ Keep2 w (w.heap.size + 1 + 1) 1 a (w.heap.size + 1 + 1 + 1) 1 a wr) (fun _ i _ => 40 - (intOf i).toNat)
  case atStart => exact ⟨0, by omega, rfl, rfl, K3⟩
  case round =>
    clear K3
    obtain ⟨n, hn, rfl, rfl, K⟩ := hrel
    by_cases hlt : n < 40
    · by_cases hg : p < 4 * ((n : Int) + 1) + 2
      · have g2 : decide (4 * ((n : Int) + 1) + 2 < p + 4) = false := by simp; omega
        go_wp2_with fail
        refine (front_k n _ hlt).mono ?_
        rintro e w4 ⟨rfl, b4⟩
        have K4 := K.to b4
        clear K b4
        go_wp2_with fail
        refine (spot_front _ r _ (ok_front n hlt) (by omega) (by omega)).mono ?_
        rintro e w5 ⟨rfl, b5⟩
        have K5 := K4.to b5
        clear K4 b5
        go_wp2
        go_roundw
        case rel => exact ⟨n + 1, by omega, by go_num, rfl, K5⟩
        case measure => simp [intOf]; omega
      · have g1 : decide (p < 4 * ((n : Int) + 1) + 2) = false := by simp; omega
        go_wp2_with fail
        refine (front_k n _ hlt).mono ?_
        rintro e w4 ⟨rfl, b4⟩
        have K4 := K.to b4
        clear K b4
        go_wp2_with fail
        refine (spot_front _ r _ (ok_front n hlt) (by omega) (by omega)).mono ?_
        rintro e w5 ⟨rfl, b5⟩
        have K5 := K4.to b5
        clear K4 b5
        go_wp2
        go_roundw
        case rel => exact ⟨n + 1, by omega, by go_num, rfl, K5⟩
        case measure => simp [intOf]; omega
    · obtain rfl : n = 40 := by omega
      by_cases w1 : 1 ≤ a + r
      · have w2 : decide (a + r ≤ 40) = false := by simp; omega
        have c0 := K.x.c0; have c1 := K.x.c1
        go_wp2_with fail
        clear c0 c1
        refine (lives_true _ K.v).mono ?_
        rintro e w4 ⟨rfl, b4⟩
        have zz := K.z.trans (b4.mono K.le)
        go_wp2
        go_ret
        exact ⟨rfl, zz⟩
      · have w1' : decide (1 ≤ a + r) = false := by simp; omega
        have c0 := K.x.c0; have c1 := K.x.c1
        go_wp2_with fail
        clear c0 c1
        refine (lives_true _ K.v).mono ?_
        rintro e w4 ⟨rfl, b4⟩
        have zz := K.z.trans (b4.mono K.le)
        go_wp2
        go_ret
        exact ⟨rfl, zz⟩

set_option maxHeartbeats 2000000 in
set_option maxRecDepth 100000 in
theorem apart_11nt (i j k a r p : Int) (a' q : Int) (w : World) (HV : Hid (Vars w)) (hr : k % 8 - 4 = r) (h0 : 0 ≤ k) (h5 : k ≤ 255) (h3 : -4 ≤ r) (_h4 : r ≤ 3) (ho : Ok 1 a) (hp : Hid (spotI 1 a r = p)) (hp1 : Hid (spotI 1 a (r + 1) = p + 4)) (ho' : Ok 1 a') (hq : Hid (spotI 1 a' r = q)) (hpq : (p == q) = false) (hne : (a == a') = false)
    (C1 : Hid (∀ w, Calls Tryd.prog 15 #[.int .u8 i] w fun e w' => e = .returned (nd 1 a) ∧ w' = w.alloc (nbox 1 a)))
    (C2 : Hid (∀ w, Calls Tryd.prog 15 #[.int .u8 j] w fun e w' => e = .returned (nd 1 a') ∧ w' = w.alloc (nbox 1 a'))) (t : Nat) (ht : t < 40) (e1 : p ≤ 4 * (t + 1)) (e2 : 4 * (t + 1) ≤ p) (e3 : a + r ≤ t + 1) (e4 : t + 1 ≤ a + r) :
    Calls Tryd.prog 7 #[.int .u8 i, .int .u8 j, .int .u8 k] w fun e w' => e = .returned (.bool true) ∧ Below w.heap.size w w' := by
  have a1 := ho.lo; have a2 := ho.hi
  have m1 : 0 ≤ k % 8 := by omega
  have m2 : k % 8 ≤ 7 := by omega
  have pl : -1000 ≤ p ∧ p ≤ 1000 := by
    have := hp.out
    simp [spotI] at this
    omega
  obtain ⟨pl1, pl2⟩ := pl
  go_enter Tryd.func7, Tryd.ntmps7
  go_wp2_with fail
  refine (C1.out _).mono ?_
  rintro e w1 ⟨rfl, rfl⟩
  go_wp2_with fail
  refine (C2.out _).mono ?_
  rintro e w2 ⟨rfl, rfl⟩
  go_wp2_with fail
  have K := Keep2.start w 1 a 1 a' 0 HV.out
  rw [World.drewN_zero] at K
  generalize hW : (((w.alloc (nbox 1 a)).alloc (nbox 1 a')).alloc (nbox 1 a)).alloc (nbox 1 a') = W at K ⊢
  clear hW
  obtain ⟨x0, x1, y0, y1, K⟩ := K.all
  go_region_held3 (fun w' => w'.cell? ⟨w.heap.size + 1 + 1, 0, none⟩ = some (.int .u8 1) ∧ w'.cell? ⟨w.heap.size + 1 + 1, 1, none⟩ = some (.int .i64 a) ∧ w'.cell? ⟨w.heap.size + 1 + 1 + 1, 0, none⟩ = some (.int .u8 1) ∧ w'.cell? ⟨w.heap.size + 1 + 1 + 1, 1, none⟩ = some (.int .i64 a') ∧ Keep2 w (w.heap.size + 1 + 1) 1 a (w.heap.size + 1 + 1 + 1) 1 a' w')
    (first | exact Keep2.all (Keep2.drew (by assumption)) | exact Keep2.allto (by assumption) hb)
    (first
      | (go_at_call 11; with_reducible refine (spot_v 1 a r p _ ho (by omega) (by omega) hp).mono ?_; rintro e w' ⟨rfl, hb⟩)
      | (go_at_call 11; with_reducible refine (spot_v 1 a' r q _ ho' (by omega) (by omega) hq).mono ?_; rintro e w' ⟨rfl, hb⟩))
  rename_i hH
  obtain ⟨z0, z1, z2, z3, KK⟩ := hH
  clear x0 x1 y0 y1 K
  go_wp2_with fail
  refine (spot_v 1 a (r + 1) _ _ ho (by omega) (by omega) hp1).mono ?_
  rintro e w3 ⟨rfl, b3⟩
  have K3 := KK.to b3
  clear z0 z1 z2 z3 KK b3
  go_wp2_with fail
  go_loopw [12, 13] (fun m i wr => ∃ n : Nat, n ≤ 40 ∧ i = .int .i64 n ∧ ((n ≤ t ∧ m = .int .i64 0) ∨ (t < n ∧ m = .int .i64 1)) ∧ Keep2 w (w.heap.size + 1 + 1) 1 a (w.heap.size + 1 + 1 + 1) 1 a' wr) (fun _ i _ => 40 - (intOf i).toNat)
  case atStart => exact ⟨0, by omega, rfl, Or.inl ⟨by omega, rfl⟩, K3⟩
  case round =>
    clear K3
    obtain ⟨n, hn, rfl, ⟨hnt, rfl⟩ | ⟨hnt, rfl⟩, K⟩ := hrel
    · have hlt : n < 40 := by omega
      by_cases he : n = t
      · have g1 : p < 4 * ((n : Int) + 1) + 2 := by omega
        have g2 : 4 * ((n : Int) + 1) + 2 < p + 4 := by omega
        have HE := Lib.hid he; clear he
        go_wp2_with fail
        refine (front_k n _ hlt).mono ?_
        rintro e w4 ⟨rfl, b4⟩
        have K4 := K.to b4
        clear K b4
        go_wp2_with fail
        refine (spot_front _ r _ (ok_front n hlt) (by omega) (by omega)).mono ?_
        rintro e w5 ⟨rfl, b5⟩
        have K5 := K4.to b5
        clear K4 b5
        go_wp2
        go_roundw
        case rel => exact ⟨n + 1, by omega, by go_num, Or.inr ⟨by have := HE.out; omega, rfl⟩, K5⟩
        case measure => simp [intOf]; omega
      · have g1 : decide (p < 4 * ((n : Int) + 1) + 2) = false := by simp; omega
        go_wp2_with fail
        refine (front_k n _ hlt).mono ?_
        rintro e w4 ⟨rfl, b4⟩
        have K4 := K.to b4
        clear K b4
        go_wp2_with fail
        refine (spot_front _ r _ (ok_front n hlt) (by omega) (by omega)).mono ?_
        rintro e w5 ⟨rfl, b5⟩
        have K5 := K4.to b5
        clear K4 b5
        go_wp2
        go_roundw
        case rel => exact ⟨n + 1, by omega, by go_num, Or.inl ⟨by omega, rfl⟩, K5⟩
        case measure => simp [intOf]; omega
    · by_cases hlt : n < 40
      · have g1 : p < 4 * ((n : Int) + 1) + 2 := by omega
        have g2 : decide (4 * ((n : Int) + 1) + 2 < p + 4) = false := by simp; omega
        go_wp2_with fail
        refine (front_k n _ hlt).mono ?_
        rintro e w4 ⟨rfl, b4⟩
        have K4 := K.to b4
        clear K b4
        go_wp2_with fail
        refine (spot_front _ r _ (ok_front n hlt) (by omega) (by omega)).mono ?_
        rintro e w5 ⟨rfl, b5⟩
        have K5 := K4.to b5
        clear K4 b5
        go_wp2
        go_roundw
        case rel => exact ⟨n + 1, by omega, by go_num, Or.inr ⟨by omega, rfl⟩, K5⟩
        case measure => simp [intOf]; omega
      · obtain rfl : n = 40 := by omega
        have w1 : 1 ≤ a + r := by omega
        have w2 : a + r ≤ 40 := by omega
        have c0 := K.x.c0; have c1 := K.x.c1
        go_wp2_with fail
        clear c0 c1
        refine (lives_true _ K.v).mono ?_
        rintro e w4 ⟨rfl, b4⟩
        have zz := K.z.trans (b4.mono K.le)
        go_wp2
        go_ret
        exact ⟨rfl, zz⟩

set_option maxHeartbeats 2000000 in
set_option maxRecDepth 100000 in
theorem apart_11nf (i j k a r p : Int) (a' q : Int) (w : World) (HV : Hid (Vars w)) (hr : k % 8 - 4 = r) (h0 : 0 ≤ k) (h5 : k ≤ 255) (h3 : -4 ≤ r) (_h4 : r ≤ 3) (ho : Ok 1 a) (hp : Hid (spotI 1 a r = p)) (hp1 : Hid (spotI 1 a (r + 1) = p + 4)) (ho' : Ok 1 a') (hq : Hid (spotI 1 a' r = q)) (hpq : (p == q) = false) (hne : (a == a') = false)
    (C1 : Hid (∀ w, Calls Tryd.prog 15 #[.int .u8 i] w fun e w' => e = .returned (nd 1 a) ∧ w' = w.alloc (nbox 1 a)))
    (C2 : Hid (∀ w, Calls Tryd.prog 15 #[.int .u8 j] w fun e w' => e = .returned (nd 1 a') ∧ w' = w.alloc (nbox 1 a'))) (hout : a + r < 1 ∨ 40 < a + r) (e1 : p ≤ 4 * (a + r)) (e2 : 4 * (a + r) ≤ p) :
    Calls Tryd.prog 7 #[.int .u8 i, .int .u8 j, .int .u8 k] w fun e w' => e = .returned (.bool true) ∧ Below w.heap.size w w' := by
  have a1 := ho.lo; have a2 := ho.hi
  have m1 : 0 ≤ k % 8 := by omega
  have m2 : k % 8 ≤ 7 := by omega
  have pl : -1000 ≤ p ∧ p ≤ 1000 := by
    have := hp.out
    simp [spotI] at this
    omega
  obtain ⟨pl1, pl2⟩ := pl
  go_enter Tryd.func7, Tryd.ntmps7
  go_wp2_with fail
  refine (C1.out _).mono ?_
  rintro e w1 ⟨rfl, rfl⟩
  go_wp2_with fail
  refine (C2.out _).mono ?_
  rintro e w2 ⟨rfl, rfl⟩
  go_wp2_with fail
  have K := Keep2.start w 1 a 1 a' 0 HV.out
  rw [World.drewN_zero] at K
  generalize hW : (((w.alloc (nbox 1 a)).alloc (nbox 1 a')).alloc (nbox 1 a)).alloc (nbox 1 a') = W at K ⊢
  clear hW
  obtain ⟨x0, x1, y0, y1, K⟩ := K.all
  go_region_held3 (fun w' => w'.cell? ⟨w.heap.size + 1 + 1, 0, none⟩ = some (.int .u8 1) ∧ w'.cell? ⟨w.heap.size + 1 + 1, 1, none⟩ = some (.int .i64 a) ∧ w'.cell? ⟨w.heap.size + 1 + 1 + 1, 0, none⟩ = some (.int .u8 1) ∧ w'.cell? ⟨w.heap.size + 1 + 1 + 1, 1, none⟩ = some (.int .i64 a') ∧ Keep2 w (w.heap.size + 1 + 1) 1 a (w.heap.size + 1 + 1 + 1) 1 a' w')
    (first | exact Keep2.all (Keep2.drew (by assumption)) | exact Keep2.allto (by assumption) hb)
    (first
      | (go_at_call 11; with_reducible refine (spot_v 1 a r p _ ho (by omega) (by omega) hp).mono ?_; rintro e w' ⟨rfl, hb⟩)
      | (go_at_call 11; with_reducible refine (spot_v 1 a' r q _ ho' (by omega) (by omega) hq).mono ?_; rintro e w' ⟨rfl, hb⟩))
  rename_i hH
  obtain ⟨z0, z1, z2, z3, KK⟩ := hH
  clear x0 x1 y0 y1 K
  go_wp2_with fail
  refine (spot_v 1 a (r + 1) _ _ ho (by omega) (by omega) hp1).mono ?_
  rintro e w3 ⟨rfl, b3⟩
  have K3 := KK.to b3
  clear z0 z1 z2 z3 KK b3
  go_wp2_with fail
  go_loopw [12, 13] (fun m i wr => ∃ n : Nat, n ≤ 40 ∧ i = .int .i64 n ∧ m = .int .i64 0 ∧ Keep2 w (w.heap.size + 1 + 1) 1 a (w.heap.size + 1 + 1 + 1) 1 a' wr) (fun _ i _ => 40 - (intOf i).toNat)
  case atStart => exact ⟨0, by omega, rfl, rfl, K3⟩
  case round =>
    clear K3
    obtain ⟨n, hn, rfl, rfl, K⟩ := hrel
    by_cases hlt : n < 40
    · by_cases hg : p < 4 * ((n : Int) + 1) + 2
      · have g2 : decide (4 * ((n : Int) + 1) + 2 < p + 4) = false := by simp; omega
        go_wp2_with fail
        refine (front_k n _ hlt).mono ?_
        rintro e w4 ⟨rfl, b4⟩
        have K4 := K.to b4
        clear K b4
        go_wp2_with fail
        refine (spot_front _ r _ (ok_front n hlt) (by omega) (by omega)).mono ?_
        rintro e w5 ⟨rfl, b5⟩
        have K5 := K4.to b5
        clear K4 b5
        go_wp2
        go_roundw
        case rel => exact ⟨n + 1, by omega, by go_num, rfl, K5⟩
        case measure => simp [intOf]; omega
      · have g1 : decide (p < 4 * ((n : Int) + 1) + 2) = false := by simp; omega
        go_wp2_with fail
        refine (front_k n _ hlt).mono ?_
        rintro e w4 ⟨rfl, b4⟩
        have K4 := K.to b4
        clear K b4
        go_wp2_with fail
        refine (spot_front _ r _ (ok_front n hlt) (by omega) (by omega)).mono ?_
        rintro e w5 ⟨rfl, b5⟩
        have K5 := K4.to b5
        clear K4 b5
        go_wp2
        go_roundw
        case rel => exact ⟨n + 1, by omega, by go_num, rfl, K5⟩
        case measure => simp [intOf]; omega
    · obtain rfl : n = 40 := by omega
      by_cases w1 : 1 ≤ a + r
      · have w2 : decide (a + r ≤ 40) = false := by simp; omega
        have c0 := K.x.c0; have c1 := K.x.c1
        go_wp2_with fail
        clear c0 c1
        refine (lives_true _ K.v).mono ?_
        rintro e w4 ⟨rfl, b4⟩
        have zz := K.z.trans (b4.mono K.le)
        go_wp2
        go_ret
        exact ⟨rfl, zz⟩
      · have w1' : decide (1 ≤ a + r) = false := by simp; omega
        have c0 := K.x.c0; have c1 := K.x.c1
        go_wp2_with fail
        clear c0 c1
        refine (lives_true _ K.v).mono ?_
        rintro e w4 ⟨rfl, b4⟩
        have zz := K.z.trans (b4.mono K.le)
        go_wp2
        go_ret
        exact ⟨rfl, zz⟩

set_option maxHeartbeats 2000000 in
set_option maxRecDepth 100000 in
theorem apart_10nt (i j k a r p : Int) (a' q : Int) (w : World) (HV : Hid (Vars w)) (hr : k % 8 - 4 = r) (h0 : 0 ≤ k) (h5 : k ≤ 255) (h3 : -4 ≤ r) (_h4 : r ≤ 3) (ho : Ok 1 a) (hp : Hid (spotI 1 a r = p)) (hp1 : Hid (spotI 1 a (r + 1) = p + 4)) (ho' : Ok 0 a') (hq : Hid (spotI 0 a' r = q)) (hpq : (p == q) = false)
    (C1 : Hid (∀ w, Calls Tryd.prog 15 #[.int .u8 i] w fun e w' => e = .returned (nd 1 a) ∧ w' = w.alloc (nbox 1 a)))
    (C2 : Hid (∀ w, Calls Tryd.prog 15 #[.int .u8 j] w fun e w' => e = .returned (nd 0 a') ∧ w' = w.alloc (nbox 0 a'))) (t : Nat) (ht : t < 40) (e1 : p ≤ 4 * (t + 1)) (e2 : 4 * (t + 1) ≤ p) (e3 : a + r ≤ t + 1) (e4 : t + 1 ≤ a + r) :
    Calls Tryd.prog 7 #[.int .u8 i, .int .u8 j, .int .u8 k] w fun e w' => e = .returned (.bool true) ∧ Below w.heap.size w w' := by
  have a1 := ho.lo; have a2 := ho.hi
  have m1 : 0 ≤ k % 8 := by omega
  have m2 : k % 8 ≤ 7 := by omega
  have pl : -1000 ≤ p ∧ p ≤ 1000 := by
    have := hp.out
    simp [spotI] at this
    omega
  obtain ⟨pl1, pl2⟩ := pl
  go_enter Tryd.func7, Tryd.ntmps7
  go_wp2_with fail
  refine (C1.out _).mono ?_
  rintro e w1 ⟨rfl, rfl⟩
  go_wp2_with fail
  refine (C2.out _).mono ?_
  rintro e w2 ⟨rfl, rfl⟩
  go_wp2_with fail
  have K := Keep2.start w 1 a 0 a' 0 HV.out
  rw [World.drewN_zero] at K
  generalize hW : (((w.alloc (nbox 1 a)).alloc (nbox 0 a')).alloc (nbox 1 a)).alloc (nbox 0 a') = W at K ⊢
  clear hW
  obtain ⟨x0, x1, y0, y1, K⟩ := K.all
  go_region_held3 (fun w' => w'.cell? ⟨w.heap.size + 1 + 1, 0, none⟩ = some (.int .u8 1) ∧ w'.cell? ⟨w.heap.size + 1 + 1, 1, none⟩ = some (.int .i64 a) ∧ w'.cell? ⟨w.heap.size + 1 + 1 + 1, 0, none⟩ = some (.int .u8 0) ∧ w'.cell? ⟨w.heap.size + 1 + 1 + 1, 1, none⟩ = some (.int .i64 a') ∧ Keep2 w (w.heap.size + 1 + 1) 1 a (w.heap.size + 1 + 1 + 1) 0 a' w')
    (first | exact Keep2.all (Keep2.drew (by assumption)) | exact Keep2.allto (by assumption) hb)
    (first
      | (go_at_call 11; with_reducible refine (spot_v 1 a r p _ ho (by omega) (by omega) hp).mono ?_; rintro e w' ⟨rfl, hb⟩)
      | (go_at_call 11; with_reducible refine (spot_v 0 a' r q _ ho' (by omega) (by omega) hq).mono ?_; rintro e w' ⟨rfl, hb⟩))
  rename_i hH
  obtain ⟨z0, z1, z2, z3, KK⟩ := hH
  clear x0 x1 y0 y1 K
  go_wp2_with fail
  refine (spot_v 1 a (r + 1) _ _ ho (by omega) (by omega) hp1).mono ?_
  rintro e w3 ⟨rfl, b3⟩
  have K3 := KK.to b3
  clear z0 z1 z2 z3 KK b3
  go_wp2_with fail
  go_loopw [12, 13] (fun m i wr => ∃ n : Nat, n ≤ 40 ∧ i = .int .i64 n ∧ ((n ≤ t ∧ m = .int .i64 0) ∨ (t < n ∧ m = .int .i64 1)) ∧ Keep2 w (w.heap.size + 1 + 1) 1 a (w.heap.size + 1 + 1 + 1) 0 a' wr) (fun _ i _ => 40 - (intOf i).toNat)
  case atStart => exact ⟨0, by omega, rfl, Or.inl ⟨by omega, rfl⟩, K3⟩
  case round =>
    clear K3
    obtain ⟨n, hn, rfl, ⟨hnt, rfl⟩ | ⟨hnt, rfl⟩, K⟩ := hrel
    · have hlt : n < 40 := by omega
      by_cases he : n = t
      · have g1 : p < 4 * ((n : Int) + 1) + 2 := by omega
        have g2 : 4 * ((n : Int) + 1) + 2 < p + 4 := by omega
        have HE := Lib.hid he; clear he
        go_wp2_with fail
        refine (front_k n _ hlt).mono ?_
        rintro e w4 ⟨rfl, b4⟩
        have K4 := K.to b4
        clear K b4
        go_wp2_with fail
        refine (spot_front _ r _ (ok_front n hlt) (by omega) (by omega)).mono ?_
        rintro e w5 ⟨rfl, b5⟩
        have K5 := K4.to b5
        clear K4 b5
        go_wp2
        go_roundw
        case rel => exact ⟨n + 1, by omega, by go_num, Or.inr ⟨by have := HE.out; omega, rfl⟩, K5⟩
        case measure => simp [intOf]; omega
      · have g1 : decide (p < 4 * ((n : Int) + 1) + 2) = false := by simp; omega
        go_wp2_with fail
        refine (front_k n _ hlt).mono ?_
        rintro e w4 ⟨rfl, b4⟩
        have K4 := K.to b4
        clear K b4
        go_wp2_with fail
        refine (spot_front _ r _ (ok_front n hlt) (by omega) (by omega)).mono ?_
        rintro e w5 ⟨rfl, b5⟩
        have K5 := K4.to b5
        clear K4 b5
        go_wp2
        go_roundw
        case rel => exact ⟨n + 1, by omega, by go_num, Or.inl ⟨by omega, rfl⟩, K5⟩
        case measure => simp [intOf]; omega
    · by_cases hlt : n < 40
      · have g1 : p < 4 * ((n : Int) + 1) + 2 := by omega
        have g2 : decide (4 * ((n : Int) + 1) + 2 < p + 4) = false := by simp; omega
        go_wp2_with fail
        refine (front_k n _ hlt).mono ?_
        rintro e w4 ⟨rfl, b4⟩
        have K4 := K.to b4
        clear K b4
        go_wp2_with fail
        refine (spot_front _ r _ (ok_front n hlt) (by omega) (by omega)).mono ?_
        rintro e w5 ⟨rfl, b5⟩
        have K5 := K4.to b5
        clear K4 b5
        go_wp2
        go_roundw
        case rel => exact ⟨n + 1, by omega, by go_num, Or.inr ⟨by omega, rfl⟩, K5⟩
        case measure => simp [intOf]; omega
      · obtain rfl : n = 40 := by omega
        have w1 : 1 ≤ a + r := by omega
        have w2 : a + r ≤ 40 := by omega
        have c0 := K.x.c0; have c1 := K.x.c1
        go_wp2_with fail
        clear c0 c1
        refine (lives_true _ K.v).mono ?_
        rintro e w4 ⟨rfl, b4⟩
        have zz := K.z.trans (b4.mono K.le)
        go_wp2
        go_ret
        exact ⟨rfl, zz⟩

set_option maxHeartbeats 2000000 in
set_option maxRecDepth 100000 in
theorem apart_10nf (i j k a r p : Int) (a' q : Int) (w : World) (HV : Hid (Vars w)) (hr : k % 8 - 4 = r) (h0 : 0 ≤ k) (h5 : k ≤ 255) (h3 : -4 ≤ r) (_h4 : r ≤ 3) (ho : Ok 1 a) (hp : Hid (spotI 1 a r = p)) (hp1 : Hid (spotI 1 a (r + 1) = p + 4)) (ho' : Ok 0 a') (hq : Hid (spotI 0 a' r = q)) (hpq : (p == q) = false)
    (C1 : Hid (∀ w, Calls Tryd.prog 15 #[.int .u8 i] w fun e w' => e = .returned (nd 1 a) ∧ w' = w.alloc (nbox 1 a)))
    (C2 : Hid (∀ w, Calls Tryd.prog 15 #[.int .u8 j] w fun e w' => e = .returned (nd 0 a') ∧ w' = w.alloc (nbox 0 a'))) (hout : a + r < 1 ∨ 40 < a + r) (e1 : p ≤ 4 * (a + r)) (e2 : 4 * (a + r) ≤ p) :
    Calls Tryd.prog 7 #[.int .u8 i, .int .u8 j, .int .u8 k] w fun e w' => e = .returned (.bool true) ∧ Below w.heap.size w w' := by
  have a1 := ho.lo; have a2 := ho.hi
  have m1 : 0 ≤ k % 8 := by omega
  have m2 : k % 8 ≤ 7 := by omega
  have pl : -1000 ≤ p ∧ p ≤ 1000 := by
    have := hp.out
    simp [spotI] at this
    omega
  obtain ⟨pl1, pl2⟩ := pl
  go_enter Tryd.func7, Tryd.ntmps7
  go_wp2_with fail
  refine (C1.out _).mono ?_
  rintro e w1 ⟨rfl, rfl⟩
  go_wp2_with fail
  refine (C2.out _).mono ?_
  rintro e w2 ⟨rfl, rfl⟩
  go_wp2_with fail
  have K := Keep2.start w 1 a 0 a' 0 HV.out
  rw [World.drewN_zero] at K
  generalize hW : (((w.alloc (nbox 1 a)).alloc (nbox 0 a')).alloc (nbox 1 a)).alloc (nbox 0 a') = W at K ⊢
  clear hW
  obtain ⟨x0, x1, y0, y1, K⟩ := K.all
  go_region_held3 (fun w' => w'.cell? ⟨w.heap.size + 1 + 1, 0, none⟩ = some (.int .u8 1) ∧ w'.cell? ⟨w.heap.size + 1 + 1, 1, none⟩ = some (.int .i64 a) ∧ w'.cell? ⟨w.heap.size + 1 + 1 + 1, 0, none⟩ = some (.int .u8 0) ∧ w'.cell? ⟨w.heap.size + 1 + 1 + 1, 1, none⟩ = some (.int .i64 a') ∧ Keep2 w (w.heap.size + 1 + 1) 1 a (w.heap.size + 1 + 1 + 1) 0 a' w')
    (first | exact Keep2.all (Keep2.drew (by assumption)) | exact Keep2.allto (by assumption) hb)
    (first
      | (go_at_call 11; with_reducible refine (spot_v 1 a r p _ ho (by omega) (by omega) hp).mono ?_; rintro e w' ⟨rfl, hb⟩)
      | (go_at_call 11; with_reducible refine (spot_v 0 a' r q _ ho' (by omega) (by omega) hq).mono ?_; rintro e w' ⟨rfl, hb⟩))
  rename_i hH
  obtain ⟨z0, z1, z2, z3, KK⟩ := hH
  clear x0 x1 y0 y1 K
  go_wp2_with fail
  refine (spot_v 1 a (r + 1) _ _ ho (by omega) (by omega) hp1).mono ?_
  rintro e w3 ⟨rfl, b3⟩
  have K3 := KK.to b3
  clear z0 z1 z2 z3 KK b3
  go_wp2_with fail
  go_loopw [12, 13] (fun m i wr => ∃ n : Nat, n ≤ 40 ∧ i = .int .i64 n ∧ m = .int .i64 0 ∧ Keep2 w (w.heap.size + 1 + 1) 1 a (w.heap.size + 1 + 1 + 1) 0 a' wr) (fun _ i _ => 40 - (intOf i).toNat)
  case atStart => exact ⟨0, by omega, rfl, rfl, K3⟩
  case round =>
    clear K3
    obtain ⟨n, hn, rfl, rfl, K⟩ := hrel
    by_cases hlt : n < 40
    · by_cases hg : p < 4 * ((n : Int) + 1) + 2
      · have g2 : decide (4 * ((n : Int) + 1) + 2 < p + 4) = false := by simp; omega
        go_wp2_with fail
        refine (front_k n _ hlt).mono ?_
        rintro e w4 ⟨rfl, b4⟩
        have K4 := K.to b4
        clear K b4
        go_wp2_with fail
        refine (spot_front _ r _ (ok_front n hlt) (by omega) (by omega)).mono ?_
        rintro e w5 ⟨rfl, b5⟩
        have K5 := K4.to b5
        clear K4 b5
        go_wp2
        go_roundw
        case rel => exact ⟨n + 1, by omega, by go_num, rfl, K5⟩
        case measure => simp [intOf]; omega
      · have g1 : decide (p < 4 * ((n : Int) + 1) + 2) = false := by simp; omega
        go_wp2_with fail
        refine (front_k n _ hlt).mono ?_
        rintro e w4 ⟨rfl, b4⟩
        have K4 := K.to b4
        clear K b4
        go_wp2_with fail
        refine (spot_front _ r _ (ok_front n hlt) (by omega) (by omega)).mono ?_
        rintro e w5 ⟨rfl, b5⟩
        have K5 := K4.to b5
        clear K4 b5
        go_wp2
        go_roundw
        case rel => exact ⟨n + 1, by omega, by go_num, rfl, K5⟩
        case measure => simp [intOf]; omega
    · obtain rfl : n = 40 := by omega
      by_cases w1 : 1 ≤ a + r
      · have w2 : decide (a + r ≤ 40) = false := by simp; omega
        have c0 := K.x.c0; have c1 := K.x.c1
        go_wp2_with fail
        clear c0 c1
        refine (lives_true _ K.v).mono ?_
        rintro e w4 ⟨rfl, b4⟩
        have zz := K.z.trans (b4.mono K.le)
        go_wp2
        go_ret
        exact ⟨rfl, zz⟩
      · have w1' : decide (1 ≤ a + r) = false := by simp; omega
        have c0 := K.x.c0; have c1 := K.x.c1
        go_wp2_with fail
        clear c0 c1
        refine (lives_true _ K.v).mono ?_
        rintro e w4 ⟨rfl, b4⟩
        have zz := K.z.trans (b4.mono K.le)
        go_wp2
        go_ret
        exact ⟨rfl, zz⟩

theorem apart_core (i j k b a b' a' r : Int) (w : World) (hV : Vars w) (h0 : 0 ≤ i) (h1 : i ≤ 255) (h2 : 0 ≤ j) (h3 : j ≤ 255) (h4 : 0 ≤ k) (h5 : k ≤ 255)
    (hb : bedOf i = b) (ha : atOf i = a) (hb' : bedOf j = b') (ha' : atOf j = a') (ho : Ok b a) (ho' : Ok b' a') (hr : k % 8 - 4 = r) :
    Calls Tryd.prog 7 #[.int .u8 i, .int .u8 j, .int .u8 k] w fun e w' => e = .returned (.bool true) ∧ Below w.heap.size w w' := by
  have C1 := fun w => needle_at i b a w h0 h1 hb ha
  have C2 := fun w => needle_at j b' a' w h2 h3 hb' ha'
  have r1 : -4 ≤ r := by omega
  have r2 : r ≤ 3 := by omega
  have a1 := ho.lo; have a2 := ho.hi
  by_cases hsame : b = b' ∧ a = a'
  · obtain ⟨rfl, rfl⟩ := hsame
    rcases ho.bed with rfl | rfl
    · exact apart_00e i j k a r _ w hV hr h4 h5 r1 r2 ho rfl (Lib.hid (by simp [spotI])) C1 C2
    · by_cases ht : 1 ≤ a + r ∧ a + r ≤ 40
      · exact apart_11et i j k a r _ w hV hr h4 h5 r1 r2 ho rfl (Lib.hid (by simp [spotI]; omega)) C1 C2 (a + r - 1).toNat (by omega) (by simp [spotI]; omega) (by simp [spotI]; omega) (by omega) (by omega)
      · exact apart_11ef i j k a r _ w hV hr h4 h5 r1 r2 ho rfl (Lib.hid (by simp [spotI]; omega)) C1 C2 (by omega) (by simp [spotI]) (by simp [spotI])
  · have hpq : (spotI b a r == spotI b' a' r) = false := by
      have : spotI b a r ≠ spotI b' a' r := fun e => hsame (spot_inj ho ho' e)
      simpa using this
    rcases ho.bed with rfl | rfl <;> rcases ho'.bed with rfl | rfl
    · have hne : (a == a') = false := by simpa using hsame
      exact apart_00n i j k a r _ a' _ w hV hr h4 h5 r1 r2 ho rfl (Lib.hid (by simp [spotI])) ho' rfl hpq hne C1 C2
    · exact apart_01n i j k a r _ a' _ w hV hr h4 h5 r1 r2 ho rfl (Lib.hid (by simp [spotI])) ho' rfl hpq C1 C2
    · by_cases ht : 1 ≤ a + r ∧ a + r ≤ 40
      · exact apart_10nt i j k a r _ a' _ w hV hr h4 h5 r1 r2 ho rfl (Lib.hid (by simp [spotI]; omega)) ho' rfl hpq C1 C2 (a + r - 1).toNat (by omega) (by simp [spotI]; omega) (by simp [spotI]; omega) (by omega) (by omega)
      · exact apart_10nf i j k a r _ a' _ w hV hr h4 h5 r1 r2 ho rfl (Lib.hid (by simp [spotI]; omega)) ho' rfl hpq C1 C2 (by omega) (by simp [spotI]) (by simp [spotI])
    · have hne : (a == a') = false := by simpa using hsame
      by_cases ht : 1 ≤ a + r ∧ a + r ≤ 40
      · exact apart_11nt i j k a r _ a' _ w hV hr h4 h5 r1 r2 ho rfl (Lib.hid (by simp [spotI]; omega)) ho' rfl hpq hne C1 C2 (a + r - 1).toNat (by omega) (by simp [spotI]; omega) (by simp [spotI]; omega) (by omega) (by omega)
      · exact apart_11nf i j k a r _ a' _ w hV hr h4 h5 r1 r2 ho rfl (Lib.hid (by simp [spotI]; omega)) ho' rfl hpq hne C1 C2 (by omega) (by simp [spotI]) (by simp [spotI])
theorem NeedlesApart_walk (i : Int) (w0 : (Lit.int .u8 i).wf = true) (j : Int) (w1 : (Lit.int .u8 j).wf = true) (k : Int) (w2 : (Lit.int .u8 k).wf = true) (w : World) (hV : Vars w) :
    Calls Tryd.prog 7 #[.int .u8 i, .int .u8 j, .int .u8 k] w fun e w' => e = .returned (.bool true) ∧ Below w.heap.size w w' := by
  obtain ⟨i0, i1⟩ := bounds_u8 w0; obtain ⟨j0, j1⟩ := bounds_u8 w1; obtain ⟨k0, k1⟩ := bounds_u8 w2
  exact apart_core i j k _ _ _ _ _ w hV i0 i1 j0 j1 k0 k1 rfl rfl rfl rfl (ok_of i) (ok_of j) rfl
end Go.Proofs.YtofgnfnngljilaaDoor
