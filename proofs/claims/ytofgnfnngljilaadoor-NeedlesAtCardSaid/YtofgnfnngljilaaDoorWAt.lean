/- NeedlesAt: the law returns true for any spot and any rack. -/
import Derived.Test.YtofgnfnngljilaaDoorKeep
import Derived.OpenShut
namespace Go.Proofs.YtofgnfnngljilaaDoor
open Go.RowKit

theorem needle_b (i : Int) (w : World) (h0 : 0 ≤ i) (h1 : i ≤ 255) : Calls Tryd.prog 15 #[.int .u8 i] w fun e w' => e = .returned (nd (bedOf i) (atOf i)) ∧ Below w.heap.size w w' :=
  (needle_any i w h0 h1).mono fun _ _ ⟨he, hw⟩ => ⟨he, by subst hw; exact below_alloc' _ _⟩

set_option maxHeartbeats 1000000 in
theorem at_law_rack (s r : Int) (w : World) (hV : Vars w) (hr : r < -4 ∨ 4 < r) :
    Calls Tryd.prog 4 #[.int .i64 s, .int .i64 r] w fun e w' => e = .returned (.bool true) ∧ Below w.heap.size w w' := by
  have HV := Lib.hid hV; clear hV
  have hR := Lib.hid hr
  have hd : (r < -4 ∨ decide (r < -4) = false ∧ 4 < r) := by
    rcases hr with h | h
    · exact Or.inl h
    · exact Or.inr ⟨by simp; omega, h⟩
  clear hr
  go_enter Tryd.func4, Tryd.ntmps4
  go_wp2_with fail
  refine (at_rack s r _ hR.out).mono ?_
  rintro e w1 ⟨rfl, b1⟩
  have x1 := Box.new w1 0 0
  have z1 := b1.alloc b1.size (nbox 0 0)
  clear b1
  rcases hd with hd | ⟨hd, hd2⟩
  all_goals
    go_wp2_with fail
    refine (lives_true _ (HV.out.below z1)).mono ?_
    rintro e w2 ⟨rfl, b2⟩
    have z2 := z1.trans (b2.mono z1.size)
    go_wp2
    go_ret
    exact ⟨rfl, z2⟩

set_option maxHeartbeats 1000000 in
theorem at_law_none (s r : Int) (w : World) (hV : Vars w) (h3 : -4 ≤ r) (h4 : r ≤ 4) (hno : ∀ b a, Ok b a → spotI b a r ≠ s) :
    Calls Tryd.prog 4 #[.int .i64 s, .int .i64 r] w fun e w' => e = .returned (.bool true) ∧ Below w.heap.size w w' := by
  have HV := Lib.hid hV; clear hV
  have HN := Lib.hid hno; clear hno
  have hd1 : decide (r < -4) = false := by simp; omega
  have hd2 : decide (4 < r) = false := by simp; omega
  go_enter Tryd.func4, Tryd.ntmps4
  go_wp2_with fail
  refine (at_none s r _ h3 h4 HN.out).mono ?_
  rintro e w1 ⟨rfl, b1⟩
  have K : Keep2 w w1.heap.size 0 0 (w1.heap.size + 1) 0 0 ((w1.alloc (nbox 0 0)).alloc (nbox 0 0)) :=
    ⟨(Box.new w1 0 0).alloc _, by have h := Box.new (w1.alloc (nbox 0 0)) 0 0; simpa using h, HV.out.below ((b1.alloc b1.size _).alloc (by have := b1.size; simp <;> omega) _), (b1.alloc b1.size _).alloc (by have := b1.size; simp <;> omega) _, by have := b1.size; simp <;> omega⟩
  clear b1
  go_wp2_with fail
  go_loopw [7, 9] (fun m i wr => ∃ k : Nat, k ≤ 80 ∧ m = .int .i64 0 ∧ i = .int .i64 k ∧ Keep2 w w1.heap.size 0 0 (w1.heap.size + 1) 0 0 wr) (fun _ i _ => 80 - (intOf i).toNat)
  case atStart => exact ⟨0, by omega, rfl, rfl, K⟩
  case round =>
    clear K
    obtain ⟨k, hk, rfl, rfl, K⟩ := hrel
    by_cases hlt : k < 80
    · have hs : (spotI (bedOf k) (atOf k) r == s) = false := by simpa using HN.out _ _ (ok_of k)
      go_wp2_with fail
      refine (needle_b k _ (by omega) (by omega)).mono ?_
      rintro e w2 ⟨rfl, b2⟩
      have x2 := Box.new w2 (bedOf k) (atOf k)
      have K2 := (K.to b2).alloc (nbox (bedOf k) (atOf k))
      clear K b2
      have c0 := x2.c0; have c1 := x2.c1
      go_wp2_with fail
      clear c0 c1
      refine (lspot_b _ _ r _ (ok_of k) h3 h4).mono ?_
      rintro e w3 ⟨rfl, b3⟩
      have K3 := K2.to b3
      go_wp2
      go_roundw
      case rel => exact ⟨k + 1, by omega, rfl, by go_num, K3⟩
      case measure => simp [intOf]; omega
    · obtain rfl : k = 80 := by omega
      have c0 := K.x.c0; have c1 := K.x.c1
      go_wp2_with fail
      clear c0 c1
      refine (lives_true _ K.v).mono ?_
      rintro e w2 ⟨rfl, b2⟩
      have z := K.z.trans (b2.mono K.le)
      go_wp2
      go_ret
      exact ⟨rfl, z⟩

/-- The index of a needle. -/
theorem idx_of (b a : Int) (h : Ok b a) : ∃ t : Nat, t < 80 ∧ bedOf t = b ∧ atOf t = a := by
  have h1 := h.lo; have h2 := h.hi
  refine ⟨(b * 40 + a - 1).toNat, ?_, ?_, ?_⟩
  · rcases h.bed with rfl | rfl <;> omega
  · unfold bedOf; rcases h.bed with rfl | rfl <;> omega
  · unfold atOf; rcases h.bed with rfl | rfl <;> omega
theorem idx_inj (k t : Nat) (hk : k < 80) (ht : t < 80) (hb : bedOf k = bedOf t) (ha : atOf k = atOf t) : k = t := by
  unfold bedOf atOf at *
  omega

set_option maxHeartbeats 2000000 in
theorem at_law_hit (s r b a : Int) (t : Nat) (w : World) (hV : Vars w) (h3 : -4 ≤ r) (h4 : r ≤ 4) (ho : Ok b a) (hs : spotI b a r = s) (ht : t < 80) (hb : bedOf t = b) (ha : atOf t = a) :
    Calls Tryd.prog 4 #[.int .i64 s, .int .i64 r] w fun e w' => e = .returned (.bool true) ∧ Below w.heap.size w w' := by
  have HV := Lib.hid hV; clear hV
  have hd1 : decide (r < -4) = false := by simp; omega
  have hd2 : decide (4 < r) = false := by simp; omega
  have hOther : ∀ k : Nat, k < 80 → k ≠ t → (spotI (bedOf k) (atOf k) r == s) = false := by
    intro k hk hne
    have : spotI (bedOf k) (atOf k) r ≠ s := fun e => by
      obtain ⟨e1, e2⟩ := spot_inj (ok_of k) ho (e.trans hs.symm)
      exact hne (idx_inj k t hk ht (e1.trans hb.symm) (e2.trans ha.symm))
    simpa using this
  have hSame : (spotI (bedOf t) (atOf t) r == s) = true := by rw [hb, ha]; simpa using hs
  have HO := Lib.hid hOther; have HT := Lib.hid hSame; have HS := Lib.hid hs; have HB := Lib.hid hb; have HA := Lib.hid ha
  clear hOther hSame hs hb ha
  go_enter Tryd.func4, Tryd.ntmps4
  go_wp2_with fail
  refine (at_hit s b a r _ ho h3 h4 HS.out).mono ?_
  rintro e w1 ⟨rfl, b1⟩
  have K : Keep2 w w1.heap.size b a (w1.heap.size + 1) 0 0 ((w1.alloc (nbox b a)).alloc (nbox 0 0)) :=
    ⟨(Box.new w1 b a).alloc _, by have h := Box.new (w1.alloc (nbox b a)) 0 0; simpa using h, HV.out.below ((b1.alloc b1.size _).alloc (by have := b1.size; simp <;> omega) _), (b1.alloc b1.size _).alloc (by have := b1.size; simp <;> omega) _, by have := b1.size; simp <;> omega⟩
  have HL := Lib.hid b1.size
  clear b1
  go_wp2_with fail
  go_loopw [7, 9] (fun m i wr => ∃ k : Nat, k ≤ 80 ∧ i = .int .i64 k ∧ ((k ≤ t ∧ m = .int .i64 0 ∧ Keep2 w w1.heap.size b a (w1.heap.size + 1) 0 0 wr) ∨ (t < k ∧ m = .int .i64 1 ∧ Keep2 w w1.heap.size b a (w1.heap.size + 1) b a wr))) (fun _ i _ => 80 - (intOf i).toNat)
  case atStart => exact ⟨0, by omega, rfl, Or.inl ⟨by omega, rfl, K⟩⟩
  case round =>
    clear K
    obtain ⟨k, hk, rfl, ⟨hkt, rfl, K⟩ | ⟨hkt, rfl, K⟩⟩ := hrel
    · have hlt : k < 80 := by omega
      by_cases he : k = t
      · subst he
        have hs := HT.out
        go_wp2_with fail
        refine (needle_b k _ (by omega) (by omega)).mono ?_
        rintro e w2 ⟨rfl, b2⟩
        have x2 := Box.new w2 (bedOf k) (atOf k)
        have K2 := (K.to b2).alloc (nbox (bedOf k) (atOf k))
        clear K b2
        have c0 := x2.c0; have c1 := x2.c1
        go_wp2_with fail
        clear c0 c1
        refine (lspot_b _ _ r _ (ok_of k) h3 h4).mono ?_
        rintro e w3 ⟨rfl, b3⟩
        have K3 := K2.to b3
        have d0 := (x2.to b3).c0; have d1 := (x2.to b3).c1
        have y0 := K3.y.c0; have y1 := K3.y.c1; have f0 := K3.y.f0; have f1 := K3.y.f1
        go_wp2
        go_roundw
        case rel =>
          refine ⟨k + 1, by omega, by go_num, Or.inr ⟨by omega, rfl, ?_⟩⟩
          rw [HB.out, HA.out]
          exact K3.setY HV.out (by omega) (by have := HL.out; omega) b a
        case measure => simp [intOf]; omega
      · have hs := HO.out k hlt he
        go_wp2_with fail
        refine (needle_b k _ (by omega) (by omega)).mono ?_
        rintro e w2 ⟨rfl, b2⟩
        have x2 := Box.new w2 (bedOf k) (atOf k)
        have K2 := (K.to b2).alloc (nbox (bedOf k) (atOf k))
        clear K b2
        have c0 := x2.c0; have c1 := x2.c1
        go_wp2_with fail
        clear c0 c1
        refine (lspot_b _ _ r _ (ok_of k) h3 h4).mono ?_
        rintro e w3 ⟨rfl, b3⟩
        have K3 := K2.to b3
        go_wp2
        go_roundw
        case rel => exact ⟨k + 1, by omega, by go_num, Or.inl ⟨by omega, rfl, K3⟩⟩
        case measure => simp [intOf]; omega
    · by_cases hlt : k < 80
      · have hs := HO.out k hlt (by omega)
        go_wp2_with fail
        refine (needle_b k _ (by omega) (by omega)).mono ?_
        rintro e w2 ⟨rfl, b2⟩
        have x2 := Box.new w2 (bedOf k) (atOf k)
        have K2 := (K.to b2).alloc (nbox (bedOf k) (atOf k))
        clear K b2
        have c0 := x2.c0; have c1 := x2.c1
        go_wp2_with fail
        clear c0 c1
        refine (lspot_b _ _ r _ (ok_of k) h3 h4).mono ?_
        rintro e w3 ⟨rfl, b3⟩
        have K3 := K2.to b3
        go_wp2
        go_roundw
        case rel => exact ⟨k + 1, by omega, by go_num, Or.inr ⟨by omega, rfl, K3⟩⟩
        case measure => simp [intOf]; omega
      · obtain rfl : k = 80 := by omega
        have c0 := K.x.c0; have c1 := K.x.c1; have y0 := K.y.c0; have y1 := K.y.c1
        go_wp2_with fail
        clear c0 c1 y0 y1
        refine (lives_true _ K.v).mono ?_
        rintro e w2 ⟨rfl, b2⟩
        have z := K.z.trans (b2.mono K.le)
        go_wp2
        go_ret
        exact ⟨rfl, z⟩

theorem NeedlesAt_walk (s : Int) (_ : (Lit.int .i64 s).wf = true) (r : Int) (_ : (Lit.int .i64 r).wf = true) (w : World) (hV : Vars w) :
    Calls Tryd.prog 4 #[.int .i64 s, .int .i64 r] w fun e w' => e = .returned (.bool true) ∧ Below w.heap.size w w' := by
  by_cases hr : r < -4 ∨ 4 < r
  · exact at_law_rack s r w hV hr
  · by_cases hx : ∃ b a, Ok b a ∧ spotI b a r = s
    · obtain ⟨b, a, ho, hs⟩ := hx
      obtain ⟨t, ht, hb, ha⟩ := idx_of b a ho
      exact at_law_hit s r b a t w hV (by omega) (by omega) ho hs ht hb ha
    · exact at_law_none s r w hV (by omega) (by omega) (fun b a ho hs => hx ⟨b, a, ho, hs⟩)
end Go.Proofs.YtofgnfnngljilaaDoor
