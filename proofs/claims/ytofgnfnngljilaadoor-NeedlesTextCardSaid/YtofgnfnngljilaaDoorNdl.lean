/- The contracts of package needles' plain functions and of the law's helpers: what each call returns and that it leaves old memory alone. -/
import Derived.Test.YtofgnfnngljilaaDoorRows
import Derived.WalkKit
import Derived.WalkSpells
import Derived.WalkLawsBesides
namespace Go.Proofs.YtofgnfnngljilaaDoor
open Go.RowKit

/-- A needle as a value. -/
abbrev nd (b a : Int) : Value := .agg #[.int .u8 b, .int .i64 a]

/-- A needle in a box of its own. -/
abbrev nbox (b a : Int) : Obj := .cells #[.int .u8 b, .int .i64 a] 24

set_option maxHeartbeats 400000 in
theorem bedName_0 (w : World) : Calls Tryd.prog 19 #[.int .u8 0] w fun e w' => e = .returned (.string ⟨#[102]⟩) ∧ w = w' := by
  go_enter Tryd.func19, Tryd.ntmps19
  go_wp2
  go_ret
  exact ⟨rfl, rfl⟩
set_option maxHeartbeats 400000 in
theorem bedName_1 (w : World) : Calls Tryd.prog 19 #[.int .u8 1] w fun e w' => e = .returned (.string ⟨#[98]⟩) ∧ w = w' := by
  go_enter Tryd.func19, Tryd.ntmps19
  go_wp2
  go_ret
  exact ⟨rfl, rfl⟩
set_option maxHeartbeats 400000 in
theorem bedName_no (b : Int) (w : World) (h0 : (b == 0) = false) (h1 : (b == 1) = false) : Calls Tryd.prog 19 #[.int .u8 b] w fun e w' => e = .returned (.string ⟨#[]⟩) ∧ w = w' := by
  go_enter Tryd.func19, Tryd.ntmps19
  go_wp2
  go_ret
  exact ⟨rfl, rfl⟩

set_option maxHeartbeats 400000 in
theorem rack_yes (r : Int) (w : World) (h0 : -4 ≤ r) (h1 : r ≤ 4) : Calls Tryd.prog 20 #[.int .i64 r] w fun e w' => e = .returned (.bool true) ∧ w = w' := by
  go_enter Tryd.func20, Tryd.ntmps20
  go_wp2
  go_ret
  exact ⟨rfl, rfl⟩
set_option maxHeartbeats 400000 in
theorem rack_lo (r : Int) (w : World) (h0 : r < -4) : Calls Tryd.prog 20 #[.int .i64 r] w fun e w' => e = .returned (.bool false) ∧ w = w' := by
  go_enter Tryd.func20, Tryd.ntmps20
  go_wp2
  go_ret
  exact ⟨rfl, rfl⟩
set_option maxHeartbeats 400000 in
theorem rack_hi (r : Int) (w : World) (h0 : 4 < r) : Calls Tryd.prog 20 #[.int .i64 r] w fun e w' => e = .returned (.bool false) ∧ w = w' := by
  have hd : decide (r ≤ 4) = false := by simpa using h0
  go_enter Tryd.func20, Tryd.ntmps20
  go_wp2
  go_ret
  exact ⟨rfl, rfl⟩
theorem rack_no (r : Int) (w : World) (h0 : r < -4 ∨ 4 < r) : Calls Tryd.prog 20 #[.int .i64 r] w fun e w' => e = .returned (.bool false) ∧ w = w' := by
  rcases h0 with h | h
  · exact rack_lo r w h
  · exact rack_hi r w h

/-- A needle is valid. -/
structure Ok (b a : Int) : Prop where
  bed : b = 0 ∨ b = 1
  lo : 1 ≤ a
  hi : a ≤ 40

theorem okN_cases (b : Int) : b = 0 ∨ b = 1 ∨ ((b == 0) = false ∧ (b == 1) = false) := by
  by_cases h0 : b = 0
  · exact Or.inl h0
  · by_cases h1 : b = 1
    · exact Or.inr (Or.inl h1)
    · exact Or.inr (Or.inr ⟨by simpa using h0, by simpa using h1⟩)

set_option maxHeartbeats 400000 in
theorem check_ok0 (a : Int) (w : World) (h1 : 1 ≤ a) (h2 : a ≤ 40) : Calls Tryd.prog 10 #[nd 0 a] w fun e w' => e = .returned (.int .i64 0) ∧ w' = w.alloc (nbox 0 a) := by
  have hd : decide (a < 1) = false := by simp; omega
  have hd2 : decide (40 < a) = false := by simp; omega
  go_enter Tryd.func10, Tryd.ntmps10
  go_wp2_with (go_at_call 19; refine (bedName_0 _).mono ?_; rintro e w' ⟨rfl, rfl⟩)
  go_ret
  exact ⟨rfl, rfl⟩
set_option maxHeartbeats 400000 in
theorem check_ok1 (a : Int) (w : World) (h1 : 1 ≤ a) (h2 : a ≤ 40) : Calls Tryd.prog 10 #[nd 1 a] w fun e w' => e = .returned (.int .i64 0) ∧ w' = w.alloc (nbox 1 a) := by
  have hd : decide (a < 1) = false := by simp; omega
  have hd2 : decide (40 < a) = false := by simp; omega
  go_enter Tryd.func10, Tryd.ntmps10
  go_wp2_with (go_at_call 19; refine (bedName_1 _).mono ?_; rintro e w' ⟨rfl, rfl⟩)
  go_ret
  exact ⟨rfl, rfl⟩
theorem check_ok (b a : Int) (w : World) (h : Ok b a) : Calls Tryd.prog 10 #[nd b a] w fun e w' => e = .returned (.int .i64 0) ∧ w' = w.alloc (nbox b a) := by
  rcases h.bed with rfl | rfl
  · exact check_ok0 a w h.lo h.hi
  · exact check_ok1 a w h.lo h.hi
set_option maxHeartbeats 400000 in
theorem check_bed (b a : Int) (w : World) (h0 : (b == 0) = false) (h1 : (b == 1) = false) : Calls Tryd.prog 10 #[nd b a] w fun e w' => e = .returned (.int .i64 1) ∧ w' = w.alloc (nbox b a) := by
  go_enter Tryd.func10, Tryd.ntmps10
  go_wp2_with (go_at_call 19; refine (bedName_no _ _ h0 h1).mono ?_; rintro e w' ⟨rfl, rfl⟩)
  go_ret
  exact ⟨rfl, rfl⟩
set_option maxHeartbeats 400000 in
theorem check_lo0 (a : Int) (w : World) (h : a < 1) : Calls Tryd.prog 10 #[nd 0 a] w fun e w' => e = .returned (.int .i64 1) ∧ w' = w.alloc (nbox 0 a) := by
  go_enter Tryd.func10, Tryd.ntmps10
  go_wp2_with (go_at_call 19; refine (bedName_0 _).mono ?_; rintro e w' ⟨rfl, rfl⟩)
  go_ret
  exact ⟨rfl, rfl⟩
set_option maxHeartbeats 400000 in
theorem check_lo1 (a : Int) (w : World) (h : a < 1) : Calls Tryd.prog 10 #[nd 1 a] w fun e w' => e = .returned (.int .i64 1) ∧ w' = w.alloc (nbox 1 a) := by
  go_enter Tryd.func10, Tryd.ntmps10
  go_wp2_with (go_at_call 19; refine (bedName_1 _).mono ?_; rintro e w' ⟨rfl, rfl⟩)
  go_ret
  exact ⟨rfl, rfl⟩
set_option maxHeartbeats 400000 in
theorem check_hi0 (a : Int) (w : World) (h : 40 < a) : Calls Tryd.prog 10 #[nd 0 a] w fun e w' => e = .returned (.int .i64 1) ∧ w' = w.alloc (nbox 0 a) := by
  have hd : decide (a < 1) = false := by simp; omega
  go_enter Tryd.func10, Tryd.ntmps10
  go_wp2_with (go_at_call 19; refine (bedName_0 _).mono ?_; rintro e w' ⟨rfl, rfl⟩)
  go_ret
  exact ⟨rfl, rfl⟩
set_option maxHeartbeats 400000 in
theorem check_hi1 (a : Int) (w : World) (h : 40 < a) : Calls Tryd.prog 10 #[nd 1 a] w fun e w' => e = .returned (.int .i64 1) ∧ w' = w.alloc (nbox 1 a) := by
  have hd : decide (a < 1) = false := by simp; omega
  go_enter Tryd.func10, Tryd.ntmps10
  go_wp2_with (go_at_call 19; refine (bedName_1 _).mono ?_; rintro e w' ⟨rfl, rfl⟩)
  go_ret
  exact ⟨rfl, rfl⟩
theorem check_no (b a : Int) (w : World) (h : ¬ Ok b a) : Calls Tryd.prog 10 #[nd b a] w fun e w' => e = .returned (.int .i64 1) ∧ w' = w.alloc (nbox b a) := by
  rcases okN_cases b with rfl | rfl | ⟨h0, h1⟩
  · by_cases ha : a < 1
    · exact check_lo0 a w ha
    · exact check_hi0 a w (by
        by_cases h40 : 40 < a
        · exact h40
        · exact absurd ⟨Or.inl rfl, by omega, by omega⟩ h)
  · by_cases ha : a < 1
    · exact check_lo1 a w ha
    · exact check_hi1 a w (by
        by_cases h40 : 40 < a
        · exact h40
        · exact absurd ⟨Or.inr rfl, by omega, by omega⟩ h)
  · exact check_bed b a w h0 h1

/-- The spot of a needle. -/
def spotI (b a r : Int) : Int := if b = 0 then 4 * a + 2 else 4 * (a + r)

/-- What a callee leaves of the cells and the marks that were there. -/
theorem bcell {W w1 : World} (hb : Below W.heap.size W w1) : (∀ b o, b < W.heap.size → w1.cell? ⟨b, o, none⟩ = W.cell? ⟨b, o, none⟩) ∧ (∀ b o, b < W.heap.size → w1.frozen? ⟨b, o, none⟩ = W.frozen? ⟨b, o, none⟩) :=
  ⟨fun b o h => hb.cell (p := ⟨b, o, none⟩) h, fun b o h => hb.frozen (p := ⟨b, o, none⟩) h⟩

set_option maxHeartbeats 400000 in
theorem spot_ok0 (a r : Int) (w : World) (h1 : 1 ≤ a) (h2 : a ≤ 40) (h3 : -4 ≤ r) (h4 : r ≤ 4) : Calls Tryd.prog 11 #[nd 0 a, .int .i64 r] w fun e w' => e = .returned (.int .i64 (4 * a + 2)) ∧ w' = (w.alloc (nbox 0 a)).alloc (nbox 0 a) := by
  go_enter Tryd.func11, Tryd.ntmps11
  go_wp2_with (first
    | (go_at_call 10; refine (check_ok0 a _ h1 h2).mono ?_; rintro e w1 ⟨rfl, rfl⟩)
    | (go_at_call 20; refine (rack_yes r _ h3 h4).mono ?_; rintro e w1 ⟨rfl, rfl⟩))
  go_ret
  exact ⟨rfl, rfl⟩
set_option maxHeartbeats 400000 in
theorem spot_ok1 (a r : Int) (w : World) (h1 : 1 ≤ a) (h2 : a ≤ 40) (h3 : -4 ≤ r) (h4 : r ≤ 4) : Calls Tryd.prog 11 #[nd 1 a, .int .i64 r] w fun e w' => e = .returned (.int .i64 (4 * (a + r))) ∧ w' = (w.alloc (nbox 1 a)).alloc (nbox 1 a) := by
  go_enter Tryd.func11, Tryd.ntmps11
  go_wp2_with (first
    | (go_at_call 10; refine (check_ok1 a _ h1 h2).mono ?_; rintro e w1 ⟨rfl, rfl⟩)
    | (go_at_call 20; refine (rack_yes r _ h3 h4).mono ?_; rintro e w1 ⟨rfl, rfl⟩))
  go_ret
  exact ⟨rfl, rfl⟩
theorem spot_ok (b a r : Int) (w : World) (h : Ok b a) (h3 : -4 ≤ r) (h4 : r ≤ 4) : Calls Tryd.prog 11 #[nd b a, .int .i64 r] w fun e w' => e = .returned (.int .i64 (spotI b a r)) ∧ w' = (w.alloc (nbox b a)).alloc (nbox b a) := by
  rcases h.bed with rfl | rfl
  · exact spot_ok0 a r w h.lo h.hi h3 h4
  · exact spot_ok1 a r w h.lo h.hi h3 h4
set_option maxHeartbeats 400000 in
theorem spot_bad (b a r : Int) (w : World) (h : ¬ Ok b a) : Calls Tryd.prog 11 #[nd b a, .int .i64 r] w fun e w' => e = .returned (.int .i64 0) ∧ w' = (w.alloc (nbox b a)).alloc (nbox b a) := by
  go_enter Tryd.func11, Tryd.ntmps11
  go_wp2_with (go_at_call 10; refine (check_no b a _ h).mono ?_; rintro e w1 ⟨rfl, rfl⟩)
  go_ret
  exact ⟨rfl, rfl⟩
set_option maxHeartbeats 400000 in
theorem spot_rack (b a r : Int) (w : World) (h : Ok b a) (hr : r < -4 ∨ 4 < r) : Calls Tryd.prog 11 #[nd b a, .int .i64 r] w fun e w' => e = .returned (.int .i64 0) ∧ w' = (w.alloc (nbox b a)).alloc (nbox b a) := by
  go_enter Tryd.func11, Tryd.ntmps11
  go_wp2_with (first
    | (go_at_call 10; refine (check_ok b a _ h).mono ?_; rintro e w1 ⟨rfl, rfl⟩)
    | (go_at_call 20; refine (rack_no r _ hr).mono ?_; rintro e w1 ⟨rfl, rfl⟩))
  go_ret
  exact ⟨rfl, rfl⟩

/-! The law's own helpers. -/
set_option maxHeartbeats 400000 in
theorem valid_ok (b a : Int) (w : World) (h : Ok b a) : Calls Tryd.prog 9 #[nd b a] w fun e w' => e = .returned (.int .i64 1) ∧ w' = w.alloc (nbox b a) := by
  obtain ⟨hb, h1, h2⟩ := h
  have h0 : b ≤ 1 := by omega
  clear hb
  go_enter Tryd.func9, Tryd.ntmps9
  go_wp2
  go_ret
  exact ⟨rfl, rfl⟩
theorem notOk (b a : Int) (hb : 0 ≤ b) (h : ¬ Ok b a) : 1 < b ∨ (b ≤ 1 ∧ a < 1) ∨ (b ≤ 1 ∧ 1 ≤ a ∧ 40 < a) := by
  by_cases h1 : 1 < b
  · exact Or.inl h1
  · by_cases h2 : a < 1
    · exact Or.inr (Or.inl ⟨by omega, h2⟩)
    · by_cases h3 : 40 < a
      · exact Or.inr (Or.inr ⟨by omega, by omega, h3⟩)
      · exact absurd ⟨by omega, by omega, by omega⟩ h
set_option maxHeartbeats 400000 in
theorem valid_no (b a : Int) (w : World) (hb : 0 ≤ b) (h : ¬ Ok b a) : Calls Tryd.prog 9 #[nd b a] w fun e w' => e = .returned (.int .i64 0) ∧ w' = w.alloc (nbox b a) := by
  rcases notOk b a hb h with h1 | ⟨h1, h2⟩ | ⟨h1, h2, h3⟩
  · have hd : decide (b ≤ 1) = false := by simp; omega
    go_enter Tryd.func9, Tryd.ntmps9
    go_wp2
    go_ret
    exact ⟨rfl, rfl⟩
  · have hd : decide (1 ≤ a) = false := by simp; omega
    go_enter Tryd.func9, Tryd.ntmps9
    go_wp2
    go_ret
    exact ⟨rfl, rfl⟩
  · have hd : decide (a ≤ 40) = false := by simp; omega
    go_enter Tryd.func9, Tryd.ntmps9
    go_wp2
    go_ret
    exact ⟨rfl, rfl⟩

set_option maxHeartbeats 400000 in
theorem lspot0 (a r : Int) (w : World) (h1 : 1 ≤ a) (h2 : a ≤ 40) : Calls Tryd.prog 14 #[nd 0 a, .int .i64 r] w fun e w' => e = .returned (.int .i64 (4 * a + 2)) ∧ w' = w.alloc (nbox 0 a) := by
  go_enter Tryd.func14, Tryd.ntmps14
  go_wp2
  go_ret
  exact ⟨rfl, rfl⟩
theorem ret_int {k : IntKind} {a b : Int} (h : a = b) : Ending.returned (.int k a) = Ending.returned (.int k b) := by rw [h]
set_option maxHeartbeats 400000 in
theorem lspot1 (a r : Int) (w : World) (h1 : 1 ≤ a) (h2 : a ≤ 40) (h3 : -4 ≤ r) (h4 : r ≤ 4) : Calls Tryd.prog 14 #[nd 1 a, .int .i64 r] w fun e w' => e = .returned (.int .i64 (4 * (a + r))) ∧ w' = w.alloc (nbox 1 a) := by
  go_enter Tryd.func14, Tryd.ntmps14
  go_wp2
  go_ret
  exact ⟨ret_int (by omega), rfl⟩
theorem lspot (b a r : Int) (w : World) (h : Ok b a) (h3 : -4 ≤ r) (h4 : r ≤ 4) : Calls Tryd.prog 14 #[nd b a, .int .i64 r] w fun e w' => e = .returned (.int .i64 (spotI b a r)) ∧ w' = w.alloc (nbox b a) := by
  rcases h.bed with rfl | rfl
  · exact lspot0 a r w h.lo h.hi
  · exact lspot1 a r w h.lo h.hi h3 h4

/-- The bed and the place of the law's needle with an index. -/
def bedOf (i : Int) : Int := i % 80 / 40
def atOf (i : Int) : Int := 1 + i % 40
theorem ok_of (i : Int) : Ok (bedOf i) (atOf i) := by
  unfold bedOf atOf
  exact ⟨by omega, by omega, by omega⟩
set_option maxHeartbeats 400000 in
theorem needle_any (i : Int) (w : World) (h0 : 0 ≤ i) (h1 : i ≤ 255) : Calls Tryd.prog 15 #[.int .u8 i] w fun e w' => e = .returned (nd (bedOf i) (atOf i)) ∧ w' = w.alloc (nbox (bedOf i) (atOf i)) := by
  go_enter Tryd.func15, Tryd.ntmps15
  go_wp2
  refine bodyPost_ret (v := nd (bedOf i) (atOf i)) (by simp [results, Tryd.results15, go_sem, bedOf, atOf]) rfl ⟨rfl, rfl⟩

/-! needles.Opposite. -/
set_option maxHeartbeats 400000 in
theorem opp_bad (b a r : Int) (w : World) (h : ¬ Ok b a) : Calls Tryd.prog 16 #[nd b a, .int .i64 r] w fun e w' => e = .returned (.tuple #[nd 0 0, .int .i64 1]) ∧ Below w.heap.size w w' := by
  go_enter Tryd.func16, Tryd.ntmps16
  go_wp2_with (first | (go_at_call 10; refine (check_no b a _ h).mono ?_; rintro e w1 ⟨rfl, rfl⟩))
  refine bodyPost_ret (v := .tuple #[nd 0 0, .int .i64 1]) (by simp [results, Tryd.results16, go_sem]) rfl ⟨rfl, ?_⟩
  exact ((((Below.refl _ _).alloc (by simp <;> omega) _).alloc (by simp <;> omega) _).alloc (by simp <;> omega) _)
set_option maxHeartbeats 400000 in
theorem opp_rack (b a r : Int) (w : World) (h : Ok b a) (hr : r < -4 ∨ 4 < r) : Calls Tryd.prog 16 #[nd b a, .int .i64 r] w fun e w' => e = .returned (.tuple #[nd 0 0, .int .i64 11]) ∧ Below w.heap.size w w' := by
  go_enter Tryd.func16, Tryd.ntmps16
  go_wp2_with (first | (go_at_call 10; refine (check_ok b a _ h).mono ?_; rintro e w1 ⟨rfl, rfl⟩) | (go_at_call 20; refine (rack_no r _ hr).mono ?_; rintro e w1 ⟨rfl, rfl⟩))
  refine bodyPost_ret (v := .tuple #[nd 0 0, .int .i64 11]) (by simp [results, Tryd.results16, go_sem]) rfl ⟨rfl, ?_⟩
  exact ((((Below.refl _ _).alloc (by simp <;> omega) _).alloc (by simp <;> omega) _).alloc (by simp <;> omega) _)
set_option maxHeartbeats 400000 in
theorem opp_far0 (a r : Int) (w : World) (h : Ok 0 a) (h3 : -4 ≤ r) (h4 : r ≤ 4) (hf : ¬ Ok 1 (a - r)) : Calls Tryd.prog 16 #[nd 0 a, .int .i64 r] w fun e w' => e = .returned (.tuple #[nd 0 0, .int .i64 11]) ∧ Below w.heap.size w w' := by
  have b1 := h.lo
  have b2 := h.hi
  go_enter Tryd.func16, Tryd.ntmps16
  go_wp2_with (first | (go_at_call 10; with_reducible refine (check_ok 0 a _ h).mono ?_; rintro e w1 ⟨rfl, rfl⟩) | (go_at_call 10; with_reducible refine (check_no 1 (a - r) _ hf).mono ?_; rintro e w1 ⟨rfl, rfl⟩) | (go_at_call 20; refine (rack_yes r _ h3 h4).mono ?_; rintro e w1 ⟨rfl, rfl⟩))
  refine bodyPost_ret (v := .tuple #[nd 0 0, .int .i64 11]) (by simp [results, Tryd.results16, go_sem]) rfl ⟨rfl, ?_⟩
  exact ((((((Below.refl _ _).alloc (by simp <;> omega) _).alloc (by simp <;> omega) _).alloc (by simp <;> omega) _).alloc (by simp <;> omega) _).alloc (by simp <;> omega) _)
set_option maxHeartbeats 400000 in
theorem opp_ok0 (a r : Int) (w : World) (h : Ok 0 a) (h3 : -4 ≤ r) (h4 : r ≤ 4) (hf : Ok 1 (a - r)) : Calls Tryd.prog 16 #[nd 0 a, .int .i64 r] w fun e w' => e = .returned (.tuple #[nd 1 (a - r), .int .i64 0]) ∧ Below w.heap.size w w' := by
  have b1 := h.lo
  have b2 := h.hi
  go_enter Tryd.func16, Tryd.ntmps16
  go_wp2_with (first | (go_at_call 10; with_reducible refine (check_ok 0 a _ h).mono ?_; rintro e w1 ⟨rfl, rfl⟩) | (go_at_call 10; with_reducible refine (check_ok 1 (a - r) _ hf).mono ?_; rintro e w1 ⟨rfl, rfl⟩) | (go_at_call 20; refine (rack_yes r _ h3 h4).mono ?_; rintro e w1 ⟨rfl, rfl⟩))
  refine bodyPost_ret (v := .tuple #[nd 1 (a - r), .int .i64 0]) (by simp [results, Tryd.results16, go_sem]) rfl ⟨rfl, ?_⟩
  exact ((((((Below.refl _ _).alloc (by simp <;> omega) _).alloc (by simp <;> omega) _).alloc (by simp <;> omega) _).alloc (by simp <;> omega) _).alloc (by simp <;> omega) _)
set_option maxHeartbeats 400000 in
theorem opp_far1 (a r : Int) (w : World) (h : Ok 1 a) (h3 : -4 ≤ r) (h4 : r ≤ 4) (hf : ¬ Ok 0 (a + r)) : Calls Tryd.prog 16 #[nd 1 a, .int .i64 r] w fun e w' => e = .returned (.tuple #[nd 0 0, .int .i64 11]) ∧ Below w.heap.size w w' := by
  have b1 := h.lo
  have b2 := h.hi
  go_enter Tryd.func16, Tryd.ntmps16
  go_wp2_with (first | (go_at_call 10; with_reducible refine (check_ok 1 a _ h).mono ?_; rintro e w1 ⟨rfl, rfl⟩) | (go_at_call 10; with_reducible refine (check_no 0 (a + r) _ hf).mono ?_; rintro e w1 ⟨rfl, rfl⟩) | (go_at_call 20; refine (rack_yes r _ h3 h4).mono ?_; rintro e w1 ⟨rfl, rfl⟩))
  refine bodyPost_ret (v := .tuple #[nd 0 0, .int .i64 11]) (by simp [results, Tryd.results16, go_sem]) rfl ⟨rfl, ?_⟩
  exact ((((((Below.refl _ _).alloc (by simp <;> omega) _).alloc (by simp <;> omega) _).alloc (by simp <;> omega) _).alloc (by simp <;> omega) _).alloc (by simp <;> omega) _)
set_option maxHeartbeats 400000 in
theorem opp_ok1 (a r : Int) (w : World) (h : Ok 1 a) (h3 : -4 ≤ r) (h4 : r ≤ 4) (hf : Ok 0 (a + r)) : Calls Tryd.prog 16 #[nd 1 a, .int .i64 r] w fun e w' => e = .returned (.tuple #[nd 0 (a + r), .int .i64 0]) ∧ Below w.heap.size w w' := by
  have b1 := h.lo
  have b2 := h.hi
  go_enter Tryd.func16, Tryd.ntmps16
  go_wp2_with (first | (go_at_call 10; with_reducible refine (check_ok 1 a _ h).mono ?_; rintro e w1 ⟨rfl, rfl⟩) | (go_at_call 10; with_reducible refine (check_ok 0 (a + r) _ hf).mono ?_; rintro e w1 ⟨rfl, rfl⟩) | (go_at_call 20; refine (rack_yes r _ h3 h4).mono ?_; rintro e w1 ⟨rfl, rfl⟩))
  refine bodyPost_ret (v := .tuple #[nd 0 (a + r), .int .i64 0]) (by simp [results, Tryd.results16, go_sem]) rfl ⟨rfl, ?_⟩
  exact ((((((Below.refl _ _).alloc (by simp <;> omega) _).alloc (by simp <;> omega) _).alloc (by simp <;> omega) _).alloc (by simp <;> omega) _).alloc (by simp <;> omega) _)
end Go.Proofs.YtofgnfnngljilaaDoor
