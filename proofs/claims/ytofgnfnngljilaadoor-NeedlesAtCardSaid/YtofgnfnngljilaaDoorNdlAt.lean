/- The contract of needles.At: the needle that has a spot, or none. -/
import Derived.Test.YtofgnfnngljilaaDoorNdl
import Derived.Deep.LoopGhost
import Derived.Lib.Hide
namespace Go.Proofs.YtofgnfnngljilaaDoor
open Go.RowKit

/-- What At returns: the needle with the spot, or ErrNone. -/
def AtRes (s r : Int) (w : World) (e : Ending) (w' : World) : Prop :=
  Below w.heap.size w w' ∧
    ((∃ b a, Ok b a ∧ spotI b a r = s ∧ e = .returned (.tuple #[nd b a, .int .i64 0])) ∨
     ((∀ b a, Ok b a → spotI b a r ≠ s) ∧ e = .returned (.tuple #[nd 0 0, .int .i64 7])))

set_option maxHeartbeats 400000 in
theorem at_rack (s r : Int) (w : World) (hr : r < -4 ∨ 4 < r) : Calls Tryd.prog 13 #[.int .i64 s, .int .i64 r] w fun e w' => e = .returned (.tuple #[nd 0 0, .int .i64 11]) ∧ Below w.heap.size w w' := by
  go_enter Tryd.func13, Tryd.ntmps13
  go_wp2
  go_step3
  go_wp2_with (first | (go_at_call 20; refine (rack_no r _ hr).mono ?_; rintro e w1 ⟨rfl, rfl⟩))
  rw [Exit.noGoto_ret]
  refine bodyPost_ret (v := .tuple #[nd 0 0, .int .i64 11]) (by simp [results, Tryd.results13, go_sem]) rfl ⟨rfl, ?_⟩
  exact (Below.refl _ _).alloc (Nat.le_refl _) _

/-- No needle of the first i beds has the spot. -/
def NoBed (s r i : Int) : Prop := ∀ b a, Ok b a → b < i → spotI b a r ≠ s
/-- Nor one of the first k of a bed. -/
def NoUpto (s r b : Int) (k : Nat) : Prop := ∀ a : Int, 1 ≤ a → a ≤ (k : Int) → spotI b a r ≠ s
theorem NoUpto.next {s r b : Int} {k : Nat} (h : NoUpto s r b k) (hk : spotI b (k + 1) r ≠ s) : NoUpto s r b (k + 1) := by
  intro a h1 h2
  by_cases e : a = (k : Int) + 1
  · rw [e]; exact hk
  · exact h a h1 (by omega)
theorem NoBed.next {s r i : Int} (h : NoBed s r i) (hk : NoUpto s r i 40) : NoBed s r (i + 1) := by
  intro b a hok hb
  by_cases e : b = i
  · rw [e]; exact hk a hok.lo (by have := hok.hi; omega)
  · exact h b a hok (by omega)
theorem NoUpto.all {s r b : Int} {k : Nat} (h : NoUpto s r b k) (hk : s < spotI b (k + 1) r) : NoUpto s r b 40 := by
  intro a h1 h2
  by_cases e : a ≤ k
  · exact h a h1 e
  · unfold spotI at *
    split at hk <;> simp_all <;> omega
theorem NoBed.two {s r : Int} (h : NoBed s r 2) : ∀ b a, Ok b a → spotI b a r ≠ s := fun b a hok => h b a hok (by rcases hok.bed with rfl | rfl <;> decide)

theorem at_hit_of {s r b a : Int} {w w' : World} (hok : Ok b a) (hs : spotI b a r = s) (hb : Below w.heap.size w w') : AtRes s r w (.returned (.tuple #[nd b a, .int .i64 0])) w' := ⟨hb, Or.inl ⟨b, a, hok, hs, rfl⟩⟩
theorem at_none_of {s r : Int} {w w' : World} (h : NoBed s r 2) (hb : Below w.heap.size w w') : AtRes s r w (.returned (.tuple #[nd 0 0, .int .i64 7])) w' := ⟨hb, Or.inr ⟨h.two, rfl⟩⟩

/-- The cell of the result: still as it was laid. -/
structure Lies (B : Nat) (w wr : World) : Prop where
  below : Below B w wr
  size : B < wr.heap.size
  c0 : wr.cell? ⟨B, 0, none⟩ = some (.int .u8 0)
  c1 : wr.cell? ⟨B, 1, none⟩ = some (.int .i64 0)
  f0 : wr.frozen? ⟨B, 0, none⟩ = false
  f1 : wr.frozen? ⟨B, 1, none⟩ = false

theorem Lies.alloc {B : Nat} {w wr : World} (h : Lies B w wr) (o : Obj) : Lies B w (wr.alloc o) where
  below := h.below.alloc (Nat.le_of_lt h.size) o
  size := by simp; exact Nat.lt_succ_of_lt h.size
  c0 := (World.cell?_alloc_past o B 0 h.size).trans h.c0
  c1 := (World.cell?_alloc_past o B 1 h.size).trans h.c1
  f0 := (World.frozen?_alloc_past o B 0 h.size).trans h.f0
  f1 := (World.frozen?_alloc_past o B 1 h.size).trans h.f1

set_option maxHeartbeats 1000000 in
theorem at_run (s r : Int) (w : World) (h3 : -4 ≤ r) (h4 : r ≤ 4) : Calls Tryd.prog 13 #[.int .i64 s, .int .i64 r] w (AtRes s r w) := by
  have i0 : ∀ w, (Instr.index 44 (.agg #[.int .u8 0, .int .u8 1]) (.int .i64 0)).run Tryd.prog w = .ok (.int .u8 0) w := fun _ => by kernel_rfl
  have i1 : ∀ w, (Instr.index 44 (.agg #[.int .u8 0, .int .u8 1]) (.int .i64 1)).run Tryd.prog w = .ok (.int .u8 1) w := fun _ => by kernel_rfl
  go_enter Tryd.func13, Tryd.ntmps13
  go_wp2
  go_step3
  go_wp2_with (first | (go_at_call 20; refine (rack_yes r _ h3 h4).mono ?_; rintro e w1 ⟨rfl, rfl⟩))
  go_step3
  go_wp2
  go_loopg [16] 2 (fun g s16 wx => ∃ i : Int, i + g = 2 ∧ 0 ≤ i ∧ s16 = .int .i64 i ∧ NoBed s r i ∧ Lies w.heap.size w wx)
  case atStart => exact ⟨0, by omega, by omega, rfl, by intro b a h hb; rcases h.bed with rfl | rfl <;> omega, ⟨(Below.refl _ _).alloc (Nat.le_refl _) _, by simp, by simp [go_sem], by simp [go_sem], by simp, by simp⟩⟩
  case round =>
    obtain ⟨i, hig, hi0, rfl, hno, hl⟩ := hrel
    cases gk with
    | zero =>
      obtain rfl : i = 2 := by omega
      have c0 := hl.c0; have c1 := hl.c1; have f0 := hl.f0; have f1 := hl.f1
      go_wp2
      refine bodyPost_ret (v := .tuple #[nd 0 0, .int .i64 7]) (by simp [results, Tryd.results13, go_sem, c0, c1]) rfl ?_
      exact at_none_of hno ((hl.below.setCell (Nat.le_refl _) _).setCell (Nat.le_refl _) _)
    | succ g =>
      have hi : i = 0 ∨ i = 1 := by omega
      rcases hi with rfl | rfl
      · go_wp2
        go_loopg [19] 40 (fun h s19 wx => ∃ k : Nat, k + h = 40 ∧ s19 = .int .i64 k ∧ NoUpto s r 0 k ∧ Lies w.heap.size w wx)
        case atStart => exact ⟨0, by omega, rfl, (fun a h1 h2 => by omega), hl⟩
        case round =>
          clear hl
          obtain ⟨k, hkh, rfl, hup, hl⟩ := hrel
          cases gk with
          | zero =>
            obtain rfl : k = 40 := by omega
            go_wp2
            go_roundg g
            case rel => exact ⟨1, by omega, by omega, rfl, hno.next hup, hl⟩
            case measure => omega
          | succ h =>
            have c0 := hl.c0; have c1 := hl.c1; have f0 := hl.f0; have f1 := hl.f1; have hz := hl.size
            have hz1 : w.heap.size < wr.heap.size + 1 := by omega
            have hz2 : w.heap.size < wr.heap.size + 1 + 1 := by omega
            have hk40 : k < 40 := by omega
            by_cases t1 : spotI 0 (k + 1) r = s
            · have t2 : (spotI 0 (k + 1) r == s) = true := by simpa using t1
              have ht := Lib.hid t1; clear t1
              go_wp2_with (go_at_call 11; refine (spot_ok 0 (k + 1) r _ ⟨by simp, by omega, by omega⟩ h3 h4).mono ?_; rintro e w1 ⟨rfl, rfl⟩)
              rw [Exit.noGoto_ret]
              refine bodyPost_ret (v := .tuple #[nd 0 (k + 1), .int .i64 0]) (by simp [results, Tryd.results13, go_sem, c0, c1, hz, hz1, hz2]) rfl ?_
              exact at_hit_of ⟨by simp, by omega, by omega⟩ ht.out (((((hl.below.setCell (Nat.le_refl _) _).setCell (Nat.le_refl _) _).alloc (by simp; omega) _).alloc (by simp; omega) _).alloc (by simp; omega) _)
            · have t2 : (spotI 0 (k + 1) r == s) = false := by simpa using t1
              by_cases t3 : s < spotI 0 (k + 1) r
              · have ht := Lib.hid (hup.all t3); clear t1
                go_wp2_with (go_at_call 11; refine (spot_ok 0 (k + 1) r _ ⟨by simp, by omega, by omega⟩ h3 h4).mono ?_; rintro e w1 ⟨rfl, rfl⟩)
                go_roundg g
                case rel => exact ⟨1, by omega, by omega, rfl, hno.next ht.out, ((hl.alloc _).alloc _).alloc _⟩
                case measure => omega
              · have ht := Lib.hid (hup.next t1); clear t1
                go_wp2_with (go_at_call 11; refine (spot_ok 0 (k + 1) r _ ⟨by simp, by omega, by omega⟩ h3 h4).mono ?_; rintro e w1 ⟨rfl, rfl⟩)
                go_roundg h
                case rel => exact ⟨k + 1, by omega, by go_num, ht.out, ((hl.alloc _).alloc _).alloc _⟩
                case measure => omega
      · go_wp2
        go_loopg [19] 40 (fun h s19 wx => ∃ k : Nat, k + h = 40 ∧ s19 = .int .i64 k ∧ NoUpto s r 1 k ∧ Lies w.heap.size w wx)
        case atStart => exact ⟨0, by omega, rfl, (fun a h1 h2 => by omega), hl⟩
        case round =>
          clear hl
          obtain ⟨k, hkh, rfl, hup, hl⟩ := hrel
          cases gk with
          | zero =>
            obtain rfl : k = 40 := by omega
            go_wp2
            go_roundg g
            case rel => exact ⟨2, by omega, by omega, rfl, hno.next hup, hl⟩
            case measure => omega
          | succ h =>
            have c0 := hl.c0; have c1 := hl.c1; have f0 := hl.f0; have f1 := hl.f1; have hz := hl.size
            have hz1 : w.heap.size < wr.heap.size + 1 := by omega
            have hz2 : w.heap.size < wr.heap.size + 1 + 1 := by omega
            have hk40 : k < 40 := by omega
            by_cases t1 : spotI 1 (k + 1) r = s
            · have t2 : (spotI 1 (k + 1) r == s) = true := by simpa using t1
              have ht := Lib.hid t1; clear t1
              go_wp2_with (go_at_call 11; refine (spot_ok 1 (k + 1) r _ ⟨by simp, by omega, by omega⟩ h3 h4).mono ?_; rintro e w1 ⟨rfl, rfl⟩)
              rw [Exit.noGoto_ret]
              refine bodyPost_ret (v := .tuple #[nd 1 (k + 1), .int .i64 0]) (by simp [results, Tryd.results13, go_sem, c0, c1, hz, hz1, hz2]) rfl ?_
              exact at_hit_of ⟨by simp, by omega, by omega⟩ ht.out (((((hl.below.setCell (Nat.le_refl _) _).setCell (Nat.le_refl _) _).alloc (by simp; omega) _).alloc (by simp; omega) _).alloc (by simp; omega) _)
            · have t2 : (spotI 1 (k + 1) r == s) = false := by simpa using t1
              by_cases t3 : s < spotI 1 (k + 1) r
              · have ht := Lib.hid (hup.all t3); clear t1
                go_wp2_with (go_at_call 11; refine (spot_ok 1 (k + 1) r _ ⟨by simp, by omega, by omega⟩ h3 h4).mono ?_; rintro e w1 ⟨rfl, rfl⟩)
                go_roundg g
                case rel => exact ⟨2, by omega, by omega, rfl, hno.next ht.out, ((hl.alloc _).alloc _).alloc _⟩
                case measure => omega
              · have ht := Lib.hid (hup.next t1); clear t1
                go_wp2_with (go_at_call 11; refine (spot_ok 1 (k + 1) r _ ⟨by simp, by omega, by omega⟩ h3 h4).mono ?_; rintro e w1 ⟨rfl, rfl⟩)
                go_roundg h
                case rel => exact ⟨k + 1, by omega, by go_num, ht.out, ((hl.alloc _).alloc _).alloc _⟩
                case measure => omega

/-! The two answers of At. -/
theorem spot_inj {b a b' a' r : Int} (h : Ok b a) (h' : Ok b' a') (e : spotI b a r = spotI b' a' r) : b = b' ∧ a = a' := by
  unfold spotI at e
  rcases h.bed with rfl | rfl <;> rcases h'.bed with rfl | rfl <;> simp at e <;> omega
theorem at_hit (s b a r : Int) (w : World) (h : Ok b a) (h3 : -4 ≤ r) (h4 : r ≤ 4) (hs : spotI b a r = s) : Calls Tryd.prog 13 #[.int .i64 s, .int .i64 r] w fun e w' => e = .returned (.tuple #[nd b a, .int .i64 0]) ∧ Below w.heap.size w w' := by
  refine (at_run s r w h3 h4).mono fun e w' hres => ?_
  obtain ⟨hb, ⟨b', a', hok, hs', rfl⟩ | ⟨hno, _⟩⟩ := hres
  · obtain ⟨rfl, rfl⟩ := spot_inj h hok (hs.trans hs'.symm)
    exact ⟨rfl, hb⟩
  · exact absurd hs (hno b a h)
theorem at_none (s r : Int) (w : World) (h3 : -4 ≤ r) (h4 : r ≤ 4) (hs : ∀ b a, Ok b a → spotI b a r ≠ s) : Calls Tryd.prog 13 #[.int .i64 s, .int .i64 r] w fun e w' => e = .returned (.tuple #[nd 0 0, .int .i64 7]) ∧ Below w.heap.size w w' := by
  refine (at_run s r w h3 h4).mono fun e w' hres => ?_
  obtain ⟨hb, ⟨b', a', hok, hs', rfl⟩ | ⟨hno, rfl⟩⟩ := hres
  · exact absurd hs' (hs b' a' hok)
  · exact ⟨rfl, hb⟩
end Go.Proofs.YtofgnfnngljilaaDoor
