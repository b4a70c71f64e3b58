/- What loops and regions of the laws keep: two needles lie in blocks of the call's own, the library's sentinels hold, old memory is untouched. -/
import Derived.Test.YtofgnfnngljilaaDoorLives
namespace Go.Proofs.YtofgnfnngljilaaDoor
open Go.RowKit

/-- What a region with calls keeps: two needles lie, the sentinels hold, old memory is untouched. -/
structure Keep2 (w0 : World) (B b a B' b' a' : _) (w : World) : Prop where
  x : Box w B b a
  y : Box w B' b' a'
  v : Vars w
  z : Below w0.heap.size w0 w
  le : w0.heap.size ≤ w.heap.size
theorem Keep2.to {w0 w w1 : World} {B b a B' b' a'} (h : Keep2 w0 B b a B' b' a' w) (hb : Below w.heap.size w w1) : Keep2 w0 B b a B' b' a' w1 :=
  ⟨h.x.to hb, h.y.to hb, h.v.below hb, h.z.trans (hb.mono h.le), Nat.le_trans h.le hb.size⟩
theorem Keep2.drew {w0 w : World} {B b a B' b' a'} (h : Keep2 w0 B b a B' b' a' w) : Keep2 w0 B b a B' b' a' w.drew := h.to (Below.drew (Below.refl _ _))
theorem Keep2.all {w0 w : World} {B b a B' b' a'} (h : Keep2 w0 B b a B' b' a' w) :
    w.cell? ⟨B, 0, none⟩ = some (.int .u8 b) ∧ w.cell? ⟨B, 1, none⟩ = some (.int .i64 a) ∧ w.cell? ⟨B', 0, none⟩ = some (.int .u8 b') ∧ w.cell? ⟨B', 1, none⟩ = some (.int .i64 a') ∧ Keep2 w0 B b a B' b' a' w :=
  ⟨h.x.c0, h.x.c1, h.y.c0, h.y.c1, h⟩

/-- The same, out of the conjunction that a region carries. -/
theorem Keep2.allto {w0 w w1 : World} {B b a B' b' a'} (h : w.cell? ⟨B, 0, none⟩ = some (.int .u8 b) ∧ w.cell? ⟨B, 1, none⟩ = some (.int .i64 a) ∧ w.cell? ⟨B', 0, none⟩ = some (.int .u8 b') ∧ w.cell? ⟨B', 1, none⟩ = some (.int .i64 a') ∧ Keep2 w0 B b a B' b' a' w)
    (hb : Below w.heap.size w w1) :
    w1.cell? ⟨B, 0, none⟩ = some (.int .u8 b) ∧ w1.cell? ⟨B, 1, none⟩ = some (.int .i64 a) ∧ w1.cell? ⟨B', 0, none⟩ = some (.int .u8 b') ∧ w1.cell? ⟨B', 1, none⟩ = some (.int .i64 a') ∧ Keep2 w0 B b a B' b' a' w1 := (h.2.2.2.2.to hb).all
theorem Keep2.allv {w0 w : World} {B b a B' b' a'} (h : w.cell? ⟨B, 0, none⟩ = some (.int .u8 b) ∧ w.cell? ⟨B, 1, none⟩ = some (.int .i64 a) ∧ w.cell? ⟨B', 0, none⟩ = some (.int .u8 b') ∧ w.cell? ⟨B', 1, none⟩ = some (.int .i64 a') ∧ Keep2 w0 B b a B' b' a' w) : Vars w := h.2.2.2.2.v
theorem Keep2.allz {w0 w : World} {B b a B' b' a'} (h : w.cell? ⟨B, 0, none⟩ = some (.int .u8 b) ∧ w.cell? ⟨B, 1, none⟩ = some (.int .i64 a) ∧ w.cell? ⟨B', 0, none⟩ = some (.int .u8 b') ∧ w.cell? ⟨B', 1, none⟩ = some (.int .i64 a') ∧ Keep2 w0 B b a B' b' a' w) : Below w0.heap.size w0 w := h.2.2.2.2.z
theorem Keep2.start (w : World) (b a b' a' : Int) (n : Nat) (hV : Vars w) : Keep2 w (w.heap.size + 1 + 1) b a (w.heap.size + 1 + 1 + 1) b' a' (((((w.alloc (nbox b a)).alloc (nbox b' a')).alloc (nbox b a)).alloc (nbox b' a')).drewN n) := by
  have hb : Below w.heap.size w (((((w.alloc (nbox b a)).alloc (nbox b' a')).alloc (nbox b a)).alloc (nbox b' a')).drewN n) :=
    below_drewN (((((Below.refl _ _).alloc (by simp) _).alloc (by simp) _).alloc (by simp <;> omega) _).alloc (by simp <;> omega) _) n
  have x := ((Box.new ((w.alloc (nbox b a)).alloc (nbox b' a')) b a).alloc (nbox b' a')).to (below_drewN (Below.refl _ _) n)
  have y := (Box.new (((w.alloc (nbox b a)).alloc (nbox b' a')).alloc (nbox b a)) b' a').to (below_drewN (Below.refl _ _) n)
  exact ⟨by simpa using x, by simpa using y, hV.below hb, hb, hb.size⟩
theorem Keep2.alloc {w0 w : World} {B b a B' b' a'} (h : Keep2 w0 B b a B' b' a' w) (o : Obj) : Keep2 w0 B b a B' b' a' (w.alloc o) := h.to ((Below.refl _ _).alloc (Nat.le_refl _) o)
theorem Keep2.setY {w0 w : World} {B b a B' b' a'} (h : Keep2 w0 B b a B' b' a' w) (hV : Vars w0) (hne : B' ≠ B) (hB : w0.heap.size ≤ B') (b2 a2 : Int) :
    Keep2 w0 B b a B' b2 a2 ((w.setCell ⟨B', 0, none⟩ (.int .u8 b2)).setCell ⟨B', 1, none⟩ (.int .i64 a2)) := by
  have z := (h.z.setCell (p := ⟨B', 0, none⟩) hB (.int .u8 b2)).setCell (p := ⟨B', 1, none⟩) hB (.int .i64 a2)
  exact ⟨(h.x.other hne 0 _).other hne 1 _, h.y.set b2 a2, hV.below z, z, z.size⟩

/-! The callees' contracts, of the world only what they leave. -/
theorem below_alloc' (w : World) (o : Obj) : Below w.heap.size w (w.alloc o) := (Below.refl _ _).alloc (Nat.le_refl _) _
theorem valid_ok_b (b a : Int) (w : World) (h : Ok b a) : Calls Tryd.prog 9 #[nd b a] w fun e w' => e = .returned (.int .i64 1) ∧ Below w.heap.size w w' := (valid_ok b a w h).mono fun _ _ ⟨he, hw⟩ => ⟨he, by subst hw; exact (Below.refl _ _).alloc (Nat.le_refl _) _⟩
theorem valid_no_b (b a : Int) (w : World) (h0 : 0 ≤ b) (h : ¬ Ok b a) : Calls Tryd.prog 9 #[nd b a] w fun e w' => e = .returned (.int .i64 0) ∧ Below w.heap.size w w' := (valid_no b a w h0 h).mono fun _ _ ⟨he, hw⟩ => ⟨he, by subst hw; exact (Below.refl _ _).alloc (Nat.le_refl _) _⟩
theorem check_ok_b (b a : Int) (w : World) (h : Ok b a) : Calls Tryd.prog 10 #[nd b a] w fun e w' => e = .returned (.int .i64 0) ∧ Below w.heap.size w w' := (check_ok b a w h).mono fun _ _ ⟨he, hw⟩ => ⟨he, by subst hw; exact (Below.refl _ _).alloc (Nat.le_refl _) _⟩
theorem check_no_b (b a : Int) (w : World) (h : ¬ Ok b a) : Calls Tryd.prog 10 #[nd b a] w fun e w' => e = .returned (.int .i64 1) ∧ Below w.heap.size w w' := (check_no b a w h).mono fun _ _ ⟨he, hw⟩ => ⟨he, by subst hw; exact (Below.refl _ _).alloc (Nat.le_refl _) _⟩
theorem spot_bad_b (b a r : Int) (w : World) (h : ¬ Ok b a) : Calls Tryd.prog 11 #[nd b a, .int .i64 r] w fun e w' => e = .returned (.int .i64 0) ∧ Below w.heap.size w w' := (spot_bad b a r w h).mono fun _ _ ⟨he, hw⟩ => ⟨he, below_spot hw⟩
theorem spot_rack_b (b a r : Int) (w : World) (h : Ok b a) (hr : r < -4 ∨ 4 < r) : Calls Tryd.prog 11 #[nd b a, .int .i64 r] w fun e w' => e = .returned (.int .i64 0) ∧ Below w.heap.size w w' := (spot_rack b a r w h hr).mono fun _ _ ⟨he, hw⟩ => ⟨he, below_spot hw⟩
theorem lspot_b (b a r : Int) (w : World) (h : Ok b a) (h3 : -4 ≤ r) (h4 : r ≤ 4) : Calls Tryd.prog 14 #[nd b a, .int .i64 r] w fun e w' => e = .returned (.int .i64 (spotI b a r)) ∧ Below w.heap.size w w' := (lspot b a r w h h3 h4).mono fun _ _ ⟨he, hw⟩ => ⟨he, by subst hw; exact (Below.refl _ _).alloc (Nat.le_refl _) _⟩
end Go.Proofs.YtofgnfnngljilaaDoor
