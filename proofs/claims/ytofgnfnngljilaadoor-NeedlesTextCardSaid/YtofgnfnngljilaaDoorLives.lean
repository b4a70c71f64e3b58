/- The law's examples hold: lives returns true, wherever the library's two sentinels hold some error each. -/
import Derived.Test.YtofgnfnngljilaaDoorTxt
namespace Go.Proofs.YtofgnfnngljilaaDoor
open Go.RowKit

/-- A needle lies in a block. -/
structure Box (w : World) (B : Nat) (b a : Int) : Prop where
  size : B < w.heap.size
  c0 : w.cell? ⟨B, 0, none⟩ = some (.int .u8 b)
  c1 : w.cell? ⟨B, 1, none⟩ = some (.int .i64 a)
  f0 : w.frozen? ⟨B, 0, none⟩ = false
  f1 : w.frozen? ⟨B, 1, none⟩ = false
theorem Box.new (w : World) (b a : Int) : Box (w.alloc (nbox b a)) w.heap.size b a where
  size := by simp
  c0 := by simp
  c1 := by simp
  f0 := by simp
  f1 := by simp
theorem Box.alloc {w : World} {B : Nat} {b a : Int} (h : Box w B b a) (o : Obj) : Box (w.alloc o) B b a where
  size := by simp; exact Nat.lt_succ_of_lt h.size
  c0 := (World.cell?_alloc_past o B 0 h.size).trans h.c0
  c1 := (World.cell?_alloc_past o B 1 h.size).trans h.c1
  f0 := (World.frozen?_alloc_past o B 0 h.size).trans h.f0
  f1 := (World.frozen?_alloc_past o B 1 h.size).trans h.f1
theorem Box.to {w w1 : World} {B : Nat} {b a : Int} (h : Box w B b a) (hb : Below w.heap.size w w1) : Box w1 B b a where
  size := Nat.lt_of_lt_of_le h.size hb.size
  c0 := (hb.cell (p := ⟨B, 0, none⟩) h.size).trans h.c0
  c1 := (hb.cell (p := ⟨B, 1, none⟩) h.size).trans h.c1
  f0 := (hb.frozen (p := ⟨B, 0, none⟩) h.size).trans h.f0
  f1 := (hb.frozen (p := ⟨B, 1, none⟩) h.size).trans h.f1

theorem Box.set {w : World} {B : Nat} {b a : Int} (h : Box w B b a) (b' a' : Int) : Box ((w.setCell ⟨B, 0, none⟩ (.int .u8 b')).setCell ⟨B, 1, none⟩ (.int .i64 a')) B b' a' := by
  have h1 : (w.setCell ⟨B, 0, none⟩ (.int .u8 b')).cell? ⟨B, 1, none⟩ = some (.int .i64 a) := (World.cell?_setCell_other _ _ _ _ (by simp)).trans h.c1
  exact ⟨by simpa [World.setCell] using h.size,
    (World.cell?_setCell_other _ _ _ _ (by simp)).trans (World.cell?_setCell_same _ _ _ h.c0), World.cell?_setCell_same _ _ _ h1,
    by simpa using h.f0, by simpa using h.f1⟩
theorem Box.other {w : World} {B B' : Nat} {b a : Int} (h : Box w B b a) (hne : B' ≠ B) (o : Nat) (v : Value) : Box (w.setCell ⟨B', o, none⟩ v) B b a := by
  refine ⟨by simpa [World.setCell] using h.size, (World.cell?_setCell_other _ _ _ _ ?_).trans h.c0, (World.cell?_setCell_other _ _ _ _ ?_).trans h.c1, by simpa using h.f0, by simpa using h.f1⟩
  all_goals (intro e; injection e with e1 e2; exact hne e1)
theorem below_spot {w w' : World} {b a : Int} (h : w' = (w.alloc (nbox b a)).alloc (nbox b a)) : Below w.heap.size w w' := by
  subst h; exact ((Below.refl _ _).alloc (Nat.le_refl _) _).alloc (by simp) _
theorem spot_b (b a r : Int) (w : World) (h : Ok b a) (h3 : -4 ≤ r) (h4 : r ≤ 4) : Calls Tryd.prog 11 #[nd b a, .int .i64 r] w fun e w' => e = .returned (.int .i64 (spotI b a r)) ∧ Below w.heap.size w w' :=
  (spot_ok b a r w h h3 h4).mono fun _ _ ⟨he, hw⟩ => ⟨he, below_spot hw⟩
theorem opp0 (a r : Int) (w : World) (h : Ok 0 a) (h3 : -4 ≤ r) (h4 : r ≤ 4) (hf : Ok 1 (a - r)) : Calls Tryd.prog 16 #[nd 0 a, .int .i64 r] w fun e w' => e = .returned (.tuple #[nd 1 (a - r), .int .i64 0]) ∧ Below w.heap.size w w' := opp_ok0 a r w h h3 h4 hf
theorem no_4_3 : ∀ b a, Ok b a → spotI b a 3 ≠ 4 := by
  intro b a h
  have h1 := h.lo
  unfold spotI
  rcases h.bed with rfl | rfl <;> simp <;> omega

theorem opp_a (w : World) : Calls Tryd.prog 16 #[nd 0 4, .int .i64 3] w fun e w' => e = .returned (.tuple #[nd 1 1, .int .i64 0]) ∧ Below w.heap.size w w' := opp_ok0 4 3 w ⟨by simp, by omega, by omega⟩ (by omega) (by omega) ⟨by simp, by omega, by omega⟩
theorem opp_b (w : World) : Calls Tryd.prog 16 #[nd 1 40, .int .i64 0] w fun e w' => e = .returned (.tuple #[nd 0 40, .int .i64 0]) ∧ Below w.heap.size w w' := opp_ok1 40 0 w ⟨by simp, by omega, by omega⟩ (by omega) (by omega) ⟨by simp, by omega, by omega⟩
theorem opp_c (w : World) : Calls Tryd.prog 16 #[nd 1 40, .int .i64 1] w fun e w' => e = .returned (.tuple #[nd 0 0, .int .i64 11]) ∧ Below w.heap.size w w' := opp_far1 40 1 w ⟨by simp, by omega, by omega⟩ (by omega) (by omega) (fun h => by have := h.hi; omega)
theorem no_f0 : ∀ b, ∀ k : Nat, Ok b k → (⟨#[102, 48]⟩ : ByteArray).data.toList ≠ txt b k := by
  intro b k h e
  have h1 := h.lo; have h2 := h.hi
  have hd : ∀ k : Fin 41, 1 ≤ k.val → digs k.val ≠ [48] := by decide +kernel
  unfold txt at e
  injection e with e1 e2
  exact hd ⟨k, by omega⟩ (by simp; omega) e2.symm
theorem no_f07 : ∀ b, ∀ k : Nat, Ok b k → (⟨#[102, 48, 55]⟩ : ByteArray).data.toList ≠ txt b k := by
  intro b k h e
  have h1 := h.lo; have h2 := h.hi
  have hd : ∀ k : Fin 41, 1 ≤ k.val → digs k.val ≠ [48, 55] := by decide +kernel
  unfold txt at e
  injection e with e1 e2
  exact hd ⟨k, by omega⟩ (by simp; omega) e2.symm

set_option maxHeartbeats 2000000 in
set_option maxRecDepth 100000 in
theorem lives_true (w : World) (hV : Vars w) : Calls Tryd.prog 12 #[] w fun e w' => e = .returned (.bool true) ∧ Below w.heap.size w w' := by
  have HV := Lib.hid hV; clear hV
  go_enter Tryd.func12, Tryd.ntmps12
  go_wp2_with fail
  refine (at_hit 6 0 1 3 _ ⟨by simp, by omega, by omega⟩ (by omega) (by omega) (by decide)).mono ?_
  rintro e w1 ⟨rfl, b1⟩
  have x1 := ((Box.new w 0 1).alloc (nbox 1 1)).to b1
  have y1 : Box w1 (w.heap.size + 1) 1 1 := by have h := (Box.new (w.alloc (nbox 0 1)) 1 1).to b1; simpa using h
  have z1 : Below w.heap.size w w1 := (((Below.refl _ _).alloc (Nat.le_refl _) _).alloc (by simp) _).trans (b1.mono (by simp <;> omega))
  clear b1
  go_wp2_with fail
  refine (at_hit 16 1 1 3 _ ⟨by simp, by omega, by omega⟩ (by omega) (by omega) (by decide)).mono ?_
  rintro e w2 ⟨rfl, b2⟩
  have x2 := (x1.alloc (nbox 0 1)).to b2
  have y2 := (y1.alloc (nbox 0 1)).to b2
  have a2 := (Box.new w1 0 1).to b2
  have z2 : Below w.heap.size w w2 := (z1.alloc z1.size _).trans (b2.mono (by have := z1.size; simp <;> omega))
  clear b2
  go_wp2_with fail
  refine (at_none 4 3 _ (by omega) (by omega) no_4_3).mono ?_
  rintro e w3 ⟨rfl, b3⟩
  have x3 := (x2.alloc (nbox 1 1)).to b3
  have y3 := (y2.alloc (nbox 1 1)).to b3
  have a3 := (a2.alloc (nbox 1 1)).to b3
  have d3 := (Box.new w2 1 1).to b3
  have z3 : Below w.heap.size w w3 := (z2.alloc z2.size _).trans (b3.mono (by have := z2.size; simp <;> omega))
  clear b3
  have x3c0 := x3.c0; have x3c1 := x3.c1; have x3f0 := x3.f0; have x3f1 := x3.f1; have x3s := x3.size; have x3t := Nat.lt_succ_of_lt x3.size
  have y3c0 := y3.c0; have y3c1 := y3.c1; have y3f0 := y3.f0; have y3f1 := y3.f1; have y3s := y3.size; have y3t := Nat.lt_succ_of_lt y3.size
  have a3c0 := a3.c0; have a3c1 := a3.c1; have a3f0 := a3.f0; have a3f1 := a3.f1; have a3s := a3.size; have a3t := Nat.lt_succ_of_lt a3.size
  have d3c0 := d3.c0; have d3c1 := d3.c1; have d3f0 := d3.f0; have d3f1 := d3.f1; have d3s := d3.size; have d3t := Nat.lt_succ_of_lt d3.size
  go_wp2_with fail
  clear x3c0 x3c1 x3f0 x3f1 x3s x3t y3c0 y3c1 y3f0 y3f1 y3s y3t a3c0 a3c1 a3f0 a3f1 a3s a3t d3c0 d3c1 d3f0 d3f1 d3s d3t
  refine (spot_b 0 1 0 _ ⟨by simp, by omega, by omega⟩ (by omega) (by omega)).mono ?_
  rintro e w4 ⟨rfl, b4⟩
  have x4 := (x3.alloc (nbox 0 0)).to b4
  have y4 := (y3.alloc (nbox 0 0)).to b4
  have a4 := (a3.alloc (nbox 0 0)).to b4
  have d4 := (d3.alloc (nbox 0 0)).to b4
  have z4 : Below w.heap.size w w4 := (z3.alloc z3.size _).trans (b4.mono (by have := z3.size; simp <;> omega))
  clear b4
  rw [show spotI 0 1 0 = 6 from by decide]
  have x4c0 := x4.c0; have x4c1 := x4.c1; have x4f0 := x4.f0; have x4f1 := x4.f1; have x4s := x4.size; have x4t := Nat.lt_succ_of_lt x4.size
  have y4c0 := y4.c0; have y4c1 := y4.c1; have y4f0 := y4.f0; have y4f1 := y4.f1; have y4s := y4.size; have y4t := Nat.lt_succ_of_lt y4.size
  have a4c0 := a4.c0; have a4c1 := a4.c1; have a4f0 := a4.f0; have a4f1 := a4.f1; have a4s := a4.size; have a4t := Nat.lt_succ_of_lt a4.size
  have d4c0 := d4.c0; have d4c1 := d4.c1; have d4f0 := d4.f0; have d4f1 := d4.f1; have d4s := d4.size; have d4t := Nat.lt_succ_of_lt d4.size
  go_wp2_with fail
  clear x4c0 x4c1 x4f0 x4f1 x4s x4t y4c0 y4c1 y4f0 y4f1 y4s y4t a4c0 a4c1 a4f0 a4f1 a4s a4t d4c0 d4c1 d4f0 d4f1 d4s d4t
  refine (spot_b 1 1 0 _ ⟨by simp, by omega, by omega⟩ (by omega) (by omega)).mono ?_
  rintro e w5 ⟨rfl, b5⟩
  have x5 := x4.to b5
  have y5 := y4.to b5
  have a5 := a4.to b5
  have d5 := d4.to b5
  have z5 : Below w.heap.size w w5 := z4.trans (b5.mono z4.size)
  clear b5
  rw [show spotI 1 1 0 = 4 from by decide]
  have x5c0 := x5.c0; have x5c1 := x5.c1; have x5f0 := x5.f0; have x5f1 := x5.f1; have x5s := x5.size; have x5t := Nat.lt_succ_of_lt x5.size
  have y5c0 := y5.c0; have y5c1 := y5.c1; have y5f0 := y5.f0; have y5f1 := y5.f1; have y5s := y5.size; have y5t := Nat.lt_succ_of_lt y5.size
  have a5c0 := a5.c0; have a5c1 := a5.c1; have a5f0 := a5.f0; have a5f1 := a5.f1; have a5s := a5.size; have a5t := Nat.lt_succ_of_lt a5.size
  have d5c0 := d5.c0; have d5c1 := d5.c1; have d5f0 := d5.f0; have d5f1 := d5.f1; have d5s := d5.size; have d5t := Nat.lt_succ_of_lt d5.size
  go_wp2_with fail
  clear x5c0 x5c1 x5f0 x5f1 x5s x5t y5c0 y5c1 y5f0 y5f1 y5s y5t a5c0 a5c1 a5f0 a5f1 a5s a5t d5c0 d5c1 d5f0 d5f1 d5s d5t
  refine (spot_b 1 40 0 _ ⟨by simp, by omega, by omega⟩ (by omega) (by omega)).mono ?_
  rintro e w6 ⟨rfl, b6⟩
  have x6 := x5.to b6
  have y6 := y5.to b6
  have a6 := a5.to b6
  have d6 := d5.to b6
  have z6 : Below w.heap.size w w6 := z5.trans (b6.mono z5.size)
  clear b6
  rw [show spotI 1 40 0 = 160 from by decide]
  have x6c0 := x6.c0; have x6c1 := x6.c1; have x6f0 := x6.f0; have x6f1 := x6.f1; have x6s := x6.size; have x6t := Nat.lt_succ_of_lt x6.size
  have y6c0 := y6.c0; have y6c1 := y6.c1; have y6f0 := y6.f0; have y6f1 := y6.f1; have y6s := y6.size; have y6t := Nat.lt_succ_of_lt y6.size
  have a6c0 := a6.c0; have a6c1 := a6.c1; have a6f0 := a6.f0; have a6f1 := a6.f1; have a6s := a6.size; have a6t := Nat.lt_succ_of_lt a6.size
  have d6c0 := d6.c0; have d6c1 := d6.c1; have d6f0 := d6.f0; have d6f1 := d6.f1; have d6s := d6.size; have d6t := Nat.lt_succ_of_lt d6.size
  go_wp2_with fail
  clear x6c0 x6c1 x6f0 x6f1 x6s x6t y6c0 y6c1 y6f0 y6f1 y6s y6t a6c0 a6c1 a6f0 a6f1 a6s a6t d6c0 d6c1 d6f0 d6f1 d6s d6t
  refine (spot_b 1 1 (-4) _ ⟨by simp, by omega, by omega⟩ (by omega) (by omega)).mono ?_
  rintro e w7 ⟨rfl, b7⟩
  have x7 := x6.to b7
  have y7 := y6.to b7
  have a7 := a6.to b7
  have d7 := d6.to b7
  have z7 : Below w.heap.size w w7 := z6.trans (b7.mono z6.size)
  clear b7
  rw [show spotI 1 1 (-4) = -12 from by decide]
  have x7c0 := x7.c0; have x7c1 := x7.c1; have x7f0 := x7.f0; have x7f1 := x7.f1; have x7s := x7.size; have x7t := Nat.lt_succ_of_lt x7.size
  have y7c0 := y7.c0; have y7c1 := y7.c1; have y7f0 := y7.f0; have y7f1 := y7.f1; have y7s := y7.size; have y7t := Nat.lt_succ_of_lt y7.size
  have a7c0 := a7.c0; have a7c1 := a7.c1; have a7f0 := a7.f0; have a7f1 := a7.f1; have a7s := a7.size; have a7t := Nat.lt_succ_of_lt a7.size
  have d7c0 := d7.c0; have d7c1 := d7.c1; have d7f0 := d7.f0; have d7f1 := d7.f1; have d7s := d7.size; have d7t := Nat.lt_succ_of_lt d7.size
  go_wp2_with fail
  clear x7c0 x7c1 x7f0 x7f1 x7s x7t y7c0 y7c1 y7f0 y7f1 y7s y7t a7c0 a7c1 a7f0 a7f1 a7s a7t d7c0 d7c1 d7f0 d7f1 d7s d7t
  refine (opp_a _).mono ?_
  rintro e w8 ⟨rfl, b8⟩
  have y8 := y7.to b8
  have a8 := a7.to b8
  have d8 := d7.to b8
  have z8 : Below w.heap.size w w8 := z7.trans (b8.mono z7.size)
  have n1 : w1.heap.size ≠ w.heap.size + 1 := by have := y1.size; omega
  have n2 : w1.heap.size ≠ w2.heap.size := by have := a2.size; omega
  have n3 : w2.heap.size ≠ w.heap.size + 1 := by have := y2.size; omega
  clear b8 x1 x2 x3 x4 x5 x6 x7 y2 y3 y4 y5 y6 y7 a3 a4 a5 a6 a7 d3 d4 d5 d6 d7 z3 z4 z5 z6 z7
  have y9 := (y8.other n1 0 (.int .u8 1)).other n1 1 (.int .i64 1)
  have d9 := (d8.other n2 0 (.int .u8 1)).other n2 1 (.int .i64 1)
  have a9 := a8.set 1 1
  have z9 := (z8.setCell (p := ⟨w1.heap.size, 0, none⟩) z1.size (.int .u8 1)).setCell (p := ⟨w1.heap.size, 1, none⟩) z1.size (.int .i64 1)
  have a8c0 := a8.c0; have a8c1 := a8.c1; have a8f0 := a8.f0; have a8f1 := a8.f1; have a8s := a8.size
  go_wp2_with fail
  clear a8c0 a8c1 a8f0 a8f1 a8s a8 d8 y8 z8
  refine (opp_b _).mono ?_
  rintro e w9 ⟨rfl, b9⟩
  have y10 := y9.to b9
  have a10 := a9.to b9
  have d10 := d9.to b9
  have z10 : Below w.heap.size w w9 := z9.trans (b9.mono z9.size)
  have n4 : w2.heap.size ≠ w1.heap.size := fun e => n2 e.symm
  clear b9 y9 a9 d9 z9
  have y11 := (y10.other n3 0 (.int .u8 0)).other n3 1 (.int .i64 40)
  have a11 := (a10.other n4 0 (.int .u8 0)).other n4 1 (.int .i64 40)
  have d11 := d10.set 0 40
  have z11 := (z10.setCell (p := ⟨w2.heap.size, 0, none⟩) z2.size (.int .u8 0)).setCell (p := ⟨w2.heap.size, 1, none⟩) z2.size (.int .i64 40)
  have d8c0 := d10.c0; have d8c1 := d10.c1; have d8f0 := d10.f0; have d8f1 := d10.f1; have d8s := d10.size
  go_wp2_with fail
  clear d8c0 d8c1 d8f0 d8f1 d8s a10 d10 y10 z10
  refine (opp_c _).mono ?_
  rintro e w10 ⟨rfl, b10⟩
  have y12 := y11.to b10
  have a12 := a11.to b10
  have d12 := d11.to b10
  have z12 : Below w.heap.size w w10 := z11.trans (b10.mono z11.size)
  clear b10 y11 a11 d11 z11
  go_wp2_with fail
  refine (parse_hit ⟨#[98, 51]⟩ 1 3 _ (HV.out.below z12) (by decide) ⟨by simp, by omega, by omega⟩ (by decide)).mono ?_
  rintro e w11 ⟨rfl, b11⟩
  have y13 := y12.to b11
  have a13 := a12.to b11
  have d13 := d12.to b11
  have z13 : Below w.heap.size w w11 := z12.trans (b11.mono z12.size)
  clear b11 y12 a12 d12 z12
  go_wp2_with fail
  refine (parse_none ⟨#[102, 48]⟩ _ (HV.out.below (z13.alloc z13.size _)) (by decide) no_f0).mono ?_
  rintro e w12 ⟨rfl, b12⟩
  have y14 := (y13.alloc (nbox 1 3)).to b12
  have a14 := (a13.alloc (nbox 1 3)).to b12
  have d14 := (d13.alloc (nbox 1 3)).to b12
  have c14 := (Box.new w11 1 3).to b12
  have z14 : Below w.heap.size w w12 := (z13.alloc z13.size _).trans (b12.mono (by have := z13.size; simp <;> omega))
  clear b12 y13 a13 d13
  go_wp2_with fail
  refine (parse_none ⟨#[102, 48, 55]⟩ _ (HV.out.below (z14.alloc z14.size _)) (by decide) no_f07).mono ?_
  rintro e w13 ⟨rfl, b13⟩
  have y15 := (y14.alloc (nbox 0 0)).to b13
  have a15 := (a14.alloc (nbox 0 0)).to b13
  have d15 := (d14.alloc (nbox 0 0)).to b13
  have c15 := (c14.alloc (nbox 0 0)).to b13
  have z15 : Below w.heap.size w w13 := (z14.alloc z14.size _).trans (b13.mono (by have := z14.size; simp <;> omega))
  clear b13 y14 a14 d14 c14
  have y15c0 := y15.c0; have y15c1 := y15.c1; have y15f0 := y15.f0; have y15f1 := y15.f1; have y15s := y15.size; have y15t := Nat.lt_succ_of_lt y15.size
  have a15c0 := a15.c0; have a15c1 := a15.c1; have a15f0 := a15.f0; have a15f1 := a15.f1; have a15s := a15.size; have a15t := Nat.lt_succ_of_lt a15.size
  have d15c0 := d15.c0; have d15c1 := d15.c1; have d15f0 := d15.f0; have d15f1 := d15.f1; have d15s := d15.size; have d15t := Nat.lt_succ_of_lt d15.size
  have c15c0 := c15.c0; have c15c1 := c15.c1; have c15f0 := c15.f0; have c15f1 := c15.f1; have c15s := c15.size; have c15t := Nat.lt_succ_of_lt c15.size
  go_wp2_with fail
  clear y15c0 y15c1 y15f0 y15f1 y15s y15t a15c0 a15c1 a15f0 a15f1 a15s a15t d15c0 d15c1 d15f0 d15f1 d15s d15t c15c0 c15c1 c15f0 c15f1 c15s c15t
  refine (text_ok 0 12 _ ⟨by simp, by omega, by omega⟩).mono ?_
  rintro e w14 ⟨rfl, b14⟩
  rw [show txt 0 12 = [102, 49, 50] from by decide]
  have y16 := (y15.alloc (nbox 0 0)).to b14
  have a16 := (a15.alloc (nbox 0 0)).to b14
  have d16 := (d15.alloc (nbox 0 0)).to b14
  have c16 := (c15.alloc (nbox 0 0)).to b14
  have z16 : Below w.heap.size w w14 := (z15.alloc z15.size _).trans (b14.mono (by have := z15.size; simp <;> omega))
  clear b14 y15 a15 d15 c15
  have c16c0 := c16.c0; have c16c1 := c16.c1; have c16f0 := c16.f0; have c16f1 := c16.f1; have c16s := c16.size; have c16t := Nat.lt_succ_of_lt c16.size
  go_wp2
  go_ret
  exact ⟨rfl, z16⟩
end Go.Proofs.YtofgnfnngljilaaDoor
