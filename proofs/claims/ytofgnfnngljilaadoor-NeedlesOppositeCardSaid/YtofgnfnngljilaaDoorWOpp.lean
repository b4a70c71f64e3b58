/- NeedlesOpposite: the law returns true for any needle and any rack. -/
import Derived.Test.YtofgnfnngljilaaDoorKeep
import Derived.Deep.RegionHeld3
import Derived.RegionTactic
import Derived.OpenShut
import Derived.IntWalk
namespace Go.Proofs.YtofgnfnngljilaaDoor
open Go.RowKit

theorem needle_at (i b a : Int) (w : World) (h0 : 0 ≤ i) (h1 : i ≤ 255) (hb : bedOf i = b) (ha : atOf i = a) : Calls Tryd.prog 15 #[.int .u8 i] w fun e w' => e = .returned (nd b a) ∧ Below w.heap.size w w' := by
  subst hb ha; exact (needle_any i w h0 h1).mono fun _ _ ⟨he, hw⟩ => ⟨he, by subst hw; exact below_alloc' _ _⟩
theorem front_k (k : Nat) (w : World) (hk : k < 40) : Calls Tryd.prog 15 #[.int .u8 k] w fun e w' => e = .returned (nd 0 ((k : Int) + 1)) ∧ Below w.heap.size w w' :=
  needle_at k 0 ((k : Int) + 1) w (by omega) (by omega) (by unfold bedOf; omega) (by unfold atOf; omega)
theorem back_k (k : Nat) (w : World) (hk : 40 ≤ k) (hk2 : k < 80) : Calls Tryd.prog 15 #[.int .u8 k] w fun e w' => e = .returned (nd 1 ((k : Int) - 39)) ∧ Below w.heap.size w w' :=
  needle_at k 1 ((k : Int) - 39) w (by omega) (by omega) (by unfold bedOf; omega) (by unfold atOf; omega)

set_option maxHeartbeats 1000000 in
theorem opp_law_bad (b a r : Int) (w : World) (hV : Vars w) (hb : 0 ≤ b) (ho : ¬ Ok b a) :
    Calls Tryd.prog 5 #[nd b a, .int .i64 r] w fun e w' => e = .returned (.bool true) ∧ Below w.heap.size w w' := by
  have HV := Lib.hid hV; clear hV
  have x0 := Box.new w b a
  have z0 := below_alloc' w (nbox b a)
  go_enter Tryd.func5, Tryd.ntmps5
  go_wp2_with fail
  refine (opp_bad b a r _ ho).mono ?_
  rintro e w1 ⟨rfl, b1⟩
  have x1 := (x0.to b1).alloc (nbox 0 0); have z1 := z0.trans (b1.mono (by simp)); have y1 := Box.new w1 0 0
  have z2 := z1.alloc z1.size (nbox 0 0)
  clear x0 z0 b1 z1
  have c0 := x1.c0; have c1 := x1.c1
  go_wp2_with fail
  refine (valid_no_b b a _ hb ho).mono ?_
  rintro e w2 ⟨rfl, b2⟩
  have y2 := y1.to b2; have z3 := z2.trans (b2.mono z2.size)
  clear c0 c1 x1 y1 z2 b2
  have c0 := y2.c0; have c1 := y2.c1
  go_wp2_with fail
  refine (lives_true _ (HV.out.below z3)).mono ?_
  rintro e w3 ⟨rfl, b3⟩
  have z4 := z3.trans (b3.mono z3.size)
  go_wp2
  go_ret
  exact ⟨rfl, z4⟩

set_option maxHeartbeats 1000000 in
theorem opp_law_rack (b a r : Int) (w : World) (hV : Vars w) (ho : Ok b a) (hr : r < -4 ∨ 4 < r) :
    Calls Tryd.prog 5 #[nd b a, .int .i64 r] w fun e w' => e = .returned (.bool true) ∧ Below w.heap.size w w' := by
  have HV := Lib.hid hV; clear hV
  have hR := Lib.hid hr
  have hd : (r < -4 ∨ decide (r < -4) = false ∧ 4 < r) := by
    rcases hr with h | h
    · exact Or.inl h
    · exact Or.inr ⟨by simp; omega, h⟩
  clear hr
  have x0 := Box.new w b a
  have z0 := below_alloc' w (nbox b a)
  go_enter Tryd.func5, Tryd.ntmps5
  go_wp2_with fail
  refine (opp_rack b a r _ ho hR.out).mono ?_
  rintro e w1 ⟨rfl, b1⟩
  have x1 := (x0.to b1).alloc (nbox 0 0); have z1 := z0.trans (b1.mono (by simp)); have y1 := Box.new w1 0 0
  have z2 := z1.alloc z1.size (nbox 0 0)
  clear x0 z0 b1 z1
  have c0 := x1.c0; have c1 := x1.c1
  go_wp2_with fail
  refine (valid_ok_b b a _ ho).mono ?_
  rintro e w2 ⟨rfl, b2⟩
  have y2 := y1.to b2; have z3 := z2.trans (b2.mono z2.size)
  clear c0 c1 x1 y1 z2 b2
  have c0 := y2.c0; have c1 := y2.c1
  rcases hd with hd | ⟨hd, hd2⟩
  all_goals
    go_wp2_with fail
    refine (lives_true _ (HV.out.below z3)).mono ?_
    rintro e w3 ⟨rfl, b3⟩
    have z4 := z3.trans (b3.mono z3.size)
    go_wp2
    go_ret
    exact ⟨rfl, z4⟩

theorem opp_back0 (a r : Int) (w : World) (ho : Ok 0 a) (h3 : -4 ≤ r) (h4 : r ≤ 4) (hf : Ok 1 (a - r)) : Calls Tryd.prog 16 #[nd 1 (a - r), .int .i64 r] w fun e w' => e = .returned (.tuple #[nd 0 a, .int .i64 0]) ∧ Below w.heap.size w w' := by
  have h := opp_ok1 (a - r) r w hf h3 h4 (by rw [Int.sub_add_cancel]; exact ho)
  rw [Int.sub_add_cancel] at h
  exact h
theorem opp_back1 (a r : Int) (w : World) (ho : Ok 1 a) (h3 : -4 ≤ r) (h4 : r ≤ 4) (hf : Ok 0 (a + r)) : Calls Tryd.prog 16 #[nd 0 (a + r), .int .i64 r] w fun e w' => e = .returned (.tuple #[nd 1 a, .int .i64 0]) ∧ Below w.heap.size w w' := by
  have h := opp_ok0 (a + r) r w hf h3 h4 (by rw [Int.add_sub_cancel]; exact ho)
  rw [Int.add_sub_cancel] at h
  exact h
theorem spot_f (a r : Int) (w : World) (h : Ok 0 a) (h3 : -4 ≤ r) (h4 : r ≤ 4) : Calls Tryd.prog 11 #[nd 0 a, .int .i64 r] w fun e w' => e = .returned (.int .i64 (4 * a + 2)) ∧ Below w.heap.size w w' :=
  (spot_ok0 a r w h.lo h.hi h3 h4).mono fun _ _ ⟨he, hw⟩ => ⟨he, below_spot hw⟩
theorem spot_k0 (a r : Int) (w : World) (h : Ok 1 (a - r)) (h3 : -4 ≤ r) (h4 : r ≤ 4) : Calls Tryd.prog 11 #[nd 1 (a - r), .int .i64 r] w fun e w' => e = .returned (.int .i64 (4 * a)) ∧ Below w.heap.size w w' :=
  (spot_ok1 (a - r) r w h.lo h.hi h3 h4).mono fun _ _ ⟨he, hw⟩ => ⟨by rw [he, Int.sub_add_cancel], below_spot hw⟩
theorem spot_k1 (a r : Int) (w : World) (h : Ok 1 a) (h3 : -4 ≤ r) (h4 : r ≤ 4) : Calls Tryd.prog 11 #[nd 1 a, .int .i64 r] w fun e w' => e = .returned (.int .i64 (4 * (a + r))) ∧ Below w.heap.size w w' :=
  (spot_ok1 a r w h.lo h.hi h3 h4).mono fun _ _ ⟨he, hw⟩ => ⟨he, below_spot hw⟩

/-- Six needles lie, the sentinels hold, old memory is untouched. -/
structure Keep6 (w0 : World) (Bn : Nat) (bn an : Int) (Bm : Nat) (bm am : Int) (Bx : Nat) (bx ax : Int) (Bg : Nat) (bg ag : Int) (Bf : Nat) (bf af : Int) (Bk : Nat) (bk ak : Int) (w : World) : Prop where
  pn : Box w Bn bn an
  pm : Box w Bm bm am
  px : Box w Bx bx ax
  pg : Box w Bg bg ag
  pf : Box w Bf bf af
  pk : Box w Bk bk ak
  v : Vars w
  z : Below w0.heap.size w0 w
  le : w0.heap.size ≤ w.heap.size
theorem Keep6.to {w0 w w1 : World} {Bn Bm Bx Bg Bf Bk : Nat} {bn an bm am bx ax bg ag bf af bk ak : Int} (h : Keep6 w0 Bn bn an Bm bm am Bx bx ax Bg bg ag Bf bf af Bk bk ak w) (hb : Below w.heap.size w w1) : Keep6 w0 Bn bn an Bm bm am Bx bx ax Bg bg ag Bf bf af Bk bk ak w1 :=
  ⟨h.pn.to hb, h.pm.to hb, h.px.to hb, h.pg.to hb, h.pf.to hb, h.pk.to hb, h.v.below hb, h.z.trans (hb.mono h.le), Nat.le_trans h.le hb.size⟩
theorem Keep6.all {w0 w : World} {Bn Bm Bx Bg Bf Bk : Nat} {bn an bm am bx ax bg ag bf af bk ak : Int} (h : Keep6 w0 Bn bn an Bm bm am Bx bx ax Bg bg ag Bf bf af Bk bk ak w) : w.cell? ⟨Bn, 0, none⟩ = some (.int .u8 bn) ∧ w.cell? ⟨Bn, 1, none⟩ = some (.int .i64 an) ∧ w.cell? ⟨Bm, 0, none⟩ = some (.int .u8 bm) ∧ w.cell? ⟨Bm, 1, none⟩ = some (.int .i64 am) ∧ w.cell? ⟨Bx, 0, none⟩ = some (.int .u8 bx) ∧ w.cell? ⟨Bx, 1, none⟩ = some (.int .i64 ax) ∧ w.cell? ⟨Bg, 0, none⟩ = some (.int .u8 bg) ∧ w.cell? ⟨Bg, 1, none⟩ = some (.int .i64 ag) ∧ w.cell? ⟨Bf, 0, none⟩ = some (.int .u8 bf) ∧ w.cell? ⟨Bf, 1, none⟩ = some (.int .i64 af) ∧ w.cell? ⟨Bk, 0, none⟩ = some (.int .u8 bk) ∧ w.cell? ⟨Bk, 1, none⟩ = some (.int .i64 ak) ∧ Keep6 w0 Bn bn an Bm bm am Bx bx ax Bg bg ag Bf bf af Bk bk ak w :=
  ⟨h.pn.c0, h.pn.c1, h.pm.c0, h.pm.c1, h.px.c0, h.px.c1, h.pg.c0, h.pg.c1, h.pf.c0, h.pf.c1, h.pk.c0, h.pk.c1, h⟩
theorem Keep6.of {w0 w : World} {Bn Bm Bx Bg Bf Bk : Nat} {bn an bm am bx ax bg ag bf af bk ak : Int} (h : w.cell? ⟨Bn, 0, none⟩ = some (.int .u8 bn) ∧ w.cell? ⟨Bn, 1, none⟩ = some (.int .i64 an) ∧ w.cell? ⟨Bm, 0, none⟩ = some (.int .u8 bm) ∧ w.cell? ⟨Bm, 1, none⟩ = some (.int .i64 am) ∧ w.cell? ⟨Bx, 0, none⟩ = some (.int .u8 bx) ∧ w.cell? ⟨Bx, 1, none⟩ = some (.int .i64 ax) ∧ w.cell? ⟨Bg, 0, none⟩ = some (.int .u8 bg) ∧ w.cell? ⟨Bg, 1, none⟩ = some (.int .i64 ag) ∧ w.cell? ⟨Bf, 0, none⟩ = some (.int .u8 bf) ∧ w.cell? ⟨Bf, 1, none⟩ = some (.int .i64 af) ∧ w.cell? ⟨Bk, 0, none⟩ = some (.int .u8 bk) ∧ w.cell? ⟨Bk, 1, none⟩ = some (.int .i64 ak) ∧ Keep6 w0 Bn bn an Bm bm am Bx bx ax Bg bg ag Bf bf af Bk bk ak w) : Keep6 w0 Bn bn an Bm bm am Bx bx ax Bg bg ag Bf bf af Bk bk ak w := by
  obtain ⟨_, _, _, _, _, _, _, _, _, _, _, _, h⟩ := h
  exact h
theorem Keep6.allto {w0 w w1 : World} {Bn Bm Bx Bg Bf Bk : Nat} {bn an bm am bx ax bg ag bf af bk ak : Int} (h : w.cell? ⟨Bn, 0, none⟩ = some (.int .u8 bn) ∧ w.cell? ⟨Bn, 1, none⟩ = some (.int .i64 an) ∧ w.cell? ⟨Bm, 0, none⟩ = some (.int .u8 bm) ∧ w.cell? ⟨Bm, 1, none⟩ = some (.int .i64 am) ∧ w.cell? ⟨Bx, 0, none⟩ = some (.int .u8 bx) ∧ w.cell? ⟨Bx, 1, none⟩ = some (.int .i64 ax) ∧ w.cell? ⟨Bg, 0, none⟩ = some (.int .u8 bg) ∧ w.cell? ⟨Bg, 1, none⟩ = some (.int .i64 ag) ∧ w.cell? ⟨Bf, 0, none⟩ = some (.int .u8 bf) ∧ w.cell? ⟨Bf, 1, none⟩ = some (.int .i64 af) ∧ w.cell? ⟨Bk, 0, none⟩ = some (.int .u8 bk) ∧ w.cell? ⟨Bk, 1, none⟩ = some (.int .i64 ak) ∧ Keep6 w0 Bn bn an Bm bm am Bx bx ax Bg bg ag Bf bf af Bk bk ak w) (hb : Below w.heap.size w w1) : w1.cell? ⟨Bn, 0, none⟩ = some (.int .u8 bn) ∧ w1.cell? ⟨Bn, 1, none⟩ = some (.int .i64 an) ∧ w1.cell? ⟨Bm, 0, none⟩ = some (.int .u8 bm) ∧ w1.cell? ⟨Bm, 1, none⟩ = some (.int .i64 am) ∧ w1.cell? ⟨Bx, 0, none⟩ = some (.int .u8 bx) ∧ w1.cell? ⟨Bx, 1, none⟩ = some (.int .i64 ax) ∧ w1.cell? ⟨Bg, 0, none⟩ = some (.int .u8 bg) ∧ w1.cell? ⟨Bg, 1, none⟩ = some (.int .i64 ag) ∧ w1.cell? ⟨Bf, 0, none⟩ = some (.int .u8 bf) ∧ w1.cell? ⟨Bf, 1, none⟩ = some (.int .i64 af) ∧ w1.cell? ⟨Bk, 0, none⟩ = some (.int .u8 bk) ∧ w1.cell? ⟨Bk, 1, none⟩ = some (.int .i64 ak) ∧ Keep6 w0 Bn bn an Bm bm am Bx bx ax Bg bg ag Bf bf af Bk bk ak w1 := ((Keep6.of h).to hb).all
theorem Keep6.alldrew {w0 w : World} {Bn Bm Bx Bg Bf Bk : Nat} {bn an bm am bx ax bg ag bf af bk ak : Int} (h : Keep6 w0 Bn bn an Bm bm am Bx bx ax Bg bg ag Bf bf af Bk bk ak w) : w.drew.cell? ⟨Bn, 0, none⟩ = some (.int .u8 bn) ∧ w.drew.cell? ⟨Bn, 1, none⟩ = some (.int .i64 an) ∧ w.drew.cell? ⟨Bm, 0, none⟩ = some (.int .u8 bm) ∧ w.drew.cell? ⟨Bm, 1, none⟩ = some (.int .i64 am) ∧ w.drew.cell? ⟨Bx, 0, none⟩ = some (.int .u8 bx) ∧ w.drew.cell? ⟨Bx, 1, none⟩ = some (.int .i64 ax) ∧ w.drew.cell? ⟨Bg, 0, none⟩ = some (.int .u8 bg) ∧ w.drew.cell? ⟨Bg, 1, none⟩ = some (.int .i64 ag) ∧ w.drew.cell? ⟨Bf, 0, none⟩ = some (.int .u8 bf) ∧ w.drew.cell? ⟨Bf, 1, none⟩ = some (.int .i64 af) ∧ w.drew.cell? ⟨Bk, 0, none⟩ = some (.int .u8 bk) ∧ w.drew.cell? ⟨Bk, 1, none⟩ = some (.int .i64 ak) ∧ Keep6 w0 Bn bn an Bm bm am Bx bx ax Bg bg ag Bf bf af Bk bk ak w.drew := (h.to (Below.drew (Below.refl _ _))).all
theorem Keep6.allv {w0 w : World} {Bn Bm Bx Bg Bf Bk : Nat} {bn an bm am bx ax bg ag bf af bk ak : Int} (h : w.cell? ⟨Bn, 0, none⟩ = some (.int .u8 bn) ∧ w.cell? ⟨Bn, 1, none⟩ = some (.int .i64 an) ∧ w.cell? ⟨Bm, 0, none⟩ = some (.int .u8 bm) ∧ w.cell? ⟨Bm, 1, none⟩ = some (.int .i64 am) ∧ w.cell? ⟨Bx, 0, none⟩ = some (.int .u8 bx) ∧ w.cell? ⟨Bx, 1, none⟩ = some (.int .i64 ax) ∧ w.cell? ⟨Bg, 0, none⟩ = some (.int .u8 bg) ∧ w.cell? ⟨Bg, 1, none⟩ = some (.int .i64 ag) ∧ w.cell? ⟨Bf, 0, none⟩ = some (.int .u8 bf) ∧ w.cell? ⟨Bf, 1, none⟩ = some (.int .i64 af) ∧ w.cell? ⟨Bk, 0, none⟩ = some (.int .u8 bk) ∧ w.cell? ⟨Bk, 1, none⟩ = some (.int .i64 ak) ∧ Keep6 w0 Bn bn an Bm bm am Bx bx ax Bg bg ag Bf bf af Bk bk ak w) : Vars w := (Keep6.of h).v
theorem Keep6.allz {w0 w : World} {Bn Bm Bx Bg Bf Bk : Nat} {bn an bm am bx ax bg ag bf af bk ak : Int} (h : w.cell? ⟨Bn, 0, none⟩ = some (.int .u8 bn) ∧ w.cell? ⟨Bn, 1, none⟩ = some (.int .i64 an) ∧ w.cell? ⟨Bm, 0, none⟩ = some (.int .u8 bm) ∧ w.cell? ⟨Bm, 1, none⟩ = some (.int .i64 am) ∧ w.cell? ⟨Bx, 0, none⟩ = some (.int .u8 bx) ∧ w.cell? ⟨Bx, 1, none⟩ = some (.int .i64 ax) ∧ w.cell? ⟨Bg, 0, none⟩ = some (.int .u8 bg) ∧ w.cell? ⟨Bg, 1, none⟩ = some (.int .i64 ag) ∧ w.cell? ⟨Bf, 0, none⟩ = some (.int .u8 bf) ∧ w.cell? ⟨Bf, 1, none⟩ = some (.int .i64 af) ∧ w.cell? ⟨Bk, 0, none⟩ = some (.int .u8 bk) ∧ w.cell? ⟨Bk, 1, none⟩ = some (.int .i64 ak) ∧ Keep6 w0 Bn bn an Bm bm am Bx bx ax Bg bg ag Bf bf af Bk bk ak w) : Below w0.heap.size w0 w := (Keep6.of h).z

set_option maxHeartbeats 2000000 in
set_option maxRecDepth 100000 in
theorem opp_law_hit0 (a r : Int) (t : Nat) (ht : (t : Int) = a - r + 39) (w : World) (hV : Vars w) (ho : Ok 0 a) (h3 : -4 ≤ r) (h4 : r ≤ 4) (hf : Ok 1 (a - r)) :
    Calls Tryd.prog 5 #[nd 0 a, .int .i64 r] w fun e w' => e = .returned (.bool true) ∧ Below w.heap.size w w' := by
  have HV := Lib.hid hV; clear hV
  have a1 := ho.lo; have a2 := ho.hi
  have f1 := hf.lo; have f2 := hf.hi
  have t1 : (t : Int) ≤ a - r + 39 := by omega
  have t2 : a - r + 39 ≤ (t : Int) := by omega
  have HT := Lib.hid ht; clear ht
  have hd1 : decide (r < -4) = false := by simp; omega
  have hd2 : decide (4 < r) = false := by simp; omega
  have x0 := Box.new w 0 a
  have z0 := below_alloc' w (nbox 0 a)
  go_enter Tryd.func5, Tryd.ntmps5
  go_wp2_with fail
  refine (opp_ok0 a r _ ho h3 h4 hf).mono ?_
  rintro e w1 ⟨rfl, b1⟩
  have hz : w.heap.size < w1.heap.size := by have := b1.size; simp at this; omega
  have z1 := z0.trans (b1.mono (by simp))
  have K : Keep2 w w.heap.size 0 a w1.heap.size 1 (a - r) (w1.alloc (nbox 1 (a - r))) :=
    ⟨(x0.to b1).alloc _, Box.new w1 1 (a - r), HV.out.below (z1.alloc z1.size _), z1.alloc z1.size _, by simp; omega⟩
  clear x0 z0 b1 z1
  have c0 := K.x.c0; have c1 := K.x.c1
  go_wp2_with fail
  clear c0 c1
  refine (valid_ok_b 0 a _ ho).mono ?_
  rintro e w2 ⟨rfl, b2⟩
  have K2 := K.to b2
  clear K b2
  go_wp2_with fail
  go_loopw [7] (fun i wr => ∃ k : Nat, k ≤ t ∧ i = .int .i64 k ∧ Keep2 w w.heap.size 0 a w1.heap.size 1 (a - r) wr) (fun i _ => 80 - (intOf i).toNat)
  case atStart => exact ⟨0, by omega, rfl, K2⟩
  case round =>
    clear K2
    obtain ⟨k, hk, rfl, K⟩ := hrel
    have hlt : k < 80 := by omega
    by_cases hlt2 : k < 40
    · go_wp2_with fail
      refine (front_k k _ hlt2).mono ?_
      rintro e w3 ⟨rfl, b3⟩
      have K3 := (K.to b3).alloc (nbox 0 ((k : Int) + 1))
      have y3 := Box.new w3 0 ((k : Int) + 1)
      clear K b3
      have c0 := K3.x.c0; have c1 := K3.x.c1; have d0 := y3.c0; have d1 := y3.c1
      go_wp2
      clear c0 c1 d0 d1
      go_roundw
      case rel => exact ⟨k + 1, by omega, by go_num, K3⟩
      case measure => simp [intOf]; omega
    · by_cases he : k = t
      · have hb : bedOf k = 1 := by unfold bedOf; omega
        have ha : atOf k = a - r := by unfold atOf; omega
        have c2 := fun w => needle_at k 1 (a - r) w (by omega) (by omega) hb ha
        have C2 := Lib.hid c2
        clear c2 hb ha he
        go_wp2_with fail
        refine (C2.out _).mono ?_
        rintro e w3 ⟨rfl, b3⟩
        have K3 := (K.to b3).alloc (nbox 1 (a - r))
        have y3 := Box.new w3 1 (a - r)
        clear K b3
        have c0 := K3.x.c0; have c1 := K3.x.c1; have d0 := y3.c0; have d1 := y3.c1
        go_wp2
        generalize hW : w3.alloc (nbox 1 (a - r)) = W4 at K3 y3 c0 c1 d0 d1 ⊢
        have hz1 := K3.x.size
        have hz2 := y3.size
        have hz3 : w.heap.size < W4.heap.size + 1 := by omega
        have hz4 : w3.heap.size < W4.heap.size + 1 := by omega
        have hz5 := K3.y.size
        have hz6 : w1.heap.size < W4.heap.size + 1 := by omega
        have hz7 : w.heap.size < W4.heap.size + 1 + 1 := by omega
        have hz8 : w3.heap.size < W4.heap.size + 1 + 1 := by omega
        have hz9 : w1.heap.size < W4.heap.size + 1 + 1 := by omega
        have e0 := K3.y.c0; have e1 := K3.y.c1
        clear hW
        go_region
        all_goals go_wp2_with fail
        · have q1 : Below ((W4.alloc (nbox 0 a)).alloc (nbox 1 (a - r))).heap.size ((W4.alloc (nbox 0 a)).alloc (nbox 1 (a - r))) ((W4.alloc (nbox 0 a)).alloc (nbox 1 (a - r))).drew := Below.drew (Below.refl _ _)
          have n5 := ((K3.x.alloc (nbox 0 a)).alloc (nbox 1 (a - r))).to q1
          have m5 := ((K3.y.alloc (nbox 0 a)).alloc (nbox 1 (a - r))).to q1
          have x5 := ((y3.alloc (nbox 0 a)).alloc (nbox 1 (a - r))).to q1
          have f5 : Box ((W4.alloc (nbox 0 a)).alloc (nbox 1 (a - r))).drew W4.heap.size 0 a := ((Box.new W4 0 a).alloc (nbox 1 (a - r))).to q1
          have k5 : Box ((W4.alloc (nbox 0 a)).alloc (nbox 1 (a - r))).drew (W4.heap.size + 1) 1 (a - r) := (by have h := (Box.new (W4.alloc (nbox 0 a)) 1 (a - r)).to q1; simpa using h)
          have z5 := ((K3.z.alloc K3.le (nbox 0 a)).alloc (by have := K3.le; simp <;> omega) (nbox 1 (a - r))).trans (q1.mono (by have := K3.le; simp <;> omega))
          have l5 : w.heap.size ≤ ((W4.alloc (nbox 0 a)).alloc (nbox 1 (a - r))).drew.heap.size := z5.size
          clear q1 c0 c1 d0 d1 e0 e1 hz1 hz2 hz3 hz4 hz5 hz6 hz7 hz8 hz9 K3 y3
          generalize hW5 : ((W4.alloc (nbox 0 a)).alloc (nbox 1 (a - r))).drew = W5 at n5 m5 x5 f5 k5 z5 l5 ⊢
          clear hW5
          refine (opp_back0 a r _ ho h3 h4 hf).mono ?_
          rintro e w5 ⟨rfl, b5⟩
          have g6 := Box.new w5 0 a
          have z6 := (z5.trans (b5.mono l5)).alloc (by have := b5.size; omega) (nbox 0 a)
          have K6 : Keep6 w w.heap.size 0 a w1.heap.size 1 (a - r) w3.heap.size 1 (a - r) w5.heap.size 0 a W4.heap.size 0 a (W4.heap.size + 1) 1 (a - r) (w5.alloc (nbox 0 a)) :=
            ⟨(n5.to b5).alloc _, (m5.to b5).alloc _, (x5.to b5).alloc _, g6, (f5.to b5).alloc _, (k5.to b5).alloc _, HV.out.below z6, z6, z6.size⟩
          clear n5 m5 x5 f5 k5 z5 l5 b5 g6 z6
          obtain ⟨s1, s2, s3, s4, s5, s6, s7, s8, s9, s10, s11, s12, K6⟩ := K6.all
          go_wp2_with fail
          have hwr : IntKind.i64.wrap (4 * a + 2) = 4 * a + 2 := IntWalk.i64_in _ (by omega)
          generalize hW6 : w5.alloc (nbox 0 a) = W6 at s1 s2 s3 s4 s5 s6 s7 s8 s9 s10 s11 s12 K6 ⊢
          clear hW6
          go_region_held3 (fun w' => w'.cell? ⟨w.heap.size, 0, none⟩ = some (.int .u8 0) ∧ w'.cell? ⟨w.heap.size, 1, none⟩ = some (.int .i64 a) ∧ w'.cell? ⟨w1.heap.size, 0, none⟩ = some (.int .u8 1) ∧ w'.cell? ⟨w1.heap.size, 1, none⟩ = some (.int .i64 (a - r)) ∧ w'.cell? ⟨w3.heap.size, 0, none⟩ = some (.int .u8 1) ∧ w'.cell? ⟨w3.heap.size, 1, none⟩ = some (.int .i64 (a - r)) ∧ w'.cell? ⟨w5.heap.size, 0, none⟩ = some (.int .u8 0) ∧ w'.cell? ⟨w5.heap.size, 1, none⟩ = some (.int .i64 a) ∧ w'.cell? ⟨W4.heap.size, 0, none⟩ = some (.int .u8 0) ∧ w'.cell? ⟨W4.heap.size, 1, none⟩ = some (.int .i64 a) ∧ w'.cell? ⟨(W4.heap.size + 1), 0, none⟩ = some (.int .u8 1) ∧ w'.cell? ⟨(W4.heap.size + 1), 1, none⟩ = some (.int .i64 (a - r)) ∧ Keep6 w w.heap.size 0 a w1.heap.size 1 (a - r) w3.heap.size 1 (a - r) w5.heap.size 0 a W4.heap.size 0 a (W4.heap.size + 1) 1 (a - r) w')
            (first | exact Keep6.alldrew (by assumption) | exact Keep6.allto (by assumption) hb)
            (first
              | (go_at_call 11; with_reducible refine (spot_f a r _ ho h3 h4).mono ?_; rintro e w' ⟨rfl, hb⟩)
              | (go_at_call 11; with_reducible refine (spot_k0 a r _ hf h3 h4).mono ?_; rintro e w' ⟨rfl, hb⟩)
              | (go_at_call 12; with_reducible refine (lives_true _ (Keep6.allv (by assumption))).mono ?_; rintro e w' ⟨rfl, hb⟩))
          all_goals go_wp2
          all_goals (try rw [Exit.noGoto_ret])
          all_goals go_ret
          all_goals exact ⟨rfl, Keep6.allz (by assumption)⟩
        · have q1 : Below ((W4.alloc (nbox 1 (a - r))).alloc (nbox 0 a)).heap.size ((W4.alloc (nbox 1 (a - r))).alloc (nbox 0 a)) ((W4.alloc (nbox 1 (a - r))).alloc (nbox 0 a)).drew := Below.drew (Below.refl _ _)
          have n5 := ((K3.x.alloc (nbox 1 (a - r))).alloc (nbox 0 a)).to q1
          have m5 := ((K3.y.alloc (nbox 1 (a - r))).alloc (nbox 0 a)).to q1
          have x5 := ((y3.alloc (nbox 1 (a - r))).alloc (nbox 0 a)).to q1
          have f5 : Box ((W4.alloc (nbox 1 (a - r))).alloc (nbox 0 a)).drew (W4.heap.size + 1) 0 a := (by have h := (Box.new (W4.alloc (nbox 1 (a - r))) 0 a).to q1; simpa using h)
          have k5 : Box ((W4.alloc (nbox 1 (a - r))).alloc (nbox 0 a)).drew W4.heap.size 1 (a - r) := ((Box.new W4 1 (a - r)).alloc (nbox 0 a)).to q1
          have z5 := ((K3.z.alloc K3.le (nbox 1 (a - r))).alloc (by have := K3.le; simp <;> omega) (nbox 0 a)).trans (q1.mono (by have := K3.le; simp <;> omega))
          have l5 : w.heap.size ≤ ((W4.alloc (nbox 1 (a - r))).alloc (nbox 0 a)).drew.heap.size := z5.size
          clear q1 c0 c1 d0 d1 e0 e1 hz1 hz2 hz3 hz4 hz5 hz6 hz7 hz8 hz9 K3 y3
          generalize hW5 : ((W4.alloc (nbox 1 (a - r))).alloc (nbox 0 a)).drew = W5 at n5 m5 x5 f5 k5 z5 l5 ⊢
          clear hW5
          refine (opp_back0 a r _ ho h3 h4 hf).mono ?_
          rintro e w5 ⟨rfl, b5⟩
          have g6 := Box.new w5 0 a
          have z6 := (z5.trans (b5.mono l5)).alloc (by have := b5.size; omega) (nbox 0 a)
          have K6 : Keep6 w w.heap.size 0 a w1.heap.size 1 (a - r) w3.heap.size 1 (a - r) w5.heap.size 0 a (W4.heap.size + 1) 0 a W4.heap.size 1 (a - r) (w5.alloc (nbox 0 a)) :=
            ⟨(n5.to b5).alloc _, (m5.to b5).alloc _, (x5.to b5).alloc _, g6, (f5.to b5).alloc _, (k5.to b5).alloc _, HV.out.below z6, z6, z6.size⟩
          clear n5 m5 x5 f5 k5 z5 l5 b5 g6 z6
          obtain ⟨s1, s2, s3, s4, s5, s6, s7, s8, s9, s10, s11, s12, K6⟩ := K6.all
          go_wp2_with fail
          have hwr : IntKind.i64.wrap (4 * a + 2) = 4 * a + 2 := IntWalk.i64_in _ (by omega)
          generalize hW6 : w5.alloc (nbox 0 a) = W6 at s1 s2 s3 s4 s5 s6 s7 s8 s9 s10 s11 s12 K6 ⊢
          clear hW6
          go_region_held3 (fun w' => w'.cell? ⟨w.heap.size, 0, none⟩ = some (.int .u8 0) ∧ w'.cell? ⟨w.heap.size, 1, none⟩ = some (.int .i64 a) ∧ w'.cell? ⟨w1.heap.size, 0, none⟩ = some (.int .u8 1) ∧ w'.cell? ⟨w1.heap.size, 1, none⟩ = some (.int .i64 (a - r)) ∧ w'.cell? ⟨w3.heap.size, 0, none⟩ = some (.int .u8 1) ∧ w'.cell? ⟨w3.heap.size, 1, none⟩ = some (.int .i64 (a - r)) ∧ w'.cell? ⟨w5.heap.size, 0, none⟩ = some (.int .u8 0) ∧ w'.cell? ⟨w5.heap.size, 1, none⟩ = some (.int .i64 a) ∧ w'.cell? ⟨(W4.heap.size + 1), 0, none⟩ = some (.int .u8 0) ∧ w'.cell? ⟨(W4.heap.size + 1), 1, none⟩ = some (.int .i64 a) ∧ w'.cell? ⟨W4.heap.size, 0, none⟩ = some (.int .u8 1) ∧ w'.cell? ⟨W4.heap.size, 1, none⟩ = some (.int .i64 (a - r)) ∧ Keep6 w w.heap.size 0 a w1.heap.size 1 (a - r) w3.heap.size 1 (a - r) w5.heap.size 0 a (W4.heap.size + 1) 0 a W4.heap.size 1 (a - r) w')
            (first | exact Keep6.alldrew (by assumption) | exact Keep6.allto (by assumption) hb)
            (first
              | (go_at_call 11; with_reducible refine (spot_f a r _ ho h3 h4).mono ?_; rintro e w' ⟨rfl, hb⟩)
              | (go_at_call 11; with_reducible refine (spot_k0 a r _ hf h3 h4).mono ?_; rintro e w' ⟨rfl, hb⟩)
              | (go_at_call 12; with_reducible refine (lives_true _ (Keep6.allv (by assumption))).mono ?_; rintro e w' ⟨rfl, hb⟩))
          all_goals go_wp2
          all_goals (try rw [Exit.noGoto_ret])
          all_goals go_ret
          all_goals exact ⟨rfl, Keep6.allz (by assumption)⟩
      · go_wp2_with fail
        refine (back_k k _ (by omega) hlt).mono ?_
        rintro e w3 ⟨rfl, b3⟩
        have K3 := (K.to b3).alloc (nbox 1 ((k : Int) - 39))
        have y3 := Box.new w3 1 ((k : Int) - 39)
        clear K b3
        have c0 := K3.x.c0; have c1 := K3.x.c1; have d0 := y3.c0; have d1 := y3.c1
        have hneb : (a == (k : Int) - 39 + r) = false := by
          have : a ≠ (k : Int) - 39 + r := by omega
          simpa using this
        go_wp2
        generalize hW : w3.alloc (nbox 1 ((k : Int) - 39)) = W4 at K3 y3 c0 c1 d0 d1 ⊢
        have hz1 := K3.x.size
        have hz2 := y3.size
        have hz3 : w.heap.size < W4.heap.size + 1 := by omega
        have hz4 : w3.heap.size < W4.heap.size + 1 := by omega
        have hz5 : w.heap.size < W4.heap.size + 1 + 1 := by omega
        have hz6 : w3.heap.size < W4.heap.size + 1 + 1 := by omega
        clear hW
        go_region
        all_goals go_wp2
        all_goals go_roundw
        all_goals first
          | exact ⟨k + 1, by omega, by go_num, ((K3.alloc _).alloc _).drew⟩
          | exact ⟨k + 1, by omega, by go_num, ((K3.alloc _).alloc _).drew.drew⟩
          | (simp [intOf]; omega)

set_option maxHeartbeats 2000000 in
set_option maxRecDepth 100000 in
theorem opp_law_far0 (a r : Int) (w : World) (hV : Vars w) (ho : Ok 0 a) (h3 : -4 ≤ r) (h4 : r ≤ 4) (hf : ¬ Ok 1 (a - r)) :
    Calls Tryd.prog 5 #[nd 0 a, .int .i64 r] w fun e w' => e = .returned (.bool true) ∧ Below w.heap.size w w' := by
  have HV := Lib.hid hV; clear hV
  have a1 := ho.lo; have a2 := ho.hi
  have hout : (a - r) < 1 ∨ 40 < (a - r) := by
    by_cases h1 : (a - r) < 1
    · exact Or.inl h1
    · exact Or.inr (by
        by_cases h2 : 40 < (a - r)
        · exact h2
        · exact absurd ⟨by simp, by omega, by omega⟩ hf)
  have hd1 : decide (r < -4) = false := by simp; omega
  have hd2 : decide (4 < r) = false := by simp; omega
  have x0 := Box.new w 0 a
  have z0 := below_alloc' w (nbox 0 a)
  go_enter Tryd.func5, Tryd.ntmps5
  go_wp2_with fail
  refine (opp_far0 a r _ ho h3 h4 hf).mono ?_
  rintro e w1 ⟨rfl, b1⟩
  have hz : w.heap.size < w1.heap.size := by have := b1.size; simp at this; omega
  have z1 := z0.trans (b1.mono (by simp))
  have K : Keep2 w w.heap.size 0 a w1.heap.size 0 0 (w1.alloc (nbox 0 0)) :=
    ⟨(x0.to b1).alloc _, Box.new w1 0 0, HV.out.below (z1.alloc z1.size _), z1.alloc z1.size _, by simp; omega⟩
  clear x0 z0 b1 z1
  have c0 := K.x.c0; have c1 := K.x.c1
  go_wp2_with fail
  clear c0 c1
  refine (valid_ok_b 0 a _ ho).mono ?_
  rintro e w2 ⟨rfl, b2⟩
  have K2 := K.to b2
  clear K b2
  go_wp2_with fail
  go_loopw [7] (fun i wr => ∃ k : Nat, k ≤ 80 ∧ i = .int .i64 k ∧ Keep2 w w.heap.size 0 a w1.heap.size 0 0 wr) (fun i _ => 80 - (intOf i).toNat)
  case atStart => exact ⟨0, by omega, rfl, K2⟩
  case round =>
    clear K2
    obtain ⟨k, hk, rfl, K⟩ := hrel
    by_cases hlt : k < 80
    · by_cases hlt2 : k < 40
      · go_wp2_with fail
        refine (front_k k _ hlt2).mono ?_
        rintro e w3 ⟨rfl, b3⟩
        have K3 := (K.to b3).alloc (nbox 0 ((k : Int) + 1))
        have y3 := Box.new w3 0 ((k : Int) + 1)
        clear K b3
        have c0 := K3.x.c0; have c1 := K3.x.c1; have d0 := y3.c0; have d1 := y3.c1
        go_wp2
        clear c0 c1 d0 d1
        go_roundw
        case rel => exact ⟨k + 1, by omega, by go_num, K3⟩
        case measure => simp [intOf]; omega
      · go_wp2_with fail
        refine (back_k k _ (by omega) hlt).mono ?_
        rintro e w3 ⟨rfl, b3⟩
        have K3 := (K.to b3).alloc (nbox 1 ((k : Int) - 39))
        have y3 := Box.new w3 1 ((k : Int) - 39)
        clear K b3
        have c0 := K3.x.c0; have c1 := K3.x.c1; have d0 := y3.c0; have d1 := y3.c1
        have hne : a ≠ (k : Int) - 39 + r := by omega
        have hneb : (a == (k : Int) - 39 + r) = false := by simpa using hne
        clear hne
        go_wp2
        generalize hW : w3.alloc (nbox 1 ((k : Int) - 39)) = W4 at K3 y3 c0 c1 d0 d1 ⊢
        have hz1 := K3.x.size
        have hz2 := y3.size
        have hz3 : w.heap.size < W4.heap.size + 1 := by omega
        have hz4 : w3.heap.size < W4.heap.size + 1 := by omega
        have hz5 : w.heap.size < W4.heap.size + 1 + 1 := by omega
        have hz6 : w3.heap.size < W4.heap.size + 1 + 1 := by omega
        clear hW
        go_region
        all_goals go_wp2
        all_goals go_roundw
        all_goals first
          | exact ⟨k + 1, by omega, by go_num, ((K3.alloc _).alloc _).drew⟩
          | exact ⟨k + 1, by omega, by go_num, ((K3.alloc _).alloc _).drew.drew⟩
          | (simp [intOf]; omega)
    · obtain rfl : k = 80 := by omega
      have c0 := K.y.c0; have c1 := K.y.c1
      go_wp2_with fail
      clear c0 c1
      refine (lives_true _ K.v).mono ?_
      rintro e w4 ⟨rfl, b4⟩
      have zz := K.z.trans (b4.mono K.le)
      go_wp2
      go_ret
      exact ⟨rfl, zz⟩

set_option maxHeartbeats 2000000 in
set_option maxRecDepth 100000 in
theorem opp_law_hit1 (a r : Int) (t : Nat) (ht : (t : Int) = a + r - 1) (w : World) (hV : Vars w) (ho : Ok 1 a) (h3 : -4 ≤ r) (h4 : r ≤ 4) (hf : Ok 0 (a + r)) :
    Calls Tryd.prog 5 #[nd 1 a, .int .i64 r] w fun e w' => e = .returned (.bool true) ∧ Below w.heap.size w w' := by
  have HV := Lib.hid hV; clear hV
  have a1 := ho.lo; have a2 := ho.hi
  have f1 := hf.lo; have f2 := hf.hi
  have t1 : (t : Int) ≤ a + r - 1 := by omega
  have t2 : a + r - 1 ≤ (t : Int) := by omega
  have HT := Lib.hid ht; clear ht
  have hd1 : decide (r < -4) = false := by simp; omega
  have hd2 : decide (4 < r) = false := by simp; omega
  have x0 := Box.new w 1 a
  have z0 := below_alloc' w (nbox 1 a)
  go_enter Tryd.func5, Tryd.ntmps5
  go_wp2_with fail
  refine (opp_ok1 a r _ ho h3 h4 hf).mono ?_
  rintro e w1 ⟨rfl, b1⟩
  have hz : w.heap.size < w1.heap.size := by have := b1.size; simp at this; omega
  have z1 := z0.trans (b1.mono (by simp))
  have K : Keep2 w w.heap.size 1 a w1.heap.size 0 (a + r) (w1.alloc (nbox 0 (a + r))) :=
    ⟨(x0.to b1).alloc _, Box.new w1 0 (a + r), HV.out.below (z1.alloc z1.size _), z1.alloc z1.size _, by simp; omega⟩
  clear x0 z0 b1 z1
  have c0 := K.x.c0; have c1 := K.x.c1
  go_wp2_with fail
  clear c0 c1
  refine (valid_ok_b 1 a _ ho).mono ?_
  rintro e w2 ⟨rfl, b2⟩
  have K2 := K.to b2
  clear K b2
  go_wp2_with fail
  go_loopw [7] (fun i wr => ∃ k : Nat, k ≤ t ∧ i = .int .i64 k ∧ Keep2 w w.heap.size 1 a w1.heap.size 0 (a + r) wr) (fun i _ => 80 - (intOf i).toNat)
  case atStart => exact ⟨0, by omega, rfl, K2⟩
  case round =>
    clear K2
    obtain ⟨k, hk, rfl, K⟩ := hrel
    have hlt : k < 80 := by omega
    by_cases hlt2 : k < 40
    · by_cases he : k = t
      · have hb : bedOf k = 0 := by unfold bedOf; omega
        have ha : atOf k = a + r := by unfold atOf; omega
        have c2 := fun w => needle_at k 0 (a + r) w (by omega) (by omega) hb ha
        have C2 := Lib.hid c2
        clear c2 hb ha he
        go_wp2_with fail
        refine (C2.out _).mono ?_
        rintro e w3 ⟨rfl, b3⟩
        have K3 := (K.to b3).alloc (nbox 0 (a + r))
        have y3 := Box.new w3 0 (a + r)
        clear K b3
        have c0 := K3.x.c0; have c1 := K3.x.c1; have d0 := y3.c0; have d1 := y3.c1
        go_wp2
        generalize hW : w3.alloc (nbox 0 (a + r)) = W4 at K3 y3 c0 c1 d0 d1 ⊢
        have hz1 := K3.x.size
        have hz2 := y3.size
        have hz3 : w.heap.size < W4.heap.size + 1 := by omega
        have hz4 : w3.heap.size < W4.heap.size + 1 := by omega
        have hz5 := K3.y.size
        have hz6 : w1.heap.size < W4.heap.size + 1 := by omega
        have hz7 : w.heap.size < W4.heap.size + 1 + 1 := by omega
        have hz8 : w3.heap.size < W4.heap.size + 1 + 1 := by omega
        have hz9 : w1.heap.size < W4.heap.size + 1 + 1 := by omega
        have e0 := K3.y.c0; have e1 := K3.y.c1
        clear hW
        go_region
        all_goals (go_wp2_with fail)
        all_goals go_region
        all_goals go_wp2_with fail
        · have q1 : Below ((W4.alloc (nbox 0 (a + r))).alloc (nbox 1 a)).heap.size ((W4.alloc (nbox 0 (a + r))).alloc (nbox 1 a)) ((W4.alloc (nbox 0 (a + r))).alloc (nbox 1 a)).drew.drew := (Below.drew (Below.refl _ _)).drew
          have n5 := ((K3.x.alloc (nbox 0 (a + r))).alloc (nbox 1 a)).to q1
          have m5 := ((K3.y.alloc (nbox 0 (a + r))).alloc (nbox 1 a)).to q1
          have x5 := ((y3.alloc (nbox 0 (a + r))).alloc (nbox 1 a)).to q1
          have f5 : Box ((W4.alloc (nbox 0 (a + r))).alloc (nbox 1 a)).drew.drew W4.heap.size 0 (a + r) := ((Box.new W4 0 (a + r)).alloc (nbox 1 a)).to q1
          have k5 : Box ((W4.alloc (nbox 0 (a + r))).alloc (nbox 1 a)).drew.drew (W4.heap.size + 1) 1 a := (by have h := (Box.new (W4.alloc (nbox 0 (a + r))) 1 a).to q1; simpa using h)
          have z5 := ((K3.z.alloc K3.le (nbox 0 (a + r))).alloc (by have := K3.le; simp <;> omega) (nbox 1 a)).trans (q1.mono (by have := K3.le; simp <;> omega))
          have l5 : w.heap.size ≤ ((W4.alloc (nbox 0 (a + r))).alloc (nbox 1 a)).drew.drew.heap.size := z5.size
          clear q1 c0 c1 d0 d1 e0 e1 hz1 hz2 hz3 hz4 hz5 hz6 hz7 hz8 hz9 K3 y3
          generalize hW5 : ((W4.alloc (nbox 0 (a + r))).alloc (nbox 1 a)).drew.drew = W5 at n5 m5 x5 f5 k5 z5 l5 ⊢
          clear hW5
          refine (opp_back1 a r _ ho h3 h4 hf).mono ?_
          rintro e w5 ⟨rfl, b5⟩
          have g6 := Box.new w5 1 a
          have z6 := (z5.trans (b5.mono l5)).alloc (by have := b5.size; omega) (nbox 1 a)
          have K6 : Keep6 w w.heap.size 1 a w1.heap.size 0 (a + r) w3.heap.size 0 (a + r) w5.heap.size 1 a W4.heap.size 0 (a + r) (W4.heap.size + 1) 1 a (w5.alloc (nbox 1 a)) :=
            ⟨(n5.to b5).alloc _, (m5.to b5).alloc _, (x5.to b5).alloc _, g6, (f5.to b5).alloc _, (k5.to b5).alloc _, HV.out.below z6, z6, z6.size⟩
          clear n5 m5 x5 f5 k5 z5 l5 b5 g6 z6
          obtain ⟨s1, s2, s3, s4, s5, s6, s7, s8, s9, s10, s11, s12, K6⟩ := K6.all
          go_wp2_with fail
          have hwr : IntKind.i64.wrap (4 * (a + r) + 2) = 4 * (a + r) + 2 := IntWalk.i64_in _ (by omega)
          generalize hW6 : w5.alloc (nbox 1 a) = W6 at s1 s2 s3 s4 s5 s6 s7 s8 s9 s10 s11 s12 K6 ⊢
          clear hW6
          go_region_held3 (fun w' => w'.cell? ⟨w.heap.size, 0, none⟩ = some (.int .u8 1) ∧ w'.cell? ⟨w.heap.size, 1, none⟩ = some (.int .i64 a) ∧ w'.cell? ⟨w1.heap.size, 0, none⟩ = some (.int .u8 0) ∧ w'.cell? ⟨w1.heap.size, 1, none⟩ = some (.int .i64 (a + r)) ∧ w'.cell? ⟨w3.heap.size, 0, none⟩ = some (.int .u8 0) ∧ w'.cell? ⟨w3.heap.size, 1, none⟩ = some (.int .i64 (a + r)) ∧ w'.cell? ⟨w5.heap.size, 0, none⟩ = some (.int .u8 1) ∧ w'.cell? ⟨w5.heap.size, 1, none⟩ = some (.int .i64 a) ∧ w'.cell? ⟨W4.heap.size, 0, none⟩ = some (.int .u8 0) ∧ w'.cell? ⟨W4.heap.size, 1, none⟩ = some (.int .i64 (a + r)) ∧ w'.cell? ⟨(W4.heap.size + 1), 0, none⟩ = some (.int .u8 1) ∧ w'.cell? ⟨(W4.heap.size + 1), 1, none⟩ = some (.int .i64 a) ∧ Keep6 w w.heap.size 1 a w1.heap.size 0 (a + r) w3.heap.size 0 (a + r) w5.heap.size 1 a W4.heap.size 0 (a + r) (W4.heap.size + 1) 1 a w')
            (first | exact Keep6.alldrew (by assumption) | exact Keep6.allto (by assumption) hb)
            (first
              | (go_at_call 11; with_reducible refine (spot_f (a + r) r _ hf h3 h4).mono ?_; rintro e w' ⟨rfl, hb⟩)
              | (go_at_call 11; with_reducible refine (spot_k1 a r _ ho h3 h4).mono ?_; rintro e w' ⟨rfl, hb⟩)
              | (go_at_call 12; with_reducible refine (lives_true _ (Keep6.allv (by assumption))).mono ?_; rintro e w' ⟨rfl, hb⟩))
          all_goals go_wp2
          all_goals (try rw [Exit.noGoto_ret])
          all_goals go_ret
          all_goals exact ⟨rfl, Keep6.allz (by assumption)⟩
        · have q1 : Below ((W4.alloc (nbox 1 a)).alloc (nbox 0 (a + r))).heap.size ((W4.alloc (nbox 1 a)).alloc (nbox 0 (a + r))) ((W4.alloc (nbox 1 a)).alloc (nbox 0 (a + r))).drew.drew := (Below.drew (Below.refl _ _)).drew
          have n5 := ((K3.x.alloc (nbox 1 a)).alloc (nbox 0 (a + r))).to q1
          have m5 := ((K3.y.alloc (nbox 1 a)).alloc (nbox 0 (a + r))).to q1
          have x5 := ((y3.alloc (nbox 1 a)).alloc (nbox 0 (a + r))).to q1
          have f5 : Box ((W4.alloc (nbox 1 a)).alloc (nbox 0 (a + r))).drew.drew (W4.heap.size + 1) 0 (a + r) := (by have h := (Box.new (W4.alloc (nbox 1 a)) 0 (a + r)).to q1; simpa using h)
          have k5 : Box ((W4.alloc (nbox 1 a)).alloc (nbox 0 (a + r))).drew.drew W4.heap.size 1 a := ((Box.new W4 1 a).alloc (nbox 0 (a + r))).to q1
          have z5 := ((K3.z.alloc K3.le (nbox 1 a)).alloc (by have := K3.le; simp <;> omega) (nbox 0 (a + r))).trans (q1.mono (by have := K3.le; simp <;> omega))
          have l5 : w.heap.size ≤ ((W4.alloc (nbox 1 a)).alloc (nbox 0 (a + r))).drew.drew.heap.size := z5.size
          clear q1 c0 c1 d0 d1 e0 e1 hz1 hz2 hz3 hz4 hz5 hz6 hz7 hz8 hz9 K3 y3
          generalize hW5 : ((W4.alloc (nbox 1 a)).alloc (nbox 0 (a + r))).drew.drew = W5 at n5 m5 x5 f5 k5 z5 l5 ⊢
          clear hW5
          refine (opp_back1 a r _ ho h3 h4 hf).mono ?_
          rintro e w5 ⟨rfl, b5⟩
          have g6 := Box.new w5 1 a
          have z6 := (z5.trans (b5.mono l5)).alloc (by have := b5.size; omega) (nbox 1 a)
          have K6 : Keep6 w w.heap.size 1 a w1.heap.size 0 (a + r) w3.heap.size 0 (a + r) w5.heap.size 1 a (W4.heap.size + 1) 0 (a + r) W4.heap.size 1 a (w5.alloc (nbox 1 a)) :=
            ⟨(n5.to b5).alloc _, (m5.to b5).alloc _, (x5.to b5).alloc _, g6, (f5.to b5).alloc _, (k5.to b5).alloc _, HV.out.below z6, z6, z6.size⟩
          clear n5 m5 x5 f5 k5 z5 l5 b5 g6 z6
          obtain ⟨s1, s2, s3, s4, s5, s6, s7, s8, s9, s10, s11, s12, K6⟩ := K6.all
          go_wp2_with fail
          have hwr : IntKind.i64.wrap (4 * (a + r) + 2) = 4 * (a + r) + 2 := IntWalk.i64_in _ (by omega)
          generalize hW6 : w5.alloc (nbox 1 a) = W6 at s1 s2 s3 s4 s5 s6 s7 s8 s9 s10 s11 s12 K6 ⊢
          clear hW6
          go_region_held3 (fun w' => w'.cell? ⟨w.heap.size, 0, none⟩ = some (.int .u8 1) ∧ w'.cell? ⟨w.heap.size, 1, none⟩ = some (.int .i64 a) ∧ w'.cell? ⟨w1.heap.size, 0, none⟩ = some (.int .u8 0) ∧ w'.cell? ⟨w1.heap.size, 1, none⟩ = some (.int .i64 (a + r)) ∧ w'.cell? ⟨w3.heap.size, 0, none⟩ = some (.int .u8 0) ∧ w'.cell? ⟨w3.heap.size, 1, none⟩ = some (.int .i64 (a + r)) ∧ w'.cell? ⟨w5.heap.size, 0, none⟩ = some (.int .u8 1) ∧ w'.cell? ⟨w5.heap.size, 1, none⟩ = some (.int .i64 a) ∧ w'.cell? ⟨(W4.heap.size + 1), 0, none⟩ = some (.int .u8 0) ∧ w'.cell? ⟨(W4.heap.size + 1), 1, none⟩ = some (.int .i64 (a + r)) ∧ w'.cell? ⟨W4.heap.size, 0, none⟩ = some (.int .u8 1) ∧ w'.cell? ⟨W4.heap.size, 1, none⟩ = some (.int .i64 a) ∧ Keep6 w w.heap.size 1 a w1.heap.size 0 (a + r) w3.heap.size 0 (a + r) w5.heap.size 1 a (W4.heap.size + 1) 0 (a + r) W4.heap.size 1 a w')
            (first | exact Keep6.alldrew (by assumption) | exact Keep6.allto (by assumption) hb)
            (first
              | (go_at_call 11; with_reducible refine (spot_f (a + r) r _ hf h3 h4).mono ?_; rintro e w' ⟨rfl, hb⟩)
              | (go_at_call 11; with_reducible refine (spot_k1 a r _ ho h3 h4).mono ?_; rintro e w' ⟨rfl, hb⟩)
              | (go_at_call 12; with_reducible refine (lives_true _ (Keep6.allv (by assumption))).mono ?_; rintro e w' ⟨rfl, hb⟩))
          all_goals go_wp2
          all_goals (try rw [Exit.noGoto_ret])
          all_goals go_ret
          all_goals exact ⟨rfl, Keep6.allz (by assumption)⟩
      · go_wp2_with fail
        refine (front_k k _ hlt2).mono ?_
        rintro e w3 ⟨rfl, b3⟩
        have K3 := (K.to b3).alloc (nbox 0 ((k : Int) + 1))
        have y3 := Box.new w3 0 ((k : Int) + 1)
        clear K b3
        have c0 := K3.x.c0; have c1 := K3.x.c1; have d0 := y3.c0; have d1 := y3.c1
        have hneb : ((k : Int) + 1 == a + r) = false := by
          have : (k : Int) + 1 ≠ a + r := by omega
          simpa using this
        go_wp2
        generalize hW : w3.alloc (nbox 0 ((k : Int) + 1)) = W4 at K3 y3 c0 c1 d0 d1 ⊢
        have hz1 := K3.x.size
        have hz2 := y3.size
        have hz3 : w.heap.size < W4.heap.size + 1 := by omega
        have hz4 : w3.heap.size < W4.heap.size + 1 := by omega
        have hz5 : w.heap.size < W4.heap.size + 1 + 1 := by omega
        have hz6 : w3.heap.size < W4.heap.size + 1 + 1 := by omega
        clear hW
        go_region
        all_goals (go_wp2_with fail)
        all_goals go_region
        all_goals go_wp2
        all_goals go_roundw
        all_goals first
          | exact ⟨k + 1, by omega, by go_num, ((K3.alloc _).alloc _).drew⟩
          | exact ⟨k + 1, by omega, by go_num, ((K3.alloc _).alloc _).drew.drew⟩
          | (simp [intOf]; omega)
    · omega

set_option maxHeartbeats 2000000 in
set_option maxRecDepth 100000 in
theorem opp_law_far1 (a r : Int) (w : World) (hV : Vars w) (ho : Ok 1 a) (h3 : -4 ≤ r) (h4 : r ≤ 4) (hf : ¬ Ok 0 (a + r)) :
    Calls Tryd.prog 5 #[nd 1 a, .int .i64 r] w fun e w' => e = .returned (.bool true) ∧ Below w.heap.size w w' := by
  have HV := Lib.hid hV; clear hV
  have a1 := ho.lo; have a2 := ho.hi
  have hout : (a + r) < 1 ∨ 40 < (a + r) := by
    by_cases h1 : (a + r) < 1
    · exact Or.inl h1
    · exact Or.inr (by
        by_cases h2 : 40 < (a + r)
        · exact h2
        · exact absurd ⟨by simp, by omega, by omega⟩ hf)
  have hd1 : decide (r < -4) = false := by simp; omega
  have hd2 : decide (4 < r) = false := by simp; omega
  have x0 := Box.new w 1 a
  have z0 := below_alloc' w (nbox 1 a)
  go_enter Tryd.func5, Tryd.ntmps5
  go_wp2_with fail
  refine (opp_far1 a r _ ho h3 h4 hf).mono ?_
  rintro e w1 ⟨rfl, b1⟩
  have hz : w.heap.size < w1.heap.size := by have := b1.size; simp at this; omega
  have z1 := z0.trans (b1.mono (by simp))
  have K : Keep2 w w.heap.size 1 a w1.heap.size 0 0 (w1.alloc (nbox 0 0)) :=
    ⟨(x0.to b1).alloc _, Box.new w1 0 0, HV.out.below (z1.alloc z1.size _), z1.alloc z1.size _, by simp; omega⟩
  clear x0 z0 b1 z1
  have c0 := K.x.c0; have c1 := K.x.c1
  go_wp2_with fail
  clear c0 c1
  refine (valid_ok_b 1 a _ ho).mono ?_
  rintro e w2 ⟨rfl, b2⟩
  have K2 := K.to b2
  clear K b2
  go_wp2_with fail
  go_loopw [7] (fun i wr => ∃ k : Nat, k ≤ 80 ∧ i = .int .i64 k ∧ Keep2 w w.heap.size 1 a w1.heap.size 0 0 wr) (fun i _ => 80 - (intOf i).toNat)
  case atStart => exact ⟨0, by omega, rfl, K2⟩
  case round =>
    clear K2
    obtain ⟨k, hk, rfl, K⟩ := hrel
    by_cases hlt : k < 80
    · by_cases hlt2 : k < 40
      · go_wp2_with fail
        refine (front_k k _ hlt2).mono ?_
        rintro e w3 ⟨rfl, b3⟩
        have K3 := (K.to b3).alloc (nbox 0 ((k : Int) + 1))
        have y3 := Box.new w3 0 ((k : Int) + 1)
        clear K b3
        have c0 := K3.x.c0; have c1 := K3.x.c1; have d0 := y3.c0; have d1 := y3.c1
        have hne : (k : Int) + 1 ≠ a + r := by omega
        have hneb : ((k : Int) + 1 == a + r) = false := by simpa using hne
        clear hne
        go_wp2
        generalize hW : w3.alloc (nbox 0 ((k : Int) + 1)) = W4 at K3 y3 c0 c1 d0 d1 ⊢
        have hz1 := K3.x.size
        have hz2 := y3.size
        have hz3 : w.heap.size < W4.heap.size + 1 := by omega
        have hz4 : w3.heap.size < W4.heap.size + 1 := by omega
        have hz5 : w.heap.size < W4.heap.size + 1 + 1 := by omega
        have hz6 : w3.heap.size < W4.heap.size + 1 + 1 := by omega
        clear hW
        go_region
        all_goals (go_wp2_with fail)
        all_goals go_region
        all_goals go_wp2
        all_goals go_roundw
        all_goals first
          | exact ⟨k + 1, by omega, by go_num, ((K3.alloc _).alloc _).drew⟩
          | exact ⟨k + 1, by omega, by go_num, ((K3.alloc _).alloc _).drew.drew⟩
          | (simp [intOf]; omega)
      · go_wp2_with fail
        refine (back_k k _ (by omega) hlt).mono ?_
        rintro e w3 ⟨rfl, b3⟩
        have K3 := (K.to b3).alloc (nbox 1 ((k : Int) - 39))
        have y3 := Box.new w3 1 ((k : Int) - 39)
        clear K b3
        have c0 := K3.x.c0; have c1 := K3.x.c1; have d0 := y3.c0; have d1 := y3.c1
        go_wp2
        clear c0 c1 d0 d1
        go_roundw
        case rel => exact ⟨k + 1, by omega, by go_num, K3⟩
        case measure => simp [intOf]; omega
    · obtain rfl : k = 80 := by omega
      have c0 := K.y.c0; have c1 := K.y.c1
      go_wp2_with fail
      clear c0 c1
      refine (lives_true _ K.v).mono ?_
      rintro e w4 ⟨rfl, b4⟩
      have zz := K.z.trans (b4.mono K.le)
      go_wp2
      go_ret
      exact ⟨rfl, zz⟩

theorem NeedlesOpposite_walk (b a : Int) (w0 : (Lit.int .u8 b).wf = true) (_ : (Lit.int .i64 a).wf = true) (r : Int) (_ : (Lit.int .i64 r).wf = true) (w : World) (hV : Vars w) :
    Calls Tryd.prog 5 #[nd b a, .int .i64 r] w fun e w' => e = .returned (.bool true) ∧ Below w.heap.size w w' := by
  obtain ⟨b0, _⟩ := bounds_u8 w0
  by_cases ho : Ok b a
  · by_cases hr : r < -4 ∨ 4 < r
    · exact opp_law_rack b a r w hV ho hr
    · have h3 : -4 ≤ r := by omega
      have h4 : r ≤ 4 := by omega
      rcases ho.bed with rfl | rfl
      · by_cases hf : Ok 1 (a - r)
        · exact opp_law_hit0 a r (a - r + 39).toNat (by have := hf.lo; omega) w hV ho h3 h4 hf
        · exact opp_law_far0 a r w hV ho h3 h4 hf
      · by_cases hf : Ok 0 (a + r)
        · exact opp_law_hit1 a r (a + r - 1).toNat (by have := hf.lo; omega) w hV ho h3 h4 hf
        · exact opp_law_far1 a r w hV ho h3 h4 hf
  · exact opp_law_bad b a r w hV b0 ho
end Go.Proofs.YtofgnfnngljilaaDoor
