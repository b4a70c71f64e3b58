/- NeedlesText: the law returns true for any needle and any text. -/
import Derived.Test.YtofgnfnngljilaaDoorKeep
import Derived.OpenShut
namespace Go.Proofs.YtofgnfnngljilaaDoor
open Go.RowKit

set_option maxHeartbeats 1000000 in
theorem text_long (b a : Int) (s : ByteArray) (w : World) (hV : Vars w) (hs : 20 < s.size) (hlim : s.size ≤ 281474976710656) :
    Calls Tryd.prog 6 #[nd b a, .string s] w fun e w' => e = .returned (.bool true) ∧ Below w.heap.size w w' := by
  have z0 := below_alloc' w (nbox b a)
  go_enter Tryd.func6, Tryd.ntmps6
  go_wp2_with fail
  refine (lives_true _ (hV.below z0)).mono ?_
  rintro e w1 ⟨rfl, b1⟩
  have z1 := z0.trans (b1.mono (by simp))
  go_wp2
  go_ret
  exact ⟨rfl, z1⟩

theorem conv_one (x : Nat) (c : UInt8) (hc : c.toNat = x) (y : Int) (hy : y = x) (W : World) (n : Nat) (hn : n = W.heap.size) :
    (convert 37 9 (.slice (some ⟨n, 0, none⟩) 1 1)).run Tryd.prog (W.alloc (.cells #[.int .u8 y] 5)) = .ok (.string ⟨#[c]⟩) (W.alloc (.cells #[.int .u8 y] 5)) := by
  subst hn hy
  exact run_convert_bytes_back (P := Tryd.prog) (W.alloc (.cells #[.int .u8 (x : Int)] 5)) 37 9 5 ⟨W.heap.size, 0, none⟩ 1 [c] Tryd.underlying37 Tryd.underlying5 Tryd.underlying9
    (fun j hj => by
      have : j = 0 := by simpa using hj
      subst this
      simp [Addr.add, hc])
theorem add_one (l : List UInt8) (c : UInt8) (hl : l.length ≤ 4) (w : World) : (Op.stringOp .add ⟨l.toArray⟩ ⟨#[c]⟩).run Tryd.prog w = .ok (.string ⟨(l ++ [c]).toArray⟩) w := by
  rw [run_string_add_sum w _ _ (by
    have h0 : (ByteArray.mk l.toArray).size = l.length := by show l.toArray.size = _; simp
    have h1 : (ByteArray.mk #[c]).size = 1 := rfl
    omega), ByteArray.mk_append_mk]
theorem digit (x : Nat) (h : x ≤ 9) : (UInt8.ofNat (48 + x)).toNat = 48 + x := by
  simp [UInt8.toNat_ofNat]; omega

/-- Text of the law's needle with an index. -/
def txtOf (i : Int) : List UInt8 := txt (bedOf i) (atOf i).toNat
theorem text_of (i : Int) (w : World) : Calls Tryd.prog 17 #[nd (bedOf i) (atOf i)] w fun e w' => e = .returned (.string ⟨(txtOf i).toArray⟩) ∧ Below w.heap.size w w' := by
  have ho := ok_of i
  obtain ⟨k, hk⟩ : ∃ k : Nat, atOf i = k := ⟨(atOf i).toNat, by have := ho.lo; omega⟩
  unfold txtOf
  rw [hk] at ho ⊢
  exact text_ok (bedOf i) k w ho
theorem needle_b (i : Int) (w : World) (h0 : 0 ≤ i) (h1 : i ≤ 255) : Calls Tryd.prog 15 #[.int .u8 i] w fun e w' => e = .returned (nd (bedOf i) (atOf i)) ∧ Below w.heap.size w w' :=
  (needle_any i w h0 h1).mono fun _ _ ⟨he, hw⟩ => ⟨he, by subst hw; exact below_alloc' _ _⟩
theorem keep_one {w0 w : World} (b a : Int) (hV : Vars w0) (z : Below w0.heap.size w0 w) : Keep2 w0 w.heap.size b a w.heap.size b a (w.alloc (nbox b a)) :=
  ⟨Box.new w b a, Box.new w b a, hV.below (z.alloc z.size _), z.alloc z.size _, by have := z.size; simp <;> omega⟩

set_option maxHeartbeats 2000000 in
set_option maxRecDepth 100000 in
theorem text_inv_hit (b a : Int) (s : ByteArray) (w : World) (hV : Vars w) (hb : 0 ≤ b) (ho : ¬ Ok b a) (hlim : s.size ≤ 281474976710656) (hs : s.size ≤ 20) (b' : Int) (k' : Nat) (ho' : Ok b' k') (ht' : s.data.toList = txt b' k') :
    Calls Tryd.prog 6 #[nd b a, .string s] w fun e w' => e = .returned (.bool true) ∧ Below w.heap.size w w' := by
  have hcmp0 : (txt b' k' == s.toList) = true := by rw [Lib.toList_data, ht']; simp
  have HC := Lib.hid hcmp0; clear hcmp0
  have HT' : Hid (s.data.toList = txt b' k') := Lib.hid ht'
  clear ht'
  have HV := Lib.hid hV; clear hV
  have hd : decide (20 < (s.size : Int)) = false := by simp; omega
  have x0 := Box.new w b a
  have z0 := below_alloc' w (nbox b a)
  go_enter Tryd.func6, Tryd.ntmps6
  go_wp2_with fail
  refine (valid_no_b b a _ hb ho).mono ?_
  rintro e w1 ⟨rfl, b1⟩
  have x1 := x0.to b1; have z1 := z0.trans (b1.mono (by simp))
  clear x0 z0 b1
  have c0 := x1.c0; have c1 := x1.c1
  go_wp2_with fail
  clear c0 c1
  refine (text_no b a _ ho).mono ?_
  rintro e w2 ⟨rfl, b2⟩
  have z2 := z1.trans (b2.mono z1.size)
  clear x1 z1 b2
  go_wp2_with fail
  refine (parse_hit s b' k' _ (HV.out.below z2) hlim ho' HT'.out).mono ?_
  rintro e v1 ⟨rfl, e1⟩
  have zz := z2.trans (e1.mono z2.size)
  have y1 := Box.new v1 b' k'
  have zz1 := zz.alloc zz.size (nbox b' k')
  clear z2 e1 zz
  have c0 := y1.c0; have c1' := y1.c1
  go_wp2_with fail
  refine (valid_ok_b b' k' _ ho').mono ?_
  rintro e v2 ⟨rfl, e2⟩
  have y2 := y1.to e2; have zz2 := zz1.trans (e2.mono zz1.size)
  clear c0 c1' y1 zz1 e2
  have c0 := y2.c0; have c1' := y2.c1
  go_wp2_with fail
  refine (text_ok b' k' _ ho').mono ?_
  rintro e v3 ⟨rfl, e3⟩
  have zz3 := zz2.trans (e3.mono zz2.size)
  clear c0 c1' y2 zz2 e3
  have hcmp := HC.out
  go_wp2_with fail
  refine (lives_true _ (HV.out.below zz3)).mono ?_
  rintro e v4 ⟨rfl, e4⟩
  have zz4 := zz3.trans (e4.mono zz3.size)
  go_wp2
  go_ret
  exact ⟨rfl, zz4⟩

set_option maxHeartbeats 2000000 in
set_option maxRecDepth 100000 in
theorem text_inv_none (b a : Int) (s : ByteArray) (w : World) (hV : Vars w) (hb : 0 ≤ b) (ho : ¬ Ok b a) (hlim : s.size ≤ 281474976710656) (hs : s.size ≤ 20) (hno : ∀ b, ∀ k : Nat, Ok b k → s.data.toList ≠ txt b k) :
    Calls Tryd.prog 6 #[nd b a, .string s] w fun e w' => e = .returned (.bool true) ∧ Below w.heap.size w w' := by
  have hcmp0 : ∀ j : Nat, (txtOf j == s.toList) = false := by
    intro j
    have ho := ok_of j
    have h1 := ho.lo
    have : txtOf j ≠ s.toList := fun e => hno (bedOf j) (atOf j).toNat (by rw [Int.toNat_of_nonneg (by omega)]; exact ho) (by rw [← Lib.toList_data]; exact e.symm)
    simpa using this
  have HC := Lib.hid hcmp0; clear hcmp0
  have HN := Lib.hid hno; clear hno
  have HV := Lib.hid hV; clear hV
  have hd : decide (20 < (s.size : Int)) = false := by simp; omega
  have x0 := Box.new w b a
  have z0 := below_alloc' w (nbox b a)
  go_enter Tryd.func6, Tryd.ntmps6
  go_wp2_with fail
  refine (valid_no_b b a _ hb ho).mono ?_
  rintro e w1 ⟨rfl, b1⟩
  have x1 := x0.to b1; have z1 := z0.trans (b1.mono (by simp))
  clear x0 z0 b1
  have c0 := x1.c0; have c1 := x1.c1
  go_wp2_with fail
  clear c0 c1
  refine (text_no b a _ ho).mono ?_
  rintro e w2 ⟨rfl, b2⟩
  have z2 := z1.trans (b2.mono z1.size)
  clear x1 z1 b2
  go_wp2_with fail
  refine (parse_none s _ (HV.out.below z2) hlim HN.out).mono ?_
  rintro e v1 ⟨rfl, e1⟩
  have zz := z2.trans (e1.mono z2.size)
  have K := keep_one 0 0 HV.out zz
  clear z2 e1 zz
  go_wp2_with fail
  go_loopw [10] (fun i wr => ∃ j : Nat, j ≤ 80 ∧ i = .int .i64 j ∧ Keep2 w v1.heap.size 0 0 v1.heap.size 0 0 wr) (fun i _ => 80 - (intOf i).toNat)
  case atStart => exact ⟨0, by omega, rfl, K⟩
  case round =>
    clear K
    obtain ⟨j, hj, rfl, K⟩ := hrel
    by_cases hlt : j < 80
    · have hcmp := HC.out j
      go_wp2_with fail
      refine (needle_b j _ (by omega) (by omega)).mono ?_
      rintro e v2 ⟨rfl, e2⟩
      have K2 := K.to e2
      clear K e2
      go_wp2_with fail
      refine (text_of j _).mono ?_
      rintro e v3 ⟨rfl, e3⟩
      have K3 := K2.to e3
      clear K2 e3
      go_wp2
      go_roundw
      case rel => exact ⟨j + 1, by omega, by go_num, K3⟩
      case measure => simp [intOf]; omega
    · obtain rfl : j = 80 := by omega
      have c0 := K.x.c0; have c1' := K.x.c1
      go_wp2_with fail
      clear c0 c1'
      refine (lives_true _ K.v).mono ?_
      rintro e v2 ⟨rfl, e2⟩
      have zz2 := K.z.trans (e2.mono K.le)
      go_wp2
      go_ret
      exact ⟨rfl, zz2⟩

set_option maxHeartbeats 2000000 in
set_option maxRecDepth 100000 in
theorem text_v0b_hit (k : Nat) (s : ByteArray) (w : World) (hV : Vars w) (ho : Ok 0 k) (hk : 10 ≤ k) (hlim : s.size ≤ 281474976710656) (hs : s.size ≤ 20) (b' : Int) (k' : Nat) (ho' : Ok b' k') (ht' : s.data.toList = txt b' k') :
    Calls Tryd.prog 6 #[nd 0 k, .string s] w fun e w' => e = .returned (.bool true) ∧ Below w.heap.size w w' := by
  have hcmp0 : (txt b' k' == s.toList) = true := by rw [Lib.toList_data, ht']; simp
  have HC := Lib.hid hcmp0; clear hcmp0
  have HT' : Hid (s.data.toList = txt b' k') := Lib.hid ht'
  clear ht'
  have h1 := ho.lo; have h2 := ho.hi
  have HV := Lib.hid hV; clear hV
  have hd : decide (20 < (s.size : Int)) = false := by simp; omega
  have hd1 : decide ((9 : Int) < k) = true := by simp; omega
  obtain ⟨c2, hc2⟩ : ∃ c2 : UInt8, c2 = UInt8.ofNat (48 + k % 10) := ⟨_, rfl⟩
  have e2 : c2.toNat = 48 + k % 10 := by rw [hc2]; exact digit _ (by omega)
  have v2 := conv_one (48 + k % 10) c2 e2 (48 + (k : Int) % 10) (by omega)
  obtain ⟨c1, hc1⟩ : ∃ c1 : UInt8, c1 = UInt8.ofNat (48 + k / 10) := ⟨_, rfl⟩
  have e1 : c1.toNat = 48 + k / 10 := by rw [hc1]; exact digit _ (by omega)
  have v1 := conv_one (48 + k / 10) c1 e1 (48 + (k : Int) / 10) (by omega)
  have p1 := add_one [102] c1 (by simp)
  have p2 := add_one [102, c1] c2 (by simp)
  have ht : txt 0 k = [102, c1, c2] := by simp [txt, digs, hc1, hc2]; omega
  clear hc1 hc2 e1 e2
  have HT := Lib.hid ht; clear ht
  have x0 := Box.new w 0 k
  have z0 := below_alloc' w (nbox 0 k)
  go_enter Tryd.func6, Tryd.ntmps6
  go_wp2_with fail
  refine (valid_ok_b 0 k _ ho).mono ?_
  rintro e w1 ⟨rfl, b1⟩
  have x1 := x0.to b1; have z1 := z0.trans (b1.mono (by simp))
  clear x0 z0 b1
  have c0 := x1.c0; have c1' := x1.c1; have cs := x1.size; have cs1 : w.heap.size < w1.heap.size + 1 := by omega
  have cs2 : w.heap.size < w1.heap.size + 1 + 1 := by omega
  go_wp2_with fail
  refine (text_ok 0 k _ ho).mono ?_
  rintro e w2 ⟨rfl, b2⟩
  rw [HT.out]
  have x2 := (((x1.alloc _).alloc _).alloc _).to b2; have z2 := (((z1.alloc z1.size _).alloc (by have := z1.size; simp <;> omega) _).alloc (by have := z1.size; simp <;> omega) _).trans (b2.mono (by have := z1.size; simp <;> omega))
  clear x1 z1 b2 c0 c1' cs cs1 cs2 v2 p2 v1 p1
  go_wp2_with fail
  refine (parse_hit ⟨([102, c1, c2]).toArray⟩ 0 k _ (HV.out.below z2) (by show ([102, c1, c2]).toArray.size ≤ _; simp) ho (by rw [HT.out])).mono ?_
  rintro e w3 ⟨rfl, b3⟩
  have x3 := (x2.to b3).alloc (nbox 0 k); have y3 := Box.new w3 0 k; have z3 := (z2.trans (b3.mono z2.size))
  have z4 := z3.alloc z3.size (nbox 0 k)
  clear x2 z2 b3
  have c0 := x3.c0; have c1' := x3.c1; have d0 := y3.c0; have d1 := y3.c1
  go_wp2_with fail
  clear c0 c1' d0 d1 x3 y3 z3
  refine (parse_hit s b' k' _ (HV.out.below z4) hlim ho' HT'.out).mono ?_
  rintro e v1 ⟨rfl, e1⟩
  have zz := z4.trans (e1.mono z4.size)
  have y1 := Box.new v1 b' k'
  have zz1 := zz.alloc zz.size (nbox b' k')
  clear z4 e1 zz
  have c0 := y1.c0; have c1' := y1.c1
  go_wp2_with fail
  refine (valid_ok_b b' k' _ ho').mono ?_
  rintro e v2 ⟨rfl, e2⟩
  have y2 := y1.to e2; have zz2 := zz1.trans (e2.mono zz1.size)
  clear c0 c1' y1 zz1 e2
  have c0 := y2.c0; have c1' := y2.c1
  go_wp2_with fail
  refine (text_ok b' k' _ ho').mono ?_
  rintro e v3 ⟨rfl, e3⟩
  have zz3 := zz2.trans (e3.mono zz2.size)
  clear c0 c1' y2 zz2 e3
  have hcmp := HC.out
  go_wp2_with fail
  refine (lives_true _ (HV.out.below zz3)).mono ?_
  rintro e v4 ⟨rfl, e4⟩
  have zz4 := zz3.trans (e4.mono zz3.size)
  go_wp2
  go_ret
  exact ⟨rfl, zz4⟩

set_option maxHeartbeats 2000000 in
set_option maxRecDepth 100000 in
theorem text_v0b_none (k : Nat) (s : ByteArray) (w : World) (hV : Vars w) (ho : Ok 0 k) (hk : 10 ≤ k) (hlim : s.size ≤ 281474976710656) (hs : s.size ≤ 20) (hno : ∀ b, ∀ k : Nat, Ok b k → s.data.toList ≠ txt b k) :
    Calls Tryd.prog 6 #[nd 0 k, .string s] w fun e w' => e = .returned (.bool true) ∧ Below w.heap.size w w' := by
  have hcmp0 : ∀ j : Nat, (txtOf j == s.toList) = false := by
    intro j
    have ho := ok_of j
    have h1 := ho.lo
    have : txtOf j ≠ s.toList := fun e => hno (bedOf j) (atOf j).toNat (by rw [Int.toNat_of_nonneg (by omega)]; exact ho) (by rw [← Lib.toList_data]; exact e.symm)
    simpa using this
  have HC := Lib.hid hcmp0; clear hcmp0
  have HN := Lib.hid hno; clear hno
  have h1 := ho.lo; have h2 := ho.hi
  have HV := Lib.hid hV; clear hV
  have hd : decide (20 < (s.size : Int)) = false := by simp; omega
  have hd1 : decide ((9 : Int) < k) = true := by simp; omega
  obtain ⟨c2, hc2⟩ : ∃ c2 : UInt8, c2 = UInt8.ofNat (48 + k % 10) := ⟨_, rfl⟩
  have e2 : c2.toNat = 48 + k % 10 := by rw [hc2]; exact digit _ (by omega)
  have v2 := conv_one (48 + k % 10) c2 e2 (48 + (k : Int) % 10) (by omega)
  obtain ⟨c1, hc1⟩ : ∃ c1 : UInt8, c1 = UInt8.ofNat (48 + k / 10) := ⟨_, rfl⟩
  have e1 : c1.toNat = 48 + k / 10 := by rw [hc1]; exact digit _ (by omega)
  have v1 := conv_one (48 + k / 10) c1 e1 (48 + (k : Int) / 10) (by omega)
  have p1 := add_one [102] c1 (by simp)
  have p2 := add_one [102, c1] c2 (by simp)
  have ht : txt 0 k = [102, c1, c2] := by simp [txt, digs, hc1, hc2]; omega
  clear hc1 hc2 e1 e2
  have HT := Lib.hid ht; clear ht
  have x0 := Box.new w 0 k
  have z0 := below_alloc' w (nbox 0 k)
  go_enter Tryd.func6, Tryd.ntmps6
  go_wp2_with fail
  refine (valid_ok_b 0 k _ ho).mono ?_
  rintro e w1 ⟨rfl, b1⟩
  have x1 := x0.to b1; have z1 := z0.trans (b1.mono (by simp))
  clear x0 z0 b1
  have c0 := x1.c0; have c1' := x1.c1; have cs := x1.size; have cs1 : w.heap.size < w1.heap.size + 1 := by omega
  have cs2 : w.heap.size < w1.heap.size + 1 + 1 := by omega
  go_wp2_with fail
  refine (text_ok 0 k _ ho).mono ?_
  rintro e w2 ⟨rfl, b2⟩
  rw [HT.out]
  have x2 := (((x1.alloc _).alloc _).alloc _).to b2; have z2 := (((z1.alloc z1.size _).alloc (by have := z1.size; simp <;> omega) _).alloc (by have := z1.size; simp <;> omega) _).trans (b2.mono (by have := z1.size; simp <;> omega))
  clear x1 z1 b2 c0 c1' cs cs1 cs2 v2 p2 v1 p1
  go_wp2_with fail
  refine (parse_hit ⟨([102, c1, c2]).toArray⟩ 0 k _ (HV.out.below z2) (by show ([102, c1, c2]).toArray.size ≤ _; simp) ho (by rw [HT.out])).mono ?_
  rintro e w3 ⟨rfl, b3⟩
  have x3 := (x2.to b3).alloc (nbox 0 k); have y3 := Box.new w3 0 k; have z3 := (z2.trans (b3.mono z2.size))
  have z4 := z3.alloc z3.size (nbox 0 k)
  clear x2 z2 b3
  have c0 := x3.c0; have c1' := x3.c1; have d0 := y3.c0; have d1 := y3.c1
  go_wp2_with fail
  clear c0 c1' d0 d1 x3 y3 z3
  refine (parse_none s _ (HV.out.below z4) hlim HN.out).mono ?_
  rintro e v1 ⟨rfl, e1⟩
  have zz := z4.trans (e1.mono z4.size)
  have K := keep_one 0 0 HV.out zz
  clear z4 e1 zz
  go_wp2_with fail
  go_loopw [10] (fun i wr => ∃ j : Nat, j ≤ 80 ∧ i = .int .i64 j ∧ Keep2 w v1.heap.size 0 0 v1.heap.size 0 0 wr) (fun i _ => 80 - (intOf i).toNat)
  case atStart => exact ⟨0, by omega, rfl, K⟩
  case round =>
    clear K
    obtain ⟨j, hj, rfl, K⟩ := hrel
    by_cases hlt : j < 80
    · have hcmp := HC.out j
      go_wp2_with fail
      refine (needle_b j _ (by omega) (by omega)).mono ?_
      rintro e v2 ⟨rfl, e2⟩
      have K2 := K.to e2
      clear K e2
      go_wp2_with fail
      refine (text_of j _).mono ?_
      rintro e v3 ⟨rfl, e3⟩
      have K3 := K2.to e3
      clear K2 e3
      go_wp2
      go_roundw
      case rel => exact ⟨j + 1, by omega, by go_num, K3⟩
      case measure => simp [intOf]; omega
    · obtain rfl : j = 80 := by omega
      have c0 := K.x.c0; have c1' := K.x.c1
      go_wp2_with fail
      clear c0 c1'
      refine (lives_true _ K.v).mono ?_
      rintro e v2 ⟨rfl, e2⟩
      have zz2 := K.z.trans (e2.mono K.le)
      go_wp2
      go_ret
      exact ⟨rfl, zz2⟩

set_option maxHeartbeats 2000000 in
set_option maxRecDepth 100000 in
theorem text_v0s_hit (k : Nat) (s : ByteArray) (w : World) (hV : Vars w) (ho : Ok 0 k) (hk : k < 10) (hlim : s.size ≤ 281474976710656) (hs : s.size ≤ 20) (b' : Int) (k' : Nat) (ho' : Ok b' k') (ht' : s.data.toList = txt b' k') :
    Calls Tryd.prog 6 #[nd 0 k, .string s] w fun e w' => e = .returned (.bool true) ∧ Below w.heap.size w w' := by
  have hcmp0 : (txt b' k' == s.toList) = true := by rw [Lib.toList_data, ht']; simp
  have HC := Lib.hid hcmp0; clear hcmp0
  have HT' : Hid (s.data.toList = txt b' k') := Lib.hid ht'
  clear ht'
  have h1 := ho.lo; have h2 := ho.hi
  have HV := Lib.hid hV; clear hV
  have hd : decide (20 < (s.size : Int)) = false := by simp; omega
  have hd1 : decide ((9 : Int) < k) = false := by simp; omega
  obtain ⟨c2, hc2⟩ : ∃ c2 : UInt8, c2 = UInt8.ofNat (48 + k % 10) := ⟨_, rfl⟩
  have e2 : c2.toNat = 48 + k % 10 := by rw [hc2]; exact digit _ (by omega)
  have v2 := conv_one (48 + k % 10) c2 e2 (48 + (k : Int) % 10) (by omega)
  have p2 := add_one [102] c2 (by simp)
  have ht : txt 0 k = [102, c2] := by
    have hk10 : k % 10 = k := by omega
    simp [txt, digs, hc2, hk, hk10]
  clear hc2 e2
  have HT := Lib.hid ht; clear ht
  have x0 := Box.new w 0 k
  have z0 := below_alloc' w (nbox 0 k)
  go_enter Tryd.func6, Tryd.ntmps6
  go_wp2_with fail
  refine (valid_ok_b 0 k _ ho).mono ?_
  rintro e w1 ⟨rfl, b1⟩
  have x1 := x0.to b1; have z1 := z0.trans (b1.mono (by simp))
  clear x0 z0 b1
  have c0 := x1.c0; have c1' := x1.c1; have cs := x1.size; have cs1 : w.heap.size < w1.heap.size + 1 := by omega
  have cs2 : w.heap.size < w1.heap.size + 1 + 1 := by omega
  go_wp2_with fail
  refine (text_ok 0 k _ ho).mono ?_
  rintro e w2 ⟨rfl, b2⟩
  rw [HT.out]
  have x2 := ((x1.alloc _).alloc _).to b2; have z2 := ((z1.alloc z1.size _).alloc (by have := z1.size; simp <;> omega) _).trans (b2.mono (by have := z1.size; simp <;> omega))
  clear x1 z1 b2 c0 c1' cs cs1 cs2 v2 p2
  go_wp2_with fail
  refine (parse_hit ⟨([102, c2]).toArray⟩ 0 k _ (HV.out.below z2) (by show ([102, c2]).toArray.size ≤ _; simp) ho (by rw [HT.out])).mono ?_
  rintro e w3 ⟨rfl, b3⟩
  have x3 := (x2.to b3).alloc (nbox 0 k); have y3 := Box.new w3 0 k; have z3 := (z2.trans (b3.mono z2.size))
  have z4 := z3.alloc z3.size (nbox 0 k)
  clear x2 z2 b3
  have c0 := x3.c0; have c1' := x3.c1; have d0 := y3.c0; have d1 := y3.c1
  go_wp2_with fail
  clear c0 c1' d0 d1 x3 y3 z3
  refine (parse_hit s b' k' _ (HV.out.below z4) hlim ho' HT'.out).mono ?_
  rintro e v1 ⟨rfl, e1⟩
  have zz := z4.trans (e1.mono z4.size)
  have y1 := Box.new v1 b' k'
  have zz1 := zz.alloc zz.size (nbox b' k')
  clear z4 e1 zz
  have c0 := y1.c0; have c1' := y1.c1
  go_wp2_with fail
  refine (valid_ok_b b' k' _ ho').mono ?_
  rintro e v2 ⟨rfl, e2⟩
  have y2 := y1.to e2; have zz2 := zz1.trans (e2.mono zz1.size)
  clear c0 c1' y1 zz1 e2
  have c0 := y2.c0; have c1' := y2.c1
  go_wp2_with fail
  refine (text_ok b' k' _ ho').mono ?_
  rintro e v3 ⟨rfl, e3⟩
  have zz3 := zz2.trans (e3.mono zz2.size)
  clear c0 c1' y2 zz2 e3
  have hcmp := HC.out
  go_wp2_with fail
  refine (lives_true _ (HV.out.below zz3)).mono ?_
  rintro e v4 ⟨rfl, e4⟩
  have zz4 := zz3.trans (e4.mono zz3.size)
  go_wp2
  go_ret
  exact ⟨rfl, zz4⟩

set_option maxHeartbeats 2000000 in
set_option maxRecDepth 100000 in
theorem text_v0s_none (k : Nat) (s : ByteArray) (w : World) (hV : Vars w) (ho : Ok 0 k) (hk : k < 10) (hlim : s.size ≤ 281474976710656) (hs : s.size ≤ 20) (hno : ∀ b, ∀ k : Nat, Ok b k → s.data.toList ≠ txt b k) :
    Calls Tryd.prog 6 #[nd 0 k, .string s] w fun e w' => e = .returned (.bool true) ∧ Below w.heap.size w w' := by
  have hcmp0 : ∀ j : Nat, (txtOf j == s.toList) = false := by
    intro j
    have ho := ok_of j
    have h1 := ho.lo
    have : txtOf j ≠ s.toList := fun e => hno (bedOf j) (atOf j).toNat (by rw [Int.toNat_of_nonneg (by omega)]; exact ho) (by rw [← Lib.toList_data]; exact e.symm)
    simpa using this
  have HC := Lib.hid hcmp0; clear hcmp0
  have HN := Lib.hid hno; clear hno
  have h1 := ho.lo; have h2 := ho.hi
  have HV := Lib.hid hV; clear hV
  have hd : decide (20 < (s.size : Int)) = false := by simp; omega
  have hd1 : decide ((9 : Int) < k) = false := by simp; omega
  obtain ⟨c2, hc2⟩ : ∃ c2 : UInt8, c2 = UInt8.ofNat (48 + k % 10) := ⟨_, rfl⟩
  have e2 : c2.toNat = 48 + k % 10 := by rw [hc2]; exact digit _ (by omega)
  have v2 := conv_one (48 + k % 10) c2 e2 (48 + (k : Int) % 10) (by omega)
  have p2 := add_one [102] c2 (by simp)
  have ht : txt 0 k = [102, c2] := by
    have hk10 : k % 10 = k := by omega
    simp [txt, digs, hc2, hk, hk10]
  clear hc2 e2
  have HT := Lib.hid ht; clear ht
  have x0 := Box.new w 0 k
  have z0 := below_alloc' w (nbox 0 k)
  go_enter Tryd.func6, Tryd.ntmps6
  go_wp2_with fail
  refine (valid_ok_b 0 k _ ho).mono ?_
  rintro e w1 ⟨rfl, b1⟩
  have x1 := x0.to b1; have z1 := z0.trans (b1.mono (by simp))
  clear x0 z0 b1
  have c0 := x1.c0; have c1' := x1.c1; have cs := x1.size; have cs1 : w.heap.size < w1.heap.size + 1 := by omega
  have cs2 : w.heap.size < w1.heap.size + 1 + 1 := by omega
  go_wp2_with fail
  refine (text_ok 0 k _ ho).mono ?_
  rintro e w2 ⟨rfl, b2⟩
  rw [HT.out]
  have x2 := ((x1.alloc _).alloc _).to b2; have z2 := ((z1.alloc z1.size _).alloc (by have := z1.size; simp <;> omega) _).trans (b2.mono (by have := z1.size; simp <;> omega))
  clear x1 z1 b2 c0 c1' cs cs1 cs2 v2 p2
  go_wp2_with fail
  refine (parse_hit ⟨([102, c2]).toArray⟩ 0 k _ (HV.out.below z2) (by show ([102, c2]).toArray.size ≤ _; simp) ho (by rw [HT.out])).mono ?_
  rintro e w3 ⟨rfl, b3⟩
  have x3 := (x2.to b3).alloc (nbox 0 k); have y3 := Box.new w3 0 k; have z3 := (z2.trans (b3.mono z2.size))
  have z4 := z3.alloc z3.size (nbox 0 k)
  clear x2 z2 b3
  have c0 := x3.c0; have c1' := x3.c1; have d0 := y3.c0; have d1 := y3.c1
  go_wp2_with fail
  clear c0 c1' d0 d1 x3 y3 z3
  refine (parse_none s _ (HV.out.below z4) hlim HN.out).mono ?_
  rintro e v1 ⟨rfl, e1⟩
  have zz := z4.trans (e1.mono z4.size)
  have K := keep_one 0 0 HV.out zz
  clear z4 e1 zz
  go_wp2_with fail
  go_loopw [10] (fun i wr => ∃ j : Nat, j ≤ 80 ∧ i = .int .i64 j ∧ Keep2 w v1.heap.size 0 0 v1.heap.size 0 0 wr) (fun i _ => 80 - (intOf i).toNat)
  case atStart => exact ⟨0, by omega, rfl, K⟩
  case round =>
    clear K
    obtain ⟨j, hj, rfl, K⟩ := hrel
    by_cases hlt : j < 80
    · have hcmp := HC.out j
      go_wp2_with fail
      refine (needle_b j _ (by omega) (by omega)).mono ?_
      rintro e v2 ⟨rfl, e2⟩
      have K2 := K.to e2
      clear K e2
      go_wp2_with fail
      refine (text_of j _).mono ?_
      rintro e v3 ⟨rfl, e3⟩
      have K3 := K2.to e3
      clear K2 e3
      go_wp2
      go_roundw
      case rel => exact ⟨j + 1, by omega, by go_num, K3⟩
      case measure => simp [intOf]; omega
    · obtain rfl : j = 80 := by omega
      have c0 := K.x.c0; have c1' := K.x.c1
      go_wp2_with fail
      clear c0 c1'
      refine (lives_true _ K.v).mono ?_
      rintro e v2 ⟨rfl, e2⟩
      have zz2 := K.z.trans (e2.mono K.le)
      go_wp2
      go_ret
      exact ⟨rfl, zz2⟩

set_option maxHeartbeats 2000000 in
set_option maxRecDepth 100000 in
theorem text_v1b_hit (k : Nat) (s : ByteArray) (w : World) (hV : Vars w) (ho : Ok 1 k) (hk : 10 ≤ k) (hlim : s.size ≤ 281474976710656) (hs : s.size ≤ 20) (b' : Int) (k' : Nat) (ho' : Ok b' k') (ht' : s.data.toList = txt b' k') :
    Calls Tryd.prog 6 #[nd 1 k, .string s] w fun e w' => e = .returned (.bool true) ∧ Below w.heap.size w w' := by
  have hcmp0 : (txt b' k' == s.toList) = true := by rw [Lib.toList_data, ht']; simp
  have HC := Lib.hid hcmp0; clear hcmp0
  have HT' : Hid (s.data.toList = txt b' k') := Lib.hid ht'
  clear ht'
  have h1 := ho.lo; have h2 := ho.hi
  have HV := Lib.hid hV; clear hV
  have hd : decide (20 < (s.size : Int)) = false := by simp; omega
  have hd1 : decide ((9 : Int) < k) = true := by simp; omega
  obtain ⟨c2, hc2⟩ : ∃ c2 : UInt8, c2 = UInt8.ofNat (48 + k % 10) := ⟨_, rfl⟩
  have e2 : c2.toNat = 48 + k % 10 := by rw [hc2]; exact digit _ (by omega)
  have v2 := conv_one (48 + k % 10) c2 e2 (48 + (k : Int) % 10) (by omega)
  obtain ⟨c1, hc1⟩ : ∃ c1 : UInt8, c1 = UInt8.ofNat (48 + k / 10) := ⟨_, rfl⟩
  have e1 : c1.toNat = 48 + k / 10 := by rw [hc1]; exact digit _ (by omega)
  have v1 := conv_one (48 + k / 10) c1 e1 (48 + (k : Int) / 10) (by omega)
  have p1 := add_one [98] c1 (by simp)
  have p2 := add_one [98, c1] c2 (by simp)
  have ht : txt 1 k = [98, c1, c2] := by simp [txt, digs, hc1, hc2]; omega
  clear hc1 hc2 e1 e2
  have HT := Lib.hid ht; clear ht
  have x0 := Box.new w 1 k
  have z0 := below_alloc' w (nbox 1 k)
  go_enter Tryd.func6, Tryd.ntmps6
  go_wp2_with fail
  refine (valid_ok_b 1 k _ ho).mono ?_
  rintro e w1 ⟨rfl, b1⟩
  have x1 := x0.to b1; have z1 := z0.trans (b1.mono (by simp))
  clear x0 z0 b1
  have c0 := x1.c0; have c1' := x1.c1; have cs := x1.size; have cs1 : w.heap.size < w1.heap.size + 1 := by omega
  have cs2 : w.heap.size < w1.heap.size + 1 + 1 := by omega
  go_wp2_with fail
  refine (text_ok 1 k _ ho).mono ?_
  rintro e w2 ⟨rfl, b2⟩
  rw [HT.out]
  have x2 := (((x1.alloc _).alloc _).alloc _).to b2; have z2 := (((z1.alloc z1.size _).alloc (by have := z1.size; simp <;> omega) _).alloc (by have := z1.size; simp <;> omega) _).trans (b2.mono (by have := z1.size; simp <;> omega))
  clear x1 z1 b2 c0 c1' cs cs1 cs2 v2 p2 v1 p1
  go_wp2_with fail
  refine (parse_hit ⟨([98, c1, c2]).toArray⟩ 1 k _ (HV.out.below z2) (by show ([98, c1, c2]).toArray.size ≤ _; simp) ho (by rw [HT.out])).mono ?_
  rintro e w3 ⟨rfl, b3⟩
  have x3 := (x2.to b3).alloc (nbox 1 k); have y3 := Box.new w3 1 k; have z3 := (z2.trans (b3.mono z2.size))
  have z4 := z3.alloc z3.size (nbox 1 k)
  clear x2 z2 b3
  have c0 := x3.c0; have c1' := x3.c1; have d0 := y3.c0; have d1 := y3.c1
  go_wp2_with fail
  clear c0 c1' d0 d1 x3 y3 z3
  refine (parse_hit s b' k' _ (HV.out.below z4) hlim ho' HT'.out).mono ?_
  rintro e v1 ⟨rfl, e1⟩
  have zz := z4.trans (e1.mono z4.size)
  have y1 := Box.new v1 b' k'
  have zz1 := zz.alloc zz.size (nbox b' k')
  clear z4 e1 zz
  have c0 := y1.c0; have c1' := y1.c1
  go_wp2_with fail
  refine (valid_ok_b b' k' _ ho').mono ?_
  rintro e v2 ⟨rfl, e2⟩
  have y2 := y1.to e2; have zz2 := zz1.trans (e2.mono zz1.size)
  clear c0 c1' y1 zz1 e2
  have c0 := y2.c0; have c1' := y2.c1
  go_wp2_with fail
  refine (text_ok b' k' _ ho').mono ?_
  rintro e v3 ⟨rfl, e3⟩
  have zz3 := zz2.trans (e3.mono zz2.size)
  clear c0 c1' y2 zz2 e3
  have hcmp := HC.out
  go_wp2_with fail
  refine (lives_true _ (HV.out.below zz3)).mono ?_
  rintro e v4 ⟨rfl, e4⟩
  have zz4 := zz3.trans (e4.mono zz3.size)
  go_wp2
  go_ret
  exact ⟨rfl, zz4⟩

set_option maxHeartbeats 2000000 in
set_option maxRecDepth 100000 in
theorem text_v1b_none (k : Nat) (s : ByteArray) (w : World) (hV : Vars w) (ho : Ok 1 k) (hk : 10 ≤ k) (hlim : s.size ≤ 281474976710656) (hs : s.size ≤ 20) (hno : ∀ b, ∀ k : Nat, Ok b k → s.data.toList ≠ txt b k) :
    Calls Tryd.prog 6 #[nd 1 k, .string s] w fun e w' => e = .returned (.bool true) ∧ Below w.heap.size w w' := by
  have hcmp0 : ∀ j : Nat, (txtOf j == s.toList) = false := by
    intro j
    have ho := ok_of j
    have h1 := ho.lo
    have : txtOf j ≠ s.toList := fun e => hno (bedOf j) (atOf j).toNat (by rw [Int.toNat_of_nonneg (by omega)]; exact ho) (by rw [← Lib.toList_data]; exact e.symm)
    simpa using this
  have HC := Lib.hid hcmp0; clear hcmp0
  have HN := Lib.hid hno; clear hno
  have h1 := ho.lo; have h2 := ho.hi
  have HV := Lib.hid hV; clear hV
  have hd : decide (20 < (s.size : Int)) = false := by simp; omega
  have hd1 : decide ((9 : Int) < k) = true := by simp; omega
  obtain ⟨c2, hc2⟩ : ∃ c2 : UInt8, c2 = UInt8.ofNat (48 + k % 10) := ⟨_, rfl⟩
  have e2 : c2.toNat = 48 + k % 10 := by rw [hc2]; exact digit _ (by omega)
  have v2 := conv_one (48 + k % 10) c2 e2 (48 + (k : Int) % 10) (by omega)
  obtain ⟨c1, hc1⟩ : ∃ c1 : UInt8, c1 = UInt8.ofNat (48 + k / 10) := ⟨_, rfl⟩
  have e1 : c1.toNat = 48 + k / 10 := by rw [hc1]; exact digit _ (by omega)
  have v1 := conv_one (48 + k / 10) c1 e1 (48 + (k : Int) / 10) (by omega)
  have p1 := add_one [98] c1 (by simp)
  have p2 := add_one [98, c1] c2 (by simp)
  have ht : txt 1 k = [98, c1, c2] := by simp [txt, digs, hc1, hc2]; omega
  clear hc1 hc2 e1 e2
  have HT := Lib.hid ht; clear ht
  have x0 := Box.new w 1 k
  have z0 := below_alloc' w (nbox 1 k)
  go_enter Tryd.func6, Tryd.ntmps6
  go_wp2_with fail
  refine (valid_ok_b 1 k _ ho).mono ?_
  rintro e w1 ⟨rfl, b1⟩
  have x1 := x0.to b1; have z1 := z0.trans (b1.mono (by simp))
  clear x0 z0 b1
  have c0 := x1.c0; have c1' := x1.c1; have cs := x1.size; have cs1 : w.heap.size < w1.heap.size + 1 := by omega
  have cs2 : w.heap.size < w1.heap.size + 1 + 1 := by omega
  go_wp2_with fail
  refine (text_ok 1 k _ ho).mono ?_
  rintro e w2 ⟨rfl, b2⟩
  rw [HT.out]
  have x2 := (((x1.alloc _).alloc _).alloc _).to b2; have z2 := (((z1.alloc z1.size _).alloc (by have := z1.size; simp <;> omega) _).alloc (by have := z1.size; simp <;> omega) _).trans (b2.mono (by have := z1.size; simp <;> omega))
  clear x1 z1 b2 c0 c1' cs cs1 cs2 v2 p2 v1 p1
  go_wp2_with fail
  refine (parse_hit ⟨([98, c1, c2]).toArray⟩ 1 k _ (HV.out.below z2) (by show ([98, c1, c2]).toArray.size ≤ _; simp) ho (by rw [HT.out])).mono ?_
  rintro e w3 ⟨rfl, b3⟩
  have x3 := (x2.to b3).alloc (nbox 1 k); have y3 := Box.new w3 1 k; have z3 := (z2.trans (b3.mono z2.size))
  have z4 := z3.alloc z3.size (nbox 1 k)
  clear x2 z2 b3
  have c0 := x3.c0; have c1' := x3.c1; have d0 := y3.c0; have d1 := y3.c1
  go_wp2_with fail
  clear c0 c1' d0 d1 x3 y3 z3
  refine (parse_none s _ (HV.out.below z4) hlim HN.out).mono ?_
  rintro e v1 ⟨rfl, e1⟩
  have zz := z4.trans (e1.mono z4.size)
  have K := keep_one 0 0 HV.out zz
  clear z4 e1 zz
  go_wp2_with fail
  go_loopw [10] (fun i wr => ∃ j : Nat, j ≤ 80 ∧ i = .int .i64 j ∧ Keep2 w v1.heap.size 0 0 v1.heap.size 0 0 wr) (fun i _ => 80 - (intOf i).toNat)
  case atStart => exact ⟨0, by omega, rfl, K⟩
  case round =>
    clear K
    obtain ⟨j, hj, rfl, K⟩ := hrel
    by_cases hlt : j < 80
    · have hcmp := HC.out j
      go_wp2_with fail
      refine (needle_b j _ (by omega) (by omega)).mono ?_
      rintro e v2 ⟨rfl, e2⟩
      have K2 := K.to e2
      clear K e2
      go_wp2_with fail
      refine (text_of j _).mono ?_
      rintro e v3 ⟨rfl, e3⟩
      have K3 := K2.to e3
      clear K2 e3
      go_wp2
      go_roundw
      case rel => exact ⟨j + 1, by omega, by go_num, K3⟩
      case measure => simp [intOf]; omega
    · obtain rfl : j = 80 := by omega
      have c0 := K.x.c0; have c1' := K.x.c1
      go_wp2_with fail
      clear c0 c1'
      refine (lives_true _ K.v).mono ?_
      rintro e v2 ⟨rfl, e2⟩
      have zz2 := K.z.trans (e2.mono K.le)
      go_wp2
      go_ret
      exact ⟨rfl, zz2⟩

set_option maxHeartbeats 2000000 in
set_option maxRecDepth 100000 in
theorem text_v1s_hit (k : Nat) (s : ByteArray) (w : World) (hV : Vars w) (ho : Ok 1 k) (hk : k < 10) (hlim : s.size ≤ 281474976710656) (hs : s.size ≤ 20) (b' : Int) (k' : Nat) (ho' : Ok b' k') (ht' : s.data.toList = txt b' k') :
    Calls Tryd.prog 6 #[nd 1 k, .string s] w fun e w' => e = .returned (.bool true) ∧ Below w.heap.size w w' := by
  have hcmp0 : (txt b' k' == s.toList) = true := by rw [Lib.toList_data, ht']; simp
  have HC := Lib.hid hcmp0; clear hcmp0
  have HT' : Hid (s.data.toList = txt b' k') := Lib.hid ht'
  clear ht'
  have h1 := ho.lo; have h2 := ho.hi
  have HV := Lib.hid hV; clear hV
  have hd : decide (20 < (s.size : Int)) = false := by simp; omega
  have hd1 : decide ((9 : Int) < k) = false := by simp; omega
  obtain ⟨c2, hc2⟩ : ∃ c2 : UInt8, c2 = UInt8.ofNat (48 + k % 10) := ⟨_, rfl⟩
  have e2 : c2.toNat = 48 + k % 10 := by rw [hc2]; exact digit _ (by omega)
  have v2 := conv_one (48 + k % 10) c2 e2 (48 + (k : Int) % 10) (by omega)
  have p2 := add_one [98] c2 (by simp)
  have ht : txt 1 k = [98, c2] := by
    have hk10 : k % 10 = k := by omega
    simp [txt, digs, hc2, hk, hk10]
  clear hc2 e2
  have HT := Lib.hid ht; clear ht
  have x0 := Box.new w 1 k
  have z0 := below_alloc' w (nbox 1 k)
  go_enter Tryd.func6, Tryd.ntmps6
  go_wp2_with fail
  refine (valid_ok_b 1 k _ ho).mono ?_
  rintro e w1 ⟨rfl, b1⟩
  have x1 := x0.to b1; have z1 := z0.trans (b1.mono (by simp))
  clear x0 z0 b1
  have c0 := x1.c0; have c1' := x1.c1; have cs := x1.size; have cs1 : w.heap.size < w1.heap.size + 1 := by omega
  have cs2 : w.heap.size < w1.heap.size + 1 + 1 := by omega
  go_wp2_with fail
  refine (text_ok 1 k _ ho).mono ?_
  rintro e w2 ⟨rfl, b2⟩
  rw [HT.out]
  have x2 := ((x1.alloc _).alloc _).to b2; have z2 := ((z1.alloc z1.size _).alloc (by have := z1.size; simp <;> omega) _).trans (b2.mono (by have := z1.size; simp <;> omega))
  clear x1 z1 b2 c0 c1' cs cs1 cs2 v2 p2
  go_wp2_with fail
  refine (parse_hit ⟨([98, c2]).toArray⟩ 1 k _ (HV.out.below z2) (by show ([98, c2]).toArray.size ≤ _; simp) ho (by rw [HT.out])).mono ?_
  rintro e w3 ⟨rfl, b3⟩
  have x3 := (x2.to b3).alloc (nbox 1 k); have y3 := Box.new w3 1 k; have z3 := (z2.trans (b3.mono z2.size))
  have z4 := z3.alloc z3.size (nbox 1 k)
  clear x2 z2 b3
  have c0 := x3.c0; have c1' := x3.c1; have d0 := y3.c0; have d1 := y3.c1
  go_wp2_with fail
  clear c0 c1' d0 d1 x3 y3 z3
  refine (parse_hit s b' k' _ (HV.out.below z4) hlim ho' HT'.out).mono ?_
  rintro e v1 ⟨rfl, e1⟩
  have zz := z4.trans (e1.mono z4.size)
  have y1 := Box.new v1 b' k'
  have zz1 := zz.alloc zz.size (nbox b' k')
  clear z4 e1 zz
  have c0 := y1.c0; have c1' := y1.c1
  go_wp2_with fail
  refine (valid_ok_b b' k' _ ho').mono ?_
  rintro e v2 ⟨rfl, e2⟩
  have y2 := y1.to e2; have zz2 := zz1.trans (e2.mono zz1.size)
  clear c0 c1' y1 zz1 e2
  have c0 := y2.c0; have c1' := y2.c1
  go_wp2_with fail
  refine (text_ok b' k' _ ho').mono ?_
  rintro e v3 ⟨rfl, e3⟩
  have zz3 := zz2.trans (e3.mono zz2.size)
  clear c0 c1' y2 zz2 e3
  have hcmp := HC.out
  go_wp2_with fail
  refine (lives_true _ (HV.out.below zz3)).mono ?_
  rintro e v4 ⟨rfl, e4⟩
  have zz4 := zz3.trans (e4.mono zz3.size)
  go_wp2
  go_ret
  exact ⟨rfl, zz4⟩

set_option maxHeartbeats 2000000 in
set_option maxRecDepth 100000 in
theorem text_v1s_none (k : Nat) (s : ByteArray) (w : World) (hV : Vars w) (ho : Ok 1 k) (hk : k < 10) (hlim : s.size ≤ 281474976710656) (hs : s.size ≤ 20) (hno : ∀ b, ∀ k : Nat, Ok b k → s.data.toList ≠ txt b k) :
    Calls Tryd.prog 6 #[nd 1 k, .string s] w fun e w' => e = .returned (.bool true) ∧ Below w.heap.size w w' := by
  have hcmp0 : ∀ j : Nat, (txtOf j == s.toList) = false := by
    intro j
    have ho := ok_of j
    have h1 := ho.lo
    have : txtOf j ≠ s.toList := fun e => hno (bedOf j) (atOf j).toNat (by rw [Int.toNat_of_nonneg (by omega)]; exact ho) (by rw [← Lib.toList_data]; exact e.symm)
    simpa using this
  have HC := Lib.hid hcmp0; clear hcmp0
  have HN := Lib.hid hno; clear hno
  have h1 := ho.lo; have h2 := ho.hi
  have HV := Lib.hid hV; clear hV
  have hd : decide (20 < (s.size : Int)) = false := by simp; omega
  have hd1 : decide ((9 : Int) < k) = false := by simp; omega
  obtain ⟨c2, hc2⟩ : ∃ c2 : UInt8, c2 = UInt8.ofNat (48 + k % 10) := ⟨_, rfl⟩
  have e2 : c2.toNat = 48 + k % 10 := by rw [hc2]; exact digit _ (by omega)
  have v2 := conv_one (48 + k % 10) c2 e2 (48 + (k : Int) % 10) (by omega)
  have p2 := add_one [98] c2 (by simp)
  have ht : txt 1 k = [98, c2] := by
    have hk10 : k % 10 = k := by omega
    simp [txt, digs, hc2, hk, hk10]
  clear hc2 e2
  have HT := Lib.hid ht; clear ht
  have x0 := Box.new w 1 k
  have z0 := below_alloc' w (nbox 1 k)
  go_enter Tryd.func6, Tryd.ntmps6
  go_wp2_with fail
  refine (valid_ok_b 1 k _ ho).mono ?_
  rintro e w1 ⟨rfl, b1⟩
  have x1 := x0.to b1; have z1 := z0.trans (b1.mono (by simp))
  clear x0 z0 b1
  have c0 := x1.c0; have c1' := x1.c1; have cs := x1.size; have cs1 : w.heap.size < w1.heap.size + 1 := by omega
  have cs2 : w.heap.size < w1.heap.size + 1 + 1 := by omega
  go_wp2_with fail
  refine (text_ok 1 k _ ho).mono ?_
  rintro e w2 ⟨rfl, b2⟩
  rw [HT.out]
  have x2 := ((x1.alloc _).alloc _).to b2; have z2 := ((z1.alloc z1.size _).alloc (by have := z1.size; simp <;> omega) _).trans (b2.mono (by have := z1.size; simp <;> omega))
  clear x1 z1 b2 c0 c1' cs cs1 cs2 v2 p2
  go_wp2_with fail
  refine (parse_hit ⟨([98, c2]).toArray⟩ 1 k _ (HV.out.below z2) (by show ([98, c2]).toArray.size ≤ _; simp) ho (by rw [HT.out])).mono ?_
  rintro e w3 ⟨rfl, b3⟩
  have x3 := (x2.to b3).alloc (nbox 1 k); have y3 := Box.new w3 1 k; have z3 := (z2.trans (b3.mono z2.size))
  have z4 := z3.alloc z3.size (nbox 1 k)
  clear x2 z2 b3
  have c0 := x3.c0; have c1' := x3.c1; have d0 := y3.c0; have d1 := y3.c1
  go_wp2_with fail
  clear c0 c1' d0 d1 x3 y3 z3
  refine (parse_none s _ (HV.out.below z4) hlim HN.out).mono ?_
  rintro e v1 ⟨rfl, e1⟩
  have zz := z4.trans (e1.mono z4.size)
  have K := keep_one 0 0 HV.out zz
  clear z4 e1 zz
  go_wp2_with fail
  go_loopw [10] (fun i wr => ∃ j : Nat, j ≤ 80 ∧ i = .int .i64 j ∧ Keep2 w v1.heap.size 0 0 v1.heap.size 0 0 wr) (fun i _ => 80 - (intOf i).toNat)
  case atStart => exact ⟨0, by omega, rfl, K⟩
  case round =>
    clear K
    obtain ⟨j, hj, rfl, K⟩ := hrel
    by_cases hlt : j < 80
    · have hcmp := HC.out j
      go_wp2_with fail
      refine (needle_b j _ (by omega) (by omega)).mono ?_
      rintro e v2 ⟨rfl, e2⟩
      have K2 := K.to e2
      clear K e2
      go_wp2_with fail
      refine (text_of j _).mono ?_
      rintro e v3 ⟨rfl, e3⟩
      have K3 := K2.to e3
      clear K2 e3
      go_wp2
      go_roundw
      case rel => exact ⟨j + 1, by omega, by go_num, K3⟩
      case measure => simp [intOf]; omega
    · obtain rfl : j = 80 := by omega
      have c0 := K.x.c0; have c1' := K.x.c1
      go_wp2_with fail
      clear c0 c1'
      refine (lives_true _ K.v).mono ?_
      rintro e v2 ⟨rfl, e2⟩
      have zz2 := K.z.trans (e2.mono K.le)
      go_wp2
      go_ret
      exact ⟨rfl, zz2⟩

theorem NeedlesText_walk (b a : Int) (w0 : (Lit.int .u8 b).wf = true) (_ : (Lit.int .i64 a).wf = true) (s : ByteArray) (_ : s.size ≤ maxLen) (hlim : s.size ≤ 281474976710656) (w : World) (hV : Vars w) :
    Calls Tryd.prog 6 #[nd b a, .string s] w fun e w' => e = .returned (.bool true) ∧ Below w.heap.size w w' := by
  obtain ⟨b0, _⟩ := bounds_u8 w0
  by_cases hs : 20 < s.size
  · exact text_long b a s w hV hs hlim
  · have hs' : s.size ≤ 20 := by omega
    by_cases hx : ∃ b, ∃ k : Nat, Ok b k ∧ s.data.toList = txt b k
    · obtain ⟨b', k', ho', ht'⟩ := hx
      by_cases ho : Ok b a
      · obtain ⟨k, rfl⟩ : ∃ k : Nat, a = k := ⟨a.toNat, by have := ho.lo; omega⟩
        rcases ho.bed with rfl | rfl
        · by_cases hk : 10 ≤ k
          · exact text_v0b_hit k s w hV ho hk hlim hs' b' k' ho' ht'
          · exact text_v0s_hit k s w hV ho (by omega) hlim hs' b' k' ho' ht'
        · by_cases hk : 10 ≤ k
          · exact text_v1b_hit k s w hV ho hk hlim hs' b' k' ho' ht'
          · exact text_v1s_hit k s w hV ho (by omega) hlim hs' b' k' ho' ht'
      · exact text_inv_hit b a s w hV b0 ho hlim hs' b' k' ho' ht'
    · have hno : ∀ b, ∀ k : Nat, Ok b k → s.data.toList ≠ txt b k := fun b k ho e => hx ⟨b, k, ho, e⟩
      by_cases ho : Ok b a
      · obtain ⟨k, rfl⟩ : ∃ k : Nat, a = k := ⟨a.toNat, by have := ho.lo; omega⟩
        rcases ho.bed with rfl | rfl
        · by_cases hk : 10 ≤ k
          · exact text_v0b_none k s w hV ho hk hlim hs' hno
          · exact text_v0s_none k s w hV ho (by omega) hlim hs' hno
        · by_cases hk : 10 ≤ k
          · exact text_v1b_none k s w hV ho hk hlim hs' hno
          · exact text_v1s_none k s w hV ho (by omega) hlim hs' hno
      · exact text_inv_none b a s w hV b0 ho hlim hs' hno
end Go.Proofs.YtofgnfnngljilaaDoor
