/- The contract of needles.Text: the letter of the bed and the digits; nothing where the needle is not valid. -/
import Derived.Test.YtofgnfnngljilaaDoorNdlAt
import Derived.Test.YtofgnfnngljilaaDoorShelf
import Derived.Deep.QuietTactic
import Derived.BigQuiet
namespace Go.Proofs.YtofgnfnngljilaaDoor
open Go.RowKit

/-- The digits of a number below 100. -/
def digs (k : Nat) : List UInt8 := if k < 10 then [UInt8.ofNat (48 + k)] else [UInt8.ofNat (48 + k / 10), UInt8.ofNat (48 + k % 10)]
theorem decDigits_eq (k : Nat) (h : k < 100) : Lib.decDigits k = digs k := by
  unfold digs
  rw [Lib.decDigits]
  by_cases h1 : k < 10
  · simp [h1]
  · rw [dif_neg h1, if_neg h1, Lib.decDigits, dif_pos (by omega)]; rfl
/-- The text of a needle. -/
def txt (b : Int) (k : Nat) : List UInt8 := (if b = 0 then 102 else 98) :: digs k
theorem itoa_k (k : Nat) (h : k < 100) (w : World) : Calls Tryd.prog 21 #[.int .i64 k] w fun e w' => e = .returned (.string ⟨(digs k).toArray⟩) ∧ w' = w := by
  rw [← decDigits_eq k h]; exact Tryd.strconv_Itoa_small k h w

theorem quiet_left {P : Program} {f : FuncId} {args : Array Value} {w : World} {n : Nat} {v : Value}
    (h : Calls P f args (w.drewN n) fun e w' => e = .returned v ∧ w.drewN n = w') : Calls P f args (w.drewN n) fun e w'' => e = .returned v ∧ ∃ m, w'' = w.drewN m :=
  h.mono fun _ _ ⟨he, hm⟩ => ⟨he, n, hm.symm⟩

theorem digs_len (k : Nat) : (digs k).length ≤ 2 := by unfold digs; split <;> simp
theorem add_txt (c : UInt8) (k : Nat) (w : World) : (Op.stringOp .add ⟨#[c]⟩ ⟨(digs k).toArray⟩).run Tryd.prog w = .ok (.string ⟨(c :: digs k).toArray⟩) w := by
  rw [run_string_add_sum w _ _ (by
    have h := digs_len k
    have h0 : (ByteArray.mk (digs k).toArray).size = (digs k).length := by show (digs k).toArray.size = _; simp
    have h1 : (ByteArray.mk #[c]).size = 1 := rfl
    omega), ByteArray.mk_append_mk]
  simp

theorem below_drewN {B : Nat} {a w : World} (h : Below B a w) (n : Nat) : Below B a (w.drewN n) := ⟨h.os, h.tape, h.output, h.size, h.block⟩

set_option maxHeartbeats 400000 in
theorem text_ok0 (k : Nat) (w : World) (h1 : 1 ≤ k) (h2 : k ≤ 40) : Calls Tryd.prog 17 #[nd 0 k] w fun e w' => e = .returned (.string ⟨(txt 0 k).toArray⟩) ∧ Below w.heap.size w w' := by
  have hadd := add_txt 102 k
  go_enter Tryd.func17, Tryd.ntmps17
  go_wp2_with (first | (go_at_call 10; refine (check_ok 0 k _ ⟨by simp, by omega, by omega⟩).mono ?_; rintro e w1 ⟨rfl, rfl⟩))
  go_quiet ((first | (go_at_call 19; exact quiet_left (bedName_0 _)) | (go_at_call 21; exact Calls.quiet_of_same (itoa_k k (by omega) _))))
  go_wp2
  go_ret
  exact ⟨rfl, below_drewN (((Below.refl _ _).alloc (by simp) _).alloc (by simp) _) _⟩
set_option maxHeartbeats 400000 in
theorem text_ok1 (k : Nat) (w : World) (h1 : 1 ≤ k) (h2 : k ≤ 40) : Calls Tryd.prog 17 #[nd 1 k] w fun e w' => e = .returned (.string ⟨(txt 1 k).toArray⟩) ∧ Below w.heap.size w w' := by
  have hadd := add_txt 98 k
  go_enter Tryd.func17, Tryd.ntmps17
  go_wp2_with (first | (go_at_call 10; refine (check_ok 1 k _ ⟨by simp, by omega, by omega⟩).mono ?_; rintro e w1 ⟨rfl, rfl⟩))
  go_quiet ((first | (go_at_call 19; exact quiet_left (bedName_1 _)) | (go_at_call 21; exact Calls.quiet_of_same (itoa_k k (by omega) _))))
  go_wp2
  go_ret
  exact ⟨rfl, below_drewN (((Below.refl _ _).alloc (by simp) _).alloc (by simp) _) _⟩
theorem text_ok (b : Int) (k : Nat) (w : World) (h : Ok b k) : Calls Tryd.prog 17 #[nd b k] w fun e w' => e = .returned (.string ⟨(txt b k).toArray⟩) ∧ Below w.heap.size w w' := by
  have h1 := h.lo
  have h2 := h.hi
  rcases h.bed with rfl | rfl
  · exact text_ok0 k w (by omega) (by omega)
  · exact text_ok1 k w (by omega) (by omega)
set_option maxHeartbeats 400000 in
theorem text_no (b a : Int) (w : World) (h : ¬ Ok b a) : Calls Tryd.prog 17 #[nd b a] w fun e w' => e = .returned (.string ⟨#[]⟩) ∧ Below w.heap.size w w' := by
  go_enter Tryd.func17, Tryd.ntmps17
  go_wp2_with (first | (go_at_call 10; refine (check_no b a _ h).mono ?_; rintro e w1 ⟨rfl, rfl⟩))
  go_ret
  exact ⟨rfl, ((Below.refl _ _).alloc (by simp) _).alloc (by simp) _⟩

/-! needles.Parse. -/
/-- The needle that a text names, or none. -/
def ParseRes (s : ByteArray) (w : World) (e : Ending) (w' : World) : Prop :=
  Below w.heap.size w w' ∧
    ((∃ b, ∃ k : Nat, Ok b k ∧ s.data.toList = txt b k ∧ e = .returned (.tuple #[nd b k, .int .i64 0])) ∨
     ((∀ b, ∀ k : Nat, Ok b k → s.data.toList ≠ txt b k) ∧ e = .returned (.tuple #[nd 0 0, .int .i64 4])))

set_option maxHeartbeats 400000 in
theorem parse_empty (w : World) : Calls Tryd.prog 18 #[.string ⟨#[]⟩] w fun e w' => e = .returned (.tuple #[nd 0 0, .int .i64 4]) ∧ Below w.heap.size w w' := by
  go_enter Tryd.func18, Tryd.ntmps18
  go_wp2
  refine bodyPost_ret (v := .tuple #[nd 0 0, .int .i64 4]) (by simp [results, Tryd.results18, go_sem]) rfl ⟨rfl, ?_⟩
  exact ((Below.refl _ _).alloc (by simp) _)

theorem gES : Tryd.prog.globalNamed "strconv.ErrSyntax" = some 0 := by kernel_rfl
theorem gER : Tryd.prog.globalNamed "strconv.ErrRange" = some 1 := by kernel_rfl
/-- The library's two sentinels hold some error each. -/
structure Vars (w : World) : Prop where
  es : ∃ tp p, w.var? Tryd.prog "strconv.ErrSyntax" = some #[.iface tp p]
  er : ∃ tp p, w.var? Tryd.prog "strconv.ErrRange" = some #[.iface tp p]
theorem var_lt {w : World} {n : String} {g : Nat} {cs : Array Value} (hg : Tryd.prog.globalNamed n = some g) (h : w.var? Tryd.prog n = some cs) : g < w.heap.size := by
  unfold World.var? at h
  rw [hg] at h
  by_cases hlt : g < w.heap.size
  · exact hlt
  · simp [Array.getElem?_eq_none (Nat.le_of_not_lt hlt)] at h
theorem Vars.below {w w' : World} (h : Vars w) (hb : Below w.heap.size w w') : Vars w' := by
  obtain ⟨⟨tp, p, h1⟩, ⟨tq, q, h2⟩⟩ := h
  exact ⟨⟨tp, p, var?_below hb gES (var_lt gES h1) h1⟩, ⟨tq, q, var?_below hb gER (var_lt gER h2) h2⟩⟩

/-- strconv.Atoi where it fails: some number, and an error that is not nil. -/
theorem atoi_bad (t : ByteArray) (w : World) (hV : Vars w) (hlim : t.size ≤ 281474976710656) (h : ∀ v, Lib.atoiAll t.data.toList ≠ .ok v) :
    Calls Tryd.prog 22 #[.string t] w fun e w' => ∃ n N, e = .returned (.tuple #[.int .i64 n, .iface 55 (.pointer (some ⟨N, 0, none⟩))]) ∧ Below w.heap.size w w' := by
  obtain ⟨⟨tp, p, h1⟩, ⟨tq, q, h2⟩⟩ := hV
  cases ha : Lib.atoiAll t.data.toList
  · exact absurd ha (h _)
  · exact (Any.strconv_Atoi_syntax_var Tryd.laysC172 t hlim ha tp p w h1).mono fun e w' ⟨N, he, _, _, hb⟩ => ⟨_, N, he, hb⟩
  · exact (Tryd.strconv_Atoi_range_var t hlim ha tq q w h2).mono fun e w' ⟨N, he, _, _, hb⟩ => ⟨_, N, he, hb⟩
theorem atoi_good (t : ByteArray) (w : World) (hlim : t.size ≤ 281474976710656) (v : Int) (h : Lib.atoiAll t.data.toList = .ok v) :
    Calls Tryd.prog 22 #[.string t] w fun e w' => e = .returned (.tuple #[.int .i64 v, .nilIface]) ∧ Below w.heap.size w w' := by
  refine (Tryd.strconv_Atoi_ok t (by omega) v h w).mono fun e w' ⟨he, hw⟩ => ⟨he, ?_⟩
  rcases hw with rfl | ⟨t, rfl⟩
  · exact Below.refl _ _
  · exact Lib.bytesWorld_below _ _ _

theorem Lies.start (w : World) : Lies w.heap.size w (w.alloc (nbox 0 0)) where
  below := (Below.refl _ _).alloc (by simp) _
  size := by simp
  c0 := by simp
  c1 := by simp
  f0 := by simp
  f1 := by simp
theorem Lies.drewN {B : Nat} {w wr : World} (h : Lies B w wr) (n : Nat) : Lies B w (wr.drewN n) where
  below := below_drewN h.below n
  size := h.size
  c0 := h.c0
  c1 := h.c1
  f0 := h.f0
  f1 := h.f1
theorem Lies.to {B : Nat} {w wr w1 : World} (h : Lies B w wr) (hb : Below wr.heap.size wr w1) : Lies B w w1 where
  below := h.below.trans (hb.mono (Nat.le_of_lt h.size))
  size := Nat.lt_of_lt_of_le h.size hb.size
  c0 := (hb.cell (p := ⟨B, 0, none⟩) h.size).trans h.c0
  c1 := (hb.cell (p := ⟨B, 1, none⟩) h.size).trans h.c1
  f0 := (hb.frozen (p := ⟨B, 0, none⟩) h.size).trans h.f0
  f1 := (hb.frozen (p := ⟨B, 1, none⟩) h.size).trans h.f1

set_option maxHeartbeats 400000 in
theorem parse_bad1 (s : ByteArray) (w : World) (hs : s.toList.isEmpty = false) (hz : 1 ≤ s.size) (hlim : (s.extract 1 s.size).size ≤ 281474976710656) (hx : s.extract 0 1 = ⟨#[98]⟩)
    (hV : Vars w) (ha : ∀ v, Lib.atoiAll (s.extract 1 s.size).data.toList ≠ .ok v) : Calls Tryd.prog 18 #[.string s] w fun e w' => e = .returned (.tuple #[nd 0 0, .int .i64 4]) ∧ Below w.heap.size w w' := by
  have hl0 := Lies.start w
  have HA := Lib.hid ha; clear ha
  have HV := Lib.hid hV; clear hV
  go_enter Tryd.func18, Tryd.ntmps18
  go_wp2
  go_quiet ((first | (go_at_call 19; exact quiet_left (bedName_1 _))))
  go_wp2_with fail
  refine (atoi_bad _ _ ((HV.out.below hl0.below).below (below_drewN (Below.refl _ _) _)) hlim HA.out).mono ?_
  rintro e w1 ⟨n, N, rfl, hb⟩
  have hl := (hl0.drewN nq).to hb
  have c0 := hl.c0; have c1 := hl.c1; have f0 := hl.f0; have f1 := hl.f1; have hz1 := hl.size
  go_wp2
  refine bodyPost_ret (v := .tuple #[nd 0 0, .int .i64 4]) (by simp [results, Tryd.results18, go_sem, c0, c1]) rfl ⟨rfl, ?_⟩
  exact (hl.below.setCell (Nat.le_refl _) _).setCell (Nat.le_refl _) _
set_option maxHeartbeats 400000 in
theorem parse_hit1 (s : ByteArray) (w : World) (hs : s.toList.isEmpty = false) (hz : 1 ≤ s.size) (hlim : (s.extract 1 s.size).size ≤ 281474976710656) (hx : s.extract 0 1 = ⟨#[98]⟩)
    (k : Nat) (ha : Lib.atoiAll (s.extract 1 s.size).data.toList = .ok (k : Int)) (ho : Ok 1 k) (ht : s.toList = txt 1 k) : Calls Tryd.prog 18 #[.string s] w fun e w' => e = .returned (.tuple #[nd 1 k, .int .i64 0]) ∧ Below w.heap.size w w' := by
  have hl0 := Lies.start w
  have HA := Lib.hid ha; clear ha
  have htt : (!txt 1 k == s.toList) = false := by simp [ht]
  clear ht
  go_enter Tryd.func18, Tryd.ntmps18
  go_wp2
  go_quiet ((first | (go_at_call 19; exact quiet_left (bedName_1 _))))
  go_wp2_with fail
  refine (atoi_good _ _ hlim _ HA.out).mono ?_
  rintro e w1 ⟨rfl, hb⟩
  have hl1 := ((hl0.drewN nq).to hb).alloc (nbox 1 k)
  go_wp2_with fail
  refine (text_ok 1 k _ ho).mono ?_
  rintro e w2 ⟨rfl, hb2⟩
  have hl := hl1.to hb2
  have n0 : w2.cell? ⟨w1.heap.size, 0, none⟩ = some (.int .u8 1) := (hb2.cell (p := ⟨w1.heap.size, 0, none⟩) (by simp)).trans (by simp)
  have n1 : w2.cell? ⟨w1.heap.size, 1, none⟩ = some (.int .i64 k) := (hb2.cell (p := ⟨w1.heap.size, 1, none⟩) (by simp)).trans (by simp)
  have c0 := hl.c0; have c1 := hl.c1; have f0 := hl.f0; have f1 := hl.f1; have hz1 := hl.size
  clear hl0 hl1 hb hb2
  go_wp2
  refine bodyPost_ret (v := .tuple #[nd 1 k, .int .i64 0]) (by simp [results, Tryd.results18, go_sem, c0, c1]) rfl ⟨rfl, ?_⟩
  exact (hl.below.setCell (Nat.le_refl _) _).setCell (Nat.le_refl _) _
set_option maxHeartbeats 400000 in
theorem parse_other1 (s : ByteArray) (w : World) (hs : s.toList.isEmpty = false) (hz : 1 ≤ s.size) (hlim : (s.extract 1 s.size).size ≤ 281474976710656) (hx : s.extract 0 1 = ⟨#[98]⟩)
    (k : Nat) (ha : Lib.atoiAll (s.extract 1 s.size).data.toList = .ok (k : Int)) (ho : Ok 1 k) (ht : s.toList ≠ txt 1 k) : Calls Tryd.prog 18 #[.string s] w fun e w' => e = .returned (.tuple #[nd 0 0, .int .i64 4]) ∧ Below w.heap.size w w' := by
  have hl0 := Lies.start w
  have HA := Lib.hid ha; clear ha
  have htt : (!txt 1 k == s.toList) = true := by simp; exact fun h => ht h.symm
  clear ht
  go_enter Tryd.func18, Tryd.ntmps18
  go_wp2
  go_quiet ((first | (go_at_call 19; exact quiet_left (bedName_1 _))))
  go_wp2_with fail
  refine (atoi_good _ _ hlim _ HA.out).mono ?_
  rintro e w1 ⟨rfl, hb⟩
  have hl1 := ((hl0.drewN nq).to hb).alloc (nbox 1 k)
  go_wp2_with fail
  refine (text_ok 1 k _ ho).mono ?_
  rintro e w2 ⟨rfl, hb2⟩
  have hl := hl1.to hb2
  have c0 := hl.c0; have c1 := hl.c1; have f0 := hl.f0; have f1 := hl.f1; have hz1 := hl.size
  clear hl0 hl1 hb hb2
  go_wp2
  refine bodyPost_ret (v := .tuple #[nd 0 0, .int .i64 4]) (by simp [results, Tryd.results18, go_sem, c0, c1]) rfl ⟨rfl, ?_⟩
  exact (hl.below.setCell (Nat.le_refl _) _).setCell (Nat.le_refl _) _
set_option maxHeartbeats 400000 in
theorem parse_no1 (s : ByteArray) (w : World) (hs : s.toList.isEmpty = false) (hz : 1 ≤ s.size) (hlim : (s.extract 1 s.size).size ≤ 281474976710656) (hx : s.extract 0 1 = ⟨#[98]⟩)
    (v : Int) (ha : Lib.atoiAll (s.extract 1 s.size).data.toList = .ok v) (ho : ¬ Ok 1 v) : Calls Tryd.prog 18 #[.string s] w fun e w' => e = .returned (.tuple #[nd 0 0, .int .i64 4]) ∧ Below w.heap.size w w' := by
  have hl0 := Lies.start w
  have HA := Lib.hid ha; clear ha
  go_enter Tryd.func18, Tryd.ntmps18
  go_wp2
  go_quiet ((first | (go_at_call 19; exact quiet_left (bedName_1 _))))
  go_wp2_with fail
  refine (atoi_good _ _ hlim _ HA.out).mono ?_
  rintro e w1 ⟨rfl, hb⟩
  have hl1 := ((hl0.drewN nq).to hb).alloc (nbox 1 v)
  go_wp2_with fail
  refine (text_no 1 v _ ho).mono ?_
  rintro e w2 ⟨rfl, hb2⟩
  have hl := hl1.to hb2
  have c0 := hl.c0; have c1 := hl.c1; have f0 := hl.f0; have f1 := hl.f1; have hz1 := hl.size
  clear hl0 hl1 hb hb2
  go_wp2
  refine bodyPost_ret (v := .tuple #[nd 0 0, .int .i64 4]) (by simp [results, Tryd.results18, go_sem, c0, c1]) rfl ⟨rfl, ?_⟩
  exact (hl.below.setCell (Nat.le_refl _) _).setCell (Nat.le_refl _) _
set_option maxHeartbeats 400000 in
theorem parse_bad0 (s : ByteArray) (w : World) (hs : s.toList.isEmpty = false) (hz : 1 ≤ s.size) (hlim : (s.extract 1 s.size).size ≤ 281474976710656) (c : UInt8) (hx : s.extract 0 1 = ⟨#[c]⟩) (hc98 : (c == 98) = false)
    (hV : Vars w) (ha : ∀ v, Lib.atoiAll (s.extract 1 s.size).data.toList ≠ .ok v) : Calls Tryd.prog 18 #[.string s] w fun e w' => e = .returned (.tuple #[nd 0 0, .int .i64 4]) ∧ Below w.heap.size w w' := by
  have hl0 := Lies.start w
  have HA := Lib.hid ha; clear ha
  have HV := Lib.hid hV; clear hV
  go_enter Tryd.func18, Tryd.ntmps18
  go_wp2
  go_quiet ((first | (go_at_call 19; exact quiet_left (bedName_1 _))))
  go_wp2_with fail
  refine (atoi_bad _ _ ((HV.out.below hl0.below).below (below_drewN (Below.refl _ _) _)) hlim HA.out).mono ?_
  rintro e w1 ⟨n, N, rfl, hb⟩
  have hl := (hl0.drewN nq).to hb
  have c0 := hl.c0; have c1 := hl.c1; have f0 := hl.f0; have f1 := hl.f1; have hz1 := hl.size
  go_wp2
  refine bodyPost_ret (v := .tuple #[nd 0 0, .int .i64 4]) (by simp [results, Tryd.results18, go_sem, c0, c1]) rfl ⟨rfl, ?_⟩
  exact (hl.below.setCell (Nat.le_refl _) _).setCell (Nat.le_refl _) _
set_option maxHeartbeats 400000 in
theorem parse_hit0 (s : ByteArray) (w : World) (hs : s.toList.isEmpty = false) (hz : 1 ≤ s.size) (hlim : (s.extract 1 s.size).size ≤ 281474976710656) (c : UInt8) (hx : s.extract 0 1 = ⟨#[c]⟩) (hc98 : (c == 98) = false)
    (k : Nat) (ha : Lib.atoiAll (s.extract 1 s.size).data.toList = .ok (k : Int)) (ho : Ok 0 k) (ht : s.toList = txt 0 k) : Calls Tryd.prog 18 #[.string s] w fun e w' => e = .returned (.tuple #[nd 0 k, .int .i64 0]) ∧ Below w.heap.size w w' := by
  have hl0 := Lies.start w
  have HA := Lib.hid ha; clear ha
  have htt : (!txt 0 k == s.toList) = false := by simp [ht]
  clear ht
  go_enter Tryd.func18, Tryd.ntmps18
  go_wp2
  go_quiet ((first | (go_at_call 19; exact quiet_left (bedName_1 _))))
  go_wp2_with fail
  refine (atoi_good _ _ hlim _ HA.out).mono ?_
  rintro e w1 ⟨rfl, hb⟩
  have hl1 := ((hl0.drewN nq).to hb).alloc (nbox 0 k)
  go_wp2_with fail
  refine (text_ok 0 k _ ho).mono ?_
  rintro e w2 ⟨rfl, hb2⟩
  have hl := hl1.to hb2
  have n0 : w2.cell? ⟨w1.heap.size, 0, none⟩ = some (.int .u8 0) := (hb2.cell (p := ⟨w1.heap.size, 0, none⟩) (by simp)).trans (by simp)
  have n1 : w2.cell? ⟨w1.heap.size, 1, none⟩ = some (.int .i64 k) := (hb2.cell (p := ⟨w1.heap.size, 1, none⟩) (by simp)).trans (by simp)
  have c0 := hl.c0; have c1 := hl.c1; have f0 := hl.f0; have f1 := hl.f1; have hz1 := hl.size
  clear hl0 hl1 hb hb2
  go_wp2
  refine bodyPost_ret (v := .tuple #[nd 0 k, .int .i64 0]) (by simp [results, Tryd.results18, go_sem, c0, c1]) rfl ⟨rfl, ?_⟩
  exact (hl.below.setCell (Nat.le_refl _) _).setCell (Nat.le_refl _) _
set_option maxHeartbeats 400000 in
theorem parse_other0 (s : ByteArray) (w : World) (hs : s.toList.isEmpty = false) (hz : 1 ≤ s.size) (hlim : (s.extract 1 s.size).size ≤ 281474976710656) (c : UInt8) (hx : s.extract 0 1 = ⟨#[c]⟩) (hc98 : (c == 98) = false)
    (k : Nat) (ha : Lib.atoiAll (s.extract 1 s.size).data.toList = .ok (k : Int)) (ho : Ok 0 k) (ht : s.toList ≠ txt 0 k) : Calls Tryd.prog 18 #[.string s] w fun e w' => e = .returned (.tuple #[nd 0 0, .int .i64 4]) ∧ Below w.heap.size w w' := by
  have hl0 := Lies.start w
  have HA := Lib.hid ha; clear ha
  have htt : (!txt 0 k == s.toList) = true := by simp; exact fun h => ht h.symm
  clear ht
  go_enter Tryd.func18, Tryd.ntmps18
  go_wp2
  go_quiet ((first | (go_at_call 19; exact quiet_left (bedName_1 _))))
  go_wp2_with fail
  refine (atoi_good _ _ hlim _ HA.out).mono ?_
  rintro e w1 ⟨rfl, hb⟩
  have hl1 := ((hl0.drewN nq).to hb).alloc (nbox 0 k)
  go_wp2_with fail
  refine (text_ok 0 k _ ho).mono ?_
  rintro e w2 ⟨rfl, hb2⟩
  have hl := hl1.to hb2
  have c0 := hl.c0; have c1 := hl.c1; have f0 := hl.f0; have f1 := hl.f1; have hz1 := hl.size
  clear hl0 hl1 hb hb2
  go_wp2
  refine bodyPost_ret (v := .tuple #[nd 0 0, .int .i64 4]) (by simp [results, Tryd.results18, go_sem, c0, c1]) rfl ⟨rfl, ?_⟩
  exact (hl.below.setCell (Nat.le_refl _) _).setCell (Nat.le_refl _) _
set_option maxHeartbeats 400000 in
theorem parse_no0 (s : ByteArray) (w : World) (hs : s.toList.isEmpty = false) (hz : 1 ≤ s.size) (hlim : (s.extract 1 s.size).size ≤ 281474976710656) (c : UInt8) (hx : s.extract 0 1 = ⟨#[c]⟩) (hc98 : (c == 98) = false)
    (v : Int) (ha : Lib.atoiAll (s.extract 1 s.size).data.toList = .ok v) (ho : ¬ Ok 0 v) : Calls Tryd.prog 18 #[.string s] w fun e w' => e = .returned (.tuple #[nd 0 0, .int .i64 4]) ∧ Below w.heap.size w w' := by
  have hl0 := Lies.start w
  have HA := Lib.hid ha; clear ha
  go_enter Tryd.func18, Tryd.ntmps18
  go_wp2
  go_quiet ((first | (go_at_call 19; exact quiet_left (bedName_1 _))))
  go_wp2_with fail
  refine (atoi_good _ _ hlim _ HA.out).mono ?_
  rintro e w1 ⟨rfl, hb⟩
  have hl1 := ((hl0.drewN nq).to hb).alloc (nbox 0 v)
  go_wp2_with fail
  refine (text_no 0 v _ ho).mono ?_
  rintro e w2 ⟨rfl, hb2⟩
  have hl := hl1.to hb2
  have c0 := hl.c0; have c1 := hl.c1; have f0 := hl.f0; have f1 := hl.f1; have hz1 := hl.size
  clear hl0 hl1 hb hb2
  go_wp2
  refine bodyPost_ret (v := .tuple #[nd 0 0, .int .i64 4]) (by simp [results, Tryd.results18, go_sem, c0, c1]) rfl ⟨rfl, ?_⟩
  exact (hl.below.setCell (Nat.le_refl _) _).setCell (Nat.le_refl _) _

theorem txt_inj {b b' : Int} {k k' : Nat} (h : Ok b k) (h' : Ok b' k') (e : txt b k = txt b' k') : b = b' ∧ k = k' := by
  have h1 := h.lo; have h2 := h.hi; have h1' := h'.lo; have h2' := h'.hi
  have hd : ∀ k k' : Fin 41, digs k.val = digs k'.val → k = k' := by decide +kernel
  unfold txt at e
  injection e with e1 e2
  have hk := hd ⟨k, by omega⟩ ⟨k', by omega⟩ e2
  refine ⟨?_, by simpa using hk⟩
  rcases h.bed with rfl | rfl <;> rcases h'.bed with rfl | rfl <;> simp_all
theorem atoi_digs (k : Nat) (h : k ≤ 40) : Lib.atoiAll (digs k) = .ok (k : Int) := by
  have hd : ∀ k : Fin 41, Lib.atoiAll (digs k.val) = .ok (k.val : Int) := by decide +kernel
  exact hd ⟨k, by omega⟩

/-- If a text is that of a needle, what stands behind its first byte is the number. -/
theorem txt_tail {c : UInt8} {r : List UInt8} {b : Int} {k : Nat} (h : Ok b k) (e : c :: r = txt b k) : Lib.atoiAll r = .ok (k : Int) ∧ (c = 98 ↔ b = 1) ∧ (c ≠ 98 ↔ b = 0) := by
  have h2 := h.hi
  unfold txt at e
  injection e with e1 e2
  subst e2
  refine ⟨atoi_digs k (by omega), ?_, ?_⟩ <;> rcases h.bed with rfl | rfl <;> simp_all
theorem parse_run (s : ByteArray) (w : World) (hV : Vars w) (hlim : s.size ≤ 281474976710656) : Calls Tryd.prog 18 #[.string s] w (ParseRes s w) := by
  cases hd : s.data.toList with
  | nil =>
    have e : s = ⟨#[]⟩ := by
      cases s with | mk d => simp at hd; subst hd; rfl
    subst e
    refine (parse_empty w).mono fun e w' ⟨he, hb⟩ => ⟨hb, Or.inr ⟨fun b k _ h => ?_, he⟩⟩
    unfold txt at h; cases h
  | cons c r =>
    have hsz : s.size = r.length + 1 := by
      have : s.data.toList.length = s.size := Array.length_toList
      rw [hd] at this; simpa using this.symm
    have hs : s.toList.isEmpty = false := by rw [Lib.toList_data, hd]; rfl
    have hx : s.extract 0 1 = ⟨#[c]⟩ := by
      have : (s.extract 0 1).data.toList = [c] := by rw [Lib.extract_data, hd]; simp
      cases h : s.extract 0 1 with
      | mk d => rw [h] at this; simp at this; rw [← Array.toArray_toList (xs := d)]; rw [this]
    have hx1 : (s.extract 1 s.size).data.toList = r := by rw [Lib.extract_data, hd, hsz]; simp
    have hl1 : (s.extract 1 s.size).size ≤ 281474976710656 := by
      have : (s.extract 1 s.size).data.toList.length = (s.extract 1 s.size).size := Array.length_toList
      rw [hx1] at this; omega
    have hz : 1 ≤ s.size := by omega
    have none : ∀ w1 : World, (∀ b, ∀ k : Nat, Ok b k → c :: r ≠ txt b k) → ∀ e, e = .returned (.tuple #[nd 0 0, .int .i64 4]) ∧ Below w.heap.size w w1 → ParseRes s w e w1 :=
      fun w1 h e ⟨he, hb⟩ => ⟨hb, Or.inr ⟨fun b k ho => by rw [hd]; exact h b k ho, he⟩⟩
    -- the bed that the first byte says
    by_cases hc : c = 98
    · subst hc
      by_cases ha : ∀ v, Lib.atoiAll (s.extract 1 s.size).data.toList ≠ .ok v
      · exact (parse_bad1 s w hs hz hl1 hx hV ha).mono fun e w' h => none w' (fun b k ho e => by
          have := (txt_tail ho e).1; rw [hx1] at ha; exact ha _ this) e h
      · obtain ⟨v, hv⟩ : ∃ v, Lib.atoiAll (s.extract 1 s.size).data.toList = .ok v := by simpa using ha
        by_cases ho : Ok 1 v
        · obtain ⟨k, rfl⟩ : ∃ k : Nat, v = k := ⟨v.toNat, by have := ho.lo; omega⟩
          by_cases ht : s.toList = txt 1 k
          · exact (parse_hit1 s w hs hz hl1 hx k hv ho ht).mono fun e w' ⟨he, hb⟩ => ⟨hb, Or.inl ⟨1, k, ho, by rw [← Lib.toList_data]; exact ht, he⟩⟩
          · refine (parse_other1 s w hs hz hl1 hx k hv ho ht).mono fun e w' h => none w' (fun b k' ho' e => ht ?_) e h
            obtain ⟨h1, h2, _⟩ := txt_tail ho' e
            rw [hx1, h1] at hv
            have hk : (k' : Int) = k := by injection hv
            rw [Lib.toList_data, hd, e, h2.1 rfl, show k' = k from by omega]
        · refine (parse_no1 s w hs hz hl1 hx v hv ho).mono fun e w' h => none w' (fun b k' ho' e => ho ?_) e h
          obtain ⟨h1, h2, _⟩ := txt_tail ho' e
          rw [hx1, h1] at hv
          have hk : (k' : Int) = v := by injection hv
          rw [← hk, ← h2.1 rfl]; exact ho'
    · have hc98 : (c == 98) = false := by simpa using hc
      by_cases ha : ∀ v, Lib.atoiAll (s.extract 1 s.size).data.toList ≠ .ok v
      · exact (parse_bad0 s w hs hz hl1 c hx hc98 hV ha).mono fun e w' h => none w' (fun b k ho e => by
          have := (txt_tail ho e).1; rw [hx1] at ha; exact ha _ this) e h
      · obtain ⟨v, hv⟩ : ∃ v, Lib.atoiAll (s.extract 1 s.size).data.toList = .ok v := by simpa using ha
        by_cases ho : Ok 0 v
        · obtain ⟨k, rfl⟩ : ∃ k : Nat, v = k := ⟨v.toNat, by have := ho.lo; omega⟩
          by_cases ht : s.toList = txt 0 k
          · exact (parse_hit0 s w hs hz hl1 c hx hc98 k hv ho ht).mono fun e w' ⟨he, hb⟩ => ⟨hb, Or.inl ⟨0, k, ho, by rw [← Lib.toList_data]; exact ht, he⟩⟩
          · refine (parse_other0 s w hs hz hl1 c hx hc98 k hv ho ht).mono fun e w' h => none w' (fun b k' ho' e => ht ?_) e h
            obtain ⟨h1, _, h2⟩ := txt_tail ho' e
            rw [hx1, h1] at hv
            have hk : (k' : Int) = k := by injection hv
            rw [Lib.toList_data, hd, e, h2.1 hc, show k' = k from by omega]
        · refine (parse_no0 s w hs hz hl1 c hx hc98 v hv ho).mono fun e w' h => none w' (fun b k' ho' e => ho ?_) e h
          obtain ⟨h1, _, h2⟩ := txt_tail ho' e
          rw [hx1, h1] at hv
          have hk : (k' : Int) = v := by injection hv
          rw [← hk, ← h2.1 hc]; exact ho'
theorem parse_hit (s : ByteArray) (b : Int) (k : Nat) (w : World) (hV : Vars w) (hlim : s.size ≤ 281474976710656) (h : Ok b k) (e : s.data.toList = txt b k) :
    Calls Tryd.prog 18 #[.string s] w fun e w' => e = .returned (.tuple #[nd b k, .int .i64 0]) ∧ Below w.heap.size w w' := by
  refine (parse_run s w hV hlim).mono fun e' w' hr => ?_
  obtain ⟨hb, ⟨b', k', ho, e', rfl⟩ | ⟨hno, _⟩⟩ := hr
  · obtain ⟨rfl, rfl⟩ := txt_inj h ho (e.symm.trans e')
    exact ⟨rfl, hb⟩
  · exact absurd e (hno b k h)
theorem parse_none (s : ByteArray) (w : World) (hV : Vars w) (hlim : s.size ≤ 281474976710656) (h : ∀ b, ∀ k : Nat, Ok b k → s.data.toList ≠ txt b k) :
    Calls Tryd.prog 18 #[.string s] w fun e w' => e = .returned (.tuple #[nd 0 0, .int .i64 4]) ∧ Below w.heap.size w w' := by
  refine (parse_run s w hV hlim).mono fun e' w' hr => ?_
  obtain ⟨hb, ⟨b', k', ho, e', rfl⟩ | ⟨hno, rfl⟩⟩ := hr
  · exact absurd e' (h b' k' ho)
  · exact ⟨rfl, hb⟩
end Go.Proofs.YtofgnfnngljilaaDoor
