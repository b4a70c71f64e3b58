/- Part 7 of the evaluator and of the contracts that the claim uses. -/
import Derived.WideKeyEntry
import Derived.WideKeyRuns
import Derived.Test.YtpjlfgacjbkbbaaLoopsAddLAA
import Derived.Test.YtpjlfgacjbkbbaaLoopsAddLAB
import Derived.Test.YtpjlfgacjbkbbaaLoopsAddLAC
import Derived.Test.YtpjlfgacjbkbbaaLoopsAddLAD
import Derived.Test.YtpjlfgacjbkbbaaLoopsAddLAE
import Derived.Test.YtpjlfgacjbkbbaaLoopsAddLAF
set_option linter.unusedVariables false
set_option linter.unusedSimpArgs false
set_option linter.constructorNameAsVariable false
set_option linter.unusedSectionVars false
open Go.IntKind (i64 u8)

section
open Go Go.Lf Go.Proofs
namespace Tst
def TwOk (t : List Rw) (v : Bool) : Prop := ∀ c, PureC Try.prog 26 [tsl c t] (bb v)
theorem twok (c : Option Nat) (t : List Rw) (v : Bool) (h : TwOk t v) : PureC Try.prog 26 [tsl c t] (bb v) := h c
def ckT (t : List Rw) : Bool := (allT t).all (arV t)
theorem arck (c : Option Nat) (t : List Rw) (ht : t.length < 2 ^ 60) (hr : ∀ r ∈ t, r.l.length < 2 ^ 60) (hO : OkT t) (b : Bool) (hb : ckT t = b) : PureC Try.prog 25 [tsl c t] (bb b) := by subst hb; exact yq0 c t ht hr hO
set_option maxHeartbeats 0
theorem ckA_0 (c : Option Nat) (t : List Rw) (q : ((((t.map Rw.enc).length : Int)) != (6 : Int)) = true) (g0 : (((t.map Rw.enc).length : Int) != (6 : Int)) = true) : PureC Try.prog 11 [tsl c t]  (it 5) :=
 zqj (H := h11) (n := 25) (ans := [.c, .c, .c, .c, .c, .b true, .c]) (base 25 0) Try.func11 rfl (by simp) rfl (by kernel_rfl) (allp g0 zqa)
theorem ckB_0 (c : Option Nat) (t : List Rw) (hc : cntV t < 2 ^ 62) (ht : t.length < 2 ^ 60) (q : ((((t.map Rw.enc).length : Int)) != (6 : Int)) = false) (q2 : decide ((2048 : Int) < (cntV t : Int)) = true) (g0 : (((t.map Rw.enc).length : Int) != (6 : Int)) = false) (g1 : decide ((2048 : Int) < (cntV t : Int)) = true) : PureC Try.prog 11 [tsl c t]  (it 3) :=
 zqj (H := h11) (n := 25) (ans := [.c, .c, .c, .c, .c, .b false, .c, .r (tsl c t), .r (it (cntV t : Int)), .c, .c, .c, .c, .b true, .c]) (base 25 0) Try.func11 rfl (by simp) rfl (by kernel_rfl) (allp g0 (allp (zqg .any c t) (allp (p := PureC Try.prog 12 [tsl c t] (it (cntV t : Int))) (by apply ybp<;>first|assumption|rfl|(simp at *<;>omega)) (allp g1 zqa))))
theorem ckC_0 (c : Option Nat) (t : List Rw) (hc : cntV t < 2 ^ 62) (ht : t.length < 2 ^ 60) (hr : ∀ r ∈ t, r.l.length < 2 ^ 60) (hO : OkT t) (q : ((((t.map Rw.enc).length : Int)) != (6 : Int)) = false) (q2 : decide ((2048 : Int) < (cntV t : Int)) = false) (hb : ckT t = false) (g0 : (((t.map Rw.enc).length : Int) != (6 : Int)) = false) (g1 : decide ((2048 : Int) < (cntV t : Int)) = false) : PureC Try.prog 11 [tsl c t]  (it 1) :=
 zqj (H := h11) (n := 25) (ans := [.c, .c, .c, .c, .c, .b false, .c, .r (tsl c t), .r (it (cntV t : Int)), .c, .c, .c, .c, .b false, .c, .r (tsl c t), .r (bb false), .c, .c, .c, .c, .c, .c]) (base 25 0) Try.func11 rfl (by simp) rfl (by kernel_rfl) (allp g0 (allp (zqg .any c t) (allp (p := PureC Try.prog 12 [tsl c t] (it (cntV t : Int))) (by apply ybp<;>first|assumption|rfl|(simp at *<;>omega)) (allp g1 (allp (zqg .any c t) (allp (p := PureC Try.prog 25 [tsl c t] (bb false)) (by apply arck<;>first|assumption|rfl|(simp at *<;>omega)) zqa))))))
theorem ckD_0 (c : Option Nat) (t : List Rw) (hc : cntV t < 2 ^ 62) (ht : t.length < 2 ^ 60) (hr : ∀ r ∈ t, r.l.length < 2 ^ 60) (hO : OkT t) (q : ((((t.map Rw.enc).length : Int)) != (6 : Int)) = false) (q2 : decide ((2048 : Int) < (cntV t : Int)) = false) (hb : ckT t = true) (h : TwOk t true) (g0 : (((t.map Rw.enc).length : Int) != (6 : Int)) = false) (g1 : decide ((2048 : Int) < (cntV t : Int)) = false) : PureC Try.prog 11 [tsl c t]  (it 8) :=
 zqj (H := h11) (n := 25) (ans := [.c, .c, .c, .c, .c, .b false, .c, .r (tsl c t), .r (it (cntV t : Int)), .c, .c, .c, .c, .b false, .c, .r (tsl c t), .r (bb true), .c, .c, .c, .c, .c, .c, .r (tsl c t), .r (bb true), .c, .c, .c, .c, .c]) (base 25 0) Try.func11 rfl (by simp) rfl (by kernel_rfl) (allp g0 (allp (zqg .any c t) (allp (p := PureC Try.prog 12 [tsl c t] (it (cntV t : Int))) (by apply ybp<;>first|assumption|rfl|(simp at *<;>omega)) (allp g1 (allp (zqg .any c t) (allp (p := PureC Try.prog 25 [tsl c t] (bb true)) (by apply arck<;>first|assumption|rfl|(simp at *<;>omega)) (allp (zqg .any c t) (allp (p := PureC Try.prog 26 [tsl c t] (bb true)) (by apply twok<;>first|assumption|rfl|(simp at *<;>omega)) zqa))))))))
theorem ckE_0 (c : Option Nat) (t : List Rw) (hc : cntV t < 2 ^ 62) (hc2 : cntV t ≤ 4294967296) (ht : t.length < 2 ^ 60) (hr : ∀ r ∈ t, r.l.length < 2 ^ 60) (hO : OkT t) (hL : OkL t) (q : ((((t.map Rw.enc).length : Int)) != (6 : Int)) = false) (q2 : decide ((2048 : Int) < (cntV t : Int)) = false) (hb : ckT t = true) (h : TwOk t false) (g0 : (((t.map Rw.enc).length : Int) != (6 : Int)) = false) (g1 : decide ((2048 : Int) < (cntV t : Int)) = false) (g2 : decide ((↑(((ya7 t).map Idd.enc).length) : Int) < (cntV t : Int)) = true) : PureC Try.prog 11 [tsl c t]  (it 6) :=
 zqj (H := h11) (n := 25) (ans := [.c, .c, .c, .c, .c, .b false, .c, .r (tsl c t), .r (it (cntV t : Int)), .c, .c, .c, .c, .b false, .c, .r (tsl c t), .r (bb true), .c, .c, .c, .c, .c, .c, .r (tsl c t), .r (bb false), .c, .c, .c, .c, .c, .r (tsl c t), .r (iow (some (cntV t)) (ya7 t)), .c, .c, .c, .c, .r (tsl c t), .r (it (cntV t : Int)), .c, .c, .c, .c, .b true, .c]) (base 25 0) Try.func11 rfl (by simp) rfl (by kernel_rfl) (allp g0 (allp (zqg .any c t) (allp (p := PureC Try.prog 12 [tsl c t] (it (cntV t : Int))) (by apply ybp<;>first|assumption|rfl|(simp at *<;>omega)) (allp g1 (allp (zqg .any c t) (allp (p := PureC Try.prog 25 [tsl c t] (bb true)) (by apply arck<;>first|assumption|rfl|(simp at *<;>omega)) (allp (zqg .any c t) (allp (p := PureC Try.prog 26 [tsl c t] (bb false)) (by apply twok<;>first|assumption|rfl|(simp at *<;>omega)) (allp (zqg .any c t) (allp (p := PureC Try.prog 24 [tsl c t] (iow (some (cntV t)) (ya7 t))) (by apply yjd<;>first|assumption|rfl|(simp at *<;>omega)) (allp (zqg .any c t) (allp (p := PureC Try.prog 12 [tsl c t] (it (cntV t : Int))) (by apply ybp<;>first|assumption|rfl|(simp at *<;>omega)) (allp g2 zqa)))))))))))))
theorem ckE_1 (c : Option Nat) (t : List Rw) (hc : cntV t < 2 ^ 62) (hc2 : cntV t ≤ 4294967296) (ht : t.length < 2 ^ 60) (hr : ∀ r ∈ t, r.l.length < 2 ^ 60) (hO : OkT t) (hL : OkL t) (q : ((((t.map Rw.enc).length : Int)) != (6 : Int)) = false) (q2 : decide ((2048 : Int) < (cntV t : Int)) = false) (hb : ckT t = true) (h : TwOk t false) (g0 : (((t.map Rw.enc).length : Int) != (6 : Int)) = false) (g1 : decide ((2048 : Int) < (cntV t : Int)) = false) (g2 : decide ((↑(((ya7 t).map Idd.enc).length) : Int) < (cntV t : Int)) = false) : PureC Try.prog 11 [tsl c t]  (it 0) :=
 zqj (H := h11) (n := 25) (ans := [.c, .c, .c, .c, .c, .b false, .c, .r (tsl c t), .r (it (cntV t : Int)), .c, .c, .c, .c, .b false, .c, .r (tsl c t), .r (bb true), .c, .c, .c, .c, .c, .c, .r (tsl c t), .r (bb false), .c, .c, .c, .c, .c, .r (tsl c t), .r (iow (some (cntV t)) (ya7 t)), .c, .c, .c, .c, .r (tsl c t), .r (it (cntV t : Int)), .c, .c, .c, .c, .b false, .c]) (base 25 0) Try.func11 rfl (by simp) rfl (by kernel_rfl) (allp g0 (allp (zqg .any c t) (allp (p := PureC Try.prog 12 [tsl c t] (it (cntV t : Int))) (by apply ybp<;>first|assumption|rfl|(simp at *<;>omega)) (allp g1 (allp (zqg .any c t) (allp (p := PureC Try.prog 25 [tsl c t] (bb true)) (by apply arck<;>first|assumption|rfl|(simp at *<;>omega)) (allp (zqg .any c t) (allp (p := PureC Try.prog 26 [tsl c t] (bb false)) (by apply twok<;>first|assumption|rfl|(simp at *<;>omega)) (allp (zqg .any c t) (allp (p := PureC Try.prog 24 [tsl c t] (iow (some (cntV t)) (ya7 t))) (by apply yjd<;>first|assumption|rfl|(simp at *<;>omega)) (allp (zqg .any c t) (allp (p := PureC Try.prog 12 [tsl c t] (it (cntV t : Int))) (by apply ybp<;>first|assumption|rfl|(simp at *<;>omega)) (allp g2 zqa)))))))))))))
theorem yp3 (i : Nat) (R : List Lp) (L : Lp) (h : L ∈ R) : ∃ x ∈ rowL i R, x.2 = L := by
 obtain ⟨j, hj, e⟩ := List.mem_iff_getElem.1 h
 have := yjy i R j hj
 refine ⟨_, List.mem_of_getElem? this, ?_⟩
 show R.getD j default = L
 rw [zld, zle hj]; exact e
theorem yc4 : ∀ (t : List Rw) (i : Nat) (r : Rw) (L : Lp), r ∈ t → L ∈ r.l → ∃ x ∈ yai i t, x.2 = L
 | [], i, r, L, h, _ => by simp at h
 | q :: t, i, r, L, h, hL => by
  rw [yai]
  rcases List.mem_cons.1 h with rfl | h
  ·obtain ⟨x, hx, e⟩ := yp3 i r.l L hL
   exact ⟨x, List.mem_append.2 (.inl hx), e⟩
  ·obtain ⟨x, hx, e⟩ := yc4 t (i + 1) r L h hL
   exact ⟨x, List.mem_append.2 (.inr hx), e⟩
theorem ym8 {t : List Rw} (ht : t.length ≤ 6) (hr : ∀ r ∈ t, r.l.length < 2 ^ 60) (hO : OkT t) (hb : ckT t = true) : OkL t := by
 refine ⟨ht, hr, fun r h L hL => (hO r h L hL).2, fun r h L hL p hp => ?_⟩
 obtain ⟨x, hx, rfl⟩ := yc4 t 0 r L h hL
 have hx' : x ∈ allT t := by unfold allT; rw [zlm (by omega)]; exact hx
 unfold ckT at hb
 have ha := zls.1 hb x hx'
 unfold arV at ha
 rw [zlo] at ha
 have hrv := ha.1
 unfold yad at hrv
 rw [zlo] at hrv
 have := ye8 (zls.1 hrv.2 p hp)
 omega
def yaq (t : List Rw) (v : Bool) : Int := if t.length ≠ 6 then 5 else if 2048 < cntV t then 3 else if ckT t = false then 1 else if v = true then 8 else if (ya7 t).length < cntV t then 6 else 0
theorem yjk (c : Option Nat) (t : List Rw) (v : Bool) (hc : cntV t < 2 ^ 62) (ht : t.length < 2 ^ 60) (hr : ∀ r ∈ t, r.l.length < 2 ^ 60) (hO : OkT t) (hv : TwOk t v) : PureC Try.prog 11 [tsl c t] (it (yaq t v)) := by
 unfold yaq
 by_cases h6 : t.length ≠ 6
 ·rw [if_pos h6]
  exact ckA_0 c t (by rw [zla]; simp; omega) (by rw [zla]; simp; omega)
 ·rw [if_neg h6]
  have g : ((((List.map Rw.enc t).length : Nat) : Int) != (6 : Int)) = false := by rw [zla]; simp; omega
  by_cases h2 : 2048 < cntV t
  ·rw [if_pos h2]
   exact ckB_0 c t hc ht g (zlb (by omega)) g (zlb (by omega))
  ·rw [if_neg h2]
   have g2 : decide ((2048 : Int) < ((cntV t : Nat) : Int)) = false := zlc (by omega)
   cases hb : ckT t with
   | false => rw [if_pos rfl]; exact ckC_0 c t hc ht hr hO g g2 hb g g2
   | true =>
    rw [if_neg (by simp)]
    cases v with
    | true => rw [if_pos rfl]; exact ckD_0 c t hc ht hr hO g g2 hb hv g g2
    | false =>
     rw [if_neg (by simp)]
     have hL := ym8 (by omega) hr hO hb
     by_cases hf : (ya7 t).length < cntV t
     ·rw [if_pos hf]; exact ckE_0 c t hc (by omega) ht hr hO hL g g2 hb hv g g2 (zlb (by rw [zla]; omega))
     ·rw [if_neg hf]; exact ckE_1 c t hc (by omega) ht hr hO hL g g2 hb hv g g2 (zlc (by rw [zla]; omega))
theorem yws (c : Option Nat) (t : List Rw) (v : Bool) (hc : cntV t < 2 ^ 62) (ht : t.length < 2 ^ 60) (hr : ∀ r ∈ t, r.l.length < 2 ^ 60) (hO : OkT t) (hv : TwOk t v) (q : (yaq t v != (0 : Int)) = true) (g0 : (yaq t v != (0 : Int)) = true) : PureC Try.prog 10 [tsl c t]  (AV.tup [zqw, it (yaq t v)]) :=
 zqj (H := h10) (n := 12) (ans := [.c, .c, .c, .r (tsl c t), .r (it (yaq t v)), .c, .c, .c, .c, .c, .b true, .c, .c, .c]) (base 12 0) Try.func10 rfl (by simp) rfl (by kernel_rfl) (allp (zqg .any c t) (allp (p := PureC Try.prog 11 [tsl c t] (it (yaq t v))) (by apply yjk<;>first|assumption|rfl|(simp at *<;>omega)) (allp g0 zqa)))
theorem ywr (c : Option Nat) (t : List Rw) (v : Bool) (hc : cntV t < 2 ^ 62) (hc2 : cntV t ≤ 4294967296) (ht : t.length < 2 ^ 60) (hr : ∀ r ∈ t, r.l.length < 2 ^ 60) (hO : OkT t) (hL : OkL t) (hv : TwOk t v) (q : (yaq t v != (0 : Int)) = false) (g0 : (yaq t v != (0 : Int)) = false) : PureC Try.prog 10 [tsl c t]  (AV.tup [iow (some (cntV t)) (ya7 t), it 0]) :=
 zqj (H := h10) (n := 12) (ans := [.c, .c, .c, .r (tsl c t), .r (it (yaq t v)), .c, .c, .c, .c, .c, .b false, .c, .r (tsl c t), .r (iow (some (cntV t)) (ya7 t)), .c, .c, .c, .c]) (base 12 0) Try.func10 rfl (by simp) rfl (by kernel_rfl) (allp (zqg .any c t) (allp (p := PureC Try.prog 11 [tsl c t] (it (yaq t v))) (by apply yjk<;>first|assumption|rfl|(simp at *<;>omega)) (allp g0 (allp (zqg .any c t) (allp (p := PureC Try.prog 24 [tsl c t] (iow (some (cntV t)) (ya7 t))) (by apply yjd<;>first|assumption|rfl|(simp at *<;>omega)) zqa)))))
theorem ykt {t : List Rw} {v : Bool} (h : yaq t v = 0) : t.length = 6 ∧ cntV t ≤ 2048 ∧ ckT t = true ∧ v = false ∧ cntV t ≤ (ya7 t).length := by
 unfold yaq at h
 split at h
 ·cases h
 ·split at h
  ·cases h
  ·split at h
   ·cases h
   ·split at h
    ·cases h
    ·split at h
     ·cases h
     ·exact ⟨by omega, by omega, by simp_all, by simp_all, by omega⟩
def yj4 (t : List Rw) (v : Bool) : AV := if yaq t v = 0 then .tup [iow (some (cntV t)) (ya7 t), it 0] else .tup [zqw, it (yaq t v)]
theorem ys4 (c : Option Nat) (t : List Rw) (v : Bool) (hc : cntV t < 2 ^ 62) (ht : t.length < 2 ^ 60) (hr : ∀ r ∈ t, r.l.length < 2 ^ 60) (hO : OkT t) (hv : TwOk t v) : PureC Try.prog 10 [tsl c t] (yj4 t v) := by
 unfold yj4
 by_cases h : yaq t v = 0
 ·rw [if_pos h]
  obtain ⟨h1, h2, h3, h4, h5⟩ := ykt h
  have g : (yaq t v != (0 : Int)) = false := by simp [h]
  exact ywr c t v hc (by omega) ht hr hO (ym8 (by omega) hr hO h3) hv g g
 ·rw [if_neg h]
  have g : (yaq t v != (0 : Int)) = true := by simpa using h
  exact yws c t v hc ht hr hO hv g g
abbrev low (c : Option Nat) (l : List Lp) : AV := .sl .own 45 c (l.map Lp.enc)
theorem grw_0 (n : Int) (h0 : 0 ≤ n) (hn : n ≤ 4294967296) (g0 : decide (n < (0 : Int)) = false) (g1 : decide ((0 : Int) < i64.wrap (n - i64.wrap (((0 : Nat) : Int) - ((0 : Nat) : Int)))) = true) (g2 : decide (0 ≤ i64.wrap (n - i64.wrap (((0 : Nat) : Int) - ((0 : Nat) : Int))) ∧ i64.wrap (n - i64.wrap (((0 : Nat) : Int) - ((0 : Nat) : Int))) ≤ (4294967296 : Int)) = true) (g3 : decide (List.length (List.replicate ((i64.wrap (n - i64.wrap (((0 : Nat) : Int) - ((0 : Nat) : Int)))).toNat) (ya6 { zero := [Value.int u8 (0 : Int), Value.bool false, Value.slice none (0 : Nat) (0 : Nat), Value.slice none (0 : Nat) (0 : Nat)], bytes := (56 : Nat), agg := true, kind := TK.struct [((0 : Nat), (1 : Nat)), ((1 : Nat), (1 : Nat)), ((2 : Nat), (1 : Nat)), ((3 : Nat), (1 : Nat))] })) ≤ (4294967296 : Nat)) = true) : PureC Try.prog 54 [zqw, it n]  (AV.sl .own 45 (if (0 : Nat) + List.length (List.replicate ((i64.wrap (n - i64.wrap (((0 : Nat) : Int) - ((0 : Nat) : Int)))).toNat) (ya6 { zero := [Value.int u8 (0 : Int), Value.bool false, Value.slice none (0 : Nat) (0 : Nat), Value.slice none (0 : Nat) (0 : Nat)], bytes := (56 : Nat), agg := true, kind := TK.struct [((0 : Nat), (1 : Nat)), ((1 : Nat), (1 : Nat)), ((2 : Nat), (1 : Nat)), ((3 : Nat), (1 : Nat))] })) ≤ (0 : Nat) then some (0 : Nat) else none) []) :=
 zqj (H := h54) (n := 27) (ans := [.c, .c, .c, .b false, .c, .c, .c, .c, .c, .c, .c, .c, .c, .c, .b true, .c, .c, .c, .c, .c, .c, .c, .b true, .b true, .c, .c, .c, .c, .c, .c, .c, .c, .c]) (base 27 0) Try.func54 rfl (by simp) rfl (by kernel_rfl) (allp g0 (allp g1 (allp g2 (allp g3 zqa))))
theorem grw_1 (n : Int) (h0 : 0 ≤ n) (hn : n ≤ 4294967296) (g0 : decide (n < (0 : Int)) = false) (g1 : decide ((0 : Int) < i64.wrap (n - i64.wrap (((0 : Nat) : Int) - ((0 : Nat) : Int)))) = false) : PureC Try.prog 54 [zqw, it n]  zqw :=
 zqj (H := h54) (n := 27) (ans := [.c, .c, .c, .b false, .c, .c, .c, .c, .c, .c, .c, .c, .c, .c, .b false, .c, .c]) (base 27 0) Try.func54 rfl (by simp) rfl (by kernel_rfl) (allp g0 (allp g1 zqa))
theorem yt3 (n : Int) (h0 : 0 ≤ n) (hn : n ≤ 4294967296) : PureC Try.prog 54 [zqw, it n] (low none []) := by
 have w : IntKind.wrap i64 (n - IntKind.wrap i64 ((((0 : Nat) : Nat) : Int) - (((0 : Nat)) : Int))) = n := by
  rw [yak (n := (((0 : Nat) : Nat) : Int) - (((0 : Nat)) : Int)) (by omega) (by omega), yak (by omega) (by omega)]; omega
 by_cases hp : 0 < n
 ·refine PureC.res (grw_0 n h0 hn (by simp; omega) (by rw [w]; simpa using hp) (by rw [w]; simp; omega) (by rw [w]; simp; omega)) Le.cap
 ·refine PureC.res (PureC.res (grw_1 n h0 hn (by simp; omega) (by rw [w]; simpa using hp)) (Le.nilOwn 45)) Le.cap
abbrev twoL (ca cb : Option Nat) (l m : List Lp) : AV := .sl .any 37 (some 2) [lsl ca l, lsl cb m]
theorem yy7 (ca cb : Option Nat) (l m : List Lp) (hl : l.length ≤ 1000000) (hm : m.length ≤ 1000000) (g0 : decide (i64.wrap ((0 : Int) + ((l.map Lp.enc).length : Int)) < (0 : Int)) = false) : Tri Try.prog (cxN 36 0) (zqc Try.f43 0) ([(0, twoL ca cb l m), (3, it 0), (9, twoL ca cb l m), (10, it 2), (11, it 0)]) .normal ([(0, AV.sl .any 37 (some 2) [lsl ca l, lsl cb m]), (3, it (i64.wrap ((0 : Int) + ((l.map Lp.enc).length : Int)))), (9, AV.sl .any 37 (some 2) [lsl ca l, lsl cb m]), (10, it 2), (11, it (i64.wrap ((0 : Int) + (1 : Int))))]) :=
 ev h43 [.c, .c, .c, .c, .c, .c, .c, .c, .c, .c, .c, .c, .c, .c, .b false, .c, .c] (allp g0 zqa)
theorem yy6 (ca cb : Option Nat) (l m : List Lp) (s : Int) (hl : l.length ≤ 1000000) (hm : m.length ≤ 1000000) (g0 : decide (i64.wrap (s + ((m.map Lp.enc).length : Int)) < (0 : Int)) = false) : Tri Try.prog (cxN 36 0) (zqc Try.f43 0) ([(0, twoL ca cb l m), (3, it s), (9, twoL ca cb l m), (10, it 2), (11, it 1)]) .normal ([(0, AV.sl .any 37 (some 2) [lsl ca l, lsl cb m]), (3, it (i64.wrap (s + ((m.map Lp.enc).length : Int)))), (9, AV.sl .any 37 (some 2) [lsl ca l, lsl cb m]), (10, it 2), (11, it (i64.wrap ((1 : Int) + (1 : Int))))]) :=
 ev h43 [.c, .c, .c, .c, .c, .c, .c, .c, .c, .c, .c, .c, .c, .c, .b false, .c, .c] (allp g0 zqa)
theorem yy5 (ca cb : Option Nat) (l m : List Lp) (s : Int) (hl : l.length ≤ 1000000) (hm : m.length ≤ 1000000) : Tri Try.prog (cxN 36 0) (zqc Try.f43 0) ([(0, twoL ca cb l m), (3, it s), (9, twoL ca cb l m), (10, it 2), (11, it 2)]) (.exit 0) ([(0, AV.sl .any 37 (some 2) [lsl ca l, lsl cb m]), (3, it s), (9, AV.sl .any 37 (some 2) [lsl ca l, lsl cb m]), (10, it 2), (11, it 2), (12, bb (decide ((2 : Int) < (2 : Int))))]) :=
 ev h43 [.c, .c] zqa
theorem yy4 (ca cb : Option Nat) (l m t : List Lp) (hl : l.length ≤ 1000000) (hm : m.length ≤ 1000000) (g0 : decide ((37 : Nat) = (37 : Nat) ∧ (List.all (List.map Lp.enc l) fun y => List.all (AV.ecells y) zqt) = true ∧ (List.all (List.map Lp.enc l) fun y => decide ((AV.ecells y).length = List.length (TInfo.zero { zero := [Value.int u8 (0 : Int), Value.bool false, Value.slice none (0 : Nat) (0 : Nat), Value.slice none (0 : Nat) (0 : Nat)], bytes := (56 : Nat), agg := true, kind := TK.struct [((0 : Nat), (1 : Nat)), ((1 : Nat), (1 : Nat)), ((2 : Nat), (1 : Nat)), ((3 : Nat), (1 : Nat))] }))) = true) = true) (g1 : decide ((t.map Lp.enc).length + (l.map Lp.enc).length ≤ (4294967296 : Nat)) = true) (g2 : AV.sl .own 45 none (List.map Lp.enc t ++ List.map Lp.enc l) = AV.sl .own 45 none (List.map Lp.enc (t ++ l))) : Tri Try.prog (cxN 36 0) (zqc Try.f43 1) ([(6, low none t), (25, twoL ca cb l m), (26, it 2), (27, it 0)]) .normal ([(6, AV.sl .own 45 none (List.map Lp.enc (t ++ l))), (25, AV.sl .any 37 (some 2) [lsl ca l, lsl cb m]), (26, it 2), (27, it (i64.wrap ((0 : Int) + (1 : Int))))]) :=
 ev h43 [.c, .c, .c, .c, .c, .c, .c, .c, .c, .b true, .b true, .r (AV.sl .own 45 none (List.map Lp.enc (t ++ l))), .c, .c, .c] (allp g0 (allp g1 (allp g2 zqa)))
theorem yy3 (ca cb : Option Nat) (l m t : List Lp) (hl : l.length ≤ 1000000) (hm : m.length ≤ 1000000) (g0 : decide ((37 : Nat) = (37 : Nat) ∧ (List.all (List.map Lp.enc m) fun y => List.all (AV.ecells y) zqt) = true ∧ (List.all (List.map Lp.enc m) fun y => decide ((AV.ecells y).length = List.length (TInfo.zero { zero := [Value.int u8 (0 : Int), Value.bool false, Value.slice none (0 : Nat) (0 : Nat), Value.slice none (0 : Nat) (0 : Nat)], bytes := (56 : Nat), agg := true, kind := TK.struct [((0 : Nat), (1 : Nat)), ((1 : Nat), (1 : Nat)), ((2 : Nat), (1 : Nat)), ((3 : Nat), (1 : Nat))] }))) = true) = true) (g1 : decide ((t.map Lp.enc).length + (m.map Lp.enc).length ≤ (4294967296 : Nat)) = true) (g2 : AV.sl .own 45 none (List.map Lp.enc t ++ List.map Lp.enc m) = AV.sl .own 45 none (List.map Lp.enc (t ++ m))) : Tri Try.prog (cxN 36 0) (zqc Try.f43 1) ([(6, low none t), (25, twoL ca cb l m), (26, it 2), (27, it 1)]) .normal ([(6, AV.sl .own 45 none (List.map Lp.enc (t ++ m))), (25, AV.sl .any 37 (some 2) [lsl ca l, lsl cb m]), (26, it 2), (27, it (i64.wrap ((1 : Int) + (1 : Int))))]) :=
 ev h43 [.c, .c, .c, .c, .c, .c, .c, .c, .c, .b true, .b true, .r (AV.sl .own 45 none (List.map Lp.enc (t ++ m))), .c, .c, .c] (allp g0 (allp g1 (allp g2 zqa)))
theorem yy2 (ca cb : Option Nat) (l m t : List Lp) (hl : l.length ≤ 1000000) (hm : m.length ≤ 1000000) : Tri Try.prog (cxN 36 0) (zqc Try.f43 1) ([(6, low none t), (25, twoL ca cb l m), (26, it 2), (27, it 2)]) (.exit 2) ([(6, AV.sl .own 45 none (List.map Lp.enc t)), (25, AV.sl .any 37 (some 2) [lsl ca l, lsl cb m]), (26, it 2), (27, it 2), (28, bb (decide ((2 : Int) < (2 : Int))))]) :=
 ev h43 [.c, .c] zqa
theorem ygd (l : List Lp) : (List.all (l.map Lp.enc) fun y => List.all (AV.ecells y) zqt) = true := by
 rw [List.all_map, zls]; intro x _; rfl
theorem yk3 (l : List Lp) : (List.all (l.map Lp.enc) fun y => decide (List.length (AV.ecells y) = 4)) = true := by
 rw [List.all_map, zls]; intro x _; rfl
theorem ic_A (ca cb : Option Nat) (l m : List Lp) (hl : l.length ≤ 1000000) (hm : m.length ≤ 1000000) : Tri Try.prog (cxN 36 0) (.loop (zqc Try.f43 0)) [(0, twoL ca cb l m), (3, it 0), (9, twoL ca cb l m), (10, it 2), (11, it 0)] (.exit 0) [(0, twoL ca cb l m), (3, it ((l.length + m.length : Nat) : Int))] := by
 have w0 : i64.wrap ((0 : Int) + 1) = 1 := by decide
 have w1 : i64.wrap ((1 : Int) + 1) = 2 := by decide
 have h0 := yy7 ca cb l m hl hm (by rw [zla, yak (by omega) (by omega)]; simp; try omega)
 rw [w0, yak (n := (0 : Int) + _) (by omega) (by simp; omega)] at h0
 have h1 := yy6 ca cb l m (0 + ((l.map Lp.enc).length : Int)) hl hm (by rw [zla, zla, yak (by omega) (by omega)]; simp; try omega)
 rw [w1, yak (by simp; omega) (by simp; omega)] at h1
 have h2 := Tri.after [(0, .keep), (3, .keep)] (yy5 ca cb l m (0 + ((l.map Lp.enc).length : Int) + ((m.map Lp.enc).length : Int)) hl hm)
 have e : (0 + ((l.map Lp.enc).length : Int) + ((m.map Lp.enc).length : Int)) = ((l.length + m.length : Nat) : Int) := by simp
 rw [e] at h2 h1
 exact Rnd.loop (Rnd.step h0 (Rnd.step h1 (Rnd.exit (n := 0) h2 (by simp))))
theorem ic_B (ca cb : Option Nat) (l m : List Lp) (hl : l.length ≤ 1000000) (hm : m.length ≤ 1000000) : Tri Try.prog (cxN 36 0) (.loop (zqc Try.f43 1)) [(6, low none []), (25, twoL ca cb l m), (26, it 2), (27, it 0)] (.exit 2) [(6, low none (l ++ m))] := by
 have w0 : i64.wrap ((0 : Int) + 1) = 1 := by decide
 have w1 : i64.wrap ((1 : Int) + 1) = 2 := by decide
 have h0 := yy4 ca cb l m [] hl hm (by simp only [decide_eq_true_eq]; exact ⟨trivial, ygd _, yk3 _⟩) (by simp; omega) (by simp)
 rw [w0] at h0
 have h1 := yy3 ca cb l m ([] ++ l) hl hm (by simp only [decide_eq_true_eq]; exact ⟨trivial, ygd _, yk3 _⟩) (by simp; omega) (by simp)
 rw [w1] at h1
 have h2 := Tri.after [(6, .keep)] (yy2 ca cb l m ([] ++ l ++ m) hl hm)
 rw [List.nil_append] at h2 h1 h0
 exact Rnd.loop (Rnd.step h0 (Rnd.step h1 (Rnd.exit (n := 0) h2 (by simp))))
theorem yz8 (ca cb : Option Nat) (l m : List Lp) (hl : l.length ≤ 1000000) (hm : m.length ≤ 1000000) (g0 : AV.sl .own 45 none [] = AV.sl .own 45 none (List.map Lp.enc [])) : PureC Try.prog 43 [twoL ca cb l m]  (AV.sl .own 45 none (List.map Lp.enc (l ++ m))) :=
 zqj (H := h43) (n := 36) (ans := [.c, .c, .c, .c, .c, .lp (.exit 0) [(0, AV.sl .any 37 (some 2) [lsl ca l, lsl cb m]), (3, it (l.length + m.length : Int))], .c, .r (AV.sl .own 45 none []), .c, .r (AV.sl .own 45 none (List.map Lp.enc [])), .c, .c, .c, .c, .lp (.exit 2) [(6, AV.sl .own 45 none (List.map Lp.enc (l ++ m)))], .c, .c]) (base 36 0) Try.func43 rfl (by simp) rfl (by kernel_rfl) (allp (p := Tri Try.prog (cxN (36 : Nat) (0 : Nat)) (Code.loop (zqc Try.f43 (0 : Nat))) [(0, AV.sl .any 37 (some 2) [lsl ca l, lsl cb m]), (3, it 0), (9, AV.sl .any 37 (some 2) [lsl ca l, lsl cb m]), (10, it ((2 : Nat) : Int)), (11, it 0)] (.exit 0) [(0, AV.sl .any 37 (some 2) [lsl ca l, lsl cb m]), (3, it (l.length + m.length : Int))]) (by first | (apply ic_A<;>first|assumption|rfl|(simp at *<;>omega)) | (refine Tri.weak [(0, .keep), (3, .keep), (9, .keep), (10, .keep), (11, .keep)] ?_; apply ic_A<;>first|assumption|rfl|(simp at *<;>omega)) | (apply ic_B<;>first|assumption|rfl|(simp at *<;>omega)) | (refine Tri.weak [(6, .keep), (25, .keep), (26, .keep), (27, .keep)] ?_; apply ic_B<;>first|assumption|rfl|(simp at *<;>omega)) | (apply yt3<;>first|assumption|rfl|(simp at *<;>omega))) (allp (p := PureC Try.prog 54 [zqw, it (l.length + m.length : Int)] (AV.sl .own 45 none [])) (by apply yt3<;>first|assumption|rfl|(simp at *<;>omega)) (allp g0 (allp (p := Tri Try.prog (cxN (36 : Nat) (0 : Nat)) (Code.loop (zqc Try.f43 (1 : Nat))) [(6, AV.sl .own 45 none []), (25, AV.sl .any 37 (some 2) [lsl ca l, lsl cb m]), (26, it ((2 : Nat) : Int)), (27, it 0)] (.exit 2) [(6, AV.sl .own 45 none (List.map Lp.enc (l ++ m)))]) (by first | (apply ic_A<;>first|assumption|rfl|(simp at *<;>omega)) | (refine Tri.weak [(0, .keep), (3, .keep), (9, .keep), (10, .keep), (11, .keep)] ?_; apply ic_A<;>first|assumption|rfl|(simp at *<;>omega)) | (apply ic_B<;>first|assumption|rfl|(simp at *<;>omega)) | (refine Tri.weak [(6, .keep), (25, .keep), (26, .keep), (27, .keep)] ?_; apply ic_B<;>first|assumption|rfl|(simp at *<;>omega)) | (apply yt3<;>first|assumption|rfl|(simp at *<;>omega))) zqa))))
end Tst
end

section
namespace Go.Lf
open Go Go.RowKit
section
variable {P : Program} {cx : Cx} {ops : Array Oper} {t : TypeId}
theorem OpsR.makeH {y : Oper} {d r th : Nat} {nh : Int} {kt et : TypeId} {env : Env} (hg : y.guard = none) (ho : y.op = .makeMap t (some (.tmp th))) (hu : P.underlying t = some (.map kt et)) (hh : lk env th = some (.atom (.int .i64 nh))) (hd : y.dst = some d) (hdN : cx.lo ≤ d ∧ d < cx.N) (hrN : r < cx.N) (hr : lk env r = none) (hdn : lk env d = none) :
  OpsR P cx ops [y] env fun env' => ∃ g, env' = (d, .atom (.map (some g))) :: (r, .mp g []) :: env := by
 refine .one hg fun ρ F B0 w0 S0 ds a w Q K hag hK => ?_
 have e1 := hag.valOf hh rfl
 obtain ⟨hd', hN, n, S, Os, hn, hgr, hst⟩ := hag
 obtain ⟨m, rfl⟩ : ∃ m, n = m + 1 := ⟨n - 1, by omega⟩
 have hrl : r < a.tmps.size := by rw [hN.1]; exact hrN
 obtain ⟨v, hvr⟩ : ∃ v, a.tmps[r]? = some v := ⟨_, Array.getElem?_eq_getElem hrl⟩
 obtain ⟨w1, hw1⟩ : ∃ w1, w.alloc (.map #[] 0) = w1 := ⟨_, rfl⟩
 have hB1 : Below w.heap.size w w1 := by rw [← hw1]; exact (Below.refl _ w).alloc (zly _) _
 have hnew : w1.heap[w.heap.size]? = some (.map #[] 0) := by rw [← hw1]; exact World.alloc_heap_new w _
 have hlt : ∀ t b, 0 < Os t b → b < w.heap.size := fun t b hb => (St.lt (a := a) hst t b hb).2
 have noLeaf : ∀ q : Nat, lk env q = none → ∀ t y', lk env t = some y' → zqf y' ≠ some q := by
  intro q hq t y' hy hyr
  obtain ⟨z, hz, _⟩ := hst.leaf t y' q hy hyr
  rw [hq] at hz; cases hz
 have k1 := hst.set (zly _) r (v := v) (x := .mp w.heap.size []) (O := ind (some w.heap.size)) (S' := S) (w' := w1) ⟨hrl, .inr hvr⟩ (hB1.mono hst.b0) (fun b hb => hb)
  (fun b hb => Nat.lt_of_lt_of_le (hst.sLt b hb) hB1.size) (fun b t _ hb => hst.excl b t hb)
  (fun b hb => by
   unfold ind
   rw [if_neg]
   intro e; injection e with e; subst e
   have := hst.sLt _ hb; omega)
  (fun b hb => hB1.block b (by
   rcases hb with hb | ⟨t, _, hb⟩
   ·exact hst.sLt b hb
   ·exact hlt t b hb))
  (fun b => by unfold ind; split <;> omega)
  (fun b t _ hb => by
   unfold ind at hb
   split at hb
   ·rename_i e; injection e with e; subst e
    rcases zlt (Os t w.heap.size) with h | h
    ·exact h
    ·have := hlt t _ h; omega
   ·omega)
  (.inr ⟨hst.b0, ⟨#[], 0, hnew, rfl, rfl⟩, fun _ => rfl⟩)
  (fun t y' _ _ hy hyr => absurd hyr (noLeaf r hr t y' hy))
 rw [ya0 a.tmps r _ hvr] at k1
 have hdl : d < a.tmps.size := by rw [hN.1]; exact hdN.2
 have noLeaf2 : ∀ t y', lk ((r, .mp w.heap.size []) :: env) t = some y' → zqf y' ≠ some d := by
  intro t y' hy
  simp only [lk] at hy
  split at hy
  ·injection hy with hy; subst hy; intro h; cases h
  ·exact noLeaf d hdn t y' hy
 have k2 := k1.set (zly _) d (v := .map (some w.heap.size)) (x := .atom (.map (some w.heap.size))) (O := fun _ => 0) (S' := S) (w' := w1) ⟨hdl, .inl (by rw [hN.2]; exact hdN.1)⟩ (Below.refl _ _) (fun b hb => hb)
  k1.sLt (fun b t _ hb => k1.excl b t hb) (fun _ _ => rfl) (fun _ _ => rfl) (fun _ => Nat.zero_le _) (fun b t _ hb => absurd hb (by simp)) (.inr ⟨rfl, fun _ => rfl⟩)
  (fun t y' _ _ hy hyr => absurd hyr (noLeaf2 t y' hy))
 have hrun : (execOp a.eval y).run P w = .ok (.value (.map (some w.heap.size))) w1 := by
  rw [execOp, ho, ← hw1]
  have e2 : a.eval (.tmp th) = .int .i64 nh := e1
  simp only [Option.map, e2]
  simp [Instr.makeMap, Go.run_underlying hu, asInt, asIntOf, Result.andThen, newObj, run_newObj, Sem.run]
 refine opIn (by intro c hc; rw [ho] at hc; cases hc) (ybz hrun ?_)
 rw [hd]
 exact hK _ ⟨w.heap.size, rfl⟩ _ _ ⟨hd', by simpa [Act.put] using hN, m + 1, S, _, hn, hgr, k2⟩
end
end Go.Lf
end

section
namespace Go.Lf
open Go Go.RowKit
section
variable {P : Program} {cx : Cx} {ops : Array Oper}
def OpR (P : Program) (cx : Cx) (y : Oper) (env : Env) (R : Env → Prop) : Prop :=
 ∀ (ρ : Option Nat) (F : Frm) (B0 : Nat) (w0 : World) (S0 : Nat → Prop) (ds : List Deferred) (a : Act) (w : World) (Q : Exit → Act → World → Prop) (K : Act → World → Prop), Agree P F B0 w0 S0 cx ds env a w → (∀ env', R env' → ∀ a' w', Agree P F B0 w0 S0 cx ds env' a' w' → K a' w') → y.wpIn (Fi ρ) 0 P a w K Q
def AnyR (P : Program) (cx : Cx) (ops : Array Oper) (R : Env → Prop) : Nat → Array Bool → Env → Prop
 | 0, l, env => Region.ready .any ops l = [] ∧ R env
 | f + 1, l, env => (Region.ready .any ops l = [] → R env) ∧ ∀ i ∈ Region.ready .any ops l, ∃ y R1, ops[i]? = some y ∧ y.guard = none ∧ OpR P cx y env R1 ∧ ∀ env1, R1 env1 → AnyR P cx ops R f (l.setIfInBounds i true) env1
theorem AnyR.wp {R : Env → Prop} {ρ : Option Nat} {F : Frm} {B0 : Nat} {w0 : World} {S0 : Nat → Prop} {ds : List Deferred} {Q : Exit → Act → World → Prop} (hQ : ∀ env', R env' → ∀ a' w', Agree P F B0 w0 S0 cx ds env' a' w' → Q .normal a' w') :
  ∀ (f : Nat) (l : Array Bool) (env : Env) (a : Act) (w : World), AnyR P cx ops R f l env → Agree P F B0 w0 S0 cx ds env a w → wpAnyIn (Fi ρ) 0 P .any ops Q f l a w
 | 0, l, env, a, w, h, hag => ⟨h.1, hQ env h.2 a w hag⟩
 | f + 1, l, env, a, w, h, hag => by
  refine ⟨fun hr => hQ env (h.1 hr) a w hag, fun i hi => ?_⟩
  obtain ⟨y, R1, hy, hg, ho, hn⟩ := h.2 i hi
  have hw : Region.wanted y (yielded ops a.tmps) = true := by unfold Region.wanted; rw [hg]
  unfold wpOpIn
  simp only [hy, hw, if_true]
  exact ho ρ F B0 w0 S0 ds a w Q _ hag fun env' hr a' w' ha => AnyR.wp hQ f _ env' a' w' (hn env' hr) ha
theorem OpR.lookup {t : TypeId} {κ : Type} [DecidableEq κ] (M : MapT P t κ) {y : Oper} {tx tk r g : Nat} {env : Env} {l : List (κ × Value)} {x : κ} {kt : AV} {ls : List Nat} {eff : Eff} (ho : y.op = .lookup t (.tmp tx) (.tmp tk) false)
  (h1 : lk env tx = some (.atom (.map (some g)))) (h2 : lk env tk = some kt) (h3 : valOf kt = some (M.enc x)) (h4 : lk env r = some (.mp g (M.ents l))) (hout : (outP cx y.dst (.atom (getM l x M.z)) [] []).run env = some (ls, eff)) :
  OpR P cx y env (· = zqi eff env) := by
 intro ρ F B0 w0 S0 ds a w Q K hag hK
 have e1 := hag.valOf h1 rfl
 have e2 := hag.valOf h2 h3
 obtain ⟨hd, hN, n, S, Os, hn, hgr, hst⟩ := hag
 obtain ⟨v, hv, hs⟩ := hst.rel r _ h4
 have hr := hs.rv rfl
 obtain ⟨m, rfl⟩ := hr.pos
 obtain ⟨_, ⟨es, clock, hb, he, _⟩, _⟩ := hr
 have hrun : (execOp a.eval y).run P w = .ok (.value (getM l x M.z)) w := by
  rw [execOp, ho]
  simp [e1, e2, M.lookup hb he x]
 refine opIn (by intro c hc; rw [ho] at hc; cases hc) (Oper.wp_mono (fun a' w' hp => ?_) (yar (Q := Q) hst hn hN hout hrun))
 obtain ⟨p1, p2, n', S', Os', q1, q2, q3⟩ := hp
 exact hK _ rfl a' w' ⟨p1.trans hd, p2, n', S', Os', q1, hgr.trans q2, q3⟩
theorem OpR.ev (hcx : CxBase P cx) (hK : ∀ f xs, cx.K f xs = none) (hM : ∀ f x, x ≠ .bad → cx.KM f x = none) {y : Oper} (hg : y.guard = none) {env env' : Env} {ans : List Ans} {ps : List Prop} (h : ybr P cx ops [y] env ans = some (env', ps)) (hp : ∀ q ∈ ps, q) : OpR P cx y env (· = env') := by
 intro ρ F B0 w0 S0 ds a w Q K hag hQ
 obtain ⟨ls, as', h⟩ := ybf h
 obtain ⟨es, e1, _, _, rfl, e4⟩ := zrl hcx hK hM h hp
 obtain ⟨hd, hN, n, S, Os, hn, hgr, hst⟩ := hag
 obtain ⟨x, cxi, hx, hci, hcN, hcl, hrun⟩ := e4 0 y rfl
 match es, e1, hx with
 | [x0], _, hx =>
  have hxe : x0 = x := by simpa using hx
  subst hxe
  have hrun' : (ybk cxi ops y).run env = some (x0.1, x0.2) := hrun
  have k1 := ydd ρ (Q := Q) hci hst hn (by rw [hcN, hcl]; exact hN) hrun'
  have hw : Region.wanted y (yielded ops a.tmps) = true := by unfold Region.wanted; rw [hg]
  rw [if_pos hw] at k1
  refine Oper.wpIn_mono ?_ k1
  intro a' w' ⟨h1, h2, n', S', Os', k1, k2, k3⟩
  rw [hcN, hcl] at h2
  exact hQ _ rfl a' w' ⟨h1.trans hd, h2, n', S', Os', k1, hgr.trans k2, k3⟩
theorem TriR.any (hcx : CxBase P cx) {id : Nat} {env : Env} {R : Env → Prop} (h : AnyR P cx ops R ops.size (Array.replicate ops.size false) env) : TriR P cx (.region id ops true) env .normal R := by
 intro ρ hρ F B0 w0 S0 ds a w Q hag hQ
 exact wpIn_region_any hcx.mixed (AnyR.wp (fun env' hr a' w' ha => hQ env' hr a' w' ha.m) ops.size _ env a _ h (hag.drawn _))
end
end Go.Lf
end

section
namespace Go.Lf
open Go Go.RowKit
section
variable {P : Program} {t : TypeId} {κ : Type} [DecidableEq κ]
def posM (l : List (κ × Value)) (x : κ) : Nat := match l with
 | [] => 0
 | q :: l => if x = q.1 then 0 else posM l x + 1
theorem ymr {l : List (κ × Value)} {x : κ} (h : ∀ q ∈ l, x ≠ q.1) : posM l x = l.length := by
 induction l with
 | nil => rfl
 | cons q l ih => rw [posM, if_neg (h q (by simp)), ih fun q' hq => h q' (by simp [hq])]; rfl
theorem yh0 : ∀ {l : List (κ × Value)} {x : κ} {j : Nat} {q : κ × Value}, l[j]? = some q → q.1 = x → (∀ j' q', j' < j → l[j']? = some q' → x ≠ q'.1) → posM l x = j
 | [], _, j, q, h, _, _ => by simp at h
 | p :: l, x, 0, q, h, hx, _ => by
  injection h with h; subst h
  rw [posM, if_pos hx.symm]
 | p :: l, x, j + 1, q, h, hx, hn => by
  rw [posM, if_neg (hn 0 p (by omega) rfl), yh0 (by simpa using h) hx fun j' q' hj hq' => hn (j' + 1) q' (by omega) (by simpa using hq')]
theorem MapT.entry (M : MapT P t κ) {w : World} {g : Nat} {es : Array MapEntry} {clock : Nat} {l : List (κ × Value)} (hb : w.heap[g]? = some (.map es clock)) (hs : es.toList.map (·.born) = List.range clock) (he : es.toList.map (fun e => (e.key, e.val)) = M.ents l) (x : κ) :
  ∃ es' clock', (Instr.mapEntry t (.map (some g)) (M.enc x)).run P w = .ok (.tuple #[getM l x M.z, goInt (posM l x)]) (w.putObj g (.map es' clock')) ∧ es'.toList.map (fun e => (e.key, e.val)) = M.ents (setM l x (getM l x M.z)) ∧ es'.toList.map (·.born) = List.range clock' := by
 have hlen : es.toList.length = l.length := by have := congrArg List.length he; simpa [MapT.ents] using this
 have hck : clock = l.length := by have := congrArg List.length hs; simp at this; rw [← hlen, zlr]; omega
 rcases M.find x w l es.toList 0 he with ⟨g1, g2⟩ | ⟨j, q, g1, g2, g3, g4⟩
 ·refine ⟨es.push ⟨M.enc x, M.z, clock⟩, clock + 1, ?_, ?_, by rw [Array.toList_push, zlq, hs, List.range_succ]; rfl⟩
  ·rw [ye9 g1, ymr g1, ← hck]
   simp [Instr.mapEntry, run_underlying M.und, MapKept.run_getObj_map hb, M.chk, M.wide, g2, M.zero, MapKept.run_setObj_map _ hb, Result.andThen, World.putObj]
  ·rw [ye9 g1, yhv g1]
   simp [MapT.ents] at he ⊢
   exact he
 ·have hjl : j < l.length := (zlk.1 g1).1
  have hje : j < es.size := by rw [← zlr]; omega
  have h1 := congrArg (fun L : List (Value × Value) => L[j]?) he
  simp only [MapT.ents, List.getElem?_map, g1, Option.map_some] at h1
  rw [Array.getElem?_toList, Array.getElem?_eq_getElem hje] at h1
  simp only [Option.map_some, Option.some.injEq, Prod.mk.injEq] at h1
  have hkey : es[j].key = M.enc x := by rw [h1.1, g2]
  have hval := h1.2
  have hborn : es[j].born = j := by
   have h2 := congrArg (fun L : List Nat => L[j]?) hs
   simp only [List.getElem?_map] at h2
   rw [Array.getElem?_toList, Array.getElem?_eq_getElem hje, List.getElem?_range (by omega)] at h2
   simpa using h2
  refine ⟨es.modify j (fun e => { e with key := M.enc x }), clock, ?_, ?_, (yfj es j (fun e => { e with key := M.enc x }) fun _ => rfl).trans hs⟩
  ·rw [ydl g1 g2 g3, yh0 g1 g2 g3]
   simp [Instr.mapEntry, run_underlying M.und, MapKept.run_getObj_map hb, M.chk, M.wide, g4, hje, hkey, hborn, Instr.keyThatStays, M.bits, MapKept.run_setObj_map _ hb, Result.andThen, World.putObj]
  ·rw [ydl g1 g2 g3, yhu g1 g2 g3]
   apply List.ext_getElem?
   intro i
   have h1 := congrArg (fun L : List (Value × Value) => L[i]?) he
   simp only [MapT.ents, List.getElem?_map] at h1 ⊢
   rw [List.getElem?_set, Array.getElem?_toList] at *
   rw [Array.getElem?_modify]
   by_cases hij : j = i
   ·subst hij
    simp [hje, hjl]
    exact hval
   ·simp only [if_neg hij]
    exact h1
def putM (l : List (κ × Value)) (j : Nat) (u : Value) : List (κ × Value) := l.modify j fun q => (q.1, u)
theorem MapT.store (M : MapT P t κ) {w : World} {g : Nat} {es : Array MapEntry} {clock : Nat} {l : List (κ × Value)} (hb : w.heap[g]? = some (.map es clock)) (hs : es.toList.map (·.born) = List.range clock) (he : es.toList.map (fun e => (e.key, e.val)) = M.ents l) (j : Nat) (hj : j < l.length) (u : Value) :
  ∃ es' clock', (Instr.entryStore t (.map (some g)) (goInt j) u).run P w = .ok () (w.putObj g (.map es' clock')) ∧ es'.toList.map (fun e => (e.key, e.val)) = M.ents (putM l j u) ∧ es'.toList.map (·.born) = List.range clock' := by
 have hlen : es.toList.length = l.length := by have := congrArg List.length he; simpa [MapT.ents] using this
 have hck : clock = l.length := by have := congrArg List.length hs; simp at this; rw [← hlen, zlr]; omega
 have hje : j < es.size := by rw [← zlr]; omega
 have hborn : es[j].born = j := by
  have h2 := congrArg (fun L : List Nat => L[j]?) hs
  simp only [List.getElem?_map] at h2
  rw [Array.getElem?_toList, Array.getElem?_eq_getElem hje, List.getElem?_range (by omega)] at h2
  simpa using h2
 have hfi : es.findIdx? (fun e => ((e.born : Nat) : Int) == ((j : Nat) : Int)) = some j := by
  rw [Go.WideElems.findIdx_arr]
  have := Go.WideElems.findIdx_born (l := es.toList) (by rw [hs]; exact List.nodup_range) (j := j) (e0 := es[j]) (by rw [Array.getElem?_toList, Array.getElem?_eq_getElem hje])
  rwa [hborn] at this
 refine ⟨es.modify j (fun e => { e with val := u }), clock, ?_, ?_, (yfj es j (fun e => { e with val := u }) fun _ => rfl).trans hs⟩
 ·simp [Instr.entryStore, MapKept.run_getObj_map hb, goInt, asInt, asIntOf, hfi, MapKept.run_setObj_map _ hb, Result.andThen, World.putObj]
 ·apply List.ext_getElem?
  intro i
  have h1 := congrArg (fun L : List (Value × Value) => L[i]?) he
  simp only [MapT.ents, putM, List.getElem?_map] at h1 ⊢
  rw [List.getElem?_modify, Array.getElem?_toList] at *
  rw [Array.getElem?_modify]
  by_cases hij : j = i
  ·subst hij
   simp [hje, hj] at h1 ⊢
   exact h1.1
  ·simp only [if_neg hij]
   simpa using h1
end
end Go.Lf
end

section
namespace Go.Lf
open Go Go.RowKit
section
variable {P : Program} {t : TypeId} {κ : Type} [DecidableEq κ]
theorem OpR.store (M : MapT P t κ) {cx : Cx} {y : Oper} {tx tk r g jj : Nat} {vo : Operand} {env : Env} {l : List (κ × Value)} {u : Value} (ho : y.op = .entryStore t (.tmp tx) (.tmp tk) vo) (hd : y.dst = none)
  (h1 : lk env tx = some (.atom (.map (some g)))) (h2 : lk env tk = some (.atom (goInt jj))) (hjj : jj < l.length) (h4 : lk env r = some (.mp g (M.ents l))) (hv : vo = .const u ∨ ∃ tv, vo = .tmp tv ∧ lk env tv = some (.atom u)) :
  OpR P cx y env (· = (r, .mp g (M.ents (putM l jj u))) :: env) := by
 intro ρ F B0 w0 S0 ds a w Q K hag hK
 have e1 := hag.valOf h1 rfl
 have e2 := hag.valOf h2 rfl
 have e3 : a.eval vo = u := by
  rcases hv with rfl | ⟨tv, rfl, h5⟩
  ·rfl
  ·exact hag.valOf h5 rfl
 obtain ⟨hd', hN, n, S, Os, hn, hgr, hst⟩ := hag
 obtain ⟨v, hvr, hs⟩ := hst.rel r _ h4
 have hr := hs.rv rfl
 obtain ⟨m, rfl⟩ := hr.pos
 obtain ⟨hB, ⟨es, clock, hb, he, hsd⟩, hO⟩ := hr
 obtain ⟨es', clock', hrun, he', hsd'⟩ := M.store hb hsd he jj hjj u
 have hgl : g < w.heap.size := (zlj.1 hb).1
 have hown : 0 < Os r g := by have := hO g; simp [ind] at this; omega
 have hrl : r < a.tmps.size := (zlj.1 hvr).1
 have hother : ∀ b, b ≠ g → (w.putObj g (.map es' clock')).heap[b]? = w.heap[b]? := fun b hb => World.putObj_heap_other hb
 have key := hst.set (zly _) r (v := v) (x := .mp g (M.ents (putM l jj u))) (O := ind (some g)) (S' := S) (w' := w.putObj g (.map es' clock')) ⟨hrl, .inr hvr⟩ (ybe hB) (fun b hb => hb)
  (fun b hb => by rw [World.putObj_size]; exact hst.sLt b hb) (fun b t _ hb => hst.excl b t hb)
  (fun b hb => by
   have := hst.excl b r hb
   rw [hO b] at this; exact this)
  (fun b hbb => hother b fun e => by
   rw [e] at hbb
   rcases hbb with hbb | ⟨t, ht, hbb⟩
   ·have := hst.excl g r hbb; omega
   ·rcases hst.dis r t g (Ne.symm ht) with h | h <;> omega)
  (fun b => by unfold ind; split <;> omega)
  (fun b t ht hb => by
   unfold ind at hb
   split at hb
   ·rename_i e; injection e with e; subst e
    rcases hst.dis r t g (Ne.symm ht) with h | h
    ·omega
    ·exact h
   ·omega)
  (.inr ⟨hB, ⟨es', clock', World.putObj_heap_same hgl, he', hsd'⟩, fun _ => rfl⟩)
  (fun t y' _ _ hy hyr => by
   obtain ⟨z, hz, hzr⟩ := hst.leaf t y' r hy hyr
   rw [h4] at hz; injection hz with hz; subst hz; cases hzr)
 rw [ya0 a.tmps r _ hvr] at key
 have hrun2 : (execOp a.eval y).run P w = .ok .skip (w.putObj g (.map es' clock')) := by
  rw [execOp, ho]
  simp [e1, e2, e3, hrun]
 refine opIn (by intro c hc; rw [ho] at hc; cases hc) (ygh hrun2 ?_)
 rw [hd]
 exact hK _ rfl a _ ⟨hd', hN, m + 1, S, _, hn, hgr, key⟩
end
end Go.Lf
end

section
namespace Go.Lf
open Go Go.RowKit
section
variable {P : Program} {t : TypeId} {κ : Type} [DecidableEq κ]
theorem OpR.entry (M : MapT P t κ) {cx : Cx} {y : Oper} {tx tk r g d : Nat} {env : Env} {l : List (κ × Value)} {x : κ} {kt : AV} {k : IntKind} {zi : Int} (ho : y.op = .mapEntry t (.tmp tx) (.tmp tk)) (hd : y.dst = some d) (hdN : cx.lo ≤ d ∧ d < cx.N)
  (hz : getM l x M.z = .int k zi) (hnl : ∀ q y', lk env q = some y' → zqf y' ≠ some d)
  (h1 : lk env tx = some (.atom (.map (some g)))) (h2 : lk env tk = some kt) (h3 : valOf kt = some (M.enc x)) (h4 : lk env r = some (.mp g (M.ents l))) :
  OpR P cx y env (· = (d, .tup [.atom (.int k zi), .atom (goInt (posM l x))]) :: (r, .mp g (M.ents (setM l x (getM l x M.z)))) :: env) := by
 intro ρ F B0 w0 S0 ds a w Q K hag hK
 have e1 := hag.valOf h1 rfl
 have e2 := hag.valOf h2 h3
 obtain ⟨hd', hN, n, S, Os, hn, hgr, hst⟩ := hag
 obtain ⟨v, hvr, hs⟩ := hst.rel r _ h4
 have hr := hs.rv rfl
 obtain ⟨m, rfl⟩ := hr.pos
 obtain ⟨hB, ⟨es, clock, hb, he, hsd⟩, hO⟩ := hr
 obtain ⟨es', clock', hrun, he', hsd'⟩ := M.entry hb hsd he x
 have hgl : g < w.heap.size := (zlj.1 hb).1
 have hown : 0 < Os r g := by have := hO g; simp [ind] at this; omega
 have hrl : r < a.tmps.size := (zlj.1 hvr).1
 have hother : ∀ b, b ≠ g → (w.putObj g (.map es' clock')).heap[b]? = w.heap[b]? := fun b hb => World.putObj_heap_other hb
 have key := hst.set (zly _) r (v := v) (x := .mp g (M.ents (setM l x (getM l x M.z)))) (O := ind (some g)) (S' := S) (w' := w.putObj g (.map es' clock')) ⟨hrl, .inr hvr⟩ (ybe hB) (fun b hb => hb)
  (fun b hb => by rw [World.putObj_size]; exact hst.sLt b hb) (fun b t _ hb => hst.excl b t hb)
  (fun b hb => by
   have := hst.excl b r hb
   rw [hO b] at this; exact this)
  (fun b hbb => hother b fun e => by
   rw [e] at hbb
   rcases hbb with hbb | ⟨t, ht, hbb⟩
   ·have := hst.excl g r hbb; omega
   ·rcases hst.dis r t g (Ne.symm ht) with h | h <;> omega)
  (fun b => by unfold ind; split <;> omega)
  (fun b t ht hb => by
   unfold ind at hb
   split at hb
   ·rename_i e; injection e with e; subst e
    rcases hst.dis r t g (Ne.symm ht) with h | h
    ·omega
    ·exact h
   ·omega)
  (.inr ⟨hB, ⟨es', clock', World.putObj_heap_same hgl, he', hsd'⟩, fun _ => rfl⟩)
  (fun t y' _ _ hy hyr => by
   obtain ⟨z, hz, hzr⟩ := hst.leaf t y' r hy hyr
   rw [h4] at hz; injection hz with hz; subst hz; cases hzr)
 rw [ya0 a.tmps r _ hvr] at key
 have hdl : d < a.tmps.size := by rw [hN.1]; exact hdN.2
 have k2 := key.set (Nat.le_succ _) d (v := .tuple #[.int k zi, goInt (posM l x)]) (x := .tup [.atom (.int k zi), .atom (goInt (posM l x))]) (O := fun _ => 0) (S' := S) (w' := w.putObj g (.map es' clock')) ⟨hdl, .inl (by rw [hN.2]; exact hdN.1)⟩ (Below.refl _ _) (fun b hb => hb)
  key.sLt (fun b t _ hb => key.excl b t hb) (fun _ _ => rfl) (fun _ _ => rfl) (fun _ => Nat.zero_le _) (fun b t _ hb => absurd hb (by simp)) (.inr ?_)
  (fun t y' _ _ hy hyr => ?_)
 ·have hrun2 : (execOp a.eval y).run P w = .ok (.value (.tuple #[.int k zi, goInt (posM l x)])) (w.putObj g (.map es' clock')) := by
   rw [execOp, ho]
   rw [hz] at hrun
   simp [e1, e2, hrun]
  refine opIn (by intro c hc; rw [ho] at hc; cases hc) (ybz hrun2 ?_)
  rw [hd]
  exact hK _ rfl _ _ ⟨hd', by simpa [Act.put] using hN, m + 2, S, _, by omega, hgr, k2⟩
 ·exact ⟨#[.int k zi, goInt (posM l x)], rfl, .cons (O1 := fun _ => 0) (O2 := fun _ => 0) ⟨rfl, fun _ => rfl⟩ (.cons (O1 := fun _ => 0) (O2 := fun _ => 0) ⟨rfl, fun _ => rfl⟩ (.nil fun _ => rfl) fun _ => rfl) fun _ => rfl⟩
 ·exfalso
  simp only [lk] at hy
  split at hy
  ·injection hy with hy; subst hy; cases hyr
  ·exact hnl _ _ hy hyr
end
end Go.Lf
end

section
open Go Go.Lf Go.Proofs
namespace Tst
def idV (p : Idd) : Value := .agg #[.int .u8 p.y, .int .i64 p.n]
theorem ys1 (y n : Int) (w : World) : (part 5 #[.int .u8 y, .int .i64 n] 0).run Try.prog w = .ok (.int .u8 y) w := by simp [part, isAgg, run_underlying Try.underlying5]
theorem ys0 (y n : Int) (w : World) : (part 3 #[.int .u8 y, .int .i64 n] 1).run Try.prog w = .ok (.int .i64 n) w := by simp [part, isAgg, run_underlying Try.underlying3]
theorem chk36 (em : Bool) (p : Idd) (w : World) : (Instr.checkKey em 10000 36 (idV p)).run Try.prog w = .ok () w := by
 have g5 : ∀ k y w, (Instr.checkKey em (k + 1) 5 (.int .u8 y)).run Try.prog w = .ok () w := fun k y w => by simp [Instr.checkKey, run_underlying Try.underlying5]
 have g3 : ∀ k y w, (Instr.checkKey em (k + 1) 3 (.int .i64 y)).run Try.prog w = .ok () w := fun k y w => by simp [Instr.checkKey, run_underlying Try.underlying3]
 have g36 : ∀ k w, (Instr.checkKey em (k + 1 + 1) 36 (idV p)).run Try.prog w = .ok () w := fun k w => by
  unfold idV
  rw [Instr.checkKey]
  simp [run_underlying Try.underlying36, ys1, ys0, g5, g3, Result.andThen]
 exact g36 9998 w
noncomputable def mapT85 : MapT Try.prog 85 Idd where
 k := 36
 e := 3
 enc := idV
 z := .int .i64 0
 und := Try.underlying85
 chk := chk36
 eq := fun x y w => by
  show (Op.equalIn (9998 + 2) 36 (idV x) (idV y)).run Try.prog w = _
  unfold idV
  rw [yko 9998 w]
  congr 1
  cases x; cases y
  rw [Bool.eq_iff_iff]
  simp [zlo]
 wide := fun x es w => run_findKey_eq (w := w) (by rw [Try.underlying36]) (idV x) es
 zero := fun w => Try.zeroValue3 w
 bits := fun x => by simp [Instr.sameBits, idV]
noncomputable abbrev mpC (g : Nat) (l : List (Idd × Value)) : AV := .mp g (mapT85.ents l)
abbrev rfM (g : Nat) : AV := .atom (.map (some g))
abbrev lpB (L : Lp) : AV := .box [ub L.b, bb L.w, isl L.ct L.th, sl L.cp L.pa]
theorem yhz : ∀ (l : List (Idd × Value)) (x : Idd) (v u : Value), putM (setM l x v) (posM l x) u = setM l x u
 | [], x, v, u => rfl
 | q :: l, x, v, u => by
  rw [setM, posM, setM]
  by_cases h : x = q.1
  ·rw [if_pos h, if_pos h, if_pos h]; rfl
  ·rw [if_neg h, if_neg h, if_neg h]
   show q :: putM (setM l x v) (posM l x) u = _
   rw [yhz l x v u]
theorem yms : ∀ (l : List (Idd × Value)) (x : Idd) (v : Value), posM l x < (setM l x v).length
 | [], x, v => by simp [posM, setM]
 | q :: l, x, v => by
  rw [setM, posM]
  by_cases h : x = q.1
  ·rw [if_pos h, if_pos h]; simp
  ·rw [if_neg h, if_neg h]; simpa using yms l x v
theorem ydm : ∀ (l : List (Idd × Value)) (x : Idd) (v z : Value), getM (setM l x v) x z = v
 | [], x, v, z => by simp [getM, setM]
 | q :: l, x, v, z => by
  rw [setM]
  by_cases h : x = q.1
  ·rw [if_pos h]; simp [getM]
  ·rw [if_neg h, getM, if_neg h]; exact ydm l x v z
section
variable {P : Program} {cx : Cx} {ops : Array Oper}
theorem OpR.keep {y : Oper} {env env1 : Env} (ks : List (Nat × Wk)) (h : OpR P cx y env (· = env1)) : OpR P cx y env (· = keepE ks env1) :=
 fun ρ F B0 w0 S0 ds a w Q K hag hK => h ρ F B0 w0 S0 ds a w Q K hag fun e he a' w' ha => hK _ rfl a' w' (he ▸ ha.keep)
theorem AnyR.step {R : Env → Prop} {f : Nat} {l : Array Bool} {env : Env} (rs : List Nat) (hr : Region.ready .any ops l = rs) (hne : rs ≠ []) (h : ∀ i ∈ rs, ∃ y env1, ops[i]? = some y ∧ y.guard = none ∧ OpR P cx y env (· = env1) ∧ AnyR P cx ops R f (l.setIfInBounds i true) env1) : AnyR P cx ops R (f + 1) l env := by
 refine ⟨fun h0 => absurd (hr ▸ h0) hne, fun i hi => ?_⟩
 obtain ⟨y, env1, h1, h2, h3, h4⟩ := h i (hr ▸ hi)
 exact ⟨y, _, h1, h2, h3, fun e he => he ▸ h4⟩
end
set_option maxHeartbeats 0
theorem yv8 (g : Nat) (l : List (Idd × Value)) (i n : Int) (L : Lp) : Tri Try.prog (cxN 33 5) (zqo Try.f26 0) ([(13, idE i n), (14, L.enc), (1, mpC g l), (2, .box [bb false]), (3, .box [rfM g])]) .normal ([(1, AV.mp g (MapT.ents mapT85 l)), (2, AV.box [bb false]), (3, AV.box [AV.atom (Value.map (some g))]), (5, AV.box [ub (Lp.b L), bb (Lp.w L), isl (Lp.ct L) (Lp.th L), sl (Lp.cp L) (Lp.pa L)])]) :=
 ev h26 [.c, .c] zqa
theorem ywc (g : Nat) (l : List (Idd × Value)) (L : Lp) : Tri Try.prog (cxN 33 5) (zqr Try.f26 4) ([(1, mpC g l), (2, .box [bb false]), (3, .box [rfM g]), (5, .box [ub L.b, bb L.w, isl L.ct L.th, sl L.cp L.pa])]) .normal ([(1, AV.mp g (MapT.ents mapT85 l)), (2, AV.box [bb false]), (3, AV.box [AV.atom (Value.map (some g))]), (5, AV.box [ub (Lp.b L), bb (Lp.w L), isl (Lp.ct L) (Lp.th L), sl (Lp.cp L) (Lp.pa L)]), (16, isl (Lp.ct L) (Lp.th L)), (17, it (↑(((Lp.th L).map Idd.enc).length) : Int)), (18, it 0)]) :=
 ev h26 [.c, .c, .c, .c, .c, .c] zqa
theorem yso (g : Nat) (l : List (Idd × Value)) (c : Option Nat) (th : List Idd) (m i : Int) : Tri Try.prog (cxN 33 5) (zqr Try.f26 5) ([(1, mpC g l), (2, .box [bb false]), (3, .box [rfM g]), (16, isl c th), (17, it m), (18, it i)]) .normal ([(1, AV.mp g (MapT.ents mapT85 l)), (2, AV.box [bb false]), (3, AV.box [AV.atom (Value.map (some g))]), (16, isl c th), (17, it m), (18, it i), (19, bb (decide (i < m)))]) :=
 ev h26 [.c] zqa
theorem ywb (g : Nat) (l : List (Idd × Value)) (c : Option Nat) (th : List Idd) (m i : Int) (g0 : decide (0 ≤ i ∧ i < ((th.map Idd.enc).length : Int)) = true) (g1 : (th.map Idd.enc).getD i.toNat AV.bad = Idd.enc (th.getD i.toNat default)) : Tri Try.prog (cxN 33 5) (zqr Try.f26 6) ([(1, mpC g l), (2, .box [bb false]), (3, .box [rfM g]), (16, isl c th), (17, it m), (18, it i)]) .normal ([(1, AV.mp g (MapT.ents mapT85 l)), (2, AV.box [bb false]), (3, AV.box [AV.atom (Value.map (some g))]), (7, AV.box [ub (Idd.y (th.getD i.toNat default)), it (Idd.n (th.getD i.toNat default))]), (16, isl c th), (17, it m), (18, it i)]) :=
 ev h26 [.b true, .r (Idd.enc (th.getD i.toNat default)), .c, .c, .c, .c] (allp g0 (allp g1 zqa))
theorem tw9_0 (g : Nat) (l : List (Idd × Value)) : Tri Try.prog (cxN 33 5) (zqr Try.f26 9) ([(1, mpC g l), (2, .box [bb false])]) .normal ([(1, AV.mp g (MapT.ents mapT85 l)), (2, AV.box [bb true])]) :=
 ev h26 [.c, .c, .c] zqa
theorem ywf (g : Nat) (l : List (Idd × Value)) (c : Option Nat) (th : List Idd) (m i : Int) : Tri Try.prog (cxN 33 5) (zqr Try.f26 10) ([(1, mpC g l), (2, .box [bb false]), (3, .box [rfM g]), (16, isl c th), (17, it m), (18, it i)]) .normal ([(1, AV.mp g (MapT.ents mapT85 l)), (2, AV.box [bb false]), (3, AV.box [AV.atom (Value.map (some g))]), (16, isl c th), (17, it m), (18, it (i64.wrap (i + (1 : Int))))]) :=
 ev h26 [.c, .c] zqa
theorem ywg (c : Option Nat) (t : List Rw) : Tri Try.prog (cxN 33 0) (zqr Try.f26 0) ([(0, tsl c t)]) .normal ([(0, tsl c t), (2, AV.box [bb false])]) :=
 ev h26 [.c] zqa
theorem ywd (g : Nat) (c : Option Nat) (t : List Rw) : Tri Try.prog (cxN 33 0) (zqr Try.f26 2) ([(0, tsl c t), (1, mpC g []), (2, .box [bb false]), (3, .box [rfM g])]) .normal ([(0, tsl c t), (1, AV.mp g []), (2, AV.box [bb false]), (3, AV.box [AV.atom (Value.map (some g))]), (12, AV.fn 51 [AV.vadr [tsl c t] 0])]) :=
 ev h26 [.c, .r (tsl c t), .r (AV.fn 51 [AV.vadr [tsl c t] 0]), .c, .c] (allp (zqg .any c t) (allp (p := PureC Try.prog 37 [tsl c t] (AV.fn 51 [AV.vadr [tsl c t] 0])) (by apply yhi<;>first|assumption|rfl|(simp at *<;>omega)) zqa))
theorem ywe (x : AV) : Tri Try.prog (cxN 33 0) (zqr Try.f26 11) ([(2, .box [bb false])]) .normal ([(2, AV.box [bb false])]) :=
 ev h26 [.c, .c, .c] zqa
theorem noLf {env : Env} {q : Nat} {y' : AV} {d : Nat} (hq : lk env q = some y') (h : env.all (fun r => zqf r.2 != some d) = true) : zqf y' ≠ some d := by
 induction env with
 | nil => cases hq
 | cons r env ih =>
  rw [List.all_cons, zlo] at h
  simp only [lk] at hq
  split at hq
  ·injection hq with hq; subst hq; simpa using h.1
  ·exact ih hq h.2
section
variable (g : Nat) (l : List (Idd × Value)) (c : Option Nat) (th : List Idd) (m i : Int) (p : Idd)
noncomputable abbrev eK : Env := [(1, mpC g l), (2, .box [bb false]), (3, .box [rfM g]), (7, .box [ub p.y, it p.n]), (16, isl c th), (17, it m), (18, it i)]
abbrev kp : List Nat → List (Nat × Wk) := List.map fun t => (t, .keep)
noncomputable abbrev ops7 : Array Oper := zql Try.f26 7
noncomputable abbrev y7 (k : Nat) : Oper := (zql Try.f26 7).toList.getD k default
noncomputable abbrev e1 (l : List (Idd × Value)) (xs : Env) : Env := (22, rfM g) :: (23, AV.agg [ub p.y, it p.n]) :: eK g l c th m i p ++ xs
abbrev kA (xs : List Nat) : List (Nat × Wk) := kp ([22, 23, 1, 2, 3, 7, 16, 17, 18] ++ xs)
theorem oEv (k : Nat) (ks : List (Nat × Wk)) (env env2 env3 : Env) (hg : (y7 k).guard = none) (h : ybr Try.prog (cxN 33 5) ops7 [y7 k] env [.c] = some (env2, [])) (he : keepE ks env2 = env3) : OpR Try.prog (cxN 33 5) (y7 k) env (· = env3) :=
 he ▸ OpR.keep _ (OpR.ev (ops := ops7) (base 33 5) zqb.1 zqb.2 hg h zqa)
variable (v : Int) (hz : getM l p (.int .i64 0) = .int .i64 v)
include hz
theorem oLk (l' : List (Idd × Value)) (hl : getM l' p (.int .i64 0) = .int .i64 v) (xs : Env) (ho : (outP (cxN 33 5) (some 24) (.atom (getM l' p mapT85.z)) [] []).run (e1 g c th m i p l' xs) = some ([48], ⟨[(24, .atom (getM l' p mapT85.z))], []⟩)) (ks : List (Nat × Wk)) (env3 : Env) (he : keepE ks ((24, it v) :: e1 g c th m i p l' xs) = env3) : OpR Try.prog (cxN 33 5) (y7 2) (e1 g c th m i p l' xs) (· = env3) := by
 have h := OpR.lookup (P := Try.prog) (cx := cxN 33 5) mapT85 (y := y7 2) (tx := 22) (tk := 23) (r := 1) (g := g) (env := e1 g c th m i p l' xs) (l := l') (x := p) (ls := [48]) (eff := ⟨[(24, .atom (getM l' p mapT85.z))], []⟩) (by kernel_rfl) rfl rfl rfl rfl ho
 have e : zqi ⟨[(24, .atom (getM l' p mapT85.z))], []⟩ (e1 g c th m i p l' xs) = (24, it v) :: e1 g c th m i p l' xs := by
  show (24, AV.atom (getM l' p (.int .i64 0))) :: _ = _
  rw [hl]; rfl
 rw [e] at h
 exact he ▸ OpR.keep _ h
noncomputable abbrev vW (v : Int) : Int := i64.wrap (v + 1)
noncomputable abbrev l1 (l : List (Idd × Value)) (p : Idd) (v : Int) : List (Idd × Value) := setM l p (.int .i64 v)
noncomputable abbrev l2 (l : List (Idd × Value)) (p : Idd) (v : Int) : List (Idd × Value) := setM l p (.int .i64 (vW v))
noncomputable abbrev tE (l : List (Idd × Value)) (p : Idd) (v : Int) : AV := .tup [it v, .atom (goInt (posM l p))]
noncomputable abbrev pE (l : List (Idd × Value)) (p : Idd) : AV := .atom (goInt (posM l p))
theorem oEn (xs : Env) (hx : ∀ q y', lk (e1 g c th m i p l xs) q = some y' → zqf y' ≠ some 26) (ks : List (Nat × Wk)) (env3 : Env) (he : keepE ks ((26, tE l p v) :: (1, mpC g (l1 l p v)) :: e1 g c th m i p l xs) = env3) : OpR Try.prog (cxN 33 5) (y7 4) (e1 g c th m i p l xs) (· = env3) := by
 have h := OpR.entry (P := Try.prog) (cx := cxN 33 5) mapT85 (y := y7 4) (tx := 22) (tk := 23) (r := 1) (g := g) (d := 26) (env := e1 g c th m i p l xs) (l := l) (x := p) (k := .i64) (zi := v) (by kernel_rfl) (by kernel_rfl) (by decide) hz hx rfl rfl rfl rfl
 have e : getM l p mapT85.z = .int .i64 v := hz
 rw [e] at h
 exact he ▸ OpR.keep _ h
omit hz in
theorem oSt (xs : Env) (h25 : lk xs 25 = some (it (vW v))) (h27 : lk xs 27 = some (pE l p)) (ks : List (Nat × Wk)) (env3 : Env) (he : keepE ks ((1, mpC g (l2 l p v)) :: e1 g c th m i p (l1 l p v) xs) = env3) : OpR Try.prog (cxN 33 5) (y7 6) (e1 g c th m i p (l1 l p v) xs) (· = env3) := by
 have h := OpR.store (P := Try.prog) (cx := cxN 33 5) mapT85 (y := y7 6) (tx := 22) (tk := 27) (r := 1) (g := g) (jj := posM l p) (vo := .tmp 25) (env := e1 g c th m i p (l1 l p v) xs) (l := l1 l p v) (u := .int .i64 (vW v)) (by kernel_rfl) (by kernel_rfl) rfl h27 (yms l p _) rfl (.inr ⟨25, rfl, h25⟩)
 rw [yhz] at h
 exact he ▸ OpR.keep _ h
noncomputable abbrev RR (l : List (Idd × Value)) : Env → Prop := (· = eK g (l2 l p v) c th m i p)
theorem n22 : AnyR Try.prog (cxN 33 5) ops7 (RR g c th m i p v l) 1 #[true, true, true, true, true, true, false] (e1 g c th m i p (l1 l p v) [(25, it (vW v)), (27, pE l p)]) := by
 refine AnyR.step [6] (by kernel_rfl) (by simp) fun k hk => ?_
 rw [zlv] at hk; subst hk
 exact ⟨y7 6, eK g (l2 l p v) c th m i p, by kernel_rfl, by kernel_rfl, oSt g l c th m i p v [(25, it (vW v)), (27, pE l p)] rfl rfl (kp [1, 2, 3, 7, 16, 17, 18]) _ rfl, by kernel_rfl, rfl⟩
theorem n12 : AnyR Try.prog (cxN 33 5) ops7 (RR g c th m i p v l) 2 #[true, true, true, false, true, true, false] (e1 g c th m i p (l1 l p v) [(24, it v), (27, pE l p)]) := by
 refine AnyR.step [3] (by kernel_rfl) (by simp) fun k hk => ?_
 rw [zlv] at hk; subst hk
 exact ⟨y7 3, e1 g c th m i p (l1 l p v) [(25, it (vW v)), (27, pE l p)], by kernel_rfl, by kernel_rfl, oEv 3 (kA [25, 27]) (e1 g c th m i p (l1 l p v) [(24, it v), (27, pE l p)]) ((25, it (vW v)) :: e1 g c th m i p (l1 l p v) [(24, it v), (27, pE l p)]) _ (by kernel_rfl) (by kernel_rfl) rfl, n22 g l c th m i p v hz⟩
theorem n21 : AnyR Try.prog (cxN 33 5) ops7 (RR g c th m i p v l) 2 #[true, true, true, true, true, false, false] (e1 g c th m i p (l1 l p v) [(25, it (vW v)), (26, tE l p v)]) := by
 refine AnyR.step [5] (by kernel_rfl) (by simp) fun k hk => ?_
 rw [zlv] at hk; subst hk
 exact ⟨y7 5, e1 g c th m i p (l1 l p v) [(25, it (vW v)), (27, pE l p)], by kernel_rfl, by kernel_rfl, oEv 5 (kA [25, 27]) (e1 g c th m i p (l1 l p v) [(25, it (vW v)), (26, tE l p v)]) ((27, pE l p) :: e1 g c th m i p (l1 l p v) [(25, it (vW v)), (26, tE l p v)]) _ (by kernel_rfl) (by kernel_rfl) rfl, n22 g l c th m i p v hz⟩
theorem n02 : AnyR Try.prog (cxN 33 5) ops7 (RR g c th m i p v l) 3 #[true, true, false, false, true, true, false] (e1 g c th m i p (l1 l p v) [(27, pE l p)]) := by
 refine AnyR.step [2] (by kernel_rfl) (by simp) fun k hk => ?_
 rw [zlv] at hk; subst hk
 exact ⟨y7 2, e1 g c th m i p (l1 l p v) [(24, it v), (27, pE l p)], by kernel_rfl, by kernel_rfl, oLk g l c th m i p v hz (l1 l p v) (ydm _ _ _ _) [(27, pE l p)] (by kernel_rfl) (kA [24, 27]) _ rfl, n12 g l c th m i p v hz⟩
theorem n11 : AnyR Try.prog (cxN 33 5) ops7 (RR g c th m i p v l) 3 #[true, true, true, false, true, false, false] (e1 g c th m i p (l1 l p v) [(24, it v), (26, tE l p v)]) := by
 refine AnyR.step [3, 5] (by kernel_rfl) (by simp) fun k hk => ?_
 simp only [List.mem_cons, List.mem_nil_iff, or_false] at hk
 rcases hk with rfl | rfl
 ·exact ⟨y7 3, e1 g c th m i p (l1 l p v) [(25, it (vW v)), (26, tE l p v)], by kernel_rfl, by kernel_rfl, oEv 3 (kA [25, 26]) (e1 g c th m i p (l1 l p v) [(24, it v), (26, tE l p v)]) ((25, it (vW v)) :: e1 g c th m i p (l1 l p v) [(24, it v), (26, tE l p v)]) _ (by kernel_rfl) (by kernel_rfl) rfl, n21 g l c th m i p v hz⟩
 ·exact ⟨y7 5, e1 g c th m i p (l1 l p v) [(24, it v), (27, pE l p)], by kernel_rfl, by kernel_rfl, oEv 5 (kA [24, 27]) (e1 g c th m i p (l1 l p v) [(24, it v), (26, tE l p v)]) ((27, pE l p) :: e1 g c th m i p (l1 l p v) [(24, it v), (26, tE l p v)]) _ (by kernel_rfl) (by kernel_rfl) rfl, n12 g l c th m i p v hz⟩
theorem n20 : AnyR Try.prog (cxN 33 5) ops7 (RR g c th m i p v l) 3 #[true, true, true, true, false, false, false] (e1 g c th m i p l [(25, it (vW v))]) := by
 refine AnyR.step [4] (by kernel_rfl) (by simp) fun k hk => ?_
 rw [zlv] at hk; subst hk
 exact ⟨y7 4, e1 g c th m i p (l1 l p v) [(25, it (vW v)), (26, tE l p v)], by kernel_rfl, by kernel_rfl, oEn g l c th m i p v hz [(25, it (vW v))] (fun q y' hq => noLf hq (by kernel_rfl)) (kA [25, 26]) _ rfl, n21 g l c th m i p v hz⟩
theorem n01 : AnyR Try.prog (cxN 33 5) ops7 (RR g c th m i p v l) 4 #[true, true, false, false, true, false, false] (e1 g c th m i p (l1 l p v) [(26, tE l p v)]) := by
 refine AnyR.step [2, 5] (by kernel_rfl) (by simp) fun k hk => ?_
 simp only [List.mem_cons, List.mem_nil_iff, or_false] at hk
 rcases hk with rfl | rfl
 ·exact ⟨y7 2, e1 g c th m i p (l1 l p v) [(24, it v), (26, tE l p v)], by kernel_rfl, by kernel_rfl, oLk g l c th m i p v hz (l1 l p v) (ydm _ _ _ _) [(26, tE l p v)] (by kernel_rfl) (kA [24, 26]) _ rfl, n11 g l c th m i p v hz⟩
 ·exact ⟨y7 5, e1 g c th m i p (l1 l p v) [(27, pE l p)], by kernel_rfl, by kernel_rfl, oEv 5 (kA [27]) (e1 g c th m i p (l1 l p v) [(26, tE l p v)]) ((27, pE l p) :: e1 g c th m i p (l1 l p v) [(26, tE l p v)]) _ (by kernel_rfl) (by kernel_rfl) rfl, n02 g l c th m i p v hz⟩
theorem n10 : AnyR Try.prog (cxN 33 5) ops7 (RR g c th m i p v l) 4 #[true, true, true, false, false, false, false] (e1 g c th m i p l [(24, it v)]) := by
 refine AnyR.step [3, 4] (by kernel_rfl) (by simp) fun k hk => ?_
 simp only [List.mem_cons, List.mem_nil_iff, or_false] at hk
 rcases hk with rfl | rfl
 ·exact ⟨y7 3, e1 g c th m i p l [(25, it (vW v))], by kernel_rfl, by kernel_rfl, oEv 3 (kA [25]) (e1 g c th m i p l [(24, it v)]) ((25, it (vW v)) :: e1 g c th m i p l [(24, it v)]) _ (by kernel_rfl) (by kernel_rfl) rfl, n20 g l c th m i p v hz⟩
 ·exact ⟨y7 4, e1 g c th m i p (l1 l p v) [(24, it v), (26, tE l p v)], by kernel_rfl, by kernel_rfl, oEn g l c th m i p v hz [(24, it v)] (fun q y' hq => noLf hq (by kernel_rfl)) (kA [24, 26]) _ rfl, n11 g l c th m i p v hz⟩
theorem n00 : AnyR Try.prog (cxN 33 5) ops7 (RR g c th m i p v l) 5 #[true, true, false, false, false, false, false] (e1 g c th m i p l []) := by
 refine AnyR.step [2, 4] (by kernel_rfl) (by simp) fun k hk => ?_
 simp only [List.mem_cons, List.mem_nil_iff, or_false] at hk
 rcases hk with rfl | rfl
 ·exact ⟨y7 2, e1 g c th m i p l [(24, it v)], by kernel_rfl, by kernel_rfl, oLk g l c th m i p v hz l hz [] (by kernel_rfl) (kA [24]) _ rfl, n10 g l c th m i p v hz⟩
 ·exact ⟨y7 4, e1 g c th m i p (l1 l p v) [(26, tE l p v)], by kernel_rfl, by kernel_rfl, oEn g l c th m i p v hz [] (fun q y' hq => noLf hq (by kernel_rfl)) (kA [26]) _ rfl, n01 g l c th m i p v hz⟩
theorem tw7 : Tri Try.prog (cxN 33 5) (.region 7 ops7 true) (eK g l c th m i p) .normal (eK g (l2 l p v) c th m i p) := by
 refine Tri.ofR (.any (base 33 5) (R := RR g c th m i p v l) ?_) fun e h => h
 have hs : ops7.size = 7 := by kernel_rfl
 have ha : Array.replicate ops7.size false = #[false, false, false, false, false, false, false] := by kernel_rfl
 rw [hs] at *
 show AnyR Try.prog (cxN 33 5) ops7 (RR g c th m i p v l) 7 #[false, false, false, false, false, false, false] (eK g l c th m i p)
 refine AnyR.step [0, 1] (by kernel_rfl) (by simp) fun k hk => ?_
 simp only [List.mem_cons, List.mem_nil_iff, or_false] at hk
 rcases hk with rfl | rfl
 ·refine ⟨y7 0, (22, rfM g) :: eK g l c th m i p, by kernel_rfl, by kernel_rfl, oEv 0 (kp [22, 1, 2, 3, 7, 16, 17, 18]) _ ((22, rfM g) :: eK g l c th m i p) _ (by kernel_rfl) (by kernel_rfl) rfl, ?_⟩
  refine AnyR.step [1] (by kernel_rfl) (by simp) fun k hk => ?_
  rw [zlv] at hk; subst hk
  exact ⟨y7 1, e1 g c th m i p l [], by kernel_rfl, by kernel_rfl, oEv 1 (kA []) _ ((23, AV.agg [ub p.y, it p.n]) :: (22, rfM g) :: eK g l c th m i p) _ (by kernel_rfl) (by kernel_rfl) rfl, n00 g l c th m i p v hz⟩
 ·refine ⟨y7 1, (23, AV.agg [ub p.y, it p.n]) :: eK g l c th m i p, by kernel_rfl, by kernel_rfl, oEv 1 (kp [23, 1, 2, 3, 7, 16, 17, 18]) _ ((23, AV.agg [ub p.y, it p.n]) :: eK g l c th m i p) _ (by kernel_rfl) (by kernel_rfl) rfl, ?_⟩
  refine AnyR.step [0] (by kernel_rfl) (by simp) fun k hk => ?_
  rw [zlv] at hk; subst hk
  exact ⟨y7 0, e1 g c th m i p l [], by kernel_rfl, by kernel_rfl, oEv 0 (kA []) _ ((22, rfM g) :: (23, AV.agg [ub p.y, it p.n]) :: eK g l c th m i p) _ (by kernel_rfl) (by kernel_rfl) rfl, n00 g l c th m i p v hz⟩
end
theorem tw8 (g : Nat) (l : List (Idd × Value)) (c : Option Nat) (th : List Idd) (m i : Int) (p : Idd) (v : Int) (hz : getM l p (.int .i64 0) = .int .i64 v) : Tri Try.prog (cxN 33 5) (.region 8 (zql Try.f26 8) false) (eK g l c th m i p) .normal ((31, bb (decide (1 < v))) :: (30, it v) :: (29, .agg [ub p.y, it p.n]) :: (28, rfM g) :: eK g l c th m i p) := by
 refine Tri.ofR (.region (R := (· = (31, bb (decide (1 < v))) :: (30, it v) :: (29, .agg [ub p.y, it p.n]) :: (28, rfM g) :: eK g l c th m i p)) ?_) fun e h => h
 rw [show (zql Try.f26 8).toList = ((zql Try.f26 8).toList.take 2 ++ [(zql Try.f26 8).toList.getD 2 default]) ++ (zql Try.f26 8).toList.drop 3 by kernel_rfl]
 refine .seq (R1 := (· = (30, it v) :: (29, .agg [ub p.y, it p.n]) :: (28, rfM g) :: eK g l c th m i p)) (.seq (OpsR.ev (base 33 5) zqb.1 zqb.2 (ans := [.c, .c]) (ps := []) (env' := (29, .agg [ub p.y, it p.n]) :: (28, rfM g) :: eK g l c th m i p) (by kernel_rfl) zqa) ?_) ?_
 ·rintro _ rfl
  have h := OpsR.lookup (P := Try.prog) (cx := cxN 33 5) (ops := zql Try.f26 8) mapT85 (y := (zql Try.f26 8).toList.getD 2 default) (tx := 28) (tk := 29) (r := 1) (g := g) (env := (29, .agg [ub p.y, it p.n]) :: (28, rfM g) :: eK g l c th m i p) (l := l) (x := p) (ls := [60]) (eff := ⟨[(30, .atom (getM l p mapT85.z))], []⟩) (by kernel_rfl) (by kernel_rfl) rfl rfl rfl rfl (by kernel_rfl)
  have e : zqi ⟨[(30, .atom (getM l p mapT85.z))], []⟩ ((29, AV.agg [ub p.y, it p.n]) :: (28, rfM g) :: eK g l c th m i p) = (30, it v) :: (29, .agg [ub p.y, it p.n]) :: (28, rfM g) :: eK g l c th m i p := by
   show (30, AV.atom (getM l p (.int .i64 0))) :: _ = _
   rw [hz]; rfl
  rw [e] at h
  exact h
 ·rintro _ rfl
  exact OpsR.ev (base 33 5) zqb.1 zqb.2 (ans := [.c]) (ps := []) (by kernel_rfl) zqa
theorem ygk : zqc Try.f26 0 = .seq (zqr Try.f26 5) (.seq (.cond (.tmp 19) .skip (.exit 2)) (.seq (.block 3 (.seq (zqr Try.f26 6) (.seq (.region 7 (zql Try.f26 7) true) (.seq (.region 8 (zql Try.f26 8) false) (.cond (.tmp 31) (.seq (zqr Try.f26 9) .ret) .skip))))) (zqr Try.f26 10))) := by kernel_rfl
theorem yjp : zrf Try.f26 0 = .block 1 (.seq (zqr Try.f26 4) (.block 2 (.loop (zqc Try.f26 0)))) := by kernel_rfl
abbrev one (s : List Idd) : List (Idd × Value) := s.map fun p => (p, Value.int .i64 1)
theorem yg8 (s : List Idd) (p : Idd) : getM (one s) p (.int .i64 0) = .int .i64 (if p ∈ s then 1 else 0) := by
 induction s with
 | nil => simp [getM]
 | cons q s ih =>
  show getM ((q, Value.int .i64 1) :: one s) p _ = _
  rw [getM]
  by_cases h : p = q
  ·simp [h]
  ·rw [if_neg h, ih]; simp [h]
theorem ypo (s : List Idd) (p : Idd) (h : p ∉ s) : setM (one s) p (.int .i64 1) = one (s ++ [p]) := by
 rw [yhv fun q hq e => by
  obtain ⟨r, hr, rfl⟩ := List.mem_map.1 hq
  exact h (e ▸ hr)]
 simp
noncomputable abbrev eT (g : Nat) (s : List Idd) (c : Option Nat) (l : List Idd) (m i : Int) : Env := [(1, mpC g (one s)), (2, .box [bb false]), (3, .box [rfM g]), (16, isl c l), (17, it m), (18, it i)]
theorem ywa (g : Nat) (s : List Idd) (c : Option Nat) (l : List Idd) (i : Nat) (hi : i = l.length) : Tri Try.prog (cxN 33 5) (zqc Try.f26 0) (eT g s c l ((l.map Idd.enc).length : Nat) i) (.exit 2) [(1, mpC g (one s)), (2, .box [bb false]), (3, .box [rfM g])] := by
 rw [ygk]
 have h := yso g (one s) c l ((l.map Idd.enc).length : Nat) i
 rw [show decide ((i : Int) < ((l.map Idd.enc).length : Nat)) = false by rw [zlc (by simp; omega)]] at h
 exact .seq (.after (kp [1, 2, 3, 19]) h) (.seqX (.cond (b := false) rfl (.after (kp [1, 2, 3]) .exit)) (by simp))
theorem yzd {l : List Idd} {i : Nat} (h : i < l.length) : List.getD (List.map Idd.enc l) (Int.toNat i) AV.bad = Idd.enc (List.getD l (Int.toNat i) default) := by
 simp only [zld, List.getElem?_map]
 rw [zle (by simpa using h)]; rfl
theorem yl4 (g : Nat) (s : List Idd) (c : Option Nat) (l : List Idd) (i : Nat) (hi : i < l.length) (hA : l.length < 2 ^ 60) (hn : l.getD i default ∉ s) : Tri Try.prog (cxN 33 5) (zqc Try.f26 0) (eT g s c l ((l.map Idd.enc).length : Nat) i) .normal (eT g (s ++ [l.getD i default]) c l ((l.map Idd.enc).length : Nat) ((i + 1 : Nat) : Int)) := by
 rw [ygk]
 have h := yso g (one s) c l ((l.map Idd.enc).length : Nat) i
 rw [show decide ((i : Int) < ((l.map Idd.enc).length : Nat)) = true by rw [zlb (by simp; omega)]] at h
 have hw : i64.wrap ((i : Int) + 1) = ((i + 1 : Nat) : Int) := up64 (k := i) (by omega)
 have h10 := ywf g (one (s ++ [l.getD i default])) c l ((l.map Idd.enc).length : Nat) i
 rw [hw] at h10
 refine .seq h (.seq (.cond (b := true) rfl .skip) (.seq (env1 := eT g (s ++ [l.getD i default]) c l ((l.map Idd.enc).length : Nat) i) (.block (ex := .normal) ?_ (.inr ⟨by simp, rfl⟩)) h10))
 have h6 := ywb g (one s) c l ((l.map Idd.enc).length : Nat) i (by rw [zla]; exact zlb (by omega)) (yzd hi)
 simp only [zlf] at h6
 generalize l.getD i default = p at *
 have h7 := tw7 g (one s) c l ((l.map Idd.enc).length : Nat) i p 0 (by rw [yg8, if_neg hn])
 have e2 : l2 (one s) p 0 = one (s ++ [p]) := ypo s p hn
 rw [e2] at h7
 have h8 := tw8 g (one (s ++ [p])) c l ((l.map Idd.enc).length : Nat) i p 1 (by rw [yg8, if_pos (by simp)])
 exact .weak (kp [1, 2, 3, 16, 17, 18]) (.seq h6 (.seq h7 (.seq h8 (.cond (b := false) rfl (.after (kp [1, 2, 3, 16, 17, 18]) .skip)))))
theorem yv9 (g : Nat) (s : List Idd) (c : Option Nat) (l : List Idd) (i : Nat) (hi : i < l.length) (hn : l.getD i default ∈ s) : Tri Try.prog (cxN 33 5) (zqc Try.f26 0) (eT g s c l ((l.map Idd.enc).length : Nat) i) .ret [(2, .box [bb true])] := by
 rw [ygk]
 have h := yso g (one s) c l ((l.map Idd.enc).length : Nat) i
 rw [show decide ((i : Int) < ((l.map Idd.enc).length : Nat)) = true by rw [zlb (by simp; omega)]] at h
 refine .seq h (.seq (.cond (b := true) rfl .skip) (.seqX (.block (ex := .ret) ?_ (.inr ⟨by simp, rfl⟩)) (by simp)))
 have h6 := ywb g (one s) c l ((l.map Idd.enc).length : Nat) i (by rw [zla]; exact zlb (by omega)) (yzd hi)
 simp only [zlf] at h6
 generalize l.getD i default = p at *
 have h7 := tw7 g (one s) c l ((l.map Idd.enc).length : Nat) i p 1 (by rw [yg8, if_pos hn])
 have h8 := tw8 g (l2 (one s) p 1) c l ((l.map Idd.enc).length : Nat) i p 2 (ydm _ _ _ _)
 exact .weak (kp [1, 2, 3, 16, 17, 18]) (.seq h6 (.seq h7 (.seq h8 (.cond (b := true) rfl (.seq (.weak (kp [1, 2]) (.after (kp [2]) (tw9_0 g _))) .ret)))))
theorem yrb (g : Nat) (c : Option Nat) (l : List Idd) (hA : l.length < 2 ^ 60) : ∀ (k i : Nat) (s : List Idd), i + k = l.length → (s ++ l.drop i).Nodup → Rnd Try.prog (cxN 33 5) (zqc Try.f26 0) (k + 1) (eT g s c l ((l.map Idd.enc).length : Nat) i) (.exit 2) [(1, mpC g (one (s ++ l.drop i))), (2, .box [bb false]), (3, .box [rfM g])]
 | 0, i, s, h, _ => by
  rw [List.drop_of_length_le (by omega), List.append_nil]
  exact .exit (ywa g s c l i (by omega)) (by simp)
 | k + 1, i, s, h, hn => by
  have hi : i < l.length := by omega
  have hd : l.drop i = l.getD i default :: l.drop (i + 1) := by rw [List.drop_eq_getElem_cons hi, zld, zle hi]; rfl
  rw [hd] at hn ⊢
  have h2 := yrb g c l hA k (i + 1) (s ++ [l.getD i default]) (by omega) (by rw [zlp]; exact hn)
  rw [zlp] at h2
  refine .step (yl4 g s c l i hi hA fun hm => ?_) h2
  exact (List.nodup_append.1 hn).2.2 _ hm _ (by simp) rfl
theorem yl5 (g : Nat) (c : Option Nat) (l : List Idd) (hA : l.length < 2 ^ 60) : ∀ (k i : Nat) (s : List Idd), i + k = l.length → s.Nodup → ¬ (s ++ l.drop i).Nodup → Rnd Try.prog (cxN 33 5) (zqc Try.f26 0) (k + 1) (eT g s c l ((l.map Idd.enc).length : Nat) i) .ret [(2, .box [bb true])]
 | 0, i, s, h, hs, hn => by
  rw [List.drop_of_length_le (by omega), List.append_nil] at hn
  exact absurd hs hn
 | k + 1, i, s, h, hs, hn => by
  have hi : i < l.length := by omega
  have hd : l.drop i = l.getD i default :: l.drop (i + 1) := by rw [List.drop_eq_getElem_cons hi, zld, zle hi]; rfl
  by_cases hm : l.getD i default ∈ s
  ·exact .exit (yv9 g s c l i hi hm) (by simp)
  ·rw [hd] at hn
   refine .step (yl4 g s c l i hi hA hm) (yl5 g c l hA k (i + 1) (s ++ [l.getD i default]) (by omega) ?_ (by rw [zlp]; exact hn))
   refine List.nodup_append.2 ⟨hs, by simp, fun x hx y hy e => ?_⟩
   rw [zlv] at hy
   subst hy e
   exact hm hx
theorem ysn (g : Nat) (L : Lp) (hA : L.th.length < 2 ^ 60) (s : List Idd) (hn : (s ++ L.th).Nodup) : Tri Try.prog (cxN 33 5) (zrf Try.f26 0) [(1, mpC g (one s)), (2, .box [bb false]), (3, .box [rfM g]), (5, lpB L)] .normal [(1, mpC g (one (s ++ L.th))), (2, .box [bb false]), (3, .box [rfM g])] := by
 rw [yjp]
 have := yrb g L.ct L.th hA L.th.length 0 s (by omega) (by simpa using hn)
 rw [List.drop_zero] at this
 exact .block (ex := .normal) (.seq (.after (kp [1, 2, 3, 16, 17, 18]) (ywc g (one s) L)) (.block (ex := .exit 2) this.loop (.inl ⟨rfl, rfl⟩))) (.inr ⟨by simp, rfl⟩)
theorem ypd (g : Nat) (L : Lp) (hA : L.th.length < 2 ^ 60) (s : List Idd) (hs : s.Nodup) (hn : ¬ (s ++ L.th).Nodup) : Tri Try.prog (cxN 33 5) (zrf Try.f26 0) [(1, mpC g (one s)), (2, .box [bb false]), (3, .box [rfM g]), (5, lpB L)] .ret [(2, .box [bb true])] := by
 rw [yjp]
 have := yl5 g L.ct L.th hA L.th.length 0 s (by omega) hs (by simpa using hn)
 exact .block (ex := .ret) (.seq (.after (kp [1, 2, 3, 16, 17, 18]) (ywc g (one s) L)) (.block (ex := .ret) this.loop (.inr ⟨by simp, rfl⟩))) (.inr ⟨by simp, rfl⟩)
def thA (l : List (Idd × Lp)) : List Idd := l.flatMap fun x => x.2.th
theorem ygo (pre : List (Idd × Lp)) (x : Idd × Lp) : thA (pre ++ [x]) = thA pre ++ x.2.th := by simp [thA]
theorem yiv (a b : List (Idd × Lp)) : thA (a ++ b) = thA a ++ thA b := by simp [thA]
theorem yl6 : yah Try.f26 0 = .rangeFunc (.tmp 12) #[13, 14] (zqo Try.f26 0) (zrf Try.f26 0) := by kernel_rfl
noncomputable abbrev twE (g : Nat) (pre : List (Idd × Lp)) : Env := [(1, mpC g (one (thA pre))), (2, .box [bb false]), (3, .box [rfM g])]
theorem yjq (g : Nat) (pre : List (Idd × Lp)) (x : Idd × Lp) (hA : x.2.th.length < 2 ^ 60) (hn : (thA (pre ++ [x])).Nodup) : ∃ E1, Tri Try.prog (cxN 33 5) (zqo Try.f26 0) ((#[13, 14] : Array Tmp).toList.zip (ydf x) ++ twE g pre) .normal E1 ∧ Tri Try.prog (cxN 33 5) (zrf Try.f26 0) E1 .normal (twE g (pre ++ [x])) := by
 rw [ygo] at hn
 have := ysn g x.2 hA (thA pre) hn
 rw [← ygo] at this
 exact ⟨_, yv8 g (one (thA pre)) x.1.y x.1.n x.2, this⟩
theorem yh4 {a b : List Idd} (h : (a ++ b).Nodup) : a.Nodup := (List.nodup_append.1 h).1
theorem yii : ∀ (l pre : List (Idd × Lp)), (thA pre).Nodup → ¬ (thA (pre ++ l)).Nodup → ∃ p x q, l = p ++ x :: q ∧ (thA (pre ++ p)).Nodup ∧ ¬ (thA (pre ++ p ++ [x])).Nodup
 | [], pre, h, hn => by rw [List.append_nil] at hn; exact absurd h hn
 | y :: l, pre, h, hn => by
  by_cases hy : (thA (pre ++ [y])).Nodup
  ·obtain ⟨p, x, q, h1, h2, h3⟩ := yii l (pre ++ [y]) hy (by simpa using hn)
   exact ⟨y :: p, x, q, by rw [h1]; rfl, by simpa using h2, by simpa using h3⟩
  ·exact ⟨[], y, l, rfl, by simpa using h, by simpa using hy⟩
section
variable (g : Nat) (c : Option Nat) (t : List Rw) (ht : t.length < 2 ^ 60) (hr : ∀ r ∈ t, r.l.length < 2 ^ 60) (hA : ∀ x ∈ allT t, x.2.th.length < 2 ^ 60)
include ht hr hA
theorem yv7 (hn : (thA (allT t)).Nodup) : Tri Try.prog (cxN 33 0) (yah Try.f26 0) [(1, mpC g []), (2, .box [bb false]), (3, .box [rfM g]), (12, .fn 51 [tbx c t])] .normal (twE g (allT t)) := by
 rw [yl6]
 exact Tri.rangeAll (P := Try.prog) (cx := cxN 33 0) rfl (t := 12) (ps := #[13, 14]) (c1 := zqo Try.f26 0) (c2 := zrf Try.f26 0) (kp [1, 2, 3]) rfl (yck c t) (allT t) ydf (ylt c t ht hr) 5 (by omega)
  ⟨by decide, by decide⟩ (fun x => rfl) (fun pre => twE g pre) [] rfl (fun pre => .cons (by omega) rfl (.cons (by omega) rfl (.cons (by omega) rfl .nil))) (fun pre t x h => ybs h) .nil
  (fun pre x post hx => yjq g pre x (hA x (by rw [hx]; simp)) (by rw [hx, show pre ++ x :: post = (pre ++ [x]) ++ post by simp, yiv] at hn; exact yh4 hn))
theorem ysl (hn : ¬ (thA (allT t)).Nodup) : Tri Try.prog (cxN 33 0) (yah Try.f26 0) [(1, mpC g []), (2, .box [bb false]), (3, .box [rfM g]), (12, .fn 51 [tbx c t])] .ret [(2, .box [bb true])] := by
 obtain ⟨p, x, q, h1, h2, h3⟩ := yii (allT t) [] (by simp [thA]) hn
 rw [List.nil_append] at h2 h3
 rw [yl6]
 rw [ygo] at h3
 exact Tri.rangeStop (P := Try.prog) (cx := cxN 33 0) rfl (t := 12) (ps := #[13, 14]) (c1 := zqo Try.f26 0) (c2 := zrf Try.f26 0) (kp [1, 2, 3]) rfl (yck c t) (allT t) ydf (ylt c t ht hr) 5 (by omega)
  ⟨by decide, by decide⟩ (fun x => rfl) (fun pre => twE g pre) [] rfl (fun pre => .cons (by omega) rfl (.cons (by omega) rfl (.cons (by omega) rfl .nil))) (fun pre t x h => ybs h) .nil p x q h1
  (fun pre y post hy => yjq g pre y (hA y (by rw [h1, hy]; simp)) (by rw [hy, show pre ++ y :: post = (pre ++ [y]) ++ post by simp, yiv] at h2; exact yh4 h2)) (by simp) (.cons (by omega) rfl .nil)
  ⟨_, yv8 g (one (thA p)) x.1.y x.1.n x.2, ypd g x.2 (hA x (by rw [h1]; simp)) (thA p) h2 h3⟩
end
theorem yfx : Try.f26.body = some (.seq (zqr Try.f26 0) (.seq (.region 1 (zql Try.f26 1) false) (.seq (.seq (zqr Try.f26 2) (.block 0 (yah Try.f26 0))) (.seq (zqr Try.f26 11) .ret)))) := by kernel_rfl
theorem tw1 (c : Option Nat) (t : List Rw) (hc : cntV t < 2 ^ 62) (ht : t.length < 2 ^ 60) : TriR Try.prog (cxN 33 0) (.region 1 (zql Try.f26 1) false) [(0, tsl c t), (2, .box [bb false])] .normal fun e => ∃ g, e = (3, .box [rfM g]) :: (3, .box [.atom (.map none)]) :: (10, rfM g) :: (1, mpC g []) :: [(9, it (cntV t)), (8, tsl c t), (0, tsl c t), (2, .box [bb false])] := by
 refine .region ?_
 rw [show (zql Try.f26 1).toList = ((zql Try.f26 1).toList.take 2 ++ [(zql Try.f26 1).toList.getD 2 default]) ++ (zql Try.f26 1).toList.drop 3 by kernel_rfl]
 refine .seq (.seq (R1 := (· = [(9, it (cntV t)), (8, tsl c t), (0, tsl c t), (2, .box [bb false])])) ?_ ?_) ?_ (R1 := fun e => ∃ g, e = (10, rfM g) :: (1, .mp g []) :: [(9, it (cntV t)), (8, tsl c t), (0, tsl c t), (2, .box [bb false])])
 ·exact OpsR.ev (base 33 0) zqb.1 zqb.2 (ans := [.c, .r (tsl c t), .r (it (cntV t)), .c, .c]) (ps := [view (tsl c t) = tsl c t, PureC Try.prog 12 [tsl c t] (it (cntV t))]) (by kernel_rfl) (allp (zqg _ _ _) (allp (ybp c t hc ht) zqa))
 ·rintro _ rfl
  exact OpsR.makeH (t := 85) (d := 10) (r := 1) (th := 9) (by kernel_rfl) (by kernel_rfl) (Try.underlying85) rfl (by kernel_rfl) (by decide) (by decide) rfl rfl
 rintro _ ⟨g, rfl⟩
 intro ρ F1 B0 w0 S0 ds a w Q rest hag hQ
 exact OpsR.ev (base 33 0) zqb.1 zqb.2 (ops := zql Try.f26 1) (os := (zql Try.f26 1).toList.drop 3) (env := (10, rfM g) :: (1, .mp g []) :: [(9, it (cntV t)), (8, tsl c t), (0, tsl c t), (2, .box [bb false])]) (ans := [.c, .c, .c, .c, .c, .c, .c, .c]) (ps := []) (env' := (3, .box [rfM g]) :: (3, .box [.atom (.map none)]) :: (10, rfM g) :: (1, .mp g []) :: [(9, it (cntV t)), (8, tsl c t), (0, tsl c t), (2, .box [bb false])]) (by kernel_rfl) zqa ρ F1 B0 w0 S0 ds a w Q rest hag fun e he a' w' ha => hQ e ⟨g, he⟩ a' w' ha
theorem cx0 (c : Option Nat) (t : List Rw) {env' : Env} {ex : Ex} {cd : Code} (h : ∀ g, Tri Try.prog (cxN 33 0) cd [(0, tsl c t), (1, mpC g []), (2, .box [bb false]), (3, .box [rfM g])] ex env') : ∀ e : Env, (∃ g, e = (3, .box [rfM g]) :: (3, .box [.atom (.map none)]) :: (10, rfM g) :: (1, mpC g []) :: [(9, it (cntV t)), (8, tsl c t), (0, tsl c t), (2, .box [bb false])]) → Tri Try.prog (cxN 33 0) cd e ex env' := by
 rintro _ ⟨g, rfl⟩
 exact .weak (kp [0, 1, 2, 3]) (h g)
theorem ypc (c : Option Nat) (t : List Rw) (hc : cntV t < 2 ^ 62) (ht : t.length < 2 ^ 60) (hr : ∀ r ∈ t, r.l.length < 2 ^ 60) (hA : ∀ x ∈ allT t, x.2.th.length < 2 ^ 60) (hn : (thA (allT t)).Nodup) : PureC Try.prog 26 [tsl c t] (bb false) := by
 refine ycc ((base 33 0).ok zqb.1 zqb.2) Try.func26 rfl (by show 1 ≤ 33; omega) rfl yfx rfl (ex := .ret) (env' := [(2, .box [bb false])]) ?_ (by kernel_rfl)
 refine .seq (ywg c t) (.seqR (tw1 c t hc ht) (cx0 c t fun g => ?_))
 exact .seq (.seq (.after (kp [1, 2, 3, 12]) (ywd g c t)) (.block (ex := .normal) (yv7 g c t ht hr hA hn) (.inr ⟨by simp, rfl⟩))) (.weak (kp [2]) (.seq (ywe .bad) .ret))
theorem yl3 (c : Option Nat) (t : List Rw) (hc : cntV t < 2 ^ 62) (ht : t.length < 2 ^ 60) (hr : ∀ r ∈ t, r.l.length < 2 ^ 60) (hA : ∀ x ∈ allT t, x.2.th.length < 2 ^ 60) (hn : ¬ (thA (allT t)).Nodup) : PureC Try.prog 26 [tsl c t] (bb true) := by
 refine ycc ((base 33 0).ok zqb.1 zqb.2) Try.func26 rfl (by show 1 ≤ 33; omega) rfl yfx rfl (ex := .ret) (env' := [(2, .box [bb true])]) ?_ (by kernel_rfl)
 refine .seq (ywg c t) (.seqR (tw1 c t hc ht) (cx0 c t fun g => ?_))
 exact .seqX (.seq (.after (kp [1, 2, 3, 12]) (ywd g c t)) (.block (ex := .ret) (ysl g c t ht hr hA hn) (.inr ⟨by simp, rfl⟩))) (by simp)
def twV (t : List Rw) : Bool := !decide (thA (allT t)).Nodup
theorem ysm (c : Option Nat) (t : List Rw) (hc : cntV t < 2 ^ 62) (ht : t.length < 2 ^ 60) (hr : ∀ r ∈ t, r.l.length < 2 ^ 60) (hA : ∀ x ∈ allT t, x.2.th.length < 2 ^ 60) : PureC Try.prog 26 [tsl c t] (bb (twV t)) := by
 unfold twV
 by_cases hn : (thA (allT t)).Nodup
 ·rw [zlb hn]; exact ypc c t hc ht hr hA hn
 ·rw [zlc hn]; exact yl3 c t hc ht hr hA hn
def chV (t : List Rw) : Int := yaq t (twV t)
theorem OkT.tw {t : List Rw} (hc : cntV t < 2 ^ 62) (ht : t.length < 2 ^ 60) (hr : ∀ r ∈ t, r.l.length < 2 ^ 60) (hO : OkT t) : TwOk t (twV t) := fun c => ysm c t hc ht hr fun x hx => (hO.all hx).2.1
theorem yhf (c : Option Nat) (t : List Rw) (hc : cntV t < 2 ^ 62) (ht : t.length < 2 ^ 60) (hr : ∀ r ∈ t, r.l.length < 2 ^ 60) (hO : OkT t) : PureC Try.prog 11 [tsl c t] (it (chV t)) := yjk c t _ hc ht hr hO (hO.tw hc ht hr)
def Lp.encF (L : Lp) : AV := .agg [ub L.b, bb L.w, .sl .fresh 36 (some L.th.length) (L.th.map Idd.enc), .sl .fresh 56 (some L.pa.length) (L.pa.map Ps.enc)]
def lOW (l : List Lp) : AV := .sl .own 45 none (l.map Lp.encF)
abbrev tOW (m : List (List Lp)) : AV := .sl .own 37 none (m.map lOW)
end Tst
end

section
open Go Go.Lf Go.Proofs
namespace Go.Lf
section
variable {P : Program}
theorem Le.trans {x y z : AV} (h : Le P x y) (k : Le P y z) : Le P x z := fun B0 w S n v O hr => k B0 w S n v O (h B0 w S n v O hr)
theorem Le.fresh {e : TypeId} {cap : Option Nat} {xs : List AV} : Le P (.sl .fresh e cap xs) (.sl .any e cap xs) := by
 intro B0 w S n v O hr
 obtain ⟨n, rfl⟩ := hr.pos
 obtain ⟨A, k, hv, hk, hm, hc, hu, hz, hx⟩ := hr
 refine ⟨A, k, hv, hk, hm, hc, hu, hz, fun hne => ?_⟩
 obtain ⟨g, off, C, T, fr, h1, h2, _, h3, h4, h5⟩ := hx hne
 exact ⟨g, off, C, T, fr, h1, h2, (fun h => by cases h), h3, h4, h5⟩
theorem Le.nilF (e : TypeId) : Le P (.atom (.slice none 0 0)) (.sl .fresh e (some 0) []) := by
 intro B0 w S n v O hr
 obtain ⟨n, rfl⟩ := hr.pos
 obtain ⟨rfl, hz⟩ := hr
 exact ⟨none, 0, rfl, zly _, by decide, rfl, (fun x hx => by simp at hx), hz, fun h => absurd rfl h⟩
theorem yih (cs : List AV) (k : Nat) : flat (List.replicate k (.agg cs)) = (List.replicate k cs).flatten := by
 induction k with
 | zero => rfl
 | succ k ih => rw [List.replicate_succ, List.replicate_succ, List.flatten_cons, ← ih]; rfl
theorem F2.append {α β : Type} {R : α → β → Prop} {a b : List α} {c d : List β} (h : F2 R a c) (k : F2 R b d) : F2 R (a ++ b) (c ++ d) := by
 induction h with
 | nil => exact k
 | cons h _ ih => exact .cons h ih
theorem Le.ownRepA {e : TypeId} {cap : Option Nat} {xs ys : List AV} (hl : xs.length = ys.length) (h : F2 (Le P) xs ys) (k : Nat) : Le P (.sl .own e cap (List.replicate k (.agg xs))) (.sl .own e cap (List.replicate k (.agg ys))) := by
 refine Le.ownEls (by simp) (fun sz hu z hz => ?_) ?_
 ·obtain ⟨hk, rfl⟩ := List.mem_replicate.1 hz
  have := hu (.agg xs) (List.mem_replicate.2 ⟨hk, rfl⟩)
  exact hl ▸ this
 ·rw [yih, yih]
  induction k with
  | zero => exact .nil
  | succ k ih => rw [List.replicate_succ, List.replicate_succ, List.flatten_cons, List.flatten_cons]; exact F2.append h ih
end
end Go.Lf
namespace Tst
theorem ye2 (k : Nat) (l : List Lp) : List.map (mapE (remode zqx (k + 3))) (List.map Lp.enc l) = List.map Lp.enc l := by
 rw [List.map_map]
 refine List.map_congr_left fun s _ => ?_
 show AV.agg [ub s.b, bb s.w, .sl .any 36 s.ct ((s.th.map Idd.enc).map (mapE (remode zqx (k + 2)))), .sl .any 56 s.cp ((s.pa.map Ps.enc).map (mapE (remode zqx (k + 2))))] = _
 have h1 : (s.th.map Idd.enc).map (mapE (remode zqx (k + 2))) = s.th.map Idd.enc := by rw [List.map_map]; rfl
 have h2 : (s.pa.map Ps.enc).map (mapE (remode zqx (k + 2))) = s.pa.map Ps.enc := by rw [List.map_map]; rfl
 rw [h1, h2]; rfl
theorem conS (ca cb : Option Nat) (l m : List Lp) (hl : l.length ≤ 1000000) (hm : m.length ≤ 1000000) : PureC Try.prog 43 [twoL ca cb l m] (.sl .fresh 45 none ((l ++ m).map Lp.enc)) := by
 have h := (yz8 ca cb l m hl hm rfl).share
 have e : share (AV.sl .own 45 none (List.map Lp.enc (l ++ m))) = .sl .fresh 45 none (List.map Lp.enc (l ++ m)) := by
  show AV.sl .fresh 45 none ((List.map Lp.enc (l ++ m)).map (mapE (remode zqx 11))) = _
  rw [ye2 8]
 rw [show (AV.sl .own (nat_lit 45) none (List.map Lp.enc (l ++ m))) = (AV.sl .own 45 none (List.map Lp.enc (l ++ m))) from rfl, e] at h
 exact h
theorem conS1 (ca cb : Option Nat) (l : List Lp) (L : Lp) (hl : l.length ≤ 1000000) : PureC Try.prog 43 [.sl .any 37 (some 2) [lsl ca l, .sl .any 45 cb [.agg [ub L.b, bb L.w, isl L.ct L.th, sl L.cp L.pa]]]] (.sl .fresh 45 none ((l ++ [L]).map Lp.enc)) := conS ca cb l [L] hl (by simp)
def cpL (L : Lp) : Lp := ⟨L.b, L.w, some L.th.length, L.th, some L.pa.length, L.pa⟩
def zL : Lp := ⟨0, false, some 0, [], some 0, []⟩
theorem ytq (cap : Option Nat) (k : Nat) : Le Try.prog (.sl .own 45 cap (List.replicate k (.agg [ub 0, bb false, zqw, zqw]))) (lOW (List.replicate k zL)) := by
 have := Le.trans (Le.cap (P := Try.prog) (m := .own) (e := 45) (c := cap)) (Le.ownRepA (P := Try.prog) (e := 45) (cap := none) (xs := [ub 0, bb false, zqw, zqw]) (ys := [ub 0, bb false, .sl .fresh 36 (some 0) [], .sl .fresh 56 (some 0) []]) rfl (.cons (Le.refl _) (.cons (Le.refl _) (.cons (Le.nilF 36) (.cons (Le.nilF 56) .nil)))) k)
 unfold lOW
 rw [List.map_replicate]
 exact this
set_option maxHeartbeats 0
theorem wi0_0 (c : Option Nat) (t : List Rw) (y : Int) (L : Lp) : Tri Try.prog (cxN 56 0) (zqr Try.f30 0) ([(0, tsl c t), (1, ub y), (2, L.enc)]) .normal ([(0, tsl c t), (1, ub y), (5, AV.box [ub (Lp.b L), bb (Lp.w L), isl (Lp.ct L) (Lp.th L), sl (Lp.cp L) (Lp.pa L)])]) :=
 ev h30 [.c, .c] zqa
theorem wi1_0 (c : Option Nat) (t : List Rw) (y : Int) (L : Lp) (ht : t.length ≤ 4294967296) (g0 : decide ((0 : Int) ≤ ((t.map Rw.enc).length : Int) ∧ ((t.map Rw.enc).length : Int) ≤ ((t.map Rw.enc).length : Int) ∧ ((t.map Rw.enc).length : Int) ≤ (4294967296 : Int) ∧ TInfo.bytes { zero := [Value.slice none (0 : Nat) (0 : Nat)], bytes := (24 : Nat), agg := false, kind := TK.slice (45 : TypeId) } ≤ (4096 : Nat) ∧ (0 : Nat) < List.length (TInfo.zero { zero := [Value.slice none (0 : Nat) (0 : Nat)], bytes := (24 : Nat), agg := false, kind := TK.slice (45 : TypeId) })) = true) : Tri Try.prog (cxN 56 0) (zqr Try.f30 1) ([(0, tsl c t), (1, ub y), (5, lpB L)]) .normal ([(0, tsl c t), (1, ub y), (5, AV.box [ub (Lp.b L), bb (Lp.w L), isl (Lp.ct L) (Lp.th L), sl (Lp.cp L) (Lp.pa L)]), (7, AV.sl .own 37 (some (((t.map Rw.enc).length : Int).toNat)) (List.replicate (((t.map Rw.enc).length : Int).toNat) (ya6 { zero := [Value.slice none (0 : Nat) (0 : Nat)], bytes := (24 : Nat), agg := false, kind := TK.slice (45 : TypeId) })))]) :=
 ev h30 [.c, .c, .b true, .c, .c] (allp g0 zqa)
theorem wi2_0 (c : Option Nat) (t : List Rw) (y : Int) (L : Lp) (m : List (List Lp)) : Tri Try.prog (cxN 56 0) (zqr Try.f30 2) ([(0, tsl c t), (1, ub y), (5, lpB L), (7, tOW m)]) .normal ([(1, ub y), (5, AV.box [ub (Lp.b L), bb (Lp.w L), isl (Lp.ct L) (Lp.th L), sl (Lp.cp L) (Lp.pa L)]), (7, AV.sl .own 37 none (List.map lOW m)), (15, tsl c t), (16, it ((t.map Rw.enc).length : Int)), (17, it 0)]) :=
 ev h30 [.c, .c, .c] zqa
theorem yvs (c : Option Nat) (t : List Rw) (y : Int) (L : Lp) (m : List (List Lp)) (k i : Int) : Tri Try.prog (cxN 56 0) (zqr Try.f30 3) ([(1, ub y), (5, lpB L), (7, tOW m), (15, tsl c t), (16, it k), (17, it i)]) .normal ([(1, ub y), (5, AV.box [ub (Lp.b L), bb (Lp.w L), isl (Lp.ct L) (Lp.th L), sl (Lp.cp L) (Lp.pa L)]), (7, AV.sl .own 37 none (List.map lOW m)), (15, tsl c t), (16, it k), (17, it i), (18, bb (decide (i < k)))]) :=
 ev h30 [.c] zqa
theorem wi4_0 (c : Option Nat) (t : List Rw) (y : Int) (L : Lp) (m : List (List Lp)) (k i : Int) (g0 : decide ((0 : Int) ≤ i ∧ i < ((t.map Rw.enc).length : Int)) = true) (g1 : (t.map Rw.enc).getD (i.toNat) AV.bad = Rw.enc (t.getD (i.toNat) default)) : Tri Try.prog (cxN 56 0) (zqr Try.f30 4) ([(1, ub y), (5, lpB L), (7, tOW m), (15, tsl c t), (16, it k), (17, it i)]) .normal ([(1, ub y), (5, AV.box [ub (Lp.b L), bb (Lp.w L), isl (Lp.ct L) (Lp.th L), sl (Lp.cp L) (Lp.pa L)]), (7, AV.sl .own 37 none (List.map lOW m)), (8, it i), (9, lsl (Rw.c (t.getD (i.toNat) default)) (Rw.l (t.getD (i.toNat) default))), (15, tsl c t), (16, it k), (17, it i)]) :=
 ev h30 [.c, .b true, .r (Rw.enc (t.getD (i.toNat) default)), .c, .c, .c, .c] (allp g0 (allp g1 zqa))
theorem wi5_0 (c d : Option Nat) (t : List Rw) (R : List Lp) (y : Int) (L : Lp) (m : List (List Lp)) (k i : Int) : Tri Try.prog (cxN 56 0) (zqr Try.f30 5) ([(1, ub y), (5, lpB L), (7, tOW m), (8, it i), (9, lsl d R), (15, tsl c t), (16, it k), (17, it i)]) .normal ([(1, ub y), (5, AV.box [ub (Lp.b L), bb (Lp.w L), isl (Lp.ct L) (Lp.th L), sl (Lp.cp L) (Lp.pa L)]), (7, AV.sl .own 37 none (List.map lOW m)), (8, it i), (9, lsl d R), (15, tsl c t), (16, it k), (17, it i), (26, bb (i == i64.wrap (i64.wrap y - (1 : Int))))]) :=
 ev h30 [.c, .c, .c, .c, .c] zqa
theorem wi7_0 (c d : Option Nat) (t : List Rw) (R : List Lp) (y : Int) (L : Lp) (m : List (List Lp)) (k i : Int) (hR : R.length ≤ 4294967296) (g0 : decide ((0 : Int) ≤ ((R.map Lp.enc).length : Int) ∧ ((R.map Lp.enc).length : Int) ≤ ((R.map Lp.enc).length : Int) ∧ ((R.map Lp.enc).length : Int) ≤ (4294967296 : Int) ∧ TInfo.bytes { zero := [Value.int u8 (0 : Int), Value.bool false, Value.slice none (0 : Nat) (0 : Nat), Value.slice none (0 : Nat) (0 : Nat)], bytes := (56 : Nat), agg := true, kind := TK.struct [((0 : Nat), (1 : Nat)), ((1 : Nat), (1 : Nat)), ((2 : Nat), (1 : Nat)), ((3 : Nat), (1 : Nat))] } ≤ (4096 : Nat) ∧ (0 : Nat) < List.length (TInfo.zero { zero := [Value.int u8 (0 : Int), Value.bool false, Value.slice none (0 : Nat) (0 : Nat), Value.slice none (0 : Nat) (0 : Nat)], bytes := (56 : Nat), agg := true, kind := TK.struct [((0 : Nat), (1 : Nat)), ((1 : Nat), (1 : Nat)), ((2 : Nat), (1 : Nat)), ((3 : Nat), (1 : Nat))] })) = true) (g1 : decide ((0 : Int) ≤ i ∧ i < ((m.map lOW).length : Int)) = true) (g2 : decide (i.toNat < (m.map lOW).length) = true) (g3 : (m.map lOW).getD (i.toNat) AV.bad = lOW (m.getD (i.toNat) default)) : Tri Try.prog (cxN 56 0) (zqr Try.f30 7) ([(1, ub y), (5, lpB L), (7, tOW m), (8, it i), (9, lsl d R), (15, tsl c t), (16, it k), (17, it i)]) .normal ([(1, ub y), (5, AV.box [ub (Lp.b L), bb (Lp.w L), isl (Lp.ct L) (Lp.th L), sl (Lp.cp L) (Lp.pa L)]), (7, AV.sl .own 37 none (List.set (List.map lOW m) (i.toNat) (setE ((m.map lOW).getD (i.toNat) AV.bad) (0 : Nat) [AV.sl .own 45 (some (((R.map Lp.enc).length : Int).toNat)) (List.replicate (((R.map Lp.enc).length : Int).toNat) (ya6 { zero := [Value.int u8 (0 : Int), Value.bool false, Value.slice none (0 : Nat) (0 : Nat), Value.slice none (0 : Nat) (0 : Nat)], bytes := (56 : Nat), agg := true, kind := TK.struct [((0 : Nat), (1 : Nat)), ((1 : Nat), (1 : Nat)), ((2 : Nat), (1 : Nat)), ((3 : Nat), (1 : Nat))] }))]))), (8, it i), (9, lsl d R), (15, tsl c t), (16, it k), (17, it i)]) :=
 ev h30 [.c, .c, .c, .c, .b true, .c, .b true, .c, .b true, .r (lOW (m.getD (i.toNat) default)), .c] (allp g0 (allp g1 (allp g2 (allp g3 zqa))))
theorem wi8_0 (c d : Option Nat) (t : List Rw) (R : List Lp) (y : Int) (L : Lp) (m : List (List Lp)) (k i : Int) : Tri Try.prog (cxN 56 0) (zqr Try.f30 8) ([(1, ub y), (5, lpB L), (7, tOW m), (8, it i), (9, lsl d R), (15, tsl c t), (16, it k), (17, it i)]) .normal ([(1, ub y), (5, AV.box [ub (Lp.b L), bb (Lp.w L), isl (Lp.ct L) (Lp.th L), sl (Lp.cp L) (Lp.pa L)]), (7, AV.sl .own 37 none (List.map lOW m)), (8, it i), (9, lsl d R), (15, tsl c t), (16, it k), (17, it i), (38, lsl d R), (39, it ((R.map Lp.enc).length : Int)), (40, it 0)]) :=
 ev h30 [.c, .c, .c] zqa
theorem yvr (c d : Option Nat) (t : List Rw) (R : List Lp) (y : Int) (L : Lp) (m : List (List Lp)) (k i q n : Int) : Tri Try.prog (cxN 56 0) (zqr Try.f30 9) ([(1, ub y), (5, lpB L), (7, tOW m), (8, it i), (15, tsl c t), (16, it k), (17, it i), (38, lsl d R), (39, it q), (40, it n)]) .normal ([(1, ub y), (5, AV.box [ub (Lp.b L), bb (Lp.w L), isl (Lp.ct L) (Lp.th L), sl (Lp.cp L) (Lp.pa L)]), (7, AV.sl .own 37 none (List.map lOW m)), (8, it i), (15, tsl c t), (16, it k), (17, it i), (38, lsl d R), (39, it q), (40, it n), (41, bb (decide (n < q)))]) :=
 ev h30 [.c] zqa
theorem yvx (c d : Option Nat) (t : List Rw) (R : List Lp) (y : Int) (L : Lp) (m : List (List Lp)) (k i q n : Int) (g0 : decide ((0 : Int) ≤ n ∧ n < ((R.map Lp.enc).length : Int)) = true) (g1 : (R.map Lp.enc).getD (n.toNat) AV.bad = Lp.enc (R.getD (n.toNat) default)) : Tri Try.prog (cxN 56 0) (zqr Try.f30 10) ([(1, ub y), (5, lpB L), (7, tOW m), (8, it i), (15, tsl c t), (16, it k), (17, it i), (38, lsl d R), (39, it q), (40, it n)]) .normal ([(1, ub y), (5, AV.box [ub (Lp.b L), bb (Lp.w L), isl (Lp.ct L) (Lp.th L), sl (Lp.cp L) (Lp.pa L)]), (7, AV.sl .own 37 none (List.map lOW m)), (8, it i), (10, it n), (11, AV.box [ub (Lp.b (R.getD (n.toNat) default)), bb (Lp.w (R.getD (n.toNat) default)), isl (Lp.ct (R.getD (n.toNat) default)) (Lp.th (R.getD (n.toNat) default)), sl (Lp.cp (R.getD (n.toNat) default)) (Lp.pa (R.getD (n.toNat) default))]), (15, tsl c t), (16, it k), (17, it i), (38, lsl d R), (39, it q), (40, it n)]) :=
 ev h30 [.c, .b true, .r (Lp.enc (R.getD (n.toNat) default)), .c, .c, .c, .c, .c] (allp g0 (allp g1 zqa))
theorem yvw (c d : Option Nat) (t : List Rw) (R : List Lp) (y : Int) (L : Lp) (m : List (List Lp)) (k i q n : Int) (K : Lp) (k1 : K.th.length ≤ 4294967296) (k2 : K.pa.length ≤ 4294967296) (g0 : decide ((0 : Int) ≤ i ∧ i < ((m.map lOW).length : Int)) = true) (g1 : decide (i.toNat < (m.map lOW).length) = true) (g2 : (m.map lOW).getD (i.toNat) AV.bad = lOW (m.getD (i.toNat) default)) (g3 : decide ((0 : Int) ≤ n ∧ n < (↑(((m.getD (i.toNat) default).map Lp.encF).length) : Int)) = true) (g4 : decide (n.toNat < ((m.getD (i.toNat) default).map Lp.encF).length) = true) (g5 : ((m.getD (i.toNat) default).map Lp.encF).getD (n.toNat) AV.bad = Lp.encF ((m.getD (i.toNat) default).getD (n.toNat) default)) (g6 : List.all (flat (List.set (List.map lOW m) (i.toNat) (setE ((m.map lOW).getD (i.toNat) AV.bad) (0 : Nat) [putSeg (lOW (m.getD (i.toNat) default)) (n.toNat) (0 : Nat) [ub (Lp.b K), bb (Lp.w K), AV.sl .fresh 36 (some ((Lp.th K).length)) (List.map Idd.enc (Lp.th K)), AV.sl .fresh 56 (some ((Lp.pa K).length)) (List.map Ps.enc (Lp.pa K))]]))) yd2 = false) : Tri Try.prog (cxN 56 0) (zqr Try.f30 11) ([(1, ub y), (5, lpB L), (7, tOW m), (8, it i), (10, it n), (11, lpB K), (15, tsl c t), (16, it k), (17, it i), (38, lsl d R), (39, it q), (40, it n)]) .normal ([(1, ub y), (5, AV.box [ub (Lp.b L), bb (Lp.w L), isl (Lp.ct L) (Lp.th L), sl (Lp.cp L) (Lp.pa L)]), (7, AV.sl .own 37 none (List.set (List.map lOW m) (i.toNat) (setE ((m.map lOW).getD (i.toNat) AV.bad) (0 : Nat) [AV.sl .own 45 none (List.set (List.map Lp.encF (m.getD (i.toNat) default)) (n.toNat) (setE (((m.getD (i.toNat) default).map Lp.encF).getD (n.toNat) AV.bad) (0 : Nat) [ub (Lp.b K), bb (Lp.w K), AV.sl .fresh 36 (some ((Lp.th K).length)) (List.map Idd.enc (Lp.th K)), AV.sl .fresh 56 (some ((Lp.pa K).length)) (List.map Ps.enc (Lp.pa K))]))]))), (8, it i), (15, tsl c t), (16, it k), (17, it i), (38, lsl d R), (39, it q), (40, it n)]) :=
 ev h30 [.c, .c, .b true, .c, .b true, .r (lOW (m.getD (i.toNat) default)), .c, .c, .c, .r (AV.agg [ub (Lp.b K), bb (Lp.w K), AV.sl .fresh 36 (some ((Lp.th K).length)) (List.map Idd.enc (Lp.th K)), AV.sl .fresh 56 (some ((Lp.pa K).length)) (List.map Ps.enc (Lp.pa K))]), .c, .c, .b true, .r (lOW (m.getD (i.toNat) default)), .b true, .c, .b true, .r (lOW (m.getD (i.toNat) default)), .b true, .r (Lp.encF ((m.getD (i.toNat) default).getD (n.toNat) default)), .b true, .r (lOW (m.getD (i.toNat) default)), .c, .b false] (allp g0 (allp g1 (allp g2 (allp (p := PureC Try.prog 29 [view (AV.agg [ub (Lp.b K), bb (Lp.w K), isl (Lp.ct K) (Lp.th K), sl (Lp.cp K) (Lp.pa K)])] (AV.agg [ub (Lp.b K), bb (Lp.w K), AV.sl .fresh 36 (some ((Lp.th K).length)) (List.map Idd.enc (Lp.th K)), AV.sl .fresh 56 (some ((Lp.pa K).length)) (List.map Ps.enc (Lp.pa K))])) (by (first | rw [zqh] | rw [zqg] | rw [zrd] | rw [zrc] | skip); apply yqs<;>first|assumption|rfl|(simp at *<;>omega)) (allp g1 (allp g2 (allp g3 (allp g1 (allp g2 (allp g4 (allp g5 (allp g1 (allp g2 (allp g6 zqa))))))))))))))
theorem yvv (c d : Option Nat) (t : List Rw) (R : List Lp) (y : Int) (L : Lp) (m : List (List Lp)) (k i q n : Int) : Tri Try.prog (cxN 56 0) (zqr Try.f30 12) ([(1, ub y), (5, lpB L), (7, tOW m), (8, it i), (15, tsl c t), (16, it k), (17, it i), (38, lsl d R), (39, it q), (40, it n)]) .normal ([(1, ub y), (5, AV.box [ub (Lp.b L), bb (Lp.w L), isl (Lp.ct L) (Lp.th L), sl (Lp.cp L) (Lp.pa L)]), (7, AV.sl .own 37 none (List.map lOW m)), (8, it i), (15, tsl c t), (16, it k), (17, it i), (38, lsl d R), (39, it q), (40, it (i64.wrap (n + (1 : Int))))]) :=
 ev h30 [.c, .c] zqa
theorem yvu (c : Option Nat) (t : List Rw) (y : Int) (L : Lp) (m : List (List Lp)) (k i : Int) : Tri Try.prog (cxN 56 0) (zqr Try.f30 13) ([(1, ub y), (5, lpB L), (7, tOW m), (15, tsl c t), (16, it k), (17, it i)]) .normal ([(1, ub y), (5, AV.box [ub (Lp.b L), bb (Lp.w L), isl (Lp.ct L) (Lp.th L), sl (Lp.cp L) (Lp.pa L)]), (7, AV.sl .own 37 none (List.map lOW m)), (15, tsl c t), (16, it k), (17, it (i64.wrap (i + (1 : Int))))]) :=
 ev h30 [.c, .c] zqa
theorem yvt (m : List (List Lp)) : Tri Try.prog (cxN 56 0) (zqr Try.f30 14) ([(7, tOW m)]) .normal ([(6, AV.al 7 [] none), (7, AV.sl .own 37 none (List.map lOW m))]) :=
 ev h30 [.c, .c] zqa
theorem ylz (d : Option Nat) (R : List Lp) (L : Lp) : view (.sl .own 37 (some 2) [lsl d R, share (.sl .own 45 (some 1) [L.enc])]) = twoL d (some 1) R [L] := by
 have h : share (.sl .own 45 (some 1) [L.enc]) = .sl .fresh 45 (some 1) (List.map Lp.enc [L]) := by
  show AV.sl .fresh 45 (some 1) ((List.map Lp.enc [L]).map (mapE (remode zqx 11))) = _
  rw [ye2 8]
 rw [h]
 show AV.sl .any 37 (some 2) [.sl .any 45 d ((R.map Lp.enc).map (mapE (remode (fun _ => .any) 10))), .sl .any 45 (some 1) (([L].map Lp.enc).map (mapE (remode (fun _ => .any) 10)))] = _
 rw [yh7, yh7]
theorem OpsR.grab {P : Program} {cx : Cx} {ops : Array Oper} {env : Env} {r : Nat} {e : TypeId} {cap : Option Nat} {xs : List AV} (hr : lk env r = some (.sl .own e cap xs)) : OpsR P cx ops [] env (· = (r, share (.sl .own e cap xs)) :: env) := by
 intro ρ F B0 w0 S0 ds a w Q rest hag hQ
 obtain ⟨hd, hN, n, S, Os, hn, hgr, hst⟩ := hag
 obtain ⟨n', S', Os', vr, u, m, hn', hst', hS, _, _, _, _, _, hS'⟩ := hst.shareAt (p := []) hr rfl rfl (.inl rfl)
 refine hQ _ rfl a w ⟨hd, hN, n', S', Os', by omega, ⟨fun b hb => hS b (hgr.1 b hb), fun b hb => ?_⟩, hst'⟩
 rcases hS' b hb with h | h
 ·exact hgr.2 b h
 ·exact .inr (hst.lt r b h).1
section
variable (c d : Option Nat) (t : List Rw) (R : List Lp) (y : Int) (L : Lp) (m : List (List Lp)) (k i : Int)
abbrev w6 : Env := [(1, ub y), (5, lpB L), (7, tOW m), (8, it i), (9, lsl d R), (15, tsl c t), (16, it k), (17, it i)]
abbrev s29 : AV := share (.sl .own 45 (some 1) [L.enc])
abbrev s30 : AV := .sl .own 37 (some 2) [lsl d R, s29 L]
abbrev w6a : Env := (30, s30 d R L) :: (29, s29 L) :: (29, .sl .own 45 (some 1) [L.enc]) :: (28, L.enc) :: (27, lsl d R) :: w6 c d t R y L m k i
theorem yo9 : view (share (s30 d R L)) = twoL d (some 1) R [L] := by
 rw [← ylz]
 have h : share (.sl .own 45 (some 1) [L.enc]) = .sl .fresh 45 (some 1) (List.map Lp.enc [L]) := by
  show AV.sl .fresh 45 (some 1) ((List.map Lp.enc [L]).map (mapE (remode zqx 11))) = _
  rw [ye2 8]
 have h2 : share (s30 d R L) = .sl .fresh 37 (some 2) [lsl d R, .sl .fresh 45 (some 1) (List.map Lp.enc [L])] := by
  show share (.sl .own 37 (some 2) [lsl d R, share (.sl .own 45 (some 1) [L.enc])]) = _
  rw [h]
  show AV.sl .fresh 37 (some 2) [.sl .any 45 d ((R.map Lp.enc).map (mapE (remode zqx 10))), .sl .fresh 45 (some 1) (([L].map Lp.enc).map (mapE (remode zqx 10)))] = _
  rw [ye2 7, ye2 7]
 rw [h2, h]
 rfl
theorem wi6_0 (hR : R.length ≤ 1000000) : Tri Try.prog (cxN 56 0) (.region 6 (zql Try.f30 6) false) (w6 c d t R y L m k i) .normal ((9, .sl .fresh 45 none ((R ++ [L]).map Lp.enc)) :: (31, .sl .fresh 45 none ((R ++ [L]).map Lp.enc)) :: (30, share (s30 d R L)) :: w6a c d t R y L m k i) := by
 refine Tri.ofR (.region (R := (· = (9, .sl .fresh 45 none ((R ++ [L]).map Lp.enc)) :: (31, .sl .fresh 45 none ((R ++ [L]).map Lp.enc)) :: (30, share (s30 d R L)) :: w6a c d t R y L m k i)) ?_) fun e h => h
 rw [show (zql Try.f30 6).toList = (zql Try.f30 6).toList.take 4 ++ ([] ++ (zql Try.f30 6).toList.drop 4) by kernel_rfl]
 refine .seq (OpsR.ev (base 56 0) zqb.1 zqb.2 (ans := [.c, .c, .c, .c, .c, .c, .c]) (ps := []) (env' := w6a c d t R y L m k i) (by kernel_rfl) zqa) ?_
 rintro _ rfl
 refine .seq (OpsR.grab (r := 30) rfl) ?_
 rintro _ rfl
 exact OpsR.ev (base 56 0) zqb.1 zqb.2 (ans := [.r (twoL d (some 1) R [L]), .r (.sl .fresh 45 none ((R ++ [L]).map Lp.enc)), .b true, .c, .c]) (ps := [view (share (s30 d R L)) = twoL d (some 1) R [L], PureC Try.prog 43 [twoL d (some 1) R [L]] (.sl .fresh 45 none ((R ++ [L]).map Lp.enc)), decide ((false || false) = true → yag 12 (.sl .fresh 45 none ((R ++ [L]).map Lp.enc)) = true) = true]) (by kernel_rfl) (allp (yo9 d R L) (allp (conS1 d (some 1) R L hR) (allp (by simp) zqa)))
end
theorem yvp : zqc Try.f30 1 = .seq (zqr Try.f30 9) (.seq (.cond (.tmp 41) .skip (.exit 2)) (.seq (.block 3 (.seq (zqr Try.f30 10) (zqr Try.f30 11))) (zqr Try.f30 12))) := by kernel_rfl
theorem yvq : zqc Try.f30 0 = .seq (zqr Try.f30 3) (.seq (.cond (.tmp 18) .skip (.exit 0)) (.seq (.block 1 (.seq (zqr Try.f30 4) (.seq (.seq (zqr Try.f30 5) (.cond (.tmp 26) (.region 6 (zql Try.f30 6) false) .skip)) (.seq (zqr Try.f30 7) (.seq (zqr Try.f30 8) (.block 2 (.loop (zqc Try.f30 1)))))))) (zqr Try.f30 13))) := by kernel_rfl
theorem ysg : Try.f30.body = some (.seq (zqr Try.f30 0) (.seq (zqr Try.f30 1) (.seq (.seq (zqr Try.f30 2) (.block 0 (.loop (zqc Try.f30 0)))) (.seq (zqr Try.f30 14) .ret)))) := by kernel_rfl
theorem ysu {m : List (List Lp)} {i : Nat} (x : List Lp) (hi : i < m.length) : List.set (List.map lOW m) i (setE (List.getD (List.map lOW m) i AV.bad) 0 [lOW x]) = (m.set i x).map lOW := by
 rw [zld, List.getElem?_map, zle hi, List.map_set]; rfl
theorem ypn {l : List Lp} {n : Nat} (K : Lp) (hn : n < l.length) : List.set (List.map Lp.encF l) n (setE (List.getD (List.map Lp.encF l) n AV.bad) 0 [ub K.b, bb K.w, .sl .fresh 36 (some K.th.length) (K.th.map Idd.enc), .sl .fresh 56 (some K.pa.length) (K.pa.map Ps.enc)]) = (l.set n K).map Lp.encF := by
 rw [zld, List.getElem?_map, zle hn, List.map_set]; rfl
theorem yqg {l : List Lp} {i : Nat} (h : i < l.length) : (l.map Lp.encF).getD i .bad = Lp.encF (l.getD i default) := by
 simp [zld, h]
theorem yem {m : List (List Lp)} {i : Nat} (h : i < m.length) : List.getD (List.map lOW m) i AV.bad = lOW (List.getD m i default) := by
 simp [zld, h]
theorem yxg {m : List (List Lp)} {i : Nat} (h : i < m.length) (x : AV) (hx : ∃ e cap ys, x = .sl .own e cap ys) : List.all (flat (List.set (List.map lOW m) i x)) yd2 = false := by
 obtain ⟨e, cap, ys, rfl⟩ := hx
 rw [List.all_eq_false]
 refine ⟨.sl .own e cap ys, List.mem_flatMap.2 ⟨.sl .own e cap ys, ?_, by simp [AV.ecells]⟩, by simp [yd2]⟩
 exact List.mem_set (by simpa using h) _
section
variable (c d : Option Nat) (t : List Rw) (R : List Lp) (y : Int) (L : Lp) (k i : Nat)
abbrev wI (m : List (List Lp)) (n : Int) : Env := [(1, ub y), (5, lpB L), (7, tOW m), (8, it i), (15, tsl c t), (16, it k), (17, it i), (38, lsl d R), (39, it ((List.map Lp.enc R).length : Nat)), (40, it n)]
abbrev wO (m : List (List Lp)) (i : Int) : Env := [(1, ub y), (5, lpB L), (7, tOW m), (15, tsl c t), (16, it k), (17, it i)]
theorem yv1 (m : List (List Lp)) (n : Nat) (h : n = R.length) : Tri Try.prog (cxN 56 0) (zqc Try.f30 1) (wI c d t R y L k i m n) (.exit 2) (wO c t y L k m i) := by
 rw [yvp]
 have h9 := yvr c d t R y L m k i ((List.map Lp.enc R).length : Nat) n
 rw [show decide ((n : Int) < ((List.map Lp.enc R).length : Nat)) = false by rw [zlc (by simp; omega)]] at h9
 exact .seq h9 (.seqX (.cond (b := false) rfl (.after (kp [1, 5, 7, 15, 16, 17]) .exit)) (by simp))
theorem ysi (m : List (List Lp)) (n : Nat) (h : n < R.length) (hR : R.length < 2 ^ 60) (hi : i < m.length) (hm : (m.getD i default).length = R.length) (hK : ∀ K ∈ R, K.th.length ≤ 4294967296 ∧ K.pa.length ≤ 4294967296) : Tri Try.prog (cxN 56 0) (zqc Try.f30 1) (wI c d t R y L k i m n) .normal (wI c d t R y L k i (m.set i ((m.getD i default).set n (R.getD n default))) ((n + 1 : Nat) : Int)) := by
 rw [yvp]
 have h9 := yvr c d t R y L m k i ((List.map Lp.enc R).length : Nat) n
 rw [show decide ((n : Int) < ((List.map Lp.enc R).length : Nat)) = true by rw [zlb (by simp; omega)]] at h9
 have hmem : R.getD n default ∈ R := by rw [zld, zle h]; exact zlu h
 have h10 := yvx c d t R y L m k i ((List.map Lp.enc R).length : Nat) n (zlb (by simp; omega)) (yc7 h)
 simp only [zlf] at h10
 generalize hKe : R.getD n default = K at *
 obtain ⟨k1, k2⟩ := hK K hmem
 have hl : (List.map Lp.encF (m.getD (Int.toNat i) default)).length = R.length := by rw [zla, zlf]; exact hm
 have h11 := yvw c d t R y L m k i ((List.map Lp.enc R).length : Nat) n K k1 k2 (zlb (by rw [zla]; omega)) (zlb (by simpa using hi)) (yem hi) (zlb (by rw [hl]; omega)) (zlb (by rw [hl]; omega)) (yqg (by simp only [zlf]; omega)) (by
  refine yxg (by simpa using hi) _ ?_
  rw [yem (by simpa using hi)]; exact ⟨_, _, _, rfl⟩)
 simp only [zlf] at h11
 have h12 := yvv c d t R y L (m.set i ((m.getD i default).set n K)) k i ((List.map Lp.enc R).length : Nat) n
 rw [up64 (by omega)] at h12
 have e1 := ypn (l := m.getD i default) K (n := n) (by omega)
 have e2 : List.set (List.map lOW m) i (setE (List.getD (List.map lOW m) i AV.bad) 0 [AV.sl .own 45 none (List.set (List.map Lp.encF (m.getD i default)) n (setE (List.getD (List.map Lp.encF (m.getD i default)) n AV.bad) 0 [ub K.b, bb K.w, .sl .fresh 36 (some K.th.length) (K.th.map Idd.enc), .sl .fresh 56 (some K.pa.length) (K.pa.map Ps.enc)]))]) = (m.set i ((m.getD i default).set n K)).map lOW := by
  rw [e1]; exact ysu ((m.getD i default).set n K) hi
 have h11' : Tri Try.prog (cxN 56 0) (zqr Try.f30 11) [(1, ub y), (5, lpB L), (7, tOW m), (8, it i), (10, it n), (11, lpB K), (15, tsl c t), (16, it k), (17, it i), (38, lsl d R), (39, it ((List.map Lp.enc R).length : Nat)), (40, it n)] .normal (wI c d t R y L k i (m.set i ((m.getD i default).set n K)) n) := by
  refine Eq.mp ?_ h11
  congr 1
  show _ = [(1, ub y), (5, lpB L), (7, .sl .own 37 none ((m.set i ((m.getD i default).set n K)).map lOW)), (8, it i), (15, tsl c t), (16, it k), (17, it i), (38, lsl d R), (39, it ((List.map Lp.enc R).length : Nat)), (40, it n)]
  rw [← e2]
 exact .seq h9 (.seq (.cond (b := true) rfl .skip) (.seq (.block (ex := .normal) (.weak (kp [1, 5, 7, 8, 15, 16, 17, 38, 39, 40]) (.seq h10 h11')) (.inr ⟨by simp, rfl⟩)) h12))
end
end Tst
end

section
open Go Go.Lf Go.Proofs
namespace Go.Lf
variable {P : Program}
theorem F2.set {α β : Type} {R : α → β → Prop} {a : List α} {b : List β} (h : F2 R a b) {x : α} {y : β} (hx : R x y) : ∀ i, F2 R (a.set i x) (b.set i y) := by
 induction h with
 | nil => intro i; exact .nil
 | cons h1 h2 ih =>
  intro i
  cases i with
  | zero => exact .cons hx h2
  | succ i => exact .cons h1 (ih i)
theorem F2.refl {α : Type} {R : α → α → Prop} (h : ∀ x, R x x) : ∀ l, F2 R l l
 | [] => .nil
 | x :: l => .cons (h x) (F2.refl h l)
theorem yn8 {xs : List AV} (h : ∀ x ∈ xs, x.ecells = [x]) : flat xs = xs := by
 induction xs with
 | nil => rfl
 | cons x xs ih =>
  show x.ecells ++ flat xs = _
  rw [h x (by simp), ih fun y hy => h y (by simp [hy])]; rfl
end Go.Lf
namespace Tst
theorem yyc (m : List (List Lp)) (i : Nat) (cap : Option Nat) (k : Nat) : Le Try.prog (.sl .own 37 none ((m.map lOW).set i (.sl .own 45 cap (List.replicate k (.agg [ub 0, bb false, zqw, zqw]))))) (tOW (m.set i (List.replicate k zL))) := by
 have e1 : ∀ x ∈ ((m.map lOW).set i (.sl .own 45 cap (List.replicate k (.agg [ub 0, bb false, zqw, zqw])))), x.ecells = [x] := by
  intro x hx
  rcases List.mem_or_eq_of_mem_set hx with h | h
  ·obtain ⟨q, _, rfl⟩ := List.mem_map.1 h; rfl
  ·subst h; rfl
 have e2 : ∀ x ∈ (m.set i (List.replicate k zL)).map lOW, x.ecells = [x] := by
  intro x hx
  obtain ⟨q, _, rfl⟩ := List.mem_map.1 hx; rfl
 refine Le.ownEls (by simp) (fun sz hu z hz => ?_) ?_
 ·rw [e2 z hz]
  by_cases hm : m = []
  ·subst hm; simp at hz
  ·obtain ⟨x, hx⟩ : ∃ x, x ∈ ((m.map lOW).set i (.sl .own 45 cap (List.replicate k (.agg [ub 0, bb false, zqw, zqw])))) := List.exists_mem_of_ne_nil _ (by
    intro h
    have := congrArg List.length h
    simp at this
    exact hm this)
   have := hu x hx
   rw [e1 x hx] at this; exact this
 ·rw [yn8 e1, yn8 e2, List.map_set]
  exact F2.set (F2.refl Le.refl _) (ytq cap k) i
def wr (R : List Lp) (n : Nat) : List Lp := R.take n ++ List.replicate (R.length - n) zL
theorem yvo (R : List Lp) (n : Nat) (h : n ≤ R.length) : (wr R n).length = R.length := by simp [wr]; omega
theorem yvn (R : List Lp) (n : Nat) (h : n < R.length) : (wr R n).set n (R.getD n default) = wr R (n + 1) := by
 unfold wr
 have h1 : (R.take n).length = n := by simp; omega
 rw [List.set_append_right _ _ (by omega), h1, Nat.sub_self, show R.length - n = (R.length - (n + 1)) + 1 by omega, List.replicate_succ, List.set_cons_zero, List.take_add_one, zld, zle h, zlp]
 rfl
section
variable (c d : Option Nat) (t : List Rw) (R : List Lp) (y : Int) (L : Lp) (k i : Nat)
theorem yly (hR : R.length < 2 ^ 60) (hK : ∀ K ∈ R, K.th.length ≤ 4294967296 ∧ K.pa.length ≤ 4294967296) (m : List (List Lp)) (hi : i < m.length) : ∀ (q n : Nat), n + q = R.length → Rnd Try.prog (cxN 56 0) (zqc Try.f30 1) (q + 1) (wI c d t R y L k i (m.set i (wr R n)) n) (.exit 2) (wO c t y L k (m.set i R) i)
 | 0, n, h => by
  have e : wr R n = R := by unfold wr; rw [show n = R.length by omega]; simp
  rw [e]
  exact .exit (yv1 c d t R y L k i _ n (by omega)) (by simp)
 | q + 1, n, h => by
  have h1 := ysi c d t R y L k i (m.set i (wr R n)) n (by omega) hR (by simpa using hi) (by rw [zld, List.getElem?_set_self hi]; exact yvo R n (by omega)) hK
  have e : (m.set i (wr R n)).set i (((m.set i (wr R n)).getD i default).set n (R.getD n default)) = m.set i (wr R (n + 1)) := by
   rw [List.set_set, zld, List.getElem?_set_self hi]
   show m.set i ((wr R n).set n _) = _
   rw [yvn R n (by omega)]
  rw [e] at h1
  exact .step h1 (yly hR hK m hi q (n + 1) (by omega))
theorem wB (hR : R.length ≤ 4294967296) (hK : ∀ K ∈ R, K.th.length ≤ 4294967296 ∧ K.pa.length ≤ 4294967296) (m : List (List Lp)) (hi : i < m.length) : Tri Try.prog (cxN 56 0) (.seq (zqr Try.f30 7) (.seq (zqr Try.f30 8) (.block 2 (.loop (zqc Try.f30 1))))) [(1, ub y), (5, lpB L), (7, tOW m), (8, it i), (9, lsl d R), (15, tsl c t), (16, it k), (17, it i)] .normal (wO c t y L k (m.set i R) i) := by
 have h7 := wi7_0 c d t R y L m k i hR (zlb ⟨by omega, by omega, by rw [zla]; omega, by decide, by decide⟩) (zlb (by rw [zla]; omega)) (zlb (by simpa using hi)) (yem (by simpa using hi))
 have e0 : ∀ z : AV, setE (List.getD (List.map lOW m) (Int.toNat (i : Int)) AV.bad) 0 [z] = z := by
  intro z; rw [yem (by simpa using hi)]; rfl
 rw [e0] at h7
 simp only [zlf] at h7
 have h7' : Tri Try.prog (cxN 56 0) (zqr Try.f30 7) [(1, ub y), (5, lpB L), (7, tOW m), (8, it i), (9, lsl d R), (15, tsl c t), (16, it k), (17, it i)] .normal [(1, ub y), (5, lpB L), (7, tOW (m.set i (wr R 0))), (8, it i), (9, lsl d R), (15, tsl c t), (16, it k), (17, it i)] := by
  refine Tri.less h7 (.cons ⟨rfl, rfl, Le.refl _⟩ (.cons ⟨rfl, rfl, Le.refl _⟩ (.cons ⟨rfl, rfl, ?_⟩ (.cons ⟨rfl, rfl, Le.refl _⟩ (.cons ⟨rfl, rfl, Le.refl _⟩ (.cons ⟨rfl, rfl, Le.refl _⟩ (.cons ⟨rfl, rfl, Le.refl _⟩ (.cons ⟨rfl, rfl, Le.refl _⟩ .nil))))))))
  have := yyc m i (some (List.map Lp.enc R).length) (List.map Lp.enc R).length
  rw [zla] at this
  simp only [zla]
  have e : wr R 0 = List.replicate R.length zL := by simp [wr]
  rw [e]
  exact this
 have hl := (yly c d t R y L k i (by omega) hK m hi R.length 0 (by omega)).loop
 exact .seq h7' (.seq (.after (kp [1, 5, 7, 8, 15, 16, 17, 38, 39, 40]) (wi8_0 c d t R y L (m.set i (wr R 0)) k i)) (.block (ex := .exit 2) hl (.inl ⟨rfl, rfl⟩)))
end
def addR (t : List Rw) (y : Int) (L : Lp) (i : Nat) : List Lp := if (i : Int) = y - 1 then (t.getD i default).l ++ [L] else (t.getD i default).l
def zrj (t : List Rw) (y : Int) (L : Lp) : List (List Lp) := (List.range t.length).map fun j => addR t y L j
def SmT (t : List Rw) : Prop := ∀ r ∈ t, r.l.length ≤ 1000000 ∧ ∀ K ∈ r.l, K.th.length ≤ 4294967296 ∧ K.pa.length ≤ 4294967296
def wS (t : List Rw) (y : Int) (L : Lp) (i : Nat) : List (List Lp) := ((List.range i).map fun j => addR t y L j) ++ List.replicate (t.length - i) []
theorem yvz (t : List Rw) (y : Int) (L : Lp) (i : Nat) (h : i ≤ t.length) : (wS t y L i).length = t.length := by simp [wS]; omega
theorem yvy (t : List Rw) (y : Int) (L : Lp) (i : Nat) (h : i < t.length) : (wS t y L i).set i (addR t y L i) = wS t y L (i + 1) := by
 unfold wS
 rw [List.set_append_right _ _ (by simp), zla, List.length_range, Nat.sub_self, show t.length - i = (t.length - (i + 1)) + 1 by omega, List.replicate_succ, List.set_cons_zero, List.range_succ, zlq, zlp]
 rfl
section
variable (c : Option Nat) (t : List Rw) (y : Int) (L : Lp) (h1 : 1 ≤ y) (h2 : y ≤ 255) (hT : SmT t) (ht : t.length ≤ 4294967296) (hL1 : L.th.length ≤ 4294967296) (hL2 : L.pa.length ≤ 4294967296)
abbrev wT (m : List (List Lp)) (i : Int) : Env := wO c t y L t.length m i
theorem yv0 (m : List (List Lp)) (i : Nat) (h : i = t.length) : Tri Try.prog (cxN 56 0) (zqc Try.f30 0) (wT c t y L m i) (.exit 0) [(7, tOW m)] := by
 rw [yvq]
 have h3 := yvs c t y L m t.length i
 rw [show decide ((i : Int) < (t.length : Nat)) = false by rw [zlc (by omega)]] at h3
 exact .seq h3 (.seqX (.cond (b := false) rfl (.after (kp [7]) .exit)) (by simp))
include h1 h2 hT ht hL1 hL2
theorem ysh (i : Nat) (h : i < t.length) : Tri Try.prog (cxN 56 0) (zqc Try.f30 0) (wT c t y L (wS t y L i) i) .normal (wT c t y L (wS t y L (i + 1)) ((i + 1 : Nat) : Int)) := by
 rw [yvq]
 have h3 := yvs c t y L (wS t y L i) t.length i
 rw [show decide ((i : Int) < (t.length : Nat)) = true by rw [zlb (by omega)]] at h3
 have h4 := wi4_0 c t y L (wS t y L i) t.length i (zlb (by rw [zla]; omega)) (ybb (by simpa using h))
 simp only [zlf] at h4
 have hmem : t.getD i default ∈ t := by rw [zld, zle h]; exact zlu h
 obtain ⟨hR, hK⟩ := hT _ hmem
 have hs := yvy t y L i h
 have hlen := yvz t y L i (by omega)
 have h13 := yvu c t y L (wS t y L (i + 1)) t.length i
 rw [up64 (by omega)] at h13
 have hw : IntKind.wrap i64 (IntKind.wrap i64 y - (1 : Int)) = y - 1 := by rw [yak (n := y) (by omega) (by omega), yak (by omega) (by omega)]
 have h5 := wi5_0 c (t.getD i default).c t (t.getD i default).l y L (wS t y L i) t.length i
 rw [hw] at h5
 refine .seq h3 (.seq (.cond (b := true) rfl .skip) (.seq (.block (ex := .normal) (.weak (kp [1, 5, 7, 15, 16, 17]) (.seq h4 ?_)) (.inr ⟨by simp, rfl⟩)) h13))
 by_cases hi : (i : Int) = y - 1
 ·have ea : addR t y L i = (t.getD i default).l ++ [L] := by unfold addR; rw [if_pos hi]
  rw [ea] at hs
  have h6 := wi6_0 c (t.getD i default).c t (t.getD i default).l y L (wS t y L i) t.length i hR
  have hB := wB c none t ((t.getD i default).l ++ [L]) y L t.length i (by rw [zlg]; show _ + 1 ≤ _; omega) (by
   intro K hk
   rcases List.mem_append.1 hk with hk | hk
   ·exact hK K hk
   ·rw [zlv] at hk; subst hk; exact ⟨hL1, hL2⟩) (wS t y L i) (by omega)
  rw [hs] at hB
  refine .seq (.seq h5 (.cond (b := true) (by show some (bb ((i : Int) == y - 1)) = _; rw [hi]; simp) ?_)) hB
  refine .weak (kp [1, 5, 7, 8, 9, 15, 16, 17]) (.less (.after (kp [1, 5, 7, 8, 9, 15, 16, 17]) h6) (.cons ⟨rfl, rfl, Le.refl _⟩ (.cons ⟨rfl, rfl, Le.refl _⟩ (.cons ⟨rfl, rfl, Le.refl _⟩ (.cons ⟨rfl, rfl, Le.refl _⟩ (.cons ⟨rfl, rfl, Le.fresh⟩ (.cons ⟨rfl, rfl, Le.refl _⟩ (.cons ⟨rfl, rfl, Le.refl _⟩ (.cons ⟨rfl, rfl, Le.refl _⟩ .nil)))))))))
 ·have ea : addR t y L i = (t.getD i default).l := by unfold addR; rw [if_neg hi]
  rw [ea] at hs
  have hB := wB c (t.getD i default).c t (t.getD i default).l y L t.length i (by omega) hK (wS t y L i) (by omega)
  rw [hs] at hB
  refine .seq (.seq h5 (.cond (b := false) (by show some (bb ((i : Int) == y - 1)) = _; rw [show ((i : Int) == y - 1) = false by simpa using hi]) ?_)) hB
  exact .after (kp [1, 5, 7, 8, 9, 15, 16, 17]) .skip
theorem ylx : ∀ (q i : Nat), i + q = t.length → Rnd Try.prog (cxN 56 0) (zqc Try.f30 0) (q + 1) (wT c t y L (wS t y L i) i) (.exit 0) [(7, tOW (zrj t y L))]
 | 0, i, h => by
  have e : wS t y L i = zrj t y L := by unfold wS zrj; rw [show i = t.length by omega]; simp
  rw [e]
  exact .exit (yv0 c t y L _ i (by omega)) (by simp)
 | q + 1, i, h => .step (ysh c t y L h1 h2 hT ht hL1 hL2 i (by omega)) (ylx q (i + 1) (by omega))
theorem yq8 : PureC Try.prog 30 [tsl c t, ub y, L.enc] (tOW (zrj t y L)) := by
 have hl := (ylx c t y L h1 h2 hT ht hL1 hL2 t.length 0 (by omega)).loop
 refine ycc ((base 56 0).ok zqb.1 zqb.2) Try.func30 rfl (by show 3 ≤ 56; omega) rfl ysg rfl (ex := .ret) (env' := [(6, .al 7 [] none), (7, tOW (zrj t y L))]) ?_ (by kernel_rfl)
 have w1 := wi1_0 c t y L ht (zlb ⟨by omega, by omega, by rw [zla]; omega, by decide, by decide⟩)
 refine .seq (wi0_0 c t y L) (.seq (env1 := [(0, tsl c t), (1, ub y), (5, lpB L), (7, tOW (wS t y L 0))]) (.less w1 (.cons ⟨rfl, rfl, Le.refl _⟩ (.cons ⟨rfl, rfl, Le.refl _⟩ (.cons ⟨rfl, rfl, Le.refl _⟩ (.cons ⟨rfl, rfl, ?_⟩ .nil))))) (.seq (.seq (wi2_0 c t y L (wS t y L 0)) (.block (ex := .exit 0) ?_ (.inl ⟨rfl, rfl⟩))) (.seq (yvt (zrj t y L)) .ret)))
 ·have e : wS t y L 0 = List.replicate t.length [] := by simp [wS]
  rw [e]
  simp only [zla, zlf]
  refine Le.trans Le.cap ?_
  show Le Try.prog (.sl .own 37 none (List.replicate t.length zqw)) (.sl .own 37 none ((List.replicate t.length []).map lOW))
  rw [List.map_replicate]
  exact Le.ownRep rfl rfl (Le.trans (Le.nilOwn 45) Le.cap) _
 ·have e : (((List.map Rw.enc t).length : Nat) : Int) = (t.length : Nat) := by rw [zla]
  rw [e]
  exact hl
end
def rwO (m : List (List Lp)) : List Rw := m.map fun l => ⟨none, l.map cpL⟩
theorem zrd (m : List (List Lp)) : view (.sl .own 37 none (m.map lOW)) = .sl .any 37 none ((rwO m).map Rw.enc) := by
 show AV.sl .any 37 none ((m.map lOW).map (mapE (remode (fun _ => .any) 11))) = _
 unfold rwO
 rw [List.map_map, List.map_map]
 congr 1
 refine List.map_congr_left fun l _ => ?_
 show AV.sl .any 45 none ((l.map Lp.encF).map (mapE (remode (fun _ => .any) 10))) = .sl .any 45 none ((l.map cpL).map Lp.enc)
 rw [List.map_map, List.map_map]
 congr 1
 refine List.map_congr_left fun K _ => ?_
 show AV.agg [ub K.b, bb K.w, .sl .any 36 (some K.th.length) ((K.th.map Idd.enc).map (mapE (remode (fun _ => .any) 9))), .sl .any 56 (some K.pa.length) ((K.pa.map Ps.enc).map (mapE (remode (fun _ => .any) 9)))] = _
 rw [ycf, yc5]; rfl
theorem chkN (c : Option Nat) (m : List (List Lp)) (hc2 : cntV (rwO m) < 2 ^ 62) (ht2 : (rwO m).length < 2 ^ 60) (hr2 : ∀ r ∈ rwO m, r.l.length < 2 ^ 60) (hO2 : OkT (rwO m)) : PureC Try.prog 11 [.sl .any 37 c ((rwO m).map Rw.enc)] (it (chV (rwO m))) := yhf c (rwO m) hc2 ht2 hr2 hO2
set_option maxHeartbeats 0
theorem adA_0 (c : Option Nat) (t : List Rw) (y : Int) (L : Lp) (hc : cntV t < 2 ^ 62) (ht : t.length < 2 ^ 60) (hr : ∀ r ∈ t, r.l.length < 2 ^ 60) (hO : OkT t) (q : (chV t != (0 : Int)) = true) (g0 : (chV t != (0 : Int)) = true) : PureC Try.prog 17 [tsl c t, ub y, L.enc]  (AV.tup [zqw, it (chV t)]) :=
 zqj (H := h17) (n := 32) (ans := [.c, .c, .c, .c, .r (tsl c t), .r (it (chV t)), .c, .c, .c, .c, .c, .b true, .c, .c, .c]) (base 32 0) Try.func17 rfl (by simp) rfl (by kernel_rfl) (allp (zqg .any c t) (allp (p := PureC Try.prog 11 [tsl c t] (it (chV t))) (by apply yhf<;>first|assumption|rfl|(simp at *<;>omega)) (allp g0 zqa)))
theorem adB_0 (c : Option Nat) (t : List Rw) (y : Int) (L : Lp) (hc : cntV t < 2 ^ 62) (ht : t.length < 2 ^ 60) (hr : ∀ r ∈ t, r.l.length < 2 ^ 60) (hO : OkT t) (q : (chV t != (0 : Int)) = false) (q1 : decide (y < (1 : Int)) = true) (g0 : (chV t != (0 : Int)) = false) (g1 : decide (y < (1 : Int)) = true) : PureC Try.prog 17 [tsl c t, ub y, L.enc]  (AV.tup [zqw, it 1]) :=
 zqj (H := h17) (n := 32) (ans := [.c, .c, .c, .c, .r (tsl c t), .r (it (chV t)), .c, .c, .c, .c, .c, .b false, .c, .c, .c, .b true, .c, .b true, .c, .b true, .c, .c, .c, .c]) (base 32 0) Try.func17 rfl (by simp) rfl (by kernel_rfl) (allp (zqg .any c t) (allp (p := PureC Try.prog 11 [tsl c t] (it (chV t))) (by apply yhf<;>first|assumption|rfl|(simp at *<;>omega)) (allp g0 (allp g1 (allp g1 (allp g1 zqa))))))
theorem adC_0 (c : Option Nat) (t : List Rw) (y : Int) (L : Lp) (hc : cntV t < 2 ^ 62) (ht : t.length < 2 ^ 60) (hr : ∀ r ∈ t, r.l.length < 2 ^ 60) (hO : OkT t) (q : (chV t != (0 : Int)) = false) (q1 : decide (y < (1 : Int)) = false) (q2 : decide ((6 : Int) < y) = true) (g0 : (chV t != (0 : Int)) = false) (g1 : decide (y < (1 : Int)) = false) (g2 : decide ((6 : Int) < y) = true) : PureC Try.prog 17 [tsl c t, ub y, L.enc]  (AV.tup [zqw, it 1]) :=
 zqj (H := h17) (n := 32) (ans := [.c, .c, .c, .c, .r (tsl c t), .r (it (chV t)), .c, .c, .c, .c, .c, .b false, .c, .c, .c, .b false, .c, .b false, .c, .b false, .c, .b true, .c, .c]) (base 32 0) Try.func17 rfl (by simp) rfl (by kernel_rfl) (allp (zqg .any c t) (allp (p := PureC Try.prog 11 [tsl c t] (it (chV t))) (by apply yhf<;>first|assumption|rfl|(simp at *<;>omega)) (allp g0 (allp g1 (allp g1 (allp g1 (allp g2 zqa)))))))
theorem adD_0 (c : Option Nat) (t : List Rw) (y : Int) (L : Lp) (hc : cntV t < 2 ^ 62) (ht : t.length < 2 ^ 60) (hr : ∀ r ∈ t, r.l.length < 2 ^ 60) (hO : OkT t) (q : (chV t != (0 : Int)) = false) (q1 : decide (y < (1 : Int)) = false) (q2 : decide ((6 : Int) < y) = false) (h1 : 1 ≤ y) (h2 : y ≤ 255) (hT : SmT t) (ht3 : t.length ≤ 4294967296) (hL1 : L.th.length ≤ 4294967296) (hL2 : L.pa.length ≤ 4294967296) (hc2 : cntV (rwO (zrj t y L)) < 2 ^ 62) (ht2 : (rwO (zrj t y L)).length < 2 ^ 60) (hr2 : ∀ r ∈ rwO (zrj t y L), r.l.length < 2 ^ 60) (hO2 : OkT (rwO (zrj t y L))) (g0 : (chV t != (0 : Int)) = false) (g1 : decide (y < (1 : Int)) = false) (g2 : decide ((6 : Int) < y) = false) (g3 : (chV (rwO (zrj t y L)) != (0 : Int)) = true) : PureC Try.prog 17 [tsl c t, ub y, L.enc]  (AV.tup [zqw, it (chV (rwO (zrj t y L)))]) :=
 zqj (H := h17) (n := 32) (ans := [.c, .c, .c, .c, .r (tsl c t), .r (it (chV t)), .c, .c, .c, .c, .c, .b false, .c, .c, .c, .b false, .c, .b false, .c, .b false, .c, .b false, .c, .c, .c, .r (tsl c t), .r (AV.sl .own 37 none (List.map lOW (zrj t y L))), .c, .c, .c, .c, .c, .r (it (chV (rwO (zrj t y L)))), .c, .c, .c, .c, .c, .b true, .c, .c, .c]) (base 32 0) Try.func17 rfl (by simp) rfl (by kernel_rfl) (allp (zqg .any c t) (allp (p := PureC Try.prog 11 [tsl c t] (it (chV t))) (by first | (apply chkN<;>first|assumption|rfl|(simp at *<;>omega)) | (apply yhf<;>first|assumption|rfl|(simp at *<;>omega))) (allp g0 (allp g1 (allp g1 (allp g1 (allp g2 (allp (zqg .any c t) (allp (p := PureC Try.prog 30 [tsl c t, ub y, view (AV.agg [ub (Lp.b L), bb (Lp.w L), isl (Lp.ct L) (Lp.th L), sl (Lp.cp L) (Lp.pa L)])] (AV.sl .own 37 none (List.map lOW (zrj t y L)))) (by (first | rw [zqh] | rw [zqg] | rw [zrd] | rw [zrc] | skip); apply yq8<;>first|assumption|rfl|(simp at *<;>omega)) (allp (p := PureC Try.prog 11 [view (AV.sl .own 37 none (List.map lOW (zrj t y L)))] (it (chV (rwO (zrj t y L))))) (by (first | rw [zqh] | rw [zqg] | rw [zrd] | rw [zrc] | skip); first | (apply chkN<;>first|assumption|rfl|(simp at *<;>omega)) | (apply yhf<;>first|assumption|rfl|(simp at *<;>omega))) (allp g3 zqa)))))))))))
theorem adD_1 (c : Option Nat) (t : List Rw) (y : Int) (L : Lp) (hc : cntV t < 2 ^ 62) (ht : t.length < 2 ^ 60) (hr : ∀ r ∈ t, r.l.length < 2 ^ 60) (hO : OkT t) (q : (chV t != (0 : Int)) = false) (q1 : decide (y < (1 : Int)) = false) (q2 : decide ((6 : Int) < y) = false) (h1 : 1 ≤ y) (h2 : y ≤ 255) (hT : SmT t) (ht3 : t.length ≤ 4294967296) (hL1 : L.th.length ≤ 4294967296) (hL2 : L.pa.length ≤ 4294967296) (hc2 : cntV (rwO (zrj t y L)) < 2 ^ 62) (ht2 : (rwO (zrj t y L)).length < 2 ^ 60) (hr2 : ∀ r ∈ rwO (zrj t y L), r.l.length < 2 ^ 60) (hO2 : OkT (rwO (zrj t y L))) (g0 : (chV t != (0 : Int)) = false) (g1 : decide (y < (1 : Int)) = false) (g2 : decide ((6 : Int) < y) = false) (g3 : (chV (rwO (zrj t y L)) != (0 : Int)) = false) : PureC Try.prog 17 [tsl c t, ub y, L.enc]  (AV.tup [AV.sl .own 37 none (List.map lOW (zrj t y L)), it 0]) :=
 zqj (H := h17) (n := 32) (ans := [.c, .c, .c, .c, .r (tsl c t), .r (it (chV t)), .c, .c, .c, .c, .c, .b false, .c, .c, .c, .b false, .c, .b false, .c, .b false, .c, .b false, .c, .c, .c, .r (tsl c t), .r (AV.sl .own 37 none (List.map lOW (zrj t y L))), .c, .c, .c, .c, .c, .r (it (chV (rwO (zrj t y L)))), .c, .c, .c, .c, .c, .b false, .c, .c, .c]) (base 32 0) Try.func17 rfl (by simp) rfl (by kernel_rfl) (allp (zqg .any c t) (allp (p := PureC Try.prog 11 [tsl c t] (it (chV t))) (by first | (apply chkN<;>first|assumption|rfl|(simp at *<;>omega)) | (apply yhf<;>first|assumption|rfl|(simp at *<;>omega))) (allp g0 (allp g1 (allp g1 (allp g1 (allp g2 (allp (zqg .any c t) (allp (p := PureC Try.prog 30 [tsl c t, ub y, view (AV.agg [ub (Lp.b L), bb (Lp.w L), isl (Lp.ct L) (Lp.th L), sl (Lp.cp L) (Lp.pa L)])] (AV.sl .own 37 none (List.map lOW (zrj t y L)))) (by (first | rw [zqh] | rw [zqg] | rw [zrd] | rw [zrc] | skip); apply yq8<;>first|assumption|rfl|(simp at *<;>omega)) (allp (p := PureC Try.prog 11 [view (AV.sl .own 37 none (List.map lOW (zrj t y L)))] (it (chV (rwO (zrj t y L))))) (by (first | rw [zqh] | rw [zqg] | rw [zrd] | rw [zrc] | skip); first | (apply chkN<;>first|assumption|rfl|(simp at *<;>omega)) | (apply yhf<;>first|assumption|rfl|(simp at *<;>omega))) (allp g3 zqa)))))))))))
theorem ck_mem {t : List Rw} (ht : t.length ≤ 6) (hb : ckT t = true) {r : Rw} (h : r ∈ t) {L : Lp} (hL : L ∈ r.l) : yad t L = true := by
 obtain ⟨x, hx, rfl⟩ := yc4 t 0 r L h hL
 have hx' : x ∈ allT t := by unfold allT; rw [zlm (by omega)]; exact hx
 unfold ckT at hb
 have ha := zls.1 hb x hx'
 unfold arV at ha
 rw [zlo] at ha
 exact ha.1
theorem yi0 {t : List Rw} {L : Lp} (h : yad t L = true) : L.th.length ≤ 4 ∧ L.pa.length ≤ 4096 := by
 unfold yad ygx at h
 simp only [zlo, decide_eq_true_eq] at h
 exact ⟨h.1.1.2, h.1.2.1.1⟩
theorem yrf {t : List Rw} {r : Rw} (h : r ∈ t) : r.l.length ≤ cntV t := by
 induction t with
 | nil => simp at h
 | cons q t ih =>
  show _ ≤ ((q :: t).map fun r => r.l.length).sum
  rw [List.map_cons, List.sum_cons]
  rcases List.mem_cons.1 h with rfl | h
  ·omega
  ·have := ih h; show _ ≤ q.l.length + cntV t; omega
theorem yrd {t : List Rw} (ht : t.length ≤ 6) (hc : cntV t ≤ 2048) (hb : ckT t = true) : SmT t := fun r h => ⟨by have := yrf h; omega, fun K hK => by have := yi0 (ck_mem ht hb h hK); omega⟩
structure GoodL (L : Lp) : Prop where
 y : okI L
 a : L.th.length ≤ 4294967296
 b : L.pa.length ≤ 4294967296
theorem yq4 (t : List Rw) (y : Int) (L : Lp) (i : Nat) : (addR t y L i).length ≤ (t.getD i default).l.length + 1 := by
 unfold addR; split <;> simp
theorem yq3 {t : List Rw} {y : Int} {L : Lp} {i : Nat} {K : Lp} (h : K ∈ addR t y L i) : K ∈ (t.getD i default).l ∨ K = L := by
 unfold addR at h
 split at h
 ·rcases List.mem_append.1 h with h | h
  ·exact .inl h
  ·exact .inr (by simpa using h)
 ·exact .inl h
theorem yop (t : List Rw) : cntV t = ((List.range t.length).map fun i => (t.getD i default).l.length).sum := by
 unfold cntV
 congr 1
 refine List.ext_getElem (by simp) fun i h1 h2 => ?_
 have hi : i < t.length := by simpa using h1
 simp only [List.getElem_map, List.getElem_range]
 rw [zld, zle hi]; rfl
theorem yqu (t : List Rw) (y : Int) (L : Lp) : cntV (rwO (zrj t y L)) ≤ cntV t + t.length := by
 rw [yop t]
 unfold cntV rwO zrj
 rw [List.map_map, List.map_map]
 generalize t.length = n
 induction n with
 | zero => simp
 | succ n ih =>
  rw [List.range_succ, zlq, zlq, List.sum_append, List.sum_append]
  have := yq4 t y L n
  simp only [List.map_cons, List.map_nil, List.sum_cons, List.sum_nil, Function.comp_apply, zla] at ih ⊢
  omega
theorem yj7 {t : List Rw} {y : Int} {L : Lp} (hO : OkT t) (hL : GoodL L) : OkT (rwO (zrj t y L)) := by
 intro r hr K hK
 unfold rwO zrj at hr
 rw [List.map_map] at hr
 obtain ⟨j, hj, rfl⟩ := List.mem_map.1 hr
 have hj' := List.mem_range.1 hj
 obtain ⟨K', hK', rfl⟩ := List.mem_map.1 hK
 rcases yq3 hK' with h | rfl
 ·have hm : t.getD j default ∈ t := by rw [zld, zle hj']; exact zlu hj'
  exact hO _ hm K' h
 ·exact ⟨hL.y, by have := hL.a; show K'.th.length < _; omega, by have := hL.b; show K'.pa.length < _; omega⟩
def addV (t : List Rw) (y : Int) (L : Lp) : AV :=
 if chV t = 0 then if y < 1 ∨ 6 < y then .tup [zqw, it 1] else if chV (rwO (zrj t y L)) = 0 then .tup [tOW (zrj t y L), it 0] else .tup [zqw, it (chV (rwO (zrj t y L)))]
 else .tup [zqw, it (chV t)]
theorem add_c (c : Option Nat) (t : List Rw) (y : Int) (L : Lp) (hc : cntV t < 2 ^ 62) (ht : t.length < 2 ^ 60) (hr : ∀ r ∈ t, r.l.length < 2 ^ 60) (hO : OkT t) (h0 : 0 ≤ y) (h1 : y ≤ 255) (hL : GoodL L) : PureC Try.prog 17 [tsl c t, ub y, L.enc] (addV t y L) := by
 unfold addV
 by_cases h : chV t = 0
 ·rw [if_pos h]
  have q : (chV t != (0 : Int)) = false := by simp [h]
  by_cases hy : y < 1
  ·rw [if_pos (.inl hy)]
   exact adB_0 c t y L hc ht hr hO q (zlb hy) q (zlb hy)
  ·by_cases hy2 : 6 < y
   ·rw [if_pos (.inr hy2)]
    exact adC_0 c t y L hc ht hr hO q (zlc hy) (zlb hy2) q (zlc hy) (zlb hy2)
   ·rw [if_neg (by omega)]
    obtain ⟨a1, a2, a3, _, _⟩ := ykt h
    have hcw := yqu t y L
    have hlen : (rwO (zrj t y L)).length = t.length := by simp [rwO, zrj]
    have hrw : ∀ r ∈ rwO (zrj t y L), r.l.length < 2 ^ 60 := fun r hr => by have := yrf hr; omega
    by_cases hn : chV (rwO (zrj t y L)) = 0
    ·rw [if_pos hn]
     have q2 : (chV (rwO (zrj t y L)) != (0 : Int)) = false := by simp [hn]
     exact adD_1 c t y L hc ht hr hO q (zlc hy) (zlc hy2) (by omega) h1 (yrd (by omega) a2 a3) (by omega) hL.a hL.b (by omega) (by omega) hrw (yj7 hO hL) q (zlc hy) (zlc hy2) q2
    ·rw [if_neg hn]
     have q2 : (chV (rwO (zrj t y L)) != (0 : Int)) = true := by simp [hn]
     exact adD_0 c t y L hc ht hr hO q (zlc hy) (zlc hy2) (by omega) h1 (yrd (by omega) a2 a3) (by omega) hL.a hL.b (by omega) (by omega) hrw (yj7 hO hL) q (zlc hy) (zlc hy2) q2
 ·rw [if_neg h]
  have q : (chV t != (0 : Int)) = true := by simp [h]
  exact adA_0 c t y L hc ht hr hO q q
end Tst
end

section
namespace Go.Lf
open Go Go.RowKit
section
variable {P : Program} {cx : Cx}
def MutN (P : Program) (f : FuncId) (x : AV) (us : List Value) (r : AV) : Prop :=
 (∀ (args : Array Value) (w : World), (callFunc f args).run P w = .ok (.enter f args) w) ∧
 ∀ (B0 : Nat) (w : World) (S : Nat → Prop) (v : Value) (n : Nat) (O : Own), B0 ≤ w.heap.size → (∀ b, S b → b < w.heap.size ∧ O b = 0) → (∀ b, O b ≤ 1) → Rv P B0 w S n v x O →
  Calls P f (v :: us).toArray w fun e w' => ∃ n' O', e = .returned (.tuple #[]) ∧ Below B0 w w' ∧ (∀ b, b < w.heap.size → O b = 0 → w'.heap[b]? = w.heap[b]?) ∧ Rv P B0 w' S n' v r O' ∧ (∀ b, O' b ≤ 1) ∧
   (∀ b, 0 < O' b → 0 < O b ∨ w.heap.size ≤ b)
def argN : Nat → List Value → Env
 | _, [] => []
 | k, u :: us => (k, .atom u) :: argN (k + 1) us
theorem ye4 : ∀ (us : List Value) (k t : Nat) (x : AV), lk (argN k us) t = some x → ∃ u, x = .atom u ∧ k ≤ t ∧ us[t - k]? = some u
 | [], k, t, x, h => by cases h
 | u :: us, k, t, x, h => by
  simp only [argN, lk] at h
  split at h
  ·rename_i e
   injection h with h
   exact ⟨u, h.symm, by omega, by rw [show t - k = 0 by omega]; rfl⟩
  ·obtain ⟨u', h1, h2, h3⟩ := ye4 us (k + 1) t x h
   refine ⟨u', h1, by omega, ?_⟩
   rw [show t - k = (t - (k + 1)) + 1 by omega]
   exact h3
theorem mutN {c : Code} {ex : Ex} {env' : Env} {f : FuncId} {fn : Func} {e : TypeId} {cap : Option Nat} {xs ys : List AV} {us : List Value} (hf : P.funcs[f]? = some fn) (hname : (fn.name == "runtime.NumGoroutine") = false) (hlen : us.length + 1 ≤ cx.N) (hlo : cx.lo = 1)
  (hy : ∀ y ∈ flat ys, ∃ v, y = .atom v) (hb : fn.body = some c) (hN : fn.ntmps = cx.N ∧ fn.results = #[]) (hex : ex = .normal ∨ ex = .ret) (htri : Tri P cx c ((0, .sl .own e cap xs) :: argN 1 us) ex env') (h : lk env' 0 = some (.sl .own e cap ys)) : MutN P f (.sl .own e cap xs) us (.sl .own e cap ys) := by
  ·refine ⟨?_, ?_⟩
   ·intro args w
    have hn' : ¬ (fn.name = "runtime.NumGoroutine") := by simpa using hname
    simp [callFunc, hf, hn', hb]
   ·intro B0 w S v n O hB0 hS hO1 hrv
    refine (callsIn_wide (n := 0)).1 (callsIn_of_wp_marks (F := Fi none) (n := 0) hf hb trivial ?_ rfl)
    have hsl : ∀ k t u, (v :: us)[t]? = some u → ((v :: us).toArray ++ Array.replicate k undef)[t]? = some u := fun k t u h => by
     have ht : t < (v :: us).length := (zlk.1 h).1
     rw [Array.getElem?_append_left (by simpa using ht)]; simpa using h
    have hsl0 : ∀ k, ((v :: us).toArray ++ Array.replicate k undef)[0]? = some v := fun k => hsl k 0 v rfl
    have hlt := Rv.owned n v _ O hrv
    have hst : St P ⟨fun b => b < w.heap.size ∧ O b = 0, 1, #[v]⟩ B0 w (n + 1) ((0, .sl .own e cap xs) :: argN 1 us) ((v :: us).toArray ++ Array.replicate (fn.ntmps - (v :: us).toArray.size) undef) w (fun b => b < w.heap.size ∧ O b = 0) (fun t => if t = 0 then O else fun _ => 0) := by
     refine ⟨Below.refl _ _, hB0, fun b hb => hb.1, ?_, ?_, ?_, ?_, ?_, ?_, fun b hb => ⟨hb, rfl⟩, ?_⟩
     ·intro b t hb
      by_cases ht : t = 0 <;> simp [ht, hb.2]
     ·intro t b
      by_cases ht : t = 0 <;> simp [ht, hO1 b]
     ·intro t t' b hne
      by_cases ht : t = 0
      ·right; rw [if_neg (by omega)]
      ·left; rw [if_neg ht]
     ·intro t x hx
      simp only [lk] at hx
      split at hx
      ·rename_i ht
       subst ht
       injection hx with hx; subst hx
       refine ⟨v, hsl0 _, .inr ?_⟩
       rw [if_pos rfl]
       exact (Rv.frame (fun b hb => hS b hb) (fun _ _ => rfl) _ _ _ _ (fun _ _ => rfl) hrv).le (Nat.le_succ n)
      ·obtain ⟨u, rfl, h1, h2⟩ := ye4 us 1 t x hx
       refine ⟨u, hsl _ t u ?_, .inr ?_⟩
       ·rw [show t = (t - 1) + 1 by omega]; exact h2
       ·rw [if_neg (by omega)]
        exact ⟨rfl, fun _ => rfl⟩
     ·intro t ht b
      simp only [lk] at ht
      split at ht
      ·cases ht
      ·rename_i h0; rw [if_neg (Ne.symm h0)]
     ·intro t x r hx hr
      simp only [lk] at hx
      split at hx
      ·injection hx with hx; subst hx; cases hr
      ·obtain ⟨u, rfl, _, _⟩ := ye4 us 1 t x hx
       cases hr
     ·intro t ht
      have : t = 0 := by have ht' : t < 1 := ht; omega
      subst this
      exact hsl0 _
    have hag : Agree P ⟨fun b => b < w.heap.size ∧ O b = 0, 1, #[v]⟩ B0 w (fun b => b < w.heap.size ∧ O b = 0) cx [] ((0, .sl .own e cap xs) :: argN 1 us) { tmps := (v :: us).toArray ++ Array.replicate (fn.ntmps - (v :: us).toArray.size) undef, defers := [] } w := by
     refine ⟨rfl, ⟨?_, hlo.symm⟩, n + 1, _, _, Nat.succ_pos n, .refl _ _, hst⟩
     have := hN.1
     simp; omega
    ·have fin : ∀ (a' : Act) w' n1 S1 Os1, Grow B0 (fun b => b < w.heap.size ∧ O b = 0) S1 → St P ⟨fun b => b < w.heap.size ∧ O b = 0, 1, #[v]⟩ B0 w n1 env' a'.tmps w' S1 Os1 → lk env' 0 = some (.sl .own e cap ys) → ∃ rv, (results fn a'.tmps).run P w' = .ok rv w' ∧
       ∃ n' O', Ending.returned rv = .returned (.tuple #[]) ∧ Below B0 w w' ∧ (∀ b, b < w.heap.size → O b = 0 → w'.heap[b]? = w.heap[b]?) ∧ Rv P B0 w' S n' v (.sl .own e cap ys) O' ∧ (∀ b, O' b ≤ 1) ∧
        (∀ b, 0 < O' b → 0 < O b ∨ w.heap.size ≤ b) := by
      intro a' w' n1 S1 Os1 hgr hst1 ht
      refine ⟨.tuple #[], ?_, ?_⟩
      ·simp [results, hN.2]
      ·obtain ⟨v1, hv1, hs1⟩ := hst1.rel 0 _ ht
       have hpin := hst1.pin 0 (by show 0 < 1; omega)
       rw [hv1] at hpin
       simp at hpin
       subst hpin
       have hr1 := hs1.rv rfl
       obtain ⟨m, rfl⟩ := hr1.pos
       obtain ⟨vs, O2, ho, hcap, hu, hrc, hOO⟩ := hr1
       refine ⟨m + 1, Os1 0, rfl, hst1.below, fun b hb h0 => (hst1.keep b ⟨hb, h0⟩).2, ⟨vs, O2, ho, hcap, hu, ?_, hOO⟩, hst1.one 0, ?_⟩
       ·refine hrc.mono' ?_
        intro u x O3 hx hr
        obtain ⟨q, rfl⟩ := hy x hx
        obtain ⟨k, rfl⟩ := hr.pos
        exact hr
       ·intro b hb
        rcases Nat.lt_or_ge b w.heap.size with h2 | h2
        ·left
         rcases zlt (O b) with h3 | h3
         ·have := hst1.excl b 0 (hgr.1 b ⟨h2, h3⟩); omega
         ·exact h3
        ·exact .inr h2
     refine htri none (fun _ => rfl) _ _ _ _ _ _ _ _ hag fun a' w' ⟨Ds, n1, S1, Os1, hnd, hD, hd, _, hn1, hgr, hst1⟩ => ?_
     have out : LeavesInM (Fi none) 0 P fn a'.tmps (fun e1 w' => ∃ n' O', e1 = .returned (.tuple #[]) ∧ Below B0 w w' ∧ (∀ b, b < w.heap.size → O b = 0 → w'.heap[b]? = w.heap[b]?) ∧ Rv P B0 w' S n' v (.sl .own e cap ys) O' ∧ (∀ b, O' b ≤ 1) ∧
        (∀ b, 0 < O' b → 0 < O b ∨ w.heap.size ≤ b)) a'.defers .returning w' := by
      rw [hd]
      refine ydc Ds hnd (fun D h => (hD D h).2.2) fun w2 h1 h2 h3 h4 h5 => ?_
      refine fin a' w2 n1 S1 Os1 hgr (hst1.other ⟨h1, h2, h3, by omega, fun k hk => h5 k fun hm => by have := (hD k hm).1; omega⟩ (fun b hb => h5 b fun hm => by have := (hD b hm).1; have := hb.1; omega) fun b o hg hd => h5 b fun hm => by rw [(hD b hm).2.2] at hg; injection hg with hg; subst hg; cases hd) h
     cases ex with
     | normal => exact out
     | ret => exact out
     | exit id => rcases hex with h | h <;> cases h
def yhm (env : Env) : List Operand → List Value → Prop
 | [], [] => True
 | x :: xs, u :: us => (∃ s, Vl env x (.atom u) s) ∧ yhm env xs us
 | _, _ => False
theorem OpsR.callN {ops : Array Oper} {env : Env} {y : Oper} {f : FuncId} {x : Operand} {rest : List Operand} {us : List Value} {ats : Array TypeId} {l1 ls : List Nat} {r : Nat} {e : TypeId} {cap : Option Nat} {xs ys : List AV} {eff : Eff} (hg : y.guard = none) (ho : y.op = .call { callee := .value (.func f), args := (x :: rest).toArray, argTypes := ats })
  (hx : (valP x fun a s => ownP a s fun r e cap xs => .ret (r, e, cap, xs)).run env = some (l1, (r, e, cap, xs))) (hus : yhm env rest us) (hm : MutN P f (.sl .own e cap xs) us (.sl .own e cap ys)) (hout : (outP cx y.dst (.tup []) [(r, .sl .own e cap ys)] [(r, true)]).run env = some (ls, eff)) :
  OpsR P cx ops [y] env (· = zqi eff env) := by
 refine .one hg fun ρ F B0 w0 S0 ds a w Q K hag hK => ?_
 obtain ⟨hd', hN, n, S, Os, hn, hgr, hst⟩ := hag
 obtain ⟨yv, s, l2, hv, h1⟩ := zqm hx
 obtain ⟨t, e', cap', xs', l3, h2, hl, htm, hr⟩ := ygy hst hn hv h1
 simp only [RP.run, Option.some.injEq, Prod.mk.injEq] at h2
 obtain ⟨_, rfl, rfl, rfl, rfl⟩ := h2
 have hev : ∀ (rs : List Operand) (vs : List Value), yhm env rs vs → rs.map a.eval = vs := by
  intro rs
  induction rs with
  | nil => intro vs h; cases vs with | nil => rfl | cons _ _ => exact h.elim
  | cons q rs ih =>
   intro vs h
   cases vs with
   | nil => exact h.elim
   | cons u vs =>
    obtain ⟨⟨s, hq⟩, h⟩ := h
    obtain ⟨O, hs, _⟩ := hq.ev hst hn
    have hr := hs.rv rfl
    obtain ⟨m, rfl⟩ := hr.pos
    rw [List.map_cons, ih vs h, hr.1]
 obtain ⟨henter, hcall⟩ := hm
 have hC := hcall B0 w S _ n (Os t) hst.b0 (fun b hb => ⟨hst.sLt b hb, hst.excl b t hb⟩) (hst.one t) hr
 have hwp : y.wp P a w (Post P F B0 w0 S cx env eff a) Q := by
  unfold Oper.wp
  have hrun : (execOp a.eval y).run P w = .ok (.enter f (a.eval x :: us).toArray) w := by
   rw [execOp, ho]
   have := henter (a.eval x :: us).toArray w
   rw [← hev rest us hus] at this ⊢
   simp [resolve, invoke, Deferred.ofValue, Act.eval] at this ⊢
   exact this
  rw [hrun, Oper.upon_enter]
  refine hC.mono ?_
  rintro ee w' ⟨n', O', rfl, hB, hag, hrv, hO1, hO2⟩
  exact yje hst hn (Nat.le_max_left n (n' + 1)) hN hl htm hout hB hag (hrv.le (by omega)) hO1 hO2 (Rv.le (n := 1) ⟨#[], rfl, .nil fun _ => rfl⟩ (by omega))
 refine opIn (by intro c hc; rw [ho] at hc; cases hc) (Oper.wp_mono (fun a' w' hp => ?_) hwp)
 obtain ⟨p1, p2, n', S', Os', q1, q2, q3⟩ := hp
 exact hK _ rfl a' w' ⟨p1.trans hd', p2, n', S', Os', q1, hgr.trans q2, q3⟩
end
end Go.Lf
end

section
open Go Go.Lf Go.Proofs
namespace Tst
set_option maxHeartbeats 0
abbrev f34 : AV := .atom (.func (.func 34) #[] #[])
theorem is0_0 (c : Option Nat) (l : List Idd) (b : Int) : Tri Try.prog (cxN 53 1) (zqr Try.f55 0) ([(0, iow c l), (1, it 0), (2, it b), (3, f34)]) .normal ([(0, iow c l), (1, it 0), (2, it b), (3, AV.atom (Value.func (Fn.func (34 : FuncId)) #[] #[])), (8, it (i64.wrap ((0 : Int) + (1 : Int))))]) :=
 ev h55 [.c, .c, .c] zqa
theorem yyz (c : Option Nat) (l : List Idd) (b i : Int) : Tri Try.prog (cxN 53 1) (zqr Try.f55 1) ([(0, iow c l), (1, it 0), (2, it b), (3, f34), (8, it i)]) .normal ([(0, iow c l), (1, it 0), (2, it b), (3, AV.atom (Value.func (Fn.func (34 : FuncId)) #[] #[])), (8, it i), (14, bb (decide (i < b)))]) :=
 ev h55 [.c, .c, .c] zqa
theorem is3_0 (c : Option Nat) (l : List Idd) (b i : Int) : Tri Try.prog (cxN 53 1) (zqr Try.f55 3) ([(0, iow c l), (1, it 0), (2, it b), (3, f34), (8, it i)]) .normal ([(0, iow c l), (1, it 0), (2, it b), (3, AV.atom (Value.func (Fn.func (34 : FuncId)) #[] #[])), (8, it i), (9, it i)]) :=
 ev h55 [.c, .c] zqa
theorem is4_0 (c : Option Nat) (l : List Idd) (b i j : Int) (g0 : decide ((0 : Int) < j) = true) (g1 : decide (0 ≤ j ∧ j < ((l.map Idd.enc).length : Int)) = true) (g2 : decide (j.toNat < (l.map Idd.enc).length) = true) (g3 : (l.map Idd.enc).getD j.toNat AV.bad = Idd.enc (l.getD j.toNat default)) (g4 : decide (0 ≤ i64.wrap (j - (1 : Int)) ∧ i64.wrap (j - (1 : Int)) < ((l.map Idd.enc).length : Int)) = true) (g5 : decide ((i64.wrap (j - (1 : Int))).toNat < (l.map Idd.enc).length) = true) (g6 : (l.map Idd.enc).getD ((i64.wrap (j - (1 : Int))).toNat) AV.bad = Idd.enc (l.getD ((i64.wrap (j - (1 : Int))).toNat) default)) : Tri Try.prog (cxN 53 1) (zqr Try.f55 4) ([(0, iow c l), (1, it 0), (2, it b), (3, f34), (8, it i), (9, it j)]) .normal ([(0, iow c l), (1, it 0), (2, it b), (3, AV.atom (Value.func (Fn.func (34 : FuncId)) #[] #[])), (8, it i), (9, it j), (34, bb (decide (orV (cmpI (Idd.y (l.getD j.toNat default)) (Idd.y (l.getD ((i64.wrap (j - (1 : Int))).toNat) default))) (cmpI (Idd.n (l.getD j.toNat default)) (Idd.n (l.getD ((i64.wrap (j - (1 : Int))).toNat) default))) < (0 : Int))))]) :=
 ev h55 [.c, .c, .c, .c, .b true, .c, .b true, .c, .b true, .c, .b true, .b true, .c, .b true, .b true, .r (Idd.enc (l.getD j.toNat default)), .c, .b true, .c, .b true, .c, .b true, .c, .b true, .b true, .c, .b true, .b true, .r (Idd.enc (l.getD ((i64.wrap (j - (1 : Int))).toNat) default)), .c, .b true, .r (it (orV (cmpI (Idd.y (l.getD j.toNat default)) (Idd.y (l.getD ((i64.wrap (j - (1 : Int))).toNat) default))) (cmpI (Idd.n (l.getD j.toNat default)) (Idd.n (l.getD ((i64.wrap (j - (1 : Int))).toNat) default))))), .c, .c, .b true, .c, .b true, .c] (allp g0 (allp g0 (allp g0 (allp g0 (allp g1 (allp g0 (allp g2 (allp g3 (allp g0 (allp g0 (allp g0 (allp g0 (allp g4 (allp g0 (allp g5 (allp g6 (allp g0 (allp (p := PureC Try.prog 34 [AV.agg [ub (Idd.y (l.getD j.toNat default)), it (Idd.n (l.getD j.toNat default))], AV.agg [ub (Idd.y (l.getD ((i64.wrap (j - (1 : Int))).toNat) default)), it (Idd.n (l.getD ((i64.wrap (j - (1 : Int))).toNat) default))]] (it (orV (cmpI (Idd.y (l.getD j.toNat default)) (Idd.y (l.getD ((i64.wrap (j - (1 : Int))).toNat) default))) (cmpI (Idd.n (l.getD j.toNat default)) (Idd.n (l.getD ((i64.wrap (j - (1 : Int))).toNat) default)))))) (by apply yon<;>first|assumption|rfl|(simp at *<;>omega)) (allp g0 (allp g0 zqa))))))))))))))))))))
theorem is4_1 (c : Option Nat) (l : List Idd) (b i j : Int) (g0 : decide ((0 : Int) < j) = false) : Tri Try.prog (cxN 53 1) (zqr Try.f55 4) ([(0, iow c l), (1, it 0), (2, it b), (3, f34), (8, it i), (9, it j)]) .normal ([(0, iow c l), (1, it 0), (2, it b), (3, AV.atom (Value.func (Fn.func (34 : FuncId)) #[] #[])), (8, it i), (9, it j), (34, bb false)]) :=
 ev h55 [.c, .c, .c, .c, .b false, .c, .b false, .c, .b false, .c, .b false, .c, .b false, .c, .b false, .c, .b false, .c, .b false, .c, .b false, .c, .b false, .c, .b false, .c, .b false, .c, .b false, .c] (allp g0 (allp g0 (allp g0 (allp g0 (allp g0 (allp g0 (allp g0 (allp g0 (allp g0 (allp g0 (allp g0 (allp g0 (allp g0 zqa)))))))))))))
theorem is6_0 (c : Option Nat) (l : List Idd) (b i j : Int) (g0 : decide (0 ≤ i64.wrap (j - (1 : Int)) ∧ i64.wrap (j - (1 : Int)) < ((l.map Idd.enc).length : Int)) = true) (g1 : decide ((i64.wrap (j - (1 : Int))).toNat < (l.map Idd.enc).length) = true) (g2 : (l.map Idd.enc).getD ((i64.wrap (j - (1 : Int))).toNat) AV.bad = Idd.enc (l.getD ((i64.wrap (j - (1 : Int))).toNat) default)) (g3 : decide (0 ≤ j ∧ j < ((l.map Idd.enc).length : Int)) = true) (g4 : decide (j.toNat < (l.map Idd.enc).length) = true) (g5 : (l.map Idd.enc).getD j.toNat AV.bad = Idd.enc (l.getD j.toNat default)) (g6 : AV.sl .own 36 c (List.set (List.map Idd.enc l) j.toNat (setE ((l.map Idd.enc).getD j.toNat AV.bad) (0 : Nat) [ub (Idd.y (l.getD ((i64.wrap (j - (1 : Int))).toNat) default)), it (Idd.n (l.getD ((i64.wrap (j - (1 : Int))).toNat) default))])) = iow c (List.set l j.toNat { y := Idd.y (l.getD ((i64.wrap (j - (1 : Int))).toNat) default), n := Idd.n (l.getD ((i64.wrap (j - (1 : Int))).toNat) default) })) (g7 : List.all (flat (List.map Idd.enc (List.set l j.toNat { y := Idd.y (l.getD ((i64.wrap (j - (1 : Int))).toNat) default), n := Idd.n (l.getD ((i64.wrap (j - (1 : Int))).toNat) default) }))) yd2 = true) (g8 : decide (0 ≤ i64.wrap (j - (1 : Int)) ∧ i64.wrap (j - (1 : Int)) < (↑(List.length (List.map Idd.enc (List.set l j.toNat { y := Idd.y (l.getD ((i64.wrap (j - (1 : Int))).toNat) default), n := Idd.n (l.getD ((i64.wrap (j - (1 : Int))).toNat) default) }))) : Int)) = true) (g9 : decide ((i64.wrap (j - (1 : Int))).toNat < List.length (List.map Idd.enc (List.set l j.toNat { y := Idd.y (l.getD ((i64.wrap (j - (1 : Int))).toNat) default), n := Idd.n (l.getD ((i64.wrap (j - (1 : Int))).toNat) default) }))) = true) (g10 : List.getD (List.map Idd.enc (List.set l j.toNat { y := Idd.y (l.getD ((i64.wrap (j - (1 : Int))).toNat) default), n := Idd.n (l.getD ((i64.wrap (j - (1 : Int))).toNat) default) })) ((i64.wrap (j - (1 : Int))).toNat) AV.bad = Idd.enc (List.getD (List.set l j.toNat { y := Idd.y (l.getD ((i64.wrap (j - (1 : Int))).toNat) default), n := Idd.n (l.getD ((i64.wrap (j - (1 : Int))).toNat) default) }) ((i64.wrap (j - (1 : Int))).toNat) default)) (g11 : AV.sl .own 36 c (List.set (List.map Idd.enc (List.set l j.toNat { y := Idd.y (l.getD ((i64.wrap (j - (1 : Int))).toNat) default), n := Idd.n (l.getD ((i64.wrap (j - (1 : Int))).toNat) default) })) ((i64.wrap (j - (1 : Int))).toNat) (setE (List.getD (List.map Idd.enc (List.set l j.toNat { y := Idd.y (l.getD ((i64.wrap (j - (1 : Int))).toNat) default), n := Idd.n (l.getD ((i64.wrap (j - (1 : Int))).toNat) default) })) ((i64.wrap (j - (1 : Int))).toNat) AV.bad) (0 : Nat) [ub (Idd.y (l.getD j.toNat default)), it (Idd.n (l.getD j.toNat default))])) = iow c (List.set (List.set l j.toNat { y := Idd.y (l.getD ((i64.wrap (j - (1 : Int))).toNat) default), n := Idd.n (l.getD ((i64.wrap (j - (1 : Int))).toNat) default) }) ((i64.wrap (j - (1 : Int))).toNat) { y := Idd.y (l.getD j.toNat default), n := Idd.n (l.getD j.toNat default) })) (g12 : List.all (flat (List.map Idd.enc (List.set (List.set l j.toNat { y := Idd.y (l.getD ((i64.wrap (j - (1 : Int))).toNat) default), n := Idd.n (l.getD ((i64.wrap (j - (1 : Int))).toNat) default) }) ((i64.wrap (j - (1 : Int))).toNat) { y := Idd.y (l.getD j.toNat default), n := Idd.n (l.getD j.toNat default) }))) yd2 = true) : Tri Try.prog (cxN 53 1) (zqr Try.f55 6) ([(0, iow c l), (1, it 0), (2, it b), (3, f34), (8, it i), (9, it j)]) .normal ([(0, iow c (List.set (List.set l j.toNat { y := Idd.y (l.getD ((i64.wrap (j - (1 : Int))).toNat) default), n := Idd.n (l.getD ((i64.wrap (j - (1 : Int))).toNat) default) }) ((i64.wrap (j - (1 : Int))).toNat) { y := Idd.y (l.getD j.toNat default), n := Idd.n (l.getD j.toNat default) })), (1, it 0), (2, it b), (3, AV.atom (Value.func (Fn.func (34 : FuncId)) #[] #[])), (8, it i), (9, it j)]) :=
 ev h55 [.c, .c, .c, .c, .c, .c, .c, .c, .b true, .c, .b true, .r (Idd.enc (l.getD ((i64.wrap (j - (1 : Int))).toNat) default)), .c, .c, .c, .b true, .c, .b true, .r (Idd.enc (l.getD j.toNat default)), .c, .b true, .c, .b true, .r (Idd.enc (l.getD j.toNat default)), .r (iow c (List.set l j.toNat { y := Idd.y (l.getD ((i64.wrap (j - (1 : Int))).toNat) default), n := Idd.n (l.getD ((i64.wrap (j - (1 : Int))).toNat) default) })), .b true, .b true, .c, .b true, .r (Idd.enc (List.getD (List.set l j.toNat { y := Idd.y (l.getD ((i64.wrap (j - (1 : Int))).toNat) default), n := Idd.n (l.getD ((i64.wrap (j - (1 : Int))).toNat) default) }) ((i64.wrap (j - (1 : Int))).toNat) default)), .r (iow c (List.set (List.set l j.toNat { y := Idd.y (l.getD ((i64.wrap (j - (1 : Int))).toNat) default), n := Idd.n (l.getD ((i64.wrap (j - (1 : Int))).toNat) default) }) ((i64.wrap (j - (1 : Int))).toNat) { y := Idd.y (l.getD j.toNat default), n := Idd.n (l.getD j.toNat default) })), .b true] (allp g0 (allp g1 (allp g2 (allp g3 (allp g4 (allp g5 (allp g3 (allp g4 (allp g5 (allp g6 (allp g7 (allp g8 (allp g9 (allp g10 (allp g11 (allp g12 zqa))))))))))))))))
theorem is5_0 (c : Option Nat) (l : List Idd) (b i j : Int) : Tri Try.prog (cxN 53 1) (zqr Try.f55 5) ([(0, iow c l), (1, it 0), (2, it b), (3, f34), (8, it i), (9, it j)]) .normal ([(0, iow c l), (1, it 0), (2, it b), (3, AV.atom (Value.func (Fn.func (34 : FuncId)) #[] #[])), (8, it i), (9, it (i64.wrap (j - (1 : Int))))]) :=
 ev h55 [.c, .c, .c] zqa
theorem is2_0 (c : Option Nat) (l : List Idd) (b i : Int) : Tri Try.prog (cxN 53 1) (zqr Try.f55 2) ([(0, iow c l), (1, it 0), (2, it b), (3, f34), (8, it i)]) .normal ([(0, iow c l), (1, it 0), (2, it b), (3, AV.atom (Value.func (Fn.func (34 : FuncId)) #[] #[])), (8, it (i64.wrap (i + (1 : Int))))]) :=
 ev h55 [.c, .c, .c] zqa
def cmpP (a b : Idd) : Int := orV (cmpI a.y b.y) (cmpI a.n b.n)
def yle (l : List Idd) (j : Nat) : List Idd := (l.set (j + 1) (l.getD j default)).set j (l.getD (j + 1) default)
def insF : List Idd → Nat → List Idd
 | l, 0 => l
 | l, j + 1 => if cmpP (l.getD (j + 1) default) (l.getD j default) < 0 then insF (yle l j) j else l
theorem yev (l : List Idd) (j : Nat) : (yle l j).length = l.length := by simp [yle]
theorem yek : ∀ (j : Nat) (l : List Idd), (insF l j).length = l.length
 | 0, l => rfl
 | j + 1, l => by
  rw [insF]; split
  ·rw [yek j, yev]
  ·rfl
def ylf : Nat → List Idd → Nat → List Idd
 | 0, l, _ => l
 | k + 1, l, i => ylf k (insF l i) (i + 1)
theorem yht : ∀ (k : Nat) (l : List Idd) (i : Nat), (ylf k l i).length = l.length
 | 0, l, i => rfl
 | k + 1, l, i => by rw [ylf, yht k, yek]
theorem ytv : zqc Try.f55 1 = .seq (.seq (.region 4 (zql Try.f55 4) true) (.cond (.tmp 34) .skip (.exit 2))) (.seq (.block 3 (.region 6 (zql Try.f55 6) true)) (zqr Try.f55 5)) := by kernel_rfl
theorem yyx : zqc Try.f55 0 = .seq (.seq (zqr Try.f55 1) (.cond (.tmp 14) .skip (.exit 0))) (.seq (.block 1 (.seq (zqr Try.f55 3) (.block 2 (.loop (zqc Try.f55 1))))) (zqr Try.f55 2)) := by kernel_rfl
theorem ytw : Try.f55.body = some (.seq (zqr Try.f55 0) (.block 0 (.loop (zqc Try.f55 0)))) := by kernel_rfl
theorem yyw : zqr Try.f55 4 = .region 4 (zql Try.f55 4) true := by kernel_rfl
theorem is_r6 : zqr Try.f55 6 = .region 6 (zql Try.f55 6) true := by kernel_rfl
theorem yix {l : List Idd} {i : Nat} (p : Idd) (h : i < l.length) : List.set (List.map Idd.enc l) i (setE (List.getD (List.map Idd.enc l) i AV.bad) 0 [ub p.y, it p.n]) = (l.set i p).map Idd.enc := by
 rw [zld, List.getElem?_map, zle h, List.map_set]; rfl
section
variable (c : Option Nat) (b i : Nat)
abbrev iE (l : List Idd) (j : Int) : Env := [(0, iow c l), (1, it 0), (2, it b), (3, f34), (8, it i), (9, it j)]
abbrev iO (l : List Idd) (i : Int) : Env := [(0, iow c l), (1, it 0), (2, it b), (3, f34), (8, it i)]
theorem ynv (l : List Idd) (j : Nat) (hj : j + 1 < l.length) (hl : l.length < 2 ^ 60) : Tri Try.prog (cxN 53 1) (.region 4 (zql Try.f55 4) true) (iE c b i l ((j + 1 : Nat) : Int)) .normal (iE c b i l ((j + 1 : Nat) : Int) ++ [(34, bb (decide (cmpP (l.getD (j + 1) default) (l.getD j default) < 0)))]) := by
 have hw : IntKind.wrap i64 (((j + 1 : Nat) : Int) - 1) = (j : Int) := by rw [yak (by omega) (by omega)]; omega
 have h := is4_0 c l b i ((j + 1 : Nat) : Int) (zlb (by omega))
 rw [hw] at h
 simp only [zlf] at h
 rw [← yyw]
 exact h (zlb (by rw [zla]; omega)) (zlb (by rw [zla]; omega)) (yaj (by omega)) (zlb (by rw [zla]; omega)) (zlb (by rw [zla]; omega)) (yaj (by omega))
theorem yt0 (l : List Idd) : Tri Try.prog (cxN 53 1) (zqc Try.f55 1) (iE c b i l 0) (.exit 2) (iO c b l i) := by
 rw [ytv, ← yyw]
 exact .seqX (.seq (is4_1 c l b i 0 (by decide)) (.cond (b := false) rfl (.after (kp [0, 1, 2, 3, 8]) .exit))) (by simp)
theorem yy8 (l : List Idd) (j : Nat) (hj : j + 1 < l.length) (hl : l.length < 2 ^ 60) (h : ¬ cmpP (l.getD (j + 1) default) (l.getD j default) < 0) : Tri Try.prog (cxN 53 1) (zqc Try.f55 1) (iE c b i l ((j + 1 : Nat) : Int)) (.exit 2) (iO c b l i) := by
 rw [ytv]
 exact .seqX (.seq (ynv c b i l j hj hl) (.cond (b := false) (by show some (bb (decide _)) = _; rw [zlc h]) (.after (kp [0, 1, 2, 3, 8]) .exit))) (by simp)
theorem ytz (l : List Idd) (j : Nat) (hj : j + 1 < l.length) (hl : l.length < 2 ^ 60) (h : cmpP (l.getD (j + 1) default) (l.getD j default) < 0) : Tri Try.prog (cxN 53 1) (zqc Try.f55 1) (iE c b i l ((j + 1 : Nat) : Int)) .normal (iE c b i (yle l j) j) := by
 rw [ytv]
 have hw : IntKind.wrap i64 (((j + 1 : Nat) : Int) - 1) = (j : Int) := by rw [yak (by omega) (by omega)]; omega
 have h6 := is6_0 c l b i ((j + 1 : Nat) : Int)
 have h5 := is5_0 c (yle l j) b i ((j + 1 : Nat) : Int)
 rw [hw] at h6 h5
 simp only [zlf] at h6
 have e1 := yix (l := l) (i := j + 1) (l.getD j default) hj
 have e2 := yix (l := l.set (j + 1) (l.getD j default)) (i := j) (l.getD (j + 1) default) (by rw [zlx]; omega)
 have fl : ∀ l : List Idd, List.all (flat (List.map Idd.enc l)) yd2 = true := fun l => by
  rw [zls]
  intro x hx
  obtain ⟨y, hy, hxy⟩ := List.mem_flatMap.1 hx
  obtain ⟨p, _, rfl⟩ := List.mem_map.1 hy
  simp [AV.ecells, Idd.enc] at hxy
  rcases hxy with rfl | rfl <;> rfl
 have h6' := h6 (zlb (by rw [zla]; omega)) (zlb (by rw [zla]; omega)) (yaj (by omega)) (zlb (by rw [zla]; omega)) (zlb (by rw [zla]; omega)) (yaj (by omega)) (by rw [e1]) (fl _) (zlb (by rw [zla, zlx]; omega)) (zlb (by rw [zla, zlx]; omega)) (yaj (by rw [zlx]; omega)) (congrArg (AV.sl .own 36 c) e2) (fl _)
 rw [is_r6] at h6'
 exact .seq (.seq (ynv c b i l j hj hl) (.cond (b := true) (by show some (bb (decide _)) = _; rw [zlb h]) (.after (kp [0, 1, 2, 3, 8, 9]) .skip))) (.seq (.block (ex := .normal) h6' (.inr ⟨by simp, rfl⟩)) h5)
theorem ynw : ∀ (j : Nat) (l : List Idd), j < l.length → l.length < 2 ^ 60 → Rnd Try.prog (cxN 53 1) (zqc Try.f55 1) (j + 1) (iE c b i l j) (.exit 2) (iO c b (insF l j) i)
 | 0, l, _, _ => .exit (yt0 c b i l) (by simp)
 | j + 1, l, hj, hl => by
  rw [insF]
  by_cases h : cmpP (l.getD (j + 1) default) (l.getD j default) < 0
  ·rw [if_pos h]
   exact .step (ytz c b i l j hj hl h) (ynw j (yle l j) (by rw [yev]; omega) (by rw [yev]; omega))
  ·rw [if_neg h]
   exact .exit (yy8 c b i l j hj hl h) (by simp)
end
section
variable (c : Option Nat) (b : Nat)
theorem yrw (l : List Idd) (i : Nat) (h : b ≤ i) : Tri Try.prog (cxN 53 1) (zqc Try.f55 0) (iO c b l i) (.exit 0) [(0, iow c l)] := by
 rw [yyx]
 have h1 := yyz c l b i
 rw [show decide ((i : Int) < (b : Nat)) = false by rw [zlc (by omega)]] at h1
 exact .seqX (.seq h1 (.cond (b := false) rfl (.after (kp [0]) .exit))) (by simp)
theorem yty (l : List Idd) (i : Nat) (h : i < b) (hb : l.length = b) (hl : l.length < 2 ^ 60) : Tri Try.prog (cxN 53 1) (zqc Try.f55 0) (iO c b l i) .normal (iO c b (insF l i) ((i + 1 : Nat) : Int)) := by
 rw [yyx]
 have h1 := yyz c l b i
 rw [show decide ((i : Int) < (b : Nat)) = true by rw [zlb (by omega)]] at h1
 have h2 := is2_0 c (insF l i) b i
 rw [up64 (by omega)] at h2
 exact .seq (.seq h1 (.cond (b := true) rfl (.after (kp [0, 1, 2, 3, 8]) .skip))) (.seq (.block (ex := .normal) (.seq (is3_0 c l b i) (.block (ex := .exit 2) (ynw c b i i l (by omega) hl).loop (.inl ⟨rfl, rfl⟩))) (.inr ⟨by simp, rfl⟩)) h2)
theorem ynu : ∀ (k i : Nat) (l : List Idd), i + k = b → l.length = b → l.length < 2 ^ 60 → Rnd Try.prog (cxN 53 1) (zqc Try.f55 0) (k + 1) (iO c b l i) (.exit 0) [(0, iow c (ylf k l i))]
 | 0, i, l, h, hb, hl => .exit (yrw c b l i (by omega)) (by simp)
 | k + 1, i, l, h, hb, hl => by
  rw [ylf]
  exact .step (yty c b l i (by omega) hb hl) (ynu k (i + 1) (insF l i) (by omega) (by rw [yek]; exact hb) (by rw [yek]; exact hl))
end
def insV (l : List Idd) : List Idd := ylf (l.length - 1) l 1
theorem yqa (c : Option Nat) (l : List Idd) (hl : l.length < 2 ^ 60) : MutN Try.prog 55 (iow c l) [.int .i64 0, .int .i64 l.length, .func (.func 34) #[] #[]] (iow c (insV l)) := by
 have hr : Rnd Try.prog (cxN 53 1) (zqc Try.f55 0) (l.length - 1 + 1) (iO c l.length l ((1 : Nat) : Int)) (.exit 0) [(0, iow c (insV l))] := by
  by_cases h : l.length = 0
  ·have e : l = [] := zli h
   subst e
   exact .exit (yrw c 0 [] 1 (by omega)) (by simp)
  ·exact ynu c l.length (l.length - 1) 1 l (by omega) rfl hl
 refine mutN (cx := cxN 53 1) Try.func55 rfl (by show 4 ≤ 53; omega) rfl ?_ ytw ⟨rfl, rfl⟩ (.inl rfl) (env' := [(0, iow c (insV l))]) ?_ rfl
 ·intro y hy
  obtain ⟨z, hz, hyz⟩ := List.mem_flatMap.1 hy
  obtain ⟨p, _, rfl⟩ := List.mem_map.1 hz
  simp [AV.ecells, Idd.enc] at hyz
  rcases hyz with rfl | rfl <;> exact ⟨_, rfl⟩
 ·exact .seq (is0_0 c l l.length) (.block (ex := .exit 0) hr.loop (.inl ⟨rfl, rfl⟩))
theorem pd0_0 (c : Option Nat) (l : List Idd) (n k : Int) : Tri Try.prog (cxN 148 1) (zqr Try.f46 0) ([(0, iow c l), (1, it 0), (2, it n), (3, it k), (4, f34)]) .normal ([(0, iow c l), (1, it 0), (2, it n), (3, it k), (4, AV.atom (Value.func (Fn.func (34 : FuncId)) #[] #[])), (10, bb true)]) :=
 ev h46 [.c] zqa
theorem pd1_0 (c : Option Nat) (l : List Idd) (n k : Int) : Tri Try.prog (cxN 148 1) (zqr Try.f46 1) ([(0, iow c l), (1, it 0), (2, it n), (3, it k), (4, f34)]) .normal ([(0, iow c l), (1, it 0), (2, it n), (3, it k), (4, AV.atom (Value.func (Fn.func (34 : FuncId)) #[] #[])), (11, bb true)]) :=
 ev h46 [.c] zqa
theorem pd2_0 (c : Option Nat) (l : List Idd) (n k : Int) : Tri Try.prog (cxN 148 1) (zqr Try.f46 2) ([(0, iow c l), (1, it 0), (2, it n), (3, it k), (4, f34)]) .normal ([(0, iow c l), (1, it 0), (2, it n), (3, it k), (4, AV.atom (Value.func (Fn.func (34 : FuncId)) #[] #[])), (12, it (i64.wrap (n - (0 : Int))))]) :=
 ev h46 [.c, .c, .c, .c] zqa
theorem pd3_0 (c : Option Nat) (l : List Idd) (n k : Int) : Tri Try.prog (cxN 148 1) (zqr Try.f46 3) ([(0, iow c l), (1, it 0), (2, it n), (3, it k), (4, f34), (12, it n)]) .normal ([(0, iow c l), (1, it 0), (2, it n), (3, it k), (4, AV.atom (Value.func (Fn.func (34 : FuncId)) #[] #[])), (12, it n), (25, bb (decide (n ≤ (12 : Int))))]) :=
 ev h46 [.c, .c] zqa
theorem sf0_0 (c : Option Nat) (l : List Idd) : Tri Try.prog (cxN 14 1) (zqr Try.f33 0) ([(0, iow c l), (1, f34)]) .normal ([(0, iow c l), (1, AV.atom (Value.func (Fn.func (34 : FuncId)) #[] #[])), (4, it ((l.map Idd.enc).length : Int))]) :=
 ev h33 [.c, .c, .c] zqa
noncomputable abbrev pdRest : Code := match zqc Try.f46 0 with | .block _ (.seq _ (.seq _ r)) => r | _ => .skip
theorem pd_l0 : zqc Try.f46 0 = .block 1 (.seq (zqr Try.f46 2) (.seq (.seq (zqr Try.f46 3) (.cond (.tmp 25) (.seq (.region 4 (zql Try.f46 4) false) .ret) .skip)) pdRest)) := by kernel_rfl
theorem ysz : Try.f46.body = some (.seq (zqr Try.f46 0) (.seq (zqr Try.f46 1) (.block 0 (.loop (zqc Try.f46 0))))) := by kernel_rfl
abbrev fv34 : Value := .func (.func 34) #[] #[]
abbrev pqE (c : Option Nat) (l : List Idd) (k : Int) : Env := [(0, iow c l), (1, it 0), (2, it (l.length : Nat)), (3, it k), (4, f34)]
theorem pd4 (c : Option Nat) (l : List Idd) (k : Int) (hl : l.length < 2 ^ 60) : Tri Try.prog (cxN 148 1) (.region 4 (zql Try.f46 4) false) (pqE c l k) .normal [(0, iow c (insV l))] := by
 refine .after (kp [0]) (env' := (30, .tup []) :: (0, iow c (insV l)) :: kills [(0, true)] ((29, f34) :: (28, it (l.length : Nat)) :: (27, it 0) :: (26, .al 0 [] none) :: pqE c l k)) (Tri.ofR (.region (R := (· = (30, .tup []) :: (0, iow c (insV l)) :: kills [(0, true)] ((29, f34) :: (28, it (l.length : Nat)) :: (27, it 0) :: (26, .al 0 [] none) :: pqE c l k))) ?_) fun e h => h)
 rw [show (zql Try.f46 4).toList = (zql Try.f46 4).toList.take 4 ++ [(zql Try.f46 4).toList.getD 4 default] by kernel_rfl]
 refine .seq (OpsR.ev (base 148 1) zqb.1 zqb.2 (ans := [.c, .c, .c, .c]) (ps := []) (env' := (29, f34) :: (28, it (l.length : Nat)) :: (27, it 0) :: (26, .al 0 [] none) :: pqE c l k) (by kernel_rfl) zqa) ?_
 rintro _ rfl
 exact OpsR.callN (ops := zql Try.f46 4) (y := (zql Try.f46 4).toList.getD 4 default) (f := 55) (x := .tmp 26) (rest := [.tmp 27, .tmp 28, .tmp 29]) (us := [.int .i64 0, .int .i64 l.length, fv34]) (ats := #[26, 3, 3, 76]) (l1 := [52, 0]) (ls := [60]) (r := 0) (e := 36) (cap := c) (xs := l.map Idd.enc) (ys := (insV l).map Idd.enc) (eff := ⟨[(30, .tup []), (0, iow c (insV l))], [(0, true)]⟩) (by kernel_rfl) (by kernel_rfl) (by kernel_rfl) ⟨⟨_, rfl, rfl⟩, ⟨_, rfl, rfl⟩, ⟨_, rfl, rfl⟩, trivial⟩ (yqa c l hl) (by kernel_rfl)
theorem pdq_c (c : Option Nat) (l : List Idd) (k : Int) (hl : l.length ≤ 12) : MutN Try.prog 46 (iow c l) [.int .i64 0, .int .i64 l.length, .int .i64 k, fv34] (iow c (insV l)) := by
 refine mutN (cx := cxN 148 1) Try.func46 rfl (by show 5 ≤ 148; omega) rfl ?_ ysz ⟨rfl, rfl⟩ (.inr rfl) (env' := [(0, iow c (insV l))]) ?_ rfl
 ·intro y hy
  obtain ⟨z, hz, hyz⟩ := List.mem_flatMap.1 hy
  obtain ⟨p, _, rfl⟩ := List.mem_map.1 hz
  simp [AV.ecells, Idd.enc] at hyz
  rcases hyz with rfl | rfl <;> exact ⟨_, rfl⟩
 ·have h2 := pd2_0 c l l.length k
  rw [show IntKind.wrap i64 ((l.length : Nat) - (0 : Int)) = (l.length : Nat) by rw [Int.sub_zero]; exact yak (by omega) (by omega)] at h2
  have h3 := pd3_0 c l l.length k
  rw [show decide (((l.length : Nat) : Int) ≤ 12) = true by rw [zlb (by omega)]] at h3
  have hb : Tri Try.prog (cxN 148 1) (zqc Try.f46 0) (pqE c l k) .ret [(0, iow c (insV l))] := by
   rw [pd_l0]
   exact .block (ex := .ret) (.seq h2 (.seqX (.seq h3 (.cond (b := true) rfl (.seq (.weak (kp [0, 1, 2, 3, 4]) (pd4 c l k (by omega))) .ret))) (by simp))) (.inr ⟨by simp, rfl⟩)
  exact .seq (.after (kp [0, 1, 2, 3, 4]) (pd0_0 c l l.length k)) (.seq (.after (kp [0, 1, 2, 3, 4]) (pd1_0 c l l.length k)) (.block (ex := .ret) (Rnd.loop (n := 1) (.exit hb (by simp))) (.inr ⟨by simp, rfl⟩)))
theorem yst : Try.f33.body = some (.seq (zqr Try.f33 0) (.region 1 (zql Try.f33 1) false)) := by kernel_rfl
abbrev u6 (n : Int) : AV := .atom (.int .u64 n)
theorem bl0_0 (n : Int) : Tri Try.prog (cxN 25 0) (zqr Try.f64 0) ([(0, u6 n)]) .normal ([(0, AV.atom (Value.int IntKind.u64 n)), (2, it 0)]) :=
 ev h64 [.c] zqa
theorem bl1_0 (n : Int) : Tri Try.prog (cxN 25 0) (zqr Try.f64 1) ([(0, u6 n), (2, it 0)]) .normal ([(0, AV.atom (Value.int IntKind.u64 n)), (2, it 0), (4, bb (decide ((4294967296 : Int) ≤ n)))]) :=
 ev h64 [.c, .c] zqa
theorem bl4_0 (n : Int) : Tri Try.prog (cxN 25 0) (zqr Try.f64 4) ([(0, u6 n), (2, it 0)]) .normal ([(0, AV.atom (Value.int IntKind.u64 n)), (2, it 0), (8, bb (decide ((65536 : Int) ≤ n)))]) :=
 ev h64 [.c, .c] zqa
theorem bl7_0 (n : Int) : Tri Try.prog (cxN 25 0) (zqr Try.f64 7) ([(0, u6 n), (2, it 0)]) .normal ([(0, AV.atom (Value.int IntKind.u64 n)), (2, it 0), (14, bb (decide ((256 : Int) ≤ n)))]) :=
 ev h64 [.c, .c] zqa
end Tst
end

section
open Go Go.Lf Go.Proofs
namespace Go.Lf
theorem OpsR.indexS {P : Program} {cx : Cx} {ops : Array Oper} {env : Env} {y : Oper} {t : TypeId} {s : ByteArray} {tk n : Nat} {kd : IntKind} {b : UInt8} {ls : List Nat} {eff : Eff} (hg : y.guard = none) (hu : P.underlying t = some .string) (ho : y.op = .index t (.const (.string s)) (.tmp tk))
  (hk : lk env tk = some (.atom (.int kd n))) (hb : s[n]? = some b) (hout : (outP cx y.dst (.atom (.int .u8 b.toNat)) [] []).run env = some (ls, eff)) : OpsR P cx ops [y] env (· = zqi eff env) := by
 refine .one hg fun ρ F B0 w0 S0 ds a w Q K hag hK => ?_
 have e1 := hag.valOf hk rfl
 obtain ⟨hd, hN, n', S, Os, hn, hgr, hst⟩ := hag
 have hrun : (execOp a.eval y).run P w = .ok (.value (.int .u8 b.toNat)) w := by
  rw [execOp, ho]
  have e2 : a.eval (.const (.string s)) = .string s := rfl
  simp only [e1, e2]
  simp [Instr.index, Go.run_underlying hu, asIntOf, Result.andThen, hb]
 refine opIn (by intro c hc; rw [ho] at hc; cases hc) (Oper.wp_mono (fun a' w' hp => ?_) (yar (Q := Q) hst hn hN hout hrun))
 obtain ⟨p1, p2, n'', S', Os', q1, q2, q3⟩ := hp
 exact hK _ rfl a' w' ⟨p1.trans hd, p2, n'', S', Os', q1, hgr.trans q2, q3⟩
end Go.Lf
namespace Tst
noncomputable abbrev ix64 : Oper := (zql Try.f64 10).toList.getD 3 default
noncomputable def lenTab : ByteArray := match ix64.op with | .index _ (.const (.string s)) _ => s | _ => ⟨#[]⟩
theorem ykb : lenTab.size = 256 := by kernel_rfl
theorem bl10 (n : Nat) (h : n < 256) : ∃ k : Int, Tri Try.prog (cxN 25 0) (.region 10 (zql Try.f64 10) false) [(0, u6 n), (2, it 0)] .normal [(2, it k)] := by
 obtain ⟨b, hb⟩ : ∃ b, lenTab[n]? = some b := ⟨lenTab[n]'(by rw [ykb]; exact h), getElem?_pos lenTab n (by rw [ykb]; exact h)⟩
 have hw : u8.wrap (n : Int) = n := by show Int.emod n 256 = n; exact Int.emod_eq_of_lt (by omega) (by omega)
 refine ⟨i64.wrap (0 + i64.wrap (b.toNat : Int)), .after (kp [2]) (env' := (2, it (i64.wrap (0 + i64.wrap (b.toNat : Int)))) :: (24, it (i64.wrap (0 + i64.wrap (b.toNat : Int)))) :: (23, it (i64.wrap (b.toNat : Int))) :: (22, ub b.toNat) :: (21, ub n) :: (20, u6 n) :: (19, it 0) :: [(0, u6 n), (2, it 0)]) (Tri.ofR (.region (R := (· = (2, it (i64.wrap (0 + i64.wrap (b.toNat : Int)))) :: (24, it (i64.wrap (0 + i64.wrap (b.toNat : Int)))) :: (23, it (i64.wrap (b.toNat : Int))) :: (22, ub b.toNat) :: (21, ub n) :: (20, u6 n) :: (19, it 0) :: [(0, u6 n), (2, it 0)])) ?_) fun e h => h)⟩
 rw [show (zql Try.f64 10).toList = ((zql Try.f64 10).toList.take 3 ++ [ix64]) ++ (zql Try.f64 10).toList.drop 4 by kernel_rfl]
 refine .seq (R1 := (· = (22, ub b.toNat) :: (21, ub n) :: (20, u6 n) :: (19, it 0) :: [(0, u6 n), (2, it 0)])) (.seq (OpsR.ev (base 25 0) zqb.1 zqb.2 (ans := [.c, .c, .c]) (ps := []) (env' := (21, ub (u8.wrap n)) :: (20, u6 n) :: (19, it 0) :: [(0, u6 n), (2, it 0)]) (by kernel_rfl) zqa) ?_) ?_
 ·rintro _ rfl
  rw [hw]
  exact OpsR.indexS (t := 9) (s := lenTab) (tk := 21) (kd := .u8) (b := b) (ls := [44]) (eff := ⟨[(22, ub b.toNat)], []⟩) (by kernel_rfl) Try.underlying9 (by kernel_rfl) rfl hb (by kernel_rfl)
 ·rintro _ rfl
  exact OpsR.ev (base 25 0) zqb.1 zqb.2 (ans := [.c, .c, .c]) (ps := []) (by kernel_rfl) zqa
theorem yu5 : Try.f64.body = some (.seq (zqr Try.f64 0) (.seq (.seq (zqr Try.f64 1) (.cond (.tmp 4) (.seq (zqr Try.f64 2) (zqr Try.f64 3)) .skip)) (.seq (.seq (zqr Try.f64 4) (.cond (.tmp 8) (.seq (zqr Try.f64 5) (zqr Try.f64 6)) .skip)) (.seq (.seq (zqr Try.f64 7) (.cond (.tmp 14) (.seq (zqr Try.f64 8) (zqr Try.f64 9)) .skip)) (.seq (.region 10 (zql Try.f64 10) false) .ret))))) := by kernel_rfl
theorem len64 (n : Nat) (h : n < 256) : ∃ k : Int, PureC Try.prog 64 [u6 n] (it k) := by
 obtain ⟨k, hk⟩ := bl10 n h
 refine ⟨k, ycc ((base 25 0).ok zqb.1 zqb.2) Try.func64 rfl (by show 1 ≤ 25; omega) rfl yu5 rfl (ex := .ret) (env' := [(2, it k)]) ?_ (by kernel_rfl)⟩
 have h1 := bl1_0 n
 have h4 := bl4_0 n
 have h7 := bl7_0 n
 rw [show decide ((4294967296 : Int) ≤ (n : Int)) = false by rw [zlc (by omega)]] at h1
 rw [show decide ((65536 : Int) ≤ (n : Int)) = false by rw [zlc (by omega)]] at h4
 rw [show decide ((256 : Int) ≤ (n : Int)) = false by rw [zlc (by omega)]] at h7
 exact .seq (bl0_0 n) (.seq (.seq h1 (.cond (b := false) rfl (.after (kp [0, 2]) .skip))) (.seq (.seq h4 (.cond (b := false) rfl (.after (kp [0, 2]) .skip))) (.seq (.seq h7 (.cond (b := false) rfl (.after (kp [0, 2]) .skip))) (.seq hk .ret))))
theorem yya (n k : Int) (h : PureC Try.prog 64 [u6 n] (it k)) : PureC Try.prog 64 [u6 n] (it k) := h
set_option maxHeartbeats 0
theorem bn0_0 (n : Int) : Tri Try.prog (cxN 8 0) (zqr Try.f47 0) ([(0, u6 n)]) .normal ([(0, AV.atom (Value.int IntKind.u64 n))]) :=
 ev h47 [.c] zqa
theorem bn2_0 (n k : Int) (h : PureC Try.prog 64 [u6 n] (it k)) : Tri Try.prog (cxN 8 0) (zqr Try.f47 2) ([(0, u6 n)]) .normal ([(2, it k)]) :=
 ev h47 [.c, .r (it k), .c, .c, .c] (allp (p := PureC Try.prog 64 [AV.atom (Value.int IntKind.u64 n)] (it k)) (by apply yya<;>first|assumption|rfl|(simp at *<;>omega)) zqa)
theorem Tri.condF {P : Program} {cx : Cx} {c d : Code} {env env' : Env} {ex : Ex} (h : Tri P cx d env ex env') : Tri P cx (.cond (.const (.bool false)) c d) env ex env' := by
 intro ρ hρ F B0 w0 S0 ds a w Q hag hQ
 exact wpIn_cond_false rfl (h ρ hρ F B0 w0 S0 ds a w Q hag hQ)
theorem yu4 : Try.f47.body = some (.seq (zqr Try.f47 0) (.seq (.cond (.const (.bool false)) (.seq (zqr Try.f47 1) .ret) .skip) (.seq (zqr Try.f47 2) .ret))) := by kernel_rfl
theorem len47 (n : Nat) (h : n < 256) : ∃ k : Int, PureC Try.prog 47 [u6 n] (it k) := by
 obtain ⟨k, hk⟩ := len64 n h
 refine ⟨k, ycc ((base 8 0).ok zqb.1 zqb.2) Try.func47 rfl (by show 1 ≤ 8; omega) rfl yu4 rfl (ex := .ret) (env' := [(2, it k)]) ?_ (by kernel_rfl)⟩
 exact .seq (.after (kp [0]) (bn0_0 n)) (.seq (Tri.condF .skip) (.seq (.after (kp [2]) (bn2_0 n k hk)) .ret))
abbrev srE (c : Option Nat) (l : List Idd) : Env := [(0, iow c l), (1, f34), (4, it (l.length : Nat))]
theorem sf1 (c : Option Nat) (l : List Idd) (hl : l.length ≤ 12) : Tri Try.prog (cxN 14 1) (.region 1 (zql Try.f33 1) false) (srE c l) .normal [(0, iow c (insV l))] := by
 obtain ⟨k, hk⟩ := len47 l.length (by omega)
 have hw : IntKind.u64.wrap (l.length : Int) = (l.length : Nat) := by show Int.emod (l.length : Int) 18446744073709551616 = _; exact Int.emod_eq_of_lt (by omega) (by omega)
 refine .after (kp [0]) (env' := (13, .tup []) :: (0, iow c (insV l)) :: kills [(0, true)] ((12, f34) :: (11, it k) :: (10, u6 (l.length : Nat)) :: (9, it (l.length : Nat)) :: (8, it (l.length : Nat)) :: (7, .al 0 [] none) :: srE c l)) (Tri.ofR (.region (R := (· = (13, .tup []) :: (0, iow c (insV l)) :: kills [(0, true)] ((12, f34) :: (11, it k) :: (10, u6 (l.length : Nat)) :: (9, it (l.length : Nat)) :: (8, it (l.length : Nat)) :: (7, .al 0 [] none) :: srE c l))) ?_) fun e h => h)
 rw [show (zql Try.f33 1).toList = (zql Try.f33 1).toList.take 6 ++ [(zql Try.f33 1).toList.getD 6 default] by kernel_rfl]
 refine .seq (OpsR.ev (base 14 1) zqb.1 zqb.2 (ans := [.c, .c, .c, .c, .r (it k), .b true, .c, .c]) (ps := [PureC Try.prog 47 [u6 (IntKind.u64.wrap (l.length : Int))] (it k), decide ((false || false) = true → yag 12 (it k) = true) = true]) (env' := (12, f34) :: (11, it k) :: (10, u6 (IntKind.u64.wrap (l.length : Int))) :: (9, it (l.length : Nat)) :: (8, it (l.length : Nat)) :: (7, .al 0 [] none) :: srE c l) (by kernel_rfl) (allp (by rw [hw]; exact hk) (allp (by simp) zqa))) ?_
 rintro _ rfl
 rw [hw]
 exact OpsR.callN (ops := zql Try.f33 1) (y := (zql Try.f33 1).toList.getD 6 default) (f := 46) (x := .tmp 7) (rest := [.const (.int .i64 0), .tmp 8, .tmp 11, .tmp 12]) (us := [.int .i64 0, .int .i64 l.length, .int .i64 k, fv34]) (ats := #[26, 3, 3, 3, 76]) (l1 := [14, 0]) (ls := [26]) (r := 0) (e := 36) (cap := c) (xs := l.map Idd.enc) (ys := (insV l).map Idd.enc) (eff := ⟨[(13, .tup []), (0, iow c (insV l))], [(0, true)]⟩) (by kernel_rfl) (by kernel_rfl) (by kernel_rfl) ⟨⟨_, rfl, rfl⟩, ⟨_, rfl, rfl⟩, ⟨_, rfl, rfl⟩, ⟨_, rfl, rfl⟩, trivial⟩ (pdq_c c l k hl) (by kernel_rfl)
theorem ywi (c : Option Nat) (l : List Idd) (hl : l.length ≤ 12) : MutN Try.prog 33 (iow c l) [fv34] (iow c (insV l)) := by
 refine mutN (cx := cxN 14 1) Try.func33 rfl (by show 2 ≤ 14; omega) rfl ?_ yst ⟨rfl, rfl⟩ (.inl rfl) (env' := [(0, iow c (insV l))]) ?_ rfl
 ·intro y hy
  obtain ⟨z, hz, hyz⟩ := List.mem_flatMap.1 hy
  obtain ⟨p, _, rfl⟩ := List.mem_map.1 hz
  simp [AV.ecells, Idd.enc] at hyz
  rcases hyz with rfl | rfl <;> exact ⟨_, rfl⟩
 ·have h0 := sf0_0 c l
  rw [zla] at h0
  exact .seq (.after (kp [0, 1, 4]) h0) (sf1 c l hl)
end Tst
end

section
namespace Go.Lf
open Go Go.RowKit
section
variable {P : Program} {cx : Cx}
def MutR (P : Program) (f : FuncId) (e : TypeId) (cap : Option Nat) (xs : List AV) (us : List Value) (ys : List AV) (rng : Option (Nat × Nat × Option Nat)) : Prop :=
 (∀ (args : Array Value) (w : World), (callFunc f args).run P w = .ok (.enter f args) w) ∧
 ∀ (B0 : Nat) (w : World) (S : Nat → Prop) (v : Value) (n : Nat) (O : Own), B0 ≤ w.heap.size → (∀ b, S b → b < w.heap.size ∧ O b = 0) → (∀ b, O b ≤ 1) → Rv P B0 w S n v (.sl .own e cap xs) O →
  Calls P f (v :: us).toArray w fun en w' => ∃ v2 n' O', en = .returned v2 ∧ subOk P e rng v v2 ∧ Below B0 w w' ∧ (∀ b, b < w.heap.size → O b = 0 → w'.heap[b]? = w.heap[b]?) ∧ Rv P B0 w' S n' v (.sl .own e cap ys) O' ∧ (∀ b, O' b ≤ 1) ∧
   (∀ b, 0 < O' b → 0 < O b ∨ w.heap.size ≤ b)
theorem mutR {c : Code} {ex : Ex} {env' : Env} {f : FuncId} {fn : Func} {e : TypeId} {cap : Option Nat} {xs ys : List AV} {us : List Value} {q : Nat} {rng : Option (Nat × Nat × Option Nat)} (hf : P.funcs[f]? = some fn) (hname : (fn.name == "runtime.NumGoroutine") = false) (hlen : us.length + 1 ≤ cx.N) (hlo : cx.lo = 1)
  (hy : ∀ y ∈ flat ys, ∃ v, y = .atom v) (hb : fn.body = some c) (hN : fn.ntmps = cx.N ∧ fn.results = #[.tmp q]) (hex : ex = .normal ∨ ex = .ret) (htri : Tri P cx c ((0, .sl .own e cap xs) :: argN 1 us) ex env') (h : lk env' 0 = some (.sl .own e cap ys)) (hq : lk env' q = some (.al 0 [] rng)) : MutR P f e cap xs us ys rng := by
  ·refine ⟨?_, ?_⟩
   ·intro args w
    have hn' : ¬ (fn.name = "runtime.NumGoroutine") := by simpa using hname
    simp [callFunc, hf, hn', hb]
   ·intro B0 w S v n O hB0 hS hO1 hrv
    refine (callsIn_wide (n := 0)).1 (callsIn_of_wp_marks (F := Fi none) (n := 0) hf hb trivial ?_ rfl)
    have hsl : ∀ k t u, (v :: us)[t]? = some u → ((v :: us).toArray ++ Array.replicate k undef)[t]? = some u := fun k t u h => by
     have ht : t < (v :: us).length := (zlk.1 h).1
     rw [Array.getElem?_append_left (by simpa using ht)]; simpa using h
    have hsl0 : ∀ k, ((v :: us).toArray ++ Array.replicate k undef)[0]? = some v := fun k => hsl k 0 v rfl
    have hlt := Rv.owned n v _ O hrv
    have hst : St P ⟨fun b => b < w.heap.size ∧ O b = 0, 1, #[v]⟩ B0 w (n + 1) ((0, .sl .own e cap xs) :: argN 1 us) ((v :: us).toArray ++ Array.replicate (fn.ntmps - (v :: us).toArray.size) undef) w (fun b => b < w.heap.size ∧ O b = 0) (fun t => if t = 0 then O else fun _ => 0) := by
     refine ⟨Below.refl _ _, hB0, fun b hb => hb.1, ?_, ?_, ?_, ?_, ?_, ?_, fun b hb => ⟨hb, rfl⟩, ?_⟩
     ·intro b t hb
      by_cases ht : t = 0 <;> simp [ht, hb.2]
     ·intro t b
      by_cases ht : t = 0 <;> simp [ht, hO1 b]
     ·intro t t' b hne
      by_cases ht : t = 0
      ·right; rw [if_neg (by omega)]
      ·left; rw [if_neg ht]
     ·intro t x hx
      simp only [lk] at hx
      split at hx
      ·rename_i ht
       subst ht
       injection hx with hx; subst hx
       refine ⟨v, hsl0 _, .inr ?_⟩
       rw [if_pos rfl]
       exact (Rv.frame (fun b hb => hS b hb) (fun _ _ => rfl) _ _ _ _ (fun _ _ => rfl) hrv).le (Nat.le_succ n)
      ·obtain ⟨u, rfl, h1, h2⟩ := ye4 us 1 t x hx
       refine ⟨u, hsl _ t u ?_, .inr ?_⟩
       ·rw [show t = (t - 1) + 1 by omega]; exact h2
       ·rw [if_neg (by omega)]
        exact ⟨rfl, fun _ => rfl⟩
     ·intro t ht b
      simp only [lk] at ht
      split at ht
      ·cases ht
      ·rename_i h0; rw [if_neg (Ne.symm h0)]
     ·intro t x r hx hr
      simp only [lk] at hx
      split at hx
      ·injection hx with hx; subst hx; cases hr
      ·obtain ⟨u, rfl, _, _⟩ := ye4 us 1 t x hx
       cases hr
     ·intro t ht
      have : t = 0 := by have ht' : t < 1 := ht; omega
      subst this
      exact hsl0 _
    have hag : Agree P ⟨fun b => b < w.heap.size ∧ O b = 0, 1, #[v]⟩ B0 w (fun b => b < w.heap.size ∧ O b = 0) cx [] ((0, .sl .own e cap xs) :: argN 1 us) { tmps := (v :: us).toArray ++ Array.replicate (fn.ntmps - (v :: us).toArray.size) undef, defers := [] } w := by
     refine ⟨rfl, ⟨?_, hlo.symm⟩, n + 1, _, _, Nat.succ_pos n, .refl _ _, hst⟩
     have := hN.1
     simp; omega
    ·have fin : ∀ (a' : Act) w' n1 S1 Os1, Grow B0 (fun b => b < w.heap.size ∧ O b = 0) S1 → St P ⟨fun b => b < w.heap.size ∧ O b = 0, 1, #[v]⟩ B0 w n1 env' a'.tmps w' S1 Os1 → ∃ rv, (results fn a'.tmps).run P w' = .ok rv w' ∧
       ∃ v2 n' O', Ending.returned rv = .returned v2 ∧ subOk P e rng v v2 ∧ Below B0 w w' ∧ (∀ b, b < w.heap.size → O b = 0 → w'.heap[b]? = w.heap[b]?) ∧ Rv P B0 w' S n' v (.sl .own e cap ys) O' ∧ (∀ b, O' b ≤ 1) ∧
        (∀ b, 0 < O' b → 0 < O b ∨ w.heap.size ≤ b) := by
      intro a' w' n1 S1 Os1 hgr hst1
      obtain ⟨v1, hv1, hs1⟩ := hst1.rel 0 _ h
      have hpin := hst1.pin 0 (by show 0 < 1; omega)
      rw [hv1] at hpin
      simp at hpin
      subst hpin
      obtain ⟨v2, hv2, hs2⟩ := hst1.rel q _ hq
      have hsub : subOk P e rng v1 v2 := by
       rcases hs2 with ⟨_, hal, _⟩ | hr
       ·obtain ⟨vr, u, e1, e2, e3⟩ := hal _ h .own e cap ys rfl (.inl rfl)
        rw [hv1] at e1
        injection e1 with e1; subst e1
        have e4 : v1 = u := by simpa [LV] using e2
        subst e4
        exact e3
       ·cases n1 with
        | zero => exact hr.elim
        | succ n1 => exact hr.elim
      refine ⟨v2, ?_, v2, ?_⟩
      ·have e3 : (ybq a'.tmps (.tmp q)).run P w' = .ok v2 w' := by simp [ybq, zll, hv2]
       have e2 : (fn.results.mapM (ybq a'.tmps)).run P w' = .ok #[v2] w' := by
        rw [hN.2, Array.mapM_eq_mapM_toList, Sem.run_map]
        simp [Result.andThen, e3]
       have e4 : results fn a'.tmps = (do let vs ← fn.results.mapM (ybq a'.tmps); pure (if h : vs.size = 1 then vs[0] else .tuple vs)) := by
        unfold results
        congr 1
       rw [e4, Sem.run_bind, e2]
       simp
      ·have hr1 := hs1.rv rfl
       obtain ⟨m, rfl⟩ := hr1.pos
       obtain ⟨vs, O2, ho, hcap, hu, hrc, hOO⟩ := hr1
       refine ⟨m + 1, Os1 0, rfl, hsub, hst1.below, fun b hb h0 => (hst1.keep b ⟨hb, h0⟩).2, ⟨vs, O2, ho, hcap, hu, ?_, hOO⟩, hst1.one 0, ?_⟩
       ·refine hrc.mono' ?_
        intro u x O3 hx hr
        obtain ⟨q, rfl⟩ := hy x hx
        obtain ⟨k, rfl⟩ := hr.pos
        exact hr
       ·intro b hb
        rcases Nat.lt_or_ge b w.heap.size with h2 | h2
        ·left
         rcases zlt (O b) with h3 | h3
         ·have := hst1.excl b 0 (hgr.1 b ⟨h2, h3⟩); omega
         ·exact h3
        ·exact .inr h2
     refine htri none (fun _ => rfl) _ _ _ _ _ _ _ _ hag fun a' w' ⟨Ds, n1, S1, Os1, hnd, hD, hd, _, hn1, hgr, hst1⟩ => ?_
     have out : LeavesInM (Fi none) 0 P fn a'.tmps (fun e1 w' => ∃ v2 n' O', e1 = .returned v2 ∧ subOk P e rng v v2 ∧ Below B0 w w' ∧ (∀ b, b < w.heap.size → O b = 0 → w'.heap[b]? = w.heap[b]?) ∧ Rv P B0 w' S n' v (.sl .own e cap ys) O' ∧ (∀ b, O' b ≤ 1) ∧
        (∀ b, 0 < O' b → 0 < O b ∨ w.heap.size ≤ b)) a'.defers .returning w' := by
      rw [hd]
      refine ydc Ds hnd (fun D h => (hD D h).2.2) fun w2 h1 h2 h3 h4 h5 => ?_
      exact fin a' w2 n1 S1 Os1 hgr (hst1.other ⟨h1, h2, h3, by omega, fun k hk => h5 k fun hm => by have := (hD k hm).1; omega⟩ (fun b hb => h5 b fun hm => by have := (hD b hm).1; have := hb.1; omega) fun b o hg hd => h5 b fun hm => by rw [(hD b hm).2.2] at hg; injection hg with hg; subst hg; cases hd)
     cases ex with
     | normal => exact out
     | ret => exact out
     | exit id => rcases hex with h | h <;> cases h
theorem Rv.prefix {B0 : Nat} {w : World} {S : Nat → Prop} {n : Nat} {v v2 : Value} {e : TypeId} {cap : Option Nat} {ys : List AV} {O : Own} {k : Nat} (h : Rv P B0 w S n v (.sl .own e cap ys) O) (hy : ∀ y ∈ flat ys, ∃ v, y = .atom v) (hk : k ≤ ys.length) (hs : subOk P e (some (0, k, none)) v v2) : Rv P B0 w S n v2 (.sl .own e none (ys.take k)) O := by
 obtain ⟨n, rfl⟩ := h.pos
 obtain ⟨vs, O2, ho, hcap, hu, hrc, hOO⟩ := h
 obtain ⟨A, l, kk, A', c, rfl, rfl, h1, h2, h3, h4, h5, h6⟩ := hs
 have hA := h6 rfl
 subst hA
 have hc : c = kk := by simpa using h4
 subst hc
 have hz : Zero O2 := hrc.zero fun _ x _ hx hr => by
  obtain ⟨q, rfl⟩ := hy x hx
  obtain ⟨m, rfl⟩ := hr.pos
  exact hr.2
 have hfl := (ycu hu k).1
 have e1 : flat ys = (flat ys).take (k * P.cellsOf e) ++ (flat ys).drop (k * P.cellsOf e) := (List.take_append_drop _ _).symm
 have hmul : k * P.cellsOf e ≤ ys.length * P.cellsOf e := Nat.mul_le_mul_right _ hk
 have hl : ((flat ys).take (k * P.cellsOf e)).length = k * P.cellsOf e := by rw [zlh, zqn hu]; omega
 rw [e1] at hrc
 obtain ⟨P1, P2, r1, _, hP⟩ := hrc.split
 rw [hl] at r1
 have hvl : vs.length = ys.length * P.cellsOf e := ho.1
 have htk : (ys.take k).length = k := by rw [zlh]; omega
 refine ⟨vs.take (k * P.cellsOf e), P1, ⟨by rw [zlh, htk, hvl]; omega, ?_⟩, trivial, hu.take _, by rw [hfl]; exact r1, fun b => ?_⟩
 ·rcases ho.2 with ⟨hv, hn0⟩ | ⟨g, k3, cur, hv, hb, hg, q1, q2, q3, q4⟩
  ·injection hv with hv1 hv2 hv3
   subst hv1 hv2 hv3
   refine .inl ⟨by rw [show k = 0 by omega], by rw [htk]; omega⟩
  ·injection hv with hv1 hv2 hv3
   subst hv1 hv2 hv3
   refine .inr ⟨g, c, cur, by rw [htk], hb, hg, by rw [htk]; omega, q2, q3, ?_⟩
   rw [htk, ← q4, List.take_take, Nat.min_eq_left hmul]
 ·have := hz b; have := hP b; have := hOO b
  have e : ∀ l1 l2 : Nat, (Value.slice A' l1 c).ownBlock = (Value.slice A' l2 c).ownBlock := fun l1 l2 => by cases A' <;> rfl
  rw [e k l]
  omega
theorem Rv.clip {B0 : Nat} {w : World} {S S' : Nat → Prop} {n : Nat} {v v2 : Value} {e : TypeId} {cap : Option Nat} {ys : List AV} {O : Own} (h : Rv P B0 w S n v (.sl .own e cap ys) O) (hy : ∀ y ∈ flat ys, ∃ v, y = .atom v) (hs : subOk P e (some (0, ys.length, some ys.length)) v v2) (hS : ∀ b, 0 < O b → S' b) : Rv P B0 w S' n v2 (.sl .fresh e (some ys.length) ys) (fun _ => 0) := by
 obtain ⟨n, rfl⟩ := h.pos
 obtain ⟨vs, O2, ho, hcap, hu, hrc, hOO⟩ := h
 obtain ⟨A, l, kk, A', c, rfl, rfl, h1, h2, h3, h4, h5, h6⟩ := hs
 have hA := h6 rfl
 subst hA
 have hc : c = ys.length := by simpa using h4
 subst hc
 have hz : Zero O2 := hrc.zero fun _ x _ hx hr => by
  obtain ⟨q, rfl⟩ := hy x hx
  obtain ⟨m, rfl⟩ := hr.pos
  exact hr.2
 rcases ho.2 with ⟨hv, hn0⟩ | ⟨g, k3, cur, hv, hb, hg, q1, q2, q3, q4⟩
 ·injection hv with hv1 hv2 hv3
  subst hv1 hv2 hv3
  exact ⟨none, ys.length, rfl, zly _, by omega, rfl, hu, fun _ => rfl, fun hne => absurd (zli hn0) hne⟩
 ·injection hv with hv1 hv2 hv3
  subst hv1 hv2 hv3
  refine ⟨some ⟨g, 0, none⟩, ys.length, rfl, zly _, by omega, rfl, hu, fun _ => rfl, fun hne => ⟨g, 0, cur, e, (0, 0), rfl, hS g ?_, fun _ => hb, hg, ?_, ?_⟩⟩
  ·have := hOO g
   simp [ind, Value.ownBlock] at this
   omega
  ·have := Nat.mul_le_mul_right (P.cellsOf e) q1
   rw [zqn hu]; omega
  ·rw [List.drop_zero, zqn hu, q4]
   refine (hrc.cast fun b => (hz b).symm).mono' ?_
   intro u x O3 hx hr
   obtain ⟨q, rfl⟩ := hy x hx
   obtain ⟨m, rfl⟩ := hr.pos
   exact hr
end
end Go.Lf
end
