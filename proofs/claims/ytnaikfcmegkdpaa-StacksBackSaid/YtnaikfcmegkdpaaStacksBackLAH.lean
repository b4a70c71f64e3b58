/- Part 8 of the evaluator and of the contracts that the claim uses. -/
import Derived.Test.YtnaikfcmegkdpaaStacksBackLAA
import Derived.Test.YtnaikfcmegkdpaaStacksBackLAB
import Derived.Test.YtnaikfcmegkdpaaStacksBackLAC
import Derived.Test.YtnaikfcmegkdpaaStacksBackLAD
import Derived.Test.YtnaikfcmegkdpaaStacksBackLAE
import Derived.Test.YtnaikfcmegkdpaaStacksBackLAF
import Derived.Test.YtnaikfcmegkdpaaStacksBackLAG
set_option linter.unusedVariables false
set_option linter.unusedSimpArgs false
set_option linter.constructorNameAsVariable false

section
open Go Go.Lf Go.Proofs
namespace Tst
theorem getM_seen (s : List Idd) (p : Idd) : getM (s.map fun p => (p, Value.bool true)) p (.bool false) = .bool (decide (p ∈ s)) := by
  induction s with
  | nil => simp [getM]
  | cons q s ih =>
    rw [List.map_cons, getM]
    by_cases h : p = q
    · simp [h]
    · rw [if_neg h, ih]; simp [h]
theorem setM_seen (s : List Idd) (p : Idd) (h : p ∉ s) : setM (s.map fun p => (p, Value.bool true)) p (.bool true) = (s ++ [p]).map fun p => (p, Value.bool true) := by
  rw [setM_none fun q hq e => by
    obtain ⟨r, hr, rfl⟩ := List.mem_map.1 hq
    exact h (e ▸ hr)]
  simp
noncomputable abbrev eT (g : Nat) (s : List Idd) (c : Option Nat) (l : List Idd) (m i : Int) : Env := [(0, mpS g s), (2, .box [bb false]), (3, .box [rfM g]), (5, isl c l), (13, isl c l), (14, it m), (15, it i)]
noncomputable abbrev eK (g : Nat) (s : List Idd) (c : Option Nat) (l : List Idd) (m i : Int) (p : Idd) : Env := [(0, mpS g s), (2, .box [bb false]), (3, .box [rfM g]), (5, isl c l), (7, .box [ub p.y, it p.n]), (13, isl c l), (14, it m), (15, it i)]
theorem tw7 (g : Nat) (s : List Idd) (c : Option Nat) (l : List Idd) (m i : Int) (p : Idd) : Tri Try.prog (cxN 25 5) (.region 7 (opsAt Try.f55 7) false) (eK g s c l m i p) .normal ((21, bb (decide (p ∈ s))) :: (20, .agg [ub p.y, it p.n]) :: (19, rfM g) :: eK g s c l m i p) := by
  refine Tri.ofR (.region (R := (· = (21, bb (decide (p ∈ s))) :: (20, .agg [ub p.y, it p.n]) :: (19, rfM g) :: eK g s c l m i p)) ?_) fun e h => h
  rw [show (opsAt Try.f55 7).toList = (opsAt Try.f55 7).toList.take 2 ++ [(opsAt Try.f55 7).toList.getD 2 default] by kernel_rfl]
  refine .seq (OpsR.ev (base 25 5) cxA_K.1 cxA_K.2 (ans := [.c, .c]) (ps := []) (env' := (20, .agg [ub p.y, it p.n]) :: (19, rfM g) :: eK g s c l m i p) (by kernel_rfl) allp_nil) ?_
  rintro _ rfl
  have h := OpsR.lookup (P := Try.prog) (cx := cxN 25 5) (ops := opsAt Try.f55 7) mapT112 (y := (opsAt Try.f55 7).toList.getD 2 default) (tx := 19) (tk := 20) (r := 0) (g := g) (env := (20, .agg [ub p.y, it p.n]) :: (19, rfM g) :: eK g s c l m i p) (l := s.map fun p => (p, Value.bool true)) (x := p) (ls := [42]) (eff := ⟨[(21, .atom (getM (s.map fun p => (p, Value.bool true)) p mapT112.z))], []⟩) (by kernel_rfl) (by kernel_rfl) rfl rfl rfl rfl (by kernel_rfl)
  have e : applyEff ⟨[(21, .atom (getM (s.map fun p => (p, Value.bool true)) p mapT112.z))], []⟩ ((20, AV.agg [ub p.y, it p.n]) :: (19, rfM g) :: eK g s c l m i p) = (21, bb (decide (p ∈ s))) :: (20, .agg [ub p.y, it p.n]) :: (19, rfM g) :: eK g s c l m i p := by
    show (21, AV.atom (getM (s.map fun p => (p, Value.bool true)) p (.bool false))) :: _ = _
    rw [getM_seen]; rfl
  rw [e] at h
  exact h
theorem tw9 (g : Nat) (s : List Idd) (c : Option Nat) (l : List Idd) (m i : Int) (p : Idd) (hp : p ∉ s) : Tri Try.prog (cxN 25 5) (.region 9 (opsAt Try.f55 9) false) (eK g s c l m i p) .normal ((0, mpS g (s ++ [p])) :: (23, .agg [ub p.y, it p.n]) :: (22, rfM g) :: eK g s c l m i p) := by
  refine Tri.ofR (.region (R := (· = (0, mpS g (s ++ [p])) :: (23, .agg [ub p.y, it p.n]) :: (22, rfM g) :: eK g s c l m i p)) ?_) fun e h => h
  rw [show (opsAt Try.f55 9).toList = (opsAt Try.f55 9).toList.take 2 ++ [(opsAt Try.f55 9).toList.getD 2 default] by kernel_rfl]
  refine .seq (OpsR.ev (base 25 5) cxA_K.1 cxA_K.2 (ans := [.c, .c]) (ps := []) (env' := (23, .agg [ub p.y, it p.n]) :: (22, rfM g) :: eK g s c l m i p) (by kernel_rfl) allp_nil) ?_
  rintro _ rfl
  have h := OpsR.update (P := Try.prog) (cx := cxN 25 5) (ops := opsAt Try.f55 9) mapT112 (y := (opsAt Try.f55 9).toList.getD 2 default) (tx := 22) (tk := 23) (r := 0) (g := g) (vo := .const (.bool true)) (env := (23, .agg [ub p.y, it p.n]) :: (22, rfM g) :: eK g s c l m i p) (l := s.map fun p => (p, Value.bool true)) (x := p) (u := .bool true) (by kernel_rfl) (by kernel_rfl) (by kernel_rfl) rfl rfl rfl rfl (.inl rfl)
  rw [setM_seen s p hp] at h
  exact h
theorem twl_code : loopBody Try.f55 0 = .seq (regAt Try.f55 5) (.seq (.cond (.tmp 16) .skip (.exit 2)) (.seq (.block 3 (.seq (regAt Try.f55 6) (.seq (.seq (.region 7 (opsAt Try.f55 7) false) (.cond (.tmp 21) (.seq (regAt Try.f55 8) .ret) .skip)) (.region 9 (opsAt Try.f55 9) false)))) (regAt Try.f55 10))) := by kernel_rfl
theorem twb_code : rfBody Try.f55 0 = .block 1 (.seq (regAt Try.f55 4) (.block 2 (.loop (loopBody Try.f55 0)))) := by kernel_rfl
theorem tw_end (g : Nat) (s : List Idd) (c : Option Nat) (l : List Idd) (i : Nat) (hi : i = l.length) : Tri Try.prog (cxN 25 5) (loopBody Try.f55 0) (eT g s c l ((l.map Idd.enc).length : Nat) i) (.exit 2) [(0, mpS g s), (2, .box [bb false]), (3, .box [rfM g])] := by
  rw [twl_code]
  have h := tw5_0 g s c l ((l.map Idd.enc).length : Nat) i
  rw [show decide ((i : Int) < ((l.map Idd.enc).length : Nat)) = false by rw [decide_eq_false (by simp; omega)]] at h
  exact .seq (.after [(0, .keep), (2, .keep), (3, .keep), (16, .keep)] h) (.seqX (.cond (b := false) rfl (.after [(0, .keep), (2, .keep), (3, .keep)] .exit)) (by simp))
theorem g1_id {l : List Idd} {i : Nat} (h : i < l.length) : List.getD (List.map Idd.enc l) (Int.toNat i) AV.bad = Idd.enc (List.getD l (Int.toNat i) default) := by
  simp only [List.getD_eq_getElem?_getD, List.getElem?_map]
  rw [List.getElem?_eq_getElem (by simpa using h)]; rfl
theorem tw_step (g : Nat) (s : List Idd) (c : Option Nat) (l : List Idd) (i : Nat) (hi : i < l.length) (hA : l.length < 2 ^ 62) (hn : l.getD i default ∉ s) : Tri Try.prog (cxN 25 5) (loopBody Try.f55 0) (eT g s c l ((l.map Idd.enc).length : Nat) i) .normal (eT g (s ++ [l.getD i default]) c l ((l.map Idd.enc).length : Nat) ((i + 1 : Nat) : Int)) := by
  rw [twl_code]
  have h := tw5_0 g s c l ((l.map Idd.enc).length : Nat) i
  rw [show decide ((i : Int) < ((l.map Idd.enc).length : Nat)) = true by rw [decide_eq_true (by simp; omega)]] at h
  have hw : IntKind.i64.wrap ((i : Int) + 1) = ((i + 1 : Nat) : Int) := by rw [wrap_id' (by omega) (by omega)]; omega
  have h10 := tw10_0 g (s ++ [l.getD i default]) c l ((l.map Idd.enc).length : Nat) i
  rw [hw] at h10
  refine .seq h (.seq (.cond (b := true) rfl .skip) (.seq (env1 := (0, mpS g (s ++ [l.getD i default])) :: (23, .agg [ub (l.getD i default).y, it (l.getD i default).n]) :: (22, rfM g) :: eK g s c l ((l.map Idd.enc).length : Nat) i (l.getD i default)) (.block (ex := .normal) ?_ (.inr ⟨by simp, rfl⟩)) (.weak [(0, .keep), (2, .keep), (3, .keep), (5, .keep), (13, .keep), (14, .keep), (15, .keep)] ?_)))
  rotate_left
  · exact h10
  refine .weak [(0, .keep), (2, .keep), (3, .keep), (5, .keep), (13, .keep), (14, .keep), (15, .keep)] (.seq (tw6_0 g s c l ((l.map Idd.enc).length : Nat) i (by simp; omega) (g1_id hi)) (.seq (.seq (tw7 g s c l ((l.map Idd.enc).length : Nat) i (l.getD i default)) (.cond (b := false) ?_ (.after [(0, .keep), (2, .keep), (3, .keep), (5, .keep), (7, .keep), (13, .keep), (14, .keep), (15, .keep)] .skip))) (tw9 g s c l ((l.map Idd.enc).length : Nat) i (l.getD i default) hn)))
  show some (bb (decide (l.getD i default ∈ s))) = _
  rw [decide_eq_false hn]
theorem tw_hit (g : Nat) (s : List Idd) (c : Option Nat) (l : List Idd) (i : Nat) (hi : i < l.length) (hn : l.getD i default ∈ s) : Tri Try.prog (cxN 25 5) (loopBody Try.f55 0) (eT g s c l ((l.map Idd.enc).length : Nat) i) .ret [(2, .box [bb true])] := by
  rw [twl_code]
  have h := tw5_0 g s c l ((l.map Idd.enc).length : Nat) i
  rw [show decide ((i : Int) < ((l.map Idd.enc).length : Nat)) = true by rw [decide_eq_true (by simp; omega)]] at h
  refine .seq h (.seq (.cond (b := true) rfl .skip) (.seqX (.block (ex := .ret) ?_ (.inr ⟨by simp, rfl⟩)) (by simp)))
  refine .weak [(0, .keep), (2, .keep), (3, .keep), (5, .keep), (13, .keep), (14, .keep), (15, .keep)] (.seq (tw6_0 g s c l ((l.map Idd.enc).length : Nat) i (by simp; omega) (g1_id hi)) (.seqX (.seq (tw7 g s c l ((l.map Idd.enc).length : Nat) i (l.getD i default)) (.cond (b := true) ?_ ?_)) (by simp)))
  · show some (bb (decide (l.getD i default ∈ s))) = _
    rw [decide_eq_true hn]
  · exact .seq (.weak [(0, .keep), (2, .keep)] (.after [(2, .keep)] (tw8_0 g s))) .ret
theorem tw_all (g : Nat) (c : Option Nat) (l : List Idd) (hA : l.length < 2 ^ 62) : ∀ (k i : Nat) (s : List Idd), i + k = l.length → (s ++ l.drop i).Nodup → Rnd Try.prog (cxN 25 5) (loopBody Try.f55 0) (k + 1) (eT g s c l ((l.map Idd.enc).length : Nat) i) (.exit 2) [(0, mpS g (s ++ l.drop i)), (2, .box [bb false]), (3, .box [rfM g])]
  | 0, i, s, h, _ => by
    rw [List.drop_of_length_le (by omega), List.append_nil]
    exact .exit (tw_end g s c l i (by omega)) (by simp)
  | k + 1, i, s, h, hn => by
    have hi : i < l.length := by omega
    have hd : l.drop i = l.getD i default :: l.drop (i + 1) := by rw [List.drop_eq_getElem_cons hi, List.getD_eq_getElem?_getD, List.getElem?_eq_getElem hi]; rfl
    rw [hd] at hn ⊢
    have h2 := tw_all g c l hA k (i + 1) (s ++ [l.getD i default]) (by omega) (by rw [List.append_assoc]; exact hn)
    rw [List.append_assoc] at h2
    refine .step (tw_step g s c l i hi hA fun hm => ?_) h2
    exact (List.nodup_append.1 hn).2.2 _ hm _ (by simp) rfl
theorem tw_some (g : Nat) (c : Option Nat) (l : List Idd) (hA : l.length < 2 ^ 62) : ∀ (k i : Nat) (s : List Idd), i + k = l.length → s.Nodup → ¬ (s ++ l.drop i).Nodup → Rnd Try.prog (cxN 25 5) (loopBody Try.f55 0) (k + 1) (eT g s c l ((l.map Idd.enc).length : Nat) i) .ret [(2, .box [bb true])]
  | 0, i, s, h, hs, hn => by
    rw [List.drop_of_length_le (by omega), List.append_nil] at hn
    exact absurd hs hn
  | k + 1, i, s, h, hs, hn => by
    have hi : i < l.length := by omega
    have hd : l.drop i = l.getD i default :: l.drop (i + 1) := by rw [List.drop_eq_getElem_cons hi, List.getD_eq_getElem?_getD, List.getElem?_eq_getElem hi]; rfl
    by_cases hm : l.getD i default ∈ s
    · exact .exit (tw_hit g s c l i hi hm) (by simp)
    · rw [hd] at hn
      refine .step (tw_step g s c l i hi hA hm) (tw_some g c l hA k (i + 1) (s ++ [l.getD i default]) (by omega) ?_ (by rw [List.append_assoc]; exact hn))
      refine List.nodup_append.2 ⟨hs, by simp, fun x hx y hy e => ?_⟩
      rw [List.mem_singleton] at hy
      subst hy e
      exact hm hx
theorem twb_all (g : Nat) (c : Option Nat) (l : List Idd) (hA : l.length < 2 ^ 62) (s : List Idd) (hn : (s ++ l).Nodup) : Tri Try.prog (cxN 25 5) (rfBody Try.f55 0) [(0, mpS g s), (2, .box [bb false]), (3, .box [rfM g]), (5, isl c l)] .normal [(0, mpS g (s ++ l)), (2, .box [bb false]), (3, .box [rfM g])] := by
  rw [twb_code]
  have := tw_all g c l hA l.length 0 s (by omega) (by simpa using hn)
  rw [List.drop_zero] at this
  exact .block (ex := .normal) (.seq (tw4_0 g s c l) (.block (ex := .exit 2) this.loop (.inl ⟨rfl, rfl⟩))) (.inr ⟨by simp, rfl⟩)
theorem twb_some (g : Nat) (c : Option Nat) (l : List Idd) (hA : l.length < 2 ^ 62) (s : List Idd) (hs : s.Nodup) (hn : ¬ (s ++ l).Nodup) : Tri Try.prog (cxN 25 5) (rfBody Try.f55 0) [(0, mpS g s), (2, .box [bb false]), (3, .box [rfM g]), (5, isl c l)] .ret [(2, .box [bb true])] := by
  rw [twb_code]
  have := tw_some g c l hA l.length 0 s (by omega) hs (by simpa using hn)
  exact .block (ex := .ret) (.seq (tw4_0 g s c l) (.block (ex := .ret) this.loop (.inr ⟨by simp, rfl⟩))) (.inr ⟨by simp, rfl⟩)
end Tst
end

section
open Go Go.Lf Go.Proofs
namespace Tst
def allI (l : List (Int × Int × Stk)) : List Idd := l.flatMap fun t => t.2.2.l
theorem allI_snoc (pre : List (Int × Int × Stk)) (x : Int × Int × Stk) : allI (pre ++ [x]) = allI pre ++ x.2.2.l := by simp [allI]
theorem allI_app (a b : List (Int × Int × Stk)) : allI (a ++ b) = allI a ++ allI b := by simp [allI]
theorem tw_code : rfCode Try.f55 0 = .rangeFunc (.tmp 10) #[11, 12] (rfAssign Try.f55 0) (rfBody Try.f55 0) := by kernel_rfl
noncomputable abbrev twE (g : Nat) (pre : List (Int × Int × Stk)) : Env := [(0, mpS g (allI pre)), (2, .box [bb false]), (3, .box [rfM g])]
theorem tw_round (g : Nat) (pre : List (Int × Int × Stk)) (x : Int × Int × Stk) (hA : x.2.2.l.length < 2 ^ 62) (hn : (allI (pre ++ [x])).Nodup) : ∃ E1, Tri Try.prog (cxN 25 5) (rfAssign Try.f55 0) ((#[11, 12] : Array Tmp).toList.zip (itE x) ++ twE g pre) .normal E1 ∧ Tri Try.prog (cxN 25 5) (rfBody Try.f55 0) E1 .normal (twE g (pre ++ [x])) := by
  rw [allI_snoc] at hn
  have := twb_all g x.2.2.c x.2.2.l hA (allI pre) hn
  rw [← allI_snoc] at this
  exact ⟨_, twa_0 g (allI pre) x.2.2.c x.2.2.l x.1 x.2.1, this⟩
theorem nodup_sub {a b : List Idd} (h : (a ++ b).Nodup) : a.Nodup := (List.nodup_append.1 h).1
theorem twr_no (g : Nat) (cf cb : Option Nat) (F B : List Stk) (hA : ∀ t ∈ itms F B, t.2.2.l.length < 2 ^ 62) (hn : (allI (itms F B)).Nodup) : Tri Try.prog (cxN 25 0) (rfCode Try.f55 0) [(0, mpS g []), (2, .box [bb false]), (3, .box [rfM g]), (10, .fn 69 [hbx cf F cb B])] .normal (twE g (itms F B)) := by
  rw [tw_code]
  exact Tri.rangeAll (P := Try.prog) (cx := cxN 25 0) rfl (t := 10) (ps := #[11, 12]) (c1 := rfAssign Try.f55 0) (c2 := rfBody Try.f55 0) [(0, .keep), (2, .keep), (3, .keep)] rfl (hbx_view cf cb F B) (itms F B) itE (held_i cf cb F B) 5 (by omega)
    ⟨by decide, by decide⟩ (fun x => rfl) (fun pre => twE g pre) [] rfl (fun pre => .cons (by omega) rfl (.cons (by omega) rfl (.cons (by omega) rfl .nil))) (fun pre t x h => lk_nil h) .nil
    (fun pre x post hx => tw_round g pre x (hA x (by rw [hx]; simp)) (by rw [hx, show pre ++ x :: post = (pre ++ [x]) ++ post by simp, allI_app] at hn; exact nodup_sub hn))
theorem first_dup : ∀ (l pre : List (Int × Int × Stk)), (allI pre).Nodup → ¬ (allI (pre ++ l)).Nodup → ∃ p x q, l = p ++ x :: q ∧ (allI (pre ++ p)).Nodup ∧ ¬ (allI (pre ++ p ++ [x])).Nodup
  | [], pre, h, hn => by rw [List.append_nil] at hn; exact absurd h hn
  | y :: l, pre, h, hn => by
    by_cases hy : (allI (pre ++ [y])).Nodup
    · obtain ⟨p, x, q, h1, h2, h3⟩ := first_dup l (pre ++ [y]) hy (by simpa using hn)
      exact ⟨y :: p, x, q, by rw [h1]; rfl, by simpa using h2, by simpa using h3⟩
    · exact ⟨[], y, l, rfl, by simpa using h, by simpa using hy⟩
theorem twr_yes (g : Nat) (cf cb : Option Nat) (F B : List Stk) (hA : ∀ t ∈ itms F B, t.2.2.l.length < 2 ^ 62) (hn : ¬ (allI (itms F B)).Nodup) : Tri Try.prog (cxN 25 0) (rfCode Try.f55 0) [(0, mpS g []), (2, .box [bb false]), (3, .box [rfM g]), (10, .fn 69 [hbx cf F cb B])] .ret [(2, .box [bb true])] := by
  obtain ⟨p, x, q, h1, h2, h3⟩ := first_dup (itms F B) [] (by simp [allI]) hn
  rw [List.nil_append] at h2 h3
  rw [tw_code]
  rw [allI_snoc] at h3
  exact Tri.rangeStop (P := Try.prog) (cx := cxN 25 0) rfl (t := 10) (ps := #[11, 12]) (c1 := rfAssign Try.f55 0) (c2 := rfBody Try.f55 0) [(0, .keep), (2, .keep), (3, .keep)] rfl (hbx_view cf cb F B) (itms F B) itE (held_i cf cb F B) 5 (by omega)
    ⟨by decide, by decide⟩ (fun x => rfl) (fun pre => twE g pre) [] rfl (fun pre => .cons (by omega) rfl (.cons (by omega) rfl (.cons (by omega) rfl .nil))) (fun pre t x h => lk_nil h) .nil p x q h1
    (fun pre y post hy => tw_round g pre y (hA y (by rw [h1, hy]; simp)) (by rw [hy, show pre ++ y :: post = (pre ++ [y]) ++ post by simp, allI_app] at h2; exact nodup_sub h2)) (by simp) (.cons (by omega) rfl .nil)
    ⟨_, twa_0 g (allI p) x.2.2.c x.2.2.l x.1 x.2.1, twb_some g x.2.2.c x.2.2.l (hA x (by rw [h1]; simp)) (allI p) h2 h3⟩
theorem twice_code : Try.f55.body = some (.seq (regAt Try.f55 0) (.seq (.region 1 (opsAt Try.f55 1) false) (.seq (.seq (regAt Try.f55 2) (.block 0 (rfCode Try.f55 0))) (.seq (regAt Try.f55 11) .ret)))) := by kernel_rfl
theorem tw1 (cf cb : Option Nat) (F B : List Stk) : TriR Try.prog (cxN 25 0) (.region 1 (opsAt Try.f55 1) false) [(1, .box [bsl cf F, bsl cb B]), (2, .box [bb false])] .normal fun e => ∃ g, e = (3, .box [rfM g]) :: (3, .box [.atom (.map none)]) :: (8, rfM g) :: (0, mpS g []) :: [(1, .box [bsl cf F, bsl cb B]), (2, .box [bb false])] := by
  refine .region ?_
  rw [show (opsAt Try.f55 1).toList = [(opsAt Try.f55 1).toList.getD 0 default] ++ (opsAt Try.f55 1).toList.drop 1 by kernel_rfl]
  refine .seq (OpsR.make (t := 112) (d := 8) (r := 0) (by kernel_rfl) (by kernel_rfl) (by kernel_rfl) (by decide) (by decide) rfl rfl) ?_
  rintro _ ⟨g, rfl⟩
  intro ρ F1 B0 w0 S0 ds a w Q rest hag hQ
  exact OpsR.ev (base 25 0) cxA_K.1 cxA_K.2 (ops := opsAt Try.f55 1) (os := (opsAt Try.f55 1).toList.drop 1) (env := (8, rfM g) :: (0, .mp g []) :: [(1, .box [bsl cf F, bsl cb B]), (2, .box [bb false])]) (ans := [.c, .c, .c, .c, .c, .c, .c, .c]) (ps := []) (env' := (3, .box [rfM g]) :: (3, .box [.atom (.map none)]) :: (8, rfM g) :: (0, .mp g []) :: [(1, .box [bsl cf F, bsl cb B]), (2, .box [bb false])]) (by kernel_rfl) allp_nil ρ F1 B0 w0 S0 ds a w Q rest hag fun e he a' w' ha => hQ e ⟨g, he⟩ a' w' ha
theorem twice_no (cf cb : Option Nat) (F B : List Stk) (hA : ∀ t ∈ itms F B, t.2.2.l.length < 2 ^ 62) (hn : (allI (itms F B)).Nodup) : PureC Try.prog 55 [beds (bsl cf F) (bsl cb B)] (bb false) := by
  refine pureT ((base 25 0).ok cxA_K.1 cxA_K.2) Try.func55 rfl (by show 1 ≤ 25; omega) rfl twice_code rfl (ex := .ret) (env' := [(2, .box [bb false])]) ?_ (by kernel_rfl)
  refine .seq (tw0_0 cf cb F B) (.seqR (tw1 cf cb F B) ?_)
  rintro _ ⟨g, rfl⟩
  refine .weak [(0, .keep), (1, .keep), (2, .keep), (3, .keep)] (.seq (.seq (tw2_0 g cf cb F B) (.block (ex := .normal) (twr_no g cf cb F B hA hn) (.inr ⟨by simp, rfl⟩))) (.weak [(2, .keep)] (.seq (tw11_0 .bad) .ret)))
theorem twice_yes (cf cb : Option Nat) (F B : List Stk) (hA : ∀ t ∈ itms F B, t.2.2.l.length < 2 ^ 62) (hn : ¬ (allI (itms F B)).Nodup) : PureC Try.prog 55 [beds (bsl cf F) (bsl cb B)] (bb true) := by
  refine pureT ((base 25 0).ok cxA_K.1 cxA_K.2) Try.func55 rfl (by show 1 ≤ 25; omega) rfl twice_code rfl (ex := .ret) (env' := [(2, .box [bb true])]) ?_ (by kernel_rfl)
  refine .seq (tw0_0 cf cb F B) (.seqR (tw1 cf cb F B) ?_)
  rintro _ ⟨g, rfl⟩
  refine .weak [(0, .keep), (1, .keep), (2, .keep), (3, .keep)] (.seqX (.seq (tw2_0 g cf cb F B) (.block (ex := .ret) (twr_yes g cf cb F B hA hn) (.inr ⟨by simp, rfl⟩))) (by simp))
theorem twice_c (cf cb : Option Nat) (F B : List Stk) (hA : ∀ t ∈ itms F B, t.2.2.l.length < 2 ^ 62) : PureC Try.prog 55 [beds (bsl cf F) (bsl cb B)] (bb (!decide (allI (itms F B)).Nodup)) := by
  by_cases hn : (allI (itms F B)).Nodup
  · rw [decide_eq_true hn]; exact twice_no cf cb F B hA hn
  · rw [decide_eq_false hn]; exact twice_yes cf cb F B hA hn
end Tst
end

section
open Go Go.Lf Go.Proofs
namespace Tst
set_option maxHeartbeats 0
theorem wtA_0 (c : Option Nat) (tb : List (List Idd)) (l : List Idd) (d i : Int) (ys : List AV) (hd : d = 0 ∨ d = 1) (g0 : decide ((0 : Int) ≤ d ∧ d < (↑(2 : Nat) : Int) ∧ (0 : Nat) < (40 : Nat)) = true) (g1 : decide ((0 : Int) ≤ IntKind.wrap IntKind.i64 (i - (1 : Int)) ∧ IntKind.wrap IntKind.i64 (i - (1 : Int)) < (↑(40 : Nat) : Int) ∧ (0 : Nat) < (1 : Nat)) = true) (g2 : decide ((0 : Nat) = (0 : Nat) ∧ Int.toNat d * (40 : Nat) + Int.toNat (IntKind.wrap IntKind.i64 (i - (1 : Int))) * (1 : Nat) < List.length (List.map SH tb)) = true) (g3 : List.getD (List.map SH tb) (Int.toNat d * (40 : Nat) + Int.toNat (IntKind.wrap IntKind.i64 (i - (1 : Int))) * (1 : Nat)) AV.bad = SH (List.getD tb (Int.toNat d * (40 : Nat) + Int.toNat (IntKind.wrap IntKind.i64 (i - (1 : Int))) * (1 : Nat)) default)) (g4 : List.all (List.take (Int.toNat d * (40 : Nat) + Int.toNat (IntKind.wrap IntKind.i64 (i - (1 : Int))) * (1 : Nat)) (List.map SH tb) ++ [AV.sl Mode.any (30 : TypeId) none (List.map Idd.enc l)] ++ List.drop (Int.toNat d * (40 : Nat) + Int.toNat (IntKind.wrap IntKind.i64 (i - (1 : Int))) * (1 : Nat) + (1 : Nat)) (List.map SH tb)) flatC = true) : Tri Try.prog (cxN 37 0) (codeAt Try.f63 6) ([(2, .sl .any 30 none (l.map Idd.enc)), (4, .box [ub d, it i]), (6, .box ys), (7, .box (tb.map SH))] ) (Ex.normal) ([(nat_lit 6, AV.box ys), (nat_lit 7, AV.box (List.take (Int.toNat d * (40 : Nat) + Int.toNat (IntKind.wrap IntKind.i64 (i - (1 : Int))) * (1 : Nat)) (List.map SH tb) ++ [AV.sl Mode.any (30 : TypeId) none (List.map Idd.enc l)] ++ List.drop (Int.toNat d * (40 : Nat) + Int.toNat (IntKind.wrap IntKind.i64 (i - (1 : Int))) * (1 : Nat) + (1 : Nat)) (List.map SH tb)))]) :=
  evA_ok (H := h63) (ans := [Ans.c, Ans.c, Ans.c, Ans.c, Ans.c, Ans.c, Ans.c, Ans.c, Ans.c, Ans.c, Ans.b true, Ans.c, Ans.b true, Ans.c, Ans.b true, Ans.r (SH (List.getD tb (Int.toNat d * (40 : Nat) + Int.toNat (IntKind.wrap IntKind.i64 (i - (1 : Int))) * (1 : Nat)) default)), Ans.c, Ans.b true]) (ps := [decide ((0 : Int) ≤ d ∧ d < (↑(2 : Nat) : Int) ∧ (0 : Nat) < (40 : Nat)) = true, decide ((0 : Int) ≤ IntKind.wrap IntKind.i64 (i - (1 : Int)) ∧ IntKind.wrap IntKind.i64 (i - (1 : Int)) < (↑(40 : Nat) : Int) ∧ (0 : Nat) < (1 : Nat)) = true, decide ((0 : Nat) = (0 : Nat) ∧ Int.toNat d * (40 : Nat) + Int.toNat (IntKind.wrap IntKind.i64 (i - (1 : Int))) * (1 : Nat) < List.length (List.map SH tb)) = true, List.getD (List.map SH tb) (Int.toNat d * (40 : Nat) + Int.toNat (IntKind.wrap IntKind.i64 (i - (1 : Int))) * (1 : Nat)) AV.bad = SH (List.getD tb (Int.toNat d * (40 : Nat) + Int.toNat (IntKind.wrap IntKind.i64 (i - (1 : Int))) * (1 : Nat)) default), List.all (List.take (Int.toNat d * (40 : Nat) + Int.toNat (IntKind.wrap IntKind.i64 (i - (1 : Int))) * (1 : Nat)) (List.map SH tb) ++ [AV.sl Mode.any (30 : TypeId) none (List.map Idd.enc l)] ++ List.drop (Int.toNat d * (40 : Nat) + Int.toNat (IntKind.wrap IntKind.i64 (i - (1 : Int))) * (1 : Nat) + (1 : Nat)) (List.map SH tb)) flatC = true]) (ans' := []) (base 37 0) cxA_K.1 cxA_K.2 _ (by kernel_rfl)  (allp g0 (allp g1 (allp g2 (allp g3 (allp g4 allp_nil)))))
theorem wtA_1 (c : Option Nat) (tb : List (List Idd)) (l : List Idd) (d i : Int) (ys : List AV) (hd : d = 0 ∨ d = 1) (g0 : decide ((0 : Int) ≤ d ∧ d < (↑(2 : Nat) : Int) ∧ (0 : Nat) < (40 : Nat)) = true) (g1 : decide ((0 : Int) ≤ IntKind.wrap IntKind.i64 (i - (1 : Int)) ∧ IntKind.wrap IntKind.i64 (i - (1 : Int)) < (↑(40 : Nat) : Int) ∧ (0 : Nat) < (1 : Nat)) = true) (g2 : decide ((0 : Nat) = (0 : Nat) ∧ Int.toNat d * (40 : Nat) + Int.toNat (IntKind.wrap IntKind.i64 (i - (1 : Int))) * (1 : Nat) < List.length (List.map SH tb)) = true) (g3 : List.getD (List.map SH tb) (Int.toNat d * (40 : Nat) + Int.toNat (IntKind.wrap IntKind.i64 (i - (1 : Int))) * (1 : Nat)) AV.bad = SH (List.getD tb (Int.toNat d * (40 : Nat) + Int.toNat (IntKind.wrap IntKind.i64 (i - (1 : Int))) * (1 : Nat)) default)) (g4 : List.all (List.take (Int.toNat d * (40 : Nat) + Int.toNat (IntKind.wrap IntKind.i64 (i - (1 : Int))) * (1 : Nat)) (List.map SH tb) ++ [AV.sl Mode.any (30 : TypeId) none (List.map Idd.enc l)] ++ List.drop (Int.toNat d * (40 : Nat) + Int.toNat (IntKind.wrap IntKind.i64 (i - (1 : Int))) * (1 : Nat) + (1 : Nat)) (List.map SH tb)) flatC = false) : Tri Try.prog (cxN 37 0) (codeAt Try.f63 6) ([(2, .sl .any 30 none (l.map Idd.enc)), (4, .box [ub d, it i]), (6, .box ys), (7, .box (tb.map SH))] ) (Ex.normal) ([(nat_lit 6, AV.box ys), (nat_lit 7, AV.box (List.take (Int.toNat d * (40 : Nat) + Int.toNat (IntKind.wrap IntKind.i64 (i - (1 : Int))) * (1 : Nat)) (List.map SH tb) ++ [AV.sl Mode.any (30 : TypeId) none (List.map Idd.enc l)] ++ List.drop (Int.toNat d * (40 : Nat) + Int.toNat (IntKind.wrap IntKind.i64 (i - (1 : Int))) * (1 : Nat) + (1 : Nat)) (List.map SH tb)))]) :=
  evA_ok (H := h63) (ans := [Ans.c, Ans.c, Ans.c, Ans.c, Ans.c, Ans.c, Ans.c, Ans.c, Ans.c, Ans.c, Ans.b true, Ans.c, Ans.b true, Ans.c, Ans.b true, Ans.r (SH (List.getD tb (Int.toNat d * (40 : Nat) + Int.toNat (IntKind.wrap IntKind.i64 (i - (1 : Int))) * (1 : Nat)) default)), Ans.c, Ans.b false]) (ps := [decide ((0 : Int) ≤ d ∧ d < (↑(2 : Nat) : Int) ∧ (0 : Nat) < (40 : Nat)) = true, decide ((0 : Int) ≤ IntKind.wrap IntKind.i64 (i - (1 : Int)) ∧ IntKind.wrap IntKind.i64 (i - (1 : Int)) < (↑(40 : Nat) : Int) ∧ (0 : Nat) < (1 : Nat)) = true, decide ((0 : Nat) = (0 : Nat) ∧ Int.toNat d * (40 : Nat) + Int.toNat (IntKind.wrap IntKind.i64 (i - (1 : Int))) * (1 : Nat) < List.length (List.map SH tb)) = true, List.getD (List.map SH tb) (Int.toNat d * (40 : Nat) + Int.toNat (IntKind.wrap IntKind.i64 (i - (1 : Int))) * (1 : Nat)) AV.bad = SH (List.getD tb (Int.toNat d * (40 : Nat) + Int.toNat (IntKind.wrap IntKind.i64 (i - (1 : Int))) * (1 : Nat)) default), List.all (List.take (Int.toNat d * (40 : Nat) + Int.toNat (IntKind.wrap IntKind.i64 (i - (1 : Int))) * (1 : Nat)) (List.map SH tb) ++ [AV.sl Mode.any (30 : TypeId) none (List.map Idd.enc l)] ++ List.drop (Int.toNat d * (40 : Nat) + Int.toNat (IntKind.wrap IntKind.i64 (i - (1 : Int))) * (1 : Nat) + (1 : Nat)) (List.map SH tb)) flatC = false]) (ans' := []) (base 37 0) cxA_K.1 cxA_K.2 _ (by kernel_rfl)  (allp g0 (allp g1 (allp g2 (allp g3 (allp g4 allp_nil)))))
end Tst
end

section
open Go Go.Lf Go.Proofs
namespace Tst
set_option maxHeartbeats 0
theorem wra_0 (c : Option Nat) (tb : List (List Idd)) (l l2 : List Idd) (d i d0 i0 : Int) (ys : List AV) : Tri Try.prog (cxN 37 8) (rfAssign Try.f63 0) ([(12, ndl d i), (13, isl c l2), (2, .sl .any 30 none (l.map Idd.enc)), (4, .box [ub d0, it i0]), (6, .box ys), (7, .box (tb.map SH))] ) (Ex.normal) ([(nat_lit 2, AV.sl Mode.any (nat_lit 30) none (List.map Idd.enc l)), (nat_lit 4, AV.box [AV.atom (Value.int IntKind.u8 d0), AV.atom (Value.int IntKind.i64 i0)]), (nat_lit 6, AV.box ys), (nat_lit 7, AV.box (List.map SH tb)), (nat_lit 8, AV.box [AV.atom (Value.int IntKind.u8 d), AV.atom (Value.int IntKind.i64 i)]), (nat_lit 9, AV.sl Mode.any (nat_lit 30) c (List.map Idd.enc l2))]) :=
  evA_ok (H := h63) (ans := [.c, .c, .c]) (ps := []) (ans' := []) (base 37 8) cxA_K.1 cxA_K.2 _ (by kernel_rfl)  allp_nil
theorem wrb_0 (tb : List (List Idd)) (l l2 : List Idd) (d i d0 i0 : Int) (ys : List AV) (hd : d = 0 ∨ d = 1) (g0 : decide ((0 : Int) ≤ d ∧ d < (↑(2 : Nat) : Int) ∧ (0 : Nat) < (40 : Nat)) = true) (g1 : decide ((0 : Int) ≤ IntKind.wrap IntKind.i64 (i - (1 : Int)) ∧ IntKind.wrap IntKind.i64 (i - (1 : Int)) < (↑(40 : Nat) : Int) ∧ (0 : Nat) < (1 : Nat)) = true) (g2 : decide ((0 : Nat) = (0 : Nat) ∧ Int.toNat d * (40 : Nat) + Int.toNat (IntKind.wrap IntKind.i64 (i - (1 : Int))) * (1 : Nat) < List.length (List.map SH tb)) = true) (g3 : List.getD (List.map SH tb) (Int.toNat d * (40 : Nat) + Int.toNat (IntKind.wrap IntKind.i64 (i - (1 : Int))) * (1 : Nat)) AV.bad = SH (List.getD tb (Int.toNat d * (40 : Nat) + Int.toNat (IntKind.wrap IntKind.i64 (i - (1 : Int))) * (1 : Nat)) default)) (g4 : List.all (List.take (Int.toNat d * (40 : Nat) + Int.toNat (IntKind.wrap IntKind.i64 (i - (1 : Int))) * (1 : Nat)) (List.map SH tb) ++ [AV.sl Mode.any (30 : TypeId) none (List.map Idd.enc l2)] ++ List.drop (Int.toNat d * (40 : Nat) + Int.toNat (IntKind.wrap IntKind.i64 (i - (1 : Int))) * (1 : Nat) + (1 : Nat)) (List.map SH tb)) flatC = true) : Tri Try.prog (cxN 37 8) (rfBody Try.f63 0) ([(2, .sl .any 30 none (l.map Idd.enc)), (4, .box [ub d0, it i0]), (6, .box ys), (7, .box (tb.map SH)), (8, .box [ub d, it i]), (9, .sl .any 30 none (l2.map Idd.enc))] ) (Ex.normal) ([(nat_lit 2, AV.sl Mode.any (nat_lit 30) none (List.map Idd.enc l)), (nat_lit 4, AV.box [AV.atom (Value.int IntKind.u8 d0), AV.atom (Value.int IntKind.i64 i0)]), (nat_lit 6, AV.box ys), (nat_lit 7, AV.box (List.take (Int.toNat d * (40 : Nat) + Int.toNat (IntKind.wrap IntKind.i64 (i - (1 : Int))) * (1 : Nat)) (List.map SH tb) ++ [AV.sl Mode.any (30 : TypeId) none (List.map Idd.enc l2)] ++ List.drop (Int.toNat d * (40 : Nat) + Int.toNat (IntKind.wrap IntKind.i64 (i - (1 : Int))) * (1 : Nat) + (1 : Nat)) (List.map SH tb)))]) :=
  evA_ok (H := h63) (ans := [.c, .c, .c, .c, .c, .c, .c, .c, .c, .c, .b true, .c, .b true, .c, .b true, .r (SH (List.getD tb (Int.toNat d * (40 : Nat) + Int.toNat (IntKind.wrap IntKind.i64 (i - (1 : Int))) * (1 : Nat)) default)), .c, .b true]) (ps := [decide ((0 : Int) ≤ d ∧ d < (↑(2 : Nat) : Int) ∧ (0 : Nat) < (40 : Nat)) = true, decide ((0 : Int) ≤ IntKind.wrap IntKind.i64 (i - (1 : Int)) ∧ IntKind.wrap IntKind.i64 (i - (1 : Int)) < (↑(40 : Nat) : Int) ∧ (0 : Nat) < (1 : Nat)) = true, decide ((0 : Nat) = (0 : Nat) ∧ Int.toNat d * (40 : Nat) + Int.toNat (IntKind.wrap IntKind.i64 (i - (1 : Int))) * (1 : Nat) < List.length (List.map SH tb)) = true, List.getD (List.map SH tb) (Int.toNat d * (40 : Nat) + Int.toNat (IntKind.wrap IntKind.i64 (i - (1 : Int))) * (1 : Nat)) AV.bad = SH (List.getD tb (Int.toNat d * (40 : Nat) + Int.toNat (IntKind.wrap IntKind.i64 (i - (1 : Int))) * (1 : Nat)) default), List.all (List.take (Int.toNat d * (40 : Nat) + Int.toNat (IntKind.wrap IntKind.i64 (i - (1 : Int))) * (1 : Nat)) (List.map SH tb) ++ [AV.sl Mode.any (30 : TypeId) none (List.map Idd.enc l2)] ++ List.drop (Int.toNat d * (40 : Nat) + Int.toNat (IntKind.wrap IntKind.i64 (i - (1 : Int))) * (1 : Nat) + (1 : Nat)) (List.map SH tb)) flatC = true]) (ans' := []) (base 37 8) cxA_K.1 cxA_K.2 _ (by kernel_rfl)  (allp g0 (allp g1 (allp g2 (allp g3 (allp g4 allp_nil)))))
theorem wrb_1 (tb : List (List Idd)) (l l2 : List Idd) (d i d0 i0 : Int) (ys : List AV) (hd : d = 0 ∨ d = 1) (g0 : decide ((0 : Int) ≤ d ∧ d < (↑(2 : Nat) : Int) ∧ (0 : Nat) < (40 : Nat)) = true) (g1 : decide ((0 : Int) ≤ IntKind.wrap IntKind.i64 (i - (1 : Int)) ∧ IntKind.wrap IntKind.i64 (i - (1 : Int)) < (↑(40 : Nat) : Int) ∧ (0 : Nat) < (1 : Nat)) = true) (g2 : decide ((0 : Nat) = (0 : Nat) ∧ Int.toNat d * (40 : Nat) + Int.toNat (IntKind.wrap IntKind.i64 (i - (1 : Int))) * (1 : Nat) < List.length (List.map SH tb)) = true) (g3 : List.getD (List.map SH tb) (Int.toNat d * (40 : Nat) + Int.toNat (IntKind.wrap IntKind.i64 (i - (1 : Int))) * (1 : Nat)) AV.bad = SH (List.getD tb (Int.toNat d * (40 : Nat) + Int.toNat (IntKind.wrap IntKind.i64 (i - (1 : Int))) * (1 : Nat)) default)) (g4 : List.all (List.take (Int.toNat d * (40 : Nat) + Int.toNat (IntKind.wrap IntKind.i64 (i - (1 : Int))) * (1 : Nat)) (List.map SH tb) ++ [AV.sl Mode.any (30 : TypeId) none (List.map Idd.enc l2)] ++ List.drop (Int.toNat d * (40 : Nat) + Int.toNat (IntKind.wrap IntKind.i64 (i - (1 : Int))) * (1 : Nat) + (1 : Nat)) (List.map SH tb)) flatC = false) : Tri Try.prog (cxN 37 8) (rfBody Try.f63 0) ([(2, .sl .any 30 none (l.map Idd.enc)), (4, .box [ub d0, it i0]), (6, .box ys), (7, .box (tb.map SH)), (8, .box [ub d, it i]), (9, .sl .any 30 none (l2.map Idd.enc))] ) (Ex.normal) ([(nat_lit 2, AV.sl Mode.any (nat_lit 30) none (List.map Idd.enc l)), (nat_lit 4, AV.box [AV.atom (Value.int IntKind.u8 d0), AV.atom (Value.int IntKind.i64 i0)]), (nat_lit 6, AV.box ys), (nat_lit 7, AV.box (List.take (Int.toNat d * (40 : Nat) + Int.toNat (IntKind.wrap IntKind.i64 (i - (1 : Int))) * (1 : Nat)) (List.map SH tb) ++ [AV.sl Mode.any (30 : TypeId) none (List.map Idd.enc l2)] ++ List.drop (Int.toNat d * (40 : Nat) + Int.toNat (IntKind.wrap IntKind.i64 (i - (1 : Int))) * (1 : Nat) + (1 : Nat)) (List.map SH tb)))]) :=
  evA_ok (H := h63) (ans := [.c, .c, .c, .c, .c, .c, .c, .c, .c, .c, .b true, .c, .b true, .c, .b true, .r (SH (List.getD tb (Int.toNat d * (40 : Nat) + Int.toNat (IntKind.wrap IntKind.i64 (i - (1 : Int))) * (1 : Nat)) default)), .c, .b false]) (ps := [decide ((0 : Int) ≤ d ∧ d < (↑(2 : Nat) : Int) ∧ (0 : Nat) < (40 : Nat)) = true, decide ((0 : Int) ≤ IntKind.wrap IntKind.i64 (i - (1 : Int)) ∧ IntKind.wrap IntKind.i64 (i - (1 : Int)) < (↑(40 : Nat) : Int) ∧ (0 : Nat) < (1 : Nat)) = true, decide ((0 : Nat) = (0 : Nat) ∧ Int.toNat d * (40 : Nat) + Int.toNat (IntKind.wrap IntKind.i64 (i - (1 : Int))) * (1 : Nat) < List.length (List.map SH tb)) = true, List.getD (List.map SH tb) (Int.toNat d * (40 : Nat) + Int.toNat (IntKind.wrap IntKind.i64 (i - (1 : Int))) * (1 : Nat)) AV.bad = SH (List.getD tb (Int.toNat d * (40 : Nat) + Int.toNat (IntKind.wrap IntKind.i64 (i - (1 : Int))) * (1 : Nat)) default), List.all (List.take (Int.toNat d * (40 : Nat) + Int.toNat (IntKind.wrap IntKind.i64 (i - (1 : Int))) * (1 : Nat)) (List.map SH tb) ++ [AV.sl Mode.any (30 : TypeId) none (List.map Idd.enc l2)] ++ List.drop (Int.toNat d * (40 : Nat) + Int.toNat (IntKind.wrap IntKind.i64 (i - (1 : Int))) * (1 : Nat) + (1 : Nat)) (List.map SH tb)) flatC = false]) (ans' := []) (base 37 8) cxA_K.1 cxA_K.2 _ (by kernel_rfl)  (allp g0 (allp g1 (allp g2 (allp g3 (allp g4 allp_nil)))))
end Tst
end

section
namespace Go.Lf
open Go Go.RowKit
variable {P : Program}
theorem PureC.share {f : FuncId} {xs : List AV} {r : AV} (h : PureC P f xs r) : PureC P f xs (Lf.share r) := by
  refine ⟨h.1, fun w S args n hS ha => (h.2 w S args n hS ha).mono ?_⟩
  rintro e w' ⟨v, n', S', O, he, hB, hrv, h1, h2, h3, h4⟩
  have hown := Rv.owned n' v r O hrv
  refine ⟨v, n', fun b => S' b ∨ 0 < O b, fun _ => 0, he, hB, Rv.remode shareM (fun m => by cases m <;> simp [shareM]) (fun m h => by cases m <;> simp [shareM] at h ⊢) (fun b hb => .inl hb) n' 12 v r O (fun b hb => .inr hb) hrv, fun _ => Nat.zero_le _, ?_, fun _ _ => rfl, fun b hb => .inl (h4 b hb)⟩
  intro b hb
  rcases hb with hb | hb
  · exact h2 b hb
  · exact ⟨.inr (hown b hb).1, (hown b hb).2⟩
end Go.Lf
end

section
open Go Go.Lf Go.Proofs
namespace Tst
set_option maxHeartbeats 0
def FW (l : List Idd) : AV := .sl .fresh 30 (some l.length) (l.map Idd.enc)
def frW (x : List (List Idd)) : AV := .sl .fresh 62 (some x.length) (x.map FW)
def shT (l : List Stk) : List (List Idd) := (l.take (trimL l l.length)).map Stk.l
theorem trimL_len (l : List Stk) : (shT l).length = trimL l l.length := by
  unfold shT
  rw [List.length_map, List.length_take, Nat.min_eq_left (trimL_le l l.length)]
def swV (x : List (List Idd)) : AV := .sl .own 62 (some x.length) (x.map OW)
theorem shortT (c : Option Nat) (l : List Stk) (hA : l.length ≤ 4294967296) (hl : ∀ s ∈ l, s.l.length ≤ 4294967296) : PureC Try.prog 71 [bsl c l] (swV (shT l)) := by
  refine (short_c c l hA hl).res ?_
  unfold shV swV
  rw [trimL_len]
  by_cases h : trimL l l.length = 0
  · rw [if_pos h, h]
    have : shT l = [] := List.eq_nil_of_length_eq_zero (by rw [trimL_len]; exact h)
    rw [this]
    exact Le.nilOwn 62
  · rw [if_neg h]; exact Le.refl _
theorem share_swV (x : List (List Idd)) : share (swV x) = frW x := by
  show AV.sl .fresh 62 (some x.length) ((x.map OW).map (mapE (remode shareM 11))) = _
  unfold frW
  rw [List.map_map]
  congr 1
  refine List.map_congr_left fun l _ => ?_
  show AV.sl .fresh 30 (some l.length) ((l.map Idd.enc).map (mapE (remode shareM 10))) = _
  rw [map_re]; rfl
theorem shortU (c : Option Nat) (l : List Stk) (hA : l.length ≤ 4294967296) (hl : ∀ s ∈ l, s.l.length ≤ 4294967296) : PureC Try.prog 71 [bsl c l] (.sl .fresh 62 (some (shT l).length) ((shT l).map FW)) := by
  have := (shortT c l hA hl).share
  rw [share_swV] at this
  exact this
theorem shortK (c : Option Nat) (k : Nat) (L : List Stk) (hl : ∀ s ∈ L, s.l.length ≤ 4294967296) : PureC Try.prog 71 [bsl c (List.take 40 (List.drop k L))] (.sl .fresh 62 (some (shT (List.take 40 (List.drop k L))).length) ((shT (List.take 40 (List.drop k L))).map FW)) :=
  shortU c _ (by simp; omega) fun s hs => hl s (List.mem_of_mem_drop (List.mem_of_mem_take hs))
theorem wt7_0 (L : List Stk) (hl : ∀ s ∈ L, s.l.length ≤ 4294967296) (g0 : decide (List.all (List.map Stk.enc L) plainA = true ∧ (0 : Nat) + Int.toNat (0 : Int) * (40 : Nat) + (40 : Nat) ≤ List.length (List.map Stk.enc L)) = true) (g1 : AV.sl Mode.any (nat_lit 62) (some (nat_lit 40)) (List.take (40 : Nat) (List.drop ((0 : Nat) + Int.toNat (0 : Int) * (40 : Nat)) (List.map Stk.enc L))) = AV.sl Mode.any (nat_lit 62) (some (40 : Nat)) (List.map Stk.enc (List.take (40 : Nat) (List.drop ((0 : Nat) + Int.toNat (0 : Int) * (40 : Nat)) L)))) (g2 : decide ((0 : Int) ≤ (1 : Int) ∧ (1 : Int) < (↑(2 : Nat) : Int) ∧ (0 : Nat) < (40 : Nat) ∧ (0 : Nat) + Int.toNat (1 : Int) * (40 : Nat) ≤ List.length (List.map Stk.enc L)) = true) (g3 : decide (List.all (List.map Stk.enc L) plainA = true ∧ (0 : Nat) + Int.toNat (1 : Int) * (40 : Nat) + (40 : Nat) ≤ List.length (List.map Stk.enc L)) = true) (g4 : AV.sl Mode.any (nat_lit 62) (some (nat_lit 40)) (List.take (40 : Nat) (List.drop ((0 : Nat) + Int.toNat (1 : Int) * (40 : Nat)) (List.map Stk.enc L))) = AV.sl Mode.any (nat_lit 62) (some (40 : Nat)) (List.map Stk.enc (List.take (40 : Nat) (List.drop ((0 : Nat) + Int.toNat (1 : Int) * (40 : Nat)) L)))) : Tri Try.prog (cxN 37 0) (regAt Try.f63 7) ([(6, .box [niln, niln]), (7, .vadr (L.map Stk.enc) 0)] ) (Ex.normal) ([(nat_lit 6, AV.box [AV.sl Mode.fresh (nat_lit 62) (some (List.length (shT (List.take (40 : Nat) (List.drop ((0 : Nat) + Int.toNat (0 : Int) * (40 : Nat)) L))))) (List.map FW (shT (List.take (40 : Nat) (List.drop ((0 : Nat) + Int.toNat (0 : Int) * (40 : Nat)) L)))), AV.sl Mode.fresh (nat_lit 62) (some (List.length (shT (List.take (40 : Nat) (List.drop ((0 : Nat) + Int.toNat (1 : Int) * (40 : Nat)) L))))) (List.map FW (shT (List.take (40 : Nat) (List.drop ((0 : Nat) + Int.toNat (1 : Int) * (40 : Nat)) L))))])]) :=
  evA_ok (H := h63) (ans := [.c, .c, .b true, .r (AV.sl Mode.any (nat_lit 62) (some (40 : Nat)) (List.map Stk.enc (List.take (40 : Nat) (List.drop ((0 : Nat) + Int.toNat (0 : Int) * (40 : Nat)) L)))), .c, .r (AV.sl Mode.any (nat_lit 62) (some (40 : Nat)) (List.map Stk.enc (List.take (40 : Nat) (List.drop ((0 : Nat) + Int.toNat (0 : Int) * (40 : Nat)) L)))), .r (AV.sl Mode.fresh (nat_lit 62) (some (List.length (shT (List.take (40 : Nat) (List.drop ((0 : Nat) + Int.toNat (0 : Int) * (40 : Nat)) L))))) (List.map FW (shT (List.take (40 : Nat) (List.drop ((0 : Nat) + Int.toNat (0 : Int) * (40 : Nat)) L))))), .c, .c, .b true, .c, .b true, .r (AV.sl Mode.any (nat_lit 62) (some (40 : Nat)) (List.map Stk.enc (List.take (40 : Nat) (List.drop ((0 : Nat) + Int.toNat (1 : Int) * (40 : Nat)) L)))), .c, .r (AV.sl Mode.any (nat_lit 62) (some (40 : Nat)) (List.map Stk.enc (List.take (40 : Nat) (List.drop ((0 : Nat) + Int.toNat (1 : Int) * (40 : Nat)) L)))), .r (AV.sl Mode.fresh (nat_lit 62) (some (List.length (shT (List.take (40 : Nat) (List.drop ((0 : Nat) + Int.toNat (1 : Int) * (40 : Nat)) L))))) (List.map FW (shT (List.take (40 : Nat) (List.drop ((0 : Nat) + Int.toNat (1 : Int) * (40 : Nat)) L))))), .c, .c, .c, .c, .c]) (ps := [decide (List.all (List.map Stk.enc L) plainA = true ∧ (0 : Nat) + Int.toNat (0 : Int) * (40 : Nat) + (40 : Nat) ≤ List.length (List.map Stk.enc L)) = true, AV.sl Mode.any (nat_lit 62) (some (nat_lit 40)) (List.take (40 : Nat) (List.drop ((0 : Nat) + Int.toNat (0 : Int) * (40 : Nat)) (List.map Stk.enc L))) = AV.sl Mode.any (nat_lit 62) (some (40 : Nat)) (List.map Stk.enc (List.take (40 : Nat) (List.drop ((0 : Nat) + Int.toNat (0 : Int) * (40 : Nat)) L))), view (AV.sl Mode.any (nat_lit 62) (some (nat_lit 40)) (List.map Stk.enc (List.take (40 : Nat) (List.drop ((0 : Nat) + Int.toNat (0 : Int) * (40 : Nat)) L)))) = AV.sl Mode.any (nat_lit 62) (some (nat_lit 40)) (List.map Stk.enc (List.take (40 : Nat) (List.drop ((0 : Nat) + Int.toNat (0 : Int) * (40 : Nat)) L))), PureC Try.prog (nat_lit 71) [AV.sl Mode.any (nat_lit 62) (some (nat_lit 40)) (List.map Stk.enc (List.take (40 : Nat) (List.drop ((0 : Nat) + Int.toNat (0 : Int) * (40 : Nat)) L)))] (AV.sl Mode.fresh (nat_lit 62) (some (List.length (shT (List.take (40 : Nat) (List.drop ((0 : Nat) + Int.toNat (0 : Int) * (40 : Nat)) L))))) (List.map FW (shT (List.take (40 : Nat) (List.drop ((0 : Nat) + Int.toNat (0 : Int) * (40 : Nat)) L))))), decide ((0 : Int) ≤ (1 : Int) ∧ (1 : Int) < (↑(2 : Nat) : Int) ∧ (0 : Nat) < (40 : Nat) ∧ (0 : Nat) + Int.toNat (1 : Int) * (40 : Nat) ≤ List.length (List.map Stk.enc L)) = true, decide (List.all (List.map Stk.enc L) plainA = true ∧ (0 : Nat) + Int.toNat (1 : Int) * (40 : Nat) + (40 : Nat) ≤ List.length (List.map Stk.enc L)) = true, AV.sl Mode.any (nat_lit 62) (some (nat_lit 40)) (List.take (40 : Nat) (List.drop ((0 : Nat) + Int.toNat (1 : Int) * (40 : Nat)) (List.map Stk.enc L))) = AV.sl Mode.any (nat_lit 62) (some (40 : Nat)) (List.map Stk.enc (List.take (40 : Nat) (List.drop ((0 : Nat) + Int.toNat (1 : Int) * (40 : Nat)) L))), view (AV.sl Mode.any (nat_lit 62) (some (nat_lit 40)) (List.map Stk.enc (List.take (40 : Nat) (List.drop ((0 : Nat) + Int.toNat (1 : Int) * (40 : Nat)) L)))) = AV.sl Mode.any (nat_lit 62) (some (nat_lit 40)) (List.map Stk.enc (List.take (40 : Nat) (List.drop ((0 : Nat) + Int.toNat (1 : Int) * (40 : Nat)) L))), PureC Try.prog (nat_lit 71) [AV.sl Mode.any (nat_lit 62) (some (nat_lit 40)) (List.map Stk.enc (List.take (40 : Nat) (List.drop ((0 : Nat) + Int.toNat (1 : Int) * (40 : Nat)) L)))] (AV.sl Mode.fresh (nat_lit 62) (some (List.length (shT (List.take (40 : Nat) (List.drop ((0 : Nat) + Int.toNat (1 : Int) * (40 : Nat)) L))))) (List.map FW (shT (List.take (40 : Nat) (List.drop ((0 : Nat) + Int.toNat (1 : Int) * (40 : Nat)) L)))))]) (ans' := []) (base 37 0) cxA_K.1 cxA_K.2 _ (by kernel_rfl)  (allp g0 (allp g1 (allp (by first | exact view_ps _ _ _ | exact view_u8 _ _ _ | rfl | exact view_yn _ _ _ _ _ _ _ | exact view_id _ _ _ | exact view_stk _ _ _ | exact view_beds _ _ _ _ _ _ | exact view_pt _ _ _) (allp (by apply shortK <;> (first | assumption | rfl | (simp at * <;> omega))) (allp g2 (allp g3 (allp g4 (allp (by first | exact view_ps _ _ _ | exact view_u8 _ _ _ | rfl | exact view_yn _ _ _ _ _ _ _ | exact view_id _ _ _ | exact view_stk _ _ _ | exact view_beds _ _ _ _ _ _ | exact view_pt _ _ _) (allp (by apply shortK <;> (first | assumption | rfl | (simp at * <;> omega))) allp_nil)))))))))
end Tst
end

section
open Go Go.Lf Go.Proofs
namespace Tst
set_option maxHeartbeats 0
theorem wt0_0 (cf cb c : Option Nat) (F B : List Stk) (d i : Int) (l : List Idd) : Tri Try.prog (cxN 37 0) (regAt Try.f63 0) ([(0, beds (bsl cf F) (bsl cb B)), (1, ndl d i), (2, isl c l)] ) (Ex.normal) ([(nat_lit 2, AV.sl Mode.any (nat_lit 30) c (List.map Idd.enc l)), (nat_lit 3, AV.box [AV.sl Mode.any (nat_lit 62) cf (List.map Stk.enc F), AV.sl Mode.any (nat_lit 62) cb (List.map Stk.enc B)]), (nat_lit 4, AV.box [AV.atom (Value.int IntKind.u8 d), AV.atom (Value.int IntKind.i64 i)]), (nat_lit 6, AV.box [AV.atom (Value.slice none (nat_lit 0) (nat_lit 0)), AV.atom (Value.slice none (nat_lit 0) (nat_lit 0))])]) :=
  evA_ok (H := h63) (ans := [.c, .c, .c]) (ps := []) (ans' := []) (base 37 0) cxA_K.1 cxA_K.2 _ (by kernel_rfl)  allp_nil
theorem wt2_0 (cf cb c : Option Nat) (F B : List Stk) (d i : Int) (l : List Idd) (ys : List AV) : Tri Try.prog (cxN 37 0) (regAt Try.f63 2) ([(2, isl c l), (3, .box [bsl cf F, bsl cb B]), (4, .box [ub d, it i]), (6, .box [niln, niln]), (7, .box ys)] ) (Ex.normal) ([(nat_lit 2, AV.sl Mode.any (nat_lit 30) c (List.map Idd.enc l)), (nat_lit 4, AV.box [AV.atom (Value.int IntKind.u8 d), AV.atom (Value.int IntKind.i64 i)]), (nat_lit 6, AV.box [AV.atom (Value.slice none (nat_lit 0) (nat_lit 0)), AV.atom (Value.slice none (nat_lit 0) (nat_lit 0))]), (nat_lit 7, AV.box ys), (nat_lit 11, AV.fn (nat_lit 69) [AV.vadr [AV.sl Mode.any (nat_lit 62) cf (List.map Stk.enc F), AV.sl Mode.any (nat_lit 62) cb (List.map Stk.enc B)] (nat_lit 0)])]) :=
  evA_ok (H := h63) (ans := [.c, .r (AV.fn (nat_lit 69) [AV.vadr [AV.sl Mode.any (nat_lit 62) cf (List.map Stk.enc F), AV.sl Mode.any (nat_lit 62) cb (List.map Stk.enc B)] (nat_lit 0)]), .c, .c]) (ps := [PureC Try.prog (nat_lit 60) [view (AV.agg [AV.sl Mode.any (nat_lit 62) cf (List.map Stk.enc F), AV.sl Mode.any (nat_lit 62) cb (List.map Stk.enc B)])] (AV.fn (nat_lit 69) [AV.vadr [AV.sl Mode.any (nat_lit 62) cf (List.map Stk.enc F), AV.sl Mode.any (nat_lit 62) cb (List.map Stk.enc B)] (nat_lit 0)])]) (ans' := []) (base 37 0) cxA_K.1 cxA_K.2 _ (by kernel_rfl)  (allp (by (first | rw [view_yn] | rw [view_two] | rw [view_twoI] | rw [view_beds] | skip); apply hl_0 <;> (first | assumption | rfl | (simp at * <;> omega))) allp_nil)
end Tst
end

section
open Go Go.Lf Go.Proofs
namespace Tst
set_option maxHeartbeats 0
theorem wt1_0 (cf cb c : Option Nat) (F B : List Stk) (d i : Int) (l : List Idd) : Tri Try.prog (cxN 37 0) (regAt Try.f63 1) [(2, isl c l), (3, .box [bsl cf F, bsl cb B]), (4, .box [ub d, it i]), (6, .box [niln, niln])] .normal
    [(2, isl c l), (3, .box [bsl cf F, bsl cb B]), (4, .box [ub d, it i]), (6, .box [niln, niln]), (7, .box (List.replicate 80 (.atom (.slice none 0 0))))] :=
  evA_ok (H := h63) (ans := [.c]) (ps := []) (ans' := []) (base 37 0) cxA_K.1 cxA_K.2 _ (by kernel_rfl) allp_nil
def putT (tb : List (List Idd)) (t : Int × Int × Stk) : List (List Idd) := tb.set (t.1.toNat * 40 + (t.2.1 - 1).toNat) t.2.2.l
def tbOf (pre : List (Int × Int × Stk)) : List (List Idd) := pre.foldl putT (List.replicate 80 [])
theorem tbOf_snoc (pre : List (Int × Int × Stk)) (x : Int × Int × Stk) : tbOf (pre ++ [x]) = putT (tbOf pre) x := by simp [tbOf]
theorem tbOf_len (pre : List (Int × Int × Stk)) : (tbOf pre).length = 80 := by
  unfold tbOf
  suffices ∀ (l : List (Int × Int × Stk)) (tb : List (List Idd)), (l.foldl putT tb).length = tb.length by rw [this]; simp
  intro l
  induction l with
  | nil => intro tb; rfl
  | cons x l ih => intro tb; rw [List.foldl_cons, ih]; simp [putT]
theorem itms_ok {F B : List Stk} {t : Int × Int × Stk} (h : t ∈ itms F B) : (t.1 = 0 ∨ t.1 = 1) ∧ 1 ≤ t.2.1 ∧ t.2.1 ≤ 40 ∧ (t.2.2 ∈ F ∨ t.2.2 ∈ B) := by
  unfold itms at h
  rcases List.mem_append.1 h with h | h
  · obtain ⟨q, hq, rfl⟩ := List.mem_map.1 h
    have h1 := List.mem_zipIdx hq
    have h2 := h1.2.1
    simp at h2
    refine ⟨.inl rfl, by simp; omega, by simp; omega, .inl ?_⟩
    have := h1.2.2
    show q.1 ∈ F
    rw [this]
    exact List.mem_of_mem_take (List.getElem_mem _)
  · obtain ⟨q, hq, rfl⟩ := List.mem_map.1 h
    have h1 := List.mem_zipIdx hq
    have h2 := h1.2.1
    simp at h2
    refine ⟨.inr rfl, by simp; omega, by simp; omega, .inr ?_⟩
    have := h1.2.2
    show q.1 ∈ B
    rw [this]
    exact List.mem_of_mem_take (List.getElem_mem _)
theorem set_SH {tb : List (List Idd)} {k : Nat} (l : List Idd) (hk : k < tb.length) : List.take k (List.map SH tb) ++ [AV.sl Mode.any (30 : TypeId) none (List.map Idd.enc l)] ++ List.drop (k + 1) (List.map SH tb) = (tb.set k l).map SH := by
  rw [List.set_eq_take_append_cons_drop, if_pos hk, List.map_append, List.map_cons, List.map_take, List.map_drop]
  simp [SH]
theorem flat_SH (x : List (List Idd)) : (x.map SH).all flatC = true := by rw [List.all_map, List.all_eq_true]; intro l _; rfl
theorem getD_SHd {tb : List (List Idd)} {k : Nat} (hk : k < tb.length) : (tb.map SH).getD k AV.bad = SH (tb.getD k default) := by
  rw [List.getD_eq_getElem?_getD, List.getElem?_map, List.getD_eq_getElem?_getD, List.getElem?_eq_getElem hk]; rfl
abbrev nn : List AV := [niln, niln]
abbrev wE (l : List Idd) (d0 i0 : Int) (tb : List (List Idd)) : Env := [(2, .sl .any 30 none (l.map Idd.enc)), (4, .box [ub d0, it i0]), (6, .box nn), (7, .box (tb.map SH))]
theorem wt_round (l : List Idd) (d0 i0 : Int) (tb : List (List Idd)) (x : Int × Int × Stk) (hd : x.1 = 0 ∨ x.1 = 1) (h1 : 1 ≤ x.2.1) (h2 : x.2.1 ≤ 40) (ht : tb.length = 80) :
    ∃ E1, Tri Try.prog (cxN 37 8) (rfAssign Try.f63 0) ((#[12, 13] : Array Tmp).toList.zip (itE x) ++ wE l d0 i0 tb) .normal E1 ∧ Tri Try.prog (cxN 37 8) (rfBody Try.f63 0) E1 .normal (wE l d0 i0 (putT tb x)) := by
  refine ⟨_, wra_0 x.2.2.c tb l x.2.2.l x.1 x.2.1 d0 i0 nn, ?_⟩
  have hw : IntKind.i64.wrap (x.2.1 - 1) = x.2.1 - 1 := wrap_id' (by omega) (by omega)
  have hk : x.1.toNat * 40 + (IntKind.i64.wrap (x.2.1 - 1)).toNat * 1 < tb.length := by rw [hw]; rcases hd with h | h <;> rw [h] <;> simp <;> omega
  have h := wrb_0 tb l x.2.2.l x.1 x.2.1 d0 i0 nn hd (by simp; omega) (by rw [hw]; simp; omega) (by rw [List.length_map]; simpa using hk) (getD_SHd hk) (by rw [set_SH x.2.2.l hk]; exact flat_SH _)
  rw [set_SH x.2.2.l hk, hw, Nat.mul_one] at h
  refine Tri.more h (.cons ⟨rfl, rfl, Le.refl _⟩ (.cons ⟨rfl, rfl, Le.refl _⟩ (.cons ⟨rfl, rfl, Le.refl _⟩ (.cons ⟨rfl, rfl, Le.refl _⟩ (.cons ⟨rfl, rfl, Le.refl _⟩ (.cons ⟨rfl, rfl, Le.cap⟩ .nil))))))
theorem wt_code : rfCode Try.f63 0 = .rangeFunc (.tmp 11) #[12, 13] (rfAssign Try.f63 0) (rfBody Try.f63 0) := by kernel_rfl
theorem wt_range (cf cb : Option Nat) (F B : List Stk) (l : List Idd) (d0 i0 : Int) : Tri Try.prog (cxN 37 0) (rfCode Try.f63 0) (wE l d0 i0 (List.replicate 80 []) ++ [(11, .fn 69 [hbx cf F cb B])]) .normal (wE l d0 i0 (tbOf (itms F B))) := by
  rw [wt_code]
  exact Tri.rangeAll (P := Try.prog) (cx := cxN 37 0) rfl (t := 11) (ps := #[12, 13]) (c1 := rfAssign Try.f63 0) (c2 := rfBody Try.f63 0) [(2, .keep), (4, .keep), (6, .keep), (7, .keep)] rfl (hbx_view cf cb F B) (itms F B) itE (held_i cf cb F B) 8 (by omega)
    ⟨by decide, by decide⟩ (fun x => rfl) (fun pre => wE l d0 i0 (tbOf pre)) [] rfl (fun pre => .cons (by omega) rfl (.cons (by omega) rfl (.cons (by omega) rfl (.cons (by omega) rfl .nil)))) (fun pre t x h => lk_nil h) .nil
    (fun pre x post hx => by
      have ho := itms_ok (F := F) (B := B) (t := x) (by rw [hx]; simp)
      rw [tbOf_snoc]
      exact wt_round l d0 i0 (tbOf pre) x ho.1 ho.2.1 ho.2.2.1 (tbOf_len pre))
theorem share_frW (x : List (List Idd)) : share (frW x) = frW x := by
  show AV.sl .fresh 62 (some x.length) ((x.map FW).map (mapE (remode shareM 11))) = _
  unfold frW
  rw [List.map_map]
  congr 1
  refine List.map_congr_left fun l _ => ?_
  show AV.sl .fresh 30 (some l.length) ((l.map Idd.enc).map (mapE (remode shareM 10))) = _
  rw [map_re]; rfl
def halfT (tb : List (List Idd)) (k : Nat) : List (List Idd) := shT (List.take 40 (List.drop k (tb.map fun l => (⟨none, l⟩ : Stk))))
theorem wt_last (tb : List (List Idd)) (ht : tb.length = 80) (hl : ∀ l ∈ tb, l.length ≤ 4294967296) : Tri Try.prog (cxN 37 0) (regAt Try.f63 7) [(6, .box nn), (7, .box (tb.map SH))] .normal [(6, .box [frW (halfT tb 0), frW (halfT tb 40)])] := by
  obtain ⟨L, hL⟩ : ∃ L : List Stk, L = tb.map fun l => (⟨none, l⟩ : Stk) := ⟨_, rfl⟩
  have hLe : tb.map SH = L.map Stk.enc := by rw [hL, List.map_map]; rfl
  have hLl : L.length = 80 := by rw [hL, List.length_map]; exact ht
  have hp : List.all (List.map Stk.enc L) plainA = true := by rw [List.all_map, List.all_eq_true]; intro x _; rfl
  have h := wt7_0 L (fun s hs => by rw [hL] at hs; obtain ⟨l, hl', rfl⟩ := List.mem_map.1 hs; exact hl l hl') (by rw [hp, List.length_map, hLl]; decide) (by rw [List.map_take, List.map_drop]) (by rw [List.length_map, hLl]; decide) (by rw [hp, List.length_map, hLl]; decide) (by rw [List.map_take, List.map_drop])
  have e : ([(6, .box nn), (7, .box (tb.map SH))] : Env) = [(6, .box nn), (7, .box (L.map Stk.enc))] := by rw [hLe]
  rw [e]
  have h2 : Tri Try.prog (cxN 37 0) (regAt Try.f63 7) [(6, .box [niln, niln]), (7, .vadr (L.map Stk.enc) 0)] .normal [(6, .box [frW (halfT tb 0), frW (halfT tb 40)])] := by
    unfold halfT frW
    rw [← hL]
    exact h
  refine Tri.shr (r := 7) (cs := L.map Stk.enc) rfl hp (fun t y hy => ?_) (Tri.weak [(6, .keep), (7, .keep)] h2)
  simp only [lk] at hy
  split at hy
  · injection hy with hy; subst hy; simp [leafRoot]
  · split at hy
    · injection hy with hy; subst hy; simp [leafRoot]
    · cases hy
theorem with_code : Try.f63.body = some (.seq (regAt Try.f63 0) (.seq (regAt Try.f63 1) (.seq (.seq (regAt Try.f63 2) (.block 0 (rfCode Try.f63 0))) (.seq (codeAt Try.f63 6) (.seq (regAt Try.f63 7) .ret))))) := by kernel_rfl
def withT (F B : List Stk) (d i : Int) (l : List Idd) : List (List Idd) := (tbOf (itms F B)).set (d.toNat * 40 + (i - 1).toNat) l
theorem withT_len (F B : List Stk) (d i : Int) (l : List Idd) : (withT F B d i l).length = 80 := by unfold withT; rw [List.length_set, tbOf_len]
theorem tbOf_mem : ∀ (pre : List (Int × Int × Stk)) (x : List Idd), x ∈ tbOf pre → x = [] ∨ ∃ t ∈ pre, x = t.2.2.l := by
  intro pre
  suffices ∀ (pre : List (Int × Int × Stk)) (tb : List (List Idd)) (x : List Idd), x ∈ pre.foldl putT tb → x ∈ tb ∨ ∃ t ∈ pre, x = t.2.2.l by
    intro x hx
    rcases this pre _ x hx with h | h
    · exact .inl (List.mem_replicate.1 h).2
    · exact .inr h
  intro pre
  induction pre with
  | nil => intro tb x h; exact .inl h
  | cons t pre ih =>
    intro tb x h
    rw [List.foldl_cons] at h
    rcases ih _ _ h with h | ⟨u, hu, he⟩
    · rcases List.mem_or_eq_of_mem_set h with h | h
      · exact .inl h
      · exact .inr ⟨t, by simp, h⟩
    · exact .inr ⟨u, by simp [hu], he⟩
theorem with_c (cf cb c : Option Nat) (F B : List Stk) (d i : Int) (l : List Idd) (hd : d = 0 ∨ d = 1) (h1 : 1 ≤ i) (h2 : i ≤ 40) (hl : l.length ≤ 4294967296) (hA : ∀ t ∈ itms F B, t.2.2.l.length ≤ 4294967296) :
    PureC Try.prog 63 [beds (bsl cf F) (bsl cb B), ndl d i, isl c l] (.agg [frW (halfT (withT F B d i l) 0), frW (halfT (withT F B d i l) 40)]) := by
  refine pureT ((base 37 0).ok cxA_K.1 cxA_K.2) Try.func63 rfl (by show 3 ≤ 37; omega) rfl with_code rfl (ex := .ret) (env' := [(6, .box [frW (halfT (withT F B d i l) 0), frW (halfT (withT F B d i l) 40)])]) ?_ ?_
  · refine .seq (wt0_0 cf cb c F B d i l) (.seq (wt1_0 cf cb c F B d i l) ?_)
    have hw : IntKind.i64.wrap (i - 1) = i - 1 := wrap_id' (by omega) (by omega)
    have htb := tbOf_len (itms F B)
    have hk : d.toNat * 40 + (IntKind.i64.wrap (i - 1)).toNat * 1 < (tbOf (itms F B)).length := by rw [hw, htb]; rcases hd with h | h <;> rw [h] <;> simp <;> omega
    have h6 := wtA_0 none (tbOf (itms F B)) l d i nn hd (by simp; omega) (by rw [hw]; simp; omega) (by rw [List.length_map]; simpa using hk) (getD_SHd hk) (by rw [set_SH l hk]; exact flat_SH _)
    rw [set_SH l hk, hw, Nat.mul_one] at h6
    have hlast := wt_last (withT F B d i l) (withT_len F B d i l) fun x hx => by
      rcases List.mem_or_eq_of_mem_set hx with hx | rfl
      · rcases tbOf_mem _ _ hx with rfl | ⟨t, ht, rfl⟩
        · simp
        · exact hA t ht
      · exact hl
    refine .seq (.seq (wt2_0 cf cb c F B d i l _) (.block (ex := .normal) (Tri.more (wt_range cf cb F B l d i) ?_) (.inr ⟨by simp, rfl⟩))) (.seq h6 (.seq hlast .ret))
    refine .cons ⟨rfl, rfl, Le.cap⟩ (.cons ⟨rfl, rfl, Le.refl _⟩ (.cons ⟨rfl, rfl, Le.refl _⟩ (.cons ⟨rfl, rfl, ?_⟩ (.cons ⟨rfl, rfl, Le.refl _⟩ .nil))))
    refine Le.box ?_
    rw [List.map_replicate]
    exact F2.rep (x := AV.atom (.slice none 0 0)) (y := SH []) (fun B0 w S n v O h => Le.cap _ _ _ _ _ _ (Le.nil 30 _ _ _ _ _ _ h)) 80
  · show some (AV.agg [share (frW (halfT (withT F B d i l) 0)), share (frW (halfT (withT F B d i l) 40))]) = _
    rw [share_frW, share_frW]
end Tst
end

section
open Go Go.Lf Go.Proofs
namespace Tst
def stkW (x : List (List Idd)) : List Stk := x.map fun l => ⟨some l.length, l⟩
def stkF (x : List (List Idd)) : List Stk := x.map fun l => ⟨none, l⟩
theorem vmap_FW (x : List (List Idd)) : (x.map FW).map (mapE (remode (fun _ => .any) 10)) = (stkW x).map Stk.enc := by
  unfold stkW
  rw [List.map_map, List.map_map]
  refine List.map_congr_left fun l _ => ?_
  show AV.sl .any 30 (some l.length) ((l.map Idd.enc).map (mapE (remode (fun _ => .any) 9))) = _
  rw [map_idd]; rfl
theorem vmap_FN (x : List (List Idd)) : (x.map FN).map (mapE (remode (fun _ => .any) 10)) = (stkF x).map Stk.enc := by
  unfold stkF
  rw [List.map_map, List.map_map]
  refine List.map_congr_left fun l _ => ?_
  show AV.sl .any 30 none ((l.map Idd.enc).map (mapE (remode (fun _ => .any) 9))) = _
  rw [map_idd]; rfl
theorem view_frW (c c' : Option Nat) (x y : List (List Idd)) : view (.agg [.sl .fresh 62 c (x.map FW), .sl .fresh 62 c' (y.map FW)]) = beds (bsl c (stkW x)) (bsl c' (stkW y)) := by
  show AV.agg [.sl .any 62 c ((x.map FW).map (mapE (remode (fun _ => .any) 10))), .sl .any 62 c' ((y.map FW).map (mapE (remode (fun _ => .any) 10)))] = _
  rw [vmap_FW, vmap_FW]
theorem view_frN (c c' : Option Nat) (x y : List (List Idd)) : view (.agg [.sl .fresh 62 c (x.map FN), .sl .fresh 62 c' (y.map FN)]) = beds (bsl c (stkF x)) (bsl c' (stkF y)) := by
  show AV.agg [.sl .any 62 c ((x.map FN).map (mapE (remode (fun _ => .any) 10))), .sl .any 62 c' ((y.map FN).map (mapE (remode (fun _ => .any) 10)))] = _
  rw [vmap_FN, vmap_FN]
def ovV (F B : List Stk) : Bool := decide (40 < F.length) || decide (40 < B.length) || (itms F B).any fun t => decide (4 < t.2.2.l.length)
theorem over_c (cf cb : Option Nat) (F B : List Stk) : PureC Try.prog 53 [beds (bsl cf F) (bsl cb B)] (bb (ovV F B)) := by
  have e : ∀ t : Int × Int × Stk, decide ((4 : Int) < ((t.2.2.l.map Idd.enc).length : Nat)) = decide (4 < t.2.2.l.length) := fun t => by
    rw [List.length_map]
    exact decide_eq_decide.2 (by omega)
  have hF : decide ((40 : Int) < ((F.map Stk.enc).length : Nat)) = decide (40 < F.length) := by rw [List.length_map]; exact decide_eq_decide.2 (by omega)
  have hB : decide ((40 : Int) < ((B.map Stk.enc).length : Nat)) = decide (40 < B.length) := by rw [List.length_map]; exact decide_eq_decide.2 (by omega)
  unfold ovV
  rcases split_first (fun t : Int × Int × Stk => decide (4 < t.2.2.l.length)) (itms F B) with h | ⟨pre, x, post, h1, h2, h3⟩
  · have hn : ∀ t ∈ itms F B, decide ((4 : Int) < ((t.2.2.l.map Idd.enc).length : Nat)) = false := fun t ht => by rw [e]; exact h t ht
    have ha : ((itms F B).any fun t => decide (4 < t.2.2.l.length)) = false := by rw [List.any_eq_false]; intro t ht; rw [h t ht]; simp
    rw [ha]
    cases g0 : decide (40 < F.length) with
    | true => exact ovn_0 cf cb F B hn (by rw [hF]; exact g0)
    | false =>
      cases g1 : decide (40 < B.length) with
      | true => exact ovn_1 cf cb F B hn (by rw [hF]; exact g0) (by rw [hB]; exact g1)
      | false => exact ovn_2 cf cb F B hn (by rw [hF]; exact g0) (by rw [hB]; exact g1)
  · have hn : ∀ t ∈ pre, decide ((4 : Int) < ((t.2.2.l.map Idd.enc).length : Nat)) = false := fun t ht => by rw [e]; exact h2 t ht
    have hy : decide ((4 : Int) < ((x.2.2.l.map Idd.enc).length : Nat)) = true := by rw [e]; exact h3
    have ha : ((itms F B).any fun t => decide (4 < t.2.2.l.length)) = true := by rw [List.any_eq_true]; exact ⟨x, by rw [h1]; simp, h3⟩
    rw [ha]
    cases g0 : decide (40 < F.length) with
    | true => exact ovy_0 cf cb F B pre x post h1 hn hy (by rw [hF]; exact g0)
    | false =>
      cases g1 : decide (40 < B.length) with
      | true => exact ovy_1 cf cb F B pre x post h1 hn hy (by rw [hF]; exact g0) (by rw [hB]; exact g1)
      | false => exact ovy_2 cf cb F B pre x post h1 hn hy (by rw [hF]; exact g0) (by rw [hB]; exact g1)
def nmV (F B : List Stk) : Bool := (itms F B).all fun t => t.2.2.l.all nmI
theorem named_v (cf cb : Option Nat) (F B : List Stk) (hA : ∀ t ∈ itms F B, t.2.2.l.length < 2 ^ 62) : PureC Try.prog 54 [beds (bsl cf F) (bsl cb B)] (bb (nmV F B)) := by
  unfold nmV
  rcases split_first (fun t : Int × Int × Stk => !t.2.2.l.all nmI) (itms F B) with h | ⟨pre, x, post, h1, h2, h3⟩
  · have ha : ((itms F B).all fun t => t.2.2.l.all nmI) = true := by rw [List.all_eq_true]; intro t ht; simpa using h t ht
    rw [ha]
    exact nan_0 cf cb F B hA h
  · have ha : ((itms F B).all fun t => t.2.2.l.all nmI) = false := by rw [List.all_eq_false]; exact ⟨x, by rw [h1]; simp, by simpa using h3⟩
    rw [ha]
    exact nay_0 cf cb F B hA pre x post h1 h2 h3
def twV (F B : List Stk) : Bool := !decide (allI (itms F B)).Nodup
theorem twice_v (cf cb : Option Nat) (F B : List Stk) (hA : ∀ t ∈ itms F B, t.2.2.l.length < 2 ^ 62) : PureC Try.prog 55 [beds (bsl cf F) (bsl cb B)] (bb (twV F B)) := twice_c cf cb F B hA
def chkV (F B : List Stk) : Int := if ovV F B then 9 else if !nmV F B then 1 else if twV F B then 8 else 0
theorem ov_short {F B : List Stk} (h : ovV F B = false) : F.length ≤ 40 ∧ B.length ≤ 40 ∧ ∀ t ∈ itms F B, t.2.2.l.length ≤ 4 := by
  unfold ovV at h
  simp only [Bool.or_eq_false_iff, decide_eq_false_iff_not, List.any_eq_false, decide_eq_true_eq] at h
  exact ⟨by omega, by omega, fun t ht => by have := h.2 t ht; omega⟩
end Tst
end

section
open Go Go.Lf Go.Proofs
namespace Tst
set_option maxHeartbeats 0
theorem ckA_0 (cf cb : Option Nat) (F B : List Stk) (ho : ovV F B = true) (g0 : ovV F B = true) : PureC Try.prog 31 [beds (bsl cf F) (bsl cb B)]  (it 9) :=
  funA_ok (H := h31) (n := 13) (ans := [.c, .c, .c, .r (AV.atom (Value.bool (ovV F B))), .c, .c, .c, .b true, .c]) (ps := [PureC Try.prog (nat_lit 53) [view (AV.agg [AV.sl Mode.any (nat_lit 62) cf (List.map Stk.enc F), AV.sl Mode.any (nat_lit 62) cb (List.map Stk.enc B)])] (AV.atom (Value.bool (ovV F B))), ovV F B = true]) (base 13 0) Try.func31 rfl (by simp) rfl (by kernel_rfl)  (allp (by (first | rw [view_yn] | rw [view_two] | rw [view_twoI] | rw [view_beds] | rw [view_frW] | rw [view_frN] | skip); apply over_c <;> (first | assumption | rfl | (simp at * <;> omega))) (allp g0 allp_nil))
theorem ckB_0 (cf cb : Option Nat) (F B : List Stk) (hA : ∀ t ∈ itms F B, t.2.2.l.length < 2 ^ 62) (ho : ovV F B = false) (g0 : ovV F B = false) (g1 : (!nmV F B) = true) : PureC Try.prog 31 [beds (bsl cf F) (bsl cb B)]  (it 1) :=
  funA_ok (H := h31) (n := 13) (ans := [.c, .c, .c, .r (AV.atom (Value.bool (ovV F B))), .c, .c, .c, .b false, .c, .r (AV.atom (Value.bool (nmV F B))), .c, .c, .c, .c, .b true, .c]) (ps := [PureC Try.prog (nat_lit 53) [view (AV.agg [AV.sl Mode.any (nat_lit 62) cf (List.map Stk.enc F), AV.sl Mode.any (nat_lit 62) cb (List.map Stk.enc B)])] (AV.atom (Value.bool (ovV F B))), ovV F B = false, PureC Try.prog (nat_lit 54) [view (AV.agg [AV.sl Mode.any (nat_lit 62) cf (List.map Stk.enc F), AV.sl Mode.any (nat_lit 62) cb (List.map Stk.enc B)])] (AV.atom (Value.bool (nmV F B))), (!nmV F B) = true]) (base 13 0) Try.func31 rfl (by simp) rfl (by kernel_rfl)  (allp (by (first | rw [view_yn] | rw [view_two] | rw [view_twoI] | rw [view_beds] | rw [view_frW] | rw [view_frN] | skip); apply over_c <;> (first | assumption | rfl | (simp at * <;> omega))) (allp g0 (allp (by (first | rw [view_yn] | rw [view_two] | rw [view_twoI] | rw [view_beds] | rw [view_frW] | rw [view_frN] | skip); apply named_v <;> (first | assumption | rfl | (simp at * <;> omega))) (allp g1 allp_nil))))
theorem ckB_1 (cf cb : Option Nat) (F B : List Stk) (hA : ∀ t ∈ itms F B, t.2.2.l.length < 2 ^ 62) (ho : ovV F B = false) (g0 : ovV F B = false) (g1 : (!nmV F B) = false) (g2 : twV F B = true) : PureC Try.prog 31 [beds (bsl cf F) (bsl cb B)]  (it 8) :=
  funA_ok (H := h31) (n := 13) (ans := [.c, .c, .c, .r (AV.atom (Value.bool (ovV F B))), .c, .c, .c, .b false, .c, .r (AV.atom (Value.bool (nmV F B))), .c, .c, .c, .c, .b false, .c, .r (AV.atom (Value.bool (twV F B))), .c, .c, .c, .b true, .c]) (ps := [PureC Try.prog (nat_lit 53) [view (AV.agg [AV.sl Mode.any (nat_lit 62) cf (List.map Stk.enc F), AV.sl Mode.any (nat_lit 62) cb (List.map Stk.enc B)])] (AV.atom (Value.bool (ovV F B))), ovV F B = false, PureC Try.prog (nat_lit 54) [view (AV.agg [AV.sl Mode.any (nat_lit 62) cf (List.map Stk.enc F), AV.sl Mode.any (nat_lit 62) cb (List.map Stk.enc B)])] (AV.atom (Value.bool (nmV F B))), (!nmV F B) = false, PureC Try.prog (nat_lit 55) [view (AV.agg [AV.sl Mode.any (nat_lit 62) cf (List.map Stk.enc F), AV.sl Mode.any (nat_lit 62) cb (List.map Stk.enc B)])] (AV.atom (Value.bool (twV F B))), twV F B = true]) (base 13 0) Try.func31 rfl (by simp) rfl (by kernel_rfl)  (allp (by (first | rw [view_yn] | rw [view_two] | rw [view_twoI] | rw [view_beds] | rw [view_frW] | rw [view_frN] | skip); apply over_c <;> (first | assumption | rfl | (simp at * <;> omega))) (allp g0 (allp (by (first | rw [view_yn] | rw [view_two] | rw [view_twoI] | rw [view_beds] | rw [view_frW] | rw [view_frN] | skip); apply named_v <;> (first | assumption | rfl | (simp at * <;> omega))) (allp g1 (allp (by (first | rw [view_yn] | rw [view_two] | rw [view_twoI] | rw [view_beds] | rw [view_frW] | rw [view_frN] | skip); apply twice_v <;> (first | assumption | rfl | (simp at * <;> omega))) (allp g2 allp_nil))))))
theorem ckB_2 (cf cb : Option Nat) (F B : List Stk) (hA : ∀ t ∈ itms F B, t.2.2.l.length < 2 ^ 62) (ho : ovV F B = false) (g0 : ovV F B = false) (g1 : (!nmV F B) = false) (g2 : twV F B = false) : PureC Try.prog 31 [beds (bsl cf F) (bsl cb B)]  (it 0) :=
  funA_ok (H := h31) (n := 13) (ans := [.c, .c, .c, .r (AV.atom (Value.bool (ovV F B))), .c, .c, .c, .b false, .c, .r (AV.atom (Value.bool (nmV F B))), .c, .c, .c, .c, .b false, .c, .r (AV.atom (Value.bool (twV F B))), .c, .c, .c, .b false, .c]) (ps := [PureC Try.prog (nat_lit 53) [view (AV.agg [AV.sl Mode.any (nat_lit 62) cf (List.map Stk.enc F), AV.sl Mode.any (nat_lit 62) cb (List.map Stk.enc B)])] (AV.atom (Value.bool (ovV F B))), ovV F B = false, PureC Try.prog (nat_lit 54) [view (AV.agg [AV.sl Mode.any (nat_lit 62) cf (List.map Stk.enc F), AV.sl Mode.any (nat_lit 62) cb (List.map Stk.enc B)])] (AV.atom (Value.bool (nmV F B))), (!nmV F B) = false, PureC Try.prog (nat_lit 55) [view (AV.agg [AV.sl Mode.any (nat_lit 62) cf (List.map Stk.enc F), AV.sl Mode.any (nat_lit 62) cb (List.map Stk.enc B)])] (AV.atom (Value.bool (twV F B))), twV F B = false]) (base 13 0) Try.func31 rfl (by simp) rfl (by kernel_rfl)  (allp (by (first | rw [view_yn] | rw [view_two] | rw [view_twoI] | rw [view_beds] | rw [view_frW] | rw [view_frN] | skip); apply over_c <;> (first | assumption | rfl | (simp at * <;> omega))) (allp g0 (allp (by (first | rw [view_yn] | rw [view_two] | rw [view_twoI] | rw [view_beds] | rw [view_frW] | rw [view_frN] | skip); apply named_v <;> (first | assumption | rfl | (simp at * <;> omega))) (allp g1 (allp (by (first | rw [view_yn] | rw [view_two] | rw [view_twoI] | rw [view_beds] | rw [view_frW] | rw [view_frN] | skip); apply twice_v <;> (first | assumption | rfl | (simp at * <;> omega))) (allp g2 allp_nil))))))
end Tst
end

section
open Go Go.Lf Go.Proofs
namespace Tst
theorem ov_len {F B : List Stk} (h : ovV F B = false) : ∀ t ∈ itms F B, t.2.2.l.length < 2 ^ 62 := fun t ht => by have := (ov_short h).2.2 t ht; omega
theorem chk_c (cf cb : Option Nat) (F B : List Stk) : PureC Try.prog 31 [beds (bsl cf F) (bsl cb B)] (it (chkV F B)) := by
  unfold chkV
  cases ho : ovV F B with
  | true => exact ckA_0 cf cb F B ho ho
  | false =>
    have hA := ov_len ho
    cases hn : nmV F B with
    | false => exact ckB_0 cf cb F B hA ho ho (by rw [hn]; rfl)
    | true =>
      cases ht : twV F B with
      | true => exact ckB_1 cf cb F B hA ho ho (by rw [hn]; rfl) ht
      | false => exact ckB_2 cf cb F B hA ho ho (by rw [hn]; rfl) ht
end Tst
end

section
open Go Go.Lf Go.Proofs
namespace Tst
set_option maxHeartbeats 0
theorem with_v (cf cb c : Option Nat) (F B : List Stk) (d i : Int) (l : List Idd) (hd : d = 0 ∨ d = 1) (h1 : 1 ≤ i) (h2 : i ≤ 40) (hl : l.length ≤ 4294967296) (hA : ∀ t ∈ itms F B, t.2.2.l.length ≤ 4294967296) :
    PureC Try.prog 63 [beds (bsl cf F) (bsl cb B), ndl d i, isl c l] (.agg [.sl .fresh 62 (some (halfT (withT F B d i l) 0).length) ((halfT (withT F B d i l) 0).map FW), .sl .fresh 62 (some (halfT (withT F B d i l) 40).length) ((halfT (withT F B d i l) 40).map FW)]) := with_c cf cb c F B d i l hd h1 h2 hl hA
theorem stA_0 (cf cb c : Option Nat) (F B : List Stk) (d i : Int) (l : List Idd) (hc : (chkV F B != (0 : Int)) = true) (g0 : (chkV F B != (0 : Int)) = true) : PureC Try.prog 38 [beds (bsl cf F) (bsl cb B), ndl d i, isl c l]  (AV.tup [AV.agg [AV.atom (Value.slice none (nat_lit 0) (nat_lit 0)), AV.atom (Value.slice none (nat_lit 0) (nat_lit 0))], AV.atom (Value.int IntKind.i64 (chkV F B))]) :=
  funA_ok (H := h38) (n := 37) (ans := [.c, .c, .c, .c, .c, .r (AV.atom (Value.int IntKind.i64 (chkV F B))), .c, .c, .c, .c, .c, .b true, .c, .c, .c, .c]) (ps := [PureC Try.prog (nat_lit 31) [view (AV.agg [AV.sl Mode.any (nat_lit 62) cf (List.map Stk.enc F), AV.sl Mode.any (nat_lit 62) cb (List.map Stk.enc B)])] (AV.atom (Value.int IntKind.i64 (chkV F B))), (chkV F B != (0 : Int)) = true]) (base 37 0) Try.func38 rfl (by simp) rfl (by kernel_rfl)  (allp (by (first | rw [view_yn] | rw [view_two] | rw [view_twoI] | rw [view_beds] | rw [view_frW] | rw [view_frN] | skip); apply chk_c <;> (first | assumption | rfl | (simp at * <;> omega))) (allp g0 allp_nil))
theorem stB_0 (cf cb c : Option Nat) (F B : List Stk) (d i : Int) (l : List Idd) (hc : (chkV F B != (0 : Int)) = false) (hn : ((if ndV d i = true then (0 : Int) else (1 : Int)) != (0 : Int)) = true) (g0 : (chkV F B != (0 : Int)) = false) (g1 : ((if ndV d i = true then (0 : Int) else (1 : Int)) != (0 : Int)) = true) : PureC Try.prog 38 [beds (bsl cf F) (bsl cb B), ndl d i, isl c l]  (AV.tup [AV.agg [AV.atom (Value.slice none (nat_lit 0) (nat_lit 0)), AV.atom (Value.slice none (nat_lit 0) (nat_lit 0))], it 1]) :=
  funA_ok (H := h38) (n := 37) (ans := [.c, .c, .c, .c, .c, .r (AV.atom (Value.int IntKind.i64 (chkV F B))), .c, .c, .c, .c, .c, .b false, .c, .r (AV.atom (Value.int IntKind.i64 (if ndV d i = true then (0 : Int) else (1 : Int)))), .c, .c, .c, .c, .b true, .c, .b true, .c, .b true, .c, .b true, .c, .c, .c, .c, .c]) (ps := [PureC Try.prog (nat_lit 31) [view (AV.agg [AV.sl Mode.any (nat_lit 62) cf (List.map Stk.enc F), AV.sl Mode.any (nat_lit 62) cb (List.map Stk.enc B)])] (AV.atom (Value.int IntKind.i64 (chkV F B))), (chkV F B != (0 : Int)) = false, PureC Try.prog (nat_lit 56) [AV.agg [AV.atom (Value.int IntKind.u8 d), AV.atom (Value.int IntKind.i64 i)]] (AV.atom (Value.int IntKind.i64 (if ndV d i = true then (0 : Int) else (1 : Int)))), ((if ndV d i = true then (0 : Int) else (1 : Int)) != (0 : Int)) = true, ((if ndV d i = true then (0 : Int) else (1 : Int)) != (0 : Int)) = true, ((if ndV d i = true then (0 : Int) else (1 : Int)) != (0 : Int)) = true, ((if ndV d i = true then (0 : Int) else (1 : Int)) != (0 : Int)) = true]) (base 37 0) Try.func38 rfl (by simp) rfl (by kernel_rfl)  (allp (by (first | rw [view_yn] | rw [view_two] | rw [view_twoI] | rw [view_beds] | rw [view_frW] | rw [view_frN] | skip); apply chk_c <;> (first | assumption | rfl | (simp at * <;> omega))) (allp g0 (allp (by apply nck_c <;> (first | assumption | rfl | (simp at * <;> omega))) (allp g1 (allp g1 (allp g1 (allp g1 allp_nil)))))))
theorem stC_0 (cf cb c : Option Nat) (F B : List Stk) (d i : Int) (l : List Idd) (hA : l.length < 2 ^ 62) (hc : (chkV F B != (0 : Int)) = false) (hn : ((if ndV d i = true then (0 : Int) else (1 : Int)) != (0 : Int)) = false) (hm : (!List.all l nmI) = true) (g0 : (chkV F B != (0 : Int)) = false) (g1 : ((if ndV d i = true then (0 : Int) else (1 : Int)) != (0 : Int)) = false) (g2 : (!List.all l nmI) = true) : PureC Try.prog 38 [beds (bsl cf F) (bsl cb B), ndl d i, isl c l]  (AV.tup [AV.agg [AV.atom (Value.slice none (nat_lit 0) (nat_lit 0)), AV.atom (Value.slice none (nat_lit 0) (nat_lit 0))], it 1]) :=
  funA_ok (H := h38) (n := 37) (ans := [.c, .c, .c, .c, .c, .r (AV.atom (Value.int IntKind.i64 (chkV F B))), .c, .c, .c, .c, .c, .b false, .c, .r (AV.atom (Value.int IntKind.i64 (if ndV d i = true then (0 : Int) else (1 : Int)))), .c, .c, .c, .c, .b false, .c, .b false, .r (AV.sl Mode.any (nat_lit 30) c (List.map Idd.enc l)), .r (AV.atom (Value.bool (List.all l nmI))), .c, .c, .b false, .c, .b false, .c, .b true, .c, .c, .c]) (ps := [PureC Try.prog (nat_lit 31) [view (AV.agg [AV.sl Mode.any (nat_lit 62) cf (List.map Stk.enc F), AV.sl Mode.any (nat_lit 62) cb (List.map Stk.enc B)])] (AV.atom (Value.int IntKind.i64 (chkV F B))), (chkV F B != (0 : Int)) = false, PureC Try.prog (nat_lit 56) [AV.agg [AV.atom (Value.int IntKind.u8 d), AV.atom (Value.int IntKind.i64 i)]] (AV.atom (Value.int IntKind.i64 (if ndV d i = true then (0 : Int) else (1 : Int)))), ((if ndV d i = true then (0 : Int) else (1 : Int)) != (0 : Int)) = false, ((if ndV d i = true then (0 : Int) else (1 : Int)) != (0 : Int)) = false, view (AV.sl Mode.any (nat_lit 30) c (List.map Idd.enc l)) = AV.sl Mode.any (nat_lit 30) c (List.map Idd.enc l), PureC Try.prog (nat_lit 62) [AV.sl Mode.any (nat_lit 30) c (List.map Idd.enc l)] (AV.atom (Value.bool (List.all l nmI))), ((if ndV d i = true then (0 : Int) else (1 : Int)) != (0 : Int)) = false, ((if ndV d i = true then (0 : Int) else (1 : Int)) != (0 : Int)) = false, (!List.all l nmI) = true]) (base 37 0) Try.func38 rfl (by simp) rfl (by kernel_rfl)  (allp (by (first | rw [view_yn] | rw [view_two] | rw [view_twoI] | rw [view_beds] | rw [view_frW] | rw [view_frN] | skip); apply chk_c <;> (first | assumption | rfl | (simp at * <;> omega))) (allp g0 (allp (by apply nck_c <;> (first | assumption | rfl | (simp at * <;> omega))) (allp g1 (allp g1 (allp (by first | exact view_ps _ _ _ | exact view_u8 _ _ _ | rfl | exact view_yn _ _ _ _ _ _ _ | exact view_id _ _ _ | exact view_stk _ _ _ | exact view_beds _ _ _ _ _ _ | exact view_pt _ _ _) (allp (by apply nml_c <;> (first | assumption | rfl | (simp at * <;> omega))) (allp g1 (allp g1 (allp g2 allp_nil))))))))))
theorem stD_0 (cf cb c : Option Nat) (F B : List Stk) (d i : Int) (l : List Idd) (hA : l.length < 2 ^ 62) (hc : (chkV F B != (0 : Int)) = false) (hn : ((if ndV d i = true then (0 : Int) else (1 : Int)) != (0 : Int)) = false) (hm : (!List.all l nmI) = false) (h4 : decide ((4 : Int) < (((l.map Idd.enc).length : Nat) : Int)) = true) (g0 : (chkV F B != (0 : Int)) = false) (g1 : ((if ndV d i = true then (0 : Int) else (1 : Int)) != (0 : Int)) = false) (g2 : (!List.all l nmI) = false) (g3 : decide ((4 : Int) < (↑(List.length (List.map Idd.enc l)) : Int)) = true) : PureC Try.prog 38 [beds (bsl cf F) (bsl cb B), ndl d i, isl c l]  (AV.tup [AV.agg [AV.atom (Value.slice none (nat_lit 0) (nat_lit 0)), AV.atom (Value.slice none (nat_lit 0) (nat_lit 0))], it 9]) :=
  funA_ok (H := h38) (n := 37) (ans := [.c, .c, .c, .c, .c, .r (AV.atom (Value.int IntKind.i64 (chkV F B))), .c, .c, .c, .c, .c, .b false, .c, .r (AV.atom (Value.int IntKind.i64 (if ndV d i = true then (0 : Int) else (1 : Int)))), .c, .c, .c, .c, .b false, .c, .b false, .r (AV.sl Mode.any (nat_lit 30) c (List.map Idd.enc l)), .r (AV.atom (Value.bool (List.all l nmI))), .c, .c, .b false, .c, .b false, .c, .b false, .c, .c, .c, .b true, .c, .c, .c]) (ps := [PureC Try.prog (nat_lit 31) [view (AV.agg [AV.sl Mode.any (nat_lit 62) cf (List.map Stk.enc F), AV.sl Mode.any (nat_lit 62) cb (List.map Stk.enc B)])] (AV.atom (Value.int IntKind.i64 (chkV F B))), (chkV F B != (0 : Int)) = false, PureC Try.prog (nat_lit 56) [AV.agg [AV.atom (Value.int IntKind.u8 d), AV.atom (Value.int IntKind.i64 i)]] (AV.atom (Value.int IntKind.i64 (if ndV d i = true then (0 : Int) else (1 : Int)))), ((if ndV d i = true then (0 : Int) else (1 : Int)) != (0 : Int)) = false, ((if ndV d i = true then (0 : Int) else (1 : Int)) != (0 : Int)) = false, view (AV.sl Mode.any (nat_lit 30) c (List.map Idd.enc l)) = AV.sl Mode.any (nat_lit 30) c (List.map Idd.enc l), PureC Try.prog (nat_lit 62) [AV.sl Mode.any (nat_lit 30) c (List.map Idd.enc l)] (AV.atom (Value.bool (List.all l nmI))), ((if ndV d i = true then (0 : Int) else (1 : Int)) != (0 : Int)) = false, ((if ndV d i = true then (0 : Int) else (1 : Int)) != (0 : Int)) = false, (!List.all l nmI) = false, decide ((4 : Int) < (↑(List.length (List.map Idd.enc l)) : Int)) = true]) (base 37 0) Try.func38 rfl (by simp) rfl (by kernel_rfl)  (allp (by (first | rw [view_yn] | rw [view_two] | rw [view_twoI] | rw [view_beds] | rw [view_frW] | rw [view_frN] | skip); apply chk_c <;> (first | assumption | rfl | (simp at * <;> omega))) (allp g0 (allp (by apply nck_c <;> (first | assumption | rfl | (simp at * <;> omega))) (allp g1 (allp g1 (allp (by first | exact view_ps _ _ _ | exact view_u8 _ _ _ | rfl | exact view_yn _ _ _ _ _ _ _ | exact view_id _ _ _ | exact view_stk _ _ _ | exact view_beds _ _ _ _ _ _ | exact view_pt _ _ _) (allp (by apply nml_c <;> (first | assumption | rfl | (simp at * <;> omega))) (allp g1 (allp g1 (allp g2 (allp g3 allp_nil)))))))))))
theorem stE_0 (cf cb c : Option Nat) (F B : List Stk) (d i : Int) (l : List Idd) (hl : l.length < 2 ^ 62) (hl2 : l.length ≤ 4294967296) (hA : ∀ t ∈ itms F B, t.2.2.l.length ≤ 4294967296) (hd : d = 0 ∨ d = 1) (h1 : 1 ≤ i) (h2 : i ≤ 40) (hW : ∀ t ∈ itms (stkW (halfT (withT F B d i l) 0)) (stkW (halfT (withT F B d i l) 40)), t.2.2.l.length < 2 ^ 62) (hc : (chkV F B != (0 : Int)) = false) (hn : ((if ndV d i = true then (0 : Int) else (1 : Int)) != (0 : Int)) = false) (hm : (!List.all l nmI) = false) (h4 : decide ((4 : Int) < (((l.map Idd.enc).length : Nat) : Int)) = false) (g0 : (chkV F B != (0 : Int)) = false) (g1 : ((if ndV d i = true then (0 : Int) else (1 : Int)) != (0 : Int)) = false) (g2 : (!List.all l nmI) = false) (g3 : decide ((4 : Int) < (↑(List.length (List.map Idd.enc l)) : Int)) = false) (g4 : AV.agg [AV.sl Mode.fresh (nat_lit 62) (some (List.length (halfT (withT F B d i l) (0 : Nat)))) (List.map (mapE (remode shareM (10 : Nat))) (List.map FW (halfT (withT F B d i l) (0 : Nat)))), AV.sl Mode.fresh (nat_lit 62) (some (List.length (halfT (withT F B d i l) (40 : Nat)))) (List.map (mapE (remode shareM (10 : Nat))) (List.map FW (halfT (withT F B d i l) (40 : Nat))))] = AV.agg [AV.sl Mode.fresh (nat_lit 62) (some (List.length (halfT (withT F B d i l) (0 : Nat)))) (List.map FW (halfT (withT F B d i l) (0 : Nat))), AV.sl Mode.fresh (nat_lit 62) (some (List.length (halfT (withT F B d i l) (40 : Nat)))) (List.map FW (halfT (withT F B d i l) (40 : Nat)))]) (g5 : twV (stkW (halfT (withT F B d i l) (0 : Nat))) (stkW (halfT (withT F B d i l) (40 : Nat))) = true) : PureC Try.prog 38 [beds (bsl cf F) (bsl cb B), ndl d i, isl c l]  (AV.tup [AV.agg [AV.atom (Value.slice none (nat_lit 0) (nat_lit 0)), AV.atom (Value.slice none (nat_lit 0) (nat_lit 0))], it 8]) :=
  funA_ok (H := h38) (n := 37) (ans := [.c, .c, .c, .c, .c, .r (AV.atom (Value.int IntKind.i64 (chkV F B))), .c, .c, .c, .c, .c, .b false, .c, .r (AV.atom (Value.int IntKind.i64 (if ndV d i = true then (0 : Int) else (1 : Int)))), .c, .c, .c, .c, .b false, .c, .b false, .r (AV.sl Mode.any (nat_lit 30) c (List.map Idd.enc l)), .r (AV.atom (Value.bool (List.all l nmI))), .c, .c, .b false, .c, .b false, .c, .b false, .c, .c, .c, .b false, .c, .c, .c, .r (AV.sl Mode.any (nat_lit 30) c (List.map Idd.enc l)), .r (AV.agg [AV.sl Mode.fresh (nat_lit 62) (some (List.length (halfT (withT F B d i l) (0 : Nat)))) (List.map FW (halfT (withT F B d i l) (0 : Nat))), AV.sl Mode.fresh (nat_lit 62) (some (List.length (halfT (withT F B d i l) (40 : Nat)))) (List.map FW (halfT (withT F B d i l) (40 : Nat)))]), .c, .r (AV.agg [AV.sl Mode.fresh (nat_lit 62) (some (List.length (halfT (withT F B d i l) (0 : Nat)))) (List.map FW (halfT (withT F B d i l) (0 : Nat))), AV.sl Mode.fresh (nat_lit 62) (some (List.length (halfT (withT F B d i l) (40 : Nat)))) (List.map FW (halfT (withT F B d i l) (40 : Nat)))]), .c, .c, .c, .r (AV.atom (Value.bool (twV (stkW (halfT (withT F B d i l) (0 : Nat))) (stkW (halfT (withT F B d i l) (40 : Nat)))))), .c, .c, .b true, .c, .c, .c]) (ps := [PureC Try.prog (nat_lit 31) [view (AV.agg [AV.sl Mode.any (nat_lit 62) cf (List.map Stk.enc F), AV.sl Mode.any (nat_lit 62) cb (List.map Stk.enc B)])] (AV.atom (Value.int IntKind.i64 (chkV F B))), (chkV F B != (0 : Int)) = false, PureC Try.prog (nat_lit 56) [AV.agg [AV.atom (Value.int IntKind.u8 d), AV.atom (Value.int IntKind.i64 i)]] (AV.atom (Value.int IntKind.i64 (if ndV d i = true then (0 : Int) else (1 : Int)))), ((if ndV d i = true then (0 : Int) else (1 : Int)) != (0 : Int)) = false, ((if ndV d i = true then (0 : Int) else (1 : Int)) != (0 : Int)) = false, view (AV.sl Mode.any (nat_lit 30) c (List.map Idd.enc l)) = AV.sl Mode.any (nat_lit 30) c (List.map Idd.enc l), PureC Try.prog (nat_lit 62) [AV.sl Mode.any (nat_lit 30) c (List.map Idd.enc l)] (AV.atom (Value.bool (List.all l nmI))), ((if ndV d i = true then (0 : Int) else (1 : Int)) != (0 : Int)) = false, ((if ndV d i = true then (0 : Int) else (1 : Int)) != (0 : Int)) = false, (!List.all l nmI) = false, decide ((4 : Int) < (↑(List.length (List.map Idd.enc l)) : Int)) = false, view (AV.sl Mode.any (nat_lit 30) c (List.map Idd.enc l)) = AV.sl Mode.any (nat_lit 30) c (List.map Idd.enc l), PureC Try.prog (nat_lit 63) [view (AV.agg [AV.sl Mode.any (nat_lit 62) cf (List.map Stk.enc F), AV.sl Mode.any (nat_lit 62) cb (List.map Stk.enc B)]), AV.agg [AV.atom (Value.int IntKind.u8 d), AV.atom (Value.int IntKind.i64 i)], AV.sl Mode.any (nat_lit 30) c (List.map Idd.enc l)] (AV.agg [AV.sl Mode.fresh (nat_lit 62) (some (List.length (halfT (withT F B d i l) (0 : Nat)))) (List.map FW (halfT (withT F B d i l) (0 : Nat))), AV.sl Mode.fresh (nat_lit 62) (some (List.length (halfT (withT F B d i l) (40 : Nat)))) (List.map FW (halfT (withT F B d i l) (40 : Nat)))]), AV.agg [AV.sl Mode.fresh (nat_lit 62) (some (List.length (halfT (withT F B d i l) (0 : Nat)))) (List.map (mapE (remode shareM (10 : Nat))) (List.map FW (halfT (withT F B d i l) (0 : Nat)))), AV.sl Mode.fresh (nat_lit 62) (some (List.length (halfT (withT F B d i l) (40 : Nat)))) (List.map (mapE (remode shareM (10 : Nat))) (List.map FW (halfT (withT F B d i l) (40 : Nat))))] = AV.agg [AV.sl Mode.fresh (nat_lit 62) (some (List.length (halfT (withT F B d i l) (0 : Nat)))) (List.map FW (halfT (withT F B d i l) (0 : Nat))), AV.sl Mode.fresh (nat_lit 62) (some (List.length (halfT (withT F B d i l) (40 : Nat)))) (List.map FW (halfT (withT F B d i l) (40 : Nat)))], PureC Try.prog (nat_lit 55) [view (AV.agg [AV.sl Mode.fresh (nat_lit 62) (some (List.length (halfT (withT F B d i l) (0 : Nat)))) (List.map FW (halfT (withT F B d i l) (0 : Nat))), AV.sl Mode.fresh (nat_lit 62) (some (List.length (halfT (withT F B d i l) (40 : Nat)))) (List.map FW (halfT (withT F B d i l) (40 : Nat)))])] (AV.atom (Value.bool (twV (stkW (halfT (withT F B d i l) (0 : Nat))) (stkW (halfT (withT F B d i l) (40 : Nat)))))), twV (stkW (halfT (withT F B d i l) (0 : Nat))) (stkW (halfT (withT F B d i l) (40 : Nat))) = true]) (base 37 0) Try.func38 rfl (by simp) rfl (by kernel_rfl)  (allp (by (first | rw [view_yn] | rw [view_two] | rw [view_twoI] | rw [view_beds] | rw [view_frW] | rw [view_frN] | skip); apply chk_c <;> (first | assumption | rfl | (simp at * <;> omega))) (allp g0 (allp (by apply nck_c <;> (first | assumption | rfl | (simp at * <;> omega))) (allp g1 (allp g1 (allp (by first | exact view_ps _ _ _ | exact view_u8 _ _ _ | rfl | exact view_yn _ _ _ _ _ _ _ | exact view_id _ _ _ | exact view_stk _ _ _ | exact view_beds _ _ _ _ _ _ | exact view_pt _ _ _) (allp (by apply nml_c <;> (first | assumption | rfl | (simp at * <;> omega))) (allp g1 (allp g1 (allp g2 (allp g3 (allp (by first | exact view_ps _ _ _ | exact view_u8 _ _ _ | rfl | exact view_yn _ _ _ _ _ _ _ | exact view_id _ _ _ | exact view_stk _ _ _ | exact view_beds _ _ _ _ _ _ | exact view_pt _ _ _) (allp (by (first | rw [view_yn] | rw [view_two] | rw [view_twoI] | rw [view_beds] | rw [view_frW] | rw [view_frN] | skip); apply with_v <;> (first | assumption | rfl | (simp at * <;> omega))) (allp g4 (allp (by (first | rw [view_yn] | rw [view_two] | rw [view_twoI] | rw [view_beds] | rw [view_frW] | rw [view_frN] | skip); apply twice_v <;> (first | assumption | rfl | (simp at * <;> omega))) (allp g5 allp_nil))))))))))))))))
theorem stE_1 (cf cb c : Option Nat) (F B : List Stk) (d i : Int) (l : List Idd) (hl : l.length < 2 ^ 62) (hl2 : l.length ≤ 4294967296) (hA : ∀ t ∈ itms F B, t.2.2.l.length ≤ 4294967296) (hd : d = 0 ∨ d = 1) (h1 : 1 ≤ i) (h2 : i ≤ 40) (hW : ∀ t ∈ itms (stkW (halfT (withT F B d i l) 0)) (stkW (halfT (withT F B d i l) 40)), t.2.2.l.length < 2 ^ 62) (hc : (chkV F B != (0 : Int)) = false) (hn : ((if ndV d i = true then (0 : Int) else (1 : Int)) != (0 : Int)) = false) (hm : (!List.all l nmI) = false) (h4 : decide ((4 : Int) < (((l.map Idd.enc).length : Nat) : Int)) = false) (g0 : (chkV F B != (0 : Int)) = false) (g1 : ((if ndV d i = true then (0 : Int) else (1 : Int)) != (0 : Int)) = false) (g2 : (!List.all l nmI) = false) (g3 : decide ((4 : Int) < (↑(List.length (List.map Idd.enc l)) : Int)) = false) (g4 : AV.agg [AV.sl Mode.fresh (nat_lit 62) (some (List.length (halfT (withT F B d i l) (0 : Nat)))) (List.map (mapE (remode shareM (10 : Nat))) (List.map FW (halfT (withT F B d i l) (0 : Nat)))), AV.sl Mode.fresh (nat_lit 62) (some (List.length (halfT (withT F B d i l) (40 : Nat)))) (List.map (mapE (remode shareM (10 : Nat))) (List.map FW (halfT (withT F B d i l) (40 : Nat))))] = AV.agg [AV.sl Mode.fresh (nat_lit 62) (some (List.length (halfT (withT F B d i l) (0 : Nat)))) (List.map FW (halfT (withT F B d i l) (0 : Nat))), AV.sl Mode.fresh (nat_lit 62) (some (List.length (halfT (withT F B d i l) (40 : Nat)))) (List.map FW (halfT (withT F B d i l) (40 : Nat)))]) (g5 : twV (stkW (halfT (withT F B d i l) (0 : Nat))) (stkW (halfT (withT F B d i l) (40 : Nat))) = false) : PureC Try.prog 38 [beds (bsl cf F) (bsl cb B), ndl d i, isl c l]  (AV.tup [AV.agg [AV.sl Mode.fresh (nat_lit 62) (some (List.length (halfT (withT F B d i l) (0 : Nat)))) (List.map (mapE (remode shareM (11 : Nat))) (List.map FW (halfT (withT F B d i l) (0 : Nat)))), AV.sl Mode.fresh (nat_lit 62) (some (List.length (halfT (withT F B d i l) (40 : Nat)))) (List.map (mapE (remode shareM (11 : Nat))) (List.map FW (halfT (withT F B d i l) (40 : Nat))))], it 0]) :=
  funA_ok (H := h38) (n := 37) (ans := [.c, .c, .c, .c, .c, .r (AV.atom (Value.int IntKind.i64 (chkV F B))), .c, .c, .c, .c, .c, .b false, .c, .r (AV.atom (Value.int IntKind.i64 (if ndV d i = true then (0 : Int) else (1 : Int)))), .c, .c, .c, .c, .b false, .c, .b false, .r (AV.sl Mode.any (nat_lit 30) c (List.map Idd.enc l)), .r (AV.atom (Value.bool (List.all l nmI))), .c, .c, .b false, .c, .b false, .c, .b false, .c, .c, .c, .b false, .c, .c, .c, .r (AV.sl Mode.any (nat_lit 30) c (List.map Idd.enc l)), .r (AV.agg [AV.sl Mode.fresh (nat_lit 62) (some (List.length (halfT (withT F B d i l) (0 : Nat)))) (List.map FW (halfT (withT F B d i l) (0 : Nat))), AV.sl Mode.fresh (nat_lit 62) (some (List.length (halfT (withT F B d i l) (40 : Nat)))) (List.map FW (halfT (withT F B d i l) (40 : Nat)))]), .c, .r (AV.agg [AV.sl Mode.fresh (nat_lit 62) (some (List.length (halfT (withT F B d i l) (0 : Nat)))) (List.map FW (halfT (withT F B d i l) (0 : Nat))), AV.sl Mode.fresh (nat_lit 62) (some (List.length (halfT (withT F B d i l) (40 : Nat)))) (List.map FW (halfT (withT F B d i l) (40 : Nat)))]), .c, .c, .c, .r (AV.atom (Value.bool (twV (stkW (halfT (withT F B d i l) (0 : Nat))) (stkW (halfT (withT F B d i l) (40 : Nat)))))), .c, .c, .b false, .c, .c, .c]) (ps := [PureC Try.prog (nat_lit 31) [view (AV.agg [AV.sl Mode.any (nat_lit 62) cf (List.map Stk.enc F), AV.sl Mode.any (nat_lit 62) cb (List.map Stk.enc B)])] (AV.atom (Value.int IntKind.i64 (chkV F B))), (chkV F B != (0 : Int)) = false, PureC Try.prog (nat_lit 56) [AV.agg [AV.atom (Value.int IntKind.u8 d), AV.atom (Value.int IntKind.i64 i)]] (AV.atom (Value.int IntKind.i64 (if ndV d i = true then (0 : Int) else (1 : Int)))), ((if ndV d i = true then (0 : Int) else (1 : Int)) != (0 : Int)) = false, ((if ndV d i = true then (0 : Int) else (1 : Int)) != (0 : Int)) = false, view (AV.sl Mode.any (nat_lit 30) c (List.map Idd.enc l)) = AV.sl Mode.any (nat_lit 30) c (List.map Idd.enc l), PureC Try.prog (nat_lit 62) [AV.sl Mode.any (nat_lit 30) c (List.map Idd.enc l)] (AV.atom (Value.bool (List.all l nmI))), ((if ndV d i = true then (0 : Int) else (1 : Int)) != (0 : Int)) = false, ((if ndV d i = true then (0 : Int) else (1 : Int)) != (0 : Int)) = false, (!List.all l nmI) = false, decide ((4 : Int) < (↑(List.length (List.map Idd.enc l)) : Int)) = false, view (AV.sl Mode.any (nat_lit 30) c (List.map Idd.enc l)) = AV.sl Mode.any (nat_lit 30) c (List.map Idd.enc l), PureC Try.prog (nat_lit 63) [view (AV.agg [AV.sl Mode.any (nat_lit 62) cf (List.map Stk.enc F), AV.sl Mode.any (nat_lit 62) cb (List.map Stk.enc B)]), AV.agg [AV.atom (Value.int IntKind.u8 d), AV.atom (Value.int IntKind.i64 i)], AV.sl Mode.any (nat_lit 30) c (List.map Idd.enc l)] (AV.agg [AV.sl Mode.fresh (nat_lit 62) (some (List.length (halfT (withT F B d i l) (0 : Nat)))) (List.map FW (halfT (withT F B d i l) (0 : Nat))), AV.sl Mode.fresh (nat_lit 62) (some (List.length (halfT (withT F B d i l) (40 : Nat)))) (List.map FW (halfT (withT F B d i l) (40 : Nat)))]), AV.agg [AV.sl Mode.fresh (nat_lit 62) (some (List.length (halfT (withT F B d i l) (0 : Nat)))) (List.map (mapE (remode shareM (10 : Nat))) (List.map FW (halfT (withT F B d i l) (0 : Nat)))), AV.sl Mode.fresh (nat_lit 62) (some (List.length (halfT (withT F B d i l) (40 : Nat)))) (List.map (mapE (remode shareM (10 : Nat))) (List.map FW (halfT (withT F B d i l) (40 : Nat))))] = AV.agg [AV.sl Mode.fresh (nat_lit 62) (some (List.length (halfT (withT F B d i l) (0 : Nat)))) (List.map FW (halfT (withT F B d i l) (0 : Nat))), AV.sl Mode.fresh (nat_lit 62) (some (List.length (halfT (withT F B d i l) (40 : Nat)))) (List.map FW (halfT (withT F B d i l) (40 : Nat)))], PureC Try.prog (nat_lit 55) [view (AV.agg [AV.sl Mode.fresh (nat_lit 62) (some (List.length (halfT (withT F B d i l) (0 : Nat)))) (List.map FW (halfT (withT F B d i l) (0 : Nat))), AV.sl Mode.fresh (nat_lit 62) (some (List.length (halfT (withT F B d i l) (40 : Nat)))) (List.map FW (halfT (withT F B d i l) (40 : Nat)))])] (AV.atom (Value.bool (twV (stkW (halfT (withT F B d i l) (0 : Nat))) (stkW (halfT (withT F B d i l) (40 : Nat)))))), twV (stkW (halfT (withT F B d i l) (0 : Nat))) (stkW (halfT (withT F B d i l) (40 : Nat))) = false]) (base 37 0) Try.func38 rfl (by simp) rfl (by kernel_rfl)  (allp (by (first | rw [view_yn] | rw [view_two] | rw [view_twoI] | rw [view_beds] | rw [view_frW] | rw [view_frN] | skip); apply chk_c <;> (first | assumption | rfl | (simp at * <;> omega))) (allp g0 (allp (by apply nck_c <;> (first | assumption | rfl | (simp at * <;> omega))) (allp g1 (allp g1 (allp (by first | exact view_ps _ _ _ | exact view_u8 _ _ _ | rfl | exact view_yn _ _ _ _ _ _ _ | exact view_id _ _ _ | exact view_stk _ _ _ | exact view_beds _ _ _ _ _ _ | exact view_pt _ _ _) (allp (by apply nml_c <;> (first | assumption | rfl | (simp at * <;> omega))) (allp g1 (allp g1 (allp g2 (allp g3 (allp (by first | exact view_ps _ _ _ | exact view_u8 _ _ _ | rfl | exact view_yn _ _ _ _ _ _ _ | exact view_id _ _ _ | exact view_stk _ _ _ | exact view_beds _ _ _ _ _ _ | exact view_pt _ _ _) (allp (by (first | rw [view_yn] | rw [view_two] | rw [view_twoI] | rw [view_beds] | rw [view_frW] | rw [view_frN] | skip); apply with_v <;> (first | assumption | rfl | (simp at * <;> omega))) (allp g4 (allp (by (first | rw [view_yn] | rw [view_two] | rw [view_twoI] | rw [view_beds] | rw [view_frW] | rw [view_frN] | skip); apply twice_v <;> (first | assumption | rfl | (simp at * <;> omega))) (allp g5 allp_nil))))))))))))))))
end Tst
end

section
open Go Go.Lf Go.Proofs
namespace Tst
theorem smap_FW (k : Nat) (x : List (List Idd)) : (x.map FW).map (mapE (remode shareM (k + 2))) = x.map FW := by
  rw [List.map_map]
  refine List.map_congr_left fun l _ => ?_
  show AV.sl .fresh 30 (some l.length) ((l.map Idd.enc).map (mapE (remode shareM (k + 1)))) = _
  rw [map_re]; rfl
abbrev nilR (e : Int) : AV := .tup [.agg [niln, niln], it e]
abbrev bedsR (x y : List (List Idd)) : AV := .tup [.agg [frW x, frW y], it 0]
def setV (F B : List Stk) (d i : Int) (l : List Idd) : AV :=
  if chkV F B != 0 then nilR (chkV F B) else if !ndV d i || !l.all nmI then nilR 1 else if 4 < l.length then nilR 9
  else if twV (stkW (halfT (withT F B d i l) 0)) (stkW (halfT (withT F B d i l) 40)) then nilR 8 else bedsR (halfT (withT F B d i l) 0) (halfT (withT F B d i l) 40)
theorem ndV_in {d i : Int} (h : ndV d i = true) : (d = 0 ∨ d = 1) ∧ 1 ≤ i ∧ i ≤ 40 := by
  unfold ndV at h
  simp only [Bool.and_eq_true, Bool.or_eq_true, beq_iff_eq, Bool.not_eq_true', decide_eq_false_iff_not] at h
  exact ⟨h.1.1, by omega, by omega⟩
theorem chk_len {F B : List Stk} (h : chkV F B = 0) : F.length ≤ 40 ∧ B.length ≤ 40 ∧ ∀ t ∈ itms F B, t.2.2.l.length ≤ 4 := by
  unfold chkV at h
  cases ho : ovV F B with
  | true => rw [ho] at h; simp at h
  | false => exact ov_short ho
theorem itms_stkW_mem {x y : List (List Idd)} {t : Int × Int × Stk} (h : t ∈ itms (stkW x) (stkW y)) : t.2.2.l ∈ x ∨ t.2.2.l ∈ y := by
  rcases (itms_ok h).2.2.2 with h | h <;> obtain ⟨l, hl, he⟩ := List.mem_map.1 h <;> rw [← he]
  · exact .inl hl
  · exact .inr hl
theorem halfT_mem {tb : List (List Idd)} {k : Nat} {l : List Idd} (h : l ∈ halfT tb k) : l ∈ tb := by
  unfold halfT shT at h
  obtain ⟨s, hs, rfl⟩ := List.mem_map.1 h
  have := List.mem_of_mem_drop (List.mem_of_mem_take (List.mem_of_mem_take hs))
  obtain ⟨l, hl, rfl⟩ := List.mem_map.1 this
  exact hl
theorem withT_mem {F B : List Stk} {d i : Int} {l x : List Idd} (h : x ∈ withT F B d i l) : x = l ∨ x = [] ∨ ∃ t ∈ itms F B, x = t.2.2.l := by
  rcases List.mem_or_eq_of_mem_set h with h | h
  · exact .inr (tbOf_mem _ _ h)
  · exact .inl h
theorem withT_len4 {F B : List Stk} {d i : Int} {l : List Idd} {n : Nat} (hA : ∀ t ∈ itms F B, t.2.2.l.length ≤ n) (hl : l.length ≤ n) : ∀ x ∈ withT F B d i l, x.length ≤ n := by
  intro x hx
  rcases withT_mem hx with rfl | rfl | ⟨t, ht, rfl⟩
  · exact hl
  · simp
  · exact hA t ht
theorem set_c (cf cb c : Option Nat) (F B : List Stk) (d i : Int) (l : List Idd) (hl : l.length ≤ 4294967296) : PureC Try.prog 38 [beds (bsl cf F) (bsl cb B), ndl d i, isl c l] (setV F B d i l) := by
  unfold setV
  have h62 : l.length < 2 ^ 62 := by omega
  cases hc : (chkV F B != 0) with
  | true => exact stA_0 cf cb c F B d i l hc hc
  | false =>
    have hc0 : chkV F B = 0 := by simpa using hc
    obtain ⟨hF, hB, hA⟩ := chk_len hc0
    cases hn : ndV d i with
    | false => exact stB_0 cf cb c F B d i l hc (by rw [hn]; rfl) hc (by rw [hn]; rfl)
    | true =>
      have hn' : ((if ndV d i = true then (0 : Int) else (1 : Int)) != (0 : Int)) = false := by rw [hn]; rfl
      obtain ⟨hd, h1, h2⟩ := ndV_in hn
      cases hm : l.all nmI with
      | false => exact stC_0 cf cb c F B d i l h62 hc hn' (by rw [hm]; rfl) hc hn' (by rw [hm]; rfl)
      | true =>
        have hm' : (!List.all l nmI) = false := by rw [hm]; rfl
        by_cases h4 : 4 < l.length
        · have h4' : decide ((4 : Int) < (((l.map Idd.enc).length : Nat) : Int)) = true := by rw [List.length_map]; exact decide_eq_true (by omega)
          simp only [if_pos h4]
          exact stD_0 cf cb c F B d i l h62 hc hn' hm' h4' hc hn' hm' h4'
        · have h4' : decide ((4 : Int) < (((l.map Idd.enc).length : Nat) : Int)) = false := by rw [List.length_map]; exact decide_eq_false (by omega)
          simp only [if_neg h4]
          have hlen := withT_len4 (F := F) (B := B) (d := d) (i := i) (l := l) (n := 4) hA (by omega)
          have hW : ∀ t ∈ itms (stkW (halfT (withT F B d i l) 0)) (stkW (halfT (withT F B d i l) 40)), t.2.2.l.length < 2 ^ 62 := by
            intro t ht
            rcases itms_stkW_mem ht with h | h <;> have := hlen _ (halfT_mem h) <;> omega
          have hA' : ∀ t ∈ itms F B, t.2.2.l.length ≤ 4294967296 := fun t ht => by have := hA t ht; omega
          cases ht : twV (stkW (halfT (withT F B d i l) 0)) (stkW (halfT (withT F B d i l) 40)) with
          | true => exact stE_0 cf cb c F B d i l h62 hl hA' hd h1 h2 hW hc hn' hm' h4' hc hn' hm' h4' (by rw [smap_FW, smap_FW]) ht
          | false =>
            have h := stE_1 cf cb c F B d i l h62 hl hA' hd h1 h2 hW hc hn' hm' h4' hc hn' hm' h4' (by rw [smap_FW, smap_FW]) ht
            rw [smap_FW, smap_FW] at h
            exact h
end Tst
end

section
open Go Go.Lf Go.Proofs
namespace Tst
set_option maxHeartbeats 0
theorem view_twoF (ca cb : Option Nat) (l m : List Idd) : view (.sl .own 62 (some 2) [.sl .fresh 30 ca (l.map Idd.enc), .sl .fresh 30 cb (m.map Idd.enc)]) = twoI ca cb l m := by
  show AV.sl .any 62 (some 2) [.sl .any 30 ca ((l.map Idd.enc).map (mapE (remode (fun _ => .any) 10))), .sl .any 30 cb ((m.map Idd.enc).map (mapE (remode (fun _ => .any) 10)))] = _
  rw [map_idd, map_idd]
theorem ndlAt_s (d i : Int) (cf cb : Option Nat) (f b : List Stk) (h : ndV d i = true) (hf : ∀ s ∈ f, s.l.length ≤ 4294967296) (hb : ∀ s ∈ b, s.l.length ≤ 4294967296) :
    PureC Try.prog 33 [beds (bsl cf f) (bsl cb b), ndl d i] (.sl .fresh 30 (some (stkAt d i f b).length) ((stkAt d i f b).map Idd.enc)) := by
  have h1 := (ndlAt_v d i cf cb f b h hf hb).share
  have e : share (.sl .own 30 (some (stkAt d i f b).length) ((stkAt d i f b).map Idd.enc)) = .sl .fresh 30 (some (stkAt d i f b).length) ((stkAt d i f b).map Idd.enc) := by
    show AV.sl .fresh 30 (some (stkAt d i f b).length) (((stkAt d i f b).map Idd.enc).map (mapE (remode shareM 11))) = _
    rw [map_re]
  rwa [e] at h1
theorem with_n (cf cb : Option Nat) (F B : List Stk) (d i : Int) (hd : d = 0 ∨ d = 1) (h1 : 1 ≤ i) (h2 : i ≤ 40) (hA : ∀ t ∈ itms F B, t.2.2.l.length ≤ 4294967296) :
    PureC Try.prog 63 [beds (bsl cf F) (bsl cb B), ndl d i, niln] (.agg [.sl .fresh 62 (some (halfT (withT F B d i []) 0).length) ((halfT (withT F B d i []) 0).map FW), .sl .fresh 62 (some (halfT (withT F B d i []) 40).length) ((halfT (withT F B d i []) 40).map FW)]) :=
  (with_v cf cb (some 0) F B d i [] hd h1 h2 (by simp) hA).args (.cons (Le.refl _) (.cons (Le.refl _) (.cons (Le.nil 30) .nil)))
theorem jnA_0 (cf cb : Option Nat) (F B : List Stk) (d i e k : Int) (hc : (chkV F B != (0 : Int)) = true) (g0 : (chkV F B != (0 : Int)) = true) : PureC Try.prog 40 [beds (bsl cf F) (bsl cb B), ndl d i, ndl e k]  (AV.tup [AV.agg [AV.atom (Value.slice none (nat_lit 0) (nat_lit 0)), AV.atom (Value.slice none (nat_lit 0) (nat_lit 0))], AV.atom (Value.int IntKind.i64 (chkV F B))]) :=
  funA_ok (H := h40) (n := 68) (ans := [.c, .c, .c, .c, .c, .c, .r (AV.atom (Value.int IntKind.i64 (chkV F B))), .c, .c, .c, .c, .c, .b true, .c, .c, .c, .c]) (ps := [PureC Try.prog (nat_lit 31) [view (AV.agg [AV.sl Mode.any (nat_lit 62) cf (List.map Stk.enc F), AV.sl Mode.any (nat_lit 62) cb (List.map Stk.enc B)])] (AV.atom (Value.int IntKind.i64 (chkV F B))), (chkV F B != (0 : Int)) = true]) (base 68 0) Try.func40 rfl (by simp) rfl (by kernel_rfl)  (allp (by (first | rw [view_yn] | rw [view_two] | rw [view_twoI] | rw [view_beds] | rw [view_frW] | rw [view_frN] | rw [view_twoF] | skip); apply chk_c <;> (first | assumption | rfl | (simp at * <;> omega))) (allp g0 allp_nil))
theorem jnB_0 (cf cb : Option Nat) (F B : List Stk) (d i e k : Int) (hc : (chkV F B != (0 : Int)) = false) (g0 : (chkV F B != (0 : Int)) = false) (g1 : ((if ndV d i = true then (0 : Int) else (1 : Int)) != (0 : Int)) = true) : PureC Try.prog 40 [beds (bsl cf F) (bsl cb B), ndl d i, ndl e k]  (AV.tup [AV.agg [AV.atom (Value.slice none (nat_lit 0) (nat_lit 0)), AV.atom (Value.slice none (nat_lit 0) (nat_lit 0))], it 1]) :=
  funA_ok (H := h40) (n := 68) (ans := [.c, .c, .c, .c, .c, .c, .r (AV.atom (Value.int IntKind.i64 (chkV F B))), .c, .c, .c, .c, .c, .b false, .c, .r (AV.atom (Value.int IntKind.i64 (if ndV d i = true then (0 : Int) else (1 : Int)))), .c, .c, .c, .c, .b true, .c, .b true, .c, .b true, .c, .b true, .c, .c, .c, .c, .c, .c, .c, .c, .c, .c, .c, .c, .c, .c, .c, .c, .c, .c]) (ps := [PureC Try.prog (nat_lit 31) [view (AV.agg [AV.sl Mode.any (nat_lit 62) cf (List.map Stk.enc F), AV.sl Mode.any (nat_lit 62) cb (List.map Stk.enc B)])] (AV.atom (Value.int IntKind.i64 (chkV F B))), (chkV F B != (0 : Int)) = false, PureC Try.prog (nat_lit 56) [AV.agg [AV.atom (Value.int IntKind.u8 d), AV.atom (Value.int IntKind.i64 i)]] (AV.atom (Value.int IntKind.i64 (if ndV d i = true then (0 : Int) else (1 : Int)))), ((if ndV d i = true then (0 : Int) else (1 : Int)) != (0 : Int)) = true, ((if ndV d i = true then (0 : Int) else (1 : Int)) != (0 : Int)) = true, ((if ndV d i = true then (0 : Int) else (1 : Int)) != (0 : Int)) = true, ((if ndV d i = true then (0 : Int) else (1 : Int)) != (0 : Int)) = true]) (base 68 0) Try.func40 rfl (by simp) rfl (by kernel_rfl)  (allp (by (first | rw [view_yn] | rw [view_two] | rw [view_twoI] | rw [view_beds] | rw [view_frW] | rw [view_frN] | rw [view_twoF] | skip); apply chk_c <;> (first | assumption | rfl | (simp at * <;> omega))) (allp g0 (allp (by apply nck_c <;> (first | assumption | rfl | (simp at * <;> omega))) (allp g1 (allp g1 (allp g1 (allp g1 allp_nil)))))))
theorem jnB_1 (cf cb : Option Nat) (F B : List Stk) (d i e k : Int) (hc : (chkV F B != (0 : Int)) = false) (g0 : (chkV F B != (0 : Int)) = false) (g1 : ((if ndV d i = true then (0 : Int) else (1 : Int)) != (0 : Int)) = false) (g2 : ((if ndV e k = true then (0 : Int) else (1 : Int)) != (0 : Int)) = true) : PureC Try.prog 40 [beds (bsl cf F) (bsl cb B), ndl d i, ndl e k]  (AV.tup [AV.agg [AV.atom (Value.slice none (nat_lit 0) (nat_lit 0)), AV.atom (Value.slice none (nat_lit 0) (nat_lit 0))], it 1]) :=
  funA_ok (H := h40) (n := 68) (ans := [.c, .c, .c, .c, .c, .c, .r (AV.atom (Value.int IntKind.i64 (chkV F B))), .c, .c, .c, .c, .c, .b false, .c, .r (AV.atom (Value.int IntKind.i64 (if ndV d i = true then (0 : Int) else (1 : Int)))), .c, .c, .c, .c, .b false, .c, .b false, .r (AV.atom (Value.int IntKind.i64 (if ndV e k = true then (0 : Int) else (1 : Int)))), .c, .c, .b false, .c, .b false, .c, .c, .b true, .c, .b true, .c, .b true, .c, .b true, .c, .b true, .c, .b true, .c, .c, .c, .c, .c]) (ps := [PureC Try.prog (nat_lit 31) [view (AV.agg [AV.sl Mode.any (nat_lit 62) cf (List.map Stk.enc F), AV.sl Mode.any (nat_lit 62) cb (List.map Stk.enc B)])] (AV.atom (Value.int IntKind.i64 (chkV F B))), (chkV F B != (0 : Int)) = false, PureC Try.prog (nat_lit 56) [AV.agg [AV.atom (Value.int IntKind.u8 d), AV.atom (Value.int IntKind.i64 i)]] (AV.atom (Value.int IntKind.i64 (if ndV d i = true then (0 : Int) else (1 : Int)))), ((if ndV d i = true then (0 : Int) else (1 : Int)) != (0 : Int)) = false, ((if ndV d i = true then (0 : Int) else (1 : Int)) != (0 : Int)) = false, PureC Try.prog (nat_lit 56) [AV.agg [AV.atom (Value.int IntKind.u8 e), AV.atom (Value.int IntKind.i64 k)]] (AV.atom (Value.int IntKind.i64 (if ndV e k = true then (0 : Int) else (1 : Int)))), ((if ndV d i = true then (0 : Int) else (1 : Int)) != (0 : Int)) = false, ((if ndV d i = true then (0 : Int) else (1 : Int)) != (0 : Int)) = false, ((if ndV e k = true then (0 : Int) else (1 : Int)) != (0 : Int)) = true, ((if ndV e k = true then (0 : Int) else (1 : Int)) != (0 : Int)) = true, ((if ndV e k = true then (0 : Int) else (1 : Int)) != (0 : Int)) = true, ((if ndV e k = true then (0 : Int) else (1 : Int)) != (0 : Int)) = true, ((if ndV e k = true then (0 : Int) else (1 : Int)) != (0 : Int)) = true, ((if ndV e k = true then (0 : Int) else (1 : Int)) != (0 : Int)) = true]) (base 68 0) Try.func40 rfl (by simp) rfl (by kernel_rfl)  (allp (by (first | rw [view_yn] | rw [view_two] | rw [view_twoI] | rw [view_beds] | rw [view_frW] | rw [view_frN] | rw [view_twoF] | skip); apply chk_c <;> (first | assumption | rfl | (simp at * <;> omega))) (allp g0 (allp (by apply nck_c <;> (first | assumption | rfl | (simp at * <;> omega))) (allp g1 (allp g1 (allp (by apply nck_c <;> (first | assumption | rfl | (simp at * <;> omega))) (allp g1 (allp g1 (allp g2 (allp g2 (allp g2 (allp g2 (allp g2 (allp g2 allp_nil))))))))))))))
theorem jnB_2 (cf cb : Option Nat) (F B : List Stk) (d i e k : Int) (hc : (chkV F B != (0 : Int)) = false) (g0 : (chkV F B != (0 : Int)) = false) (g1 : ((if ndV d i = true then (0 : Int) else (1 : Int)) != (0 : Int)) = false) (g2 : ((if ndV e k = true then (0 : Int) else (1 : Int)) != (0 : Int)) = false) (g3 : (d == e) = true) : PureC Try.prog 40 [beds (bsl cf F) (bsl cb B), ndl d i, ndl e k]  (AV.tup [AV.agg [AV.atom (Value.slice none (nat_lit 0) (nat_lit 0)), AV.atom (Value.slice none (nat_lit 0) (nat_lit 0))], it 1]) :=
  funA_ok (H := h40) (n := 68) (ans := [.c, .c, .c, .c, .c, .c, .r (AV.atom (Value.int IntKind.i64 (chkV F B))), .c, .c, .c, .c, .c, .b false, .c, .r (AV.atom (Value.int IntKind.i64 (if ndV d i = true then (0 : Int) else (1 : Int)))), .c, .c, .c, .c, .b false, .c, .b false, .r (AV.atom (Value.int IntKind.i64 (if ndV e k = true then (0 : Int) else (1 : Int)))), .c, .c, .b false, .c, .b false, .c, .c, .b false, .c, .b false, .c, .c, .c, .b false, .c, .b false, .c, .c, .c, .b false, .c, .b false, .c, .b true, .c, .c, .c]) (ps := [PureC Try.prog (nat_lit 31) [view (AV.agg [AV.sl Mode.any (nat_lit 62) cf (List.map Stk.enc F), AV.sl Mode.any (nat_lit 62) cb (List.map Stk.enc B)])] (AV.atom (Value.int IntKind.i64 (chkV F B))), (chkV F B != (0 : Int)) = false, PureC Try.prog (nat_lit 56) [AV.agg [AV.atom (Value.int IntKind.u8 d), AV.atom (Value.int IntKind.i64 i)]] (AV.atom (Value.int IntKind.i64 (if ndV d i = true then (0 : Int) else (1 : Int)))), ((if ndV d i = true then (0 : Int) else (1 : Int)) != (0 : Int)) = false, ((if ndV d i = true then (0 : Int) else (1 : Int)) != (0 : Int)) = false, PureC Try.prog (nat_lit 56) [AV.agg [AV.atom (Value.int IntKind.u8 e), AV.atom (Value.int IntKind.i64 k)]] (AV.atom (Value.int IntKind.i64 (if ndV e k = true then (0 : Int) else (1 : Int)))), ((if ndV d i = true then (0 : Int) else (1 : Int)) != (0 : Int)) = false, ((if ndV d i = true then (0 : Int) else (1 : Int)) != (0 : Int)) = false, ((if ndV e k = true then (0 : Int) else (1 : Int)) != (0 : Int)) = false, ((if ndV e k = true then (0 : Int) else (1 : Int)) != (0 : Int)) = false, ((if ndV e k = true then (0 : Int) else (1 : Int)) != (0 : Int)) = false, ((if ndV e k = true then (0 : Int) else (1 : Int)) != (0 : Int)) = false, ((if ndV e k = true then (0 : Int) else (1 : Int)) != (0 : Int)) = false, ((if ndV e k = true then (0 : Int) else (1 : Int)) != (0 : Int)) = false, (d == e) = true]) (base 68 0) Try.func40 rfl (by simp) rfl (by kernel_rfl)  (allp (by (first | rw [view_yn] | rw [view_two] | rw [view_twoI] | rw [view_beds] | rw [view_frW] | rw [view_frN] | rw [view_twoF] | skip); apply chk_c <;> (first | assumption | rfl | (simp at * <;> omega))) (allp g0 (allp (by apply nck_c <;> (first | assumption | rfl | (simp at * <;> omega))) (allp g1 (allp g1 (allp (by apply nck_c <;> (first | assumption | rfl | (simp at * <;> omega))) (allp g1 (allp g1 (allp g2 (allp g2 (allp g2 (allp g2 (allp g2 (allp g2 (allp g3 allp_nil)))))))))))))))
theorem j14_0 (cf cb : Option Nat) (F B : List Stk) (d i e k : Int) (J : List Idd) (hd : d = 0 ∨ d = 1) (h1 : 1 ≤ i) (h2 : i ≤ 40) (he : e = 0 ∨ e = 1) (h3 : 1 ≤ k) (h4 : k ≤ 40) (hA : ∀ t ∈ itms F B, t.2.2.l.length ≤ 4294967296) (hJ : J.length ≤ 4294967296) (hW : ∀ t ∈ itms (stkW (halfT (withT F B d i []) 0)) (stkW (halfT (withT F B d i []) 40)), t.2.2.l.length ≤ 4294967296) (g0 : AV.agg [AV.sl Mode.fresh (nat_lit 62) (some (List.length (halfT (withT F B d i []) (0 : Nat)))) (List.map (mapE (remode shareM (10 : Nat))) (List.map FW (halfT (withT F B d i []) (0 : Nat)))), AV.sl Mode.fresh (nat_lit 62) (some (List.length (halfT (withT F B d i []) (40 : Nat)))) (List.map (mapE (remode shareM (10 : Nat))) (List.map FW (halfT (withT F B d i []) (40 : Nat))))] = AV.agg [AV.sl Mode.fresh (nat_lit 62) (some (List.length (halfT (withT F B d i []) (0 : Nat)))) (List.map FW (halfT (withT F B d i []) (0 : Nat))), AV.sl Mode.fresh (nat_lit 62) (some (List.length (halfT (withT F B d i []) (40 : Nat)))) (List.map FW (halfT (withT F B d i []) (40 : Nat)))]) (g1 : decide ((false || (false || (true || false))) = true → noAny (12 : Nat) (AV.agg [AV.sl Mode.fresh (nat_lit 62) (some (List.length (halfT (withT (stkW (halfT (withT F B d i []) (0 : Nat))) (stkW (halfT (withT F B d i []) (40 : Nat))) e k J) (0 : Nat)))) (List.map FW (halfT (withT (stkW (halfT (withT F B d i []) (0 : Nat))) (stkW (halfT (withT F B d i []) (40 : Nat))) e k J) (0 : Nat))), AV.sl Mode.fresh (nat_lit 62) (some (List.length (halfT (withT (stkW (halfT (withT F B d i []) (0 : Nat))) (stkW (halfT (withT F B d i []) (40 : Nat))) e k J) (40 : Nat)))) (List.map FW (halfT (withT (stkW (halfT (withT F B d i []) (0 : Nat))) (stkW (halfT (withT F B d i []) (40 : Nat))) e k J) (40 : Nat)))]) = true) = true) (g2 : AV.agg [AV.sl Mode.fresh (nat_lit 62) (some (List.length (halfT (withT (stkW (halfT (withT F B d i []) (0 : Nat))) (stkW (halfT (withT F B d i []) (40 : Nat))) e k J) (0 : Nat)))) (List.map (mapE (remode shareM (10 : Nat))) (List.map FW (halfT (withT (stkW (halfT (withT F B d i []) (0 : Nat))) (stkW (halfT (withT F B d i []) (40 : Nat))) e k J) (0 : Nat)))), AV.sl Mode.fresh (nat_lit 62) (some (List.length (halfT (withT (stkW (halfT (withT F B d i []) (0 : Nat))) (stkW (halfT (withT F B d i []) (40 : Nat))) e k J) (40 : Nat)))) (List.map (mapE (remode shareM (10 : Nat))) (List.map FW (halfT (withT (stkW (halfT (withT F B d i []) (0 : Nat))) (stkW (halfT (withT F B d i []) (40 : Nat))) e k J) (40 : Nat))))] = AV.agg [AV.sl Mode.fresh (nat_lit 62) (some (List.length (halfT (withT (stkW (halfT (withT F B d i []) (0 : Nat))) (stkW (halfT (withT F B d i []) (40 : Nat))) e k J) (0 : Nat)))) (List.map FW (halfT (withT (stkW (halfT (withT F B d i []) (0 : Nat))) (stkW (halfT (withT F B d i []) (40 : Nat))) e k J) (0 : Nat))), AV.sl Mode.fresh (nat_lit 62) (some (List.length (halfT (withT (stkW (halfT (withT F B d i []) (0 : Nat))) (stkW (halfT (withT F B d i []) (40 : Nat))) e k J) (40 : Nat)))) (List.map FW (halfT (withT (stkW (halfT (withT F B d i []) (0 : Nat))) (stkW (halfT (withT F B d i []) (40 : Nat))) e k J) (40 : Nat)))]) : Tri Try.prog (cxN 68 0) (regAt Try.f40 14) ([(3, .box [bsl cf F, bsl cb B]), (4, .box [ub d, it i]), (5, .box [ub e, it k]), (6, .box [niln, niln]), (11, iow none J)] ) (Ex.normal) ([(nat_lit 6, AV.box [AV.sl Mode.fresh (nat_lit 62) (some (List.length (halfT (withT (stkW (halfT (withT F B d i []) (0 : Nat))) (stkW (halfT (withT F B d i []) (40 : Nat))) e k J) (0 : Nat)))) (List.map FW (halfT (withT (stkW (halfT (withT F B d i []) (0 : Nat))) (stkW (halfT (withT F B d i []) (40 : Nat))) e k J) (0 : Nat))), AV.sl Mode.fresh (nat_lit 62) (some (List.length (halfT (withT (stkW (halfT (withT F B d i []) (0 : Nat))) (stkW (halfT (withT F B d i []) (40 : Nat))) e k J) (40 : Nat)))) (List.map FW (halfT (withT (stkW (halfT (withT F B d i []) (0 : Nat))) (stkW (halfT (withT F B d i []) (40 : Nat))) e k J) (40 : Nat)))]), (nat_lit 7, it 0)]) :=
  evA_ok (H := h40) (ans := [.c, .c, .r (AV.agg [AV.sl Mode.fresh (nat_lit 62) (some (List.length (halfT (withT F B d i []) (0 : Nat)))) (List.map FW (halfT (withT F B d i []) (0 : Nat))), AV.sl Mode.fresh (nat_lit 62) (some (List.length (halfT (withT F B d i []) (40 : Nat)))) (List.map FW (halfT (withT F B d i []) (40 : Nat)))]), .c, .r (AV.agg [AV.sl Mode.fresh (nat_lit 62) (some (List.length (halfT (withT F B d i []) (0 : Nat)))) (List.map FW (halfT (withT F B d i []) (0 : Nat))), AV.sl Mode.fresh (nat_lit 62) (some (List.length (halfT (withT F B d i []) (40 : Nat)))) (List.map FW (halfT (withT F B d i []) (40 : Nat)))]), .c, .c, .r (AV.sl Mode.any (nat_lit 30) none (List.map Idd.enc J)), .r (AV.agg [AV.sl Mode.fresh (nat_lit 62) (some (List.length (halfT (withT (stkW (halfT (withT F B d i []) (0 : Nat))) (stkW (halfT (withT F B d i []) (40 : Nat))) e k J) (0 : Nat)))) (List.map FW (halfT (withT (stkW (halfT (withT F B d i []) (0 : Nat))) (stkW (halfT (withT F B d i []) (40 : Nat))) e k J) (0 : Nat))), AV.sl Mode.fresh (nat_lit 62) (some (List.length (halfT (withT (stkW (halfT (withT F B d i []) (0 : Nat))) (stkW (halfT (withT F B d i []) (40 : Nat))) e k J) (40 : Nat)))) (List.map FW (halfT (withT (stkW (halfT (withT F B d i []) (0 : Nat))) (stkW (halfT (withT F B d i []) (40 : Nat))) e k J) (40 : Nat)))]), .b true, .r (AV.agg [AV.sl Mode.fresh (nat_lit 62) (some (List.length (halfT (withT (stkW (halfT (withT F B d i []) (0 : Nat))) (stkW (halfT (withT F B d i []) (40 : Nat))) e k J) (0 : Nat)))) (List.map FW (halfT (withT (stkW (halfT (withT F B d i []) (0 : Nat))) (stkW (halfT (withT F B d i []) (40 : Nat))) e k J) (0 : Nat))), AV.sl Mode.fresh (nat_lit 62) (some (List.length (halfT (withT (stkW (halfT (withT F B d i []) (0 : Nat))) (stkW (halfT (withT F B d i []) (40 : Nat))) e k J) (40 : Nat)))) (List.map FW (halfT (withT (stkW (halfT (withT F B d i []) (0 : Nat))) (stkW (halfT (withT F B d i []) (40 : Nat))) e k J) (40 : Nat)))]), .c, .c, .c]) (ps := [PureC Try.prog (nat_lit 63) [view (AV.agg [AV.sl Mode.any (nat_lit 62) cf (List.map Stk.enc F), AV.sl Mode.any (nat_lit 62) cb (List.map Stk.enc B)]), AV.agg [AV.atom (Value.int IntKind.u8 d), AV.atom (Value.int IntKind.i64 i)], AV.atom (Value.slice none (nat_lit 0) (nat_lit 0))] (AV.agg [AV.sl Mode.fresh (nat_lit 62) (some (List.length (halfT (withT F B d i []) (0 : Nat)))) (List.map FW (halfT (withT F B d i []) (0 : Nat))), AV.sl Mode.fresh (nat_lit 62) (some (List.length (halfT (withT F B d i []) (40 : Nat)))) (List.map FW (halfT (withT F B d i []) (40 : Nat)))]), AV.agg [AV.sl Mode.fresh (nat_lit 62) (some (List.length (halfT (withT F B d i []) (0 : Nat)))) (List.map (mapE (remode shareM (10 : Nat))) (List.map FW (halfT (withT F B d i []) (0 : Nat)))), AV.sl Mode.fresh (nat_lit 62) (some (List.length (halfT (withT F B d i []) (40 : Nat)))) (List.map (mapE (remode shareM (10 : Nat))) (List.map FW (halfT (withT F B d i []) (40 : Nat))))] = AV.agg [AV.sl Mode.fresh (nat_lit 62) (some (List.length (halfT (withT F B d i []) (0 : Nat)))) (List.map FW (halfT (withT F B d i []) (0 : Nat))), AV.sl Mode.fresh (nat_lit 62) (some (List.length (halfT (withT F B d i []) (40 : Nat)))) (List.map FW (halfT (withT F B d i []) (40 : Nat)))], view (AV.sl Mode.own (nat_lit 30) none (List.map Idd.enc J)) = AV.sl Mode.any (nat_lit 30) none (List.map Idd.enc J), PureC Try.prog (nat_lit 63) [view (AV.agg [AV.sl Mode.fresh (nat_lit 62) (some (List.length (halfT (withT F B d i []) (0 : Nat)))) (List.map FW (halfT (withT F B d i []) (0 : Nat))), AV.sl Mode.fresh (nat_lit 62) (some (List.length (halfT (withT F B d i []) (40 : Nat)))) (List.map FW (halfT (withT F B d i []) (40 : Nat)))]), AV.agg [AV.atom (Value.int IntKind.u8 e), AV.atom (Value.int IntKind.i64 k)], AV.sl Mode.any (nat_lit 30) none (List.map Idd.enc J)] (AV.agg [AV.sl Mode.fresh (nat_lit 62) (some (List.length (halfT (withT (stkW (halfT (withT F B d i []) (0 : Nat))) (stkW (halfT (withT F B d i []) (40 : Nat))) e k J) (0 : Nat)))) (List.map FW (halfT (withT (stkW (halfT (withT F B d i []) (0 : Nat))) (stkW (halfT (withT F B d i []) (40 : Nat))) e k J) (0 : Nat))), AV.sl Mode.fresh (nat_lit 62) (some (List.length (halfT (withT (stkW (halfT (withT F B d i []) (0 : Nat))) (stkW (halfT (withT F B d i []) (40 : Nat))) e k J) (40 : Nat)))) (List.map FW (halfT (withT (stkW (halfT (withT F B d i []) (0 : Nat))) (stkW (halfT (withT F B d i []) (40 : Nat))) e k J) (40 : Nat)))]), decide ((false || (false || (true || false))) = true → noAny (12 : Nat) (AV.agg [AV.sl Mode.fresh (nat_lit 62) (some (List.length (halfT (withT (stkW (halfT (withT F B d i []) (0 : Nat))) (stkW (halfT (withT F B d i []) (40 : Nat))) e k J) (0 : Nat)))) (List.map FW (halfT (withT (stkW (halfT (withT F B d i []) (0 : Nat))) (stkW (halfT (withT F B d i []) (40 : Nat))) e k J) (0 : Nat))), AV.sl Mode.fresh (nat_lit 62) (some (List.length (halfT (withT (stkW (halfT (withT F B d i []) (0 : Nat))) (stkW (halfT (withT F B d i []) (40 : Nat))) e k J) (40 : Nat)))) (List.map FW (halfT (withT (stkW (halfT (withT F B d i []) (0 : Nat))) (stkW (halfT (withT F B d i []) (40 : Nat))) e k J) (40 : Nat)))]) = true) = true, AV.agg [AV.sl Mode.fresh (nat_lit 62) (some (List.length (halfT (withT (stkW (halfT (withT F B d i []) (0 : Nat))) (stkW (halfT (withT F B d i []) (40 : Nat))) e k J) (0 : Nat)))) (List.map (mapE (remode shareM (10 : Nat))) (List.map FW (halfT (withT (stkW (halfT (withT F B d i []) (0 : Nat))) (stkW (halfT (withT F B d i []) (40 : Nat))) e k J) (0 : Nat)))), AV.sl Mode.fresh (nat_lit 62) (some (List.length (halfT (withT (stkW (halfT (withT F B d i []) (0 : Nat))) (stkW (halfT (withT F B d i []) (40 : Nat))) e k J) (40 : Nat)))) (List.map (mapE (remode shareM (10 : Nat))) (List.map FW (halfT (withT (stkW (halfT (withT F B d i []) (0 : Nat))) (stkW (halfT (withT F B d i []) (40 : Nat))) e k J) (40 : Nat))))] = AV.agg [AV.sl Mode.fresh (nat_lit 62) (some (List.length (halfT (withT (stkW (halfT (withT F B d i []) (0 : Nat))) (stkW (halfT (withT F B d i []) (40 : Nat))) e k J) (0 : Nat)))) (List.map FW (halfT (withT (stkW (halfT (withT F B d i []) (0 : Nat))) (stkW (halfT (withT F B d i []) (40 : Nat))) e k J) (0 : Nat))), AV.sl Mode.fresh (nat_lit 62) (some (List.length (halfT (withT (stkW (halfT (withT F B d i []) (0 : Nat))) (stkW (halfT (withT F B d i []) (40 : Nat))) e k J) (40 : Nat)))) (List.map FW (halfT (withT (stkW (halfT (withT F B d i []) (0 : Nat))) (stkW (halfT (withT F B d i []) (40 : Nat))) e k J) (40 : Nat)))]]) (ans' := []) (base 68 0) cxA_K.1 cxA_K.2 _ (by kernel_rfl)  (allp (by (first | rw [view_yn] | rw [view_two] | rw [view_twoI] | rw [view_beds] | rw [view_frW] | rw [view_frN] | rw [view_twoF] | skip); first | (apply with_n <;> (first | assumption | rfl | (simp at * <;> omega))) | (apply with_v <;> (first | assumption | rfl | (simp at * <;> omega)))) (allp g0 (allp (by first | exact view_ps _ _ _ | exact view_u8 _ _ _ | rfl | exact view_yn _ _ _ _ _ _ _ | exact view_id _ _ _ | exact view_stk _ _ _ | exact view_beds _ _ _ _ _ _ | exact view_pt _ _ _) (allp (by (first | rw [view_yn] | rw [view_two] | rw [view_twoI] | rw [view_beds] | rw [view_frW] | rw [view_frN] | rw [view_twoF] | skip); first | (apply with_n <;> (first | assumption | rfl | (simp at * <;> omega))) | (apply with_v <;> (first | assumption | rfl | (simp at * <;> omega)))) (allp g1 (allp g2 allp_nil))))))
end Tst
end

section
open Go Go.Lf Go.Proofs
namespace Tst
set_option maxHeartbeats 0
theorem noAny_FW (k : Nat) (x : List (List Idd)) : (x.map FW).all (noAny (k + 3)) = true := by
  rw [List.all_map, List.all_eq_true]
  intro l _
  show ((true && (l.map Idd.enc).all (noAny (k + 2))) : Bool) = true
  rw [Bool.true_and, List.all_map, List.all_eq_true]
  intro p _
  rfl
theorem noAny_iow (l : List Idd) : noAny 12 (AV.sl Mode.own 30 none (List.map Idd.enc l)) = true := by
  show ((true && (l.map Idd.enc).all (noAny 11)) : Bool) = true
  rw [Bool.true_and, List.all_map, List.all_eq_true]
  intro p _
  rfl
theorem noAny_bd (x y : List (List Idd)) (c c' : Option Nat) : noAny 12 (AV.agg [AV.sl Mode.fresh 62 c (x.map FW), AV.sl Mode.fresh 62 c' (y.map FW)]) = true := by
  show (((true && (x.map FW).all (noAny 10)) && ((true && (y.map FW).all (noAny 10)) && true)) : Bool) = true
  rw [noAny_FW 7, noAny_FW 7]; rfl
def joinT (F B : List Stk) (d i e k : Int) (J : List Idd) : List (List Idd) := withT (stkW (halfT (withT F B d i []) 0)) (stkW (halfT (withT F B d i []) 40)) e k J
theorem j14_c (cf cb : Option Nat) (F B : List Stk) (d i e k : Int) (J : List Idd) (hd : d = 0 ∨ d = 1) (h1 : 1 ≤ i) (h2 : i ≤ 40) (he : e = 0 ∨ e = 1) (h3 : 1 ≤ k) (h4 : k ≤ 40) (hA : ∀ t ∈ itms F B, t.2.2.l.length ≤ 4294967296) (hJ : J.length ≤ 4294967296) (hW : ∀ t ∈ itms (stkW (halfT (withT F B d i []) 0)) (stkW (halfT (withT F B d i []) 40)), t.2.2.l.length ≤ 4294967296) :
    Tri Try.prog (cxN 68 0) (codeAt Try.f40 14) [(3, .box [bsl cf F, bsl cb B]), (4, .box [ub d, it i]), (5, .box [ub e, it k]), (6, .box [niln, niln]), (11, iow none J)] .normal [(6, .box [frW (halfT (joinT F B d i e k J) 0), frW (halfT (joinT F B d i e k J) 40)]), (7, it 0)] := by
  rw [show codeAt Try.f40 14 = regAt Try.f40 14 by kernel_rfl]
  exact j14_0 cf cb F B d i e k J hd h1 h2 he h3 h4 hA hJ hW (by rw [smap_FW, smap_FW]) (by rw [noAny_bd]; simp) (by rw [smap_FW, smap_FW])
theorem j11_0 (cf cb : Option Nat) (F B : List Stk) (d i e k : Int) (l m : List Idd) (hl : l.length ≤ 1000000) (hm : m.length ≤ 1000000) (g0 : decide ((true || false) = true → noAny (12 : Nat) (AV.sl Mode.own (nat_lit 30) none (List.map Idd.enc (m ++ l))) = true) = true) : Tri Try.prog (cxN 68 0) (regAt Try.f40 11) ([(3, .box [bsl cf F, bsl cb B]), (4, .box [ub d, it i]), (5, .box [ub e, it k]), (6, .box [niln, niln]), (9, .sl .fresh 30 (some l.length) (l.map Idd.enc)), (10, .sl .fresh 30 (some m.length) (m.map Idd.enc))] ) (Ex.normal) ([(nat_lit 3, AV.box [AV.sl Mode.any (nat_lit 62) cf (List.map Stk.enc F), AV.sl Mode.any (nat_lit 62) cb (List.map Stk.enc B)]), (nat_lit 4, AV.box [AV.atom (Value.int IntKind.u8 d), AV.atom (Value.int IntKind.i64 i)]), (nat_lit 5, AV.box [AV.atom (Value.int IntKind.u8 e), AV.atom (Value.int IntKind.i64 k)]), (nat_lit 6, AV.box [AV.atom (Value.slice none (nat_lit 0) (nat_lit 0)), AV.atom (Value.slice none (nat_lit 0) (nat_lit 0))]), (nat_lit 9, AV.sl Mode.fresh (nat_lit 30) (some (List.length l)) (List.map Idd.enc l)), (nat_lit 10, AV.sl Mode.fresh (nat_lit 30) (some (List.length m)) (List.map Idd.enc m)), (nat_lit 11, AV.sl Mode.own (nat_lit 30) none (List.map Idd.enc (m ++ l)))]) :=
  evA_ok (H := h40) (ans := [.c, .c, .c, .c, .r (AV.sl Mode.own (nat_lit 30) none (List.map Idd.enc (m ++ l))), .b true, .c, .c]) (ps := [PureC Try.prog (nat_lit 65) [view (AV.sl Mode.own (nat_lit 62) (some (nat_lit 2)) [AV.sl Mode.fresh (nat_lit 30) (some (List.length m)) (List.map Idd.enc m), AV.sl Mode.fresh (nat_lit 30) (some (List.length l)) (List.map Idd.enc l)])] (AV.sl Mode.own (nat_lit 30) none (List.map Idd.enc (m ++ l))), decide ((true || false) = true → noAny (12 : Nat) (AV.sl Mode.own (nat_lit 30) none (List.map Idd.enc (m ++ l))) = true) = true]) (ans' := []) (base 68 0) cxA_K.1 cxA_K.2 _ (by kernel_rfl)  (allp (by (first | rw [view_yn] | rw [view_two] | rw [view_twoI] | rw [view_beds] | rw [view_frW] | rw [view_frN] | rw [view_twoF] | skip); apply conI_c <;> (first | assumption | rfl | (simp at * <;> omega))) (allp g0 allp_nil))
theorem j12_0 (cf cb : Option Nat) (F B : List Stk) (d i e k : Int) (l m J : List Idd) : Tri Try.prog (cxN 68 0) (regAt Try.f40 12) ([(3, .box [bsl cf F, bsl cb B]), (4, .box [ub d, it i]), (5, .box [ub e, it k]), (6, .box [niln, niln]), (9, .sl .fresh 30 (some l.length) (l.map Idd.enc)), (10, .sl .fresh 30 (some m.length) (m.map Idd.enc)), (11, iow none J)] ) (Ex.normal) ([(nat_lit 3, AV.box [AV.sl Mode.any (nat_lit 62) cf (List.map Stk.enc F), AV.sl Mode.any (nat_lit 62) cb (List.map Stk.enc B)]), (nat_lit 4, AV.box [AV.atom (Value.int IntKind.u8 d), AV.atom (Value.int IntKind.i64 i)]), (nat_lit 5, AV.box [AV.atom (Value.int IntKind.u8 e), AV.atom (Value.int IntKind.i64 k)]), (nat_lit 6, AV.box [AV.atom (Value.slice none (nat_lit 0) (nat_lit 0)), AV.atom (Value.slice none (nat_lit 0) (nat_lit 0))]), (nat_lit 9, AV.sl Mode.fresh (nat_lit 30) (some (List.length l)) (List.map Idd.enc l)), (nat_lit 10, AV.sl Mode.fresh (nat_lit 30) (some (List.length m)) (List.map Idd.enc m)), (nat_lit 11, AV.sl Mode.own (nat_lit 30) none (List.map Idd.enc J)), (nat_lit 57, AV.atom (Value.bool (d == (1 : Int))))]) :=
  evA_ok (H := h40) (ans := [.c, .c, .c, .c, .c]) (ps := []) (ans' := []) (base 68 0) cxA_K.1 cxA_K.2 _ (by kernel_rfl)  allp_nil
theorem j13_0 (cf cb : Option Nat) (F B : List Stk) (d i e k : Int) (l m J : List Idd) (hl : l.length ≤ 1000000) (hm : m.length ≤ 1000000) (g0 : decide ((true || false) = true → noAny (12 : Nat) (AV.sl Mode.own (nat_lit 30) none (List.map Idd.enc (l ++ m))) = true) = true) : Tri Try.prog (cxN 68 0) (regAt Try.f40 13) ([(3, .box [bsl cf F, bsl cb B]), (4, .box [ub d, it i]), (5, .box [ub e, it k]), (6, .box [niln, niln]), (9, .sl .fresh 30 (some l.length) (l.map Idd.enc)), (10, .sl .fresh 30 (some m.length) (m.map Idd.enc)), (11, iow none J)] ) (Ex.normal) ([(nat_lit 3, AV.box [AV.sl Mode.any (nat_lit 62) cf (List.map Stk.enc F), AV.sl Mode.any (nat_lit 62) cb (List.map Stk.enc B)]), (nat_lit 4, AV.box [AV.atom (Value.int IntKind.u8 d), AV.atom (Value.int IntKind.i64 i)]), (nat_lit 5, AV.box [AV.atom (Value.int IntKind.u8 e), AV.atom (Value.int IntKind.i64 k)]), (nat_lit 6, AV.box [AV.atom (Value.slice none (nat_lit 0) (nat_lit 0)), AV.atom (Value.slice none (nat_lit 0) (nat_lit 0))]), (nat_lit 11, AV.sl Mode.own (nat_lit 30) none (List.map Idd.enc (l ++ m)))]) :=
  evA_ok (H := h40) (ans := [.c, .c, .c, .c, .r (AV.sl Mode.own (nat_lit 30) none (List.map Idd.enc (l ++ m))), .b true, .c, .c]) (ps := [PureC Try.prog (nat_lit 65) [view (AV.sl Mode.own (nat_lit 62) (some (nat_lit 2)) [AV.sl Mode.fresh (nat_lit 30) (some (List.length l)) (List.map Idd.enc l), AV.sl Mode.fresh (nat_lit 30) (some (List.length m)) (List.map Idd.enc m)])] (AV.sl Mode.own (nat_lit 30) none (List.map Idd.enc (l ++ m))), decide ((true || false) = true → noAny (12 : Nat) (AV.sl Mode.own (nat_lit 30) none (List.map Idd.enc (l ++ m))) = true) = true]) (ans' := []) (base 68 0) cxA_K.1 cxA_K.2 _ (by kernel_rfl)  (allp (by (first | rw [view_yn] | rw [view_two] | rw [view_twoI] | rw [view_beds] | rw [view_frW] | rw [view_frN] | rw [view_twoF] | skip); apply conI_c <;> (first | assumption | rfl | (simp at * <;> omega))) (allp g0 allp_nil))
end Tst
end

section
open Go Go.Lf Go.Proofs
namespace Tst
set_option maxHeartbeats 0
abbrev jE (cf cb : Option Nat) (F B : List Stk) (d i e k : Int) (l m : List Idd) : Env := [(3, .box [bsl cf F, bsl cb B]), (4, .box [ub d, it i]), (5, .box [ub e, it k]), (6, .box [niln, niln]), (9, .sl .fresh 30 (some l.length) (l.map Idd.enc)), (10, .sl .fresh 30 (some m.length) (m.map Idd.enc))]
def jnL (d : Int) (l m : List Idd) : List Idd := if (d == 1) = true then l ++ m else m ++ l
theorem j11_c (cf cb : Option Nat) (F B : List Stk) (d i e k : Int) (l m : List Idd) (hl : l.length ≤ 1000000) (hm : m.length ≤ 1000000) : Tri Try.prog (cxN 68 0) (codeAt Try.f40 11) (jE cf cb F B d i e k l m) .normal [(3, .box [bsl cf F, bsl cb B]), (4, .box [ub d, it i]), (5, .box [ub e, it k]), (6, .box [niln, niln]), (9, .sl .fresh 30 (some l.length) (l.map Idd.enc)), (10, .sl .fresh 30 (some m.length) (m.map Idd.enc)), (11, iow none (m ++ l))] := by
  rw [show codeAt Try.f40 11 = regAt Try.f40 11 by kernel_rfl]
  exact Tri.after [(3, .keep), (4, .keep), (5, .keep), (6, .keep), (9, .keep), (10, .keep), (11, .keep)] (j11_0 cf cb F B d i e k l m hl hm (by rw [noAny_iow]; simp))
theorem j12_code : codeAt Try.f40 12 = .seq (regAt Try.f40 12) (.cond (.tmp 57) (regAt Try.f40 13) .skip) := by kernel_rfl
theorem j12_c (cf cb : Option Nat) (F B : List Stk) (d i e k : Int) (l m : List Idd) (hl : l.length ≤ 1000000) (hm : m.length ≤ 1000000) : Tri Try.prog (cxN 68 0) (codeAt Try.f40 12) [(3, .box [bsl cf F, bsl cb B]), (4, .box [ub d, it i]), (5, .box [ub e, it k]), (6, .box [niln, niln]), (9, .sl .fresh 30 (some l.length) (l.map Idd.enc)), (10, .sl .fresh 30 (some m.length) (m.map Idd.enc)), (11, iow none (m ++ l))] .normal
    [(3, .box [bsl cf F, bsl cb B]), (4, .box [ub d, it i]), (5, .box [ub e, it k]), (6, .box [niln, niln]), (11, iow none (jnL d l m))] := by
  rw [j12_code]
  unfold jnL
  have h := j12_0 cf cb F B d i e k l m (m ++ l)
  cases hb : (d == 1) with
  | true =>
    rw [hb] at h
    exact .seq h (.cond (b := true) rfl (.weak [(3, .keep), (4, .keep), (5, .keep), (6, .keep), (9, .keep), (10, .keep), (11, .keep)] (.after [(3, .keep), (4, .keep), (5, .keep), (6, .keep), (11, .keep)] (j13_0 cf cb F B d i e k l m (m ++ l) hl hm (by rw [noAny_iow]; simp)))))
  | false =>
    rw [hb] at h
    exact .seq h (.cond (b := false) rfl (.after [(3, .keep), (4, .keep), (5, .keep), (6, .keep), (11, .keep)] .skip))
theorem jnE_0 (cf cb : Option Nat) (F B : List Stk) (d i e k : Int) (hc : (chkV F B != (0 : Int)) = false) (hn : ((if ndV d i = true then (0 : Int) else (1 : Int)) != (0 : Int)) = false) (hn2 : ((if ndV e k = true then (0 : Int) else (1 : Int)) != (0 : Int)) = false) (hne : (d == e) = false) (v1 : ndV d i = true) (v2 : ndV e k = true) (hf : ∀ s ∈ F, s.l.length ≤ 4294967296) (hb : ∀ s ∈ B, s.l.length ≤ 4294967296) (hl : (stkAt d i F B).length ≤ 1000000) (hm : (stkAt e k F B).length ≤ 1000000) (hd : d = 0 ∨ d = 1) (h1 : 1 ≤ i) (h2 : i ≤ 40) (he : e = 0 ∨ e = 1) (h3 : 1 ≤ k) (h4 : k ≤ 40) (hA : ∀ t ∈ itms F B, t.2.2.l.length ≤ 4294967296) (hJ : (jnL d (stkAt d i F B) (stkAt e k F B)).length ≤ 4294967296) (hW : ∀ t ∈ itms (stkW (halfT (withT F B d i []) 0)) (stkW (halfT (withT F B d i []) 40)), t.2.2.l.length ≤ 4294967296) (g0 : (chkV F B != (0 : Int)) = false) (g1 : ((if ndV d i = true then (0 : Int) else (1 : Int)) != (0 : Int)) = false) (g2 : ((if ndV e k = true then (0 : Int) else (1 : Int)) != (0 : Int)) = false) (g3 : (d == e) = false) (g4 : ((↑(List.length (List.map Idd.enc (stkAt d i F B))) : Int) == (0 : Int)) = true) : PureC Try.prog 40 [beds (bsl cf F) (bsl cb B), ndl d i, ndl e k]  (AV.tup [AV.agg [AV.atom (Value.slice none (nat_lit 0) (nat_lit 0)), AV.atom (Value.slice none (nat_lit 0) (nat_lit 0))], it 13]) :=
  funA_ok (H := h40) (n := 68) (ans := [.c, .c, .c, .c, .c, .c, .r (AV.atom (Value.int IntKind.i64 (chkV F B))), .c, .c, .c, .c, .c, .b false, .c, .r (AV.atom (Value.int IntKind.i64 (if ndV d i = true then (0 : Int) else (1 : Int)))), .c, .c, .c, .c, .b false, .c, .b false, .r (AV.atom (Value.int IntKind.i64 (if ndV e k = true then (0 : Int) else (1 : Int)))), .c, .c, .b false, .c, .b false, .c, .c, .b false, .c, .b false, .c, .c, .c, .b false, .c, .b false, .c, .c, .c, .b false, .c, .b false, .c, .b false, .c, .c, .r (AV.sl Mode.fresh (nat_lit 30) (some (List.length (stkAt d i F B))) (List.map Idd.enc (stkAt d i F B))), .c, .c, .c, .c, .r (AV.sl Mode.fresh (nat_lit 30) (some (List.length (stkAt e k F B))) (List.map Idd.enc (stkAt e k F B))), .c, .c, .c, .c, .c, .c, .c, .b true, .c, .c, .c]) (ps := [PureC Try.prog (nat_lit 31) [view (AV.agg [AV.sl Mode.any (nat_lit 62) cf (List.map Stk.enc F), AV.sl Mode.any (nat_lit 62) cb (List.map Stk.enc B)])] (AV.atom (Value.int IntKind.i64 (chkV F B))), (chkV F B != (0 : Int)) = false, PureC Try.prog (nat_lit 56) [AV.agg [AV.atom (Value.int IntKind.u8 d), AV.atom (Value.int IntKind.i64 i)]] (AV.atom (Value.int IntKind.i64 (if ndV d i = true then (0 : Int) else (1 : Int)))), ((if ndV d i = true then (0 : Int) else (1 : Int)) != (0 : Int)) = false, ((if ndV d i = true then (0 : Int) else (1 : Int)) != (0 : Int)) = false, PureC Try.prog (nat_lit 56) [AV.agg [AV.atom (Value.int IntKind.u8 e), AV.atom (Value.int IntKind.i64 k)]] (AV.atom (Value.int IntKind.i64 (if ndV e k = true then (0 : Int) else (1 : Int)))), ((if ndV d i = true then (0 : Int) else (1 : Int)) != (0 : Int)) = false, ((if ndV d i = true then (0 : Int) else (1 : Int)) != (0 : Int)) = false, ((if ndV e k = true then (0 : Int) else (1 : Int)) != (0 : Int)) = false, ((if ndV e k = true then (0 : Int) else (1 : Int)) != (0 : Int)) = false, ((if ndV e k = true then (0 : Int) else (1 : Int)) != (0 : Int)) = false, ((if ndV e k = true then (0 : Int) else (1 : Int)) != (0 : Int)) = false, ((if ndV e k = true then (0 : Int) else (1 : Int)) != (0 : Int)) = false, ((if ndV e k = true then (0 : Int) else (1 : Int)) != (0 : Int)) = false, (d == e) = false, PureC Try.prog (nat_lit 33) [view (AV.agg [AV.sl Mode.any (nat_lit 62) cf (List.map Stk.enc F), AV.sl Mode.any (nat_lit 62) cb (List.map Stk.enc B)]), AV.agg [AV.atom (Value.int IntKind.u8 d), AV.atom (Value.int IntKind.i64 i)]] (AV.sl Mode.fresh (nat_lit 30) (some (List.length (stkAt d i F B))) (List.map Idd.enc (stkAt d i F B))), PureC Try.prog (nat_lit 33) [view (AV.agg [AV.sl Mode.any (nat_lit 62) cf (List.map Stk.enc F), AV.sl Mode.any (nat_lit 62) cb (List.map Stk.enc B)]), AV.agg [AV.atom (Value.int IntKind.u8 e), AV.atom (Value.int IntKind.i64 k)]] (AV.sl Mode.fresh (nat_lit 30) (some (List.length (stkAt e k F B))) (List.map Idd.enc (stkAt e k F B))), ((↑(List.length (List.map Idd.enc (stkAt d i F B))) : Int) == (0 : Int)) = true]) (base 68 0) Try.func40 rfl (by simp) rfl (by kernel_rfl)  (allp (by (first | rw [view_yn] | rw [view_two] | rw [view_twoI] | rw [view_beds] | rw [view_frW] | rw [view_frN] | rw [view_twoF] | skip); apply chk_c <;> (first | assumption | rfl | (simp at * <;> omega))) (allp g0 (allp (by apply nck_c <;> (first | assumption | rfl | (simp at * <;> omega))) (allp g1 (allp g1 (allp (by apply nck_c <;> (first | assumption | rfl | (simp at * <;> omega))) (allp g1 (allp g1 (allp g2 (allp g2 (allp g2 (allp g2 (allp g2 (allp g2 (allp g3 (allp (by (first | rw [view_yn] | rw [view_two] | rw [view_twoI] | rw [view_beds] | rw [view_frW] | rw [view_frN] | rw [view_twoF] | skip); apply ndlAt_s <;> (first | assumption | rfl | (simp at * <;> omega))) (allp (by (first | rw [view_yn] | rw [view_two] | rw [view_twoI] | rw [view_beds] | rw [view_frW] | rw [view_frN] | rw [view_twoF] | skip); apply ndlAt_s <;> (first | assumption | rfl | (simp at * <;> omega))) (allp g4 allp_nil))))))))))))))))))
theorem jnE_1 (cf cb : Option Nat) (F B : List Stk) (d i e k : Int) (hc : (chkV F B != (0 : Int)) = false) (hn : ((if ndV d i = true then (0 : Int) else (1 : Int)) != (0 : Int)) = false) (hn2 : ((if ndV e k = true then (0 : Int) else (1 : Int)) != (0 : Int)) = false) (hne : (d == e) = false) (v1 : ndV d i = true) (v2 : ndV e k = true) (hf : ∀ s ∈ F, s.l.length ≤ 4294967296) (hb : ∀ s ∈ B, s.l.length ≤ 4294967296) (hl : (stkAt d i F B).length ≤ 1000000) (hm : (stkAt e k F B).length ≤ 1000000) (hd : d = 0 ∨ d = 1) (h1 : 1 ≤ i) (h2 : i ≤ 40) (he : e = 0 ∨ e = 1) (h3 : 1 ≤ k) (h4 : k ≤ 40) (hA : ∀ t ∈ itms F B, t.2.2.l.length ≤ 4294967296) (hJ : (jnL d (stkAt d i F B) (stkAt e k F B)).length ≤ 4294967296) (hW : ∀ t ∈ itms (stkW (halfT (withT F B d i []) 0)) (stkW (halfT (withT F B d i []) 40)), t.2.2.l.length ≤ 4294967296) (g0 : (chkV F B != (0 : Int)) = false) (g1 : ((if ndV d i = true then (0 : Int) else (1 : Int)) != (0 : Int)) = false) (g2 : ((if ndV e k = true then (0 : Int) else (1 : Int)) != (0 : Int)) = false) (g3 : (d == e) = false) (g4 : ((↑(List.length (List.map Idd.enc (stkAt d i F B))) : Int) == (0 : Int)) = false) (g5 : decide ((4 : Int) < IntKind.wrap IntKind.i64 ((↑(List.length (List.map Idd.enc (stkAt d i F B))) : Int) + (↑(List.length (List.map Idd.enc (stkAt e k F B))) : Int))) = true) : PureC Try.prog 40 [beds (bsl cf F) (bsl cb B), ndl d i, ndl e k]  (AV.tup [AV.agg [AV.atom (Value.slice none (nat_lit 0) (nat_lit 0)), AV.atom (Value.slice none (nat_lit 0) (nat_lit 0))], it 9]) :=
  funA_ok (H := h40) (n := 68) (ans := [.c, .c, .c, .c, .c, .c, .r (AV.atom (Value.int IntKind.i64 (chkV F B))), .c, .c, .c, .c, .c, .b false, .c, .r (AV.atom (Value.int IntKind.i64 (if ndV d i = true then (0 : Int) else (1 : Int)))), .c, .c, .c, .c, .b false, .c, .b false, .r (AV.atom (Value.int IntKind.i64 (if ndV e k = true then (0 : Int) else (1 : Int)))), .c, .c, .b false, .c, .b false, .c, .c, .b false, .c, .b false, .c, .c, .c, .b false, .c, .b false, .c, .c, .c, .b false, .c, .b false, .c, .b false, .c, .c, .r (AV.sl Mode.fresh (nat_lit 30) (some (List.length (stkAt d i F B))) (List.map Idd.enc (stkAt d i F B))), .c, .c, .c, .c, .r (AV.sl Mode.fresh (nat_lit 30) (some (List.length (stkAt e k F B))) (List.map Idd.enc (stkAt e k F B))), .c, .c, .c, .c, .c, .c, .c, .b false, .c, .c, .c, .c, .c, .c, .b true, .c, .c, .c]) (ps := [PureC Try.prog (nat_lit 31) [view (AV.agg [AV.sl Mode.any (nat_lit 62) cf (List.map Stk.enc F), AV.sl Mode.any (nat_lit 62) cb (List.map Stk.enc B)])] (AV.atom (Value.int IntKind.i64 (chkV F B))), (chkV F B != (0 : Int)) = false, PureC Try.prog (nat_lit 56) [AV.agg [AV.atom (Value.int IntKind.u8 d), AV.atom (Value.int IntKind.i64 i)]] (AV.atom (Value.int IntKind.i64 (if ndV d i = true then (0 : Int) else (1 : Int)))), ((if ndV d i = true then (0 : Int) else (1 : Int)) != (0 : Int)) = false, ((if ndV d i = true then (0 : Int) else (1 : Int)) != (0 : Int)) = false, PureC Try.prog (nat_lit 56) [AV.agg [AV.atom (Value.int IntKind.u8 e), AV.atom (Value.int IntKind.i64 k)]] (AV.atom (Value.int IntKind.i64 (if ndV e k = true then (0 : Int) else (1 : Int)))), ((if ndV d i = true then (0 : Int) else (1 : Int)) != (0 : Int)) = false, ((if ndV d i = true then (0 : Int) else (1 : Int)) != (0 : Int)) = false, ((if ndV e k = true then (0 : Int) else (1 : Int)) != (0 : Int)) = false, ((if ndV e k = true then (0 : Int) else (1 : Int)) != (0 : Int)) = false, ((if ndV e k = true then (0 : Int) else (1 : Int)) != (0 : Int)) = false, ((if ndV e k = true then (0 : Int) else (1 : Int)) != (0 : Int)) = false, ((if ndV e k = true then (0 : Int) else (1 : Int)) != (0 : Int)) = false, ((if ndV e k = true then (0 : Int) else (1 : Int)) != (0 : Int)) = false, (d == e) = false, PureC Try.prog (nat_lit 33) [view (AV.agg [AV.sl Mode.any (nat_lit 62) cf (List.map Stk.enc F), AV.sl Mode.any (nat_lit 62) cb (List.map Stk.enc B)]), AV.agg [AV.atom (Value.int IntKind.u8 d), AV.atom (Value.int IntKind.i64 i)]] (AV.sl Mode.fresh (nat_lit 30) (some (List.length (stkAt d i F B))) (List.map Idd.enc (stkAt d i F B))), PureC Try.prog (nat_lit 33) [view (AV.agg [AV.sl Mode.any (nat_lit 62) cf (List.map Stk.enc F), AV.sl Mode.any (nat_lit 62) cb (List.map Stk.enc B)]), AV.agg [AV.atom (Value.int IntKind.u8 e), AV.atom (Value.int IntKind.i64 k)]] (AV.sl Mode.fresh (nat_lit 30) (some (List.length (stkAt e k F B))) (List.map Idd.enc (stkAt e k F B))), ((↑(List.length (List.map Idd.enc (stkAt d i F B))) : Int) == (0 : Int)) = false, decide ((4 : Int) < IntKind.wrap IntKind.i64 ((↑(List.length (List.map Idd.enc (stkAt d i F B))) : Int) + (↑(List.length (List.map Idd.enc (stkAt e k F B))) : Int))) = true]) (base 68 0) Try.func40 rfl (by simp) rfl (by kernel_rfl)  (allp (by (first | rw [view_yn] | rw [view_two] | rw [view_twoI] | rw [view_beds] | rw [view_frW] | rw [view_frN] | rw [view_twoF] | skip); apply chk_c <;> (first | assumption | rfl | (simp at * <;> omega))) (allp g0 (allp (by apply nck_c <;> (first | assumption | rfl | (simp at * <;> omega))) (allp g1 (allp g1 (allp (by apply nck_c <;> (first | assumption | rfl | (simp at * <;> omega))) (allp g1 (allp g1 (allp g2 (allp g2 (allp g2 (allp g2 (allp g2 (allp g2 (allp g3 (allp (by (first | rw [view_yn] | rw [view_two] | rw [view_twoI] | rw [view_beds] | rw [view_frW] | rw [view_frN] | rw [view_twoF] | skip); apply ndlAt_s <;> (first | assumption | rfl | (simp at * <;> omega))) (allp (by (first | rw [view_yn] | rw [view_two] | rw [view_twoI] | rw [view_beds] | rw [view_frW] | rw [view_frN] | rw [view_twoF] | skip); apply ndlAt_s <;> (first | assumption | rfl | (simp at * <;> omega))) (allp g4 (allp g5 allp_nil)))))))))))))))))))
theorem jnE_2 (cf cb : Option Nat) (F B : List Stk) (d i e k : Int) (hc : (chkV F B != (0 : Int)) = false) (hn : ((if ndV d i = true then (0 : Int) else (1 : Int)) != (0 : Int)) = false) (hn2 : ((if ndV e k = true then (0 : Int) else (1 : Int)) != (0 : Int)) = false) (hne : (d == e) = false) (v1 : ndV d i = true) (v2 : ndV e k = true) (hf : ∀ s ∈ F, s.l.length ≤ 4294967296) (hb : ∀ s ∈ B, s.l.length ≤ 4294967296) (hl : (stkAt d i F B).length ≤ 1000000) (hm : (stkAt e k F B).length ≤ 1000000) (hd : d = 0 ∨ d = 1) (h1 : 1 ≤ i) (h2 : i ≤ 40) (he : e = 0 ∨ e = 1) (h3 : 1 ≤ k) (h4 : k ≤ 40) (hA : ∀ t ∈ itms F B, t.2.2.l.length ≤ 4294967296) (hJ : (jnL d (stkAt d i F B) (stkAt e k F B)).length ≤ 4294967296) (hW : ∀ t ∈ itms (stkW (halfT (withT F B d i []) 0)) (stkW (halfT (withT F B d i []) 40)), t.2.2.l.length ≤ 4294967296) (g0 : (chkV F B != (0 : Int)) = false) (g1 : ((if ndV d i = true then (0 : Int) else (1 : Int)) != (0 : Int)) = false) (g2 : ((if ndV e k = true then (0 : Int) else (1 : Int)) != (0 : Int)) = false) (g3 : (d == e) = false) (g4 : ((↑(List.length (List.map Idd.enc (stkAt d i F B))) : Int) == (0 : Int)) = false) (g5 : decide ((4 : Int) < IntKind.wrap IntKind.i64 ((↑(List.length (List.map Idd.enc (stkAt d i F B))) : Int) + (↑(List.length (List.map Idd.enc (stkAt e k F B))) : Int))) = false) : PureC Try.prog 40 [beds (bsl cf F) (bsl cb B), ndl d i, ndl e k]  (AV.tup [AV.agg [AV.sl Mode.fresh (nat_lit 62) (some (List.length (halfT (joinT F B d i e k (jnL d (stkAt d i F B) (stkAt e k F B))) (0 : Nat)))) (List.map (mapE (remode shareM (11 : Nat))) (List.map FW (halfT (joinT F B d i e k (jnL d (stkAt d i F B) (stkAt e k F B))) (0 : Nat)))), AV.sl Mode.fresh (nat_lit 62) (some (List.length (halfT (joinT F B d i e k (jnL d (stkAt d i F B) (stkAt e k F B))) (40 : Nat)))) (List.map (mapE (remode shareM (11 : Nat))) (List.map FW (halfT (joinT F B d i e k (jnL d (stkAt d i F B) (stkAt e k F B))) (40 : Nat))))], it 0]) :=
  funA_ok (H := h40) (n := 68) (ans := [.c, .c, .c, .c, .c, .c, .r (AV.atom (Value.int IntKind.i64 (chkV F B))), .c, .c, .c, .c, .c, .b false, .c, .r (AV.atom (Value.int IntKind.i64 (if ndV d i = true then (0 : Int) else (1 : Int)))), .c, .c, .c, .c, .b false, .c, .b false, .r (AV.atom (Value.int IntKind.i64 (if ndV e k = true then (0 : Int) else (1 : Int)))), .c, .c, .b false, .c, .b false, .c, .c, .b false, .c, .b false, .c, .c, .c, .b false, .c, .b false, .c, .c, .c, .b false, .c, .b false, .c, .b false, .c, .c, .r (AV.sl Mode.fresh (nat_lit 30) (some (List.length (stkAt d i F B))) (List.map Idd.enc (stkAt d i F B))), .c, .c, .c, .c, .r (AV.sl Mode.fresh (nat_lit 30) (some (List.length (stkAt e k F B))) (List.map Idd.enc (stkAt e k F B))), .c, .c, .c, .c, .c, .c, .c, .b false, .c, .c, .c, .c, .c, .c, .b false, .cut Ex.normal [(nat_lit 3, AV.box [AV.sl Mode.any (nat_lit 62) cf (List.map Stk.enc F), AV.sl Mode.any (nat_lit 62) cb (List.map Stk.enc B)]), (nat_lit 4, AV.box [AV.atom (Value.int IntKind.u8 d), AV.atom (Value.int IntKind.i64 i)]), (nat_lit 5, AV.box [AV.atom (Value.int IntKind.u8 e), AV.atom (Value.int IntKind.i64 k)]), (nat_lit 6, AV.box [AV.atom (Value.slice none (nat_lit 0) (nat_lit 0)), AV.atom (Value.slice none (nat_lit 0) (nat_lit 0))]), (nat_lit 9, AV.sl Mode.fresh (nat_lit 30) (some (List.length (stkAt d i F B))) (List.map Idd.enc (stkAt d i F B))), (nat_lit 10, AV.sl Mode.fresh (nat_lit 30) (some (List.length (stkAt e k F B))) (List.map Idd.enc (stkAt e k F B))), (nat_lit 11, AV.sl Mode.own (nat_lit 30) none (List.map Idd.enc (stkAt e k F B ++ stkAt d i F B)))], .cut Ex.normal [(nat_lit 3, AV.box [AV.sl Mode.any (nat_lit 62) cf (List.map Stk.enc F), AV.sl Mode.any (nat_lit 62) cb (List.map Stk.enc B)]), (nat_lit 4, AV.box [AV.atom (Value.int IntKind.u8 d), AV.atom (Value.int IntKind.i64 i)]), (nat_lit 5, AV.box [AV.atom (Value.int IntKind.u8 e), AV.atom (Value.int IntKind.i64 k)]), (nat_lit 6, AV.box [AV.atom (Value.slice none (nat_lit 0) (nat_lit 0)), AV.atom (Value.slice none (nat_lit 0) (nat_lit 0))]), (nat_lit 11, AV.sl Mode.own (nat_lit 30) none (List.map Idd.enc (jnL d (stkAt d i F B) (stkAt e k F B))))], .cut Ex.normal [(nat_lit 6, AV.box [AV.sl Mode.fresh (nat_lit 62) (some (List.length (halfT (joinT F B d i e k (jnL d (stkAt d i F B) (stkAt e k F B))) (0 : Nat)))) (List.map FW (halfT (joinT F B d i e k (jnL d (stkAt d i F B) (stkAt e k F B))) (0 : Nat))), AV.sl Mode.fresh (nat_lit 62) (some (List.length (halfT (joinT F B d i e k (jnL d (stkAt d i F B) (stkAt e k F B))) (40 : Nat)))) (List.map FW (halfT (joinT F B d i e k (jnL d (stkAt d i F B) (stkAt e k F B))) (40 : Nat)))]), (nat_lit 7, it 0)]]) (ps := [PureC Try.prog (nat_lit 31) [view (AV.agg [AV.sl Mode.any (nat_lit 62) cf (List.map Stk.enc F), AV.sl Mode.any (nat_lit 62) cb (List.map Stk.enc B)])] (AV.atom (Value.int IntKind.i64 (chkV F B))), (chkV F B != (0 : Int)) = false, PureC Try.prog (nat_lit 56) [AV.agg [AV.atom (Value.int IntKind.u8 d), AV.atom (Value.int IntKind.i64 i)]] (AV.atom (Value.int IntKind.i64 (if ndV d i = true then (0 : Int) else (1 : Int)))), ((if ndV d i = true then (0 : Int) else (1 : Int)) != (0 : Int)) = false, ((if ndV d i = true then (0 : Int) else (1 : Int)) != (0 : Int)) = false, PureC Try.prog (nat_lit 56) [AV.agg [AV.atom (Value.int IntKind.u8 e), AV.atom (Value.int IntKind.i64 k)]] (AV.atom (Value.int IntKind.i64 (if ndV e k = true then (0 : Int) else (1 : Int)))), ((if ndV d i = true then (0 : Int) else (1 : Int)) != (0 : Int)) = false, ((if ndV d i = true then (0 : Int) else (1 : Int)) != (0 : Int)) = false, ((if ndV e k = true then (0 : Int) else (1 : Int)) != (0 : Int)) = false, ((if ndV e k = true then (0 : Int) else (1 : Int)) != (0 : Int)) = false, ((if ndV e k = true then (0 : Int) else (1 : Int)) != (0 : Int)) = false, ((if ndV e k = true then (0 : Int) else (1 : Int)) != (0 : Int)) = false, ((if ndV e k = true then (0 : Int) else (1 : Int)) != (0 : Int)) = false, ((if ndV e k = true then (0 : Int) else (1 : Int)) != (0 : Int)) = false, (d == e) = false, PureC Try.prog (nat_lit 33) [view (AV.agg [AV.sl Mode.any (nat_lit 62) cf (List.map Stk.enc F), AV.sl Mode.any (nat_lit 62) cb (List.map Stk.enc B)]), AV.agg [AV.atom (Value.int IntKind.u8 d), AV.atom (Value.int IntKind.i64 i)]] (AV.sl Mode.fresh (nat_lit 30) (some (List.length (stkAt d i F B))) (List.map Idd.enc (stkAt d i F B))), PureC Try.prog (nat_lit 33) [view (AV.agg [AV.sl Mode.any (nat_lit 62) cf (List.map Stk.enc F), AV.sl Mode.any (nat_lit 62) cb (List.map Stk.enc B)]), AV.agg [AV.atom (Value.int IntKind.u8 e), AV.atom (Value.int IntKind.i64 k)]] (AV.sl Mode.fresh (nat_lit 30) (some (List.length (stkAt e k F B))) (List.map Idd.enc (stkAt e k F B))), ((↑(List.length (List.map Idd.enc (stkAt d i F B))) : Int) == (0 : Int)) = false, decide ((4 : Int) < IntKind.wrap IntKind.i64 ((↑(List.length (List.map Idd.enc (stkAt d i F B))) : Int) + (↑(List.length (List.map Idd.enc (stkAt e k F B))) : Int))) = false, Tri Try.prog (cxN (68 : Nat) (0 : Nat)) (codeAt Try.f40 (11 : Nat)) [(nat_lit 3, AV.box [AV.sl Mode.any (nat_lit 62) cf (List.map Stk.enc F), AV.sl Mode.any (nat_lit 62) cb (List.map Stk.enc B)]), (nat_lit 4, AV.box [AV.atom (Value.int IntKind.u8 d), AV.atom (Value.int IntKind.i64 i)]), (nat_lit 5, AV.box [AV.atom (Value.int IntKind.u8 e), AV.atom (Value.int IntKind.i64 k)]), (nat_lit 6, AV.box [AV.atom (Value.slice none (nat_lit 0) (nat_lit 0)), AV.atom (Value.slice none (nat_lit 0) (nat_lit 0))]), (nat_lit 9, AV.sl Mode.fresh (nat_lit 30) (some (List.length (stkAt d i F B))) (List.map Idd.enc (stkAt d i F B))), (nat_lit 10, AV.sl Mode.fresh (nat_lit 30) (some (List.length (stkAt e k F B))) (List.map Idd.enc (stkAt e k F B))), (nat_lit 49, AV.atom (Value.bool (decide ((4 : Int) < IntKind.wrap IntKind.i64 ((↑(List.length (List.map Idd.enc (stkAt d i F B))) : Int) + (↑(List.length (List.map Idd.enc (stkAt e k F B))) : Int))))))] Ex.normal [(nat_lit 3, AV.box [AV.sl Mode.any (nat_lit 62) cf (List.map Stk.enc F), AV.sl Mode.any (nat_lit 62) cb (List.map Stk.enc B)]), (nat_lit 4, AV.box [AV.atom (Value.int IntKind.u8 d), AV.atom (Value.int IntKind.i64 i)]), (nat_lit 5, AV.box [AV.atom (Value.int IntKind.u8 e), AV.atom (Value.int IntKind.i64 k)]), (nat_lit 6, AV.box [AV.atom (Value.slice none (nat_lit 0) (nat_lit 0)), AV.atom (Value.slice none (nat_lit 0) (nat_lit 0))]), (nat_lit 9, AV.sl Mode.fresh (nat_lit 30) (some (List.length (stkAt d i F B))) (List.map Idd.enc (stkAt d i F B))), (nat_lit 10, AV.sl Mode.fresh (nat_lit 30) (some (List.length (stkAt e k F B))) (List.map Idd.enc (stkAt e k F B))), (nat_lit 11, AV.sl Mode.own (nat_lit 30) none (List.map Idd.enc (stkAt e k F B ++ stkAt d i F B)))], Tri Try.prog (cxN (68 : Nat) (0 : Nat)) (codeAt Try.f40 (12 : Nat)) [(nat_lit 3, AV.box [AV.sl Mode.any (nat_lit 62) cf (List.map Stk.enc F), AV.sl Mode.any (nat_lit 62) cb (List.map Stk.enc B)]), (nat_lit 4, AV.box [AV.atom (Value.int IntKind.u8 d), AV.atom (Value.int IntKind.i64 i)]), (nat_lit 5, AV.box [AV.atom (Value.int IntKind.u8 e), AV.atom (Value.int IntKind.i64 k)]), (nat_lit 6, AV.box [AV.atom (Value.slice none (nat_lit 0) (nat_lit 0)), AV.atom (Value.slice none (nat_lit 0) (nat_lit 0))]), (nat_lit 9, AV.sl Mode.fresh (nat_lit 30) (some (List.length (stkAt d i F B))) (List.map Idd.enc (stkAt d i F B))), (nat_lit 10, AV.sl Mode.fresh (nat_lit 30) (some (List.length (stkAt e k F B))) (List.map Idd.enc (stkAt e k F B))), (nat_lit 11, AV.sl Mode.own (nat_lit 30) none (List.map Idd.enc (stkAt e k F B ++ stkAt d i F B)))] Ex.normal [(nat_lit 3, AV.box [AV.sl Mode.any (nat_lit 62) cf (List.map Stk.enc F), AV.sl Mode.any (nat_lit 62) cb (List.map Stk.enc B)]), (nat_lit 4, AV.box [AV.atom (Value.int IntKind.u8 d), AV.atom (Value.int IntKind.i64 i)]), (nat_lit 5, AV.box [AV.atom (Value.int IntKind.u8 e), AV.atom (Value.int IntKind.i64 k)]), (nat_lit 6, AV.box [AV.atom (Value.slice none (nat_lit 0) (nat_lit 0)), AV.atom (Value.slice none (nat_lit 0) (nat_lit 0))]), (nat_lit 11, AV.sl Mode.own (nat_lit 30) none (List.map Idd.enc (jnL d (stkAt d i F B) (stkAt e k F B))))], Tri Try.prog (cxN (68 : Nat) (0 : Nat)) (codeAt Try.f40 (14 : Nat)) [(nat_lit 3, AV.box [AV.sl Mode.any (nat_lit 62) cf (List.map Stk.enc F), AV.sl Mode.any (nat_lit 62) cb (List.map Stk.enc B)]), (nat_lit 4, AV.box [AV.atom (Value.int IntKind.u8 d), AV.atom (Value.int IntKind.i64 i)]), (nat_lit 5, AV.box [AV.atom (Value.int IntKind.u8 e), AV.atom (Value.int IntKind.i64 k)]), (nat_lit 6, AV.box [AV.atom (Value.slice none (nat_lit 0) (nat_lit 0)), AV.atom (Value.slice none (nat_lit 0) (nat_lit 0))]), (nat_lit 11, AV.sl Mode.own (nat_lit 30) none (List.map Idd.enc (jnL d (stkAt d i F B) (stkAt e k F B))))] Ex.normal [(nat_lit 6, AV.box [AV.sl Mode.fresh (nat_lit 62) (some (List.length (halfT (joinT F B d i e k (jnL d (stkAt d i F B) (stkAt e k F B))) (0 : Nat)))) (List.map FW (halfT (joinT F B d i e k (jnL d (stkAt d i F B) (stkAt e k F B))) (0 : Nat))), AV.sl Mode.fresh (nat_lit 62) (some (List.length (halfT (joinT F B d i e k (jnL d (stkAt d i F B) (stkAt e k F B))) (40 : Nat)))) (List.map FW (halfT (joinT F B d i e k (jnL d (stkAt d i F B) (stkAt e k F B))) (40 : Nat)))]), (nat_lit 7, it 0)]]) (base 68 0) Try.func40 rfl (by simp) rfl (by kernel_rfl)  (allp (by (first | rw [view_yn] | rw [view_two] | rw [view_twoI] | rw [view_beds] | rw [view_frW] | rw [view_frN] | rw [view_twoF] | skip); apply chk_c <;> (first | assumption | rfl | (simp at * <;> omega))) (allp g0 (allp (by apply nck_c <;> (first | assumption | rfl | (simp at * <;> omega))) (allp g1 (allp g1 (allp (by apply nck_c <;> (first | assumption | rfl | (simp at * <;> omega))) (allp g1 (allp g1 (allp g2 (allp g2 (allp g2 (allp g2 (allp g2 (allp g2 (allp g3 (allp (by (first | rw [view_yn] | rw [view_two] | rw [view_twoI] | rw [view_beds] | rw [view_frW] | rw [view_frN] | rw [view_twoF] | skip); apply ndlAt_s <;> (first | assumption | rfl | (simp at * <;> omega))) (allp (by (first | rw [view_yn] | rw [view_two] | rw [view_twoI] | rw [view_beds] | rw [view_frW] | rw [view_frN] | rw [view_twoF] | skip); apply ndlAt_s <;> (first | assumption | rfl | (simp at * <;> omega))) (allp g4 (allp g5 (allp (by first | (apply chk_c <;> (first | assumption | rfl | (simp at * <;> omega))) | (apply nck_c <;> (first | assumption | rfl | (simp at * <;> omega))) | (apply ndlAt_s <;> (first | assumption | rfl | (simp at * <;> omega))) | (apply j11_c <;> (first | assumption | rfl | (simp at * <;> omega))) | (refine Tri.weak [(3, .keep), (4, .keep), (5, .keep), (6, .keep), (9, .keep), (10, .keep)] ?_; apply j11_c <;> (first | assumption | rfl | (simp at * <;> omega))) | (apply j12_c <;> (first | assumption | rfl | (simp at * <;> omega))) | (refine Tri.weak [(3, .keep), (4, .keep), (5, .keep), (6, .keep), (9, .keep), (10, .keep), (11, .keep)] ?_; apply j12_c <;> (first | assumption | rfl | (simp at * <;> omega))) | (apply j14_c <;> (first | assumption | rfl | (simp at * <;> omega))) | (refine Tri.weak [(3, .keep), (4, .keep), (5, .keep), (6, .keep), (11, .keep)] ?_; apply j14_c <;> (first | assumption | rfl | (simp at * <;> omega)))) (allp (by first | (apply chk_c <;> (first | assumption | rfl | (simp at * <;> omega))) | (apply nck_c <;> (first | assumption | rfl | (simp at * <;> omega))) | (apply ndlAt_s <;> (first | assumption | rfl | (simp at * <;> omega))) | (apply j11_c <;> (first | assumption | rfl | (simp at * <;> omega))) | (refine Tri.weak [(3, .keep), (4, .keep), (5, .keep), (6, .keep), (9, .keep), (10, .keep)] ?_; apply j11_c <;> (first | assumption | rfl | (simp at * <;> omega))) | (apply j12_c <;> (first | assumption | rfl | (simp at * <;> omega))) | (refine Tri.weak [(3, .keep), (4, .keep), (5, .keep), (6, .keep), (9, .keep), (10, .keep), (11, .keep)] ?_; apply j12_c <;> (first | assumption | rfl | (simp at * <;> omega))) | (apply j14_c <;> (first | assumption | rfl | (simp at * <;> omega))) | (refine Tri.weak [(3, .keep), (4, .keep), (5, .keep), (6, .keep), (11, .keep)] ?_; apply j14_c <;> (first | assumption | rfl | (simp at * <;> omega)))) (allp (by first | (apply chk_c <;> (first | assumption | rfl | (simp at * <;> omega))) | (apply nck_c <;> (first | assumption | rfl | (simp at * <;> omega))) | (apply ndlAt_s <;> (first | assumption | rfl | (simp at * <;> omega))) | (apply j11_c <;> (first | assumption | rfl | (simp at * <;> omega))) | (refine Tri.weak [(3, .keep), (4, .keep), (5, .keep), (6, .keep), (9, .keep), (10, .keep)] ?_; apply j11_c <;> (first | assumption | rfl | (simp at * <;> omega))) | (apply j12_c <;> (first | assumption | rfl | (simp at * <;> omega))) | (refine Tri.weak [(3, .keep), (4, .keep), (5, .keep), (6, .keep), (9, .keep), (10, .keep), (11, .keep)] ?_; apply j12_c <;> (first | assumption | rfl | (simp at * <;> omega))) | (apply j14_c <;> (first | assumption | rfl | (simp at * <;> omega))) | (refine Tri.weak [(3, .keep), (4, .keep), (5, .keep), (6, .keep), (11, .keep)] ?_; apply j14_c <;> (first | assumption | rfl | (simp at * <;> omega)))) allp_nil))))))))))))))))))))))
end Tst
end

section
open Go Go.Lf Go.Proofs
namespace Tst
def joinV (F B : List Stk) (d i e k : Int) : AV :=
  if chkV F B != 0 then nilR (chkV F B) else if !ndV d i || !ndV e k || d == e then nilR 1
  else if (stkAt d i F B).length = 0 then nilR 13 else if 4 < (stkAt d i F B).length + (stkAt e k F B).length then nilR 9
  else bedsR (halfT (joinT F B d i e k (jnL d (stkAt d i F B) (stkAt e k F B))) 0) (halfT (joinT F B d i e k (jnL d (stkAt d i F B) (stkAt e k F B))) 40)
theorem jnL_len (d : Int) (l m : List Idd) : (jnL d l m).length = l.length + m.length := by
  unfold jnL
  split <;> simp <;> omega
theorem itms_mem_F {F B : List Stk} (hF : F.length ≤ 40) {s : Stk} (h : s ∈ F) : ∃ t ∈ itms F B, t.2.2 = s := by
  obtain ⟨j, hj, rfl⟩ := List.mem_iff_getElem.1 h
  refine ⟨(0, (j : Int) + 1, F[j]), List.mem_append.2 (.inl (List.mem_map.2 ⟨(F[j], j), ?_, rfl⟩)), rfl⟩
  rw [List.take_of_length_le hF]
  exact List.mem_zipIdx_iff_getElem?.2 (by simp [hj])
theorem itms_mem_B {F B : List Stk} (hB : B.length ≤ 40) {s : Stk} (h : s ∈ B) : ∃ t ∈ itms F B, t.2.2 = s := by
  obtain ⟨j, hj, rfl⟩ := List.mem_iff_getElem.1 h
  refine ⟨(1, (j : Int) + 1, B[j]), List.mem_append.2 (.inr (List.mem_map.2 ⟨(B[j], j), ?_, rfl⟩)), rfl⟩
  rw [List.take_of_length_le hB]
  exact List.mem_zipIdx_iff_getElem?.2 (by simp [hj])
theorem stkAt_len {F B : List Stk} {n : Nat} (hf : ∀ s ∈ F, s.l.length ≤ n) (hb : ∀ s ∈ B, s.l.length ≤ n) (d i : Int) : (stkAt d i F B).length ≤ n := by
  unfold stkAt stackOf
  split
  · split
    · have key : ∀ l : List Stk, (∀ s ∈ l, s.l.length ≤ n) → ∀ j, (l.getD j default).l.length ≤ n := by
        intro l hl j
        rw [List.getD_eq_getElem?_getD]
        cases hj : l[j]? with
        | none => exact Nat.zero_le _
        | some s => exact hl s (List.mem_of_getElem? hj)
      first | exact key _ hf _ | exact key _ hb _
    · simp
  · split
    · have key : ∀ l : List Stk, (∀ s ∈ l, s.l.length ≤ n) → ∀ j, (l.getD j default).l.length ≤ n := by
        intro l hl j
        rw [List.getD_eq_getElem?_getD]
        cases hj : l[j]? with
        | none => exact Nat.zero_le _
        | some s => exact hl s (List.mem_of_getElem? hj)
      first | exact key _ hf _ | exact key _ hb _
    · simp
theorem join_c (cf cb : Option Nat) (F B : List Stk) (d i e k : Int) : PureC Try.prog 40 [beds (bsl cf F) (bsl cb B), ndl d i, ndl e k] (joinV F B d i e k) := by
  unfold joinV
  cases hc : (chkV F B != 0) with
  | true => exact jnA_0 cf cb F B d i e k hc hc
  | false =>
    have hc0 : chkV F B = 0 := by simpa using hc
    obtain ⟨hF, hB, hA⟩ := chk_len hc0
    have hf : ∀ s ∈ F, s.l.length ≤ 4 := fun s hs => by obtain ⟨t, ht, rfl⟩ := itms_mem_F (B := B) hF hs; exact hA t ht
    have hb : ∀ s ∈ B, s.l.length ≤ 4 := fun s hs => by obtain ⟨t, ht, rfl⟩ := itms_mem_B (F := F) hB hs; exact hA t ht
    cases v1 : ndV d i with
    | false => exact jnB_0 cf cb F B d i e k hc hc (by rw [v1]; rfl)
    | true =>
      have hn : ((if ndV d i = true then (0 : Int) else (1 : Int)) != (0 : Int)) = false := by rw [v1]; rfl
      cases v2 : ndV e k with
      | false => exact jnB_1 cf cb F B d i e k hc hc hn (by rw [v2]; rfl)
      | true =>
        have hn2 : ((if ndV e k = true then (0 : Int) else (1 : Int)) != (0 : Int)) = false := by rw [v2]; rfl
        cases hne : (d == e) with
        | true => exact jnB_2 cf cb F B d i e k hc hc hn hn2 hne
        | false =>
          obtain ⟨hd, h1, h2⟩ := ndV_in v1
          obtain ⟨he, h3, h4⟩ := ndV_in v2
          have hl := stkAt_len hf hb d i
          have hm := stkAt_len hf hb e k
          have hf' : ∀ s ∈ F, s.l.length ≤ 4294967296 := fun s hs => by have := hf s hs; omega
          have hb' : ∀ s ∈ B, s.l.length ≤ 4294967296 := fun s hs => by have := hb s hs; omega
          have hA' : ∀ t ∈ itms F B, t.2.2.l.length ≤ 4294967296 := fun t ht => by have := hA t ht; omega
          have hJ : (jnL d (stkAt d i F B) (stkAt e k F B)).length ≤ 4294967296 := by rw [jnL_len]; omega
          have hlen := withT_len4 (F := F) (B := B) (d := d) (i := i) (l := []) (n := 4) hA (by simp)
          have hW : ∀ t ∈ itms (stkW (halfT (withT F B d i []) 0)) (stkW (halfT (withT F B d i []) 40)), t.2.2.l.length ≤ 4294967296 := by
            intro t ht
            rcases itms_stkW_mem ht with h | h <;> have := hlen _ (halfT_mem h) <;> omega
          have hw : IntKind.wrap IntKind.i64 ((((stkAt d i F B).map Idd.enc).length : Int) + (((stkAt e k F B).map Idd.enc).length : Int)) = (((stkAt d i F B).length + (stkAt e k F B).length : Nat) : Int) := by
            rw [wrap_id' (by omega) (by simp; omega), List.length_map, List.length_map]; omega
          by_cases g4 : (stkAt d i F B).length = 0
          · simp only [if_pos g4]
            exact jnE_0 cf cb F B d i e k hc hn hn2 hne v1 v2 hf' hb' (by omega) (by omega) hd h1 h2 he h3 h4 hA' hJ hW hc hn hn2 hne (by rw [List.length_map, g4]; rfl)
          · simp only [if_neg g4]
            have g4' : ((((stkAt d i F B).map Idd.enc).length : Int) == 0) = false := by rw [List.length_map, beq_eq_false_iff_ne]; omega
            by_cases g5 : 4 < (stkAt d i F B).length + (stkAt e k F B).length
            · simp only [if_pos g5]
              exact jnE_1 cf cb F B d i e k hc hn hn2 hne v1 v2 hf' hb' (by omega) (by omega) hd h1 h2 he h3 h4 hA' hJ hW hc hn hn2 hne g4' (by rw [hw]; exact decide_eq_true (by omega))
            · simp only [if_neg g5]
              have h := jnE_2 cf cb F B d i e k hc hn hn2 hne v1 v2 hf' hb' (by omega) (by omega) hd h1 h2 he h3 h4 hA' hJ hW hc hn hn2 hne g4' (by rw [hw]; exact decide_eq_false (by omega))
              rw [smap_FW, smap_FW] at h
              exact h
end Tst
end

section
open Go Go.Lf Go.Proofs
namespace Tst
set_option maxHeartbeats 0
theorem f2_len {α β : Type} {R : α → β → Prop} {l : List α} {m : List β} (h : F2 R l m) : l.length = m.length := by
  induction h with
  | nil => rfl
  | cons _ _ ih => simp [ih]
theorem Le.toAny {P : Program} {m : Lf.Mode} (hm : m ≠ .own) {e : TypeId} {c : Option Nat} {xs ys : List AV} (hl : xs.length = ys.length) (hu : ∀ sz, Uni sz xs → Uni sz ys) (hf : F2 (Le P) (flat xs) (flat ys)) : Le P (.sl m e c xs) (.sl .any e c ys) := by
  intro B0 w S n v O hr
  obtain ⟨n, rfl⟩ := hr.pos
  have key : ∀ m', Shs P B0 w S (Rv P B0 w S n) m' e c xs v O → Shs P B0 w S (Rv P B0 w S n) .any e c ys v O := by
    intro m' ⟨A, k, hv, hk, hm, hc, hx, hz, h⟩
    refine ⟨A, k, by rw [hv, hl], by omega, hm, hc, hu _ hx, hz, fun hne => ?_⟩
    obtain ⟨g, off, C, T, fr, h1, h2, h3, h4, h5, h6⟩ := h (fun e => hne (List.eq_nil_of_length_eq_zero (by rw [← hl, e]; rfl)))
    have hfl : (flat xs).length = (flat ys).length := f2_len hf
    exact ⟨g, off, C, T, fr, h1, h2, fun h => by (cases h), h4, by rw [← hfl]; exact h5, by rw [← hfl]; exact Rc.le2 (ys := flat ys) h6 hf⟩
  cases m with
  | own => exact absurd rfl hm
  | fresh => exact key _ hr
  | any => exact key _ hr
theorem flat_ones {xs : List AV} (h : ∀ x ∈ xs, x.ecells = [x]) : flat xs = xs := by
  induction xs with
  | nil => rfl
  | cons x xs ih => rw [flat_cons, h x (by simp), ih fun y hy => h y (by simp [hy])]; rfl
theorem F2.map2 {α β γ : Type} {R : α → β → Prop} {f : γ → α} {g : γ → β} (h : ∀ x, R (f x) (g x)) : ∀ l : List γ, F2 R (l.map f) (l.map g)
  | [] => .nil
  | x :: l => .cons (h x) (F2.map2 h l)
theorem F2.rfl' {P : Program} : ∀ l : List AV, F2 (Le P) l l
  | [] => .nil
  | x :: l => .cons (Le.refl x) (F2.rfl' l)
theorem Le.fwE {P : Program} (l : List Idd) : Le P (FW l) (Stk.enc ⟨some l.length, l⟩) := Le.toAny (by simp) rfl (fun _ h => h) (F2.rfl' _)
theorem Le.frW {P : Program} (x : List (List Idd)) : Le P (frW x) (bsl (some x.length) (stkW x)) := by
  have e : (stkW x).map Stk.enc = x.map fun l => Stk.enc ⟨some l.length, l⟩ := by unfold stkW; rw [List.map_map]; rfl
  show Le P (.sl .fresh 62 (some x.length) (x.map FW)) (.sl .any 62 (some x.length) ((stkW x).map Stk.enc))
  rw [e]
  refine Le.toAny (by simp) (by simp) (fun sz h y hy => ?_) ?_
  · obtain ⟨l, hl, rfl⟩ := List.mem_map.1 hy
    have := h (FW l) (List.mem_map.2 ⟨l, hl, rfl⟩)
    exact this
  · rw [flat_ones (fun y hy => by obtain ⟨l, _, rfl⟩ := List.mem_map.1 hy; rfl), flat_ones (fun y hy => by obtain ⟨l, _, rfl⟩ := List.mem_map.1 hy; rfl)]
    exact F2.map2 (fun l => Le.fwE l) x
abbrev ia : Idd := ⟨1, 0⟩
abbrev ib : Idd := ⟨1, 1⟩
abbrev ic : Idd := ⟨2, 0⟩
abbrev XF : List Stk := [⟨some 0, []⟩, ⟨some 2, [ia, ib]⟩]
abbrev XB : List Stk := [⟨some 0, []⟩, ⟨some 1, [ic]⟩]
abbrev bX : AV := beds (bsl (some 2) XF) (bsl (some 2) XB)
abbrev YB : List Stk := [⟨some 0, []⟩, ⟨some 3, [ic, ia, ib]⟩]
abbrev bY : AV := beds (bsl (some 0) []) (bsl (some 2) YB)
abbrev bZ : AV := beds (bsl (some 2) YB) (bsl (some 0) [])
abbrev VF : List Stk := [⟨some 0, []⟩, ⟨some 1, [ib]⟩]
abbrev VB : List Stk := [⟨some 0, []⟩, ⟨some 1, [ic]⟩]
abbrev bV : AV := beds (bsl (some 2) VF) (bsl (some 2) VB)
theorem x_find : PureC Try.prog 35 [bX, .agg [ub 2, it 0]] (.tup [ndl 1 2, it 0]) :=
  fdy_0 (some 2) (some 2) XF XB ic (by decide) [(0, 1, ⟨some 0, []⟩), (0, 2, ⟨some 2, [ia, ib]⟩), (1, 1, ⟨some 0, []⟩)] (1, 2, ⟨some 1, [ic]⟩) [] rfl (by decide) (by decide)
theorem x_chk : PureC Try.prog 31 [bX] (it 0) := chk_c (some 2) (some 2) XF XB
theorem x_at2 : PureC Try.prog 33 [bX, ndl 0 2] (iow (some 2) [ia, ib]) := ndlAt_v 0 2 (some 2) (some 2) XF XB rfl (by decide) (by decide)
theorem x_at1 : PureC Try.prog 33 [bX, ndl 0 1] (iow (some 0) []) := ndlAt_v 0 1 (some 2) (some 2) XF XB rfl (by decide) (by decide)
theorem x_cnt : PureC Try.prog 36 [bX] (it 3) := cn_0 (some 2) (some 2) XF XB (by decide)
abbrev rY : AV := .tup [.agg [frW [], frW [[], [ic, ia, ib]]], it 0]
abbrev rZ : AV := .tup [.agg [frW [[], [ic, ia, ib]], frW []], it 0]
theorem x_jn1 : PureC Try.prog 40 [bX, ndl 0 2, ndl 1 2] (.tup [.agg [.sl .fresh 62 (some 0) [], .sl .fresh 62 (some 2) [.sl .fresh 30 (some 0) [], .sl .fresh 30 (some 3) [Idd.enc ic, Idd.enc ia, Idd.enc ib]]], it 0]) := join_c (some 2) (some 2) XF XB 0 2 1 2
theorem x_jn2 : PureC Try.prog 40 [bX, ndl 1 2, ndl 0 2] (.tup [.agg [.sl .fresh 62 (some 2) [.sl .fresh 30 (some 0) [], .sl .fresh 30 (some 3) [Idd.enc ic, Idd.enc ia, Idd.enc ib]], .sl .fresh 62 (some 0) []], it 0]) := join_c (some 2) (some 2) XF XB 1 2 0 2
theorem x_jn3 : PureC Try.prog 40 [bX, ndl 0 1, ndl 1 1] (nilR 13) := join_c (some 2) (some 2) XF XB 0 1 1 1
theorem x_jn4 : PureC Try.prog 40 [bX, ndl 0 2, ndl 0 3] (nilR 1) := join_c (some 2) (some 2) XF XB 0 2 0 3
theorem x_set1 : PureC Try.prog 38 [bX, ndl 0 1, isl (some 1) [ic]] (nilR 8) := set_c (some 2) (some 2) (some 1) XF XB 0 1 [ic] (by decide)
theorem x_set2 : PureC Try.prog 38 [bX, ndl 0 2, isl (some 1) [ib]] (.tup [.agg [.sl .fresh 62 (some 2) [.sl .fresh 30 (some 0) [], .sl .fresh 30 (some 1) [Idd.enc ib]], .sl .fresh 62 (some 2) [.sl .fresh 30 (some 0) [], .sl .fresh 30 (some 1) [Idd.enc ic]]], it 0]) := set_c (some 2) (some 2) (some 1) XF XB 0 2 [ib] (by decide)
theorem y_at : PureC Try.prog 33 [bY, ndl 1 2] (iow (some 3) [ic, ia, ib]) := ndlAt_v 1 2 (some 0) (some 2) [] YB rfl (by decide) (by decide)
theorem z_at : PureC Try.prog 33 [bZ, ndl 0 2] (iow (some 3) [ic, ia, ib]) := ndlAt_v 0 2 (some 2) (some 0) YB [] rfl (by decide) (by decide)
theorem v_at : PureC Try.prog 33 [bV, ndl 0 2] (iow (some 1) [ib]) := ndlAt_v 0 2 (some 2) (some 2) VF VB rfl (by decide) (by decide)
theorem v_cnt : PureC Try.prog 36 [bV] (it 2) := cn_0 (some 2) (some 2) VF VB (by decide)
theorem s_y : PureC Try.prog 41 [isl (some 3) [ic, ia, ib], isl (some 3) [ic, ia, ib]] (it 1) := s41_c 3 (some 3) [ic, ia, ib] [ic, ia, ib] (by decide)
theorem s_v : PureC Try.prog 41 [isl (some 1) [ib], isl (some 1) [ib]] (it 1) := s41_c 1 (some 1) [ib] [ib] (by decide)
abbrev tXF : AV := .sl .any 62 (some 2) [.sl .any 30 (some 0) [], .sl .any 30 (some 2) [Idd.enc ia, Idd.enc ib]]
abbrev tXB : AV := .sl .any 62 (some 2) [.sl .any 30 (some 0) [], .sl .any 30 (some 1) [Idd.enc ic]]
abbrev tYB : AV := .sl .any 62 (some 2) [.sl .any 30 (some 0) [], .sl .any 30 (some 3) [Idd.enc ic, Idd.enc ia, Idd.enc ib]]
abbrev tVF : AV := .sl .any 62 (some 2) [.sl .any 30 (some 0) [], .sl .any 30 (some 1) [Idd.enc ib]]
abbrev tVB : AV := .sl .any 62 (some 2) [.sl .any 30 (some 0) [], .sl .any 30 (some 1) [Idd.enc ic]]
abbrev tN : AV := .sl .any 62 (some 0) []
abbrev eX : AV := .box [tXF, tXB]
abbrev eY : AV := .box [tN, tYB]
abbrev eZ : AV := .box [tYB, tN]
abbrev eV : AV := .box [tVF, tVB]
end Tst
end
