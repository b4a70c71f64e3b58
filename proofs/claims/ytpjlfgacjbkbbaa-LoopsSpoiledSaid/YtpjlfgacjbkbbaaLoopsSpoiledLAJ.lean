/- Part 10 of the evaluator and of the contracts that the claim uses. -/
import Derived.Test.YtpjlfgacjbkbbaaLoopsSpoiledLAA
import Derived.Test.YtpjlfgacjbkbbaaLoopsSpoiledLAB
import Derived.Test.YtpjlfgacjbkbbaaLoopsSpoiledLAC
import Derived.Test.YtpjlfgacjbkbbaaLoopsSpoiledLAD
import Derived.Test.YtpjlfgacjbkbbaaLoopsSpoiledLAE
import Derived.Test.YtpjlfgacjbkbbaaLoopsSpoiledLAF
import Derived.Test.YtpjlfgacjbkbbaaLoopsSpoiledLAG
import Derived.Test.YtpjlfgacjbkbbaaLoopsSpoiledLAH
import Derived.Test.YtpjlfgacjbkbbaaLoopsSpoiledLAI
set_option linter.unusedVariables false
set_option linter.unusedSimpArgs false
set_option linter.constructorNameAsVariable false
set_option linter.unusedSectionVars false
open Go.IntKind (i64 u8)

section
open Go Go.Lf Go.Proofs
namespace Tst
noncomputable abbrev spB : Code := .seq (zqr Try.f7 9) (.cond (.tmp 45) (zqr Try.f7 10) (.seq (zqr Try.f7 11) (.cond (.tmp 61) (.seq (zqr Try.f7 12) (.seq (zqr Try.f7 13) (.seq (zqr Try.f7 14) (.seq (zqr Try.f7 15) (.cond (.tmp 79) (zqr Try.f7 16) .skip))))) (.seq (zqr Try.f7 17) (.cond (.tmp 80) (.seq (zqr Try.f7 18) (zqr Try.f7 19)) (.seq (zqr Try.f7 20) (.cond (.tmp 88) (zqr Try.f7 21) (zqr Try.f7 8))))))))
theorem ys9 : Try.f7.body = some (.seq (zqr Try.f7 0) (.seq (.region 1 (zql Try.f7 1) false) (.seq (.seq (zqr Try.f7 2) (.cond (.tmp 19) (.seq (zqr Try.f7 3) .ret) .skip)) (.seq (zqr Try.f7 4) (.seq (zqr Try.f7 5) (.seq (zqr Try.f7 6) (.seq (.seq (zqr Try.f7 7) (.block 0 spB)) (.seq (zqr Try.f7 22) .ret)))))))) := by kernel_rfl
theorem yp3 (y n : Int) : ydk [⟨y, n, false, 0⟩, ⟨y, n, false, 1⟩] = false := by
 unfold ydk
 rw [Bool.and_eq_false_iff]
 right
 rw [decide_eq_false_iff_not]
 intro h
 have := (yt0 _).1 h 0 (by simp)
 have hc : can ⟨y, n, false, 0⟩ ⟨y, n, false, 1⟩ = true := yhi.2 ⟨rfl, rfl⟩
 have e : can ([(⟨y, n, false, 0⟩ : Ps), ⟨y, n, false, 1⟩].getD 0 default) ([(⟨y, n, false, 0⟩ : Ps), ⟨y, n, false, 1⟩].getD (0 + 1) default) = can ⟨y, n, false, 0⟩ ⟨y, n, false, 1⟩ := rfl
 rw [e, hc] at this
 cases this
theorem yp4 (y n : Int) : ydk [⟨y, n, false, 0⟩] = true := rfl
theorem ynu (c : Option Nat) (x : List Lx) (hx : x.length < 2 ^ 63) (hX : ∀ L ∈ x, OkX L) (z0 z1 : Int) (hz0 : 0 ≤ z0) (hz1 : z0 ≤ 255) (hw0 : 0 ≤ z1) (hw1 : z1 ≤ 255) : PureC Try.prog 7 [xsl c x, .agg [ub z0, ub z1]] (bb true) := by
 have hS := ypf x hX
 obtain ⟨hcm, hc60⟩ := cnt_of x
 have hof : HOf c x (ofS x).m (ofS x).md := of_c c x hx hX
 generalize ofS x = S at *
 have hrw : ∀ r ∈ S.m, r.length < 2 ^ 60 := fun r hr => by have := ytf hr; omega
 have ht6 : (tb S.m).length = 6 := by rw [ydg, hS.m6]
 have hrow' : ∀ r ∈ tb S.m, r.l.length < 2 ^ 60 := fun r hr => by
  obtain ⟨q, hq, rfl⟩ := List.mem_map.1 hr
  exact hrw q hq
 have hOT := hS.okT
 have hm : ∀ r ∈ S.m, ∀ L ∈ r, L.ct = none ∧ L.cp = none := fun r hr L hL' => ⟨(hS.fine r hr L hL').ct, (hS.fine r hr L hL').cp⟩
 refine yc5 ((base 109 0).ok zqb.1 zqb.2) Try.func7 rfl (by show 2 ≤ 109; omega) rfl ys9 rfl (ex := .ret) (env' := [(4, bb true)]) (.seq (sp0_0 c x z0 z1) (.seq (sp1_1 c x S.m S.md z0 z1 hof) ?_)) (by kernel_rfl)
 have h2 := sp2_0 S.m S.md z0 z1
 rw [zla] at h2
 by_cases hl2 : S.md.length < 2
 ·rw [show decide ((S.md.length : Int) < 2) = true from zlb (by omega)] at h2
  exact .seqX (.seq h2 (.cond (b := true) rfl (.seq (.weak (kp [5]) (sp3_0 S.m)) .ret))) (by simp)
 ·rw [show decide ((S.md.length : Int) < 2) = false from zlc (by omega)] at h2
  have h2 := Tri.seq h2 (.cond (t := 19) (c := .seq (zqr Try.f7 3) .ret) (d := .skip) (b := false) rfl (.after (kp [3, 5, 6]) .skip))
  refine .seq h2 ?_
  -- the loop that is spoilt
  have hk : z0.toNat % S.md.length < S.md.length := Nat.mod_lt _ (by omega)
  have ha : S.md.getD (z0.toNat % S.md.length) default ∈ S.md := by rw [zld, zle hk]; exact zlu hk
  obtain ⟨q, mr, hq⟩ : ∃ q mr, S.md = q :: mr := by
   match h : S.md, hl2 with
   | [], hl2 => simp at hl2
   | q :: mr, _ => exact ⟨q, mr, rfl⟩
  have hqm : q ∈ S.md := by rw [hq]; simp
  have h4 : Tri Try.prog (cxN 109 0) (zqr Try.f7 4) [(3, .box [ub z0, ub z1]), (5, tGW S.m), (6, isl none S.md)] .normal [(3, .box [ub z0, ub z1]), (5, tGW S.m), (6, isl none S.md), (7, .box [ub (S.md.getD (z0.toNat % S.md.length) default).y, it (S.md.getD (z0.toNat % S.md.length) default).n])] := by
   have wz : IntKind.wrap i64 z0 = z0 := yaf (by omega) (by omega)
   have hmod : Int.tmod z0 (S.md.length : Int) = ((z0.toNat % S.md.length : Nat) : Int) := by
    obtain ⟨zn, rfl⟩ : ∃ zn : Nat, z0 = zn := ⟨z0.toNat, by omega⟩
    rw [Int.tmod_eq_emod_of_nonneg (by omega), zlf]; rfl
   have h := sp4_0 S.m q mr z0 z1
   rw [← hq, wz, zla, hmod, zlf] at h
   exact h (zlb (by omega)) (yah hk)
  generalize S.md.getD (z0.toNat % S.md.length) default = a at *
  have hh := hS.has_old ha
  obtain ⟨a1, a2, a3, a4⟩ := yas hh
  rw [yht] at a4
  have hi : (a.y - 1).toNat < S.m.length := by rw [hS.m6]; omega
  have hn : a.n.toNat < (S.m.getD (a.y - 1).toNat default).length := by omega
  have wy := yey a1 (by omega)
  have h5 := sp5_0 S.m S.md z0 z1 a
  rw [wy] at h5
  have h5 := h5 (zlb (by rw [zla]; omega)) (zlb (by rw [zla]; omega)) (ybe hi) (zlb (by rw [zla]; omega))
  have h7 := sp7_0 S.m S.md z0 z1 a (a.y - 1).toNat a.n.toNat
  refine .seq h4 (.seq h5 (.seq (sp6_0 S.m S.md z0 z1 a (a.y - 1).toNat a.n.toNat) ?_))
  have hfin := yu5 hS hh
  have hK : atV (tb S.m) a.y a.n = (S.m.getD (a.y - 1).toNat default).getD a.n.toNat default := yjp _ _ _
  have hKr : (S.m.getD (a.y - 1).toNat default).getD a.n.toNat default ∈ S.m.getD (a.y - 1).toNat default := ykh hn
  have hment := hS.ment hh
  have hcc : cntV (tb S.m) ≤ 2048 := by omega
  have hy255 : ∀ p ∈ S.md, 0 ≤ p.y ∧ p.y ≤ 255 := fun p hp => by have := yas (hS.has_old hp); omega
  -- the check of a table with another loop
  have fin : ∀ (E : AV) (k : Nat) (L' : Lp) (v : Int), mapE (remode (fun _ => .any) 10) (setE (Lp.encG ((S.m.getD (a.y - 1).toNat default).getD a.n.toNat default)) k [E]) = L'.enc → (∀ p ∈ zqz L', 0 ≤ p.y ∧ p.y ≤ 255) → L'.th.length ≤ 100 → L'.pa.length ≤ 100 → chV (putT (tb S.m) (a.y - 1).toNat a.n.toNat L') = v → Tri Try.prog (cxN 109 0) (.seq (zqr Try.f7 22) .ret) [(5, .sl .own 37 none (spU S.m (a.y - 1).toNat a.n.toNat k E)), (9, it v)] .ret [(4, bb true)] := by
   intro E k L' v hE hI h1 h2 hv
   refine .seq (sp22h _ _ v (ypd hm hi hn E L' hE) ?_) .ret
   rw [← hv]
   have hl : (putT (tb S.m) (a.y - 1).toNat a.n.toNat L').length = 6 := by rw [yd0, ht6]
   exact yfz none _ (by rw [yi2 hh]; omega) (by omega) (yte hrow' _ _ _ (by omega)) (ytt hOT _ _ ⟨hI, by omega, by omega⟩ (by omega))
  have go : ∀ {env1 : Env} {r : Tri Try.prog (cxN 109 0) spB [(5, tGW S.m), (6, isl none S.md), (7, .box [ub a.y, it a.n]), (8, .adr 5 [((a.y - 1).toNat, 0)] a.n.toNat 0), (9, it 1), (41, ub (Int.tmod z1 5))] .normal env1}, Tri Try.prog (cxN 109 0) (.seq (zqr Try.f7 22) .ret) env1 .ret [(4, bb true)] → Tri Try.prog (cxN 109 0) (.seq (.seq (zqr Try.f7 7) (.block 0 spB)) (.seq (zqr Try.f7 22) .ret)) [(3, .box [ub z0, ub z1]), (5, tGW S.m), (6, isl none S.md), (7, .box [ub a.y, it a.n]), (8, .adr 5 [((a.y - 1).toNat, 0)] a.n.toNat 0), (9, it 1)] .ret [(4, bb true)] := fun {env1} {r} h =>
   .seq (.seq h7 (.block (ex := .normal) r (.inr ⟨by simp, rfl⟩))) h
  have h9 := sp9_0 S.m S.md a (a.y - 1).toNat a.n.toNat (Int.tmod z1 5)
  have h11 := yxe S.m S.md a (a.y - 1).toNat a.n.toNat (Int.tmod z1 5)
  have h17 := yxa S.m S.md a (a.y - 1).toNat a.n.toNat (Int.tmod z1 5)
  have h20 := yw7 S.m S.md (a.y - 1).toNat a.n.toNat (Int.tmod z1 5)
  have hv5 : 0 ≤ Int.tmod z1 5 ∧ Int.tmod z1 5 < 5 := by rw [Int.tmod_eq_emod_of_nonneg (by omega)]; omega
  generalize Int.tmod z1 5 = v at *
  have g4 := zlb (p := (a.y - 1).toNat < (S.m.map gOW).length) (by rw [zla]; exact hi)
  have g6 := zlb (p := a.n.toNat < ((S.m.getD (a.y - 1).toNat default).map Lp.encG).length) (by rw [zla]; exact hn)
  generalize hKK : (S.m.getD (a.y - 1).toNat default).getD a.n.toNat default = K at *
  have hmK : ∀ p ∈ zqz K, p ∈ S.md := by rw [← hK]; exact hment
  rw [hK] at hfin
  have mth : ∀ p ∈ K.th, p ∈ S.md := fun p hp => hmK p (List.mem_append_left _ hp)
  have mpa : ∀ p ∈ yfv K, p ∈ S.md := fun p hp => hmK p (List.mem_append_right _ hp)
  have hfth := hfin.th
  have hfpa := hfin.pa
  by_cases v0 : v = 0
  ·-- a name that is not there
   subst v0
   have h10 := yxf S.m a (a.y - 1).toNat a.n.toNat
   rw [wy] at h10
   have h10 := h10 (zlb (by rw [zla]; omega)) g4 (ybe hi) rfl g4 (ybe hi) g6 (yd5 hn) (by rw [ybe hi]; exact yr3 hi _ ⟨_, _, _, rfl⟩)
   refine go (r := .seq h9 (.cond (b := true) rfl (.weak (kp [5, 7, 8, 9]) h10))) (fin (iow (some 1) [⟨a.y, (((S.m.getD (a.y - 1).toNat default).map Lp.encG).length : Nat)⟩]) 2 ⟨K.b, K.w, some 1, [⟨a.y, ((S.m.getD (a.y - 1).toNat default).length : Nat)⟩], none, K.pa⟩ 1 ?_ ?_ (by simp) (by show K.pa.length ≤ _; omega) ?_)
   ·rw [zla]
    show AV.agg [ub K.b, bb K.w, .sl .any 36 (some 1) [idE a.y ((S.m.getD (a.y - 1).toNat default).length : Nat)], .sl .any 56 none ((K.pa.map Ps.enc).map (mapE (remode (fun _ => .any) 9)))] = _
    rw [ybm]; rfl
   ·intro p hp
    rcases List.mem_append.1 hp with h | h
    ·rw [zlv] at h; subst h; exact hy255 a ha
    ·exact hy255 p (mpa p h)
   ·refine yi3 hh ht6 hcc ?_
    rw [Bool.eq_false_iff]
    intro hr
    unfold yaa at hr
    rw [zlo, zls] at hr
    have := hr.2 ⟨a.y, ((S.m.getD (a.y - 1).toNat default).length : Nat)⟩ (List.mem_append_left _ (by simp))
    rw [yg0 hh] at this
    have := (yck _ _ _).1 this
    simp only at this
    omega
  ·rw [show (v == 0) = false by rw [beq_eq_false_iff_ne]; exact v0] at h9
   by_cases v1 : v = 1
   ·-- it goes through itself
    subst v1
    obtain ⟨r, b, hab, hb, hne⟩ := yrh hS hrw hcc ha
    have h12 := Tri.after (kp [5, 7, 8, 10, 11]) (sp12h S.m hm a.y a.n r.y r.n b a.n.toNat (a.y - 1).toNat hab)
    have h13 := yxd S.m a (a.y - 1).toNat a.n.toNat r.y r.n b rfl g4 (ybe hi) g6 (yd5 hn)
    have hck : ckT (putT (tb S.m) (a.y - 1).toNat a.n.toNat ⟨K.b, K.w, some 1, [a], none, K.pa⟩) = true := yj1 hS ha _ hfin.b (by simp) hfin.pend (fun p hp => by
     rcases List.mem_append.1 hp with h | h
     ·have h : p ∈ [a] := h
      rw [zlv] at h; subst h; exact ha
     ·exact mpa p h) (by rw [hK])
    have hch := ypr hS hcc ha ⟨K.b, K.w, some 1, [a], none, K.pa⟩ hck rfl
    have h15 : Tri Try.prog (cxN 109 0) (.seq (zqr Try.f7 15) (.cond (.tmp 79) (zqr Try.f7 16) .skip)) [(5, .sl .own 37 none (spU S.m (a.y - 1).toNat a.n.toNat 2 (iow (some 1) [a]))), (7, .box [ub a.y, it a.n]), (9, it 6), (10, .box [ub r.y, it r.n]), (11, bb b)] .normal [(5, .sl .own 37 none (spU S.m (a.y - 1).toNat a.n.toNat 2 (iow (some 1) [a]))), (9, it (if a ∈ flT (tb S.m) then 8 else 6))] := by
     cases b with
     | false =>
      rw [if_neg (of_decide_eq_false hb.symm)]
      exact .seq (ytb _ a.y a.n r.y r.n) (.cond (b := false) rfl (.after (kp [5, 9]) .skip))
     | true =>
      rw [if_pos (of_decide_eq_true hb.symm)]
      have h := yta (spU S.m (a.y - 1).toNat a.n.toNat 2 (iow (some 1) [a])) a.y a.n r.y r.n
      rw [eqb_id, zlc (hne rfl)] at h
      exact .seq h (.cond (b := true) rfl (.weak (kp [5, 9]) (yxb _)))
    refine go (r := .seq h9 (.cond (b := false) rfl (.seq (.weak (kp [5, 6, 7, 8, 9, 41]) h11) (.cond (b := true) rfl (.seq (.weak (kp [5, 7, 8]) h12) (.seq h13 (.seq (yxc _ a.y a.n r.y r.n b) h15))))))) (fin (iow (some 1) [a]) 2 ⟨K.b, K.w, some 1, [a], none, K.pa⟩ _ ?_ ?_ (by simp) (by show K.pa.length ≤ _; omega) hch)
    ·show AV.agg [ub K.b, bb K.w, .sl .any 36 (some 1) [a.enc], .sl .any 56 none ((K.pa.map Ps.enc).map (mapE (remode (fun _ => .any) 9)))] = _
     rw [ybm]; rfl
    ·intro p hp
     rcases List.mem_append.1 hp with h | h
     ·have h : p ∈ [a] := h
      rw [zlv] at h; subst h; exact hy255 p ha
     ·exact hy255 p (mpa p h)
   ·rw [show (v == 1) = false by rw [beq_eq_false_iff_ne]; exact v1] at h11
    by_cases v2 : v = 2
    ·-- its yarn has passed it
     subst v2
     have h18 := yw9 S.m a (a.y - 1).toNat a.n.toNat rfl g4 (ybe hi) g6 (yd5 hn)
     have hck : ckT (putT (tb S.m) (a.y - 1).toNat a.n.toNat ⟨K.b, K.w, none, K.th, some 1, [⟨a.y, a.n, false, 0⟩]⟩) = true := yj1 hS ha _ hfin.b (by show K.th.length ≤ 4; exact hfth) (yp4 _ _) (fun p hp => by
      rcases List.mem_append.1 hp with h | h
      ·exact mth p h
      ·have h : p ∈ [a] := h
       rw [zlv] at h; subst h; exact ha) (by rw [hK])
     have hch := yps hS hcc ha ⟨K.b, K.w, none, K.th, some 1, [⟨a.y, a.n, false, 0⟩]⟩ hck (by rw [hK]) (List.mem_append_right _ (by show a ∈ [a]; simp))
     refine go (r := .seq h9 (.cond (b := false) rfl (.seq (.weak (kp [5, 6, 7, 8, 9, 41]) h11) (.cond (b := false) rfl (.seq (.weak (kp [5, 6, 7, 8, 9, 41]) h17) (.cond (b := true) rfl (.seq (.weak (kp [5, 7, 8]) h18) (yw8 _)))))))) (fin (ow (some 1) [⟨a.y, a.n, false, 0⟩]) 3 ⟨K.b, K.w, none, K.th, some 1, [⟨a.y, a.n, false, 0⟩]⟩ _ ?_ ?_ (by show K.th.length ≤ _; omega) (by simp) hch)
     ·show AV.agg [ub K.b, bb K.w, .sl .any 36 none ((K.th.map Idd.enc).map (mapE (remode (fun _ => .any) 9))), .sl .any 56 (some 1) [Ps.enc ⟨a.y, a.n, false, 0⟩]] = _
      rw [ybb]; rfl
     ·intro p hp
      rcases List.mem_append.1 hp with h | h
      ·exact hy255 p (mth p h)
      ·have h : p ∈ [a] := h
       rw [zlv] at h; subst h; exact hy255 p ha
    ·rw [show (v == 2) = false by rw [beq_eq_false_iff_ne]; exact v2] at h17
     by_cases v3 : v = 3
     ·-- two passes that cancel
      subst v3
      have h21 := yw6 S.m q mr (a.y - 1).toNat a.n.toNat (zlb (by rw [zla]; simp)) rfl g4 (ybe hi) g6 (yd5 hn) (by rw [ybe hi]; exact yr3 hi _ ⟨_, _, _, rfl⟩)
      rw [← hq] at h21
      refine go (r := .seq h9 (.cond (b := false) rfl (.seq (.weak (kp [5, 6, 7, 8, 9, 41]) h11) (.cond (b := false) rfl (.seq (.weak (kp [5, 6, 7, 8, 9, 41]) h17) (.cond (b := false) rfl (.seq (.weak (kp [5, 6, 8, 9, 41]) h20) (.cond (b := true) rfl (.weak (kp [5, 6, 8, 9]) h21))))))))) (fin (ow (some 2) [⟨q.y, q.n, false, 0⟩, ⟨q.y, q.n, false, 1⟩]) 3 ⟨K.b, K.w, none, K.th, some 2, [⟨q.y, q.n, false, 0⟩, ⟨q.y, q.n, false, 1⟩]⟩ 1 ?_ ?_ (by show K.th.length ≤ _; omega) (by simp) ?_)
      ·show AV.agg [ub K.b, bb K.w, .sl .any 36 none ((K.th.map Idd.enc).map (mapE (remode (fun _ => .any) 9))), .sl .any 56 (some 2) [Ps.enc ⟨q.y, q.n, false, 0⟩, Ps.enc ⟨q.y, q.n, false, 1⟩]] = _
       rw [ybb]; rfl
      ·intro p hp
       rcases List.mem_append.1 hp with h | h
       ·exact hy255 p (mth p h)
       ·have h : p ∈ [q, q] := h
        simp only [List.mem_cons, List.not_mem_nil, or_false, or_self] at h
        subst h; exact hy255 p hqm
      ·refine yi3 hh ht6 hcc ?_
       unfold yaa
       rw [show ydk (⟨K.b, K.w, none, K.th, some 2, [⟨q.y, q.n, false, 0⟩, ⟨q.y, q.n, false, 1⟩]⟩ : Lp).pa = false from yp3 q.y q.n]
       simp
     ·-- a bed that there is not
      rw [show (v == 3) = false by rw [beq_eq_false_iff_ne]; exact v3] at h20
      have h8 := sp8_0 S.m (a.y - 1).toNat a.n.toNat g4 (ybe hi) g6 (yd5 hn)
      refine go (r := .seq h9 (.cond (b := false) rfl (.seq (.weak (kp [5, 6, 7, 8, 9, 41]) h11) (.cond (b := false) rfl (.seq (.weak (kp [5, 6, 7, 8, 9, 41]) h17) (.cond (b := false) rfl (.seq (.weak (kp [5, 6, 8, 9, 41]) h20) (.cond (b := false) rfl (.weak (kp [5, 8, 9]) h8))))))))) (fin (ub 2) 0 ⟨2, K.w, none, K.th, none, K.pa⟩ 1 ?_ ?_ (by show K.th.length ≤ _; omega) (by show K.pa.length ≤ _; omega) ?_)
      ·show AV.agg [ub 2, bb K.w, .sl .any 36 none ((K.th.map Idd.enc).map (mapE (remode (fun _ => .any) 9))), .sl .any 56 none ((K.pa.map Ps.enc).map (mapE (remode (fun _ => .any) 9)))] = _
       rw [ybb, ybm]; rfl
      ·intro p hp
       rcases List.mem_append.1 hp with h | h
       ·exact hy255 p (mth p h)
       ·exact hy255 p (mpa p h)
      ·refine yi3 hh ht6 hcc ?_
       unfold yaa
       simp
theorem F2.cons' {α β : Type} {R : α → β → Prop} {x : α} {l : List α} {m : List β} (h : F2 R (x :: l) m) : ∃ y m', m = y :: m' ∧ R x y ∧ F2 R l m' := by
 cases h with
 | cons h t => exact ⟨_, _, rfl, h, t⟩
theorem F2.nil' {α β : Type} {R : α → β → Prop} {m : List β} (h : F2 R [] m) : m = [] := by cases h; rfl
section
variable {P : Program} {t : TypeId} {ys : List AV}
theorem yj4 (m : Nat) {k : IntKind} (hu : P.underlying t = some (.int k)) (h : ya0 P (m + 1) t ys) : ∃ i, ys = [.atom (.int k i)] ∧ (Lit.int k i).wf = true := by
 unfold ya0 at h; rw [hu] at h; exact h
theorem ymq (m : Nat) (hu : P.underlying t = some .bool) (h : ya0 P (m + 1) t ys) : ∃ b, ys = [.atom (.bool b)] := by
 unfold ya0 at h; rw [hu] at h; exact h
theorem yj3 (m : Nat) {e : TypeId} (hu : P.underlying t = some (.slice e)) (h : ya0 P (m + 1) t ys) : ∃ xs, ys = [.sl .any e none xs] ∧ xs.length ≤ maxLen ∧ ∀ x ∈ xs, ∃ cs, x = elOf P e cs ∧ cs.length = P.cellsOf e ∧ ya0 P m e cs := by
 unfold ya0 at h; rw [hu] at h; exact h
theorem ypt (m : Nat) {n : Nat} {e : TypeId} (hu : P.underlying t = some (.array n e)) (h : ya0 P (m + 1) t ys) : ∃ yss : List (List AV), ys = yss.flatten ∧ yss.length = n ∧ ∀ cs ∈ yss, ya0 P m e cs := by
 unfold ya0 at h; rw [hu] at h; exact h
theorem ymp (m : Nat) {fs : Array Field} (hu : P.underlying t = some (.struct fs)) (h : ya0 P (m + 1) t ys) : ∃ yss : List (List AV), ys = yss.flatten ∧ F2 (fun f cs => ya0 P m f.type cs) fs.toList yss := by
 unfold ya0 at h; rw [hu] at h; exact h
end
theorem yea {α : Type} (f : α → AV) (Q : α → Prop) : ∀ xs : List AV, (∀ x ∈ xs, ∃ a, x = f a ∧ Q a) → ∃ l : List α, xs = l.map f ∧ ∀ a ∈ l, Q a
 | [], _ => ⟨[], rfl, by simp⟩
 | x :: xs, h => by
  obtain ⟨a, rfl, ha⟩ := h x (by simp)
  obtain ⟨l, rfl, hl⟩ := yea f Q xs fun y hy => h y (by simp [hy])
  exact ⟨a :: l, rfl, by
   intro b hb
   rcases List.mem_cons.1 hb with rfl | hb
   ·exact ha
   ·exact hl b hb⟩
def U8 (x : Int) : Prop := 0 ≤ x ∧ x ≤ 255
theorem ypg {i : Int} (h : (Lit.int .u8 i).wf = true) : U8 i := by
 simp only [Lit.wf, zlo, decide_eq_true_eq] at h
 exact h
def Arg (P : Program) (t : TypeId) (x : AV) : Prop := ∃ ys, x = elOf P t ys ∧ ya0 P 8 t ys ∧ ys.length = P.cellsOf t
theorem args2 {P : Program} {s t : TypeId} {xs : List AV} (h : F2 (Arg P) [s, t] xs) : ∃ x y, xs = [x, y] ∧ Arg P s x ∧ Arg P t y := by
 obtain ⟨x, _, rfl, h1, h⟩ := F2.cons' h
 obtain ⟨y, _, rfl, h2, h⟩ := F2.cons' h
 obtain rfl := F2.nil' h
 exact ⟨x, y, rfl, h1, h2⟩
theorem el_no {P : Program} {t : TypeId} (h : aggT P t = false) (x : AV) : elOf P t [x] = x := by unfold elOf; rw [if_neg (Bool.eq_false_iff.1 h)]; rfl
structure Ty5 (P : Program) : Prop where
 u3 : P.underlying 3 = some (.int .i64)
 u4 : P.underlying 4 = some .bool
 u5 : P.underlying 5 = some (.int .u8)
 u65 : P.underlying 65 = some (.slice 5)
 u23 : P.underlying 23 = some (.slice 67)
 u67 : ∃ a b c d e : Field, P.underlying 67 = some (.struct #[a, b, c, d, e]) ∧ a.type = 5 ∧ b.type = 4 ∧ c.type = 4 ∧ d.type = 65 ∧ e.type = 65
 a67 : aggT P 67 = true
 a5 : aggT P 5 = false
 a23 : aggT P 23 = false
theorem tyP5 : Ty5 Try.prog := ⟨Try.underlying3, Try.underlying4, Try.underlying5, Try.underlying65, Try.underlying23, ⟨_, _, _, _, _, Try.underlying67, rfl, rfl, rfl, rfl, rfl⟩, by kernel_rfl, by kernel_rfl, by kernel_rfl⟩
section
variable {P : Program} {m : Nat}
theorem ywu (T : Ty5 P) {ys : List AV} (h : ya0 P (m + 2) 65 ys) : ∃ l : List Int, ys = [u8l none l] ∧ (∀ p ∈ l, U8 p) ∧ l.length ≤ maxLen := by
 obtain ⟨xs, rfl, hl, hx⟩ := yj3 (m + 1) T.u65 h
 obtain ⟨a, rfl, ha⟩ := yea ubE U8 xs fun x hx' => by
  obtain ⟨cs, rfl, _, hc⟩ := hx x hx'
  obtain ⟨i, rfl, w⟩ := yj4 m T.u5 hc
  exact ⟨i, el_no T.a5 _, ypg w⟩
 exact ⟨a, rfl, ha, by simpa using hl⟩
theorem lx_of (T : Ty5 P) {cs : List AV} (h : ya0 P (m + 3) 67 cs) : ∃ L : Lx, .agg cs = Lx.enc L ∧ OkX L := by
 obtain ⟨fa, fb, fc, fd, fe, hu, ta, tb, tc, td, te⟩ := T.u67
 obtain ⟨yss, rfl, hf⟩ := ymp (m + 2) hu h
 obtain ⟨c1, _, rfl, h1, hf⟩ := F2.cons' hf
 obtain ⟨c2, _, rfl, h2, hf⟩ := F2.cons' hf
 obtain ⟨c3, _, rfl, h3, hf⟩ := F2.cons' hf
 obtain ⟨c4, _, rfl, h4, hf⟩ := F2.cons' hf
 obtain ⟨c5, _, rfl, h5, hf⟩ := F2.cons' hf
 obtain rfl := F2.nil' hf
 rw [ta] at h1; rw [tb] at h2; rw [tc] at h3; rw [td] at h4; rw [te] at h5
 obtain ⟨y, rfl, w1⟩ := yj4 (m + 1) T.u5 h1
 obtain ⟨b, rfl⟩ := ymq (m + 1) T.u4 h2
 obtain ⟨w, rfl⟩ := ymq (m + 1) T.u4 h3
 obtain ⟨th, rfl, t1, t2⟩ := ywu T h4
 obtain ⟨pa, rfl, p1, p2⟩ := ywu T h5
 have hy := ypg w1
 exact ⟨⟨y, b, w, none, th, none, pa⟩, rfl, hy.1, hy.2, t1, p1, Nat.lt_of_le_of_lt t2 (by decide), Nat.lt_of_le_of_lt p2 (by decide)⟩
theorem arg23 (T : Ty5 P) {x : AV} (h : Arg P 23 x) : ∃ l : List Lx, x = xsl none l ∧ l.length < 2 ^ 63 ∧ ∀ L ∈ l, OkX L := by
 obtain ⟨ys, rfl, hs, _⟩ := h
 obtain ⟨xs, rfl, hl, hx⟩ := yj3 7 T.u23 hs
 obtain ⟨a, rfl, ha⟩ := yea Lx.enc OkX xs fun x hx' => by
  obtain ⟨cs, rfl, _, hc⟩ := hx x hx'
  obtain ⟨L, hL, ok⟩ := lx_of (m := 4) T hc
  exact ⟨L, by unfold elOf; rw [if_pos T.a67]; exact hL, ok⟩
 exact ⟨a, el_no T.a23 _, Nat.lt_of_le_of_lt (by simpa using hl) (by decide), ha⟩
end
structure Ty6 (P : Program) : Prop where
 u36 : ∃ a b : Field, P.underlying 36 = some (.struct #[a, b]) ∧ a.type = 5 ∧ b.type = 3
 u60 : P.underlying 60 = some (.array 2 5)
 a36 : aggT P 36 = true
 a60 : aggT P 60 = true
theorem tyP6 : Ty6 Try.prog := ⟨⟨_, _, Try.underlying36, rfl, rfl⟩, Try.underlying60, by kernel_rfl, by kernel_rfl⟩
section
variable {P : Program} {m : Nat}
theorem arg60 (T : Ty5 P) (U : Ty6 P) {x : AV} (h : Arg P 60 x) : ∃ a b, x = .agg [ub a, ub b] ∧ U8 a ∧ U8 b := by
 obtain ⟨ys, rfl, hs, _⟩ := h
 obtain ⟨yss, rfl, hl, hx⟩ := ypt 7 U.u60 hs
 match yss, hl with
 | [c, d], _ =>
  obtain ⟨a, rfl, w1⟩ := yj4 6 T.u5 (hx c (by simp))
  obtain ⟨b, rfl, w2⟩ := yj4 6 T.u5 (hx d (by simp))
  exact ⟨a, b, by unfold elOf; rw [if_pos U.a60]; rfl, ypg w1, ypg w2⟩
end
end Tst
end

section
open Go Go.Lf Go.Proofs Tst
namespace Go.Proofs.Ytpjlfgacjbkbbaa.loopsSpoiled
theorem LoopsSpoiled_pure (xs : List AV) (h : F2 (fun t x => ∃ ys, x = elOf Try.prog t ys ∧ ya0 Try.prog 8 t ys ∧ ys.length = Try.prog.cellsOf t) Try.f7.params.toList xs) : PureC Try.prog 7 xs (.atom (.bool true)) := by
 rw [Try.params7] at h
 obtain ⟨x, y, rfl, h1, h2⟩ := args2 (P := Try.prog) h
 obtain ⟨l, rfl, hl, hX⟩ := arg23 tyP5 h1
 obtain ⟨a, b, rfl, ha, hb⟩ := arg60 tyP5 tyP6 h2
 exact ynu none l hl hX a b ha.1 ha.2 hb.1 hb.2
end Go.Proofs.Ytpjlfgacjbkbbaa.loopsSpoiled
end
