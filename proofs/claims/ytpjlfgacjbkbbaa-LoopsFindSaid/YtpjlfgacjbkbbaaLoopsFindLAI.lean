/- Part 9 of the evaluator and of the contracts that the claim uses. -/
import Derived.Test.YtpjlfgacjbkbbaaLoopsFindLAA
import Derived.Test.YtpjlfgacjbkbbaaLoopsFindLAB
import Derived.Test.YtpjlfgacjbkbbaaLoopsFindLAC
import Derived.Test.YtpjlfgacjbkbbaaLoopsFindLAD
import Derived.Test.YtpjlfgacjbkbbaaLoopsFindLAE
import Derived.Test.YtpjlfgacjbkbbaaLoopsFindLAF
import Derived.Test.YtpjlfgacjbkbbaaLoopsFindLAG
import Derived.Test.YtpjlfgacjbkbbaaLoopsFindLAH
set_option linter.unusedVariables false
set_option linter.unusedSimpArgs false
set_option linter.constructorNameAsVariable false
set_option linter.unusedSectionVars false
open Go.IntKind (i64 u8)

section
open Go Go.Lf Go.Proofs
namespace Tst
noncomputable abbrev zqy : Array Oper := zql Try.f9 22
noncomputable abbrev y22 (k : Nat) : Oper := (zql Try.f9 22).toList.getD k default
theorem zri (k : Nat) (ks : List (Nat × Wk)) (env env3 : Env) (ans : List Ans) (ps : List Prop) (hp : ∀ q ∈ ps, q) (hg : (y22 k).guard = none) (h : (ybp Try.prog (cxN 184 0) zqy [y22 k] env ans).map (fun r => (keepE ks r.1, r.2)) = some (env3, ps)) : OpR Try.prog (cxN 184 0) (y22 k) env (· = env3) := by
 cases ho : ybp Try.prog (cxN 184 0) zqy [y22 k] env ans with
 | none => rw [ho] at h; cases h
 | some r =>
  rw [ho] at h
  injection h with h
  injection h with h1 h2
  obtain ⟨r1, r2⟩ := r
  simp only at h1 h2
  subst h1 h2
  exact OpR.keep _ (OpR.ev (ops := zqy) (base 184 0) zqb.1 zqb.2 hg ho hp)
section
variable (c : Option Nat) (x : List Lx) (m : List (List Lp)) (fr md : List Idd) (i y : Int) (b : Int) (w : Bool) (th : List Idd) (pa : List Ps) (p q : Int)
abbrev bs : Env := [(0, xsl c x), (5, iow none fr), (6, iow none md), (7, it i), (8, it y), (14, .box [ub p, it q])]
abbrev agF : AV := .agg [ub b, bb w, .sl .fresh 36 none (th.map Idd.enc), .sl .fresh 56 none (pa.map Ps.enc)]
abbrev tBad : AV := .sl .own 37 none (List.set (List.map gOW m) y.toNat (setE (List.getD (List.map gOW m) y.toNat AV.bad) 0 [AV.bad]))
abbrev rAp : AV := .sl .own 45 none ((m.getD y.toNat default).map Lp.encG ++ [agF b w th pa])
abbrev q4 : Prop := decide ((0 : Int) ≤ y ∧ y < ((List.map gOW m).length : Nat)) = true
abbrev q5 : Prop := decide (y.toNat < (List.map gOW m).length) = true
abbrev q5b : Prop := List.getD (List.map gOW m) y.toNat AV.bad = gOW (m.getD y.toNat default)
abbrev q6 : Prop := AV.agg ([ub b, bb w, .sl .own 36 none (th.map Idd.enc), .sl .own 56 none (pa.map Ps.enc)].map share) = agF b w th pa
abbrev q8 : Prop := decide (((m.getD y.toNat default).map Lp.encG).length + [agF b w th pa].length ≤ 4294967296) = true
variable (h4 : q4 m y) (h5 : q5 m y) (h5b : q5b m y) (h6 : q6 b w th pa) (h8 : q8 m y b w th pa)
abbrev q9 : Prop := decide ((0 : Int) ≤ y ∧ y < ((List.set (List.map gOW m) y.toNat (setE (List.getD (List.map gOW m) y.toNat AV.bad) 0 [AV.bad])).length : Nat)) = true
variable (h9 : q9 m y)
abbrev tNew : AV := .sl .own 37 none (List.set (List.set (List.map gOW m) y.toNat (setE (List.getD (List.map gOW m) y.toNat AV.bad) 0 [AV.bad])) y.toNat (setE (List.getD (List.set (List.map gOW m) y.toNat (setE (List.getD (List.map gOW m) y.toNat AV.bad) 0 [AV.bad])) y.toNat AV.bad) 0 [rAp m y b w th pa]))
abbrev q10 : Prop := decide (y.toNat < (List.set (List.map gOW m) y.toNat (setE (List.getD (List.map gOW m) y.toNat AV.bad) 0 [AV.bad])).length) = true
abbrev q11 : Prop := List.getD (List.set (List.map gOW m) y.toNat (setE (List.getD (List.map gOW m) y.toNat AV.bad) 0 [AV.bad])) y.toNat AV.bad = AV.bad
variable (h10 : q10 m y ∧ q11 m y)
abbrev R22 : Env → Prop := (· = (4, tNew m y b w th pa) :: bs c x fr md i y p q)
include h4 h5 h5b h6 h8 h9 h10
theorem fin22 : AnyR Try.prog (cxN 184 0) zqy (R22 c x m fr md i y b w th pa p q) 2 #[true, true, true, true, true, true, true, true, true, false, false] ([(4, tBad m y), (172, rAp m y b w th pa), (164, .al 4 [] none), (165, it y)] ++ bs c x fr md i y p q) := by
 refine AnyR.step [9] (by kernel_rfl) (by simp) fun k hk => ?_
 rw [zlv] at hk; subst hk
 refine ⟨y22 9, [(4, tBad m y), (172, rAp m y b w th pa), (173, .adr 4 [] y.toNat 0)] ++ bs c x fr md i y p q, by kernel_rfl, by kernel_rfl, zri 9 (kp [4, 172, 173, 0, 5, 6, 7, 8, 14]) _ _ [.b true, .c] [q9 m y] (allp h9 zqa) (by kernel_rfl) (by kernel_rfl), ?_⟩
 refine AnyR.step [10] (by kernel_rfl) (by simp) fun k hk => ?_
 rw [zlv] at hk; subst hk
 exact ⟨y22 10, _, by kernel_rfl, by kernel_rfl, zri 10 (kp [4, 0, 5, 6, 7, 8, 14]) _ ((4, tNew m y b w th pa) :: bs c x fr md i y p q) [.b true, .r .bad, .c] [q10 m y, q11 m y] (allp h10.1 (allp h10.2 zqa)) (by kernel_rfl) (by kernel_rfl), by kernel_rfl, rfl⟩
end
abbrev H22 (m : List (List Lp)) (y b : Int) (w : Bool) (th : List Idd) (pa : List Ps) : Prop := q4 m y ∧ q5 m y ∧ q5b m y ∧ q6 b w th pa ∧ q8 m y b w th pa ∧ q9 m y ∧ q10 m y ∧ q11 m y
abbrev A22 (c : Option Nat) (x : List Lx) (m : List (List Lp)) (fr md : List Idd) (i y : Int) (b : Int) (w : Bool) (th : List Idd) (pa : List Ps) (p q : Int) (n : Nat) (a : Array Bool) (e : Env) : Prop := AnyR Try.prog (cxN 184 0) zqy (R22 c x m fr md i y b w th pa p q) n a (e ++ bs c x fr md i y p q)
theorem br {R : Env → Prop} {f : Nat} {l : Array Bool} {e env1 : Env} (k : Nat) (ans : List Ans) {ps : List Prop} (hp : ∀ q ∈ ps, q) (h : AnyR Try.prog (cxN 184 0) zqy R f (l.setIfInBounds k true) env1) (h1 : zqy[k]? = some (y22 k) := by kernel_rfl) (h2 : (y22 k).guard = none := by kernel_rfl) (h3 : (ybp Try.prog (cxN 184 0) zqy [y22 k] e ans).map (fun r => (keepE (kp (env1.map Prod.fst)) r.1, r.2)) = some (env1, ps) := by kernel_rfl) : ∃ y env1, zqy[k]? = some y ∧ y.guard = none ∧ OpR Try.prog (cxN 184 0) y e (· = env1) ∧ AnyR Try.prog (cxN 184 0) zqy R f (l.setIfInBounds k true) env1 := ⟨y22 k, env1, h1, h2, zri k _ e env1 ans ps hp h2 h3, h⟩
theorem am {P : Nat → Prop} {a : Nat} {l : List Nat} (h : P a) (hl : ∀ i ∈ l, P i) : ∀ i ∈ a :: l, P i := List.forall_mem_cons.2 ⟨h, hl⟩
theorem an {P : Nat → Prop} : ∀ i ∈ ([] : List Nat), P i := fun _ h => nomatch h
section
variable {c : Option Nat} {x : List Lx} {m : List (List Lp)} {fr md : List Idd} {i y : Int} {b : Int} {w : Bool} {th : List Idd} {pa : List Ps} {p q : Int} (H : H22 m y b w th pa)
include H
theorem c4 : ∀ q ∈ [q4 m y], q := allp H.1 zqa
theorem c5 : ∀ q ∈ [q5 m y, q5b m y], q := allp H.2.1 (allp H.2.2.1 zqa)
theorem c6 : ∀ q ∈ [q6 b w th pa], q := allp H.2.2.2.1 zqa
theorem c8 : ∀ q ∈ [q5 m y, q5b m y, q5 m y, q5b m y, q8 m y b w th pa], q := allp H.2.1 (allp H.2.2.1 (allp H.2.1 (allp H.2.2.1 (allp H.2.2.2.2.1 zqa))))
theorem m303 : A22 c x m fr md i y b w th pa p q 2 #[true, true, true, true, true, true, true, true, true, false, false] [(4, tBad m y), (172, rAp m y b w th pa), (164, .al 4 [] none), (165, it y)] := fin22 c x m fr md i y b w th pa p q H.1 H.2.1 H.2.2.1 H.2.2.2.1 H.2.2.2.2.1 H.2.2.2.2.2.1 H.2.2.2.2.2.2
theorem m352 : A22 c x m fr md i y b w th pa p q 3 #[true, true, true, true, true, true, true, true, false, false, false] [(4, tGW m), (164, .al 4 [] none), (165, it y), (169, .al 4 [(y.toNat, 0)] none), (171, .sl .own 45 (some 1) [agF b w th pa])] := AnyR.step [8] (by kernel_rfl) (by simp) (am (br 8 [.c, .b true, .r (gOW (m.getD y.toNat default)), .b true, .r (gOW (m.getD y.toNat default)), .b true, .c] (c8 H) (m303 H)) an)
theorem m351 : A22 c x m fr md i y b w th pa p q 4 #[true, true, true, true, true, true, true, false, false, false, false] [(4, tGW m), (164, .al 4 [] none), (165, it y), (169, .al 4 [(y.toNat, 0)] none), (170, agF b w th pa)] := AnyR.step [7] (by kernel_rfl) (by simp) (am (br 7 [.c, .c, .c] zqa (m352 H)) an)
theorem m350 : A22 c x m fr md i y b w th pa p q 5 #[true, true, true, true, true, true, false, false, false, false, false] [(4, tGW m), (164, .al 4 [] none), (165, it y), (169, .al 4 [(y.toNat, 0)] none), (9, bxL b w th pa)] := AnyR.step [6] (by kernel_rfl) (by simp) (am (br 6 [.r (agF b w th pa), .c, .c] (c6 H) (m351 H)) an)
theorem m342 : A22 c x m fr md i y b w th pa p q 4 #[true, true, true, true, true, false, true, true, false, false, false] [(4, tGW m), (164, .al 4 [] none), (165, it y), (168, .adr 4 [] y.toNat 0), (171, .sl .own 45 (some 1) [agF b w th pa])] := AnyR.step [5] (by kernel_rfl) (by simp) (am (br 5 [.b true, .r (gOW (m.getD y.toNat default)), .c] (c5 H) (m352 H)) an)
theorem m341 : A22 c x m fr md i y b w th pa p q 5 #[true, true, true, true, true, false, true, false, false, false, false] [(4, tGW m), (164, .al 4 [] none), (165, it y), (168, .adr 4 [] y.toNat 0), (170, agF b w th pa)] := AnyR.step [5, 7] (by kernel_rfl) (by simp) (am (br 5 [.b true, .r (gOW (m.getD y.toNat default)), .c] (c5 H) (m351 H)) (am (br 7 [.c, .c, .c] zqa (m342 H)) an))
theorem m340 : A22 c x m fr md i y b w th pa p q 6 #[true, true, true, true, true, false, false, false, false, false, false] [(4, tGW m), (164, .al 4 [] none), (165, it y), (168, .adr 4 [] y.toNat 0), (9, bxL b w th pa)] := AnyR.step [5, 6] (by kernel_rfl) (by simp) (am (br 5 [.b true, .r (gOW (m.getD y.toNat default)), .c] (c5 H) (m350 H)) (am (br 6 [.r (agF b w th pa), .c, .c] (c6 H) (m341 H)) an))
theorem m332 : A22 c x m fr md i y b w th pa p q 5 #[true, true, true, true, false, false, true, true, false, false, false] [(4, tGW m), (164, .al 4 [] none), (165, it y), (166, .al 4 [] none), (167, it y), (171, .sl .own 45 (some 1) [agF b w th pa])] := AnyR.step [4] (by kernel_rfl) (by simp) (am (br 4 [.b true, .c] (c4 H) (m342 H)) an)
theorem m331 : A22 c x m fr md i y b w th pa p q 6 #[true, true, true, true, false, false, true, false, false, false, false] [(4, tGW m), (164, .al 4 [] none), (165, it y), (166, .al 4 [] none), (167, it y), (170, agF b w th pa)] := AnyR.step [4, 7] (by kernel_rfl) (by simp) (am (br 4 [.b true, .c] (c4 H) (m341 H)) (am (br 7 [.c, .c, .c] zqa (m332 H)) an))
theorem m330 : A22 c x m fr md i y b w th pa p q 7 #[true, true, true, true, false, false, false, false, false, false, false] [(4, tGW m), (164, .al 4 [] none), (165, it y), (166, .al 4 [] none), (167, it y), (9, bxL b w th pa)] := AnyR.step [4, 6] (by kernel_rfl) (by simp) (am (br 4 [.b true, .c] (c4 H) (m340 H)) (am (br 6 [.r (agF b w th pa), .c, .c] (c6 H) (m331 H)) an))
theorem m312 : A22 c x m fr md i y b w th pa p q 6 #[true, true, true, false, false, false, true, true, false, false, false] [(4, tGW m), (164, .al 4 [] none), (165, it y), (166, .al 4 [] none), (171, .sl .own 45 (some 1) [agF b w th pa])] := AnyR.step [3] (by kernel_rfl) (by simp) (am (br 3 [.c] zqa (m332 H)) an)
theorem m311 : A22 c x m fr md i y b w th pa p q 7 #[true, true, true, false, false, false, true, false, false, false, false] [(4, tGW m), (164, .al 4 [] none), (165, it y), (166, .al 4 [] none), (170, agF b w th pa)] := AnyR.step [3, 7] (by kernel_rfl) (by simp) (am (br 3 [.c] zqa (m331 H)) (am (br 7 [.c, .c, .c] zqa (m312 H)) an))
theorem m310 : A22 c x m fr md i y b w th pa p q 8 #[true, true, true, false, false, false, false, false, false, false, false] [(4, tGW m), (164, .al 4 [] none), (165, it y), (166, .al 4 [] none), (9, bxL b w th pa)] := AnyR.step [3, 6] (by kernel_rfl) (by simp) (am (br 3 [.c] zqa (m330 H)) (am (br 6 [.r (agF b w th pa), .c, .c] (c6 H) (m311 H)) an))
theorem m322 : A22 c x m fr md i y b w th pa p q 6 #[true, true, false, true, false, false, true, true, false, false, false] [(4, tGW m), (164, .al 4 [] none), (165, it y), (167, it y), (171, .sl .own 45 (some 1) [agF b w th pa])] := AnyR.step [2] (by kernel_rfl) (by simp) (am (br 2 [.c] zqa (m332 H)) an)
theorem m321 : A22 c x m fr md i y b w th pa p q 7 #[true, true, false, true, false, false, true, false, false, false, false] [(4, tGW m), (164, .al 4 [] none), (165, it y), (167, it y), (170, agF b w th pa)] := AnyR.step [2, 7] (by kernel_rfl) (by simp) (am (br 2 [.c] zqa (m331 H)) (am (br 7 [.c, .c, .c] zqa (m322 H)) an))
theorem m320 : A22 c x m fr md i y b w th pa p q 8 #[true, true, false, true, false, false, false, false, false, false, false] [(4, tGW m), (164, .al 4 [] none), (165, it y), (167, it y), (9, bxL b w th pa)] := AnyR.step [2, 6] (by kernel_rfl) (by simp) (am (br 2 [.c] zqa (m330 H)) (am (br 6 [.r (agF b w th pa), .c, .c] (c6 H) (m321 H)) an))
theorem m302 : A22 c x m fr md i y b w th pa p q 7 #[true, true, false, false, false, false, true, true, false, false, false] [(4, tGW m), (164, .al 4 [] none), (165, it y), (171, .sl .own 45 (some 1) [agF b w th pa])] := AnyR.step [2, 3] (by kernel_rfl) (by simp) (am (br 2 [.c] zqa (m312 H)) (am (br 3 [.c] zqa (m322 H)) an))
theorem m301 : A22 c x m fr md i y b w th pa p q 8 #[true, true, false, false, false, false, true, false, false, false, false] [(4, tGW m), (164, .al 4 [] none), (165, it y), (170, agF b w th pa)] := AnyR.step [2, 3, 7] (by kernel_rfl) (by simp) (am (br 2 [.c] zqa (m311 H)) (am (br 3 [.c] zqa (m321 H)) (am (br 7 [.c, .c, .c] zqa (m302 H)) an)))
theorem m300 : A22 c x m fr md i y b w th pa p q 9 #[true, true, false, false, false, false, false, false, false, false, false] [(4, tGW m), (164, .al 4 [] none), (165, it y), (9, bxL b w th pa)] := AnyR.step [2, 3, 6] (by kernel_rfl) (by simp) (am (br 2 [.c] zqa (m310 H)) (am (br 3 [.c] zqa (m320 H)) (am (br 6 [.r (agF b w th pa), .c, .c] (c6 H) (m301 H)) an)))
theorem m103 : A22 c x m fr md i y b w th pa p q 3 #[true, false, true, true, true, true, true, true, true, false, false] [(4, tBad m y), (172, rAp m y b w th pa), (164, .al 4 [] none)] := AnyR.step [1] (by kernel_rfl) (by simp) (am (br 1 [.c] zqa (m303 H)) an)
theorem m152 : A22 c x m fr md i y b w th pa p q 4 #[true, false, true, true, true, true, true, true, false, false, false] [(4, tGW m), (164, .al 4 [] none), (169, .al 4 [(y.toNat, 0)] none), (171, .sl .own 45 (some 1) [agF b w th pa])] := AnyR.step [1, 8] (by kernel_rfl) (by simp) (am (br 1 [.c] zqa (m352 H)) (am (br 8 [.c, .b true, .r (gOW (m.getD y.toNat default)), .b true, .r (gOW (m.getD y.toNat default)), .b true, .c] (c8 H) (m103 H)) an))
theorem m151 : A22 c x m fr md i y b w th pa p q 5 #[true, false, true, true, true, true, true, false, false, false, false] [(4, tGW m), (164, .al 4 [] none), (169, .al 4 [(y.toNat, 0)] none), (170, agF b w th pa)] := AnyR.step [1, 7] (by kernel_rfl) (by simp) (am (br 1 [.c] zqa (m351 H)) (am (br 7 [.c, .c, .c] zqa (m152 H)) an))
theorem m150 : A22 c x m fr md i y b w th pa p q 6 #[true, false, true, true, true, true, false, false, false, false, false] [(4, tGW m), (164, .al 4 [] none), (169, .al 4 [(y.toNat, 0)] none), (9, bxL b w th pa)] := AnyR.step [1, 6] (by kernel_rfl) (by simp) (am (br 1 [.c] zqa (m350 H)) (am (br 6 [.r (agF b w th pa), .c, .c] (c6 H) (m151 H)) an))
theorem m142 : A22 c x m fr md i y b w th pa p q 5 #[true, false, true, true, true, false, true, true, false, false, false] [(4, tGW m), (164, .al 4 [] none), (168, .adr 4 [] y.toNat 0), (171, .sl .own 45 (some 1) [agF b w th pa])] := AnyR.step [1, 5] (by kernel_rfl) (by simp) (am (br 1 [.c] zqa (m342 H)) (am (br 5 [.b true, .r (gOW (m.getD y.toNat default)), .c] (c5 H) (m152 H)) an))
theorem m141 : A22 c x m fr md i y b w th pa p q 6 #[true, false, true, true, true, false, true, false, false, false, false] [(4, tGW m), (164, .al 4 [] none), (168, .adr 4 [] y.toNat 0), (170, agF b w th pa)] := AnyR.step [1, 5, 7] (by kernel_rfl) (by simp) (am (br 1 [.c] zqa (m341 H)) (am (br 5 [.b true, .r (gOW (m.getD y.toNat default)), .c] (c5 H) (m151 H)) (am (br 7 [.c, .c, .c] zqa (m142 H)) an)))
theorem m140 : A22 c x m fr md i y b w th pa p q 7 #[true, false, true, true, true, false, false, false, false, false, false] [(4, tGW m), (164, .al 4 [] none), (168, .adr 4 [] y.toNat 0), (9, bxL b w th pa)] := AnyR.step [1, 5, 6] (by kernel_rfl) (by simp) (am (br 1 [.c] zqa (m340 H)) (am (br 5 [.b true, .r (gOW (m.getD y.toNat default)), .c] (c5 H) (m150 H)) (am (br 6 [.r (agF b w th pa), .c, .c] (c6 H) (m141 H)) an)))
theorem m132 : A22 c x m fr md i y b w th pa p q 6 #[true, false, true, true, false, false, true, true, false, false, false] [(4, tGW m), (164, .al 4 [] none), (166, .al 4 [] none), (167, it y), (171, .sl .own 45 (some 1) [agF b w th pa])] := AnyR.step [1, 4] (by kernel_rfl) (by simp) (am (br 1 [.c] zqa (m332 H)) (am (br 4 [.b true, .c] (c4 H) (m142 H)) an))
theorem m131 : A22 c x m fr md i y b w th pa p q 7 #[true, false, true, true, false, false, true, false, false, false, false] [(4, tGW m), (164, .al 4 [] none), (166, .al 4 [] none), (167, it y), (170, agF b w th pa)] := AnyR.step [1, 4, 7] (by kernel_rfl) (by simp) (am (br 1 [.c] zqa (m331 H)) (am (br 4 [.b true, .c] (c4 H) (m141 H)) (am (br 7 [.c, .c, .c] zqa (m132 H)) an)))
theorem m130 : A22 c x m fr md i y b w th pa p q 8 #[true, false, true, true, false, false, false, false, false, false, false] [(4, tGW m), (164, .al 4 [] none), (166, .al 4 [] none), (167, it y), (9, bxL b w th pa)] := AnyR.step [1, 4, 6] (by kernel_rfl) (by simp) (am (br 1 [.c] zqa (m330 H)) (am (br 4 [.b true, .c] (c4 H) (m140 H)) (am (br 6 [.r (agF b w th pa), .c, .c] (c6 H) (m131 H)) an)))
theorem m112 : A22 c x m fr md i y b w th pa p q 7 #[true, false, true, false, false, false, true, true, false, false, false] [(4, tGW m), (164, .al 4 [] none), (166, .al 4 [] none), (171, .sl .own 45 (some 1) [agF b w th pa])] := AnyR.step [1, 3] (by kernel_rfl) (by simp) (am (br 1 [.c] zqa (m312 H)) (am (br 3 [.c] zqa (m132 H)) an))
theorem m111 : A22 c x m fr md i y b w th pa p q 8 #[true, false, true, false, false, false, true, false, false, false, false] [(4, tGW m), (164, .al 4 [] none), (166, .al 4 [] none), (170, agF b w th pa)] := AnyR.step [1, 3, 7] (by kernel_rfl) (by simp) (am (br 1 [.c] zqa (m311 H)) (am (br 3 [.c] zqa (m131 H)) (am (br 7 [.c, .c, .c] zqa (m112 H)) an)))
theorem m110 : A22 c x m fr md i y b w th pa p q 9 #[true, false, true, false, false, false, false, false, false, false, false] [(4, tGW m), (164, .al 4 [] none), (166, .al 4 [] none), (9, bxL b w th pa)] := AnyR.step [1, 3, 6] (by kernel_rfl) (by simp) (am (br 1 [.c] zqa (m310 H)) (am (br 3 [.c] zqa (m130 H)) (am (br 6 [.r (agF b w th pa), .c, .c] (c6 H) (m111 H)) an)))
theorem m122 : A22 c x m fr md i y b w th pa p q 7 #[true, false, false, true, false, false, true, true, false, false, false] [(4, tGW m), (164, .al 4 [] none), (167, it y), (171, .sl .own 45 (some 1) [agF b w th pa])] := AnyR.step [1, 2] (by kernel_rfl) (by simp) (am (br 1 [.c] zqa (m322 H)) (am (br 2 [.c] zqa (m132 H)) an))
theorem m121 : A22 c x m fr md i y b w th pa p q 8 #[true, false, false, true, false, false, true, false, false, false, false] [(4, tGW m), (164, .al 4 [] none), (167, it y), (170, agF b w th pa)] := AnyR.step [1, 2, 7] (by kernel_rfl) (by simp) (am (br 1 [.c] zqa (m321 H)) (am (br 2 [.c] zqa (m131 H)) (am (br 7 [.c, .c, .c] zqa (m122 H)) an)))
theorem m120 : A22 c x m fr md i y b w th pa p q 9 #[true, false, false, true, false, false, false, false, false, false, false] [(4, tGW m), (164, .al 4 [] none), (167, it y), (9, bxL b w th pa)] := AnyR.step [1, 2, 6] (by kernel_rfl) (by simp) (am (br 1 [.c] zqa (m320 H)) (am (br 2 [.c] zqa (m130 H)) (am (br 6 [.r (agF b w th pa), .c, .c] (c6 H) (m121 H)) an)))
theorem m102 : A22 c x m fr md i y b w th pa p q 8 #[true, false, false, false, false, false, true, true, false, false, false] [(4, tGW m), (164, .al 4 [] none), (171, .sl .own 45 (some 1) [agF b w th pa])] := AnyR.step [1, 2, 3] (by kernel_rfl) (by simp) (am (br 1 [.c] zqa (m302 H)) (am (br 2 [.c] zqa (m112 H)) (am (br 3 [.c] zqa (m122 H)) an)))
theorem m101 : A22 c x m fr md i y b w th pa p q 9 #[true, false, false, false, false, false, true, false, false, false, false] [(4, tGW m), (164, .al 4 [] none), (170, agF b w th pa)] := AnyR.step [1, 2, 3, 7] (by kernel_rfl) (by simp) (am (br 1 [.c] zqa (m301 H)) (am (br 2 [.c] zqa (m111 H)) (am (br 3 [.c] zqa (m121 H)) (am (br 7 [.c, .c, .c] zqa (m102 H)) an))))
theorem m100 : A22 c x m fr md i y b w th pa p q 10 #[true, false, false, false, false, false, false, false, false, false, false] [(4, tGW m), (164, .al 4 [] none), (9, bxL b w th pa)] := AnyR.step [1, 2, 3, 6] (by kernel_rfl) (by simp) (am (br 1 [.c] zqa (m300 H)) (am (br 2 [.c] zqa (m110 H)) (am (br 3 [.c] zqa (m120 H)) (am (br 6 [.r (agF b w th pa), .c, .c] (c6 H) (m101 H)) an))))
theorem m203 : A22 c x m fr md i y b w th pa p q 3 #[false, true, true, true, true, true, true, true, true, false, false] [(4, tBad m y), (172, rAp m y b w th pa), (165, it y)] := AnyR.step [0] (by kernel_rfl) (by simp) (am (br 0 [.c] zqa (m303 H)) an)
theorem m252 : A22 c x m fr md i y b w th pa p q 4 #[false, true, true, true, true, true, true, true, false, false, false] [(4, tGW m), (165, it y), (169, .al 4 [(y.toNat, 0)] none), (171, .sl .own 45 (some 1) [agF b w th pa])] := AnyR.step [0, 8] (by kernel_rfl) (by simp) (am (br 0 [.c] zqa (m352 H)) (am (br 8 [.c, .b true, .r (gOW (m.getD y.toNat default)), .b true, .r (gOW (m.getD y.toNat default)), .b true, .c] (c8 H) (m203 H)) an))
theorem m251 : A22 c x m fr md i y b w th pa p q 5 #[false, true, true, true, true, true, true, false, false, false, false] [(4, tGW m), (165, it y), (169, .al 4 [(y.toNat, 0)] none), (170, agF b w th pa)] := AnyR.step [0, 7] (by kernel_rfl) (by simp) (am (br 0 [.c] zqa (m351 H)) (am (br 7 [.c, .c, .c] zqa (m252 H)) an))
theorem m250 : A22 c x m fr md i y b w th pa p q 6 #[false, true, true, true, true, true, false, false, false, false, false] [(4, tGW m), (165, it y), (169, .al 4 [(y.toNat, 0)] none), (9, bxL b w th pa)] := AnyR.step [0, 6] (by kernel_rfl) (by simp) (am (br 0 [.c] zqa (m350 H)) (am (br 6 [.r (agF b w th pa), .c, .c] (c6 H) (m251 H)) an))
theorem m242 : A22 c x m fr md i y b w th pa p q 5 #[false, true, true, true, true, false, true, true, false, false, false] [(4, tGW m), (165, it y), (168, .adr 4 [] y.toNat 0), (171, .sl .own 45 (some 1) [agF b w th pa])] := AnyR.step [0, 5] (by kernel_rfl) (by simp) (am (br 0 [.c] zqa (m342 H)) (am (br 5 [.b true, .r (gOW (m.getD y.toNat default)), .c] (c5 H) (m252 H)) an))
theorem m241 : A22 c x m fr md i y b w th pa p q 6 #[false, true, true, true, true, false, true, false, false, false, false] [(4, tGW m), (165, it y), (168, .adr 4 [] y.toNat 0), (170, agF b w th pa)] := AnyR.step [0, 5, 7] (by kernel_rfl) (by simp) (am (br 0 [.c] zqa (m341 H)) (am (br 5 [.b true, .r (gOW (m.getD y.toNat default)), .c] (c5 H) (m251 H)) (am (br 7 [.c, .c, .c] zqa (m242 H)) an)))
theorem m240 : A22 c x m fr md i y b w th pa p q 7 #[false, true, true, true, true, false, false, false, false, false, false] [(4, tGW m), (165, it y), (168, .adr 4 [] y.toNat 0), (9, bxL b w th pa)] := AnyR.step [0, 5, 6] (by kernel_rfl) (by simp) (am (br 0 [.c] zqa (m340 H)) (am (br 5 [.b true, .r (gOW (m.getD y.toNat default)), .c] (c5 H) (m250 H)) (am (br 6 [.r (agF b w th pa), .c, .c] (c6 H) (m241 H)) an)))
theorem m232 : A22 c x m fr md i y b w th pa p q 6 #[false, true, true, true, false, false, true, true, false, false, false] [(4, tGW m), (165, it y), (166, .al 4 [] none), (167, it y), (171, .sl .own 45 (some 1) [agF b w th pa])] := AnyR.step [0, 4] (by kernel_rfl) (by simp) (am (br 0 [.c] zqa (m332 H)) (am (br 4 [.b true, .c] (c4 H) (m242 H)) an))
theorem m231 : A22 c x m fr md i y b w th pa p q 7 #[false, true, true, true, false, false, true, false, false, false, false] [(4, tGW m), (165, it y), (166, .al 4 [] none), (167, it y), (170, agF b w th pa)] := AnyR.step [0, 4, 7] (by kernel_rfl) (by simp) (am (br 0 [.c] zqa (m331 H)) (am (br 4 [.b true, .c] (c4 H) (m241 H)) (am (br 7 [.c, .c, .c] zqa (m232 H)) an)))
theorem m230 : A22 c x m fr md i y b w th pa p q 8 #[false, true, true, true, false, false, false, false, false, false, false] [(4, tGW m), (165, it y), (166, .al 4 [] none), (167, it y), (9, bxL b w th pa)] := AnyR.step [0, 4, 6] (by kernel_rfl) (by simp) (am (br 0 [.c] zqa (m330 H)) (am (br 4 [.b true, .c] (c4 H) (m240 H)) (am (br 6 [.r (agF b w th pa), .c, .c] (c6 H) (m231 H)) an)))
theorem m212 : A22 c x m fr md i y b w th pa p q 7 #[false, true, true, false, false, false, true, true, false, false, false] [(4, tGW m), (165, it y), (166, .al 4 [] none), (171, .sl .own 45 (some 1) [agF b w th pa])] := AnyR.step [0, 3] (by kernel_rfl) (by simp) (am (br 0 [.c] zqa (m312 H)) (am (br 3 [.c] zqa (m232 H)) an))
theorem m211 : A22 c x m fr md i y b w th pa p q 8 #[false, true, true, false, false, false, true, false, false, false, false] [(4, tGW m), (165, it y), (166, .al 4 [] none), (170, agF b w th pa)] := AnyR.step [0, 3, 7] (by kernel_rfl) (by simp) (am (br 0 [.c] zqa (m311 H)) (am (br 3 [.c] zqa (m231 H)) (am (br 7 [.c, .c, .c] zqa (m212 H)) an)))
theorem m210 : A22 c x m fr md i y b w th pa p q 9 #[false, true, true, false, false, false, false, false, false, false, false] [(4, tGW m), (165, it y), (166, .al 4 [] none), (9, bxL b w th pa)] := AnyR.step [0, 3, 6] (by kernel_rfl) (by simp) (am (br 0 [.c] zqa (m310 H)) (am (br 3 [.c] zqa (m230 H)) (am (br 6 [.r (agF b w th pa), .c, .c] (c6 H) (m211 H)) an)))
theorem m222 : A22 c x m fr md i y b w th pa p q 7 #[false, true, false, true, false, false, true, true, false, false, false] [(4, tGW m), (165, it y), (167, it y), (171, .sl .own 45 (some 1) [agF b w th pa])] := AnyR.step [0, 2] (by kernel_rfl) (by simp) (am (br 0 [.c] zqa (m322 H)) (am (br 2 [.c] zqa (m232 H)) an))
theorem m221 : A22 c x m fr md i y b w th pa p q 8 #[false, true, false, true, false, false, true, false, false, false, false] [(4, tGW m), (165, it y), (167, it y), (170, agF b w th pa)] := AnyR.step [0, 2, 7] (by kernel_rfl) (by simp) (am (br 0 [.c] zqa (m321 H)) (am (br 2 [.c] zqa (m231 H)) (am (br 7 [.c, .c, .c] zqa (m222 H)) an)))
theorem m220 : A22 c x m fr md i y b w th pa p q 9 #[false, true, false, true, false, false, false, false, false, false, false] [(4, tGW m), (165, it y), (167, it y), (9, bxL b w th pa)] := AnyR.step [0, 2, 6] (by kernel_rfl) (by simp) (am (br 0 [.c] zqa (m320 H)) (am (br 2 [.c] zqa (m230 H)) (am (br 6 [.r (agF b w th pa), .c, .c] (c6 H) (m221 H)) an)))
theorem m202 : A22 c x m fr md i y b w th pa p q 8 #[false, true, false, false, false, false, true, true, false, false, false] [(4, tGW m), (165, it y), (171, .sl .own 45 (some 1) [agF b w th pa])] := AnyR.step [0, 2, 3] (by kernel_rfl) (by simp) (am (br 0 [.c] zqa (m302 H)) (am (br 2 [.c] zqa (m212 H)) (am (br 3 [.c] zqa (m222 H)) an)))
theorem m201 : A22 c x m fr md i y b w th pa p q 9 #[false, true, false, false, false, false, true, false, false, false, false] [(4, tGW m), (165, it y), (170, agF b w th pa)] := AnyR.step [0, 2, 3, 7] (by kernel_rfl) (by simp) (am (br 0 [.c] zqa (m301 H)) (am (br 2 [.c] zqa (m211 H)) (am (br 3 [.c] zqa (m221 H)) (am (br 7 [.c, .c, .c] zqa (m202 H)) an))))
theorem m200 : A22 c x m fr md i y b w th pa p q 10 #[false, true, false, false, false, false, false, false, false, false, false] [(4, tGW m), (165, it y), (9, bxL b w th pa)] := AnyR.step [0, 2, 3, 6] (by kernel_rfl) (by simp) (am (br 0 [.c] zqa (m300 H)) (am (br 2 [.c] zqa (m210 H)) (am (br 3 [.c] zqa (m220 H)) (am (br 6 [.r (agF b w th pa), .c, .c] (c6 H) (m201 H)) an))))
theorem m003 : A22 c x m fr md i y b w th pa p q 4 #[false, false, true, true, true, true, true, true, true, false, false] [(4, tBad m y), (172, rAp m y b w th pa)] := AnyR.step [0, 1] (by kernel_rfl) (by simp) (am (br 0 [.c] zqa (m103 H)) (am (br 1 [.c] zqa (m203 H)) an))
theorem m052 : A22 c x m fr md i y b w th pa p q 5 #[false, false, true, true, true, true, true, true, false, false, false] [(4, tGW m), (169, .al 4 [(y.toNat, 0)] none), (171, .sl .own 45 (some 1) [agF b w th pa])] := AnyR.step [0, 1, 8] (by kernel_rfl) (by simp) (am (br 0 [.c] zqa (m152 H)) (am (br 1 [.c] zqa (m252 H)) (am (br 8 [.c, .b true, .r (gOW (m.getD y.toNat default)), .b true, .r (gOW (m.getD y.toNat default)), .b true, .c] (c8 H) (m003 H)) an)))
theorem m051 : A22 c x m fr md i y b w th pa p q 6 #[false, false, true, true, true, true, true, false, false, false, false] [(4, tGW m), (169, .al 4 [(y.toNat, 0)] none), (170, agF b w th pa)] := AnyR.step [0, 1, 7] (by kernel_rfl) (by simp) (am (br 0 [.c] zqa (m151 H)) (am (br 1 [.c] zqa (m251 H)) (am (br 7 [.c, .c, .c] zqa (m052 H)) an)))
theorem m050 : A22 c x m fr md i y b w th pa p q 7 #[false, false, true, true, true, true, false, false, false, false, false] [(4, tGW m), (169, .al 4 [(y.toNat, 0)] none), (9, bxL b w th pa)] := AnyR.step [0, 1, 6] (by kernel_rfl) (by simp) (am (br 0 [.c] zqa (m150 H)) (am (br 1 [.c] zqa (m250 H)) (am (br 6 [.r (agF b w th pa), .c, .c] (c6 H) (m051 H)) an)))
theorem m042 : A22 c x m fr md i y b w th pa p q 6 #[false, false, true, true, true, false, true, true, false, false, false] [(4, tGW m), (168, .adr 4 [] y.toNat 0), (171, .sl .own 45 (some 1) [agF b w th pa])] := AnyR.step [0, 1, 5] (by kernel_rfl) (by simp) (am (br 0 [.c] zqa (m142 H)) (am (br 1 [.c] zqa (m242 H)) (am (br 5 [.b true, .r (gOW (m.getD y.toNat default)), .c] (c5 H) (m052 H)) an)))
theorem m041 : A22 c x m fr md i y b w th pa p q 7 #[false, false, true, true, true, false, true, false, false, false, false] [(4, tGW m), (168, .adr 4 [] y.toNat 0), (170, agF b w th pa)] := AnyR.step [0, 1, 5, 7] (by kernel_rfl) (by simp) (am (br 0 [.c] zqa (m141 H)) (am (br 1 [.c] zqa (m241 H)) (am (br 5 [.b true, .r (gOW (m.getD y.toNat default)), .c] (c5 H) (m051 H)) (am (br 7 [.c, .c, .c] zqa (m042 H)) an))))
theorem m040 : A22 c x m fr md i y b w th pa p q 8 #[false, false, true, true, true, false, false, false, false, false, false] [(4, tGW m), (168, .adr 4 [] y.toNat 0), (9, bxL b w th pa)] := AnyR.step [0, 1, 5, 6] (by kernel_rfl) (by simp) (am (br 0 [.c] zqa (m140 H)) (am (br 1 [.c] zqa (m240 H)) (am (br 5 [.b true, .r (gOW (m.getD y.toNat default)), .c] (c5 H) (m050 H)) (am (br 6 [.r (agF b w th pa), .c, .c] (c6 H) (m041 H)) an))))
theorem m032 : A22 c x m fr md i y b w th pa p q 7 #[false, false, true, true, false, false, true, true, false, false, false] [(4, tGW m), (166, .al 4 [] none), (167, it y), (171, .sl .own 45 (some 1) [agF b w th pa])] := AnyR.step [0, 1, 4] (by kernel_rfl) (by simp) (am (br 0 [.c] zqa (m132 H)) (am (br 1 [.c] zqa (m232 H)) (am (br 4 [.b true, .c] (c4 H) (m042 H)) an)))
theorem m031 : A22 c x m fr md i y b w th pa p q 8 #[false, false, true, true, false, false, true, false, false, false, false] [(4, tGW m), (166, .al 4 [] none), (167, it y), (170, agF b w th pa)] := AnyR.step [0, 1, 4, 7] (by kernel_rfl) (by simp) (am (br 0 [.c] zqa (m131 H)) (am (br 1 [.c] zqa (m231 H)) (am (br 4 [.b true, .c] (c4 H) (m041 H)) (am (br 7 [.c, .c, .c] zqa (m032 H)) an))))
theorem m030 : A22 c x m fr md i y b w th pa p q 9 #[false, false, true, true, false, false, false, false, false, false, false] [(4, tGW m), (166, .al 4 [] none), (167, it y), (9, bxL b w th pa)] := AnyR.step [0, 1, 4, 6] (by kernel_rfl) (by simp) (am (br 0 [.c] zqa (m130 H)) (am (br 1 [.c] zqa (m230 H)) (am (br 4 [.b true, .c] (c4 H) (m040 H)) (am (br 6 [.r (agF b w th pa), .c, .c] (c6 H) (m031 H)) an))))
theorem m012 : A22 c x m fr md i y b w th pa p q 8 #[false, false, true, false, false, false, true, true, false, false, false] [(4, tGW m), (166, .al 4 [] none), (171, .sl .own 45 (some 1) [agF b w th pa])] := AnyR.step [0, 1, 3] (by kernel_rfl) (by simp) (am (br 0 [.c] zqa (m112 H)) (am (br 1 [.c] zqa (m212 H)) (am (br 3 [.c] zqa (m032 H)) an)))
theorem m011 : A22 c x m fr md i y b w th pa p q 9 #[false, false, true, false, false, false, true, false, false, false, false] [(4, tGW m), (166, .al 4 [] none), (170, agF b w th pa)] := AnyR.step [0, 1, 3, 7] (by kernel_rfl) (by simp) (am (br 0 [.c] zqa (m111 H)) (am (br 1 [.c] zqa (m211 H)) (am (br 3 [.c] zqa (m031 H)) (am (br 7 [.c, .c, .c] zqa (m012 H)) an))))
theorem m010 : A22 c x m fr md i y b w th pa p q 10 #[false, false, true, false, false, false, false, false, false, false, false] [(4, tGW m), (166, .al 4 [] none), (9, bxL b w th pa)] := AnyR.step [0, 1, 3, 6] (by kernel_rfl) (by simp) (am (br 0 [.c] zqa (m110 H)) (am (br 1 [.c] zqa (m210 H)) (am (br 3 [.c] zqa (m030 H)) (am (br 6 [.r (agF b w th pa), .c, .c] (c6 H) (m011 H)) an))))
theorem m022 : A22 c x m fr md i y b w th pa p q 8 #[false, false, false, true, false, false, true, true, false, false, false] [(4, tGW m), (167, it y), (171, .sl .own 45 (some 1) [agF b w th pa])] := AnyR.step [0, 1, 2] (by kernel_rfl) (by simp) (am (br 0 [.c] zqa (m122 H)) (am (br 1 [.c] zqa (m222 H)) (am (br 2 [.c] zqa (m032 H)) an)))
theorem m021 : A22 c x m fr md i y b w th pa p q 9 #[false, false, false, true, false, false, true, false, false, false, false] [(4, tGW m), (167, it y), (170, agF b w th pa)] := AnyR.step [0, 1, 2, 7] (by kernel_rfl) (by simp) (am (br 0 [.c] zqa (m121 H)) (am (br 1 [.c] zqa (m221 H)) (am (br 2 [.c] zqa (m031 H)) (am (br 7 [.c, .c, .c] zqa (m022 H)) an))))
theorem m020 : A22 c x m fr md i y b w th pa p q 10 #[false, false, false, true, false, false, false, false, false, false, false] [(4, tGW m), (167, it y), (9, bxL b w th pa)] := AnyR.step [0, 1, 2, 6] (by kernel_rfl) (by simp) (am (br 0 [.c] zqa (m120 H)) (am (br 1 [.c] zqa (m220 H)) (am (br 2 [.c] zqa (m030 H)) (am (br 6 [.r (agF b w th pa), .c, .c] (c6 H) (m021 H)) an))))
theorem m002 : A22 c x m fr md i y b w th pa p q 9 #[false, false, false, false, false, false, true, true, false, false, false] [(4, tGW m), (171, .sl .own 45 (some 1) [agF b w th pa])] := AnyR.step [0, 1, 2, 3] (by kernel_rfl) (by simp) (am (br 0 [.c] zqa (m102 H)) (am (br 1 [.c] zqa (m202 H)) (am (br 2 [.c] zqa (m012 H)) (am (br 3 [.c] zqa (m022 H)) an))))
theorem m001 : A22 c x m fr md i y b w th pa p q 10 #[false, false, false, false, false, false, true, false, false, false, false] [(4, tGW m), (170, agF b w th pa)] := AnyR.step [0, 1, 2, 3, 7] (by kernel_rfl) (by simp) (am (br 0 [.c] zqa (m101 H)) (am (br 1 [.c] zqa (m201 H)) (am (br 2 [.c] zqa (m011 H)) (am (br 3 [.c] zqa (m021 H)) (am (br 7 [.c, .c, .c] zqa (m002 H)) an)))))
theorem m000 : A22 c x m fr md i y b w th pa p q 11 #[false, false, false, false, false, false, false, false, false, false, false] [(4, tGW m), (9, bxL b w th pa)] := AnyR.step [0, 1, 2, 3, 6] (by kernel_rfl) (by simp) (am (br 0 [.c] zqa (m100 H)) (am (br 1 [.c] zqa (m200 H)) (am (br 2 [.c] zqa (m010 H)) (am (br 3 [.c] zqa (m020 H)) (am (br 6 [.r (agF b w th pa), .c, .c] (c6 H) (m001 H)) an)))))
end
theorem ym2 (c : Option Nat) (x : List Lx) (m : List (List Lp)) (fr md : List Idd) (i y : Int) (b : Int) (w : Bool) (th : List Idd) (pa : List Ps) (p q : Int) (h4 : q4 m y) (h5 : q5 m y) (h5b : q5b m y) (h6 : q6 b w th pa) (h8 : q8 m y b w th pa) (h9 : q9 m y) (h10 : q10 m y ∧ q11 m y) : A22 c x m fr md i y b w th pa p q 11 #[false, false, false, false, false, false, false, false, false, false, false] [(4, tGW m), (9, bxL b w th pa)] := m000 ⟨h4, h5, h5b, h6, h8, h9, h10⟩
theorem yo4 {m : List (List Lp)} {i : Nat} (L : List AV) (hi : i < m.length) : List.set (List.set (List.map gOW m) i (setE (List.getD (List.map gOW m) i AV.bad) 0 [AV.bad])) i (setE (List.getD (List.set (List.map gOW m) i (setE (List.getD (List.map gOW m) i AV.bad) 0 [AV.bad])) i AV.bad) 0 [.sl .own 45 none L]) = (List.map gOW m).set i (.sl .own 45 none L) := by
 rw [List.set_set]
 congr 1
 have h1 : List.getD (List.map gOW m) i AV.bad = gOW (m.getD i default) := by simp [zld, hi]
 rw [h1]
 have h2 : List.getD (List.set (List.map gOW m) i (setE (gOW (m.getD i default)) 0 [AV.bad])) i AV.bad = AV.bad := by
  rw [zld, List.getElem?_set_self (by simpa using hi)]; rfl
 rw [h2]; rfl
theorem ypp (l : List Idd) : List.map (mapE (remode zqx 11)) (List.map Idd.enc l) = List.map Idd.enc l := by rw [List.map_map]; rfl
theorem ysx (l : List Ps) : List.map (mapE (remode zqx 11)) (List.map Ps.enc l) = List.map Ps.enc l := by rw [List.map_map]; rfl
theorem of22 (c : Option Nat) (x : List Lx) (m : List (List Lp)) (fr md : List Idd) (i : Int) (y : Nat) (b : Int) (w : Bool) (th : List Idd) (pa : List Ps) (p q : Int) (hy : y < m.length) (hl : (m.getD y default).length < 100000) (L : Lp) (hL : L.b = b ∧ L.w = w ∧ L.th = th ∧ L.pa = pa) :
  Tri Try.prog (cxN 184 0) (.region 22 (zql Try.f9 22) true) ((4, tGW m) :: (9, bxL b w th pa) :: bs c x fr md i y p q) .normal ((4, tGW (m.set y (m.getD y default ++ [L]))) :: bs c x fr md i y p q) := by
 obtain ⟨rfl, rfl, rfl, rfl⟩ := hL
 have hg : List.getD (List.map gOW m) y AV.bad = gOW (m.getD y default) := by simp [zld, hy]
 have h := ym2 c x m fr md i y L.b L.w L.th L.pa p q (zlb (by rw [zla]; omega)) (zlb (by rw [zla]; exact hy)) hg (by
   show AV.agg [ub L.b, bb L.w, .sl .fresh 36 none (List.map (mapE (remode zqx 11)) (List.map Idd.enc L.th)), .sl .fresh 56 none (List.map (mapE (remode zqx 11)) (List.map Ps.enc L.pa))] = _
   rw [ypp, ysx]) (zlb (by rw [zla]; show _ + 1 ≤ _; simp only [zlf]; omega)) (zlb (by rw [zlx, zla]; omega)) ⟨zlb (by rw [zlx, zla]; exact hy), by
   show List.getD (List.set (List.map gOW m) y (setE (List.getD (List.map gOW m) y AV.bad) 0 [AV.bad])) y AV.bad = AV.bad
   rw [hg, zld, List.getElem?_set_self (by simpa using hy)]; rfl⟩
 have e : tNew m y L.b L.w L.th L.pa = tGW (m.set y (m.getD y default ++ [L])) := by
  show AV.sl .own 37 none (List.set (List.set (List.map gOW m) y (setE (List.getD (List.map gOW m) y AV.bad) 0 [AV.bad])) y (setE (List.getD (List.set (List.map gOW m) y (setE (List.getD (List.map gOW m) y AV.bad) 0 [AV.bad])) y AV.bad) 0 [.sl .own 45 none ((m.getD y default).map Lp.encG ++ [agF L.b L.w L.th L.pa])])) = _
  rw [yo4 _ hy]
  show _ = AV.sl .own 37 none ((m.set y (m.getD y default ++ [L])).map gOW)
  rw [List.map_set]
  show _ = AV.sl .own 37 none ((m.map gOW).set y (.sl .own 45 none ((m.getD y default ++ [L]).map Lp.encG)))
  rw [zlq]; rfl
 refine Tri.ofR (.any (base 184 0) (R := (· = (4, tGW (m.set y (m.getD y default ++ [L]))) :: bs c x fr md i y p q)) ?_) fun e h => h
 have hs : zqy.size = 11 := by kernel_rfl
 have ha : Array.replicate zqy.size false = #[false, false, false, false, false, false, false, false, false, false, false] := by kernel_rfl
 show AnyR Try.prog (cxN 184 0) zqy _ zqy.size (Array.replicate zqy.size false) _
 rw [ha, hs, ← e]
 exact h
theorem yjt (l : List Idd) : ((l.map Idd.enc).all fun y => y.ecells.all zqt) = true := by rw [List.all_map, zls]; intro p _; rfl
theorem yrc (l : List Idd) (n : Nat) (hn : n = 2) : ((l.map Idd.enc).all fun y => decide (y.ecells.length = n)) = true := by subst hn; rw [List.all_map, zls]; intro p _; rfl
abbrev oE (c : Option Nat) (x : List Lx) (m : List (List Lp)) (fr md : List Idd) (i y : Int) (b : Int) (w : Bool) (th : List Idd) (pa : List Ps) : Env := [(0, xsl c x), (4, tGW m), (5, iow none fr), (6, iow none md), (7, it i), (8, it y), (9, bxL b w th pa)]
section
variable (c : Option Nat) (x : List Lx) (m : List (List Lp)) (fr md : List Idd) (i y : Int) (b : Int) (w : Bool) (th : List Idd) (pa : List Ps)
theorem of15 (k : Int) (n : Nat) (hn : n < fr.length) (hf : fr.length < 100000) : Tri Try.prog (cxN 184 0) (zqr Try.f9 15) (oE c x m fr md i y b w th pa ++ [(10, it k), (11, it n)]) .normal (oE c x m (fr.take n ++ fr.drop (n + 1)) md i y b w th pa ++ [(10, it k)]) := by
 have h := yw0 c x m fr md i y b w th pa k n
 rw [up64 (k := n) (by omega)] at h
 simp only [zlf, Nat.sub_zero, List.drop_zero] at h
 have e1 : List.map Idd.enc ([] : List Idd) ++ List.take n (List.map Idd.enc fr) = List.map Idd.enc ([] ++ List.take n fr) := by simp [List.map_take]
 have e2 : List.map Idd.enc ([] ++ List.take n fr) ++ List.take ((List.map Idd.enc fr).length - (n + 1)) (List.drop (n + 1) (List.map Idd.enc fr)) = List.map Idd.enc ([] ++ List.take n fr ++ List.take ((List.map Idd.enc fr).length - (n + 1)) (List.drop (n + 1) fr)) := by simp [List.map_take, List.map_drop]
 have t1 : List.take n (List.map Idd.enc fr) = List.map Idd.enc (List.take n fr) := (List.map_take ..).symm
 have t2 : List.take ((List.map Idd.enc fr).length - (n + 1)) (List.drop (n + 1) (List.map Idd.enc fr)) = List.map Idd.enc (List.take ((List.map Idd.enc fr).length - (n + 1)) (List.drop (n + 1) fr)) := by rw [← List.map_drop, ← List.map_take]
 have h' := h rfl (zlb (by omega)) (zlb ⟨Nat.zero_le _, by rw [zla]; omega⟩) (zlb (by rw [zla]; omega)) (zlb ⟨trivial, by rw [t1]; exact yjt _, by rw [t1]; exact yrc _ _ rfl⟩) (zlb ⟨trivial, by rw [t1, zla, zla, zlh]; show 0 + _ ≤ _; omega, by decide⟩)
  (by rw [e1]) (zlb (by omega)) (zlb ⟨by rw [zla]; omega, zly _⟩) (zlb (by rw [zla]; omega)) (zlb ⟨trivial, by rw [t2]; exact yjt _, by rw [t2]; exact yrc _ _ rfl⟩) (zlb ⟨trivial, by rw [t2, zla, zla, zlg, zlh, zlh, List.length_drop]; show 0 + _ + _ ≤ _; omega, by decide⟩) (by rw [e2])
 have e3 : ([] : List Idd) ++ List.take n fr ++ List.take ((List.map Idd.enc fr).length - (n + 1)) (List.drop (n + 1) fr) = fr.take n ++ fr.drop (n + 1) := by
  rw [List.nil_append, zla, zlm (l := List.drop (n + 1) fr) (by rw [List.length_drop]; omega)]
 rw [e3] at h'
 exact .less h' (.cons ⟨rfl, rfl, Le.refl _⟩ (.cons ⟨rfl, rfl, Le.refl _⟩ (.cons ⟨rfl, rfl, Le.cap⟩ (.cons ⟨rfl, rfl, Le.refl _⟩ (.cons ⟨rfl, rfl, Le.refl _⟩ (.cons ⟨rfl, rfl, Le.refl _⟩ (.cons ⟨rfl, rfl, Le.refl _⟩ (.cons ⟨rfl, rfl, Le.refl _⟩ .nil))))))))
end
theorem ywn : zqc Try.f9 1 = .seq (.seq (zqr Try.f9 11) (.cond (.tmp 69) .skip (.exit 2))) (.seq (.block 3 (.seq (zqr Try.f9 13) (.seq (zqr Try.f9 14) (zqr Try.f9 15)))) (zqr Try.f9 12)) := by kernel_rfl
theorem ywm : zqc Try.f9 2 = .seq (.seq (zqr Try.f9 17) (.cond (.tmp 119) .skip (.exit 4))) (.seq (.block 5 (.seq (zqr Try.f9 19) (zqr Try.f9 20))) (zqr Try.f9 18)) := by kernel_rfl
def thF : List Int → List Idd → List Idd → List Idd × List Idd
 | [], fr, th => (fr, th)
 | p :: ps, fr, th => if fr.length = 0 then (fr, th) else thF ps (fr.take (p.toNat % fr.length) ++ fr.drop (p.toNat % fr.length + 1)) (th ++ [fr.getD (p.toNat % fr.length) default])
structure OkX (L : Lx) : Prop where
 y0 : 0 ≤ L.y
 y1 : L.y ≤ 255
 th : ∀ p ∈ L.th, 0 ≤ p ∧ p ≤ 255
 pa : ∀ p ∈ L.pa, 0 ≤ p ∧ p ≤ 255
 lt : L.th.length < 2 ^ 63
 lp : L.pa.length < 2 ^ 63
theorem yaw {x : List Lx} {i : Nat} (h : i < x.length) : (x.map Lx.enc).getD i .bad = Lx.enc (x.getD i default) := by simp [zld, h]
theorem yni {x : List Int} {i : Nat} (h : i < x.length) : (x.map ubE).getD i .bad = ubE (x.getD i default) := by simp [zld, h]
theorem yj4 {x : List Int} {i : Nat} (h : i < x.length) : x.getD i default ∈ x := by rw [zld, zle h]; exact zlu h
theorem drop_take (l : List Int) (n k : Nat) (h : k < l.length) (hn : k < n) : (l.take n).drop k = l.getD k default :: (l.take n).drop (k + 1) := by
 have h2 : k < (l.take n).length := by rw [zlh]; omega
 have e : (l.take n)[k]'h2 = l.getD k default := by
  rw [List.getElem_take, zld, zle h]; rfl
 rw [List.drop_eq_getElem_cons h2, e]
theorem ygk {p : Int} {n : Nat} (h0 : 0 ≤ p) (h1 : p ≤ 255) : Int.tmod (IntKind.wrap i64 p) (n : Int) = ((p.toNat % n : Nat) : Int) := by
 rw [yae (by omega) (by omega)]
 obtain ⟨a, rfl⟩ : ∃ a : Nat, p = a := ⟨p.toNat, by omega⟩
 rw [zlf, Int.tmod_eq_emod_of_nonneg (by omega)]
 rfl
section
variable (c : Option Nat) (x : List Lx) (m : List (List Lp)) (md : List Idd) (i : Nat) (y : Int) (b : Int) (w : Bool) (pa : List Ps) (hi : i < x.length) (hx : x.length < 2 ^ 63) (hL : OkX (x.getD i default))
abbrev thE (m : List (List Lp)) (fr md : List Idd) (i y : Int) (b : Int) (w : Bool) (th : List Idd) (pa : List Ps) (k : Int) : Env := oE c x m fr md i y b w th pa ++ [(10, it k)]
include hi hx hL
theorem yqx (fr th : List Idd) (k : Nat) (h : k < (x.getD i default).th.length → k < 4 → fr.length = 0) : Tri Try.prog (cxN 184 0) (zqc Try.f9 1) (thE c x m fr md i y b w th pa k) (.exit 2) (oE c x m fr md i y b w th pa) := by
 rw [ywn]
 have go : Tri Try.prog (cxN 184 0) (zqr Try.f9 11) (thE c x m fr md i y b w th pa k) .normal (thE c x m fr md i y b w th pa k ++ [(69, bb false)]) := by
  by_cases h1 : k < (x.getD i default).th.length
  ·by_cases h2 : k < 4
   ·have := yq7 c x m fr md i y b w th pa k (zlb (by rw [zla]; omega)) (yaw hi) (zlb (by rw [zla]; simp only [zlf]; omega)) (zlb (by omega))
    rw [show decide ((0 : Int) < ((List.map Idd.enc fr).length : Nat)) = false by rw [zlc]; rw [zla, h h1 h2]; decide] at this
    exact this
   ·exact yw5 c x m fr md i y b w th pa k (zlb (by rw [zla]; omega)) (yaw hi) (zlb (by rw [zla]; simp only [zlf]; omega)) (zlc (by omega))
  ·exact yw4 c x m fr md i y b w th pa k (zlb (by rw [zla]; omega)) (yaw hi) (zlc (by rw [zla]; simp only [zlf]; omega))
 exact .seqX (.seq go (.cond (b := false) rfl (.after (kp [0, 4, 5, 6, 7, 8, 9]) .exit))) (by simp)
theorem ysc (fr th : List Idd) (k : Nat) (h1 : k < (x.getD i default).th.length) (h2 : k < 4) (h3 : 0 < fr.length) (hf : fr.length < 100000) (ht : th.length < 100000) : Tri Try.prog (cxN 184 0) (zqc Try.f9 1) (thE c x m fr md i y b w th pa k) .normal (thE c x m (fr.take (((x.getD i default).th.getD k default).toNat % fr.length) ++ fr.drop (((x.getD i default).th.getD k default).toNat % fr.length + 1)) md i y b w (th ++ [fr.getD (((x.getD i default).th.getD k default).toNat % fr.length) default]) pa ((k + 1 : Nat) : Int)) := by
 rw [ywn]
 have h11 := yq7 c x m fr md i y b w th pa k (zlb (by rw [zla]; omega)) (yaw hi) (zlb (by rw [zla]; simp only [zlf]; omega)) (zlb (by omega))
 rw [show decide ((0 : Int) < ((List.map Idd.enc fr).length : Nat)) = true by rw [zlb]; rw [zla]; omega] at h11
 obtain ⟨p0, p1⟩ := hL.th _ (yj4 h1)
 obtain ⟨f0, fr', rfl⟩ : ∃ f0 fr', fr = f0 :: fr' := by
  cases fr with
  | nil => simp at h3
  | cons f0 fr' => exact ⟨f0, fr', rfl⟩
 have h13 := yw2 c x m f0 fr' md i y b w th pa k (zlb (by rw [zla]; omega)) (yaw hi) (zlb (by rw [zla]; simp only [zlf]; omega)) (yni (by simp only [zlf]; exact h1))
 simp only [zlf] at h13
 rw [ygk p0 p1, zla] at h13
 generalize hn : ((x.getD i default).th.getD k default).toNat % (f0 :: fr').length = n at *
 have hnl : n < (f0 :: fr').length := by rw [← hn]; exact Nat.mod_lt _ h3
 have h14 := yw1 c x m (f0 :: fr') md i y b w th pa k n (zlb (by rw [zla]; omega)) (zlb (by rw [zla]; simpa using hnl)) (yai (by simpa using hnl)) rfl (zlb (by rw [zla, zla]; show _ + 1 ≤ _; omega)) (by rw [← zlq])
 simp only [zlf] at h14
 have h15 := of15 c x m (f0 :: fr') md i y b w (th ++ [(f0 :: fr').getD n default]) pa k n hnl hf
 have h12 := yw3 c x m (List.take n (f0 :: fr') ++ List.drop (n + 1) (f0 :: fr')) md i y b w (th ++ [(f0 :: fr').getD n default]) pa k
 rw [up64 (by omega)] at h12
 exact .seq (.seq h11 (.cond (b := true) rfl (.after (kp [0, 4, 5, 6, 7, 8, 9, 10]) .skip))) (.seq (.block (ex := .normal) (.seq h13 (.seq h14 h15)) (.inr ⟨by simp, rfl⟩)) h12)
theorem ylx : ∀ (j k : Nat) (fr th : List Idd), k + j = min 4 (x.getD i default).th.length → fr.length < 100000 → th.length < 50000 + k → Rnd Try.prog (cxN 184 0) (zqc Try.f9 1) (j + 1) (thE c x m fr md i y b w th pa k) (.exit 2) (oE c x m (thF (((x.getD i default).th.take 4).drop k) fr th).1 md i y b w (thF (((x.getD i default).th.take 4).drop k) fr th).2 pa)
 | 0, k, fr, th, h, _, _ => by
  rw [zln (by rw [zlh]; omega)]
  exact .exit (yqx c x m md i y b w pa hi hx hL fr th k (by omega)) (by simp)
 | j + 1, k, fr, th, h, hf, ht => by
  have h1 : k < (x.getD i default).th.length := by omega
  have hd := drop_take (x.getD i default).th 4 k h1 (by omega)
  rw [hd, thF]
  by_cases h3 : fr.length = 0
  ·rw [if_pos h3]
   exact .exit (yqx c x m md i y b w pa hi hx hL fr th k (fun _ _ => h3)) (by simp)
  ·rw [if_neg h3]
   have hmod := Nat.mod_lt ((x.getD i default).th.getD k default).toNat (by omega : 0 < fr.length)
   exact .step (ysc c x m md i y b w pa hi hx hL fr th k h1 (by omega) (by omega) hf (by omega)) (ylx j (k + 1) _ _ (by omega) (by rw [zlg, zlh, List.length_drop]; omega) (by rw [zlg]; show _ + 1 < _; omega))
end
def psOf (md : List Idd) (yy p : Int) : Ps := ⟨(md.getD (p.toNat / 2 % md.length) default).y, (md.getD (p.toNat / 2 % md.length) default).n, Int.tmod p 2 == 1, Int.tmod (IntKind.wrap u8 (Int.tdiv yy 6)) 2⟩
theorem ypz {p : Int} {n : Nat} (h0 : 0 ≤ p) (h1 : p ≤ 255) : Int.tmod (IntKind.wrap i64 (IntKind.wrap u8 (Int.tdiv p 2))) (n : Int) = ((p.toNat / 2 % n : Nat) : Int) := by
 obtain ⟨a, rfl⟩ : ∃ a : Nat, p = a := ⟨p.toNat, by omega⟩
 have e : Int.tdiv (a : Int) 2 = ((a / 2 : Nat) : Int) := by rw [Int.tdiv_eq_ediv_of_nonneg (by omega)]; rfl
 have e2 : IntKind.wrap u8 ((a / 2 : Nat) : Int) = ((a / 2 : Nat) : Int) := yhf (by omega) (by omega)
 rw [e, e2, ygk (by omega) (by omega), zlf, zlf]
section
variable (c : Option Nat) (x : List Lx) (m : List (List Lp)) (fr : List Idd) (i : Nat) (y : Int) (b : Int) (w : Bool) (th : List Idd) (hi : i < x.length) (hx : x.length < 2 ^ 63) (hL : OkX (x.getD i default))
abbrev paE (m : List (List Lp)) (fr md : List Idd) (i y : Int) (b : Int) (w : Bool) (th : List Idd) (pa : List Ps) (k : Int) : Env := oE c x m fr md i y b w th pa ++ [(12, it k)]
include hi hx hL
theorem yq2 (md : List Idd) (pa : List Ps) (k : Nat) (h : k < (x.getD i default).pa.length → k < 5 → md.length = 0) : Tri Try.prog (cxN 184 0) (zqc Try.f9 2) (paE c x m fr md i y b w th pa k) (.exit 4) (oE c x m fr md i y b w th pa) := by
 rw [ywm]
 have go : Tri Try.prog (cxN 184 0) (zqr Try.f9 17) (paE c x m fr md i y b w th pa k) .normal (paE c x m fr md i y b w th pa k ++ [(119, bb false)]) := by
  by_cases h1 : k < (x.getD i default).pa.length
  ·by_cases h2 : k < 5
   ·have := yq6 c x m fr md i y b w th pa k (zlb (by rw [zla]; omega)) (yaw hi) (zlb (by rw [zla]; simp only [zlf]; omega)) (zlb (by omega))
    rw [show decide ((0 : Int) < ((List.map Idd.enc md).length : Nat)) = false by rw [zlc]; rw [zla, h h1 h2]; decide] at this
    exact this
   ·exact ywy c x m fr md i y b w th pa k (zlb (by rw [zla]; omega)) (yaw hi) (zlb (by rw [zla]; simp only [zlf]; omega)) (zlc (by omega))
  ·exact ywx c x m fr md i y b w th pa k (zlb (by rw [zla]; omega)) (yaw hi) (zlc (by rw [zla]; simp only [zlf]; omega))
 exact .seqX (.seq go (.cond (b := false) rfl (.after (kp [0, 4, 5, 6, 7, 8, 9]) .exit))) (by simp)
theorem yso (md : List Idd) (pa : List Ps) (k : Nat) (h1 : k < (x.getD i default).pa.length) (h2 : k < 5) (h3 : 0 < md.length) (hf : md.length < 100000) (ht : pa.length < 100000) : Tri Try.prog (cxN 184 0) (zqc Try.f9 2) (paE c x m fr md i y b w th pa k) .normal (paE c x m fr md i y b w th (pa ++ [psOf md (x.getD i default).y ((x.getD i default).pa.getD k default)]) ((k + 1 : Nat) : Int)) := by
 rw [ywm]
 have h17 := yq6 c x m fr md i y b w th pa k (zlb (by rw [zla]; omega)) (yaw hi) (zlb (by rw [zla]; simp only [zlf]; omega)) (zlb (by omega))
 rw [show decide ((0 : Int) < ((List.map Idd.enc md).length : Nat)) = true by rw [zlb]; rw [zla]; omega] at h17
 obtain ⟨p0, p1⟩ := hL.pa _ (yj4 h1)
 obtain ⟨f0, md', rfl⟩ : ∃ f0 md', md = f0 :: md' := by
  cases md with
  | nil => simp at h3
  | cons f0 md' => exact ⟨f0, md', rfl⟩
 have h19 := ywv c x m fr (f0 :: md') i y b w th pa k (zlb (by rw [zla]; omega)) (yaw hi) (zlb (by rw [zla]; simp only [zlf]; omega)) (yni (by simp only [zlf]; exact h1))
 simp only [zlf] at h19
 have h20 := ywu c x m f0 fr md' i y b w th pa k ((x.getD i default).pa.getD k default)
 rw [ypz p0 p1] at h20
 simp only [zlf, zla] at h20
 have hnl : ((x.getD i default).pa.getD k default).toNat / 2 % (f0 :: md').length < (f0 :: md').length := Nat.mod_lt _ h3
 have h20' := h20 (zlb (by omega)) (zlb hnl) (yai hnl) (zlb (by omega)) (yaw hi) rfl (zlb (by show _ + 1 ≤ _; omega)) (by rw [← zlq])
 have h18 := yww c x m fr (f0 :: md') i y b w th (pa ++ [psOf (f0 :: md') (x.getD i default).y ((x.getD i default).pa.getD k default)]) k
 rw [up64 (by omega)] at h18
 exact .seq (.seq h17 (.cond (b := true) rfl (.after (kp [0, 4, 5, 6, 7, 8, 9, 12]) .skip))) (.seq (.block (ex := .normal) (.seq h19 h20') (.inr ⟨by simp, rfl⟩)) h18)
theorem ymf (md : List Idd) (hf : md.length < 100000) : ∀ (j k : Nat) (pa : List Ps), k + j = min 5 (x.getD i default).pa.length → pa.length < 50000 + k → Rnd Try.prog (cxN 184 0) (zqc Try.f9 2) (j + 1) (paE c x m fr md i y b w th pa k) (.exit 4) (oE c x m fr md i y b w th (if md.length = 0 then pa else pa ++ (((x.getD i default).pa.take 5).drop k).map (psOf md (x.getD i default).y)))
 | 0, k, pa, h, _ => by
  rw [zln (by rw [zlh]; omega), List.map_nil, List.append_nil, ite_self]
  exact .exit (yq2 c x m fr i y b w th hi hx hL md pa k (by omega)) (by simp)
 | j + 1, k, pa, h, ht => by
  have h1 : k < (x.getD i default).pa.length := by omega
  by_cases h3 : md.length = 0
  ·rw [if_pos h3]
   exact .exit (yq2 c x m fr i y b w th hi hx hL md pa k (fun _ _ => h3)) (by simp)
  ·have ih := ymf md hf j (k + 1) (pa ++ [psOf md (x.getD i default).y ((x.getD i default).pa.getD k default)]) (by omega) (by rw [zlg]; show _ + 1 < _; omega)
   rw [if_neg h3] at ih ⊢
   rw [drop_take (x.getD i default).pa 5 k h1 (by omega), List.map_cons]
   rw [zlp] at ih
   exact .step (yso c x m fr i y b w th hi hx hL md pa k h1 (by omega) (by omega) hf (by omega)) ih
end
structure OfS where
 m : List (List Lp)
 fr : List Idd
 md : List Idd
def ofL (S : OfS) (L : Lx) : Lp := ⟨if L.b then 1 else 0, L.w || (S.m.getD (L.y.toNat % 6) default).length == 0, none, (thF (L.th.take 4) S.fr []).2, none, if S.md.length = 0 then [] else (L.pa.take 5).map (psOf S.md L.y)⟩
def ofI (S : OfS) (L : Lx) : Idd := ⟨((L.y.toNat % 6 + 1 : Nat) : Int), ((S.m.getD (L.y.toNat % 6) default).length : Nat)⟩
def yay (S : OfS) (L : Lx) : OfS := ⟨S.m.set (L.y.toNat % 6) (S.m.getD (L.y.toNat % 6) default ++ [ofL S L]), (thF (L.th.take 4) S.fr []).1 ++ [ofI S L], S.md ++ [ofI S L]⟩
theorem yin : ∀ (ps : List Int) (fr th : List Idd), (thF ps fr th).1.length ≤ fr.length
 | [], fr, th => zly _
 | p :: ps, fr, th => by
  rw [thF]
  split
  ·exact zly _
  ·refine Nat.le_trans (yin ps _ _) ?_
   rw [zlg, zlh, List.length_drop]; omega
structure OfOk (S : OfS) (i : Nat) : Prop where
 m6 : S.m.length = 6
 row : ∀ r ∈ S.m, r.length ≤ i
 fr : S.fr.length ≤ i
 md : S.md.length ≤ i
theorem OfOk.get {S : OfS} {i : Nat} (h : OfOk S i) (y : Nat) (hy : y < 6) : (S.m.getD y default).length ≤ i := by
 refine h.row _ ?_
 rw [zld, zle (by rw [h.m6]; exact hy)]; exact zlu _
theorem OfOk.step {S : OfS} {i : Nat} (h : OfOk S i) (L : Lx) : OfOk (yay S L) (i + 1) := by
 have hy : L.y.toNat % 6 < 6 := Nat.mod_lt _ (by omega)
 refine ⟨by show (List.set _ _ _).length = 6; rw [zlx]; exact h.m6, ?_, ?_, ?_⟩
 ·intro r hr
  rcases List.mem_or_eq_of_mem_set hr with hr | rfl
  ·have := h.row r hr; omega
  ·rw [zlg]; have := h.get _ hy; show _ + 1 ≤ _; omega
 ·show (_ ++ [_]).length ≤ _
  rw [zlg]; have := yin (L.th.take 4) S.fr []; have := h.fr; show _ + 1 ≤ _; omega
 ·show (_ ++ [_]).length ≤ _
  rw [zlg]; have := h.md; show _ + 1 ≤ _; omega
theorem ywo : zqc Try.f9 0 = (.seq (.seq (zqr Try.f9 4) (.cond (.tmp 23) .skip (.exit 0))) (.seq (.block 1 (.seq (zqr Try.f9 6) (.seq (zqr Try.f9 7) (.seq (.seq (zqr Try.f9 8) (.cond (.tmp 51) (zqr Try.f9 9) .skip)) (.seq (.seq (zqr Try.f9 10) (.block 2 (.loop (zqc Try.f9 1)))) (.seq (.seq (zqr Try.f9 16) (.block 4 (.loop (zqc Try.f9 2)))) (.seq (zqr Try.f9 21) (.seq (.region 22 (zql Try.f9 22) true) (.seq (zqr Try.f9 23) (zqr Try.f9 24)))))))))) (zqr Try.f9 5))) := by kernel_rfl
theorem yx6 (b : Int) (w : Bool) : Le Try.prog (.box [ub b, bb w, zqw, zqw]) (bxL b w [] []) := Le.box (.cons (Le.refl _) (.cons (Le.refl _) (.cons (Le.trans (Le.nilOwn 36) Le.cap) (.cons (Le.trans (Le.nilOwn 56) Le.cap) .nil))))
section
variable (c : Option Nat) (x : List Lx) (hx : x.length < 2 ^ 63)
abbrev uE (S : OfS) (i : Int) : Env := [(0, xsl c x), (4, tGW S.m), (5, iow none S.fr), (6, iow none S.md), (7, it i)]
include hx
theorem yvw (S : OfS) (i : Nat) (h : i < x.length → 60 ≤ i) : Tri Try.prog (cxN 184 0) (zqc Try.f9 0) (uE c x S i) (.exit 0) [(4, tGW S.m), (6, iow none S.md)] := by
 rw [ywo]
 have go : Tri Try.prog (cxN 184 0) (zqr Try.f9 4) (uE c x S i) .normal (uE c x S i ++ [(23, bb false)]) := by
  by_cases h1 : i < x.length
  ·have := ywp c x S.m S.fr S.md i (zlb (by rw [zla]; omega))
   rw [show decide ((i : Int) < 60) = false by rw [zlc]; have := h h1; omega] at this
   exact this
  ·exact of4_1 c x S.m S.fr S.md i (zlc (by rw [zla]; omega))
 exact .seqX (.seq go (.cond (b := false) rfl (.after (kp [4, 6]) .exit))) (by simp)
theorem yr6 (S : OfS) (i : Nat) (h1 : i < x.length) (h2 : i < 60) (hS : OfOk S i) (hL : OkX (x.getD i default)) : Tri Try.prog (cxN 184 0) (zqc Try.f9 0) (uE c x S i) .normal (uE c x (yay S (x.getD i default)) ((i + 1 : Nat) : Int)) := by
 rw [ywo]
 have hb : decide ((0 : Int) ≤ (i : Int) ∧ (i : Int) < ((List.map Lx.enc x).length : Nat)) = true := zlb (by rw [zla]; omega)
 have h4 := ywp c x S.m S.fr S.md i (zlb (by rw [zla]; omega))
 rw [show decide ((i : Int) < 60) = true by rw [zlb]; omega] at h4
 have h6 := of6_0 c x S.m S.fr S.md i hb (yaw h1)
 generalize hLe : x.getD i default = L at *
 simp only [zlf, hLe] at h6
 have hyw : IntKind.wrap i64 (Int.tmod L.y 6) = ((L.y.toNat % 6 : Nat) : Int) := by
  have := ygk (p := L.y) (n := 6) hL.y0 hL.y1
  rw [yae (n := L.y) (by have := hL.y0; omega) (by have := hL.y1; omega)] at this
  show IntKind.wrap i64 (Int.tmod L.y ((6 : Nat) : Int)) = _
  rw [this]; exact yae (by omega) (by omega)
 rw [hyw] at h6
 have hy : L.y.toNat % 6 < 6 := Nat.mod_lt _ (by omega)
 generalize hyy : L.y.toNat % 6 = y at *
 have hym : y < S.m.length := by rw [hS.m6]; exact hy
 have hrow := hS.get y hy
 have hgo : List.getD (List.map gOW S.m) y AV.bad = gOW (S.m.getD y default) := by simp [zld, hym]
 have hw : (L.w || (S.m.getD y default).length == 0) = (ofL S L).w := by unfold ofL; rw [hyy]
 have h7 : Tri Try.prog (cxN 184 0) (zqr Try.f9 7) (uE c x S i ++ [(8, it y)]) .normal (oE c x S.m S.fr S.md i y 0 (ofL S L).w [] []) := by
  rw [← hw]
  cases hLw : L.w with
  | true =>
   have h := of7_0 c x S.m S.fr S.md i y hb (yaw h1) (by simp only [zlf, hLe]; exact hLw)
   exact .less h (.cons ⟨rfl, rfl, Le.refl _⟩ (.cons ⟨rfl, rfl, Le.refl _⟩ (.cons ⟨rfl, rfl, Le.refl _⟩ (.cons ⟨rfl, rfl, Le.refl _⟩ (.cons ⟨rfl, rfl, Le.refl _⟩ (.cons ⟨rfl, rfl, Le.refl _⟩ (.cons ⟨rfl, rfl, yx6 0 true⟩ .nil)))))))
  | false =>
   have h := of7_1 c x S.m S.fr S.md i y hb (yaw h1) (by simp only [zlf, hLe]; exact hLw) (zlb (by rw [zla]; omega)) (zlb (by rw [zla]; simpa using hym)) (by simp only [zlf]; exact hgo)
   simp only [zlf, zla] at h
   have e : ((((S.m.getD y default).length : Nat) : Int) == 0) = (false || (S.m.getD y default).length == 0) := by
    rw [Bool.false_or, Bool.eq_iff_iff]; simp
   rw [e] at h
   exact .less h (.cons ⟨rfl, rfl, Le.refl _⟩ (.cons ⟨rfl, rfl, Le.refl _⟩ (.cons ⟨rfl, rfl, Le.refl _⟩ (.cons ⟨rfl, rfl, Le.refl _⟩ (.cons ⟨rfl, rfl, Le.refl _⟩ (.cons ⟨rfl, rfl, Le.refl _⟩ (.cons ⟨rfl, rfl, yx6 0 _⟩ .nil)))))))
 have h8 := of8_0 c x S.m S.fr S.md i y 0 (ofL S L).w [] [] hb (yaw h1)
 simp only [zlf, hLe] at h8
 have h89 : Tri Try.prog (cxN 184 0) (.seq (zqr Try.f9 8) (.cond (.tmp 51) (zqr Try.f9 9) .skip)) (oE c x S.m S.fr S.md i y 0 (ofL S L).w [] []) .normal (oE c x S.m S.fr S.md i y (ofL S L).b (ofL S L).w [] []) := by
  have eb : (ofL S L).b = if L.b then 1 else 0 := rfl
  rw [eb]
  cases hb : L.b with
  | true => exact .seq (.after (kp [0, 4, 5, 6, 7, 8, 9, 51]) h8) (.cond (b := true) (by show some (bb L.b) = _; rw [hb]) (.weak (kp [0, 4, 5, 6, 7, 8, 9]) (of9_0 c x S.m S.fr S.md i y 0 (ofL S L).w [] [])))
  | false => exact .seq (.after (kp [0, 4, 5, 6, 7, 8, 9, 51]) h8) (.cond (b := false) (by show some (bb L.b) = _; rw [hb]) (.after (kp [0, 4, 5, 6, 7, 8, 9]) .skip))
 have hLx : OkX (x.getD i default) := by rw [hLe]; exact hL
 have hfr := hS.fr
 have hmd := hS.md
 have hT := (ylx c x S.m S.md i y (ofL S L).b (ofL S L).w [] h1 hx hLx (min 4 L.th.length) 0 S.fr [] (by rw [hLe]; omega) (by omega) (by decide)).loop
 simp only [hLe, List.drop_zero] at hT
 have hth : (thF (L.th.take 4) S.fr []).2 = (ofL S L).th := rfl
 rw [hth] at hT
 have hT2 : Tri Try.prog (cxN 184 0) (.seq (zqr Try.f9 10) (.block 2 (.loop (zqc Try.f9 1)))) (oE c x S.m S.fr S.md i y (ofL S L).b (ofL S L).w [] []) .normal (oE c x S.m (thF (L.th.take 4) S.fr []).1 S.md i y (ofL S L).b (ofL S L).w (ofL S L).th []) :=
  .seq (yw6 c x S.m S.fr S.md i y (ofL S L).b (ofL S L).w [] []) (.block (ex := .exit 2) hT (.inl ⟨rfl, rfl⟩))
 have hP := (ymf c x S.m (thF (L.th.take 4) S.fr []).1 i y (ofL S L).b (ofL S L).w (ofL S L).th h1 hx hLx S.md (by omega) (min 5 L.pa.length) 0 [] (by rw [hLe]; omega) (by decide)).loop
 simp only [hLe, List.drop_zero, List.nil_append] at hP
 have hpa : (if S.md.length = 0 then [] else (L.pa.take 5).map (psOf S.md L.y)) = (ofL S L).pa := rfl
 rw [hpa] at hP
 have hP2 : Tri Try.prog (cxN 184 0) (.seq (zqr Try.f9 16) (.block 4 (.loop (zqc Try.f9 2)))) (oE c x S.m (thF (L.th.take 4) S.fr []).1 S.md i y (ofL S L).b (ofL S L).w (ofL S L).th []) .normal (oE c x S.m (thF (L.th.take 4) S.fr []).1 S.md i y (ofL S L).b (ofL S L).w (ofL S L).th (ofL S L).pa) :=
  .seq (ywz c x S.m (thF (L.th.take 4) S.fr []).1 S.md i y (ofL S L).b (ofL S L).w (ofL S L).th []) (.block (ex := .exit 4) hP (.inl ⟨rfl, rfl⟩))
 have hfl := yin (L.th.take 4) S.fr []
 generalize hfe : (thF (L.th.take 4) S.fr []).1 = fr at *
 have h21 := ywt c x S.m fr S.md i y (ofL S L).b (ofL S L).w (ofL S L).th (ofL S L).pa (zlb (by rw [zla]; omega)) (zlb (by rw [zla]; simpa using hym)) (by simp only [zlf]; exact hgo)
 simp only [zlf, zla] at h21
 rw [up64 (by omega), yhf (by omega) (by omega)] at h21
 have h22 := of22 c x S.m fr S.md i y (ofL S L).b (ofL S L).w (ofL S L).th (ofL S L).pa ((y + 1 : Nat) : Int) ((S.m.getD y default).length : Nat) hym (by omega) (ofL S L) ⟨rfl, rfl, rfl, rfl⟩
 have h23 := yws c x (S.m.set y (S.m.getD y default ++ [ofL S L])) fr S.md i ((y + 1 : Nat) : Int) ((S.m.getD y default).length : Nat) rfl (zlb (by rw [zla, zla]; show _ + 1 ≤ _; omega)) (by rw [← zlq])
 have h24 := ywr c x (S.m.set y (S.m.getD y default ++ [ofL S L])) (fr ++ [⟨((y + 1 : Nat) : Int), ((S.m.getD y default).length : Nat)⟩]) S.md i ((y + 1 : Nat) : Int) ((S.m.getD y default).length : Nat) rfl (zlb (by rw [zla, zla]; show _ + 1 ≤ _; omega)) (by rw [← zlq])
 have hi1 : ofI S L = ⟨((y + 1 : Nat) : Int), ((S.m.getD y default).length : Nat)⟩ := by unfold ofI; rw [hyy]
 have h5 := of5_0 c x (S.m.set y (S.m.getD y default ++ [ofL S L])) (fr ++ [⟨((y + 1 : Nat) : Int), ((S.m.getD y default).length : Nat)⟩]) (S.md ++ [⟨((y + 1 : Nat) : Int), ((S.m.getD y default).length : Nat)⟩]) i
 rw [up64 (by omega)] at h5
 have hst : yay S L = ⟨S.m.set y (S.m.getD y default ++ [ofL S L]), fr ++ [⟨((y + 1 : Nat) : Int), ((S.m.getD y default).length : Nat)⟩], S.md ++ [⟨((y + 1 : Nat) : Int), ((S.m.getD y default).length : Nat)⟩]⟩ := by
  unfold yay
  rw [hi1, hyy, hfe]
 rw [hst]
 refine .seq (.seq h4 (.cond (b := true) rfl (.after (kp [0, 4, 5, 6, 7]) .skip))) (.seq (.block (ex := .normal) (.seq h6 (.seq h7 (.seq h89 (.seq hT2 (.seq hP2 (.seq h21 (.seq ?_ (.seq h23 h24)))))))) (.inr ⟨by simp, rfl⟩)) h5)
 exact .weak (kp [4, 9, 0, 5, 6, 7, 8, 14]) (.after (kp [0, 4, 5, 6, 7, 14]) h22)
end
def S0 : OfS := ⟨List.replicate 6 [], [], []⟩
theorem ofOk0 : OfOk S0 0 := ⟨rfl, fun r hr => by rw [(List.mem_replicate.1 hr).2]; exact zly _, zly _, zly _⟩
def ofS (x : List Lx) : OfS := (x.take 60).foldl yay S0
theorem ysu : Try.f9.body = some (.seq (zqr Try.f9 0) (.seq (zqr Try.f9 1) (.seq (zqr Try.f9 2) (.seq (.seq (zqr Try.f9 3) (.block 0 (.loop (zqc Try.f9 0)))) (.seq (zqr Try.f9 25) .ret))))) := by kernel_rfl
theorem yld (l : List Lx) (n k : Nat) (h : k < l.length) (hn : k < n) : (l.take n).drop k = l.getD k default :: (l.take n).drop (k + 1) := by
 have h2 : k < (l.take n).length := by rw [zlh]; omega
 have e : (l.take n)[k]'h2 = l.getD k default := by
  rw [List.getElem_take, zld, zle h]; rfl
 rw [List.drop_eq_getElem_cons h2, e]
section
variable (c : Option Nat) (x : List Lx) (hx : x.length < 2 ^ 63) (hX : ∀ L ∈ x, OkX L)
include hx hX
theorem ylm : ∀ (j i : Nat) (S : OfS), i + j = min 60 x.length → OfOk S i → Rnd Try.prog (cxN 184 0) (zqc Try.f9 0) (j + 1) (uE c x S i) (.exit 0) [(4, tGW (((x.take 60).drop i).foldl yay S).m), (6, iow none (((x.take 60).drop i).foldl yay S).md)]
 | 0, i, S, h, _ => by
  rw [zln (by rw [zlh]; omega)]
  exact .exit (yvw c x hx S i (by omega)) (by simp)
 | j + 1, i, S, h, hS => by
  have h1 : i < x.length := by omega
  rw [yld x 60 i h1 (by omega), List.foldl_cons]
  have hL : OkX (x.getD i default) := hX _ (by rw [zld, zle h1]; exact zlu h1)
  exact .step (yr6 c x hx S i h1 (by omega) hS hL) (ylm j (i + 1) _ (by omega) (hS.step _))
theorem of_c : PureC Try.prog 9 [xsl c x] (.tup [tGW (ofS x).m, iow none (ofS x).md]) := by
 have hl := (ylm c x hx hX (min 60 x.length) 0 S0 (by omega) ofOk0).loop
 rw [List.drop_zero] at hl
 refine ycr ((base 184 0).ok zqb.1 zqb.2) Try.func9 rfl (by show 1 ≤ 184; omega) rfl ysu rfl (ex := .ret) (env' := [(2, .al 4 [] none), (3, .al 6 [] none), (4, tGW (ofS x).m), (6, iow none (ofS x).md)]) ?_ (by kernel_rfl)
 refine .seq (.after (kp [0]) (of0_0 c x)) (.seq (env1 := [(0, xsl c x), (4, tGW S0.m)]) (.less (.after (kp [0, 4]) (of1_0 c x)) (.cons ⟨rfl, rfl, Le.refl _⟩ (.cons ⟨rfl, rfl, ?_⟩ .nil))) (.seq (env1 := [(0, xsl c x), (4, tGW S0.m), (5, iow none []), (6, iow none [])]) (.less (.after (kp [0, 4, 5, 6]) (of2_0 c x S0.m)) (.cons ⟨rfl, rfl, Le.refl _⟩ (.cons ⟨rfl, rfl, Le.refl _⟩ (.cons ⟨rfl, rfl, Le.trans (Le.nilOwn 36) Le.cap⟩ (.cons ⟨rfl, rfl, Le.trans (Le.nilOwn 36) Le.cap⟩ .nil))))) (.seq (.seq (.after (kp [0, 4, 5, 6, 7]) (of3_0 c x S0.m [] [])) (.block (ex := .exit 0) hl (.inl ⟨rfl, rfl⟩))) (.seq (.after (kp [2, 3, 4, 6]) (ywq (ofS x).m (ofS x).md)) .ret))))
 refine Le.trans Le.cap ?_
 show Le Try.prog (.sl .own 37 none (List.replicate 6 zqw)) (.sl .own 37 none ((List.replicate 6 []).map gOW))
 rw [List.map_replicate]
 exact Le.ownRep rfl rfl (Le.trans (Le.nilOwn 45) Le.cap) _
end
structure MakeOk (t : List Rw) (o : List Idd) : Prop where
 sub : ∀ k p, o[k]? = some p → hasV t p.y p.n = true ∧ (∀ n', 0 ≤ n' → n' < p.n → (⟨p.y, n'⟩ : Idd) ∈ o.take k) ∧ ∀ q ∈ zqz (atV t p.y p.n), q ∈ o.take k
 all : ∀ y n, hasV t y n = true → (⟨y, n⟩ : Idd) ∈ o
theorem ye2 {m : List Int} {t : List Rw} : ∀ (k j : Nat), yce m t k j = none → ∀ i, j ≤ i → i < j + k → ydn m t i = false
 | 0, j, _, i, h1, h2 => by omega
 | k + 1, j, h, i, h1, h2 => by
  rw [yce] at h
  by_cases hc : ydn m t j = true
  ·rw [if_pos hc] at h; cases h
  ·rw [if_neg hc] at h
   by_cases e : i = j
   ·subst e; simpa using hc
   ·exact ye2 k (j + 1) h i (by omega) (by omega)
theorem yhm {t : List Rw} {o : List Idd} {m : List Int} (hO : MakeOk t o) (hM : OkM m t) (hl : t.length ≤ 6) (h : ya5 m t = none) : ∀ k p, p ∈ o.take k → p.n < gtM m p
 | 0, p, hp => by simp at hp
 | k + 1, p, hp => by
  have ih := yhm hO hM hl h k
  rw [List.take_add_one, List.mem_append] at hp
  rcases hp with hp | hp
  ·exact ih p hp
  ·cases hk : o[k]? with
   | none => rw [hk] at hp; simp at hp
   | some p' =>
    rw [hk] at hp
    have : p = p' := by simpa using hp
    subst this
    obtain ⟨h1, h2, h3⟩ := hO.sub k p hk
    obtain ⟨a, b, c, d⟩ := ye5 h1
    refine Classical.byContradiction fun hne => ?_
    have hi : (p.y - 1).toNat < t.length := by omega
    have hm0 := hM.le (p.y - 1).toNat hi
    have hg : gtM m p = m.getD (p.y - 1).toNat default := rfl
    have hn : p.n = gtM m p := by
     rcases Int.lt_or_le (gtM m p) p.n with hlt | hge
     ·have := ih ⟨p.y, gtM m p⟩ (h2 (gtM m p) (by rw [hg]; exact hm0.1) hlt)
      have e : gtM m ⟨p.y, gtM m p⟩ = gtM m p := rfl
      rw [e] at this
      exact absurd this (by show ¬ gtM m p < gtM m p; omega)
     ·omega
    have hc := ye2 t.length 0 h (p.y - 1).toNat (by omega) (by omega)
    have : ydn m t (p.y - 1).toNat = true := by
     unfold ydn
     rw [zlo]
     constructor
     ·rw [← hg, ← hn]
      have : p.n ≠ (((t.getD (p.y - 1).toNat default).l.length : Nat) : Int) := by omega
      simpa using this
     ·rw [← hg, ← hn]
      unfold ycu
      rw [zls]
      intro q hq
      exact zlb (ih q (h3 q hq))
    rw [this] at hc; cases hc
theorem yji {f : Nat → Nat} : ∀ n, (∀ j, j < n → f j = 0) → ((List.range n).map f).sum = 0
 | 0, _ => rfl
 | n + 1, h => by rw [List.range_succ, zlq, List.sum_append, yji n fun j hj => h j (by omega)]; simp [h n (by omega)]
theorem yl0 {t : List Rw} {o : List Idd} {m : List Int} (hO : MakeOk t o) (hM : OkM m t) (hl : t.length ≤ 6) (h : ya5 m t = none) : remV m t = 0 := by
 refine yji t.length fun i hi => ?_
 have hm0 := hM.le i hi
 rcases zlt ((t.getD i default).l.length - (m.getD i default).toNat) with h0 | h0
 ·exact h0
 ·exfalso
  have hh : hasV t ((i + 1 : Nat) : Int) (m.getD i default) = true := by
   unfold hasV
   have e : (((i + 1 : Nat) : Int) - 1).toNat = i := by omega
   rw [e]
   simp only [zlo, decide_eq_true_eq]
   omega
  have hin := hO.all _ _ hh
  have := yhm hO hM hl h o.length _ (by rw [List.take_length]; exact hin)
  have e : gtM m ⟨((i + 1 : Nat) : Int), m.getD i default⟩ = m.getD i default := by
   show m.getD (((i + 1 : Nat) : Int) - 1).toNat default = _
   rw [show (((i + 1 : Nat) : Int) - 1).toNat = i by omega]
  rw [e] at this
  exact absurd this (by show ¬ m.getD i default < m.getD i default; omega)
theorem yf8 {t : List Rw} (hL : OkL t) (hs : ∀ m, OkM m t → ya5 m t = none → remV m t = 0) : ∀ (f : Nat) (m : List Int), OkM m t → remV m t < f → (yf9 t f m).length = remV m t
 | 0, m, _, h => by omega
 | f + 1, m, hM, h => by
  rw [yf9]
  cases hl : ya5 m t with
  | none => rw [hs m hM hl]; rfl
  | some i =>
   have hr := yjp hL hM hl
   rw [List.length_cons, yf8 hL hs f (bump m i) (hM.bump hL hl) (by omega), hr]
theorem ynq {t : List Rw} {o : List Idd} (hL : OkL t) (hO : MakeOk t o) : (ybf t).length = cntV t := by
 unfold ybf
 rw [yf8 hL (fun m hM h => yl0 hO hM hL.len h) _ _ (okM0 t) (by rw [rem0]; omega), rem0]
def tb (m : List (List Lp)) : List Rw := m.map fun l => ⟨none, l⟩
theorem yfx (m : List (List Lp)) : (tb m).length = m.length := by simp [tb]
theorem ylv (m : List (List Lp)) (i : Nat) : ((tb m).getD i default).l = m.getD i default := by
 unfold tb
 simp only [zld, List.getElem?_map]
 cases m[i]? <;> rfl
theorem ycx (m : List (List Lp)) (y n : Int) : hasV (tb m) y n = true ↔ 1 ≤ y ∧ y ≤ m.length ∧ 0 ≤ n ∧ n < (m.getD (y - 1).toNat default).length := by
 unfold hasV
 rw [ylv, yfx]
 simp [zlo, and_assoc]
theorem yle (m : List (List Lp)) (y n : Int) : atV (tb m) y n = (m.getD (y - 1).toNat default).getD n.toNat default := by
 unfold atV; rw [ylv]
structure FineL (L : Lp) : Prop where
 b : L.b = 0 ∨ L.b = 1
 th : L.th.length ≤ 4
 pa : L.pa.length ≤ 5
 d : ∃ d : Int, (d = 0 ∨ d = 1) ∧ ∀ p ∈ L.pa, p.d = d
 ct : L.ct = none
 cp : L.cp = none
theorem FineL.pend {L : Lp} (h : FineL L) : ygu L.pa = true := by
 obtain ⟨d, hd, hp⟩ := h.d
 have hn : nf L.pa = L.pa := by
  refine nf_id (yyc L.pa.length L.pa rfl fun i hi => ?_)
  have h1 : L.pa.getD i default ∈ L.pa := by rw [zld, zle (by omega)]; exact zlu _
  have h2 : L.pa.getD (i + 1) default ∈ L.pa := by rw [zld, zle hi]; exact zlu _
  rw [Bool.eq_false_iff]
  intro hc
  have := (yur.1 hc).1
  have e := congrArg Ps.d this
  rw [hp _ h2] at e
  have e2 := hp _ h1
  generalize L.pa.getD i default = p at e e2
  have e3 : (if p.d == 1 then (0 : Int) else 1) = d := e
  rw [e2] at e3
  rcases hd with rfl | rfl <;> simp at e3
 unfold ygu
 rw [hn]
 simp only [decide_true, Bool.and_true, zlo, decide_eq_true_eq]
 refine ⟨by have := h.pa; omega, ?_⟩
 rw [zls]
 intro p hpp
 have := hp p hpp
 unfold dirB
 rcases hd with rfl | rfl <;> simp [this]
def thM (m : List (List Lp)) : List Idd := m.flatMap fun r => r.flatMap Lp.th
structure ValidS (S : OfS) : Prop where
 m6 : S.m.length = 6
 ok : MakeOk (tb S.m) S.md
 fr : ∀ p ∈ S.fr, p ∈ S.md
 nd : (S.fr ++ thM S.m).Nodup
 fine : ∀ r ∈ S.m, ∀ L ∈ r, FineL L
 nw : ∀ i, i < 6 → S.m.getD i default ≠ [] → ((S.m.getD i default).getD 0 default).w = true
 mdn : S.md.Nodup
theorem ygl : ∀ (ps : List Int) (fr th : List Idd), ((thF ps fr th).1 ++ (thF ps fr th).2).Perm (fr ++ th)
 | [], fr, th => List.Perm.refl _
 | p :: ps, fr, th => by
  rw [thF]
  split
  ·exact List.Perm.refl _
  ·rename_i h
   refine (ygl ps _ _).trans ?_
   have hn := Nat.mod_lt p.toNat (by omega : 0 < fr.length)
   generalize p.toNat % fr.length = n at hn
   have e : fr = fr.take n ++ fr.getD n default :: fr.drop (n + 1) := by
    conv => lhs; rw [← List.take_append_drop n fr]
    congr 1
    rw [List.drop_eq_getElem_cons hn, zld, zle hn]; rfl
   generalize fr.getD n default = q at *
   conv => rhs; rw [e]
   have h1 : (fr.take n ++ fr.drop (n + 1) ++ (th ++ [q])).Perm (q :: (fr.take n ++ fr.drop (n + 1) ++ th)) := by
    rw [← zlp]
    exact List.perm_append_singleton _ _
   refine h1.trans ?_
   have h2 : (fr.take n ++ q :: fr.drop (n + 1) ++ th).Perm (q :: (fr.take n ++ fr.drop (n + 1) ++ th)) := by
    have := (List.perm_middle (a := q) (l₁ := fr.take n) (l₂ := fr.drop (n + 1))).append_right th
    simp
   exact h2.symm
theorem yjh : ∀ (ps : List Int) (fr th : List Idd), (thF ps fr th).2.length ≤ th.length + ps.length
 | [], fr, th => by simp [thF]
 | p :: ps, fr, th => by
  rw [thF]
  split
  ·simp
  ·have := yjh ps (fr.take (p.toNat % fr.length) ++ fr.drop (p.toNat % fr.length + 1)) (th ++ [fr.getD (p.toNat % fr.length) default])
   rw [zlg] at this
   have e : [fr.getD (p.toNat % fr.length) default].length = 1 := rfl
   rw [List.length_cons]; omega
section
variable {S : OfS} {L : Lx} (hS : ValidS S) (hL : OkX L)
include hS
theorem ValidS.get (l : List Lp) (y0 : Nat) (hy : y0 < 6) (j : Nat) : (S.m.set y0 l).getD j default = if j = y0 then l else S.m.getD j default := by
 rw [zld, List.getElem?_set]
 have := hS.m6
 by_cases h : y0 = j
 ·subst h; rw [if_pos rfl, if_pos rfl, if_pos (by omega)]; rfl
 ·rw [if_neg h, if_neg (Ne.symm h), zld]
theorem ValidS.has_old {p : Idd} (h : p ∈ S.md) : hasV (tb S.m) p.y p.n = true := by
 obtain ⟨k, hk, e⟩ := List.mem_iff_getElem.1 h
 exact (hS.ok.sub k p (by rw [zle hk, e])).1
theorem ValidS.new (y0 : Nat) (hy : y0 < 6) : (⟨((y0 + 1 : Nat) : Int), ((S.m.getD y0 default).length : Nat)⟩ : Idd) ∉ S.md := by
 intro h
 have := (ycx _ _ _).1 (hS.has_old h)
 have e : ((((y0 + 1 : Nat) : Int) - 1).toNat) = y0 := by omega
 simp only [e] at this
 omega
theorem ValidS.ment {y n : Int} (h : hasV (tb S.m) y n = true) : ∀ q ∈ zqz (atV (tb S.m) y n), q ∈ S.md := by
 have hm := hS.ok.all y n h
 obtain ⟨k, hk, e⟩ := List.mem_iff_getElem.1 hm
 intro q hq
 exact List.mem_of_mem_take ((hS.ok.sub k ⟨y, n⟩ (by rw [zle hk, e])).2.2 q hq)
theorem ValidS.thM {p : Idd} (h : p ∈ thM S.m) : p ∈ S.md := by
 unfold Tst.thM at h
 obtain ⟨r, hr, h⟩ := List.mem_flatMap.1 h
 obtain ⟨K, hK, h⟩ := List.mem_flatMap.1 h
 obtain ⟨i, hi, rfl⟩ := List.mem_iff_getElem.1 hr
 obtain ⟨n, hn, rfl⟩ := List.mem_iff_getElem.1 hK
 have hg : S.m.getD i default = S.m[i] := by rw [zld, zle hi]; rfl
 have hh : hasV (tb S.m) ((i + 1 : Nat) : Int) (n : Nat) = true := by
  rw [ycx]
  have e : ((((i + 1 : Nat) : Int) - 1).toNat) = i := by omega
  rw [e, hg]; omega
 refine hS.ment hh p ?_
 rw [yle]
 have e : ((((i + 1 : Nat) : Int) - 1).toNat) = i := by omega
 rw [e, hg, zlf, zld, zle hn]
 exact List.mem_append.2 (.inl h)
theorem ysb (y0 : Nat) (hy : y0 < 6) (l : Lp) : (Tst.thM (S.m.set y0 (S.m.getD y0 default ++ [l]))).Perm (l.th ++ Tst.thM S.m) := by
 have hl : y0 < S.m.length := by rw [hS.m6]; exact hy
 have hg : S.m.getD y0 default = S.m[y0] := by rw [zld, zle hl]; rfl
 have e : S.m = S.m.take y0 ++ S.m[y0] :: S.m.drop (y0 + 1) := by
  conv => lhs; rw [← List.take_append_drop y0 S.m]
  rw [List.drop_eq_getElem_cons hl]
 unfold Tst.thM
 rw [List.set_eq_take_append_cons_drop, if_pos hl, hg]
 conv => rhs; rw [e]
 simp only [List.flatMap_append, List.flatMap_cons, List.flatMap_nil, List.append_nil]
 have : ∀ (A B C D : List Idd), (A ++ (B ++ C ++ D)).Perm (C ++ (A ++ (B ++ D))) := by
  intro A B C D
  have h1 : (A ++ (B ++ C ++ D)) = (A ++ B) ++ (C ++ D) := by simp
  have h2 : (C ++ (A ++ (B ++ D))) = C ++ ((A ++ B) ++ D) := by simp
  rw [h1, h2]
  have := List.perm_append_comm_assoc (A ++ B) C D
  exact this
 exact this _ _ _ _
end
section
variable {S : OfS} {L : Lx} (hS : ValidS S) (hL : OkX L)
include hS
theorem yto (y0 : Nat) (hy : y0 < 6) (l : Lp) (y n : Int) : hasV (tb (S.m.set y0 (S.m.getD y0 default ++ [l]))) y n = true ↔ hasV (tb S.m) y n = true ∨ (y = ((y0 + 1 : Nat) : Int) ∧ n = ((S.m.getD y0 default).length : Nat)) := by
 rw [ycx, ycx, hS.get _ y0 hy, zlx]
 have h6 := hS.m6
 by_cases h : (y - 1).toNat = y0
 ·rw [if_pos h, h, zlg]
  have : [l].length = 1 := rfl
  constructor
  ·rintro ⟨a, b, c, d⟩
   by_cases e : n = ((S.m.getD y0 default).length : Nat)
   ·exact .inr ⟨by omega, e⟩
   ·exact .inl ⟨a, b, c, by omega⟩
  ·rintro (⟨a, b, c, d⟩ | ⟨a, b⟩)
   ·exact ⟨a, b, c, by omega⟩
   ·exact ⟨by omega, by omega, by omega, by omega⟩
 ·rw [if_neg h]
  constructor
  ·exact .inl
  ·rintro (a | ⟨a, b⟩)
   ·exact a
   ·exfalso; apply h; omega
theorem at_old (y0 : Nat) (hy : y0 < 6) (l : Lp) {y n : Int} (h : hasV (tb S.m) y n = true) : atV (tb (S.m.set y0 (S.m.getD y0 default ++ [l]))) y n = atV (tb S.m) y n := by
 obtain ⟨a, b, c, d⟩ := (ycx _ _ _).1 h
 rw [yle, yle, hS.get _ y0 hy]
 by_cases h : (y - 1).toNat = y0
 ·rw [if_pos h, h]
  rw [h] at d
  generalize S.m.getD y0 default = row at *
  simp only [zld]
  rw [List.getElem?_append_left (by omega)]
 ·rw [if_neg h]
theorem at_new (y0 : Nat) (hy : y0 < 6) (l : Lp) : atV (tb (S.m.set y0 (S.m.getD y0 default ++ [l]))) ((y0 + 1 : Nat) : Int) ((S.m.getD y0 default).length : Nat) = l := by
 rw [yle, hS.get _ y0 hy, if_pos (by omega), zlf, zld, List.getElem?_append_right (zly _), Nat.sub_self]
 rfl
include hL
theorem yp2 : FineL (ofL S L) := by
 refine ⟨?_, ?_, ?_, ?_, rfl, rfl⟩
 ·have e : (ofL S L).b = if L.b then 1 else 0 := rfl
  rw [e]
  split
  ·exact .inr rfl
  ·exact .inl rfl
 ·have := yjh (L.th.take 4) S.fr []
  rw [zlh] at this
  show (thF (L.th.take 4) S.fr []).2.length ≤ 4
  simp at this
  omega
 ·show (if S.md.length = 0 then [] else (L.pa.take 5).map (psOf S.md L.y)).length ≤ 5
  split
  ·simp
  ·rw [zla, zlh]; omega
 ·refine ⟨Int.tmod (IntKind.wrap u8 (Int.tdiv L.y 6)) 2, ?_, ?_⟩
  ·have h0 := hL.y0
   have h1 := hL.y1
   obtain ⟨a, ha⟩ : ∃ a : Nat, L.y = a := ⟨L.y.toNat, by omega⟩
   rw [ha] at h1 ⊢
   have e : Int.tdiv (a : Int) 6 = ((a / 6 : Nat) : Int) := by rw [Int.tdiv_eq_ediv_of_nonneg (by omega)]; rfl
   rw [e, yhf (by omega) (by omega), Int.tmod_eq_emod_of_nonneg (by omega)]
   omega
  ·intro p hp
   have hp : p ∈ (if S.md.length = 0 then [] else (L.pa.take 5).map (psOf S.md L.y)) := hp
   split at hp
   ·simp at hp
   ·obtain ⟨q, _, rfl⟩ := List.mem_map.1 hp
    rfl
theorem ypl : ∀ q ∈ zqz (ofL S L), q ∈ S.md := by
 intro q hq
 rcases List.mem_append.1 hq with h | h
 ·have h : q ∈ (thF (L.th.take 4) S.fr []).2 := h
  have := (ygl (L.th.take 4) S.fr []).mem_iff.1 (List.mem_append.2 (.inr h))
  rw [List.append_nil] at this
  exact hS.fr q this
 ·obtain ⟨p, hp, rfl⟩ := List.mem_map.1 h
  have hp : p ∈ (if S.md.length = 0 then [] else (L.pa.take 5).map (psOf S.md L.y)) := hp
  split at hp
  ·simp at hp
  ·rename_i hne
   obtain ⟨z, _, rfl⟩ := List.mem_map.1 hp
   show (⟨(S.md.getD (z.toNat / 2 % S.md.length) default).y, (S.md.getD (z.toNat / 2 % S.md.length) default).n⟩ : Idd) ∈ S.md
   have hlt := Nat.mod_lt (z.toNat / 2) (by omega : 0 < S.md.length)
   generalize z.toNat / 2 % S.md.length = k at hlt
   show S.md.getD k default ∈ S.md
   rw [zld, zle hlt]
   exact zlu hlt
theorem ValidS.step : ValidS (yay S L) := by
 have hy : L.y.toNat % 6 < 6 := Nat.mod_lt _ (by omega)
 have hnew := hS.new (L.y.toNat % 6) hy
 have hm : ∀ q ∈ zqz (ofL S L), q ∈ S.md := ypl hS hL
 have hf := yp2 hS hL
 have hperm := ygl (L.th.take 4) S.fr []
 rw [List.append_nil] at hperm
 have hthm := ysb hS (L.y.toNat % 6) hy (ofL S L)
 have hhas := yto hS (L.y.toNat % 6) hy (ofL S L)
 have haold := fun y n h => at_old hS (L.y.toNat % 6) hy (ofL S L) (y := y) (n := n) h
 have hanew := at_new hS (L.y.toNat % 6) hy (ofL S L)
 have hget := hS.get (S.m.getD (L.y.toNat % 6) default ++ [ofL S L]) (L.y.toNat % 6) hy
 refine ⟨by show (List.set _ _ _).length = 6; rw [zlx]; exact hS.m6, ⟨?_, ?_⟩, ?_, ?_, ?_, ?_, ?_⟩
 ·intro k p hk
  have hk : (S.md ++ [ofI S L])[k]? = some p := hk
  show hasV (tb (S.m.set _ _)) p.y p.n = true ∧ (∀ n', 0 ≤ n' → n' < p.n → _ ∈ (S.md ++ [ofI S L]).take k) ∧ ∀ q ∈ zqz (atV (tb (S.m.set _ _)) p.y p.n), q ∈ (S.md ++ [ofI S L]).take k
  by_cases hlt : k < S.md.length
  ·rw [List.getElem?_append_left hlt] at hk
   obtain ⟨h1, h2, h3⟩ := hS.ok.sub k p hk
   rw [List.take_append_of_le_length (by omega), haold _ _ h1]
   exact ⟨(hhas _ _).2 (.inl h1), h2, h3⟩
  ·rw [List.getElem?_append_right (by omega)] at hk
   have hk0 : k = S.md.length := by
    rcases zlt (k - S.md.length) with h | h
    ·omega
    ·rw [List.getElem?_eq_none (by simp; omega)] at hk; cases hk
   subst hk0
   rw [Nat.sub_self] at hk
   injection hk with hk; subst hk
   rw [List.take_append_of_le_length (zly _), List.take_length]
   refine ⟨(hhas _ _).2 (.inr ⟨rfl, rfl⟩), ?_, ?_⟩
   ·intro n' h0 h1
    have h1 : n' < ((S.m.getD (L.y.toNat % 6) default).length : Nat) := h1
    refine hS.ok.all _ _ ((ycx _ _ _).2 ?_)
    have e : (((L.y.toNat % 6 + 1 : Nat) : Int) - 1).toNat = L.y.toNat % 6 := by omega
    have := hS.m6
    show 1 ≤ ((L.y.toNat % 6 + 1 : Nat) : Int) ∧ ((L.y.toNat % 6 + 1 : Nat) : Int) ≤ S.m.length ∧ 0 ≤ n' ∧ n' < (S.m.getD (((L.y.toNat % 6 + 1 : Nat) : Int) - 1).toNat default).length
    rw [e]
    exact ⟨by omega, by omega, h0, h1⟩
   ·have e : atV (tb (S.m.set (L.y.toNat % 6) (S.m.getD (L.y.toNat % 6) default ++ [ofL S L]))) (ofI S L).y (ofI S L).n = ofL S L := hanew
    rw [e]; exact hm
 ·intro y n h
  show _ ∈ S.md ++ [ofI S L]
  rcases (hhas y n).1 h with h | ⟨rfl, rfl⟩
  ·exact List.mem_append.2 (.inl (hS.ok.all _ _ h))
  ·exact List.mem_append.2 (.inr (by simp [ofI]))
 ·intro p hp
  show p ∈ S.md ++ [ofI S L]
  have hp : p ∈ (thF (L.th.take 4) S.fr []).1 ++ [ofI S L] := hp
  rcases List.mem_append.1 hp with h | h
  ·exact List.mem_append.2 (.inl (hS.fr p (hperm.mem_iff.1 (List.mem_append.2 (.inl h)))))
  ·exact List.mem_append.2 (.inr h)
 ·show ((thF (L.th.take 4) S.fr []).1 ++ [ofI S L] ++ Tst.thM (S.m.set _ _)).Nodup
  have h1 : ((thF (L.th.take 4) S.fr []).1 ++ [ofI S L] ++ Tst.thM (S.m.set (L.y.toNat % 6) (S.m.getD (L.y.toNat % 6) default ++ [ofL S L]))).Perm (ofI S L :: (S.fr ++ Tst.thM S.m)) := by
   refine ((List.Perm.refl _).append hthm).trans ?_
   have h2 : ((thF (L.th.take 4) S.fr []).1 ++ [ofI S L] ++ ((ofL S L).th ++ Tst.thM S.m)) = (thF (L.th.take 4) S.fr []).1 ++ ofI S L :: ((ofL S L).th ++ Tst.thM S.m) := by simp
   rw [h2]
   refine List.perm_middle.trans ?_
   refine List.Perm.cons _ ?_
   rw [← zlp]
   exact hperm.append_right _
  rw [h1.nodup_iff, List.nodup_cons]
  refine ⟨fun h => ?_, hS.nd⟩
  rcases List.mem_append.1 h with h | h
  ·exact hnew (hS.fr _ h)
  ·exact hnew (hS.thM h)
 ·intro r hr K hK
  rcases List.mem_or_eq_of_mem_set hr with hr | rfl
  ·exact hS.fine r hr K hK
  ·rcases List.mem_append.1 hK with h | h
   ·refine hS.fine (S.m.getD (L.y.toNat % 6) default) ?_ K h
    rw [zld, zle (by rw [hS.m6]; exact hy)]; exact zlu _
   ·rw [zlv] at h; subst h; exact hf
 ·intro i hi hne
  have hne : (S.m.set (L.y.toNat % 6) (S.m.getD (L.y.toNat % 6) default ++ [ofL S L])).getD i default ≠ [] := hne
  show (((S.m.set (L.y.toNat % 6) (S.m.getD (L.y.toNat % 6) default ++ [ofL S L])).getD i default).getD 0 default).w = true
  rw [hget] at hne ⊢
  by_cases h : i = L.y.toNat % 6
  ·rw [if_pos h]
   by_cases hr : S.m.getD (L.y.toNat % 6) default = []
   ·rw [hr]
    show (L.w || (S.m.getD (L.y.toNat % 6) default).length == 0) = true
    rw [hr]; simp
   ·have := hS.nw (L.y.toNat % 6) hy hr
    rw [zld, List.getElem?_append_left (List.length_pos_iff.2 hr), ← zld]
    exact this
  ·rw [if_neg h] at hne ⊢
   exact hS.nw i hi hne
 ·show (S.md ++ [ofI S L]).Nodup
  rw [List.nodup_append]
  refine ⟨hS.mdn, by simp, fun a ha b hb e => ?_⟩
  rw [zlv] at hb
  subst hb e
  exact hnew ha
end
theorem yvv : ValidS S0 := by
 refine ⟨rfl, ⟨fun k p h => by simp [S0] at h, fun y n h => ?_⟩, fun p h => by simp [S0] at h, by simp [S0, thM], ?_, ?_, by simp [S0]⟩
 ·exfalso
  obtain ⟨a, b, c, d⟩ := (ycx _ _ _).1 h
  have e : S0.m.getD (y - 1).toNat default = [] := by
   unfold S0
   rw [zld, List.getElem?_replicate]
   split <;> rfl
  rw [e] at d
  simp at d
  omega
 ·intro r hr K hK
  rw [(List.mem_replicate.1 hr).2] at hK; simp at hK
 ·intro i hi hne
  exfalso; apply hne
  unfold S0
  rw [zld, List.getElem?_replicate]
  split <;> rfl
theorem yfv : ∀ (l : List Lx) (S : OfS), ValidS S → (∀ L ∈ l, OkX L) → ValidS (l.foldl yay S)
 | [], S, h, _ => h
 | L :: l, S, h, hX => yfv l _ (h.step (hX L (by simp))) fun K hK => hX K (by simp [hK])
theorem yos (x : List Lx) (hX : ∀ L ∈ x, OkX L) : ValidS (ofS x) := yfv _ _ yvv fun L hL => hX L (List.mem_of_mem_take hL)
theorem ysi {i : Nat} {R : List Lp} {x : Idd × Lp} (h : x ∈ rowL i R) : ∃ n : Nat, n < R.length ∧ x.1 = ⟨((i + 1 : Nat) : Int), (n : Int)⟩ ∧ x.2 = R.getD n default := by
 unfold rowL at h
 obtain ⟨q, hq, rfl⟩ := List.mem_map.1 h
 have h1 := List.mem_zipIdx hq
 refine ⟨q.2, by have := h1.2.1; omega, rfl, ?_⟩
 show q.1 = _
 have := h1.2.2
 rw [this, zld, zle (by have := h1.2.1; omega)]
 simp
theorem ygf : ∀ (t : List Rw) (i : Nat) (x : Idd × Lp), x ∈ yan i t → ∃ j n : Nat, j < t.length ∧ n < (t.getD j default).l.length ∧ x.1 = ⟨((i + j + 1 : Nat) : Int), (n : Int)⟩ ∧ x.2 = (t.getD j default).l.getD n default
 | [], i, x, h => by simp [yan] at h
 | r :: t, i, x, h => by
  rw [yan, List.mem_append] at h
  rcases h with h | h
  ·obtain ⟨n, h1, h2, h3⟩ := ysi h
   exact ⟨0, n, by simp, h1, h2, h3⟩
  ·obtain ⟨j, n, h1, h2, h3, h4⟩ := ygf t (i + 1) x h
   refine ⟨j + 1, n, by rw [List.length_cons]; omega, h2, ?_, h4⟩
   rw [h3, show i + 1 + j + 1 = i + (j + 1) + 1 by omega]
theorem yo0 (i : Nat) (R : List Lp) : thA (rowL i R) = R.flatMap Lp.th := by
 unfold thA rowL
 rw [List.flatMap_map]
 show List.flatMap (fun q : Lp × Nat => q.1.th) R.zipIdx = _
 have : ∀ (R : List Lp) (k : Nat), List.flatMap (fun q : Lp × Nat => q.1.th) (R.zipIdx k) = R.flatMap Lp.th := by
  intro R
  induction R with
  | nil => intro k; rfl
  | cons a R ih => intro k; rw [List.zipIdx_cons, List.flatMap_cons, List.flatMap_cons, ih]
 exact this R 0
theorem yep : ∀ (t : List Rw) (i : Nat), thA (yan i t) = t.flatMap fun r => r.l.flatMap Lp.th
 | [], i => rfl
 | r :: t, i => by rw [yan, yio, yo0, yep t (i + 1), List.flatMap_cons]
theorem ypn {l : List Lp} {n : Nat} (h : n < l.length) : l.getD n default ∈ l := by rw [zld, zle h]; exact zlu _
section
variable {S : OfS} (hS : ValidS S)
include hS
theorem ValidS.take : (tb S.m).take 255 = tb S.m := zlm (by rw [yfx, hS.m6]; omega)
theorem ValidS.tw : twV (tb S.m) = false := by
 unfold twV allT
 rw [hS.take, yep]
 have e : ((tb S.m).flatMap fun r => r.l.flatMap Lp.th) = Tst.thM S.m := by
  unfold tb Tst.thM
  rw [List.flatMap_map]
 rw [e, zlb (List.nodup_append.1 hS.nd).2.1]
 rfl
theorem ValidS.ck : ckT (tb S.m) = true := by
 unfold ckT allT
 rw [hS.take, zls]
 intro x hx
 obtain ⟨j, n, h1, h2, h3, h4⟩ := ygf _ 0 x hx
 rw [yfx, hS.m6] at h1
 rw [ylv] at h2 h4
 have hmem : S.m.getD j default ∈ S.m := by rw [zld, zle (by rw [hS.m6]; exact h1)]; exact zlu _
 have hL : x.2 ∈ S.m.getD j default := by rw [h4]; exact ypn h2
 have hf := hS.fine _ hmem _ hL
 have e0 : 0 + j + 1 = j + 1 := by omega
 rw [e0] at h3
 have e1 : (((j + 1 : Nat) : Int) - 1).toNat = j := by omega
 have hh : hasV (tb S.m) ((j + 1 : Nat) : Int) (n : Int) = true := by
  rw [ycx, e1, hS.m6]; omega
 have hat : atV (tb S.m) ((j + 1 : Nat) : Int) (n : Int) = x.2 := by rw [yle, e1, zlf, h4]
 unfold arV yag
 simp only [zlo]
 refine ⟨⟨⟨⟨?_, ?_⟩, hf.pend⟩, ?_⟩, ?_⟩
 ·rcases hf.b with h | h <;> simp [h]
 ·exact zlb hf.th
 ·rw [zls]
  intro p hp
  rw [← hat] at hp
  exact hS.has_old (hS.ment hh p hp)
 ·rw [h3]
  by_cases hn : n = 0
  ·subst hn
   have := hS.nw j h1 (by intro e; rw [e] at h2; simp at h2)
   rw [← h4] at this
   simp [this]
  ·have : ((n : Int) != 0) = true := by simpa using hn
   show ((n : Int) != 0 || x.2.w) = true
   rw [this]; rfl
theorem ValidS.okT : OkT (tb S.m) := by
 intro r hr L hL
 unfold tb at hr
 obtain ⟨l, hl, rfl⟩ := List.mem_map.1 hr
 have hf := hS.fine l hl L hL
 refine ⟨?_, by have := hf.th; omega, by have := hf.pa; omega⟩
 intro p hp
 obtain ⟨i, hi, rfl⟩ := List.mem_iff_getElem.1 hl
 obtain ⟨n, hn, rfl⟩ := List.mem_iff_getElem.1 hL
 have hg : S.m.getD i default = S.m[i] := by rw [zld, zle hi]; rfl
 have e1 : (((i + 1 : Nat) : Int) - 1).toNat = i := by omega
 have hn' : n < S.m[i].length := hn
 have hh : hasV (tb S.m) ((i + 1 : Nat) : Int) (n : Int) = true := by
  rw [ycx, e1, hg]; omega
 have hat : atV (tb S.m) ((i + 1 : Nat) : Int) (n : Int) = S.m[i][n] := by
  rw [yle, e1, zlf, hg, zld, zle hn']; rfl
 have h3 : p ∈ zqz (atV (tb S.m) ((i + 1 : Nat) : Int) (n : Int)) := by rw [hat]; exact hp
 have := (ycx _ _ _).1 (hS.has_old (hS.ment hh p h3))
 have := hS.m6
 omega
theorem ValidS.okL (hr : ∀ r ∈ S.m, r.length < 2 ^ 60) : OkL (tb S.m) := ymt (by rw [yfx, hS.m6]; omega) (fun r h => by
 unfold tb at h
 obtain ⟨l, hl, rfl⟩ := List.mem_map.1 h
 exact hr l hl) hS.okT hS.ck
theorem ValidS.check (hr : ∀ r ∈ S.m, r.length < 2 ^ 60) (hc : cntV (tb S.m) ≤ 2048) : chV (tb S.m) = 0 := by
 unfold chV yau
 rw [yfx, hS.m6, hS.tw, hS.ck, ynq (hS.okL hr) hS.ok]
 rw [if_neg (by omega), if_neg (by omega), if_neg (by simp), if_neg (by simp), if_neg (by omega)]
end
set_option maxHeartbeats 0
theorem ytr {d : List Int} {i : Nat} (h : i < d.length) : List.getD (d.map itI) i .bad = itI (List.getD d i default) := by simp [zld, h]
section
variable (L : Lp) (d : List Int) (hd : d.length = 7) (ht : L.th.length < 2 ^ 60) (hp : L.pa.length < 2 ^ 60)
include hd ht
omit ht
include hp
end
def HOf (c : Option Nat) (x : List Lx) (m : List (List Lp)) (md : List Idd) : Prop := PureC Try.prog 9 [xsl c x] (.tup [tGW m, iow none md])
def HOr (t : List Rw) (l : List Idd) : Prop := PureC Try.prog 10 [tsl none t] (.tup [iow (some l.length) l, it 0])
def HCn (t : List Rw) (n : Int) : Prop := PureC Try.prog 12 [tsl none t] (it n)
theorem uHCn {t : List Rw} {n : Int} (h : HCn t n) : PureC Try.prog 12 [tsl none t] (it n) := h
theorem yxy (t : List Rw) (l : List Idd) (d : List Int) (i y : Int) (hd : d.length = 7) (g0 : decide (0 ≤ y ∧ y < ((7 : Nat) : Int) ∧ (0 : Nat) < (1 : Nat)) = true) (g1 : decide ((0 : Nat) = (0 : Nat) ∧ y.toNat * (1 : Nat) < (d.map itI).length) = true) (g2 : (d.map itI).getD (y.toNat * (1 : Nat)) AV.bad = itI (d.getD (y.toNat * (1 : Nat)) default)) : Tri Try.prog (cxN 100 0) (zqr Try.f3 13) ([(3, tsl none t), (5, isl (some l.length) l), (7, .box (d.map itI)), (8, it i), (9, bb false), (10, it y)]) .normal ([(3, tsl none t), (5, isl (some (l.length)) l), (7, AV.box (List.map itI d)), (8, it i), (9, bb false), (10, it y), (11, AV.box [ub (u8.wrap y), it (d.getD (y.toNat * (1 : Nat)) default)])]) :=
 ev h3 [.c, .c, .c, .b true, .c, .b true, .r (itI (d.getD (y.toNat * (1 : Nat)) default)), .c, .c, .c, .c] (allp g0 (allp g1 (allp g2 zqa)))
theorem yv9 {env : Env} (h : ∀ p ∈ env, zqf p.2 = none) (r : Nat) : topOnly r env := by
 intro t y hl hy
 have : ∃ p ∈ env, p.2 = y := by
  clear hy
  induction env with
  | nil => cases hl
  | cons p env ih =>
   obtain ⟨s, z⟩ := p
   unfold Lf.lk at hl
   split at hl
   ·injection hl with hl; exact ⟨(s, z), List.mem_cons_self, hl⟩
   ·obtain ⟨q, hq, e⟩ := ih (fun q hq => h q (by simp [hq])) hl
    exact ⟨q, by simp [hq], e⟩
 obtain ⟨p, hp, rfl⟩ := this
 rw [h p hp] at hy; cases hy
theorem OpsR.grabAt {P : Program} {cx : Cx} {ops : Array Oper} {env : Env} {r : Nat} {p : Path} {xr : AV} {e : TypeId} {cap : Option Nat} {xs : List AV} (hr : lk env r = some xr) (hrt : zqu xr = true) (hg : getC xr p = some (.sl .own e cap xs)) (htop : topOnly r env) : OpsR P cx ops [] env (· = (r, setC xr p (share (.sl .own e cap xs))) :: env) := by
 intro ρ F B0 w0 S0 ds a w Q rest hag hQ
 obtain ⟨hd, hN, n, S, Os, hn, hgr, hst⟩ := hag
 obtain ⟨n', S', Os', vr, u, m, hn', hst', hS, _, _, _, _, _, hS'⟩ := hst.shareAt (p := p) hr hrt hg (.inr htop)
 refine hQ _ rfl a w ⟨hd, hN, n', S', Os', by omega, ⟨fun b hb => hS b (hgr.1 b hb), fun b hb => ?_⟩, hst'⟩
 rcases hS' b hb with h | h
 ·exact hgr.2 b h
 ·exact .inr (hst.lt r b h).1
theorem Le.viewS {P : Program} {e : TypeId} {cap : Option Nat} {xs : List AV} : Le P (.sl .fresh e cap xs) (view (.sl .fresh e cap xs)) := by
 intro B0 w S n v O hr
 obtain ⟨n, rfl⟩ := hr.pos
 have hz : O = fun _ => 0 := by
  obtain ⟨A, k, hv, hk, hm, hc, hu, hz, hx⟩ := hr
  exact funext hz
 subst hz
 exact Rv.remode (fun _ => .any) (fun m => by simp) (fun m h => by simp at h) (fun b h => h) (n + 1) 12 v _ _ (fun b hb => by simp at hb) hr
theorem yop (c : Option Nat) (x : List Lx) : view (xsl c x) = xsl c x := by
 show AV.sl .any 67 c ((x.map Lx.enc).map (mapE (remode (fun _ => .any) 11))) = _
 rw [List.map_map]
 congr 1
 refine List.map_congr_left fun L _ => ?_
 show AV.agg [ub L.y, bb L.b, bb L.w, .sl .any 5 L.ct ((L.th.map ubE).map (mapE (remode (fun _ => .any) 10))), .sl .any 5 L.cp ((L.pa.map ubE).map (mapE (remode (fun _ => .any) 10)))] = Lx.enc L
 rw [List.map_map, List.map_map]; rfl
abbrev tSh (m : List (List Lp)) : AV := share (tGW m)
theorem yoq (m : List (List Lp)) (h : ∀ r ∈ m, ∀ L ∈ r, L.ct = none ∧ L.cp = none) : view (tSh m) = tsl none (tb m) := by
 show AV.sl .any 37 none (((m.map gOW).map (mapE (remode zqx 11))).map (mapE (remode (fun _ => .any) 11))) = .sl .any 37 none ((tb m).map Rw.enc)
 unfold tb
 rw [List.map_map, List.map_map, List.map_map]
 congr 1
 refine List.map_congr_left fun l hl => ?_
 show AV.sl .any 45 none (((l.map Lp.encG).map (mapE (remode zqx 10))).map (mapE (remode (fun _ => .any) 10))) = .sl .any 45 none (l.map Lp.enc)
 rw [List.map_map, List.map_map]
 congr 1
 refine List.map_congr_left fun K hK => ?_
 obtain ⟨h1, h2⟩ := h l hl K hK
 show AV.agg [ub K.b, bb K.w, .sl .any 36 none (((K.th.map Idd.enc).map (mapE (remode zqx 9))).map (mapE (remode (fun _ => .any) 9))), .sl .any 56 none (((K.pa.map Ps.enc).map (mapE (remode zqx 9))).map (mapE (remode (fun _ => .any) 9)))] = AV.agg [ub K.b, bb K.w, isl K.ct K.th, sl K.cp K.pa]
 rw [List.map_map, List.map_map, List.map_map, List.map_map, h1, h2]; rfl
section
variable (c : Option Nat) (x : List Lx) (m : List (List Lp)) (md : List Idd) (h : HOf c x m md)
include h
omit h in
theorem yl5 (md : List Idd) : share (iow none md) = .sl .fresh 36 none (md.map Idd.enc) := by
 show AV.sl .fresh 36 none ((md.map Idd.enc).map (mapE (remode zqx 11))) = _
 rw [List.map_map]; rfl
end
section
variable (t : List Rw) (md l : List Idd) (h : HOr t l)
include h
end
section
variable (m : List Int) (t : List Rw)
variable (l : List Idd) (i : Nat) (hL : OkL t) (hM : OkM m t) (h6 : t.length = 6)
abbrev loE (d : List Int) (i : Nat) : Env := [(3, tsl none t), (5, isl (some l.length) l), (7, .box (d.map itI)), (8, it i)]
include hL hM h6
end
section
variable (m : List Int) (t : List Rw) (l : List Idd) (i : Nat) (hL : OkL t) (hM : OkM m t) (h6 : t.length = 6)
include hM in
theorem lo13t (j : Nat) (hj : j < 6) : Tri Try.prog (cxN 100 0) (zqr Try.f3 13) (loE t l (0 :: m) i ++ [(9, bb false), (10, it (j + 1 : Nat))]) .normal (loE t l (0 :: m) i ++ [(9, bb false), (10, it (j + 1 : Nat)), (11, .box [ub (j + 1 : Nat), it (m.getD j default)])]) := by
 have hd : (0 :: m).length = 7 := by rw [List.length_cons, hM.len]
 have hy : ((j + 1 : Nat) : Int) < 7 := by omega
 have h := yxy t l (0 :: m) i ((j + 1 : Nat) : Int) hd (zlb ⟨by omega, hy, by decide⟩) (zlb ⟨rfl, by rw [zla, hd]; show _ * 1 < 7; omega⟩) (ytr (by rw [hd]; omega))
 rw [yhf (by omega) (by omega), show Int.toNat ((j + 1 : Nat) : Int) * 1 = j + 1 by omega, List.getD_cons_succ] at h
 exact h
include hL hM h6
end
section
variable (m : List Int) (t : List Rw) (l : List Idd) (i : Nat) (hL : OkL t) (hM : OkM m t) (h6 : t.length = 6)
include hL hM h6
end
theorem yjz {α : Type} : ∀ (m : List (List α)) (k : Nat) (r : α), k < m.length → ((m.set k (m.getD k default ++ [r])).map List.length).sum = (m.map List.length).sum + 1
 | [], k, r, h => by simp at h
 | a :: m, 0, r, h => by simp; omega
 | a :: m, k + 1, r, h => by
  have := yjz m k r (by simpa using h)
  simp only [List.set_cons_succ, List.map_cons, List.sum_cons, List.getD_cons_succ]
  omega
theorem yrq (m : List (List Lp)) : cntV (tb m) = (m.map List.length).sum := by
 unfold cntV tb
 rw [List.map_map]; rfl
theorem ykf : ∀ (x : List Lx) (S : OfS), S.m.length = 6 → (S.m.map List.length).sum = S.md.length → ((x.foldl yay S).m.map List.length).sum = (x.foldl yay S).md.length ∧ (x.foldl yay S).md.length = S.md.length + x.length
 | [], S, h6, h => ⟨h, rfl⟩
 | L :: x, S, h6, h => by
  have h1 : (yay S L).m.length = 6 := by unfold yay; rw [zlx]; exact h6
  have h2 : (yay S L).md.length = S.md.length + 1 := by unfold yay; rw [zlg]; rfl
  have h3 : ((yay S L).m.map List.length).sum = (yay S L).md.length := by
   rw [h2, ← h]; exact yjz S.m _ _ (by rw [h6]; exact Nat.mod_lt _ (by omega))
  obtain ⟨k1, k2⟩ := ykf x (yay S L) h1 h3
  exact ⟨k1, by rw [List.foldl_cons, k2, h2, List.length_cons]; omega⟩
theorem yzp (x : List Lx) : cntV (tb (ofS x).m) = (ofS x).md.length ∧ (ofS x).md.length ≤ 60 := by
 obtain ⟨h1, h2⟩ := ykf (x.take 60) S0 rfl rfl
 refine ⟨by rw [yrq]; exact h1, ?_⟩
 show (List.foldl yay S0 (x.take 60)).md.length ≤ 60
 rw [h2, zlh]
 show 0 + _ ≤ 60
 omega
theorem ymy {α : Type} : ∀ {m : List (List α)} {r : List α}, r ∈ m → r.length ≤ (m.map List.length).sum
 | a :: m, r, h => by
  rw [List.map_cons, List.sum_cons]
  rcases List.mem_cons.1 h with rfl | h
  ·omega
  ·have := ymy h; omega
theorem ysh {m : List (List Lp)} {r : List Lp} (h : r ∈ m) : r.length ≤ cntV (tb m) := by
 rw [yrq]; exact ymy h
end Tst
end

section
namespace Go.Lf
open Go Go.RowKit
section
variable {P : Program} {cx : Cx}
theorem Rv.posN {B0 : Nat} {w : World} {S : Nat → Prop} {n : Nat} {v : Value} {x : AV} {O : Own} (h : Rv P B0 w S n v x O) : 0 < n := by
 obtain ⟨m, rfl⟩ := h.pos; exact Nat.succ_pos m
theorem OpsR.split {ops : Array Oper} {env : Env} {y : Oper} {s d : Nat} {xs xs' z : AV} (ks : List (Nat × Wk)) (hg : y.guard = none) (hnd : ∀ c, y.op ≠ .defer c) (hd : y.dst = some d) (hdN : cx.lo ≤ d ∧ d < cx.N) (hds : d ≠ s)
  (hs : lk (keepE ks env) s = some xs) (hxs : zqf xs = none) (hnl : ∀ t y', lk (keepE ks env) t = some y' → zqf y' ≠ some s ∧ zqf y' ≠ some d) (hnl' : zqf xs' ≠ some d)
  (hrun : ∀ (act : Act) (w : World) (B0 : Nat) (S : Nat → Prop) (n : Nat) (v : Value) (O : Own), act.tmps[s]? = some v → Rv P B0 w S n v xs O → ∃ u Oz Oq m, (execOp act.eval y).run P w = .ok (.value u) w ∧ Rv P B0 w S m u z Oz ∧ Rv P B0 w S m v xs' Oq ∧ ∀ b, Oz b + Oq b ≤ O b) :
  OpsR P cx ops [y] env (· = (d, z) :: (s, xs') :: keepE ks env) := by
 refine .one hg fun ρ F B0 w0 S0 ds act w Q K hag hK => ?_
 obtain ⟨hd', hN, n, S, Os, hn, hgr, hst⟩ := hag.keep (ks := ks)
 obtain ⟨v, hv, hsv⟩ := hst.rel s _ hs
 have hrv := hsv.rv hxs
 obtain ⟨u, Oz, Oq, m, hex, hz, hq, hO⟩ := hrun act w B0 S n v (Os s) hv hrv
 have hls : s < act.tmps.size := (zlj.1 hv).1
 have hld : d < act.tmps.size := by rw [hN.1]; exact hdN.2
 have k1 := hst.set (Nat.le_max_left n m) s (v := v) (x := xs') (O := Oq) (S' := S) (w' := w) ⟨hls, .inr hv⟩ (Below.refl _ _) (fun b hb => hb) hst.sLt (fun b t _ hb => hst.excl b t hb) (fun b hb => by have := hst.excl b s hb; have := hO b; omega) (fun _ _ => rfl) (fun b => by have := hst.one s b; have := hO b; omega) (fun b t ht hb => by
  have := hO b
  rcases hst.dis t s b ht with h | h
  ·exact h
  ·omega) (.inr (hq.le (Nat.le_max_right n m))) (fun t y' u' _ hy hyr _ _ => absurd hyr (hnl t y' hy).1)
 rw [ya7 act.tmps s _ hv] at k1
 have k2 := k1.set (zly _) d (v := u) (x := z) (O := Oz) (S' := S) (w' := w) ⟨hld, .inl (by rw [hN.2]; exact hdN.1)⟩ (Below.refl _ _) (fun b hb => hb) hst.sLt (fun b t _ hb => k1.excl b t hb) (fun b hb => by have := hst.excl b s hb; have := hO b; omega) (fun _ _ => rfl) (fun b => by have := hst.one s b; have := hO b; omega) (fun b t ht hb => by
  have := hO b
  have h1 := hst.one s b
  by_cases e : t = s
  ·rw [if_pos e]; omega
  ·rw [if_neg e]
   rcases hst.dis t s b e with h | h
   ·exact h
   ·omega) (.inr (hz.le (Nat.le_max_right n m))) (fun t y' u' _ hy hyr _ _ => by
  exfalso
  simp only [lk] at hy
  split at hy
  ·injection hy with hy; subst hy; exact hnl' hyr
  ·exact (hnl t y' hy).2 hyr)
 refine opIn hnd (yby hex ?_)
 rw [hd]
 exact hK _ rfl _ _ ⟨hd', by simpa [Act.put] using hN, max n m, S, _, by omega, hgr, k2⟩
theorem yoc {B0 : Nat} {w : World} {S : Nat → Prop} {n : Nat} (v : Value) (hn : 0 < n) : Rv P B0 w S n v .bad (fun _ => 0) := by
 obtain ⟨m, rfl⟩ : ∃ m, n = m + 1 := ⟨n - 1, by omega⟩
 exact fun _ => rfl
theorem OpsR.moveA {ops : Array Oper} {env : Env} {y : Oper} {s d : Nat} {xs : AV} (ks : List (Nat × Wk)) (hg : y.guard = none) (ho : y.op = .move (.tmp s)) (hd : y.dst = some d) (hdN : cx.lo ≤ d ∧ d < cx.N) (hds : d ≠ s)
  (hs : lk (keepE ks env) s = some xs) (hxs : zqf xs = none) (hnl : ∀ t y', lk (keepE ks env) t = some y' → zqf y' ≠ some s ∧ zqf y' ≠ some d) :
  OpsR P cx ops [y] env (· = (d, xs) :: (s, .bad) :: keepE ks env) :=
 .split ks hg (by intro c; rw [ho]; intro h; cases h) hd hdN hds hs hxs hnl (by simp [zqf]) fun act w B0 S n v O hv hr => ⟨v, O, fun _ => 0, n, by
  have e : act.eval (.tmp s) = v := by simp [Act.eval, zll, hv]
  simp [execOp, ho, e], hr, yoc v hr.posN, fun b => by simp⟩
theorem OpsR.moveX {ops : Array Oper} {env : Env} {y : Oper} {s d : Nat} {z x1 : AV} (ks : List (Nat × Wk)) (hg : y.guard = none) (ho : y.op = .extract (.tmp s) 0) (hd : y.dst = some d) (hdN : cx.lo ≤ d ∧ d < cx.N) (hds : d ≠ s)
  (hs : lk (keepE ks env) s = some (.tup [z, x1])) (hnl : ∀ t y', lk (keepE ks env) t = some y' → zqf y' ≠ some s ∧ zqf y' ≠ some d) :
  OpsR P cx ops [y] env (· = (d, z) :: (s, .tup [.bad, x1]) :: keepE ks env) :=
 .split ks hg (by intro c; rw [ho]; intro h; cases h) hd hdN hds hs rfl hnl (by simp [zqf]) fun act w B0 S n v O hv hr => by
  obtain ⟨m, rfl⟩ := hr.pos
  obtain ⟨vs, hvv, hrc⟩ := hr
  have e : act.eval (.tmp s) = v := by simp [Act.eval, zll, hv]
  have hl := hrc.length
  obtain ⟨v0, v1, hvs⟩ : ∃ v0 v1, vs.toList = [v0, v1] := by
   match vs.toList, hl with
   | [v0, v1], _ => exact ⟨v0, v1, rfl⟩
  have hvs' : vs = #[v0, v1] := by rw [← Array.toArray_toList (xs := vs), hvs]
  subst hvs'
  rcases hrc with _ | ⟨h0, hr1, hO⟩
  rename_i O0 O1
  have hm : 0 < m := h0.posN
  refine ⟨v0, O0, O1, m + 1, ?_, h0.le (Nat.le_succ m), ⟨#[v0, v1], hvv, ?_⟩, fun b => by have := hO b; omega⟩
  ·subst hvv
   simp [execOp, ho, e, Instr.extract]
  ·exact .cons (O1 := fun _ => 0) (O2 := O1) (yoc v0 hm) hr1 fun b => by simp
theorem OpsR.moveL (hcx : CxOk P cx) {ops : Array Oper} {env : Env} {y : Oper} {s d : Nat} {t : TypeId} {ti : TInfo} {cs : List AV} (ks : List (Nat × Wk)) (ht : tyF cx.T t = some ti) (hag : ti.agg = true) (hg : y.guard = none) (ho : y.op = .load t (.tmp s)) (hd : y.dst = some d) (hdN : cx.lo ≤ d ∧ d < cx.N) (hds : d ≠ s)
  (hs : lk (keepE ks env) s = some (.box cs)) (hl : cs.length = ti.zero.length) (hnl : ∀ t y', lk (keepE ks env) t = some y' → zqf y' ≠ some s ∧ zqf y' ≠ some d) :
  OpsR P cx ops [y] env (· = (d, .agg cs) :: (s, .bad) :: keepE ks env) :=
 .split ks hg (by intro c; rw [ho]; intro h; cases h) hd hdN hds hs rfl hnl (by simp [zqf]) fun act w B0 S n v O hv hr => by
  obtain ⟨m, rfl⟩ := hr.pos
  obtain ⟨g, C, T, O', rfl, hb, hg, hrc, hOO⟩ := hr
  have e : act.eval (.tmp s) = .pointer (some ⟨g, 0, none⟩) := by simp [Act.eval, zll, hv]
  have hCl : C.size = ti.zero.length := by rw [← zlr, hrc.length, hl]
  have hall : (C.toList.drop 0).take ti.zero.length = C.toList := by rw [List.drop_zero, ← hCl, ← zlr, List.take_length]
  have hld := (ybm (w := w) hcx ht (off := 0) hg (by omega)).1 hag
  rw [hall] at hld
  refine ⟨_, O', fun _ => 0, m + 1, ?_, ⟨C.toList.toArray, rfl, by rw [Array.toArray_toList]; exact hrc⟩, yoc _ (Nat.succ_pos m), fun b => by have := hOO b; show O' b + 0 ≤ O b; omega⟩
  rw [execOp, ho]
  simp only [e, Sem.run_bind, hld, Result.andThen_ok, Sem.run_pure]
theorem OpsR.moveS (hcx : CxOk P cx) {ops : Array Oper} {env : Env} {y : Oper} {s q : Nat} {t : TypeId} {ti : TInfo} {cs zs : List AV} (ks : List (Nat × Wk)) (ht : tyF cx.T t = some ti) (hpos : 0 < ti.zero.length) (hg : y.guard = none) (ho : y.op = .store t (.tmp q) (.tmp s)) (hd : y.dst = none) (hsq : q ≠ s)
  (hs : lk (keepE ks env) s = some (.agg cs)) (hq : lk (keepE ks env) q = some (.box zs)) (hl : cs.length = ti.zero.length) (h1 : ∀ x ∈ cs, One x) (h2 : ∀ x ∈ cs, zqt x = true ∨ ∃ e cap xs, x = .sl .own e cap xs) (hseg : seg (.box zs) 0 0 ti.zero.length = some zs) (hput : putSeg (.box zs) 0 0 cs = .box cs) (hfo : fo P (.box zs) 0 0 = 0)
  (hnl : ∀ t y', lk (keepE ks env) t = some y' → zqf y' ≠ some s ∧ zqf y' ≠ some q) :
  OpsR P cx ops [y] env (· = (q, .box cs) :: (s, .bad) :: keepE ks env) := by
 refine .one hg fun ρ F B0 w0 S0 ds act w Q K hag hK => ?_
 obtain ⟨hd', hN, n, S, Os, hn, hgr, hst⟩ := hag.keep (ks := ks)
 obtain ⟨v, hv, hsv⟩ := hst.rel s _ hs
 obtain ⟨vq, hvq, hsq'⟩ := hst.rel q _ hq
 have hrv := hsv.rv rfl
 have hrq := hsq'.rv rfl
 have k1 := St.bad' hst hn hs
 obtain ⟨m, rfl⟩ := hrv.pos
 obtain ⟨vs, rfl, hrc⟩ := hrv
 have hlkq : lk ((s, .bad) :: keepE ks env) q = some (.box zs) := by simp only [lk]; rw [if_neg (Ne.symm hsq)]; exact hq
 have htop : topOnly q ((s, .bad) :: keepE ks env) := by
  intro t y' hy hyr
  simp only [lk] at hy
  split at hy
  ·injection hy with hy; subst hy; cases hyr
  ·exact absurd hyr (hnl t y' hy).2
 obtain ⟨n2, g, C, T, vr, u, O2, hn2, hvr, hlv, hh, hgg, hsz, hvl, hst2⟩ := k1.write (p := []) hlkq rfl rfl rfl hseg hpos hl h1 (hrc.le (Nat.le_succ m)) (hst.one s) (fun b hb t => by
  by_cases e : t = s
  ·rw [if_pos e]
  ·rw [if_neg e]
   rcases hst.dis t s b e with h | h
   ·exact h
   ·omega) (fun b hb => hst.excl b s hb) (.inl htop)
 have e1 : act.eval (.tmp s) = .agg vs := by simp [Act.eval, zll, hv]
 have hu : u = vr := by
  have : LV P w vr (.box zs) [] = some vr := rfl
  rw [this] at hlv; injection hlv with h; exact h.symm
 have hvv : vr = vq := by rw [hvr] at hvq; injection hvq
 have e2 : act.eval (.tmp q) = vr := by simp [Act.eval, zll, hvr]
 have hone : ∀ v ∈ vs.toList, v.oneCell' = true := by
  intro v hv'
  obtain ⟨j, hj⟩ := List.getElem?_of_mem hv'
  have hjl : j < cs.length := by rw [← hrc.length]; exact (zlk.1 hj).1
  obtain ⟨v2, O3, g1, g2, _⟩ := hrc.get (zle hjl)
  rw [hj] at g1; injection g1 with g1; subst g1
  exact g2.oneCell (h2 _ (zlu hjl))
 obtain ⟨tj, z, dd, i1, _, _, i4, _⟩ := (hcx.ty t ti ht).ex
 rw [hfo] at hsz hst2
 have hst3 := run_storeCells_at P g 0 T vs.toList 0 C w hgg (by rw [hvl]; omega) hone
 simp only [Nat.add_zero, hvl] at hst3
 have hp : vr = .pointer (some ⟨g, 0, none⟩) := by
  rw [hu] at hh
  obtain ⟨g', C', T', O', e3, _, hg', _, _⟩ := hrq
  rw [← hvv] at e3
  subst e3
  have := hh.addr
  simp [yb7] at this
  rw [this]
 have hsz2 : (act.eval (.tmp s)).cells.size = ti.zero.length := by rw [e1]; show vs.size = _; rw [← zlr, hvl]
 have hcs : (act.eval (.tmp s)).cells = vs := by rw [e1]; rfl
 have hrun : (execOp act.eval y).run P w = .ok .skip (w.setRow g (C.toList.take 0 ++ vs.toList ++ C.toList.drop (0 + ti.zero.length)).toArray) := by
  rw [execOp, ho]
  rw [Nat.zero_add] at hst3 ⊢
  simp [Instr.storeAt, Instr.sureAddr, e2, hp, storeVar, sizeOf, typeInfo, i1, i4, hcs, hst3]
  rw [hcs] at hsz2; exact hsz2
 refine opIn (by intro c; rw [ho]; intro h; cases h) (ygg hrun ?_)
 rw [hd]
 have hset : setC (.box zs) [] (putSeg (.box zs) 0 0 cs) = .box cs := hput
 rw [hset] at hst2
 exact hK _ rfl _ _ ⟨hd', hN, n2, S, _, by omega, hgr, hst2⟩
end
end Go.Lf
end

section
open Go Go.Lf Go.Proofs
namespace Tst
set_option maxHeartbeats 0
theorem cp0_0 (l : Lp) : Tri Try.prog (cxN 12 0) (zqr Try.f29 0) ([(0, l.enc)]) .normal ([(1, AV.box [ub (Lp.b l), bb (Lp.w l), isl (Lp.ct l) (Lp.th l), sl (Lp.cp l) (Lp.pa l)]), (2, AV.box [ub 0, bb false, zqw, zqw])]) :=
 ev h29 [.c, .c] zqa
theorem cp1_0 (l : Lp) (h1 : l.th.length ≤ 4294967296) (h2 : l.pa.length ≤ 4294967296) : Tri Try.prog (cxN 12 0) (zqr Try.f29 1) ([(1, lpB l), (2, .box [ub 0, bb false, zqw, zqw])]) .normal ([(1, AV.box [ub (Lp.b l), bb (Lp.w l), iow (some ((Lp.th l).length)) (Lp.th l), AV.sl .own 56 (some ((Lp.pa l).length)) (List.map Ps.enc (Lp.pa l))]), (2, AV.box [ub 0, bb false, zqw, zqw])]) :=
 ev h29 [.c, .c, .c, .c, .r (isl (Lp.ct l) (Lp.th l)), .r (iow (some ((Lp.th l).length)) (Lp.th l)), .c, .c, .c, .c, .c, .c, .r (sl (Lp.cp l) (Lp.pa l)), .r (AV.sl .own 56 (some ((Lp.pa l).length)) (List.map Ps.enc (Lp.pa l))), .c, .c, .c, .c, .c, .c, .c, .c, .c, .c, .c, .c] (allp (zrb .any (Lp.ct l) (Lp.th l)) (allp (p := PureC Try.prog 41 [isl (Lp.ct l) (Lp.th l)] (iow (some ((Lp.th l).length)) (Lp.th l))) (by apply yrh<;>first|assumption|rfl|(simp at *<;>omega)) (allp (zra .any (Lp.cp l) (Lp.pa l)) (allp (p := PureC Try.prog 42 [sl (Lp.cp l) (Lp.pa l)] (AV.sl .own 56 (some ((Lp.pa l).length)) (List.map Ps.enc (Lp.pa l)))) (by apply yrg<;>first|assumption|rfl|(simp at *<;>omega)) zqa))))
noncomputable def ti45 : TInfo := (tyF T 45).get (by kernel_rfl)
theorem ht45 (n lo : Nat) : tyF (cxN n lo).T 45 = some ti45 := by kernel_rfl
abbrev loO (b : Int) (w : Bool) (th : List Idd) (pa : List Ps) : List AV := [ub b, bb w, iow (some th.length) th, ow (some pa.length) pa]
theorem ys9 (b : Int) (w : Bool) (th : List Idd) (pa : List Ps) : ∀ x ∈ loO b w th pa, One x := by
 intro x hx
 simp only [List.mem_cons, List.not_mem_nil, or_false] at hx
 rcases hx with rfl | rfl | rfl | rfl <;> rfl
theorem yxx (b : Int) (w : Bool) (th : List Idd) (pa : List Ps) : ∀ x ∈ loO b w th pa, zqt x = true ∨ ∃ e cap xs, x = .sl .own e cap xs := by
 intro x hx
 simp only [List.mem_cons, List.not_mem_nil, or_false] at hx
 rcases hx with rfl | rfl | rfl | rfl
 ·exact .inl rfl
 ·exact .inl rfl
 ·exact .inr ⟨_, _, _, rfl⟩
 ·exact .inr ⟨_, _, _, rfl⟩
theorem cp2_0 (b : Int) (w : Bool) (th : List Idd) (pa : List Ps) : Tri Try.prog (cxN 12 0) (.region 2 (zql Try.f29 2) false) [(1, .box (loO b w th pa)), (2, .box [ub 0, bb false, zqw, zqw])] .normal [(2, .box (loO b w th pa))] := by
 refine .after (kp [2]) (env' := (2, .box (loO b w th pa)) :: (11, .bad) :: keepE (kp [11, 2]) ((11, .agg (loO b w th pa)) :: (1, .bad) :: keepE (kp [1, 2]) [(1, .box (loO b w th pa)), (2, .box [ub 0, bb false, zqw, zqw])])) (Tri.ofR (.region (R := (· = (2, .box (loO b w th pa)) :: (11, .bad) :: keepE (kp [11, 2]) ((11, .agg (loO b w th pa)) :: (1, .bad) :: keepE (kp [1, 2]) [(1, .box (loO b w th pa)), (2, .box [ub 0, bb false, zqw, zqw])]))) ?_) fun e h => h)
 rw [show (zql Try.f29 2).toList = [(zql Try.f29 2).toList.getD 0 default] ++ [(zql Try.f29 2).toList.getD 1 default] by kernel_rfl]
 refine .seq (OpsR.moveL (s := 1) (d := 11) ((base 12 0).ok zqb.1 zqb.2) (kp [1, 2]) (ht45 12 0) (by kernel_rfl) (by kernel_rfl) (by kernel_rfl) (by kernel_rfl) (by decide) (by decide) rfl (by kernel_rfl) (fun t y' hy => ⟨noLf (env := [(1, .box (loO b w th pa)), (2, .box [ub 0, bb false, zqw, zqw])]) hy (by kernel_rfl), noLf (env := [(1, .box (loO b w th pa)), (2, .box [ub 0, bb false, zqw, zqw])]) hy (by kernel_rfl)⟩)) ?_
 rintro _ rfl
 exact OpsR.moveS (s := 11) (q := 2) ((base 12 0).ok zqb.1 zqb.2) (kp [11, 2]) (ht45 12 0) (Nat.lt_of_lt_of_eq (by decide : 0 < 4) (by kernel_rfl : 4 = ti45.zero.length)) (by kernel_rfl) (by kernel_rfl) (by kernel_rfl) (by decide) rfl rfl (by kernel_rfl) (ys9 b w th pa) (yxx b w th pa) (by kernel_rfl) rfl rfl (fun t y' hy => ⟨noLf (env := [(11, .agg (loO b w th pa)), (2, .box [ub 0, bb false, zqw, zqw])]) hy (by kernel_rfl), noLf (env := [(11, .agg (loO b w th pa)), (2, .box [ub 0, bb false, zqw, zqw])]) hy (by kernel_rfl)⟩)
theorem yuc : Try.f29.body = some (.seq (zqr Try.f29 0) (.seq (zqr Try.f29 1) (.seq (.region 2 (zql Try.f29 2) false) .ret))) := by kernel_rfl
theorem yqb (b : Int) (w : Bool) (ct cp : Option Nat) (th : List Idd) (pa : List Ps) (h1 : th.length ≤ 4294967296) (h2 : pa.length ≤ 4294967296) : PureC Try.prog 29 [.agg [ub b, bb w, isl ct th, sl cp pa]] (.agg (loO b w th pa)) :=
 ycr ((base 12 0).ok zqb.1 zqb.2) Try.func29 rfl (by show 1 ≤ 12; omega) rfl yuc rfl (ex := .ret) (env' := [(2, .box (loO b w th pa))]) (.seq (cp0_0 ⟨b, w, ct, th, cp, pa⟩) (.seq (cp1_0 ⟨b, w, ct, th, cp, pa⟩ h1 h2) (.seq (cp2_0 b w th pa) .ret))) (by kernel_rfl)
theorem lth_0 (t : List Rw) (y n : Int) (g0 : decide ((1 : Int) ≤ y) = true) (g1 : decide (i64.wrap y ≤ ((t.map Rw.enc).length : Int)) = true) (g2 : decide ((0 : Int) ≤ n) = true) (g3 : decide ((0 : Int) ≤ u8.wrap (y - (1 : Int)) ∧ u8.wrap (y - (1 : Int)) < ((t.map Rw.enc).length : Int)) = true) (g4 : (t.map Rw.enc).getD ((u8.wrap (y - (1 : Int))).toNat) AV.bad = Rw.enc (t.getD ((u8.wrap (y - (1 : Int))).toNat) default)) : PureC Try.prog 23 [tsl none t, idE y n]  (bb (decide (n < (↑(List.length (List.map Lp.enc (Rw.l (t.getD ((u8.wrap (y - (1 : Int))).toNat) default)))) : Int)))) :=
 zqj (H := h23) (n := 33) (ans := [.c, .c, .c, .c, .c, .c, .c, .c, .b true, .c, .b true, .c, .c, .c, .b true, .c, .b true, .c, .b true, .c, .b true, .c, .b true, .c, .c, .b true, .c, .b true, .c, .c, .c, .b true, .c, .b true, .c, .c, .b true, .c, .b true, .c, .c, .c, .b true, .c, .b true, .c, .b true, .c, .c, .c, .b true, .c, .b true, .b true, .r (Rw.enc (t.getD ((u8.wrap (y - (1 : Int))).toNat) default)), .c, .b true, .c, .b true, .c, .b true, .c, .b true, .c, .c]) (base 33 0) Try.func23 rfl (by simp) rfl (by kernel_rfl) (allp g0 (allp g0 (allp g0 (allp g0 (allp g0 (allp g0 (allp g0 (allp g1 (allp g1 (allp g1 (allp g1 (allp g2 (allp g2 (allp g2 (allp g2 (allp g2 (allp g2 (allp g2 (allp g3 (allp g4 (allp g2 (allp g2 (allp g2 (allp g2 zqa))))))))))))))))))))))))
theorem lth_1 (t : List Rw) (y n : Int) (g0 : decide ((1 : Int) ≤ y) = true) (g1 : decide (i64.wrap y ≤ ((t.map Rw.enc).length : Int)) = true) (g2 : decide ((0 : Int) ≤ n) = false) : PureC Try.prog 23 [tsl none t, idE y n]  (bb false) :=
 zqj (H := h23) (n := 33) (ans := [.c, .c, .c, .c, .c, .c, .c, .c, .b true, .c, .b true, .c, .c, .c, .b true, .c, .b true, .c, .b true, .c, .b true, .c, .b true, .c, .c, .b true, .c, .b true, .c, .c, .c, .b true, .c, .b true, .c, .c, .b false, .c, .b false, .c, .b false, .c, .b false, .c, .b false, .c, .b false, .c, .b false, .c, .b false, .c, .b false, .c, .b false, .c, .b false, .c, .c]) (base 33 0) Try.func23 rfl (by simp) rfl (by kernel_rfl) (allp g0 (allp g0 (allp g0 (allp g0 (allp g0 (allp g0 (allp g0 (allp g1 (allp g1 (allp g1 (allp g1 (allp g2 (allp g2 (allp g2 (allp g2 (allp g2 (allp g2 (allp g2 (allp g2 (allp g2 (allp g2 (allp g2 zqa))))))))))))))))))))))
theorem lth_2 (t : List Rw) (y n : Int) (g0 : decide ((1 : Int) ≤ y) = true) (g1 : decide (i64.wrap y ≤ ((t.map Rw.enc).length : Int)) = false) : PureC Try.prog 23 [tsl none t, idE y n]  (bb false) :=
 zqj (H := h23) (n := 33) (ans := [.c, .c, .c, .c, .c, .c, .c, .c, .b true, .c, .b true, .c, .c, .c, .b true, .c, .b true, .c, .b true, .c, .b true, .c, .b true, .c, .c, .b false, .c, .b false, .c, .b false, .c, .b false, .c, .c, .c, .c, .c, .c, .c, .c, .c, .c, .c, .c, .c, .c, .c, .c, .c, .c, .c, .c, .c, .c, .c, .c, .c]) (base 33 0) Try.func23 rfl (by simp) rfl (by kernel_rfl) (allp g0 (allp g0 (allp g0 (allp g0 (allp g0 (allp g0 (allp g0 (allp g1 (allp g1 (allp g1 (allp g1 zqa)))))))))))
theorem lth_3 (t : List Rw) (y n : Int) (g0 : decide ((1 : Int) ≤ y) = false) : PureC Try.prog 23 [tsl none t, idE y n]  (bb false) :=
 zqj (H := h23) (n := 33) (ans := [.c, .c, .c, .c, .c, .c, .c, .c, .b false, .c, .b false, .c, .b false, .c, .b false, .c, .b false, .c, .b false, .c, .b false, .c, .c, .c, .c, .c, .c, .c, .c, .c, .c, .c, .c, .c, .c, .c, .c, .c, .c, .c, .c, .c, .c, .c, .c, .c, .c, .c, .c, .c, .c, .c, .c, .c, .c]) (base 33 0) Try.func23 rfl (by simp) rfl (by kernel_rfl) (allp g0 (allp g0 (allp g0 (allp g0 (allp g0 (allp g0 (allp g0 zqa)))))))
def HTh (t : List Rw) (y n : Int) (b : Bool) : Prop := PureC Try.prog 23 [tsl none t, idE y n] (bb b)
theorem uHTh {t : List Rw} {y n : Int} {b : Bool} (h : HTh t y n b) : PureC Try.prog 23 [tsl none t, idE y n] (bb b) := h
section
variable (t : List Rw) (w : List Idd) (y i : Int) (L : Lp) (k : Int) (p q : Ps)
abbrev cD : Env := [(0, tsl none t), (3, iow none w), (4, it y), (5, it i), (6, lpB L)]
theorem yrt : Tri Try.prog (cxN 193 0) (zqr Try.f22 14) ((cD t w y i L ++ [(7, it k)]) ) .normal ((cD t w y i L ++ [(7, it k), (63, bb (decide (k < (↑(((Lp.pa L).map Ps.enc).length) : Int))))])) :=
 ev h22 [.c, .c, .c, .c, .c, .c, .c] zqa
theorem ch15_0 : Tri Try.prog (cxN 193 0) (zqr Try.f22 15) ((cD t w y i L ++ [(7, it k)]) ) .normal ((cD t w y i L ++ [(7, it (i64.wrap (k + (1 : Int))))])) :=
 ev h22 [.c, .c, .c] zqa
theorem ch16_0 (g0 : decide ((0 : Int) ≤ k ∧ k < (↑(((Lp.pa L).map Ps.enc).length) : Int)) = true) (g1 : ((Lp.pa L).map Ps.enc).getD (k.toNat) AV.bad = Ps.enc ((Lp.pa L).getD (k.toNat) default)) : Tri Try.prog (cxN 193 0) (zqr Try.f22 16) ((cD t w y i L ++ [(7, it k)]) ) .normal ((cD t w y i L ++ [(7, it k), (8, .box [ub (Ps.y ((Lp.pa L).getD (k.toNat) default)), it (Ps.n ((Lp.pa L).getD (k.toNat) default)), bb (Ps.f ((Lp.pa L).getD (k.toNat) default)), ub (Ps.d ((Lp.pa L).getD (k.toNat) default))])])) :=
 ev h22 [.c, .c, .c, .c, .c, .b true, .r (Ps.enc ((Lp.pa L).getD (k.toNat) default)), .c, .c, .c, .c] (allp g0 (allp g1 zqa))
theorem ch17_0 (b : Bool) (h : HTh t p.y p.n b) (g0 : decide ((1 : Int) < Ps.d p) = true) : Tri Try.prog (cxN 193 0) (zqr Try.f22 17) ((cD t w y i L ++ [(7, it k), (8, .box [ub p.y, it p.n, bb p.f, ub p.d])]) ) .normal ((cD t w y i L ++ [(7, it k), (8, .box [ub p.y, it p.n, bb p.f, ub p.d]), (80, bb true)])) :=
 ev h22 [.c, .c, .c, .c, .c, .c, .b true, .c, .b true, .c, .b true, .c, .b true, .c, .b true, .c, .b true, .c] (allp g0 (allp g0 (allp g0 (allp g0 (allp g0 (allp g0 zqa))))))
theorem ch17_1 (b : Bool) (h : HTh t p.y p.n b) (g0 : decide ((1 : Int) < Ps.d p) = false) : Tri Try.prog (cxN 193 0) (zqr Try.f22 17) ((cD t w y i L ++ [(7, it k), (8, .box [ub p.y, it p.n, bb p.f, ub p.d])]) ) .normal ((cD t w y i L ++ [(7, it k), (8, .box [ub p.y, it p.n, bb p.f, ub p.d]), (80, bb !b)])) :=
 ev h22 [.c, .c, .c, .c, .c, .c, .b false, .c, .b false, .c, .b false, .c, .b false, .r (tsl none t), .r (bb b), .c, .c, .b false, .c, .b false, .c] (allp g0 (allp g0 (allp g0 (allp g0 (allp (zqg .any none t) (allp (p := PureC Try.prog 23 [tsl none t, AV.agg [ub (Ps.y p), it (Ps.n p)]] (bb b)) (by apply uHTh<;>first|assumption|rfl|(simp at *<;>omega)) (allp g0 (allp g0 zqa))))))))
theorem ch18_0 : Tri Try.prog (cxN 193 0) (zqr Try.f22 18) ([(0, tsl none t)]) .normal ([(2, it 1)]) :=
 ev h22 [.c] zqa
theorem ch19_0 : Tri Try.prog (cxN 193 0) (zqr Try.f22 19) ((cD t w y i L ++ [(7, it k), (8, .box [ub p.y, it p.n, bb p.f, ub p.d])]) ) .normal ((cD t w y i L ++ [(7, it k), (8, .box [ub p.y, it p.n, bb p.f, ub p.d]), (82, bb (decide ((0 : Int) < k)))])) :=
 ev h22 [.c, .c] zqa
theorem yz9 (g0 : decide ((0 : Int) ≤ i64.wrap (k - (1 : Int)) ∧ i64.wrap (k - (1 : Int)) < (↑(((Lp.pa L).map Ps.enc).length) : Int)) = true) (g1 : ((Lp.pa L).map Ps.enc).getD ((i64.wrap (k - (1 : Int))).toNat) AV.bad = Ps.enc ((Lp.pa L).getD ((i64.wrap (k - (1 : Int))).toNat) default)) : Tri Try.prog (cxN 193 0) (zqr Try.f22 20) ((cD t w y i L ++ [(7, it k), (8, .box [ub p.y, it p.n, bb p.f, ub p.d])]) ) .normal ((cD t w y i L ++ [(7, it k), (8, .box [ub p.y, it p.n, bb p.f, ub p.d]), (9, .box [ub (Ps.y ((Lp.pa L).getD ((i64.wrap (k - (1 : Int))).toNat) default)), it (Ps.n ((Lp.pa L).getD ((i64.wrap (k - (1 : Int))).toNat) default)), bb (Ps.f ((Lp.pa L).getD ((i64.wrap (k - (1 : Int))).toNat) default)), ub (Ps.d ((Lp.pa L).getD ((i64.wrap (k - (1 : Int))).toNat) default))])])) :=
 ev h22 [.c, .c, .c, .c, .c, .c, .b true, .r (Ps.enc ((Lp.pa L).getD ((i64.wrap (k - (1 : Int))).toNat) default)), .c, .c, .c, .c] (allp g0 (allp g1 zqa))
theorem yz8 (g0 : (Ps.y q == Ps.y p && Ps.n q == Ps.n p) = true) (g1 : (Ps.f q == Ps.f p) = true) : Tri Try.prog (cxN 193 0) (zqr Try.f22 21) ((cD t w y i L ++ [(7, it k), (8, .box [ub p.y, it p.n, bb p.f, ub p.d]), (9, .box [ub q.y, it q.n, bb q.f, ub q.d])]) ) .normal ((cD t w y i L ++ [(7, it k), (107, bb (Ps.d q != Ps.d p))])) :=
 ev h22 [.c, .c, .c, .c, .c, .c, .b true, .c, .b true, .c, .c, .c, .b true, .c, .b true, .c, .c, .c, .b true, .c, .b true, .c, .c, .b true, .c, .b true, .c, .c, .c, .b true, .c, .b true, .c, .c, .c, .b true, .c, .b true, .c] (allp g0 (allp g0 (allp g0 (allp g0 (allp g0 (allp g0 (allp g1 (allp g1 (allp g1 (allp g1 (allp g1 (allp g1 zqa))))))))))))
theorem yz7 (g0 : (Ps.y q == Ps.y p && Ps.n q == Ps.n p) = true) (g1 : (Ps.f q == Ps.f p) = false) : Tri Try.prog (cxN 193 0) (zqr Try.f22 21) ((cD t w y i L ++ [(7, it k), (8, .box [ub p.y, it p.n, bb p.f, ub p.d]), (9, .box [ub q.y, it q.n, bb q.f, ub q.d])]) ) .normal ((cD t w y i L ++ [(7, it k), (107, bb false)])) :=
 ev h22 [.c, .c, .c, .c, .c, .c, .b true, .c, .b true, .c, .c, .c, .b true, .c, .b true, .c, .c, .c, .b true, .c, .b true, .c, .c, .b false, .c, .b false, .c, .b false, .c, .b false, .c, .b false, .c, .b false, .c] (allp g0 (allp g0 (allp g0 (allp g0 (allp g0 (allp g0 (allp g1 (allp g1 (allp g1 (allp g1 (allp g1 (allp g1 zqa))))))))))))
theorem yz6 (g0 : (Ps.y q == Ps.y p && Ps.n q == Ps.n p) = false) : Tri Try.prog (cxN 193 0) (zqr Try.f22 21) ((cD t w y i L ++ [(7, it k), (8, .box [ub p.y, it p.n, bb p.f, ub p.d]), (9, .box [ub q.y, it q.n, bb q.f, ub q.d])]) ) .normal ((cD t w y i L ++ [(7, it k), (107, bb false)])) :=
 ev h22 [.c, .c, .c, .c, .c, .c, .b false, .c, .b false, .c, .b false, .c, .b false, .c, .b false, .c, .b false, .c, .c, .c, .c, .c, .c, .c, .c, .c, .c, .c, .c, .c, .c] (allp g0 (allp g0 (allp g0 (allp g0 (allp g0 (allp g0 zqa))))))
theorem yz5 : Tri Try.prog (cxN 193 0) (zqr Try.f22 22) ([(0, tsl none t)]) .normal ([(2, it 1)]) :=
 ev h22 [.c] zqa
theorem yrs : Tri Try.prog (cxN 193 0) (zqr Try.f22 24) ((cD t w y i L ++ [(10, it k)]) ) .normal ((cD t w y i L ++ [(10, it k), (112, bb (decide (k < (↑(((Lp.th L).map Idd.enc).length) : Int))))])) :=
 ev h22 [.c, .c, .c, .c, .c, .c, .c] zqa
theorem yz4 : Tri Try.prog (cxN 193 0) (zqr Try.f22 25) ((cD t w y i L ++ [(10, it k)]) ) .normal ((cD t w y i L ++ [(10, it (i64.wrap (k + (1 : Int))))])) :=
 ev h22 [.c, .c, .c] zqa
theorem yz3 (b : Bool) (h : HTh t (L.th.getD k.toNat default).y (L.th.getD k.toNat default).n b) (g0 : decide ((0 : Int) ≤ k ∧ k < (↑(((Lp.th L).map Idd.enc).length) : Int)) = true) (g1 : ((Lp.th L).map Idd.enc).getD (k.toNat) AV.bad = Idd.enc ((Lp.th L).getD (k.toNat) default)) : Tri Try.prog (cxN 193 0) (zqr Try.f22 26) ((cD t w y i L ++ [(10, it k)]) ) .normal ((cD t w y i L ++ [(10, it k), (122, bb !b)])) :=
 ev h22 [.c, .c, .c, .c, .c, .c, .b true, .r (Idd.enc ((Lp.th L).getD (k.toNat) default)), .c, .c, .r (tsl none t), .r (bb b), .c, .c, .c] (allp g0 (allp g1 (allp (zqg .any none t) (allp (p := PureC Try.prog 23 [tsl none t, AV.agg [ub (Idd.y ((Lp.th L).getD (k.toNat) default)), it (Idd.n ((Lp.th L).getD (k.toNat) default))]] (bb b)) (by apply uHTh<;>first|assumption|rfl|(simp at *<;>omega)) zqa))))
theorem yz2 : Tri Try.prog (cxN 193 0) (zqr Try.f22 27) ([(0, tsl none t)]) .normal ([(2, it 1)]) :=
 ev h22 [.c] zqa
end
def HCk0 (t : List Rw) : Prop := PureC Try.prog 11 [tsl none t] (it 0)
theorem uHCk0 {t : List Rw} (h : HCk0 t) : PureC Try.prog 11 [tsl none t] (it 0) := h
def HFn (t : List Rw) (y n : Int) : Prop := PureC Try.prog 16 [tsl none t, idE y n] (.tup [.agg [ub 0, bb false, zqw, zqw], it 7])
theorem uHFn {t : List Rw} {y n : Int} (h : HFn t y n) : PureC Try.prog 16 [tsl none t, idE y n] (.tup [.agg [ub 0, bb false, zqw, zqw], it 7]) := h
section
variable (t : List Rw) (md : List Idd) (a y n : Int) (r : List Rw) (k b : Int) (w : Bool) (th : List Idd) (pa : List Ps) (i : Int)
abbrev fK : Env := [(7, tsl none t), (11, .box (loO b w th pa))]
theorem yy6 (h : HFn t y n) : Tri Try.prog (cxN 133 0) (zqr Try.f8 9) ([(5, .box [ub y, it n]), (7, tsl none t)]) .normal ([(5, .box [ub y, it n]), (7, tsl none t), (11, .box [ub 0, bb false, zqw, zqw]), (12, it 7), (44, AV.tup [AV.agg [ub 0, bb false, zqw, zqw], it 7])]) :=
 ev h8 [.c, .c, .r (tsl none t), .r (AV.tup [AV.agg [ub 0, bb false, zqw, zqw], it 7]), .c, .c, .c, .c, .c, .c, .c, .c] (allp (zqg .any none t) (allp (p := PureC Try.prog 16 [tsl none t, AV.agg [ub y, it n]] (AV.tup [AV.agg [ub 0, bb false, zqw, zqw], it 7])) (by apply uHFn<;>first|assumption|rfl|(simp at *<;>omega)) zqa))
theorem fdO_0 (c : Option Nat) (t : List Rw) (y n : Int) (h0 : 0 ≤ y) (h1 : y ≤ 255) (q : (!hasV t y n) = false) (k1 : (List.getD (Rw.l (t.getD ((u8.wrap (y - (1 : Int))).toNat) default)) (n.toNat) default).th.length ≤ 4294967296) (k2 : (List.getD (Rw.l (t.getD ((u8.wrap (y - (1 : Int))).toNat) default)) (n.toNat) default).pa.length ≤ 4294967296) (g0 : (!hasV t y n) = false) (g1 : decide ((0 : Int) ≤ u8.wrap (y - (1 : Int)) ∧ u8.wrap (y - (1 : Int)) < ((t.map Rw.enc).length : Int)) = true) (g2 : (t.map Rw.enc).getD ((u8.wrap (y - (1 : Int))).toNat) AV.bad = Rw.enc (t.getD ((u8.wrap (y - (1 : Int))).toNat) default)) (g3 : decide ((0 : Int) ≤ n ∧ n < (↑(List.length (List.map Lp.enc (Rw.l (t.getD ((u8.wrap (y - (1 : Int))).toNat) default)))) : Int)) = true) (g4 : List.getD (List.map Lp.enc (Rw.l (t.getD ((u8.wrap (y - (1 : Int))).toNat) default))) (n.toNat) AV.bad = Lp.enc (List.getD (Rw.l (t.getD ((u8.wrap (y - (1 : Int))).toNat) default)) (n.toNat) default)) : PureC Try.prog 16 [tsl c t, idE y n]  (AV.tup [AV.agg [ub (Lp.b (List.getD (Rw.l (t.getD ((u8.wrap (y - (1 : Int))).toNat) default)) (n.toNat) default)), bb (Lp.w (List.getD (Rw.l (t.getD ((u8.wrap (y - (1 : Int))).toNat) default)) (n.toNat) default)), iow (some (List.length (Lp.th (List.getD (Rw.l (t.getD ((u8.wrap (y - (1 : Int))).toNat) default)) (n.toNat) default)))) (Lp.th (List.getD (Rw.l (t.getD ((u8.wrap (y - (1 : Int))).toNat) default)) (n.toNat) default)), AV.sl .own 56 (some (List.length (Lp.pa (List.getD (Rw.l (t.getD ((u8.wrap (y - (1 : Int))).toNat) default)) (n.toNat) default)))) (List.map Ps.enc (Lp.pa (List.getD (Rw.l (t.getD ((u8.wrap (y - (1 : Int))).toNat) default)) (n.toNat) default)))], it 0]) :=
 zqj (H := h16) (n := 22) (ans := [.c, .c, .c, .c, .c, .r (tsl c t), .r (bb (hasV t y n)), .c, .c, .c, .b false, .c, .c, .c, .c, .c, .c, .b true, .r (Rw.enc (t.getD ((u8.wrap (y - (1 : Int))).toNat) default)), .c, .c, .c, .c, .c, .c, .b true, .r (Lp.enc (List.getD (Rw.l (t.getD ((u8.wrap (y - (1 : Int))).toNat) default)) (n.toNat) default)), .c, .c, .r (AV.agg [ub (Lp.b (List.getD (Rw.l (t.getD ((u8.wrap (y - (1 : Int))).toNat) default)) (n.toNat) default)), bb (Lp.w (List.getD (Rw.l (t.getD ((u8.wrap (y - (1 : Int))).toNat) default)) (n.toNat) default)), iow (some (List.length (Lp.th (List.getD (Rw.l (t.getD ((u8.wrap (y - (1 : Int))).toNat) default)) (n.toNat) default)))) (Lp.th (List.getD (Rw.l (t.getD ((u8.wrap (y - (1 : Int))).toNat) default)) (n.toNat) default)), AV.sl .own 56 (some (List.length (Lp.pa (List.getD (Rw.l (t.getD ((u8.wrap (y - (1 : Int))).toNat) default)) (n.toNat) default)))) (List.map Ps.enc (Lp.pa (List.getD (Rw.l (t.getD ((u8.wrap (y - (1 : Int))).toNat) default)) (n.toNat) default)))]), .c, .c, .c, .c, .c]) (base 22 0) Try.func16 rfl (by simp) rfl (by kernel_rfl) (allp (zqg .any c t) (allp (p := PureC Try.prog 28 [tsl c t, AV.agg [ub y, it n]] (bb (hasV t y n))) (by apply yne<;>first|assumption|rfl|(simp at *<;>omega)) (allp g0 (allp g1 (allp g2 (allp g3 (allp g4 (allp (p := PureC Try.prog 29 [view (AV.agg [ub (Lp.b (List.getD (Rw.l (t.getD ((u8.wrap (y - (1 : Int))).toNat) default)) (n.toNat) default)), bb (Lp.w (List.getD (Rw.l (t.getD ((u8.wrap (y - (1 : Int))).toNat) default)) (n.toNat) default)), isl (Lp.ct (List.getD (Rw.l (t.getD ((u8.wrap (y - (1 : Int))).toNat) default)) (n.toNat) default)) (Lp.th (List.getD (Rw.l (t.getD ((u8.wrap (y - (1 : Int))).toNat) default)) (n.toNat) default)), sl (Lp.cp (List.getD (Rw.l (t.getD ((u8.wrap (y - (1 : Int))).toNat) default)) (n.toNat) default)) (Lp.pa (List.getD (Rw.l (t.getD ((u8.wrap (y - (1 : Int))).toNat) default)) (n.toNat) default))])] (AV.agg [ub (Lp.b (List.getD (Rw.l (t.getD ((u8.wrap (y - (1 : Int))).toNat) default)) (n.toNat) default)), bb (Lp.w (List.getD (Rw.l (t.getD ((u8.wrap (y - (1 : Int))).toNat) default)) (n.toNat) default)), iow (some (List.length (Lp.th (List.getD (Rw.l (t.getD ((u8.wrap (y - (1 : Int))).toNat) default)) (n.toNat) default)))) (Lp.th (List.getD (Rw.l (t.getD ((u8.wrap (y - (1 : Int))).toNat) default)) (n.toNat) default)), AV.sl .own 56 (some (List.length (Lp.pa (List.getD (Rw.l (t.getD ((u8.wrap (y - (1 : Int))).toNat) default)) (n.toNat) default)))) (List.map Ps.enc (Lp.pa (List.getD (Rw.l (t.getD ((u8.wrap (y - (1 : Int))).toNat) default)) (n.toNat) default)))])) (by (first | rw [zqh] | rw [zqg] | rw [zrd] | rw [zrc] | skip); apply yqb<;>first|assumption|rfl|(simp at *<;>omega)) zqa))))))))
theorem ff0_0 (c : Option Nat) (x : List Lx) (a y n : Int) : Tri Try.prog (cxN 133 0) (zqr Try.f8 0) ([(0, xsl c x), (1, ub a), (2, idE y n)]) .normal ([(0, xsl c x), (1, ub a), (5, .box [ub y, it n])]) :=
 ev h8 [.c, .c] zqa
theorem ff2_0 (g0 : AV.sl .own 37 (some 0) [] = AV.sl .own 37 (some (0 : Nat)) (List.map Rw.enc [])) (g1 : decide ((25 : Nat) = (25 : Nat) ∧ (List.all (List.map Rw.enc t) fun y => List.all (AV.ecells y) zqt) = true ∧ (List.all (List.map Rw.enc t) fun y => decide ((AV.ecells y).length = List.length (TInfo.zero { zero := [Value.slice none (0 : Nat) (0 : Nat)], bytes := (24 : Nat), agg := false, kind := TK.slice (45 : TypeId) }))) = true) = true) (g2 : decide (37 = (37 : TypeId) ∧ (List.map Rw.enc []).length + (t.map Rw.enc).length ≤ (4294967296 : Nat) ∧ Oper.dst { dst := some (22 : Nat), op := Op.call { callee := Callee.builtin Builtin.append, args := #[Operand.tmp (20 : Nat), Operand.tmp (21 : Nat)], argTypes := #[(25 : Nat), (25 : Nat)] }, type := (25 : Nat), pos := "law.go:366", after := #[{ on := (0 : Nat), ground := Ground.data }, { on := (1 : Nat), ground := Ground.data }], guard := none } ≠ some (20 : Nat)) = true) (g3 : AV.sl .own 37 (if (List.map Rw.enc []).length + (t.map Rw.enc).length ≤ (0 : Nat) then some (0 : Nat) else none) (List.map Rw.enc [] ++ List.map Rw.enc t) = AV.sl .own 37 (if (List.map Rw.enc []).length + (t.map Rw.enc).length ≤ (0 : Nat) then some (0 : Nat) else none) (List.map Rw.enc ([] ++ t))) : Tri Try.prog (cxN 133 0) (zqr Try.f8 2) ([(1, ub a), (5, .box [ub y, it n]), (7, tsl none t), (8, isl none md)]) .normal ([(1, ub a), (5, .box [ub y, it n]), (7, tsl none t), (8, isl none md), (9, AV.sl .own 37 (if (List.map Rw.enc []).length + (t.map Rw.enc).length ≤ (0 : Nat) then some (0 : Nat) else none) (List.map Rw.enc ([] ++ t)))]) :=
 ev h8 [.r (AV.sl .own 37 (some (0 : Nat)) (List.map Rw.enc [])), .c, .b true, .b true, .r (AV.sl .own 37 (if (List.map Rw.enc []).length + (t.map Rw.enc).length ≤ (0 : Nat) then some (0 : Nat) else none) (List.map Rw.enc ([] ++ t))), .c] (allp g0 (allp g1 (allp g2 (allp g3 zqa))))
theorem ff3_0 : Tri Try.prog (cxN 133 0) (zqr Try.f8 3) ([(1, ub a), (5, .box [ub y, it n]), (7, tsl none t), (8, isl none md), (9, .sl .own 37 none (r.map Rw.enc))]) .normal ([(1, ub a), (5, .box [ub y, it n]), (7, tsl none t), (8, isl none md), (9, AV.sl .own 37 none (List.map Rw.enc r)), (10, it 0)]) :=
 ev h8 [.c] zqa
theorem yy7 : Tri Try.prog (cxN 133 0) (zqr Try.f8 4) ([(1, ub a), (5, .box [ub y, it n]), (7, tsl none t), (8, isl none md), (9, .sl .own 37 none (r.map Rw.enc)), (10, it k)]) .normal ([(1, ub a), (5, .box [ub y, it n]), (7, tsl none t), (8, isl none md), (9, AV.sl .own 37 none (List.map Rw.enc r)), (10, it k), (27, bb (decide (k < i64.wrap (Int.tmod a (4 : Int)))))]) :=
 ev h8 [.c, .c, .c, .c, .c] zqa
theorem ff5_0 : Tri Try.prog (cxN 133 0) (zqr Try.f8 5) ([(1, ub a), (5, .box [ub y, it n]), (7, tsl none t), (8, isl none md), (9, .sl .own 37 none (r.map Rw.enc)), (10, it k)]) .normal ([(1, ub a), (5, .box [ub y, it n]), (7, tsl none t), (8, isl none md), (9, AV.sl .own 37 none (List.map Rw.enc r)), (10, it (i64.wrap (k + (1 : Int))))]) :=
 ev h8 [.c, .c, .c] zqa
theorem ff6_0 (g0 : decide ((r.map Rw.enc).length + (1 : Nat) ≤ (4294967296 : Nat)) = true) : Tri Try.prog (cxN 133 0) (zqr Try.f8 6) ([(1, ub a), (5, .box [ub y, it n]), (7, tsl none t), (8, isl none md), (9, .sl .own 37 none (r.map Rw.enc)), (10, it k)]) .normal ([(1, ub a), (5, .box [ub y, it n]), (7, tsl none t), (8, isl none md), (9, AV.sl .own 37 none (List.map Rw.enc r ++ [share (AV.sl .own (45 : TypeId) (some (1 : Nat)) [AV.agg (List.map AV.atom (TInfo.zero { zero := [Value.int u8 (0 : Int), Value.bool false, Value.slice none (0 : Nat) (0 : Nat), Value.slice none (0 : Nat) (0 : Nat)], bytes := (56 : Nat), agg := true, kind := TK.struct [((0 : Nat), (1 : Nat)), ((1 : Nat), (1 : Nat)), ((2 : Nat), (1 : Nat)), ((3 : Nat), (1 : Nat))] }))])])), (10, it k)]) :=
 ev h8 [.c, .c, .c, .c, .c, .c, .b true, .c, .c] (allp g0 zqa)
theorem ff7_0 (h : HCn r k) : Tri Try.prog (cxN 133 0) (zqr Try.f8 7) ([(1, ub a), (5, .box [ub y, it n]), (7, tsl none t), (8, isl none md), (9, .sl .own 37 none (r.map Rw.enc))]) .normal ([(5, .box [ub y, it n]), (7, tsl none t), (43, bb (k != i64.wrap (((md.map Idd.enc).length : Int) + i64.wrap (Int.tmod a (4 : Int)))))]) :=
 ev h8 [.c, .r (tsl none r), .r (it k), .c, .c, .c, .c, .c, .c, .c, .c, .c] (allp (p := view (AV.sl .own 37 none (List.map Rw.enc r)) = tsl none r) (by first | exact zra _ _ _ | exact zrb _ _ _ | rfl | exact zqg _ _ _ | exact zqk _ _ _ | exact zqh _ _ _ _ _ _ _ _ | exact zrd _ | exact zrc _ _ _ _ _ _ _ _ _) (allp (p := PureC Try.prog 12 [tsl none r] (it k)) (by apply uHCn<;>first|assumption|rfl|(simp at *<;>omega)) zqa))
theorem yt6 (h : HTh t y n true) : Tri Try.prog (cxN 133 0) (zqr Try.f8 10) ([(5, .box [ub y, it n]), (7, tsl none t), (11, .box (loO b w th pa)), (12, it 0)]) .normal ([(7, tsl none t), (11, .box [ub b, bb w, iow (some (th.length)) th, AV.sl .own 56 (some (pa.length)) (List.map Ps.enc pa)]), (12, it 0), (63, bb false)]) :=
 ev h8 [.c, .c, .c, .c, .r (tsl none t), .r (bb true), .c, .c, .c, .c, .c, .c, .c, .c, .c, .c, .c, .c, .c, .c, .c, .c, .c, .c, .c] (allp (zqg .any none t) (allp (p := PureC Try.prog 23 [tsl none t, AV.agg [ub y, it n]] (bb true)) (by apply uHTh<;>first|assumption|rfl|(simp at *<;>omega)) zqa))
theorem yt5 (h : HTh t y n false) : Tri Try.prog (cxN 133 0) (zqr Try.f8 10) ([(5, .box [ub y, it n]), (7, tsl none t), (11, .box [ub 0, bb false, zqw, zqw]), (12, it 7)]) .normal ([(7, tsl none t), (11, .box [ub 0, bb false, zqw, zqw]), (12, it 7), (63, bb ((7 : Int) != (7 : Int)))]) :=
 ev h8 [.c, .c, .c, .c, .r (tsl none t), .r (bb false), .c, .c, .c, .c, .c, .c, .c, .c, .c, .c, .c, .c, .c, .c, .c, .c, .c, .c, .c] (allp (zqg .any none t) (allp (p := PureC Try.prog 23 [tsl none t, AV.agg [ub y, it n]] (bb false)) (by apply uHTh<;>first|assumption|rfl|(simp at *<;>omega)) zqa))
theorem yt4 : Tri Try.prog (cxN 133 0) (zqr Try.f8 12) ((fK t b w th pa ++ [(12, it 0)]) ) .normal ([(7, tsl none t), (11, .box [ub b, bb w, iow (some (th.length)) th, AV.sl .own 56 (some (pa.length)) (List.map Ps.enc pa)]), (65, bb ((0 : Int) != (0 : Int)))]) :=
 ev h8 [.c, .c] zqa
theorem yt3 : Tri Try.prog (cxN 133 0) (zqr Try.f8 12) ([(7, tsl none t), (11, .box [ub 0, bb false, zqw, zqw]), (12, it 7)]) .normal ([(7, tsl none t), (11, .box [ub 0, bb false, zqw, zqw]), (65, bb ((7 : Int) != (0 : Int)))]) :=
 ev h8 [.c, .c] zqa
theorem yzf : Tri Try.prog (cxN 133 0) (zqr Try.f8 13) ([(7, tsl none t), (11, .box [ub 0, bb false, zqw, zqw])]) .normal ([(6, bb true)]) :=
 ev h8 [.c, .c, .c, .c, .c, .c, .c, .c, .c, .c, .c, .c, .c, .c, .c, .c, .c, .c, .c, .c, .c, .c, .c, .c, .c, .c, .c, .c, .c, .c, .c, .c, .r (bb true), .c, .c, .c, .c, .c] (allp (p := PureC Try.prog 14 [] (bb true)) (by apply ym4<;>first|assumption|rfl|(simp at *<;>omega)) zqa)
theorem yze : Tri Try.prog (cxN 133 0) (zqr Try.f8 14) ((fK t b w th pa) ) .normal ([(7, tsl none t), (11, .box [ub b, bb w, iow (some (th.length)) th, AV.sl .own 56 (some (pa.length)) (List.map Ps.enc pa)]), (13, it 0)]) :=
 ev h8 [.c] zqa
theorem yrl : Tri Try.prog (cxN 133 0) (zqr Try.f8 15) ((fK t b w th pa ++ [(13, it i)]) ) .normal ([(7, tsl none t), (11, .box [ub b, bb w, iow (some (th.length)) th, AV.sl .own 56 (some (pa.length)) (List.map Ps.enc pa)]), (13, it i), (88, bb (decide (i < ((th.map Idd.enc).length : Int))))]) :=
 ev h8 [.c, .c, .c, .c, .c, .c, .c, .c, .c] zqa
theorem yzd : Tri Try.prog (cxN 133 0) (zqr Try.f8 16) ((fK t b w th pa ++ [(13, it i)]) ) .normal ([(7, tsl none t), (11, .box [ub b, bb w, iow (some (th.length)) th, AV.sl .own 56 (some (pa.length)) (List.map Ps.enc pa)]), (13, it (i64.wrap (i + (1 : Int))))]) :=
 ev h8 [.c, .c, .c] zqa
theorem yzc (g0 : decide ((0 : Int) ≤ i ∧ i < ((th.map Idd.enc).length : Int)) = true) (g1 : decide (i.toNat < (th.map Idd.enc).length) = true) (g2 : (th.map Idd.enc).getD (i.toNat) AV.bad = Idd.enc (th.getD (i.toNat) default)) : Tri Try.prog (cxN 133 0) (zqr Try.f8 17) ((fK t b w th pa ++ [(13, it i)]) ) .normal ([(7, tsl none t), (11, .box [ub b, bb w, AV.sl .own 36 (some (th.length)) (List.set (List.map Idd.enc th) (i.toNat) (setE ((th.map Idd.enc).getD (i.toNat) AV.bad) ((0 : Nat) + (1 : Nat)) [it (-1)])), AV.sl .own 56 (some (pa.length)) (List.map Ps.enc pa)]), (13, it i)]) :=
 ev h8 [.c, .c, .c, .c, .c, .c, .c, .b true, .c, .c, .c, .c, .c, .c, .b true, .r (Idd.enc (th.getD (i.toNat) default)), .c, .c, .c] (allp g0 (allp g1 (allp g2 zqa)))
theorem yzb : Tri Try.prog (cxN 133 0) (zqr Try.f8 18) ((fK t b w th pa) ) .normal ([(7, tsl none t), (11, .box [ub b, bb w, iow (some (th.length)) th, AV.sl .own 56 (some (pa.length)) (List.map Ps.enc pa)]), (14, it 0)]) :=
 ev h8 [.c] zqa
theorem yrk : Tri Try.prog (cxN 133 0) (zqr Try.f8 19) ((fK t b w th pa ++ [(14, it i)]) ) .normal ([(7, tsl none t), (11, .box [ub b, bb w, iow (some (th.length)) th, AV.sl .own 56 (some (pa.length)) (List.map Ps.enc pa)]), (14, it i), (100, bb (decide (i < ((pa.map Ps.enc).length : Int))))]) :=
 ev h8 [.c, .c, .c, .c, .c, .c, .c, .c, .c] zqa
theorem yza : Tri Try.prog (cxN 133 0) (zqr Try.f8 20) ((fK t b w th pa ++ [(14, it i)]) ) .normal ([(7, tsl none t), (11, .box [ub b, bb w, iow (some (th.length)) th, AV.sl .own 56 (some (pa.length)) (List.map Ps.enc pa)]), (14, it (i64.wrap (i + (1 : Int))))]) :=
 ev h8 [.c, .c, .c] zqa
theorem yy9 (g0 : decide ((0 : Int) ≤ i ∧ i < ((pa.map Ps.enc).length : Int)) = true) (g1 : decide (i.toNat < (pa.map Ps.enc).length) = true) (g2 : (pa.map Ps.enc).getD (i.toNat) AV.bad = Ps.enc (pa.getD (i.toNat) default)) : Tri Try.prog (cxN 133 0) (zqr Try.f8 21) ((fK t b w th pa ++ [(14, it i)]) ) .normal ([(7, tsl none t), (11, .box [ub b, bb w, iow (some (th.length)) th, AV.sl .own 56 (some (pa.length)) (List.set (List.map Ps.enc pa) (i.toNat) (setE ((pa.map Ps.enc).getD (i.toNat) AV.bad) ((0 : Nat) + (0 : Nat) + (1 : Nat)) [it (-1)]))]), (14, it i)]) :=
 ev h8 [.c, .c, .c, .c, .c, .c, .c, .b true, .c, .c, .c, .c, .c, .c, .c, .c, .c, .b true, .r (Ps.enc (pa.getD (i.toNat) default)), .c, .c, .c] (allp g0 (allp g1 (allp g2 zqa)))
theorem yy8 (h : HCk0 t) (g0 : ((th.length : Int) == ((th.map Idd.enc).length : Int)) = true) (g1 : ((pa.length : Int) == ((pa.map Ps.enc).length : Int)) = true) : Tri Try.prog (cxN 133 0) (zqr Try.f8 22) ((fK t b w th pa) ) .normal ([(6, bb true)]) :=
 ev h8 [.c, .r (tsl none t), .r (it 0), .c, .c, .c, .c, .c, .c, .c, .c, .c, .c, .c, .c, .c, .c, .c, .c, .c, .c, .c, .c, .c, .c, .c, .c, .c, .c, .c, .c, .c, .b true, .c, .b true, .c, .c, .c, .b true, .c, .c, .c, .b true, .c, .b true, .c, .c, .c, .b true, .c, .c, .c, .b true, .c, .b true, .c, .c, .b true, .r (bb true), .c, .c, .b true, .c, .c] (allp (zqg .any none t) (allp (p := PureC Try.prog 11 [tsl none t] (it 0)) (by apply uHCk0<;>first|assumption|rfl|(simp at *<;>omega)) (allp g0 (allp g0 (allp g0 (allp g0 (allp g0 (allp g0 (allp g0 (allp g0 (allp g1 (allp (p := PureC Try.prog 14 [] (bb true)) (by apply ym4<;>first|assumption|rfl|(simp at *<;>omega)) (allp g1 zqa)))))))))))))
end
theorem F2.len {α β : Type} {R : α → β → Prop} : ∀ {l : List α} {m : List β}, F2 R l m → l.length = m.length
 | _, _, .nil => rfl
 | _, _, .cons _ h => congrArg (· + 1) (F2.len h)
theorem Le.shEls {P : Program} {m : Lf.Mode} (hm : m ≠ .own) {e : TypeId} {cap : Option Nat} {xs ys : List AV} (hl : xs.length = ys.length) (hu : ∀ sz, Uni sz xs → Uni sz ys) (hf : F2 (Le P) (flat xs) (flat ys)) : Le P (.sl m e cap xs) (.sl m e cap ys) := by
 intro B0 w S n v O hr
 obtain ⟨n, rfl⟩ := hr.pos
 have key : Shs P B0 w S (Rv P B0 w S n) m e cap xs v O → Shs P B0 w S (Rv P B0 w S n) m e cap ys v O := by
  rintro ⟨A, k, hv, h1, h2, hc, hx, hz, hr⟩
  refine ⟨A, k, hl ▸ hv, hl ▸ h1, h2, hc, hu _ hx, hz, fun hne => ?_⟩
  obtain ⟨g, off, C, T, fr, e1, e2, e3, e4, e5, e6⟩ := hr (by intro e; subst e; apply hne; exact zli hl.symm)
  have hfl := F2.len hf
  exact ⟨g, off, C, T, fr, e1, e2, e3, e4, hfl ▸ e5, hfl ▸ Rc.le2 (ys := flat ys) e6 hf⟩
 cases m with
 | own => exact absurd rfl hm
 | fresh => exact key hr
 | any => exact key hr
section
variable (c : Option Nat) (x : List Lx) (m : List (List Lp)) (md : List Idd) (a y n : Int) (h : HOf c x m md)
include h
abbrev f1a : Env := [(17, .tup [tGW m, iow none md]), (16, xsl c x), (0, xsl c x), (1, ub a), (5, .box [ub y, it n])]
abbrev f1b : Env := (17, .tup [tSh m, iow none md]) :: f1a c x m md a y n
abbrev f1c : Env := (17, .tup [tSh m, share (iow none md)]) :: f1b c x m md a y n
theorem ff1_0 : Tri Try.prog (cxN 133 0) (.region 1 (zql Try.f8 1) false) [(0, xsl c x), (1, ub a), (5, .box [ub y, it n])] .normal ((8, share (iow none md)) :: (7, tSh m) :: (19, share (iow none md)) :: (18, tSh m) :: (15, .tup [tSh m, share (iow none md)]) :: (17, .bad) :: f1c c x m md a y n) := by
 refine Tri.ofR (.region (R := (· = (8, share (iow none md)) :: (7, tSh m) :: (19, share (iow none md)) :: (18, tSh m) :: (15, .tup [tSh m, share (iow none md)]) :: (17, .bad) :: f1c c x m md a y n)) ?_) fun e h => h
 rw [show (zql Try.f8 1).toList = (zql Try.f8 1).toList.take 2 ++ ([] ++ ([] ++ (zql Try.f8 1).toList.drop 2)) by kernel_rfl]
 refine .seq (OpsR.ev (base 133 0) zqb.1 zqb.2 (ans := [.c, .r (xsl c x), .r (.tup [tGW m, iow none md]), .c, .c]) (ps := [view (xsl c x) = xsl c x, PureC Try.prog 9 [xsl c x] (.tup [tGW m, iow none md])]) (env' := f1a c x m md a y n) (by kernel_rfl) (allp (yop c x) (allp h zqa))) ?_
 rintro _ rfl
 refine .seq (OpsR.grabAt (r := 17) (p := [(0, 0)]) rfl rfl rfl (yv9 (by intro p hp; simp only [List.mem_cons, List.not_mem_nil, or_false] at hp; rcases hp with rfl | rfl | rfl | rfl | rfl <;> rfl) 17)) ?_
 rintro _ rfl
 refine .seq (OpsR.grabAt (r := 17) (p := [(0, 1)]) rfl rfl rfl (yv9 (by intro p hp; simp only [List.mem_cons, List.not_mem_nil, or_false] at hp; rcases hp with rfl | rfl | rfl | rfl | rfl | rfl <;> rfl) 17)) ?_
 rintro _ rfl
 exact OpsR.ev (base 133 0) zqb.1 zqb.2 (ans := [.c, .c, .c, .c, .c, .c, .c]) (ps := []) (by kernel_rfl) zqa
theorem ff1_1 (hm : ∀ r ∈ m, ∀ L ∈ r, L.ct = none ∧ L.cp = none) : Tri Try.prog (cxN 133 0) (zqr Try.f8 1) [(0, xsl c x), (1, ub a), (5, .box [ub y, it n])] .normal [(1, ub a), (5, .box [ub y, it n]), (7, tsl none (tb m)), (8, isl none md)] := by
 have h1 := ff1_0 c x m md a y n h
 refine .less (.after (kp [1, 5, 7, 8]) h1) (.cons ⟨rfl, rfl, Le.refl _⟩ (.cons ⟨rfl, rfl, Le.refl _⟩ (.cons ⟨rfl, rfl, ?_⟩ (.cons ⟨rfl, rfl, ?_⟩ .nil))))
 ·show Le Try.prog (tSh m) (tsl none (tb m))
  rw [← yoq m hm]; exact Le.viewS
 ·show Le Try.prog (share (iow none md)) (isl none md)
  rw [yl5 md]; exact Le.fresh
end
def HFo (t : List Rw) (y n b : Int) (w : Bool) (th : List Idd) (pa : List Ps) : Prop := PureC Try.prog 16 [tsl none t, idE y n] (.tup [.agg (loO b w th pa), it 0])
section
variable (t : List Rw) (y n b : Int) (w : Bool) (th : List Idd) (pa : List Ps) (h : HFo t y n b w th pa)
abbrev g9 : Env := [(5, .box [ub y, it n]), (7, tsl none t)]
abbrev g9a : Env := [(47, .tup [.agg (loO b w th pa), it 0]), (46, idE y n), (45, tsl none t), (5, .box [ub y, it n]), (7, tsl none t)]
abbrev g9b : Env := (44, .tup [.agg (loO b w th pa), it 0]) :: (47, .bad) :: keepE (kp [5, 7, 47]) (g9a t y n b w th pa)
abbrev g9c : Env := (48, .agg (loO b w th pa)) :: (44, .tup [.bad, it 0]) :: keepE (kp [5, 7, 44]) (g9b t y n b w th pa)
abbrev g9d : Env := (12, it 0) :: (11, .box (loO b w th pa)) :: (48, .bad) :: (11, .box [ub 0, bb false, zqw, zqw]) :: (49, it 0) :: g9c t y n b w th pa
include h
theorem ff9_0 : Tri Try.prog (cxN 133 0) (.region 9 (zql Try.f8 9) false) (g9 t y n) .normal [(5, .box [ub y, it n]), (7, tsl none t), (11, .box (loO b w th pa)), (12, it 0)] := by
 refine .after (kp [5, 7, 11, 12]) (env' := g9d t y n b w th pa) (Tri.ofR (.region (R := (· = g9d t y n b w th pa)) ?_) fun e h => h)
 rw [show (zql Try.f8 9).toList = (zql Try.f8 9).toList.take 3 ++ ([(zql Try.f8 9).toList.getD 3 default] ++ ([(zql Try.f8 9).toList.getD 4 default] ++ (zql Try.f8 9).toList.drop 5)) by kernel_rfl]
 refine .seq (OpsR.ev (base 133 0) zqb.1 zqb.2 (ans := [.c, .c, .r (tsl none t), .r (.tup [.agg (loO b w th pa), it 0]), .c, .c]) (ps := [view (tsl none t) = tsl none t, PureC Try.prog 16 [tsl none t, idE y n] (.tup [.agg (loO b w th pa), it 0])]) (env' := g9a t y n b w th pa) (by kernel_rfl) (allp (zqg _ _ _) (allp h zqa))) ?_
 rintro _ rfl
 refine .seq (OpsR.moveA (s := 47) (d := 44) (kp [5, 7, 47]) (by kernel_rfl) (by kernel_rfl) (by kernel_rfl) (by decide) (by decide) rfl rfl (fun t' y' hy => ⟨noLf (env := keepE (kp [5, 7, 47]) (g9a t y n b w th pa)) hy (by kernel_rfl), noLf (env := keepE (kp [5, 7, 47]) (g9a t y n b w th pa)) hy (by kernel_rfl)⟩)) ?_
 rintro _ rfl
 refine .seq (OpsR.moveX (s := 44) (d := 48) (kp [5, 7, 44]) (by kernel_rfl) (by kernel_rfl) (by kernel_rfl) (by decide) (by decide) rfl (fun t' y' hy => ⟨noLf (env := keepE (kp [5, 7, 44]) (g9b t y n b w th pa)) hy (by kernel_rfl), noLf (env := keepE (kp [5, 7, 44]) (g9b t y n b w th pa)) hy (by kernel_rfl)⟩)) ?_
 rintro _ rfl
 exact OpsR.ev (base 133 0) zqb.1 zqb.2 (ans := [.c, .c, .c, .c, .c, .c, .c, .c]) (ps := []) (by kernel_rfl) zqa
end
theorem yy5 : zqc Try.f8 0 = .seq (.seq (zqr Try.f8 4) (.cond (.tmp 27) .skip (.exit 0))) (.seq (.block 1 (zqr Try.f8 6)) (zqr Try.f8 5)) := by kernel_rfl
theorem yy4 : zqc Try.f8 1 = .seq (.seq (zqr Try.f8 15) (.cond (.tmp 88) .skip (.exit 2))) (.seq (.block 3 (zqr Try.f8 17)) (zqr Try.f8 16)) := by kernel_rfl
theorem yy3 : zqc Try.f8 2 = .seq (.seq (zqr Try.f8 19) (.cond (.tmp 100) .skip (.exit 4))) (.seq (.block 5 (zqr Try.f8 21)) (zqr Try.f8 20)) := by kernel_rfl
theorem yt2 : Try.f8.body = some (.seq (zqr Try.f8 0) (.seq (zqr Try.f8 1) (.seq (zqr Try.f8 2) (.seq (.seq (zqr Try.f8 3) (.block 0 (.loop (zqc Try.f8 0)))) (.seq (.seq (zqr Try.f8 7) (.cond (.tmp 43) (.seq (zqr Try.f8 8) .ret) .skip)) (.seq (.region 9 (zql Try.f8 9) false) (.seq (.seq (zqr Try.f8 10) (.cond (.tmp 63) (.seq (zqr Try.f8 11) .ret) .skip)) (.seq (.seq (zqr Try.f8 12) (.cond (.tmp 65) (.seq (zqr Try.f8 13) .ret) .skip)) (.seq (.seq (zqr Try.f8 14) (.block 2 (.loop (zqc Try.f8 1)))) (.seq (.seq (zqr Try.f8 18) (.block 4 (.loop (zqc Try.f8 2)))) (.seq (zqr Try.f8 22) .ret))))))))))) := by kernel_rfl
def zR : Rw := ⟨some 1, [⟨0, false, some 0, [], some 0, []⟩]⟩
theorem yib (r : List Rw) : flat (r.map Rw.enc) = r.map Rw.enc := by
 induction r with
 | nil => rfl
 | cons q r ih => rw [List.map_cons, flat, List.flatMap_cons]; show [q.enc] ++ flat (r.map Rw.enc) = _; rw [ih]; rfl
theorem F2.refl {α : Type} {R : α → α → Prop} (h : ∀ x, R x x) : ∀ l : List α, F2 R l l
 | [] => .nil
 | x :: l => .cons (h x) (F2.refl h l)
theorem F2.app {α β : Type} {R : α → β → Prop} : ∀ {l : List α} {m : List β} {l' : List α} {m' : List β}, F2 R l m → F2 R l' m' → F2 R (l ++ l') (m ++ m')
 | _, _, _, _, .nil, h => h
 | _, _, _, _, .cons h t, h' => .cons h (F2.app t h')
theorem le_zR : Le Try.prog (share (.sl .own 45 (some 1) [.agg [ub 0, bb false, zqw, zqw]])) zR.enc := by
 refine Le.trans (y := .sl .any 45 (some 1) [.agg [ub 0, bb false, zqw, zqw]]) Le.fresh ?_
 exact Le.shEls (by simp) rfl (fun sz hu z hz => by
  have hz : z = .agg [ub 0, bb false, isl (some 0) [], sl (some 0) []] := zlv.1 hz
  subst hz
  exact hu (.agg [ub 0, bb false, zqw, zqw]) (by simp)) (.cons (Le.refl _) (.cons (Le.refl _) (.cons (Le.nil 36) (.cons (Le.nil 56) .nil))))
theorem yte (r : List Rw) : Le Try.prog (.sl .own 37 none (r.map Rw.enc ++ [share (.sl .own 45 (some 1) [.agg [ub 0, bb false, zqw, zqw]])])) (.sl .own 37 none ((r ++ [zR]).map Rw.enc)) := by
 refine Le.ownEls (by simp) (fun sz hu z hz => ?_) ?_
 ·obtain ⟨q, _, rfl⟩ := List.mem_map.1 hz
  have := hu (share (.sl .own 45 (some 1) [.agg [ub 0, bb false, zqw, zqw]])) (by simp)
  exact this
 ·rw [yib, zlq]
  have e : flat (r.map Rw.enc ++ [share (.sl .own 45 (some 1) [.agg [ub 0, bb false, zqw, zqw]])]) = r.map Rw.enc ++ [share (.sl .own 45 (some 1) [.agg [ub 0, bb false, zqw, zqw]])] := by
   show List.flatMap AV.ecells _ = _
   rw [List.flatMap_append]
   have := yib r
   unfold flat at this
   rw [this]; rfl
  rw [e]
  exact F2.app (F2.refl Le.refl _) (.cons le_zR .nil)
section
variable (t : List Rw) (md : List Idd) (a y n : Int) (A : Nat) (hA : IntKind.wrap i64 (Int.tmod a 4) = A) (hA4 : A < 4)
include hA hA4
theorem yka : ∀ (k i : Nat) (r : List Rw), i + k = A → r.length + k < 2 ^ 30 → Rnd Try.prog (cxN 133 0) (zqc Try.f8 0) (k + 1) [(1, ub a), (5, .box [ub y, it n]), (7, tsl none t), (8, isl none md), (9, .sl .own 37 none (r.map Rw.enc)), (10, it i)] (.exit 0) [(1, ub a), (5, .box [ub y, it n]), (7, tsl none t), (8, isl none md), (9, .sl .own 37 none ((r ++ List.replicate k zR).map Rw.enc))]
 | 0, i, r, h, hr => by
  rw [List.replicate_zero, List.append_nil, yy5]
  have h1 := yy7 t md a y n r i
  rw [hA, show decide ((i : Int) < (A : Int)) = false by rw [zlc]; omega] at h1
  exact .exit (.seqX (.seq h1 (.cond (b := false) rfl (.after (kp [1, 5, 7, 8, 9]) .exit))) (by simp)) (by simp)
 | k + 1, i, r, h, hr => by
  have ih := yka k (i + 1) (r ++ [zR]) (by omega) (by rw [zlg]; show _ + 1 + k < _; omega)
  rw [zlp, show [zR] ++ List.replicate k zR = List.replicate (k + 1) zR from rfl] at ih
  have h1 := yy7 t md a y n r i
  rw [hA, show decide ((i : Int) < (A : Int)) = true by rw [zlb]; omega] at h1
  have h6 := ff6_0 t md a y n r i (zlb (by rw [zla]; omega))
  have h6' : Tri Try.prog (cxN 133 0) (zqr Try.f8 6) [(1, ub a), (5, .box [ub y, it n]), (7, tsl none t), (8, isl none md), (9, .sl .own 37 none (r.map Rw.enc)), (10, it i)] .normal [(1, ub a), (5, .box [ub y, it n]), (7, tsl none t), (8, isl none md), (9, .sl .own 37 none ((r ++ [zR]).map Rw.enc)), (10, it i)] := .less h6 (.cons ⟨rfl, rfl, Le.refl _⟩ (.cons ⟨rfl, rfl, Le.refl _⟩ (.cons ⟨rfl, rfl, Le.refl _⟩ (.cons ⟨rfl, rfl, Le.refl _⟩ (.cons ⟨rfl, rfl, yte r⟩ (.cons ⟨rfl, rfl, Le.refl _⟩ .nil))))))
  have h5 := ff5_0 t md a y n (r ++ [zR]) i
  rw [up64 (by omega)] at h5
  refine .step ?_ ih
  rw [yy5]
  exact .seq (.seq h1 (.cond (b := true) rfl (.after (kp [1, 5, 7, 8, 9, 10]) .skip))) (.seq (.block (ex := .normal) h6' (.inr ⟨by simp, rfl⟩)) h5)
end
theorem yo5 {l : List Idd} {i : Nat} (h : i < l.length) : List.set (List.map Idd.enc l) i (setE (Idd.enc (l.getD i default)) 1 [it (-1)]) = (l.set i ⟨(l.getD i default).y, -1⟩).map Idd.enc := by
 rw [List.map_set]; rfl
theorem ysg {l : List Ps} {i : Nat} (h : i < l.length) : List.set (List.map Ps.enc l) i (setE (Ps.enc (l.getD i default)) 1 [it (-1)]) = (l.set i { l.getD i default with n := -1 }).map Ps.enc := by
 rw [List.map_set]; rfl
theorem yj9 (t : List Rw) (b : Int) (w : Bool) (pa : List Ps) : ∀ (k i : Nat) (th : List Idd), i + k = th.length → th.length < 2 ^ 60 → ∃ th', th'.length = th.length ∧ Rnd Try.prog (cxN 133 0) (zqc Try.f8 1) (k + 1) [(7, tsl none t), (11, .box (loO b w th pa)), (13, it i)] (.exit 2) [(7, tsl none t), (11, .box (loO b w th' pa))]
 | 0, i, th, h, hl => by
  refine ⟨th, rfl, ?_⟩
  rw [yy4]
  have h1 := yrl t b w th pa i
  rw [show decide ((i : Int) < ((th.map Idd.enc).length : Nat)) = false by rw [zlc]; rw [zla]; omega] at h1
  exact .exit (.seqX (.seq h1 (.cond (b := false) rfl (.after (kp [7, 11]) .exit))) (by simp)) (by simp)
 | k + 1, i, th, h, hl => by
  have hi : i < th.length := by omega
  obtain ⟨th', e, ih⟩ := yj9 t b w pa k (i + 1) (th.set i ⟨(th.getD i default).y, -1⟩) (by rw [zlx]; omega) (by rw [zlx]; exact hl)
  rw [zlx] at e
  refine ⟨th', e, ?_⟩
  have h1 := yrl t b w th pa i
  rw [show decide ((i : Int) < ((th.map Idd.enc).length : Nat)) = true by rw [zlb]; rw [zla]; omega] at h1
  have hg := yai (l := th) (i := i) hi
  have h17 := yzc t b w th pa i (zlb (by rw [zla]; omega)) (zlb (by rw [zla]; omega)) (by rw [zlf]; exact hg)
  rw [zlf, hg, show (0 : Nat) + 1 = 1 from rfl, yo5 hi] at h17
  have h17' : Tri Try.prog (cxN 133 0) (zqr Try.f8 17) [(7, tsl none t), (11, .box (loO b w th pa)), (13, it i)] .normal [(7, tsl none t), (11, .box (loO b w (th.set i ⟨(th.getD i default).y, -1⟩) pa)), (13, it i)] := by
   show Tri _ _ _ _ _ [(7, tsl none t), (11, .box [ub b, bb w, iow (some (th.set i ⟨(th.getD i default).y, -1⟩).length) (th.set i ⟨(th.getD i default).y, -1⟩), ow (some pa.length) pa]), (13, it i)]
   rw [zlx]; exact h17
  have h16 := yzd t b w (th.set i ⟨(th.getD i default).y, -1⟩) pa i
  rw [up64 (by omega)] at h16
  refine .step ?_ ih
  rw [yy4]
  exact .seq (.seq h1 (.cond (b := true) rfl (.after (kp [7, 11, 13]) .skip))) (.seq (.block (ex := .normal) h17' (.inr ⟨by simp, rfl⟩)) h16)
theorem yj8 (t : List Rw) (b : Int) (w : Bool) (th : List Idd) : ∀ (k i : Nat) (pa : List Ps), i + k = pa.length → pa.length < 2 ^ 60 → ∃ pa', pa'.length = pa.length ∧ Rnd Try.prog (cxN 133 0) (zqc Try.f8 2) (k + 1) [(7, tsl none t), (11, .box (loO b w th pa)), (14, it i)] (.exit 4) [(7, tsl none t), (11, .box (loO b w th pa'))]
 | 0, i, pa, h, hl => by
  refine ⟨pa, rfl, ?_⟩
  rw [yy3]
  have h1 := yrk t b w th pa i
  rw [show decide ((i : Int) < ((pa.map Ps.enc).length : Nat)) = false by rw [zlc]; rw [zla]; omega] at h1
  exact .exit (.seqX (.seq h1 (.cond (b := false) rfl (.after (kp [7, 11]) .exit))) (by simp)) (by simp)
 | k + 1, i, pa, h, hl => by
  have hi : i < pa.length := by omega
  obtain ⟨pa', e, ih⟩ := yj8 t b w th k (i + 1) (pa.set i { pa.getD i default with n := -1 }) (by rw [zlx]; omega) (by rw [zlx]; exact hl)
  rw [zlx] at e
  refine ⟨pa', e, ?_⟩
  have h1 := yrk t b w th pa i
  rw [show decide ((i : Int) < ((pa.map Ps.enc).length : Nat)) = true by rw [zlb]; rw [zla]; omega] at h1
  have hg := ybw (l := pa) (i := i) hi
  have h17 := yy9 t b w th pa i (zlb (by rw [zla]; omega)) (zlb (by rw [zla]; omega)) (by rw [zlf]; exact hg)
  rw [zlf, hg, show (0 : Nat) + 0 + 1 = 1 from rfl, ysg hi] at h17
  have h17' : Tri Try.prog (cxN 133 0) (zqr Try.f8 21) [(7, tsl none t), (11, .box (loO b w th pa)), (14, it i)] .normal [(7, tsl none t), (11, .box (loO b w th (pa.set i { pa.getD i default with n := -1 }))), (14, it i)] := by
   show Tri _ _ _ _ _ [(7, tsl none t), (11, .box [ub b, bb w, iow (some th.length) th, ow (some (pa.set i { pa.getD i default with n := -1 }).length) (pa.set i { pa.getD i default with n := -1 })]), (14, it i)]
   rw [zlx]; exact h17
  have h16 := yza t b w th (pa.set i { pa.getD i default with n := -1 }) i
  rw [up64 (by omega)] at h16
  refine .step ?_ ih
  rw [yy3]
  exact .seq (.seq h1 (.cond (b := true) rfl (.after (kp [7, 11, 14]) .skip))) (.seq (.block (ex := .normal) h17' (.inr ⟨by simp, rfl⟩)) h16)
theorem ys1 (t : List Rw) (y n : Int) (h0 : 0 ≤ y) (h1 : y ≤ 255) : HTh t y n (hasV t y n) := by
 unfold HTh hasV
 have w1 : IntKind.wrap i64 y = y := yae (by omega) (by omega)
 by_cases a : 1 ≤ y
 ·have w := yeo a h1
  by_cases b : y ≤ t.length
  ·by_cases c : 0 ≤ n
   ·have h := lth_0 t y n (zlb a)
    rw [w, w1] at h
    have h := h (zlb (by rw [zla]; exact b)) (zlb c) (zlb (by rw [zla]; omega)) (ycf (by omega))
    rw [zla] at h
    rw [zlb a, zlb b, zlb c]
    exact h
   ·rw [zlc c, Bool.and_false, Bool.false_and]
    have h := lth_1 t y n (zlb a)
    rw [w1] at h
    exact h (zlb (by rw [zla]; exact b)) (zlc c)
  ·rw [zlc b, Bool.and_false, Bool.false_and, Bool.false_and]
   have h := lth_2 t y n (zlb a)
   rw [w1] at h
   exact h (zlc (by rw [zla]; exact b))
 ·rw [zlc a, Bool.false_and, Bool.false_and, Bool.false_and]
  exact lth_3 t y n (zlc a)
theorem yn6 : zqc Try.f22 2 = .seq (.seq (zqr Try.f22 14) (.cond (.tmp 63) .skip (.exit 4))) (.seq (.block 5 (.seq (zqr Try.f22 16) (.seq (.seq (zqr Try.f22 17) (.cond (.tmp 80) (.seq (zqr Try.f22 18) .ret) .skip)) (.seq (zqr Try.f22 19) (.cond (.tmp 82) (.seq (zqr Try.f22 20) (.seq (zqr Try.f22 21) (.cond (.tmp 107) (.seq (zqr Try.f22 22) .ret) .skip))) .skip))))) (zqr Try.f22 15)) := by kernel_rfl
theorem yup : zqc Try.f22 3 = .seq (.seq (zqr Try.f22 24) (.cond (.tmp 112) .skip (.exit 6))) (.seq (.block 7 (.seq (zqr Try.f22 26) (.cond (.tmp 122) (.seq (zqr Try.f22 27) .ret) .skip))) (zqr Try.f22 25)) := by kernel_rfl
def canc (q p : Ps) : Bool := (q.y == p.y && q.n == p.n) && q.f == p.f && q.d != p.d
def ncO : Option Ps → Ps → Bool
 | none, _ => true
 | some q, p => !canc q p
def okPa (t : List Rw) : Option Ps → List Ps → Bool
 | _, [] => true
 | q, p :: l => !decide (1 < p.d) && hasV t p.y p.n && ncO q p && okPa t (some p) l
def prv (l : List Ps) (j : Nat) : Option Ps := if j = 0 then none else some (l.getD (j - 1) default)
theorem ypc (l : List Ps) (j : Nat) : prv l (j + 1) = some (l.getD j default) := by unfold prv; rw [if_neg (by omega)]; rfl
section
variable (t : List Rw) (w : List Idd) (y i : Int) (L : Lp) (hpa : L.pa.length < 2 ^ 60) (hth : L.th.length < 2 ^ 60) (hI : okI L)
include hpa hI in
theorem yqg : ∀ (m j : Nat), j + m = L.pa.length → Rnd Try.prog (cxN 193 0) (zqc Try.f22 2) (m + 1) (cD t w y i L ++ [(7, it j)]) (if okPa t (prv L.pa j) (L.pa.drop j) = true then .exit 4 else .ret) (if okPa t (prv L.pa j) (L.pa.drop j) = true then cD t w y i L else [(2, it 1)])
 | 0, j, h => by
  rw [zln (by omega), show okPa t (prv L.pa j) [] = true from rfl, if_pos rfl, if_pos rfl, yn6]
  have h1 := yrt t w y i L j
  rw [show decide ((j : Int) < ((L.pa.map Ps.enc).length : Nat)) = false by rw [zlc]; rw [zla]; omega] at h1
  exact .exit (.seqX (.seq h1 (.cond (b := false) rfl (.after (kp [0, 3, 4, 5, 6]) .exit))) (by simp)) (by simp)
 | m + 1, j, h => by
  have hj : j < L.pa.length := by omega
  have ih := yqg m (j + 1) (by omega)
  rw [ypc] at ih
  rw [yb2 _ hj default, okPa]
  have h1 := yrt t w y i L j
  rw [show decide ((j : Int) < ((L.pa.map Ps.enc).length : Nat)) = true by rw [zlb]; rw [zla]; omega] at h1
  have h1 := Tri.seq h1 (.cond (t := 63) (c := .skip) (d := .exit 4) (b := true) rfl (.after (kp [0, 3, 4, 5, 6, 7]) .skip))
  have h16 := ch16_0 t w y i L j (zlb (by rw [zla]; omega)) (ybw (by rw [zlf]; exact hj))
  rw [zlf] at h16
  have hm : L.pa.getD j default ∈ L.pa := by rw [zld, zle hj]; exact zlu hj
  generalize hp : L.pa.getD j default = p at *
  obtain ⟨y0, y1⟩ := hI ⟨p.y, p.n⟩ (List.mem_append_right _ (List.mem_map.2 ⟨p, hm, rfl⟩))
  have hT := ys1 t p.y p.n y0 y1
  -- the first test
  have h17 : Tri Try.prog (cxN 193 0) (zqr Try.f22 17) (cD t w y i L ++ [(7, it j), (8, .box [ub p.y, it p.n, bb p.f, ub p.d])]) .normal (cD t w y i L ++ [(7, it j), (8, .box [ub p.y, it p.n, bb p.f, ub p.d]), (80, bb (!(!decide (1 < p.d) && hasV t p.y p.n)))]) := by
   by_cases hd : 1 < p.d
   ·rw [zlb hd]
    exact ch17_0 t w y i L j p _ hT (zlb hd)
   ·rw [zlc hd]
    exact ch17_1 t w y i L j p _ hT (zlc hd)
  cases hA : (!decide (1 < p.d) && hasV t p.y p.n) with
  | false =>
   rw [Bool.false_and, Bool.false_and, if_neg (by simp), if_neg (by simp)]
   rw [hA] at h17
   refine .exit ?_ (by simp)
   rw [yn6]
   exact .seq h1 (.seqX (.block (ex := .ret) (.seq h16 (.seqX (.seq h17 (.cond (b := true) rfl (.seq (.weak (kp [0]) (ch18_0 t)) .ret))) (by simp))) (.inr ⟨by simp, rfl⟩)) (by simp))
  | true =>
   rw [Bool.true_and]
   rw [hA] at h17
   have h17 := Tri.seq h17 (.cond (t := 80) (c := .seq (zqr Try.f22 18) .ret) (d := .skip) (b := false) rfl (.after (kp [0, 3, 4, 5, 6, 7, 8]) .skip))
   have h19 := ch19_0 t w y i L j p
   have h15 := ch15_0 t w y i L j
   rw [up64 (by omega)] at h15
   rcases zlt j with hz | hz
   ·subst hz
    rw [show prv L.pa 0 = none from rfl, show ncO none p = true from rfl, Bool.true_and]
    refine .step ?_ ih
    rw [yn6]
    exact .seq h1 (.seq (.block (ex := .normal) (.seq h16 (.seq h17 (.seq h19 (.cond (b := false) rfl (.after (kp [0, 3, 4, 5, 6, 7]) .skip))))) (.inr ⟨by simp, rfl⟩)) h15)
   ·have wj : IntKind.wrap i64 ((j : Int) - 1) = ((j - 1 : Nat) : Int) := by rw [yae (by omega) (by omega)]; omega
    have h20 := yz9 t w y i L j p
    rw [wj, zlf] at h20
    have h20 := h20 (zlb (by rw [zla]; omega)) (ybw (by omega))
    rw [show prv L.pa j = some (L.pa.getD (j - 1) default) from if_neg (by omega)]
    rw [show decide ((0 : Int) < (j : Int)) = true from zlb (by omega)] at h19
    generalize L.pa.getD (j - 1) default = q at *
    have h21 : Tri Try.prog (cxN 193 0) (zqr Try.f22 21) (cD t w y i L ++ [(7, it j), (8, .box [ub p.y, it p.n, bb p.f, ub p.d]), (9, .box [ub q.y, it q.n, bb q.f, ub q.d])]) .normal (cD t w y i L ++ [(7, it j), (107, bb (canc q p))]) := by
     unfold canc
     cases e1 : (q.y == p.y && q.n == p.n) with
     | false => exact yz6 t w y i L j p q e1
     | true =>
      cases e2 : (q.f == p.f) with
      | false => exact yz7 t w y i L j p q e1 e2
      | true => exact yz8 t w y i L j p q e1 e2
    show Rnd _ _ _ _ _ (if (!canc q p && okPa t (some p) (L.pa.drop (j + 1))) = true then _ else _) (if (!canc q p && okPa t (some p) (L.pa.drop (j + 1))) = true then _ else _)
    cases hc : canc q p with
    | true =>
     rw [Bool.not_true, Bool.false_and, if_neg (by simp), if_neg (by simp)]
     rw [hc] at h21
     refine .exit ?_ (by simp)
     rw [yn6]
     exact .seq h1 (.seqX (.block (ex := .ret) (.seq h16 (.seq h17 (.seq h19 (.cond (b := true) rfl (.seq (.weak (kp [0, 3, 4, 5, 6, 7, 8]) h20) (.seq h21 (.cond (b := true) rfl (.seq (.weak (kp [0]) (yz5 t)) .ret)))))))) (.inr ⟨by simp, rfl⟩)) (by simp))
    | false =>
     rw [Bool.not_false, Bool.true_and]
     rw [hc] at h21
     refine .step ?_ ih
     rw [yn6]
     exact .seq h1 (.seq (.block (ex := .normal) (.seq h16 (.seq h17 (.seq h19 (.cond (b := true) rfl (.seq (.weak (kp [0, 3, 4, 5, 6, 7, 8]) h20) (.seq h21 (.cond (b := false) rfl (.after (kp [0, 3, 4, 5, 6, 7]) .skip)))))))) (.inr ⟨by simp, rfl⟩)) h15)
include hth hI in
theorem yqf : ∀ (m j : Nat), j + m = L.th.length → Rnd Try.prog (cxN 193 0) (zqc Try.f22 3) (m + 1) (cD t w y i L ++ [(10, it j)]) (if ((L.th.drop j).all fun q => hasV t q.y q.n) = true then .exit 6 else .ret) (if ((L.th.drop j).all fun q => hasV t q.y q.n) = true then cD t w y i L else [(2, it 1)])
 | 0, j, h => by
  rw [zln (by omega), List.all_nil, if_pos rfl, if_pos rfl, yup]
  have h1 := yrs t w y i L j
  rw [show decide ((j : Int) < ((L.th.map Idd.enc).length : Nat)) = false by rw [zlc]; rw [zla]; omega] at h1
  exact .exit (.seqX (.seq h1 (.cond (b := false) rfl (.after (kp [0, 3, 4, 5, 6]) .exit))) (by simp)) (by simp)
 | m + 1, j, h => by
  have hj : j < L.th.length := by omega
  have ih := yqf m (j + 1) (by omega)
  rw [yb2 _ hj default, List.all_cons]
  have h1 := yrs t w y i L j
  rw [show decide ((j : Int) < ((L.th.map Idd.enc).length : Nat)) = true by rw [zlb]; rw [zla]; omega] at h1
  have h1 := Tri.seq h1 (.cond (t := 112) (c := .skip) (d := .exit 6) (b := true) rfl (.after (kp [0, 3, 4, 5, 6, 10]) .skip))
  have hm : L.th.getD j default ∈ L.th := by rw [zld, zle hj]; exact zlu hj
  obtain ⟨y0, y1⟩ := hI _ (List.mem_append_left _ hm)
  have hT := ys1 t (L.th.getD j default).y (L.th.getD j default).n y0 y1
  have h26 := yz3 t w y i L j _ (by rw [zlf]; exact hT) (zlb (by rw [zla]; omega)) (yai (by rw [zlf]; exact hj))
  cases hA : hasV t (L.th.getD j default).y (L.th.getD j default).n with
  | false =>
   rw [Bool.false_and, if_neg (by simp), if_neg (by simp)]
   rw [hA] at h26
   refine .exit ?_ (by simp)
   rw [yup]
   exact .seq h1 (.seqX (.block (ex := .ret) (.seq h26 (.cond (b := true) rfl (.seq (.weak (kp [0]) (yz2 t)) .ret))) (.inr ⟨by simp, rfl⟩)) (by simp))
  | true =>
   rw [Bool.true_and]
   rw [hA] at h26
   have h15 := yz4 t w y i L j
   rw [up64 (by omega)] at h15
   refine .step ?_ ih
   rw [yup]
   exact .seq h1 (.seq (.block (ex := .normal) (.seq h26 (.cond (b := false) rfl (.after (kp [0, 3, 4, 5, 6, 10]) .skip))) (.inr ⟨by simp, rfl⟩)) h15)
end
theorem yyz (t : List Rw) (y n : Int) (h0 : 0 ≤ y) (h1 : y ≤ 255) (hL : ∀ r ∈ t, ∀ L ∈ r.l, L.th.length ≤ 4294967296 ∧ L.pa.length ≤ 4294967296) (h : hasV t y n = true) : HFo t y n (atV t y n).b (atV t y n).w (atV t y n).th (atV t y n).pa := by
 obtain ⟨a, b, d, e⟩ := ye5 h
 obtain ⟨r, hr, hx⟩ := yod h
 have hk := hL r hr _ hx
 have w := yeo a h1
 have := fdO_0 none t y n h0 h1 (by rw [h]; rfl)
 simp only [w] at this
 exact this hk.1 hk.2 (by rw [h]; rfl) (zlb (by rw [zla]; omega)) (ycf (by omega)) (zlb (by rw [zla]; omega)) (ye7 (by omega))
theorem yy0 (t : List Rw) (y n : Int) (h0 : 0 ≤ y) (h1 : y ≤ 255) (h : hasV t y n = false) : HFn t y n := fdN_0 none t y n h0 h1 (by rw [h]; rfl) (by rw [h]; rfl)
theorem yog (t : List Rw) : (List.all (List.map Rw.enc t) fun y => List.all (AV.ecells y) zqt) = true ∧ ∀ k, k = 1 → (List.all (List.map Rw.enc t) fun y => decide ((AV.ecells y).length = k)) = true := by
 refine ⟨?_, fun k hk => ?_⟩ <;> rw [zls] <;> intro x hx <;> obtain ⟨p, _, rfl⟩ := List.mem_map.1 hx
 ·rfl
 ·subst hk; rfl
theorem yzo (k : Nat) : cntV (List.replicate k zR) = k := by
 induction k with
 | zero => rfl
 | succ k ih =>
  unfold cntV at ih ⊢
  rw [List.replicate_succ, List.map_cons, List.sum_cons, ih]
  show 1 + k = k + 1
  omega
theorem yue (a b : List Rw) : cntV (a ++ b) = cntV a + cntV b := by
 unfold cntV; rw [zlq, List.sum_append]
theorem yps (c : Option Nat) (x : List Lx) (hx : x.length < 2 ^ 63) (hX : ∀ L ∈ x, OkX L) (a : Int) (ha0 : 0 ≤ a) (ha1 : a ≤ 255) (p : Idd) (h0 : 0 ≤ p.y) (h1 : p.y ≤ 255) : PureC Try.prog 8 [xsl c x, ub a, p.enc] (bb true) := by
 have hS := yos x hX
 obtain ⟨hcm, hc60⟩ := yzp x
 have hof : HOf c x (ofS x).m (ofS x).md := of_c c x hx hX
 generalize ofS x = S at *
 have hrw : ∀ r ∈ S.m, r.length < 2 ^ 60 := fun r hr => by have := ysh hr; omega
 have ht6 : (tb S.m).length = 6 := by rw [yfx, hS.m6]
 have hrow' : ∀ r ∈ tb S.m, r.l.length < 2 ^ 60 := fun r hr => by
  obtain ⟨q, hq, rfl⟩ := List.mem_map.1 hr
  exact hrw q hq
 have hOT := hS.okT
 have hm : ∀ r ∈ S.m, ∀ L ∈ r, L.ct = none ∧ L.cp = none := fun r hr L hL' => ⟨(hS.fine r hr L hL').ct, (hS.fine r hr L hL').cp⟩
 have hck : HCk0 (tb S.m) := by
  have h := yfr none (tb S.m) (by omega) (by omega) hrow' hOT
  rw [hS.check hrw (by omega)] at h; exact h
 have hsm : ∀ r ∈ tb S.m, ∀ L ∈ r.l, L.th.length ≤ 4294967296 ∧ L.pa.length ≤ 4294967296 := fun r hr L hL => by
  obtain ⟨l, hl, rfl⟩ := List.mem_map.1 hr
  have := hS.fine l hl L hL
  exact ⟨Nat.le_trans this.th (by omega), Nat.le_trans this.pa (by omega)⟩
 obtain ⟨an, rfl⟩ : ∃ an : Nat, a = an := ⟨a.toNat, by omega⟩
 have hA : IntKind.wrap i64 (Int.tmod (an : Int) 4) = ((an % 4 : Nat) : Int) := by
  have e : Int.tmod (an : Int) 4 = ((an % 4 : Nat) : Int) := by rw [Int.tmod_eq_emod_of_nonneg (by omega)]; rfl
  rw [e, yae (by omega) (by omega)]
 have hA4 : an % 4 < 4 := Nat.mod_lt _ (by omega)
 have hth := ys1 (tb S.m) p.y p.n h0 h1
 have hf1 := ff1_1 c x S.m S.md an p.y p.n hof hm
 generalize tb S.m = t at *
 have h2 := ff2_0 t S.md an p.y p.n rfl (zlb ⟨rfl, (yog t).1, (yog t).2 _ rfl⟩) (zlb ⟨rfl, by rw [zla, zla]; simp; omega, by simp⟩) (by rw [← zlq])
 have h2' : Tri Try.prog (cxN 133 0) (zqr Try.f8 2) [(1, ub an), (5, .box [ub p.y, it p.n]), (7, tsl none t), (8, isl none S.md)] .normal [(1, ub an), (5, .box [ub p.y, it p.n]), (7, tsl none t), (8, isl none S.md), (9, .sl .own 37 none (t.map Rw.enc))] := .less h2 (.cons ⟨rfl, rfl, Le.refl _⟩ (.cons ⟨rfl, rfl, Le.refl _⟩ (.cons ⟨rfl, rfl, Le.refl _⟩ (.cons ⟨rfl, rfl, Le.refl _⟩ (.cons ⟨rfl, rfl, Le.cap⟩ .nil)))))
 have hl0 := (yka t S.md an p.y p.n (an % 4) hA hA4 (an % 4) 0 t (by omega) (by omega)).loop
 have hcn : HCn (t ++ List.replicate (an % 4) zR) (((S.md.length + an % 4 : Nat)) : Int) := by
  have hcc : cntV (t ++ List.replicate (an % 4) zR) = S.md.length + an % 4 := by rw [yue, yzo, hcm]
  have := ybn none (t ++ List.replicate (an % 4) zR) (by omega) (by rw [zlg, zlw]; omega)
  rw [hcc] at this
  exact this
 have h7 := ff7_0 t S.md an p.y p.n (t ++ List.replicate (an % 4) zR) _ hcn
 rw [hA, zla, yae (by omega) (by omega), show ((((S.md.length + an % 4 : Nat)) : Int) != ((S.md.length : Int) + ((an % 4 : Nat) : Int))) = false by rw [bne_eq_false_iff_eq]; omega] at h7
 refine ycr ((base 133 0).ok zqb.1 zqb.2) Try.func8 rfl (by show 3 ≤ 133; omega) rfl yt2 rfl (ex := .ret) (env' := [(6, bb true)]) ?_ (by kernel_rfl)
 refine .seq (ff0_0 c x an p.y p.n) (.seq hf1 (.seq h2' (.seq (.seq (ff3_0 t S.md an p.y p.n t) (.block (ex := .exit 0) hl0 (.inl ⟨rfl, rfl⟩))) (.seq (.seq h7 (.cond (b := false) rfl (.after (kp [5, 7]) .skip))) ?_))))
 cases hh : hasV t p.y p.n with
 | false =>
  rw [hh] at hth
  have h9 := Tri.after (kp [5, 7, 11, 12]) (yy6 t p.y p.n (yy0 t p.y p.n h0 h1 hh))
  exact .seq h9 (.seq (.seq (yt5 t p.y p.n hth) (.cond (b := false) rfl (.after (kp [7, 11, 12]) .skip))) (.seqX (.seq (yt3 t) (.cond (b := true) rfl (.seq (.weak (kp [7, 11]) (yzf t)) .ret))) (by simp)))
 | true =>
  rw [hh] at hth
  have hfo := yyz t p.y p.n h0 h1 hsm hh
  obtain ⟨r, hr, hxm⟩ := yod hh
  have hk := hsm r hr _ hxm
  generalize atV t p.y p.n = L at *
  obtain ⟨th', e1, hl1⟩ := yj9 t L.b L.w L.pa L.th.length 0 L.th (Nat.zero_add _) (by omega)
  obtain ⟨pa', e2, hl2⟩ := yj8 t L.b L.w th' L.pa.length 0 L.pa (Nat.zero_add _) (by omega)
  exact .seq (ff9_0 t p.y p.n L.b L.w L.th L.pa hfo) (.seq (.seq (yt6 t p.y p.n L.b L.w L.th L.pa hth) (.cond (b := false) rfl (.after (kp [7, 11, 12]) .skip))) (.seq (.seq (yt4 t L.b L.w L.th L.pa) (.cond (b := false) rfl (.after (kp [7, 11]) .skip))) (.seq (.seq (yze t L.b L.w L.th L.pa) (.block (ex := .exit 2) hl1.loop (.inl ⟨rfl, rfl⟩))) (.seq (.seq (yzb t L.b L.w th' L.pa) (.block (ex := .exit 4) hl2.loop (.inl ⟨rfl, rfl⟩))) (.seq (yy8 t L.b L.w th' pa' hck (by simp) (by simp)) .ret)))))
theorem F2.cons' {α β : Type} {R : α → β → Prop} {x : α} {l : List α} {m : List β} (h : F2 R (x :: l) m) : ∃ y m', m = y :: m' ∧ R x y ∧ F2 R l m' := by
 cases h with
 | cons h t => exact ⟨_, _, rfl, h, t⟩
theorem F2.nil' {α β : Type} {R : α → β → Prop} {m : List β} (h : F2 R [] m) : m = [] := by cases h; rfl
section
variable {P : Program} {t : TypeId} {ys : List AV}
theorem yhp (m : Nat) {k : IntKind} (hu : P.underlying t = some (.int k)) (h : ya3 P (m + 1) t ys) : ∃ i, ys = [.atom (.int k i)] ∧ (Lit.int k i).wf = true := by
 unfold ya3 at h; rw [hu] at h; exact h
theorem yl7 (m : Nat) (hu : P.underlying t = some .bool) (h : ya3 P (m + 1) t ys) : ∃ b, ys = [.atom (.bool b)] := by
 unfold ya3 at h; rw [hu] at h; exact h
theorem yjm (m : Nat) {e : TypeId} (hu : P.underlying t = some (.slice e)) (h : ya3 P (m + 1) t ys) : ∃ xs, ys = [.sl .any e none xs] ∧ xs.length ≤ maxLen ∧ ∀ x ∈ xs, ∃ cs, x = elOf P e cs ∧ cs.length = P.cellsOf e ∧ ya3 P m e cs := by
 unfold ya3 at h; rw [hu] at h; exact h
theorem yho (m : Nat) {fs : Array Field} (hu : P.underlying t = some (.struct fs)) (h : ya3 P (m + 1) t ys) : ∃ yss : List (List AV), ys = yss.flatten ∧ F2 (fun f cs => ya3 P m f.type cs) fs.toList yss := by
 unfold ya3 at h; rw [hu] at h; exact h
end
theorem yd0 {α : Type} (f : α → AV) (Q : α → Prop) : ∀ xs : List AV, (∀ x ∈ xs, ∃ a, x = f a ∧ Q a) → ∃ l : List α, xs = l.map f ∧ ∀ a ∈ l, Q a
 | [], _ => ⟨[], rfl, by simp⟩
 | x :: xs, h => by
  obtain ⟨a, rfl, ha⟩ := h x (by simp)
  obtain ⟨l, rfl, hl⟩ := yd0 f Q xs fun y hy => h y (by simp [hy])
  exact ⟨a :: l, rfl, by
   intro b hb
   rcases List.mem_cons.1 hb with rfl | hb
   ·exact ha
   ·exact hl b hb⟩
def U8 (x : Int) : Prop := 0 ≤ x ∧ x ≤ 255
def I64 (x : Int) : Prop := -9223372036854775808 ≤ x ∧ x ≤ 9223372036854775807
theorem yot {i : Int} (h : (Lit.int .u8 i).wf = true) : U8 i := by
 simp only [Lit.wf, zlo, decide_eq_true_eq] at h
 exact h
theorem yyl {i : Int} (h : (Lit.int .i64 i).wf = true) : I64 i := by
 simp only [Lit.wf, zlo, decide_eq_true_eq] at h
 exact h
def Arg (P : Program) (t : TypeId) (x : AV) : Prop := ∃ ys, x = elOf P t ys ∧ ya3 P 8 t ys ∧ ys.length = P.cellsOf t
theorem args3 {P : Program} {s t u : TypeId} {xs : List AV} (h : F2 (Arg P) [s, t, u] xs) : ∃ x y z, xs = [x, y, z] ∧ Arg P s x ∧ Arg P t y ∧ Arg P u z := by
 obtain ⟨x, _, rfl, h1, h⟩ := F2.cons' h
 obtain ⟨y, _, rfl, h2, h⟩ := F2.cons' h
 obtain ⟨z, _, rfl, h3, h⟩ := F2.cons' h
 obtain rfl := F2.nil' h
 exact ⟨x, y, z, rfl, h1, h2, h3⟩
theorem yt9 {P : Program} {t : TypeId} (h : aggT P t = false) (x : AV) : elOf P t [x] = x := by unfold elOf; rw [if_neg (Bool.eq_false_iff.1 h)]; rfl
structure Ty5 (P : Program) : Prop where
 u3 : P.underlying 3 = some (.int .i64)
 u4 : P.underlying 4 = some .bool
 u5 : P.underlying 5 = some (.int .u8)
 u65 : P.underlying 65 = some (.slice 5)
 u23 : P.underlying 23 = some (.slice 67)
 u67 : ∃ a b c d e : Field, P.underlying 67 = some (.struct #[a, b, c, d, e]) ∧ a.type = 5 ∧ b.type = 4 ∧ c.type = 4 ∧ d.type = 65 ∧ e.type = 65
 a67 : aggT P 67 = true
 a5 : aggT P 5 = false
 a23 : aggT P 23 = false
theorem tyP5 : Ty5 Try.prog := ⟨Try.underlying3, Try.underlying4, Try.underlying5, Try.underlying65, Try.underlying23, ⟨_, _, _, _, _, Try.underlying67, rfl, rfl, rfl, rfl, rfl⟩, by kernel_rfl, by kernel_rfl, by kernel_rfl⟩
section
variable {P : Program} {m : Nat}
theorem yvx (T : Ty5 P) {ys : List AV} (h : ya3 P (m + 2) 65 ys) : ∃ l : List Int, ys = [u8l none l] ∧ (∀ p ∈ l, U8 p) ∧ l.length ≤ maxLen := by
 obtain ⟨xs, rfl, hl, hx⟩ := yjm (m + 1) T.u65 h
 obtain ⟨a, rfl, ha⟩ := yd0 ubE U8 xs fun x hx' => by
  obtain ⟨cs, rfl, _, hc⟩ := hx x hx'
  obtain ⟨i, rfl, w⟩ := yhp m T.u5 hc
  exact ⟨i, yt9 T.a5 _, yot w⟩
 exact ⟨a, rfl, ha, by simpa using hl⟩
theorem lx_of (T : Ty5 P) {cs : List AV} (h : ya3 P (m + 3) 67 cs) : ∃ L : Lx, .agg cs = Lx.enc L ∧ OkX L := by
 obtain ⟨fa, fb, fc, fd, fe, hu, ta, tb, tc, td, te⟩ := T.u67
 obtain ⟨yss, rfl, hf⟩ := yho (m + 2) hu h
 obtain ⟨c1, _, rfl, h1, hf⟩ := F2.cons' hf
 obtain ⟨c2, _, rfl, h2, hf⟩ := F2.cons' hf
 obtain ⟨c3, _, rfl, h3, hf⟩ := F2.cons' hf
 obtain ⟨c4, _, rfl, h4, hf⟩ := F2.cons' hf
 obtain ⟨c5, _, rfl, h5, hf⟩ := F2.cons' hf
 obtain rfl := F2.nil' hf
 rw [ta] at h1; rw [tb] at h2; rw [tc] at h3; rw [td] at h4; rw [te] at h5
 obtain ⟨y, rfl, w1⟩ := yhp (m + 1) T.u5 h1
 obtain ⟨b, rfl⟩ := yl7 (m + 1) T.u4 h2
 obtain ⟨w, rfl⟩ := yl7 (m + 1) T.u4 h3
 obtain ⟨th, rfl, t1, t2⟩ := yvx T h4
 obtain ⟨pa, rfl, p1, p2⟩ := yvx T h5
 have hy := yot w1
 exact ⟨⟨y, b, w, none, th, none, pa⟩, rfl, hy.1, hy.2, t1, p1, Nat.lt_of_le_of_lt t2 (by decide), Nat.lt_of_le_of_lt p2 (by decide)⟩
theorem arg23 (T : Ty5 P) {x : AV} (h : Arg P 23 x) : ∃ l : List Lx, x = xsl none l ∧ l.length < 2 ^ 63 ∧ ∀ L ∈ l, OkX L := by
 obtain ⟨ys, rfl, hs, _⟩ := h
 obtain ⟨xs, rfl, hl, hx⟩ := yjm 7 T.u23 hs
 obtain ⟨a, rfl, ha⟩ := yd0 Lx.enc OkX xs fun x hx' => by
  obtain ⟨cs, rfl, _, hc⟩ := hx x hx'
  obtain ⟨L, hL, ok⟩ := lx_of (m := 4) T hc
  exact ⟨L, by unfold elOf; rw [if_pos T.a67]; exact hL, ok⟩
 exact ⟨a, yt9 T.a23 _, Nat.lt_of_le_of_lt (by simpa using hl) (by decide), ha⟩
end
structure Ty6 (P : Program) : Prop where
 u36 : ∃ a b : Field, P.underlying 36 = some (.struct #[a, b]) ∧ a.type = 5 ∧ b.type = 3
 u60 : P.underlying 60 = some (.array 2 5)
 a36 : aggT P 36 = true
 a60 : aggT P 60 = true
theorem tyP6 : Ty6 Try.prog := ⟨⟨_, _, Try.underlying36, rfl, rfl⟩, Try.underlying60, by kernel_rfl, by kernel_rfl⟩
section
variable {P : Program} {m : Nat}
theorem id_of (T : Ty5 P) (U : Ty6 P) {cs : List AV} (h : ya3 P (m + 2) 36 cs) : ∃ p : Idd, cs = [ub p.y, it p.n] ∧ U8 p.y ∧ I64 p.n := by
 obtain ⟨fa, fb, hu, ta, tb⟩ := U.u36
 obtain ⟨yss, rfl, hf⟩ := yho (m + 1) hu h
 obtain ⟨c1, _, rfl, h1, hf⟩ := F2.cons' hf
 obtain ⟨c2, _, rfl, h2, hf⟩ := F2.cons' hf
 obtain rfl := F2.nil' hf
 rw [ta] at h1; rw [tb] at h2
 obtain ⟨y, rfl, w1⟩ := yhp m T.u5 h1
 obtain ⟨n, rfl, w2⟩ := yhp m T.u3 h2
 exact ⟨⟨y, n⟩, rfl, yot w1, yyl w2⟩
theorem arg36 (T : Ty5 P) (U : Ty6 P) {x : AV} (h : Arg P 36 x) : ∃ p : Idd, x = p.enc ∧ U8 p.y ∧ I64 p.n := by
 obtain ⟨ys, rfl, hs, _⟩ := h
 obtain ⟨p, rfl, h1, h2⟩ := id_of (m := 6) T U hs
 exact ⟨p, by unfold elOf; rw [if_pos U.a36]; rfl, h1, h2⟩
theorem arg5 (T : Ty5 P) {x : AV} (h : Arg P 5 x) : ∃ i, x = ub i ∧ U8 i := by
 obtain ⟨ys, rfl, hs, _⟩ := h
 obtain ⟨i, rfl, w⟩ := yhp 7 T.u5 hs
 exact ⟨i, yt9 T.a5 _, yot w⟩
end
end Tst
end

section
open Go Go.Lf Go.Proofs Tst
namespace Go.Proofs.Ytpjlfgacjbkbbaa.loopsFind
theorem LoopsFind_pure (xs : List AV) (h : F2 (fun t x => ∃ ys, x = elOf Try.prog t ys ∧ ya3 Try.prog 8 t ys ∧ ys.length = Try.prog.cellsOf t) Try.f8.params.toList xs) : PureC Try.prog 8 xs (.atom (.bool true)) := by
 rw [Try.params8] at h
 obtain ⟨x, y, z, rfl, h1, h2, h3⟩ := args3 (P := Try.prog) h
 obtain ⟨l, rfl, hl, hX⟩ := arg23 tyP5 h1
 obtain ⟨a, rfl, ha⟩ := arg5 tyP5 h2
 obtain ⟨p, rfl, hp, _⟩ := arg36 tyP5 tyP6 h3
 exact yps none l hl hX a ha.1 ha.2 p hp.1 hp.2
end Go.Proofs.Ytpjlfgacjbkbbaa.loopsFind
end
