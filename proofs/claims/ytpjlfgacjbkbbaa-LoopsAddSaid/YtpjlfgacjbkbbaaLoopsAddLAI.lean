/- Part 9 of the evaluator and of the contracts that the claim uses. -/
import Derived.Test.YtpjlfgacjbkbbaaLoopsAddLAA
import Derived.Test.YtpjlfgacjbkbbaaLoopsAddLAB
import Derived.Test.YtpjlfgacjbkbbaaLoopsAddLAC
import Derived.Test.YtpjlfgacjbkbbaaLoopsAddLAD
import Derived.Test.YtpjlfgacjbkbbaaLoopsAddLAE
import Derived.Test.YtpjlfgacjbkbbaaLoopsAddLAF
import Derived.Test.YtpjlfgacjbkbbaaLoopsAddLAG
import Derived.Test.YtpjlfgacjbkbbaaLoopsAddLAH
set_option linter.unusedVariables false
set_option linter.unusedSimpArgs false
set_option linter.constructorNameAsVariable false
set_option linter.unusedSectionVars false
open Go.IntKind (i64 u8)

section
open Go Go.Lf Go.Proofs
namespace Tst
noncomputable abbrev zqy : Array Oper := zql Try.f9 22
noncomputable abbrev y22 (k : Nat) : Oper := (zql Try.f9 22).toList.getD k default
theorem zri (k : Nat) (ks : List (Nat × Wk)) (env env3 : Env) (ans : List Ans) (ps : List Prop) (hp : ∀ q ∈ ps, q) (hg : (y22 k).guard = none) (h : (ybr Try.prog (cxN 184 0) zqy [y22 k] env ans).map (fun r => (keepE ks r.1, r.2)) = some (env3, ps)) : OpR Try.prog (cxN 184 0) (y22 k) env (· = env3) := by
 cases ho : ybr Try.prog (cxN 184 0) zqy [y22 k] env ans with
 | none => rw [ho] at h; cases h
 | some r =>
  rw [ho] at h
  injection h with h
  injection h with h1 h2
  obtain ⟨r1, r2⟩ := r
  simp only at h1 h2
  subst h1 h2
  exact OpR.keep _ (OpR.ev (ops := zqy) (base 184 0) zqb.1 zqb.2 hg ho hp)
section
variable (c : Option Nat) (x : List Lx) (m : List (List Lp)) (fr md : List Idd) (i y : Int) (b : Int) (w : Bool) (th : List Idd) (pa : List Ps) (p q : Int)
abbrev bs : Env := [(0, xsl c x), (5, iow none fr), (6, iow none md), (7, it i), (8, it y), (14, .box [ub p, it q])]
abbrev agF : AV := .agg [ub b, bb w, .sl .fresh 36 none (th.map Idd.enc), .sl .fresh 56 none (pa.map Ps.enc)]
abbrev tBad : AV := .sl .own 37 none (List.set (List.map gOW m) y.toNat (setE (List.getD (List.map gOW m) y.toNat AV.bad) 0 [AV.bad]))
abbrev rAp : AV := .sl .own 45 none ((m.getD y.toNat default).map Lp.encG ++ [agF b w th pa])
abbrev q4 : Prop := decide ((0 : Int) ≤ y ∧ y < ((List.map gOW m).length : Nat)) = true
abbrev q5 : Prop := decide (y.toNat < (List.map gOW m).length) = true
abbrev q5b : Prop := List.getD (List.map gOW m) y.toNat AV.bad = gOW (m.getD y.toNat default)
abbrev q6 : Prop := AV.agg ([ub b, bb w, .sl .own 36 none (th.map Idd.enc), .sl .own 56 none (pa.map Ps.enc)].map share) = agF b w th pa
abbrev q8 : Prop := decide (((m.getD y.toNat default).map Lp.encG).length + [agF b w th pa].length ≤ 4294967296) = true
variable (h4 : q4 m y) (h5 : q5 m y) (h5b : q5b m y) (h6 : q6 b w th pa) (h8 : q8 m y b w th pa)
abbrev q9 : Prop := decide ((0 : Int) ≤ y ∧ y < ((List.set (List.map gOW m) y.toNat (setE (List.getD (List.map gOW m) y.toNat AV.bad) 0 [AV.bad])).length : Nat)) = true
variable (h9 : q9 m y)
abbrev tNew : AV := .sl .own 37 none (List.set (List.set (List.map gOW m) y.toNat (setE (List.getD (List.map gOW m) y.toNat AV.bad) 0 [AV.bad])) y.toNat (setE (List.getD (List.set (List.map gOW m) y.toNat (setE (List.getD (List.map gOW m) y.toNat AV.bad) 0 [AV.bad])) y.toNat AV.bad) 0 [rAp m y b w th pa]))
abbrev q10 : Prop := decide (y.toNat < (List.set (List.map gOW m) y.toNat (setE (List.getD (List.map gOW m) y.toNat AV.bad) 0 [AV.bad])).length) = true
abbrev q11 : Prop := List.getD (List.set (List.map gOW m) y.toNat (setE (List.getD (List.map gOW m) y.toNat AV.bad) 0 [AV.bad])) y.toNat AV.bad = AV.bad
variable (h10 : q10 m y ∧ q11 m y)
abbrev R22 : Env → Prop := (· = (4, tNew m y b w th pa) :: bs c x fr md i y p q)
include h4 h5 h5b h6 h8 h9 h10
theorem fin22 : AnyR Try.prog (cxN 184 0) zqy (R22 c x m fr md i y b w th pa p q) 2 #[true, true, true, true, true, true, true, true, true, false, false] ([(4, tBad m y), (172, rAp m y b w th pa), (164, .al 4 [] none), (165, it y)] ++ bs c x fr md i y p q) := by
 refine AnyR.step [9] (by kernel_rfl) (by simp) fun k hk => ?_
 rw [zlv] at hk; subst hk
 refine ⟨y22 9, [(4, tBad m y), (172, rAp m y b w th pa), (173, .adr 4 [] y.toNat 0)] ++ bs c x fr md i y p q, by kernel_rfl, by kernel_rfl, zri 9 (kp [4, 172, 173, 0, 5, 6, 7, 8, 14]) _ _ [.b true, .c] [q9 m y] (allp h9 zqa) (by kernel_rfl) (by kernel_rfl), ?_⟩
 refine AnyR.step [10] (by kernel_rfl) (by simp) fun k hk => ?_
 rw [zlv] at hk; subst hk
 exact ⟨y22 10, _, by kernel_rfl, by kernel_rfl, zri 10 (kp [4, 0, 5, 6, 7, 8, 14]) _ ((4, tNew m y b w th pa) :: bs c x fr md i y p q) [.b true, .r .bad, .c] [q10 m y, q11 m y] (allp h10.1 (allp h10.2 zqa)) (by kernel_rfl) (by kernel_rfl), by kernel_rfl, rfl⟩
end
abbrev H22 (m : List (List Lp)) (y b : Int) (w : Bool) (th : List Idd) (pa : List Ps) : Prop := q4 m y ∧ q5 m y ∧ q5b m y ∧ q6 b w th pa ∧ q8 m y b w th pa ∧ q9 m y ∧ q10 m y ∧ q11 m y
abbrev A22 (c : Option Nat) (x : List Lx) (m : List (List Lp)) (fr md : List Idd) (i y : Int) (b : Int) (w : Bool) (th : List Idd) (pa : List Ps) (p q : Int) (n : Nat) (a : Array Bool) (e : Env) : Prop := AnyR Try.prog (cxN 184 0) zqy (R22 c x m fr md i y b w th pa p q) n a (e ++ bs c x fr md i y p q)
theorem br {R : Env → Prop} {f : Nat} {l : Array Bool} {e env1 : Env} (k : Nat) (ans : List Ans) {ps : List Prop} (hp : ∀ q ∈ ps, q) (h : AnyR Try.prog (cxN 184 0) zqy R f (l.setIfInBounds k true) env1) (h1 : zqy[k]? = some (y22 k) := by kernel_rfl) (h2 : (y22 k).guard = none := by kernel_rfl) (h3 : (ybr Try.prog (cxN 184 0) zqy [y22 k] e ans).map (fun r => (keepE (kp (env1.map Prod.fst)) r.1, r.2)) = some (env1, ps) := by kernel_rfl) : ∃ y env1, zqy[k]? = some y ∧ y.guard = none ∧ OpR Try.prog (cxN 184 0) y e (· = env1) ∧ AnyR Try.prog (cxN 184 0) zqy R f (l.setIfInBounds k true) env1 := ⟨y22 k, env1, h1, h2, zri k _ e env1 ans ps hp h2 h3, h⟩
theorem am {P : Nat → Prop} {a : Nat} {l : List Nat} (h : P a) (hl : ∀ i ∈ l, P i) : ∀ i ∈ a :: l, P i := List.forall_mem_cons.2 ⟨h, hl⟩
theorem an {P : Nat → Prop} : ∀ i ∈ ([] : List Nat), P i := fun _ h => nomatch h
section
variable {c : Option Nat} {x : List Lx} {m : List (List Lp)} {fr md : List Idd} {i y : Int} {b : Int} {w : Bool} {th : List Idd} {pa : List Ps} {p q : Int} (H : H22 m y b w th pa)
include H
theorem c4 : ∀ q ∈ [q4 m y], q := allp H.1 zqa
theorem c5 : ∀ q ∈ [q5 m y, q5b m y], q := allp H.2.1 (allp H.2.2.1 zqa)
theorem c6 : ∀ q ∈ [q6 b w th pa], q := allp H.2.2.2.1 zqa
theorem c8 : ∀ q ∈ [q5 m y, q5b m y, q5 m y, q5b m y, q8 m y b w th pa], q := allp H.2.1 (allp H.2.2.1 (allp H.2.1 (allp H.2.2.1 (allp H.2.2.2.2.1 zqa))))
theorem m303 : A22 c x m fr md i y b w th pa p q 2 #[true, true, true, true, true, true, true, true, true, false, false] [(4, tBad m y), (172, rAp m y b w th pa), (164, .al 4 [] none), (165, it y)] := fin22 c x m fr md i y b w th pa p q H.1 H.2.1 H.2.2.1 H.2.2.2.1 H.2.2.2.2.1 H.2.2.2.2.2.1 H.2.2.2.2.2.2
theorem m352 : A22 c x m fr md i y b w th pa p q 3 #[true, true, true, true, true, true, true, true, false, false, false] [(4, tGW m), (164, .al 4 [] none), (165, it y), (169, .al 4 [(y.toNat, 0)] none), (171, .sl .own 45 (some 1) [agF b w th pa])] := AnyR.step [8] (by kernel_rfl) (by simp) (am (br 8 [.c, .b true, .r (gOW (m.getD y.toNat default)), .b true, .r (gOW (m.getD y.toNat default)), .b true, .c] (c8 H) (m303 H)) an)
theorem m351 : A22 c x m fr md i y b w th pa p q 4 #[true, true, true, true, true, true, true, false, false, false, false] [(4, tGW m), (164, .al 4 [] none), (165, it y), (169, .al 4 [(y.toNat, 0)] none), (170, agF b w th pa)] := AnyR.step [7] (by kernel_rfl) (by simp) (am (br 7 [.c, .c, .c] zqa (m352 H)) an)
theorem m350 : A22 c x m fr md i y b w th pa p q 5 #[true, true, true, true, true, true, false, false, false, false, false] [(4, tGW m), (164, .al 4 [] none), (165, it y), (169, .al 4 [(y.toNat, 0)] none), (9, bxL b w th pa)] := AnyR.step [6] (by kernel_rfl) (by simp) (am (br 6 [.r (agF b w th pa), .c, .c] (c6 H) (m351 H)) an)
theorem m342 : A22 c x m fr md i y b w th pa p q 4 #[true, true, true, true, true, false, true, true, false, false, false] [(4, tGW m), (164, .al 4 [] none), (165, it y), (168, .adr 4 [] y.toNat 0), (171, .sl .own 45 (some 1) [agF b w th pa])] := AnyR.step [5] (by kernel_rfl) (by simp) (am (br 5 [.b true, .r (gOW (m.getD y.toNat default)), .c] (c5 H) (m352 H)) an)
theorem m341 : A22 c x m fr md i y b w th pa p q 5 #[true, true, true, true, true, false, true, false, false, false, false] [(4, tGW m), (164, .al 4 [] none), (165, it y), (168, .adr 4 [] y.toNat 0), (170, agF b w th pa)] := AnyR.step [5, 7] (by kernel_rfl) (by simp) (am (br 5 [.b true, .r (gOW (m.getD y.toNat default)), .c] (c5 H) (m351 H)) (am (br 7 [.c, .c, .c] zqa (m342 H)) an))
theorem m340 : A22 c x m fr md i y b w th pa p q 6 #[true, true, true, true, true, false, false, false, false, false, false] [(4, tGW m), (164, .al 4 [] none), (165, it y), (168, .adr 4 [] y.toNat 0), (9, bxL b w th pa)] := AnyR.step [5, 6] (by kernel_rfl) (by simp) (am (br 5 [.b true, .r (gOW (m.getD y.toNat default)), .c] (c5 H) (m350 H)) (am (br 6 [.r (agF b w th pa), .c, .c] (c6 H) (m341 H)) an))
theorem m332 : A22 c x m fr md i y b w th pa p q 5 #[true, true, true, true, false, false, true, true, false, false, false] [(4, tGW m), (164, .al 4 [] none), (165, it y), (166, .al 4 [] none), (167, it y), (171, .sl .own 45 (some 1) [agF b w th pa])] := AnyR.step [4] (by kernel_rfl) (by simp) (am (br 4 [.b true, .c] (c4 H) (m342 H)) an)
theorem m331 : A22 c x m fr md i y b w th pa p q 6 #[true, true, true, true, false, false, true, false, false, false, false] [(4, tGW m), (164, .al 4 [] none), (165, it y), (166, .al 4 [] none), (167, it y), (170, agF b w th pa)] := AnyR.step [4, 7] (by kernel_rfl) (by simp) (am (br 4 [.b true, .c] (c4 H) (m341 H)) (am (br 7 [.c, .c, .c] zqa (m332 H)) an))
theorem m330 : A22 c x m fr md i y b w th pa p q 7 #[true, true, true, true, false, false, false, false, false, false, false] [(4, tGW m), (164, .al 4 [] none), (165, it y), (166, .al 4 [] none), (167, it y), (9, bxL b w th pa)] := AnyR.step [4, 6] (by kernel_rfl) (by simp) (am (br 4 [.b true, .c] (c4 H) (m340 H)) (am (br 6 [.r (agF b w th pa), .c, .c] (c6 H) (m331 H)) an))
theorem m312 : A22 c x m fr md i y b w th pa p q 6 #[true, true, true, false, false, false, true, true, false, false, false] [(4, tGW m), (164, .al 4 [] none), (165, it y), (166, .al 4 [] none), (171, .sl .own 45 (some 1) [agF b w th pa])] := AnyR.step [3] (by kernel_rfl) (by simp) (am (br 3 [.c] zqa (m332 H)) an)
theorem m311 : A22 c x m fr md i y b w th pa p q 7 #[true, true, true, false, false, false, true, false, false, false, false] [(4, tGW m), (164, .al 4 [] none), (165, it y), (166, .al 4 [] none), (170, agF b w th pa)] := AnyR.step [3, 7] (by kernel_rfl) (by simp) (am (br 3 [.c] zqa (m331 H)) (am (br 7 [.c, .c, .c] zqa (m312 H)) an))
theorem m310 : A22 c x m fr md i y b w th pa p q 8 #[true, true, true, false, false, false, false, false, false, false, false] [(4, tGW m), (164, .al 4 [] none), (165, it y), (166, .al 4 [] none), (9, bxL b w th pa)] := AnyR.step [3, 6] (by kernel_rfl) (by simp) (am (br 3 [.c] zqa (m330 H)) (am (br 6 [.r (agF b w th pa), .c, .c] (c6 H) (m311 H)) an))
theorem m322 : A22 c x m fr md i y b w th pa p q 6 #[true, true, false, true, false, false, true, true, false, false, false] [(4, tGW m), (164, .al 4 [] none), (165, it y), (167, it y), (171, .sl .own 45 (some 1) [agF b w th pa])] := AnyR.step [2] (by kernel_rfl) (by simp) (am (br 2 [.c] zqa (m332 H)) an)
theorem m321 : A22 c x m fr md i y b w th pa p q 7 #[true, true, false, true, false, false, true, false, false, false, false] [(4, tGW m), (164, .al 4 [] none), (165, it y), (167, it y), (170, agF b w th pa)] := AnyR.step [2, 7] (by kernel_rfl) (by simp) (am (br 2 [.c] zqa (m331 H)) (am (br 7 [.c, .c, .c] zqa (m322 H)) an))
theorem m320 : A22 c x m fr md i y b w th pa p q 8 #[true, true, false, true, false, false, false, false, false, false, false] [(4, tGW m), (164, .al 4 [] none), (165, it y), (167, it y), (9, bxL b w th pa)] := AnyR.step [2, 6] (by kernel_rfl) (by simp) (am (br 2 [.c] zqa (m330 H)) (am (br 6 [.r (agF b w th pa), .c, .c] (c6 H) (m321 H)) an))
theorem m302 : A22 c x m fr md i y b w th pa p q 7 #[true, true, false, false, false, false, true, true, false, false, false] [(4, tGW m), (164, .al 4 [] none), (165, it y), (171, .sl .own 45 (some 1) [agF b w th pa])] := AnyR.step [2, 3] (by kernel_rfl) (by simp) (am (br 2 [.c] zqa (m312 H)) (am (br 3 [.c] zqa (m322 H)) an))
theorem m301 : A22 c x m fr md i y b w th pa p q 8 #[true, true, false, false, false, false, true, false, false, false, false] [(4, tGW m), (164, .al 4 [] none), (165, it y), (170, agF b w th pa)] := AnyR.step [2, 3, 7] (by kernel_rfl) (by simp) (am (br 2 [.c] zqa (m311 H)) (am (br 3 [.c] zqa (m321 H)) (am (br 7 [.c, .c, .c] zqa (m302 H)) an)))
theorem m300 : A22 c x m fr md i y b w th pa p q 9 #[true, true, false, false, false, false, false, false, false, false, false] [(4, tGW m), (164, .al 4 [] none), (165, it y), (9, bxL b w th pa)] := AnyR.step [2, 3, 6] (by kernel_rfl) (by simp) (am (br 2 [.c] zqa (m310 H)) (am (br 3 [.c] zqa (m320 H)) (am (br 6 [.r (agF b w th pa), .c, .c] (c6 H) (m301 H)) an)))
theorem m103 : A22 c x m fr md i y b w th pa p q 3 #[true, false, true, true, true, true, true, true, true, false, false] [(4, tBad m y), (172, rAp m y b w th pa), (164, .al 4 [] none)] := AnyR.step [1] (by kernel_rfl) (by simp) (am (br 1 [.c] zqa (m303 H)) an)
theorem m152 : A22 c x m fr md i y b w th pa p q 4 #[true, false, true, true, true, true, true, true, false, false, false] [(4, tGW m), (164, .al 4 [] none), (169, .al 4 [(y.toNat, 0)] none), (171, .sl .own 45 (some 1) [agF b w th pa])] := AnyR.step [1, 8] (by kernel_rfl) (by simp) (am (br 1 [.c] zqa (m352 H)) (am (br 8 [.c, .b true, .r (gOW (m.getD y.toNat default)), .b true, .r (gOW (m.getD y.toNat default)), .b true, .c] (c8 H) (m103 H)) an))
theorem m151 : A22 c x m fr md i y b w th pa p q 5 #[true, false, true, true, true, true, true, false, false, false, false] [(4, tGW m), (164, .al 4 [] none), (169, .al 4 [(y.toNat, 0)] none), (170, agF b w th pa)] := AnyR.step [1, 7] (by kernel_rfl) (by simp) (am (br 1 [.c] zqa (m351 H)) (am (br 7 [.c, .c, .c] zqa (m152 H)) an))
theorem m150 : A22 c x m fr md i y b w th pa p q 6 #[true, false, true, true, true, true, false, false, false, false, false] [(4, tGW m), (164, .al 4 [] none), (169, .al 4 [(y.toNat, 0)] none), (9, bxL b w th pa)] := AnyR.step [1, 6] (by kernel_rfl) (by simp) (am (br 1 [.c] zqa (m350 H)) (am (br 6 [.r (agF b w th pa), .c, .c] (c6 H) (m151 H)) an))
theorem m142 : A22 c x m fr md i y b w th pa p q 5 #[true, false, true, true, true, false, true, true, false, false, false] [(4, tGW m), (164, .al 4 [] none), (168, .adr 4 [] y.toNat 0), (171, .sl .own 45 (some 1) [agF b w th pa])] := AnyR.step [1, 5] (by kernel_rfl) (by simp) (am (br 1 [.c] zqa (m342 H)) (am (br 5 [.b true, .r (gOW (m.getD y.toNat default)), .c] (c5 H) (m152 H)) an))
theorem m141 : A22 c x m fr md i y b w th pa p q 6 #[true, false, true, true, true, false, true, false, false, false, false] [(4, tGW m), (164, .al 4 [] none), (168, .adr 4 [] y.toNat 0), (170, agF b w th pa)] := AnyR.step [1, 5, 7] (by kernel_rfl) (by simp) (am (br 1 [.c] zqa (m341 H)) (am (br 5 [.b true, .r (gOW (m.getD y.toNat default)), .c] (c5 H) (m151 H)) (am (br 7 [.c, .c, .c] zqa (m142 H)) an)))
theorem m140 : A22 c x m fr md i y b w th pa p q 7 #[true, false, true, true, true, false, false, false, false, false, false] [(4, tGW m), (164, .al 4 [] none), (168, .adr 4 [] y.toNat 0), (9, bxL b w th pa)] := AnyR.step [1, 5, 6] (by kernel_rfl) (by simp) (am (br 1 [.c] zqa (m340 H)) (am (br 5 [.b true, .r (gOW (m.getD y.toNat default)), .c] (c5 H) (m150 H)) (am (br 6 [.r (agF b w th pa), .c, .c] (c6 H) (m141 H)) an)))
theorem m132 : A22 c x m fr md i y b w th pa p q 6 #[true, false, true, true, false, false, true, true, false, false, false] [(4, tGW m), (164, .al 4 [] none), (166, .al 4 [] none), (167, it y), (171, .sl .own 45 (some 1) [agF b w th pa])] := AnyR.step [1, 4] (by kernel_rfl) (by simp) (am (br 1 [.c] zqa (m332 H)) (am (br 4 [.b true, .c] (c4 H) (m142 H)) an))
theorem m131 : A22 c x m fr md i y b w th pa p q 7 #[true, false, true, true, false, false, true, false, false, false, false] [(4, tGW m), (164, .al 4 [] none), (166, .al 4 [] none), (167, it y), (170, agF b w th pa)] := AnyR.step [1, 4, 7] (by kernel_rfl) (by simp) (am (br 1 [.c] zqa (m331 H)) (am (br 4 [.b true, .c] (c4 H) (m141 H)) (am (br 7 [.c, .c, .c] zqa (m132 H)) an)))
theorem m130 : A22 c x m fr md i y b w th pa p q 8 #[true, false, true, true, false, false, false, false, false, false, false] [(4, tGW m), (164, .al 4 [] none), (166, .al 4 [] none), (167, it y), (9, bxL b w th pa)] := AnyR.step [1, 4, 6] (by kernel_rfl) (by simp) (am (br 1 [.c] zqa (m330 H)) (am (br 4 [.b true, .c] (c4 H) (m140 H)) (am (br 6 [.r (agF b w th pa), .c, .c] (c6 H) (m131 H)) an)))
theorem m112 : A22 c x m fr md i y b w th pa p q 7 #[true, false, true, false, false, false, true, true, false, false, false] [(4, tGW m), (164, .al 4 [] none), (166, .al 4 [] none), (171, .sl .own 45 (some 1) [agF b w th pa])] := AnyR.step [1, 3] (by kernel_rfl) (by simp) (am (br 1 [.c] zqa (m312 H)) (am (br 3 [.c] zqa (m132 H)) an))
theorem m111 : A22 c x m fr md i y b w th pa p q 8 #[true, false, true, false, false, false, true, false, false, false, false] [(4, tGW m), (164, .al 4 [] none), (166, .al 4 [] none), (170, agF b w th pa)] := AnyR.step [1, 3, 7] (by kernel_rfl) (by simp) (am (br 1 [.c] zqa (m311 H)) (am (br 3 [.c] zqa (m131 H)) (am (br 7 [.c, .c, .c] zqa (m112 H)) an)))
theorem m110 : A22 c x m fr md i y b w th pa p q 9 #[true, false, true, false, false, false, false, false, false, false, false] [(4, tGW m), (164, .al 4 [] none), (166, .al 4 [] none), (9, bxL b w th pa)] := AnyR.step [1, 3, 6] (by kernel_rfl) (by simp) (am (br 1 [.c] zqa (m310 H)) (am (br 3 [.c] zqa (m130 H)) (am (br 6 [.r (agF b w th pa), .c, .c] (c6 H) (m111 H)) an)))
theorem m122 : A22 c x m fr md i y b w th pa p q 7 #[true, false, false, true, false, false, true, true, false, false, false] [(4, tGW m), (164, .al 4 [] none), (167, it y), (171, .sl .own 45 (some 1) [agF b w th pa])] := AnyR.step [1, 2] (by kernel_rfl) (by simp) (am (br 1 [.c] zqa (m322 H)) (am (br 2 [.c] zqa (m132 H)) an))
theorem m121 : A22 c x m fr md i y b w th pa p q 8 #[true, false, false, true, false, false, true, false, false, false, false] [(4, tGW m), (164, .al 4 [] none), (167, it y), (170, agF b w th pa)] := AnyR.step [1, 2, 7] (by kernel_rfl) (by simp) (am (br 1 [.c] zqa (m321 H)) (am (br 2 [.c] zqa (m131 H)) (am (br 7 [.c, .c, .c] zqa (m122 H)) an)))
theorem m120 : A22 c x m fr md i y b w th pa p q 9 #[true, false, false, true, false, false, false, false, false, false, false] [(4, tGW m), (164, .al 4 [] none), (167, it y), (9, bxL b w th pa)] := AnyR.step [1, 2, 6] (by kernel_rfl) (by simp) (am (br 1 [.c] zqa (m320 H)) (am (br 2 [.c] zqa (m130 H)) (am (br 6 [.r (agF b w th pa), .c, .c] (c6 H) (m121 H)) an)))
theorem m102 : A22 c x m fr md i y b w th pa p q 8 #[true, false, false, false, false, false, true, true, false, false, false] [(4, tGW m), (164, .al 4 [] none), (171, .sl .own 45 (some 1) [agF b w th pa])] := AnyR.step [1, 2, 3] (by kernel_rfl) (by simp) (am (br 1 [.c] zqa (m302 H)) (am (br 2 [.c] zqa (m112 H)) (am (br 3 [.c] zqa (m122 H)) an)))
theorem m101 : A22 c x m fr md i y b w th pa p q 9 #[true, false, false, false, false, false, true, false, false, false, false] [(4, tGW m), (164, .al 4 [] none), (170, agF b w th pa)] := AnyR.step [1, 2, 3, 7] (by kernel_rfl) (by simp) (am (br 1 [.c] zqa (m301 H)) (am (br 2 [.c] zqa (m111 H)) (am (br 3 [.c] zqa (m121 H)) (am (br 7 [.c, .c, .c] zqa (m102 H)) an))))
theorem m100 : A22 c x m fr md i y b w th pa p q 10 #[true, false, false, false, false, false, false, false, false, false, false] [(4, tGW m), (164, .al 4 [] none), (9, bxL b w th pa)] := AnyR.step [1, 2, 3, 6] (by kernel_rfl) (by simp) (am (br 1 [.c] zqa (m300 H)) (am (br 2 [.c] zqa (m110 H)) (am (br 3 [.c] zqa (m120 H)) (am (br 6 [.r (agF b w th pa), .c, .c] (c6 H) (m101 H)) an))))
theorem m203 : A22 c x m fr md i y b w th pa p q 3 #[false, true, true, true, true, true, true, true, true, false, false] [(4, tBad m y), (172, rAp m y b w th pa), (165, it y)] := AnyR.step [0] (by kernel_rfl) (by simp) (am (br 0 [.c] zqa (m303 H)) an)
theorem m252 : A22 c x m fr md i y b w th pa p q 4 #[false, true, true, true, true, true, true, true, false, false, false] [(4, tGW m), (165, it y), (169, .al 4 [(y.toNat, 0)] none), (171, .sl .own 45 (some 1) [agF b w th pa])] := AnyR.step [0, 8] (by kernel_rfl) (by simp) (am (br 0 [.c] zqa (m352 H)) (am (br 8 [.c, .b true, .r (gOW (m.getD y.toNat default)), .b true, .r (gOW (m.getD y.toNat default)), .b true, .c] (c8 H) (m203 H)) an))
theorem m251 : A22 c x m fr md i y b w th pa p q 5 #[false, true, true, true, true, true, true, false, false, false, false] [(4, tGW m), (165, it y), (169, .al 4 [(y.toNat, 0)] none), (170, agF b w th pa)] := AnyR.step [0, 7] (by kernel_rfl) (by simp) (am (br 0 [.c] zqa (m351 H)) (am (br 7 [.c, .c, .c] zqa (m252 H)) an))
theorem m250 : A22 c x m fr md i y b w th pa p q 6 #[false, true, true, true, true, true, false, false, false, false, false] [(4, tGW m), (165, it y), (169, .al 4 [(y.toNat, 0)] none), (9, bxL b w th pa)] := AnyR.step [0, 6] (by kernel_rfl) (by simp) (am (br 0 [.c] zqa (m350 H)) (am (br 6 [.r (agF b w th pa), .c, .c] (c6 H) (m251 H)) an))
theorem m242 : A22 c x m fr md i y b w th pa p q 5 #[false, true, true, true, true, false, true, true, false, false, false] [(4, tGW m), (165, it y), (168, .adr 4 [] y.toNat 0), (171, .sl .own 45 (some 1) [agF b w th pa])] := AnyR.step [0, 5] (by kernel_rfl) (by simp) (am (br 0 [.c] zqa (m342 H)) (am (br 5 [.b true, .r (gOW (m.getD y.toNat default)), .c] (c5 H) (m252 H)) an))
theorem m241 : A22 c x m fr md i y b w th pa p q 6 #[false, true, true, true, true, false, true, false, false, false, false] [(4, tGW m), (165, it y), (168, .adr 4 [] y.toNat 0), (170, agF b w th pa)] := AnyR.step [0, 5, 7] (by kernel_rfl) (by simp) (am (br 0 [.c] zqa (m341 H)) (am (br 5 [.b true, .r (gOW (m.getD y.toNat default)), .c] (c5 H) (m251 H)) (am (br 7 [.c, .c, .c] zqa (m242 H)) an)))
theorem m240 : A22 c x m fr md i y b w th pa p q 7 #[false, true, true, true, true, false, false, false, false, false, false] [(4, tGW m), (165, it y), (168, .adr 4 [] y.toNat 0), (9, bxL b w th pa)] := AnyR.step [0, 5, 6] (by kernel_rfl) (by simp) (am (br 0 [.c] zqa (m340 H)) (am (br 5 [.b true, .r (gOW (m.getD y.toNat default)), .c] (c5 H) (m250 H)) (am (br 6 [.r (agF b w th pa), .c, .c] (c6 H) (m241 H)) an)))
theorem m232 : A22 c x m fr md i y b w th pa p q 6 #[false, true, true, true, false, false, true, true, false, false, false] [(4, tGW m), (165, it y), (166, .al 4 [] none), (167, it y), (171, .sl .own 45 (some 1) [agF b w th pa])] := AnyR.step [0, 4] (by kernel_rfl) (by simp) (am (br 0 [.c] zqa (m332 H)) (am (br 4 [.b true, .c] (c4 H) (m242 H)) an))
theorem m231 : A22 c x m fr md i y b w th pa p q 7 #[false, true, true, true, false, false, true, false, false, false, false] [(4, tGW m), (165, it y), (166, .al 4 [] none), (167, it y), (170, agF b w th pa)] := AnyR.step [0, 4, 7] (by kernel_rfl) (by simp) (am (br 0 [.c] zqa (m331 H)) (am (br 4 [.b true, .c] (c4 H) (m241 H)) (am (br 7 [.c, .c, .c] zqa (m232 H)) an)))
theorem m230 : A22 c x m fr md i y b w th pa p q 8 #[false, true, true, true, false, false, false, false, false, false, false] [(4, tGW m), (165, it y), (166, .al 4 [] none), (167, it y), (9, bxL b w th pa)] := AnyR.step [0, 4, 6] (by kernel_rfl) (by simp) (am (br 0 [.c] zqa (m330 H)) (am (br 4 [.b true, .c] (c4 H) (m240 H)) (am (br 6 [.r (agF b w th pa), .c, .c] (c6 H) (m231 H)) an)))
theorem m212 : A22 c x m fr md i y b w th pa p q 7 #[false, true, true, false, false, false, true, true, false, false, false] [(4, tGW m), (165, it y), (166, .al 4 [] none), (171, .sl .own 45 (some 1) [agF b w th pa])] := AnyR.step [0, 3] (by kernel_rfl) (by simp) (am (br 0 [.c] zqa (m312 H)) (am (br 3 [.c] zqa (m232 H)) an))
theorem m211 : A22 c x m fr md i y b w th pa p q 8 #[false, true, true, false, false, false, true, false, false, false, false] [(4, tGW m), (165, it y), (166, .al 4 [] none), (170, agF b w th pa)] := AnyR.step [0, 3, 7] (by kernel_rfl) (by simp) (am (br 0 [.c] zqa (m311 H)) (am (br 3 [.c] zqa (m231 H)) (am (br 7 [.c, .c, .c] zqa (m212 H)) an)))
theorem m210 : A22 c x m fr md i y b w th pa p q 9 #[false, true, true, false, false, false, false, false, false, false, false] [(4, tGW m), (165, it y), (166, .al 4 [] none), (9, bxL b w th pa)] := AnyR.step [0, 3, 6] (by kernel_rfl) (by simp) (am (br 0 [.c] zqa (m310 H)) (am (br 3 [.c] zqa (m230 H)) (am (br 6 [.r (agF b w th pa), .c, .c] (c6 H) (m211 H)) an)))
theorem m222 : A22 c x m fr md i y b w th pa p q 7 #[false, true, false, true, false, false, true, true, false, false, false] [(4, tGW m), (165, it y), (167, it y), (171, .sl .own 45 (some 1) [agF b w th pa])] := AnyR.step [0, 2] (by kernel_rfl) (by simp) (am (br 0 [.c] zqa (m322 H)) (am (br 2 [.c] zqa (m232 H)) an))
theorem m221 : A22 c x m fr md i y b w th pa p q 8 #[false, true, false, true, false, false, true, false, false, false, false] [(4, tGW m), (165, it y), (167, it y), (170, agF b w th pa)] := AnyR.step [0, 2, 7] (by kernel_rfl) (by simp) (am (br 0 [.c] zqa (m321 H)) (am (br 2 [.c] zqa (m231 H)) (am (br 7 [.c, .c, .c] zqa (m222 H)) an)))
theorem m220 : A22 c x m fr md i y b w th pa p q 9 #[false, true, false, true, false, false, false, false, false, false, false] [(4, tGW m), (165, it y), (167, it y), (9, bxL b w th pa)] := AnyR.step [0, 2, 6] (by kernel_rfl) (by simp) (am (br 0 [.c] zqa (m320 H)) (am (br 2 [.c] zqa (m230 H)) (am (br 6 [.r (agF b w th pa), .c, .c] (c6 H) (m221 H)) an)))
theorem m202 : A22 c x m fr md i y b w th pa p q 8 #[false, true, false, false, false, false, true, true, false, false, false] [(4, tGW m), (165, it y), (171, .sl .own 45 (some 1) [agF b w th pa])] := AnyR.step [0, 2, 3] (by kernel_rfl) (by simp) (am (br 0 [.c] zqa (m302 H)) (am (br 2 [.c] zqa (m212 H)) (am (br 3 [.c] zqa (m222 H)) an)))
theorem m201 : A22 c x m fr md i y b w th pa p q 9 #[false, true, false, false, false, false, true, false, false, false, false] [(4, tGW m), (165, it y), (170, agF b w th pa)] := AnyR.step [0, 2, 3, 7] (by kernel_rfl) (by simp) (am (br 0 [.c] zqa (m301 H)) (am (br 2 [.c] zqa (m211 H)) (am (br 3 [.c] zqa (m221 H)) (am (br 7 [.c, .c, .c] zqa (m202 H)) an))))
theorem m200 : A22 c x m fr md i y b w th pa p q 10 #[false, true, false, false, false, false, false, false, false, false, false] [(4, tGW m), (165, it y), (9, bxL b w th pa)] := AnyR.step [0, 2, 3, 6] (by kernel_rfl) (by simp) (am (br 0 [.c] zqa (m300 H)) (am (br 2 [.c] zqa (m210 H)) (am (br 3 [.c] zqa (m220 H)) (am (br 6 [.r (agF b w th pa), .c, .c] (c6 H) (m201 H)) an))))
theorem m003 : A22 c x m fr md i y b w th pa p q 4 #[false, false, true, true, true, true, true, true, true, false, false] [(4, tBad m y), (172, rAp m y b w th pa)] := AnyR.step [0, 1] (by kernel_rfl) (by simp) (am (br 0 [.c] zqa (m103 H)) (am (br 1 [.c] zqa (m203 H)) an))
theorem m052 : A22 c x m fr md i y b w th pa p q 5 #[false, false, true, true, true, true, true, true, false, false, false] [(4, tGW m), (169, .al 4 [(y.toNat, 0)] none), (171, .sl .own 45 (some 1) [agF b w th pa])] := AnyR.step [0, 1, 8] (by kernel_rfl) (by simp) (am (br 0 [.c] zqa (m152 H)) (am (br 1 [.c] zqa (m252 H)) (am (br 8 [.c, .b true, .r (gOW (m.getD y.toNat default)), .b true, .r (gOW (m.getD y.toNat default)), .b true, .c] (c8 H) (m003 H)) an)))
theorem m051 : A22 c x m fr md i y b w th pa p q 6 #[false, false, true, true, true, true, true, false, false, false, false] [(4, tGW m), (169, .al 4 [(y.toNat, 0)] none), (170, agF b w th pa)] := AnyR.step [0, 1, 7] (by kernel_rfl) (by simp) (am (br 0 [.c] zqa (m151 H)) (am (br 1 [.c] zqa (m251 H)) (am (br 7 [.c, .c, .c] zqa (m052 H)) an)))
theorem m050 : A22 c x m fr md i y b w th pa p q 7 #[false, false, true, true, true, true, false, false, false, false, false] [(4, tGW m), (169, .al 4 [(y.toNat, 0)] none), (9, bxL b w th pa)] := AnyR.step [0, 1, 6] (by kernel_rfl) (by simp) (am (br 0 [.c] zqa (m150 H)) (am (br 1 [.c] zqa (m250 H)) (am (br 6 [.r (agF b w th pa), .c, .c] (c6 H) (m051 H)) an)))
theorem m042 : A22 c x m fr md i y b w th pa p q 6 #[false, false, true, true, true, false, true, true, false, false, false] [(4, tGW m), (168, .adr 4 [] y.toNat 0), (171, .sl .own 45 (some 1) [agF b w th pa])] := AnyR.step [0, 1, 5] (by kernel_rfl) (by simp) (am (br 0 [.c] zqa (m142 H)) (am (br 1 [.c] zqa (m242 H)) (am (br 5 [.b true, .r (gOW (m.getD y.toNat default)), .c] (c5 H) (m052 H)) an)))
theorem m041 : A22 c x m fr md i y b w th pa p q 7 #[false, false, true, true, true, false, true, false, false, false, false] [(4, tGW m), (168, .adr 4 [] y.toNat 0), (170, agF b w th pa)] := AnyR.step [0, 1, 5, 7] (by kernel_rfl) (by simp) (am (br 0 [.c] zqa (m141 H)) (am (br 1 [.c] zqa (m241 H)) (am (br 5 [.b true, .r (gOW (m.getD y.toNat default)), .c] (c5 H) (m051 H)) (am (br 7 [.c, .c, .c] zqa (m042 H)) an))))
theorem m040 : A22 c x m fr md i y b w th pa p q 8 #[false, false, true, true, true, false, false, false, false, false, false] [(4, tGW m), (168, .adr 4 [] y.toNat 0), (9, bxL b w th pa)] := AnyR.step [0, 1, 5, 6] (by kernel_rfl) (by simp) (am (br 0 [.c] zqa (m140 H)) (am (br 1 [.c] zqa (m240 H)) (am (br 5 [.b true, .r (gOW (m.getD y.toNat default)), .c] (c5 H) (m050 H)) (am (br 6 [.r (agF b w th pa), .c, .c] (c6 H) (m041 H)) an))))
theorem m032 : A22 c x m fr md i y b w th pa p q 7 #[false, false, true, true, false, false, true, true, false, false, false] [(4, tGW m), (166, .al 4 [] none), (167, it y), (171, .sl .own 45 (some 1) [agF b w th pa])] := AnyR.step [0, 1, 4] (by kernel_rfl) (by simp) (am (br 0 [.c] zqa (m132 H)) (am (br 1 [.c] zqa (m232 H)) (am (br 4 [.b true, .c] (c4 H) (m042 H)) an)))
theorem m031 : A22 c x m fr md i y b w th pa p q 8 #[false, false, true, true, false, false, true, false, false, false, false] [(4, tGW m), (166, .al 4 [] none), (167, it y), (170, agF b w th pa)] := AnyR.step [0, 1, 4, 7] (by kernel_rfl) (by simp) (am (br 0 [.c] zqa (m131 H)) (am (br 1 [.c] zqa (m231 H)) (am (br 4 [.b true, .c] (c4 H) (m041 H)) (am (br 7 [.c, .c, .c] zqa (m032 H)) an))))
theorem m030 : A22 c x m fr md i y b w th pa p q 9 #[false, false, true, true, false, false, false, false, false, false, false] [(4, tGW m), (166, .al 4 [] none), (167, it y), (9, bxL b w th pa)] := AnyR.step [0, 1, 4, 6] (by kernel_rfl) (by simp) (am (br 0 [.c] zqa (m130 H)) (am (br 1 [.c] zqa (m230 H)) (am (br 4 [.b true, .c] (c4 H) (m040 H)) (am (br 6 [.r (agF b w th pa), .c, .c] (c6 H) (m031 H)) an))))
theorem m012 : A22 c x m fr md i y b w th pa p q 8 #[false, false, true, false, false, false, true, true, false, false, false] [(4, tGW m), (166, .al 4 [] none), (171, .sl .own 45 (some 1) [agF b w th pa])] := AnyR.step [0, 1, 3] (by kernel_rfl) (by simp) (am (br 0 [.c] zqa (m112 H)) (am (br 1 [.c] zqa (m212 H)) (am (br 3 [.c] zqa (m032 H)) an)))
theorem m011 : A22 c x m fr md i y b w th pa p q 9 #[false, false, true, false, false, false, true, false, false, false, false] [(4, tGW m), (166, .al 4 [] none), (170, agF b w th pa)] := AnyR.step [0, 1, 3, 7] (by kernel_rfl) (by simp) (am (br 0 [.c] zqa (m111 H)) (am (br 1 [.c] zqa (m211 H)) (am (br 3 [.c] zqa (m031 H)) (am (br 7 [.c, .c, .c] zqa (m012 H)) an))))
theorem m010 : A22 c x m fr md i y b w th pa p q 10 #[false, false, true, false, false, false, false, false, false, false, false] [(4, tGW m), (166, .al 4 [] none), (9, bxL b w th pa)] := AnyR.step [0, 1, 3, 6] (by kernel_rfl) (by simp) (am (br 0 [.c] zqa (m110 H)) (am (br 1 [.c] zqa (m210 H)) (am (br 3 [.c] zqa (m030 H)) (am (br 6 [.r (agF b w th pa), .c, .c] (c6 H) (m011 H)) an))))
theorem m022 : A22 c x m fr md i y b w th pa p q 8 #[false, false, false, true, false, false, true, true, false, false, false] [(4, tGW m), (167, it y), (171, .sl .own 45 (some 1) [agF b w th pa])] := AnyR.step [0, 1, 2] (by kernel_rfl) (by simp) (am (br 0 [.c] zqa (m122 H)) (am (br 1 [.c] zqa (m222 H)) (am (br 2 [.c] zqa (m032 H)) an)))
theorem m021 : A22 c x m fr md i y b w th pa p q 9 #[false, false, false, true, false, false, true, false, false, false, false] [(4, tGW m), (167, it y), (170, agF b w th pa)] := AnyR.step [0, 1, 2, 7] (by kernel_rfl) (by simp) (am (br 0 [.c] zqa (m121 H)) (am (br 1 [.c] zqa (m221 H)) (am (br 2 [.c] zqa (m031 H)) (am (br 7 [.c, .c, .c] zqa (m022 H)) an))))
theorem m020 : A22 c x m fr md i y b w th pa p q 10 #[false, false, false, true, false, false, false, false, false, false, false] [(4, tGW m), (167, it y), (9, bxL b w th pa)] := AnyR.step [0, 1, 2, 6] (by kernel_rfl) (by simp) (am (br 0 [.c] zqa (m120 H)) (am (br 1 [.c] zqa (m220 H)) (am (br 2 [.c] zqa (m030 H)) (am (br 6 [.r (agF b w th pa), .c, .c] (c6 H) (m021 H)) an))))
theorem m002 : A22 c x m fr md i y b w th pa p q 9 #[false, false, false, false, false, false, true, true, false, false, false] [(4, tGW m), (171, .sl .own 45 (some 1) [agF b w th pa])] := AnyR.step [0, 1, 2, 3] (by kernel_rfl) (by simp) (am (br 0 [.c] zqa (m102 H)) (am (br 1 [.c] zqa (m202 H)) (am (br 2 [.c] zqa (m012 H)) (am (br 3 [.c] zqa (m022 H)) an))))
theorem m001 : A22 c x m fr md i y b w th pa p q 10 #[false, false, false, false, false, false, true, false, false, false, false] [(4, tGW m), (170, agF b w th pa)] := AnyR.step [0, 1, 2, 3, 7] (by kernel_rfl) (by simp) (am (br 0 [.c] zqa (m101 H)) (am (br 1 [.c] zqa (m201 H)) (am (br 2 [.c] zqa (m011 H)) (am (br 3 [.c] zqa (m021 H)) (am (br 7 [.c, .c, .c] zqa (m002 H)) an)))))
theorem m000 : A22 c x m fr md i y b w th pa p q 11 #[false, false, false, false, false, false, false, false, false, false, false] [(4, tGW m), (9, bxL b w th pa)] := AnyR.step [0, 1, 2, 3, 6] (by kernel_rfl) (by simp) (am (br 0 [.c] zqa (m100 H)) (am (br 1 [.c] zqa (m200 H)) (am (br 2 [.c] zqa (m010 H)) (am (br 3 [.c] zqa (m020 H)) (am (br 6 [.r (agF b w th pa), .c, .c] (c6 H) (m001 H)) an)))))
end
theorem ynj (c : Option Nat) (x : List Lx) (m : List (List Lp)) (fr md : List Idd) (i y : Int) (b : Int) (w : Bool) (th : List Idd) (pa : List Ps) (p q : Int) (h4 : q4 m y) (h5 : q5 m y) (h5b : q5b m y) (h6 : q6 b w th pa) (h8 : q8 m y b w th pa) (h9 : q9 m y) (h10 : q10 m y ∧ q11 m y) : A22 c x m fr md i y b w th pa p q 11 #[false, false, false, false, false, false, false, false, false, false, false] [(4, tGW m), (9, bxL b w th pa)] := m000 ⟨h4, h5, h5b, h6, h8, h9, h10⟩
theorem ypl {m : List (List Lp)} {i : Nat} (L : List AV) (hi : i < m.length) : List.set (List.set (List.map gOW m) i (setE (List.getD (List.map gOW m) i AV.bad) 0 [AV.bad])) i (setE (List.getD (List.set (List.map gOW m) i (setE (List.getD (List.map gOW m) i AV.bad) 0 [AV.bad])) i AV.bad) 0 [.sl .own 45 none L]) = (List.map gOW m).set i (.sl .own 45 none L) := by
 rw [List.set_set]
 congr 1
 have h1 : List.getD (List.map gOW m) i AV.bad = gOW (m.getD i default) := by simp [zld, hi]
 rw [h1]
 have h2 : List.getD (List.set (List.map gOW m) i (setE (gOW (m.getD i default)) 0 [AV.bad])) i AV.bad = AV.bad := by
  rw [zld, List.getElem?_set_self (by simpa using hi)]; rfl
 rw [h2]; rfl
theorem yp5 (l : List Idd) : List.map (mapE (remode zqx 11)) (List.map Idd.enc l) = List.map Idd.enc l := by rw [List.map_map]; rfl
theorem ytc (l : List Ps) : List.map (mapE (remode zqx 11)) (List.map Ps.enc l) = List.map Ps.enc l := by rw [List.map_map]; rfl
theorem of22 (c : Option Nat) (x : List Lx) (m : List (List Lp)) (fr md : List Idd) (i : Int) (y : Nat) (b : Int) (w : Bool) (th : List Idd) (pa : List Ps) (p q : Int) (hy : y < m.length) (hl : (m.getD y default).length < 100000) (L : Lp) (hL : L.b = b ∧ L.w = w ∧ L.th = th ∧ L.pa = pa) :
  Tri Try.prog (cxN 184 0) (.region 22 (zql Try.f9 22) true) ((4, tGW m) :: (9, bxL b w th pa) :: bs c x fr md i y p q) .normal ((4, tGW (m.set y (m.getD y default ++ [L]))) :: bs c x fr md i y p q) := by
 obtain ⟨rfl, rfl, rfl, rfl⟩ := hL
 have hg : List.getD (List.map gOW m) y AV.bad = gOW (m.getD y default) := by simp [zld, hy]
 have h := ynj c x m fr md i y L.b L.w L.th L.pa p q (zlb (by rw [zla]; omega)) (zlb (by rw [zla]; exact hy)) hg (by
   show AV.agg [ub L.b, bb L.w, .sl .fresh 36 none (List.map (mapE (remode zqx 11)) (List.map Idd.enc L.th)), .sl .fresh 56 none (List.map (mapE (remode zqx 11)) (List.map Ps.enc L.pa))] = _
   rw [yp5, ytc]) (zlb (by rw [zla]; show _ + 1 ≤ _; simp only [zlf]; omega)) (zlb (by rw [zlx, zla]; omega)) ⟨zlb (by rw [zlx, zla]; exact hy), by
   show List.getD (List.set (List.map gOW m) y (setE (List.getD (List.map gOW m) y AV.bad) 0 [AV.bad])) y AV.bad = AV.bad
   rw [hg, zld, List.getElem?_set_self (by simpa using hy)]; rfl⟩
 have e : tNew m y L.b L.w L.th L.pa = tGW (m.set y (m.getD y default ++ [L])) := by
  show AV.sl .own 37 none (List.set (List.set (List.map gOW m) y (setE (List.getD (List.map gOW m) y AV.bad) 0 [AV.bad])) y (setE (List.getD (List.set (List.map gOW m) y (setE (List.getD (List.map gOW m) y AV.bad) 0 [AV.bad])) y AV.bad) 0 [.sl .own 45 none ((m.getD y default).map Lp.encG ++ [agF L.b L.w L.th L.pa])])) = _
  rw [ypl _ hy]
  show _ = AV.sl .own 37 none ((m.set y (m.getD y default ++ [L])).map gOW)
  rw [List.map_set]
  show _ = AV.sl .own 37 none ((m.map gOW).set y (.sl .own 45 none ((m.getD y default ++ [L]).map Lp.encG)))
  rw [zlq]; rfl
 refine Tri.ofR (.any (base 184 0) (R := (· = (4, tGW (m.set y (m.getD y default ++ [L]))) :: bs c x fr md i y p q)) ?_) fun e h => h
 have hs : zqy.size = 11 := by kernel_rfl
 have ha : Array.replicate zqy.size false = #[false, false, false, false, false, false, false, false, false, false, false] := by kernel_rfl
 show AnyR Try.prog (cxN 184 0) zqy _ zqy.size (Array.replicate zqy.size false) _
 rw [ha, hs, ← e]
 exact h
theorem yj3 (l : List Idd) : ((l.map Idd.enc).all fun y => y.ecells.all zqt) = true := by rw [List.all_map, zls]; intro p _; rfl
theorem yrs (l : List Idd) (n : Nat) (hn : n = 2) : ((l.map Idd.enc).all fun y => decide (y.ecells.length = n)) = true := by subst hn; rw [List.all_map, zls]; intro p _; rfl
abbrev oE (c : Option Nat) (x : List Lx) (m : List (List Lp)) (fr md : List Idd) (i y : Int) (b : Int) (w : Bool) (th : List Idd) (pa : List Ps) : Env := [(0, xsl c x), (4, tGW m), (5, iow none fr), (6, iow none md), (7, it i), (8, it y), (9, bxL b w th pa)]
section
variable (c : Option Nat) (x : List Lx) (m : List (List Lp)) (fr md : List Idd) (i y : Int) (b : Int) (w : Bool) (th : List Idd) (pa : List Ps)
theorem of15 (k : Int) (n : Nat) (hn : n < fr.length) (hf : fr.length < 100000) : Tri Try.prog (cxN 184 0) (zqr Try.f9 15) (oE c x m fr md i y b w th pa ++ [(10, it k), (11, it n)]) .normal (oE c x m (fr.take n ++ fr.drop (n + 1)) md i y b w th pa ++ [(10, it k)]) := by
 have h := yw9 c x m fr md i y b w th pa k n
 rw [up64 (k := n) (by omega)] at h
 simp only [zlf, Nat.sub_zero, List.drop_zero] at h
 have e1 : List.map Idd.enc ([] : List Idd) ++ List.take n (List.map Idd.enc fr) = List.map Idd.enc ([] ++ List.take n fr) := by simp [List.map_take]
 have e2 : List.map Idd.enc ([] ++ List.take n fr) ++ List.take ((List.map Idd.enc fr).length - (n + 1)) (List.drop (n + 1) (List.map Idd.enc fr)) = List.map Idd.enc ([] ++ List.take n fr ++ List.take ((List.map Idd.enc fr).length - (n + 1)) (List.drop (n + 1) fr)) := by simp [List.map_take, List.map_drop]
 have t1 : List.take n (List.map Idd.enc fr) = List.map Idd.enc (List.take n fr) := (List.map_take ..).symm
 have t2 : List.take ((List.map Idd.enc fr).length - (n + 1)) (List.drop (n + 1) (List.map Idd.enc fr)) = List.map Idd.enc (List.take ((List.map Idd.enc fr).length - (n + 1)) (List.drop (n + 1) fr)) := by rw [← List.map_drop, ← List.map_take]
 have h' := h rfl (zlb (by omega)) (zlb ⟨Nat.zero_le _, by rw [zla]; omega⟩) (zlb (by rw [zla]; omega)) (zlb ⟨trivial, by rw [t1]; exact yj3 _, by rw [t1]; exact yrs _ _ rfl⟩) (zlb ⟨trivial, by rw [t1, zla, zla, zlh]; show 0 + _ ≤ _; omega, by decide⟩)
  (by rw [e1]) (zlb (by omega)) (zlb ⟨by rw [zla]; omega, zly _⟩) (zlb (by rw [zla]; omega)) (zlb ⟨trivial, by rw [t2]; exact yj3 _, by rw [t2]; exact yrs _ _ rfl⟩) (zlb ⟨trivial, by rw [t2, zla, zla, zlg, zlh, zlh, List.length_drop]; show 0 + _ + _ ≤ _; omega, by decide⟩) (by rw [e2])
 have e3 : ([] : List Idd) ++ List.take n fr ++ List.take ((List.map Idd.enc fr).length - (n + 1)) (List.drop (n + 1) fr) = fr.take n ++ fr.drop (n + 1) := by
  rw [List.nil_append, zla, zlm (l := List.drop (n + 1) fr) (by rw [List.length_drop]; omega)]
 rw [e3] at h'
 exact .less h' (.cons ⟨rfl, rfl, Le.refl _⟩ (.cons ⟨rfl, rfl, Le.refl _⟩ (.cons ⟨rfl, rfl, Le.cap⟩ (.cons ⟨rfl, rfl, Le.refl _⟩ (.cons ⟨rfl, rfl, Le.refl _⟩ (.cons ⟨rfl, rfl, Le.refl _⟩ (.cons ⟨rfl, rfl, Le.refl _⟩ (.cons ⟨rfl, rfl, Le.refl _⟩ .nil))))))))
end
theorem yww : zqc Try.f9 1 = .seq (.seq (zqr Try.f9 11) (.cond (.tmp 69) .skip (.exit 2))) (.seq (.block 3 (.seq (zqr Try.f9 13) (.seq (zqr Try.f9 14) (zqr Try.f9 15)))) (zqr Try.f9 12)) := by kernel_rfl
theorem ywv : zqc Try.f9 2 = .seq (.seq (zqr Try.f9 17) (.cond (.tmp 119) .skip (.exit 4))) (.seq (.block 5 (.seq (zqr Try.f9 19) (zqr Try.f9 20))) (zqr Try.f9 18)) := by kernel_rfl
def thF : List Int → List Idd → List Idd → List Idd × List Idd
 | [], fr, th => (fr, th)
 | p :: ps, fr, th => if fr.length = 0 then (fr, th) else thF ps (fr.take (p.toNat % fr.length) ++ fr.drop (p.toNat % fr.length + 1)) (th ++ [fr.getD (p.toNat % fr.length) default])
structure OkX (L : Lx) : Prop where
 y0 : 0 ≤ L.y
 y1 : L.y ≤ 255
 th : ∀ p ∈ L.th, 0 ≤ p ∧ p ≤ 255
 pa : ∀ p ∈ L.pa, 0 ≤ p ∧ p ≤ 255
 lt : L.th.length < 2 ^ 63
 lp : L.pa.length < 2 ^ 63
theorem yax {x : List Lx} {i : Nat} (h : i < x.length) : (x.map Lx.enc).getD i .bad = Lx.enc (x.getD i default) := by simp [zld, h]
theorem yn1 {x : List Int} {i : Nat} (h : i < x.length) : (x.map ubE).getD i .bad = ubE (x.getD i default) := by simp [zld, h]
theorem ykh {x : List Int} {i : Nat} (h : i < x.length) : x.getD i default ∈ x := by rw [zld, zle h]; exact zlu h
theorem drop_take (l : List Int) (n k : Nat) (h : k < l.length) (hn : k < n) : (l.take n).drop k = l.getD k default :: (l.take n).drop (k + 1) := by
 have h2 : k < (l.take n).length := by rw [zlh]; omega
 have e : (l.take n)[k]'h2 = l.getD k default := by
  rw [List.getElem_take, zld, zle h]; rfl
 rw [List.drop_eq_getElem_cons h2, e]
theorem ygm {p : Int} {n : Nat} (h0 : 0 ≤ p) (h1 : p ≤ 255) : Int.tmod (IntKind.wrap i64 p) (n : Int) = ((p.toNat % n : Nat) : Int) := by
 rw [yak (by omega) (by omega)]
 obtain ⟨a, rfl⟩ : ∃ a : Nat, p = a := ⟨p.toNat, by omega⟩
 rw [zlf, Int.tmod_eq_emod_of_nonneg (by omega)]
 rfl
section
variable (c : Option Nat) (x : List Lx) (m : List (List Lp)) (md : List Idd) (i : Nat) (y : Int) (b : Int) (w : Bool) (pa : List Ps) (hi : i < x.length) (hx : x.length < 2 ^ 63) (hL : OkX (x.getD i default))
abbrev thE (m : List (List Lp)) (fr md : List Idd) (i y : Int) (b : Int) (w : Bool) (th : List Idd) (pa : List Ps) (k : Int) : Env := oE c x m fr md i y b w th pa ++ [(10, it k)]
include hi hx hL
theorem yrc (fr th : List Idd) (k : Nat) (h : k < (x.getD i default).th.length → k < 4 → fr.length = 0) : Tri Try.prog (cxN 184 0) (zqc Try.f9 1) (thE c x m fr md i y b w th pa k) (.exit 2) (oE c x m fr md i y b w th pa) := by
 rw [yww]
 have go : Tri Try.prog (cxN 184 0) (zqr Try.f9 11) (thE c x m fr md i y b w th pa k) .normal (thE c x m fr md i y b w th pa k ++ [(69, bb false)]) := by
  by_cases h1 : k < (x.getD i default).th.length
  ·by_cases h2 : k < 4
   ·have := yro c x m fr md i y b w th pa k (zlb (by rw [zla]; omega)) (yax hi) (zlb (by rw [zla]; simp only [zlf]; omega)) (zlb (by omega))
    rw [show decide ((0 : Int) < ((List.map Idd.enc fr).length : Nat)) = false by rw [zlc]; rw [zla, h h1 h2]; decide] at this
    exact this
   ·exact yxe c x m fr md i y b w th pa k (zlb (by rw [zla]; omega)) (yax hi) (zlb (by rw [zla]; simp only [zlf]; omega)) (zlc (by omega))
  ·exact yxd c x m fr md i y b w th pa k (zlb (by rw [zla]; omega)) (yax hi) (zlc (by rw [zla]; simp only [zlf]; omega))
 exact .seqX (.seq go (.cond (b := false) rfl (.after (kp [0, 4, 5, 6, 7, 8, 9]) .exit))) (by simp)
theorem ysq (fr th : List Idd) (k : Nat) (h1 : k < (x.getD i default).th.length) (h2 : k < 4) (h3 : 0 < fr.length) (hf : fr.length < 100000) (ht : th.length < 100000) : Tri Try.prog (cxN 184 0) (zqc Try.f9 1) (thE c x m fr md i y b w th pa k) .normal (thE c x m (fr.take (((x.getD i default).th.getD k default).toNat % fr.length) ++ fr.drop (((x.getD i default).th.getD k default).toNat % fr.length + 1)) md i y b w (th ++ [fr.getD (((x.getD i default).th.getD k default).toNat % fr.length) default]) pa ((k + 1 : Nat) : Int)) := by
 rw [yww]
 have h11 := yro c x m fr md i y b w th pa k (zlb (by rw [zla]; omega)) (yax hi) (zlb (by rw [zla]; simp only [zlf]; omega)) (zlb (by omega))
 rw [show decide ((0 : Int) < ((List.map Idd.enc fr).length : Nat)) = true by rw [zlb]; rw [zla]; omega] at h11
 obtain ⟨p0, p1⟩ := hL.th _ (ykh h1)
 obtain ⟨f0, fr', rfl⟩ : ∃ f0 fr', fr = f0 :: fr' := by
  cases fr with
  | nil => simp at h3
  | cons f0 fr' => exact ⟨f0, fr', rfl⟩
 have h13 := yxb c x m f0 fr' md i y b w th pa k (zlb (by rw [zla]; omega)) (yax hi) (zlb (by rw [zla]; simp only [zlf]; omega)) (yn1 (by simp only [zlf]; exact h1))
 simp only [zlf] at h13
 rw [ygm p0 p1, zla] at h13
 generalize hn : ((x.getD i default).th.getD k default).toNat % (f0 :: fr').length = n at *
 have hnl : n < (f0 :: fr').length := by rw [← hn]; exact Nat.mod_lt _ h3
 have h14 := yxa c x m (f0 :: fr') md i y b w th pa k n (zlb (by rw [zla]; omega)) (zlb (by rw [zla]; simpa using hnl)) (yaj (by simpa using hnl)) rfl (zlb (by rw [zla, zla]; show _ + 1 ≤ _; omega)) (by rw [← zlq])
 simp only [zlf] at h14
 have h15 := of15 c x m (f0 :: fr') md i y b w (th ++ [(f0 :: fr').getD n default]) pa k n hnl hf
 have h12 := yxc c x m (List.take n (f0 :: fr') ++ List.drop (n + 1) (f0 :: fr')) md i y b w (th ++ [(f0 :: fr').getD n default]) pa k
 rw [up64 (by omega)] at h12
 exact .seq (.seq h11 (.cond (b := true) rfl (.after (kp [0, 4, 5, 6, 7, 8, 9, 10]) .skip))) (.seq (.block (ex := .normal) (.seq h13 (.seq h14 h15)) (.inr ⟨by simp, rfl⟩)) h12)
theorem yl9 : ∀ (j k : Nat) (fr th : List Idd), k + j = min 4 (x.getD i default).th.length → fr.length < 100000 → th.length < 50000 + k → Rnd Try.prog (cxN 184 0) (zqc Try.f9 1) (j + 1) (thE c x m fr md i y b w th pa k) (.exit 2) (oE c x m (thF (((x.getD i default).th.take 4).drop k) fr th).1 md i y b w (thF (((x.getD i default).th.take 4).drop k) fr th).2 pa)
 | 0, k, fr, th, h, _, _ => by
  rw [zln (by rw [zlh]; omega)]
  exact .exit (yrc c x m md i y b w pa hi hx hL fr th k (by omega)) (by simp)
 | j + 1, k, fr, th, h, hf, ht => by
  have h1 : k < (x.getD i default).th.length := by omega
  have hd := drop_take (x.getD i default).th 4 k h1 (by omega)
  rw [hd, thF]
  by_cases h3 : fr.length = 0
  ·rw [if_pos h3]
   exact .exit (yrc c x m md i y b w pa hi hx hL fr th k (fun _ _ => h3)) (by simp)
  ·rw [if_neg h3]
   have hmod := Nat.mod_lt ((x.getD i default).th.getD k default).toNat (by omega : 0 < fr.length)
   exact .step (ysq c x m md i y b w pa hi hx hL fr th k h1 (by omega) (by omega) hf (by omega)) (yl9 j (k + 1) _ _ (by omega) (by rw [zlg, zlh, List.length_drop]; omega) (by rw [zlg]; show _ + 1 < _; omega))
end
def psOf (md : List Idd) (yy p : Int) : Ps := ⟨(md.getD (p.toNat / 2 % md.length) default).y, (md.getD (p.toNat / 2 % md.length) default).n, Int.tmod p 2 == 1, Int.tmod (IntKind.wrap u8 (Int.tdiv yy 6)) 2⟩
theorem yqf {p : Int} {n : Nat} (h0 : 0 ≤ p) (h1 : p ≤ 255) : Int.tmod (IntKind.wrap i64 (IntKind.wrap u8 (Int.tdiv p 2))) (n : Int) = ((p.toNat / 2 % n : Nat) : Int) := by
 obtain ⟨a, rfl⟩ : ∃ a : Nat, p = a := ⟨p.toNat, by omega⟩
 have e : Int.tdiv (a : Int) 2 = ((a / 2 : Nat) : Int) := by rw [Int.tdiv_eq_ediv_of_nonneg (by omega)]; rfl
 have e2 : IntKind.wrap u8 ((a / 2 : Nat) : Int) = ((a / 2 : Nat) : Int) := yjo (by omega) (by omega)
 rw [e, e2, ygm (by omega) (by omega), zlf, zlf]
section
variable (c : Option Nat) (x : List Lx) (m : List (List Lp)) (fr : List Idd) (i : Nat) (y : Int) (b : Int) (w : Bool) (th : List Idd) (hi : i < x.length) (hx : x.length < 2 ^ 63) (hL : OkX (x.getD i default))
abbrev paE (m : List (List Lp)) (fr md : List Idd) (i y : Int) (b : Int) (w : Bool) (th : List Idd) (pa : List Ps) (k : Int) : Env := oE c x m fr md i y b w th pa ++ [(12, it k)]
include hi hx hL
theorem yrj (md : List Idd) (pa : List Ps) (k : Nat) (h : k < (x.getD i default).pa.length → k < 5 → md.length = 0) : Tri Try.prog (cxN 184 0) (zqc Try.f9 2) (paE c x m fr md i y b w th pa k) (.exit 4) (oE c x m fr md i y b w th pa) := by
 rw [ywv]
 have go : Tri Try.prog (cxN 184 0) (zqr Try.f9 17) (paE c x m fr md i y b w th pa k) .normal (paE c x m fr md i y b w th pa k ++ [(119, bb false)]) := by
  by_cases h1 : k < (x.getD i default).pa.length
  ·by_cases h2 : k < 5
   ·have := yrn c x m fr md i y b w th pa k (zlb (by rw [zla]; omega)) (yax hi) (zlb (by rw [zla]; simp only [zlf]; omega)) (zlb (by omega))
    rw [show decide ((0 : Int) < ((List.map Idd.enc md).length : Nat)) = false by rw [zlc]; rw [zla, h h1 h2]; decide] at this
    exact this
   ·exact yw7 c x m fr md i y b w th pa k (zlb (by rw [zla]; omega)) (yax hi) (zlb (by rw [zla]; simp only [zlf]; omega)) (zlc (by omega))
  ·exact yw6 c x m fr md i y b w th pa k (zlb (by rw [zla]; omega)) (yax hi) (zlc (by rw [zla]; simp only [zlf]; omega))
 exact .seqX (.seq go (.cond (b := false) rfl (.after (kp [0, 4, 5, 6, 7, 8, 9]) .exit))) (by simp)
theorem ys3 (md : List Idd) (pa : List Ps) (k : Nat) (h1 : k < (x.getD i default).pa.length) (h2 : k < 5) (h3 : 0 < md.length) (hf : md.length < 100000) (ht : pa.length < 100000) : Tri Try.prog (cxN 184 0) (zqc Try.f9 2) (paE c x m fr md i y b w th pa k) .normal (paE c x m fr md i y b w th (pa ++ [psOf md (x.getD i default).y ((x.getD i default).pa.getD k default)]) ((k + 1 : Nat) : Int)) := by
 rw [ywv]
 have h17 := yrn c x m fr md i y b w th pa k (zlb (by rw [zla]; omega)) (yax hi) (zlb (by rw [zla]; simp only [zlf]; omega)) (zlb (by omega))
 rw [show decide ((0 : Int) < ((List.map Idd.enc md).length : Nat)) = true by rw [zlb]; rw [zla]; omega] at h17
 obtain ⟨p0, p1⟩ := hL.pa _ (ykh h1)
 obtain ⟨f0, md', rfl⟩ : ∃ f0 md', md = f0 :: md' := by
  cases md with
  | nil => simp at h3
  | cons f0 md' => exact ⟨f0, md', rfl⟩
 have h19 := yw4 c x m fr (f0 :: md') i y b w th pa k (zlb (by rw [zla]; omega)) (yax hi) (zlb (by rw [zla]; simp only [zlf]; omega)) (yn1 (by simp only [zlf]; exact h1))
 simp only [zlf] at h19
 have h20 := yw3 c x m f0 fr md' i y b w th pa k ((x.getD i default).pa.getD k default)
 rw [yqf p0 p1] at h20
 simp only [zlf, zla] at h20
 have hnl : ((x.getD i default).pa.getD k default).toNat / 2 % (f0 :: md').length < (f0 :: md').length := Nat.mod_lt _ h3
 have h20' := h20 (zlb (by omega)) (zlb hnl) (yaj hnl) (zlb (by omega)) (yax hi) rfl (zlb (by show _ + 1 ≤ _; omega)) (by rw [← zlq])
 have h18 := yw5 c x m fr (f0 :: md') i y b w th (pa ++ [psOf (f0 :: md') (x.getD i default).y ((x.getD i default).pa.getD k default)]) k
 rw [up64 (by omega)] at h18
 exact .seq (.seq h17 (.cond (b := true) rfl (.after (kp [0, 4, 5, 6, 7, 8, 9, 12]) .skip))) (.seq (.block (ex := .normal) (.seq h19 h20') (.inr ⟨by simp, rfl⟩)) h18)
theorem ymt (md : List Idd) (hf : md.length < 100000) : ∀ (j k : Nat) (pa : List Ps), k + j = min 5 (x.getD i default).pa.length → pa.length < 50000 + k → Rnd Try.prog (cxN 184 0) (zqc Try.f9 2) (j + 1) (paE c x m fr md i y b w th pa k) (.exit 4) (oE c x m fr md i y b w th (if md.length = 0 then pa else pa ++ (((x.getD i default).pa.take 5).drop k).map (psOf md (x.getD i default).y)))
 | 0, k, pa, h, _ => by
  rw [zln (by rw [zlh]; omega), List.map_nil, List.append_nil, ite_self]
  exact .exit (yrj c x m fr i y b w th hi hx hL md pa k (by omega)) (by simp)
 | j + 1, k, pa, h, ht => by
  have h1 : k < (x.getD i default).pa.length := by omega
  by_cases h3 : md.length = 0
  ·rw [if_pos h3]
   exact .exit (yrj c x m fr i y b w th hi hx hL md pa k (fun _ _ => h3)) (by simp)
  ·have ih := ymt md hf j (k + 1) (pa ++ [psOf md (x.getD i default).y ((x.getD i default).pa.getD k default)]) (by omega) (by rw [zlg]; show _ + 1 < _; omega)
   rw [if_neg h3] at ih ⊢
   rw [drop_take (x.getD i default).pa 5 k h1 (by omega), List.map_cons]
   rw [zlp] at ih
   exact .step (ys3 c x m fr i y b w th hi hx hL md pa k h1 (by omega) (by omega) hf (by omega)) ih
end
structure OfS where
 m : List (List Lp)
 fr : List Idd
 md : List Idd
def ofL (S : OfS) (L : Lx) : Lp := ⟨if L.b then 1 else 0, L.w || (S.m.getD (L.y.toNat % 6) default).length == 0, none, (thF (L.th.take 4) S.fr []).2, none, if S.md.length = 0 then [] else (L.pa.take 5).map (psOf S.md L.y)⟩
def ofI (S : OfS) (L : Lx) : Idd := ⟨((L.y.toNat % 6 + 1 : Nat) : Int), ((S.m.getD (L.y.toNat % 6) default).length : Nat)⟩
def yaa (S : OfS) (L : Lx) : OfS := ⟨S.m.set (L.y.toNat % 6) (S.m.getD (L.y.toNat % 6) default ++ [ofL S L]), (thF (L.th.take 4) S.fr []).1 ++ [ofI S L], S.md ++ [ofI S L]⟩
theorem yiu : ∀ (ps : List Int) (fr th : List Idd), (thF ps fr th).1.length ≤ fr.length
 | [], fr, th => zly _
 | p :: ps, fr, th => by
  rw [thF]
  split
  ·exact zly _
  ·refine Nat.le_trans (yiu ps _ _) ?_
   rw [zlg, zlh, List.length_drop]; omega
structure OfOk (S : OfS) (i : Nat) : Prop where
 m6 : S.m.length = 6
 row : ∀ r ∈ S.m, r.length ≤ i
 fr : S.fr.length ≤ i
 md : S.md.length ≤ i
theorem OfOk.get {S : OfS} {i : Nat} (h : OfOk S i) (y : Nat) (hy : y < 6) : (S.m.getD y default).length ≤ i := by
 refine h.row _ ?_
 rw [zld, zle (by rw [h.m6]; exact hy)]; exact zlu _
theorem OfOk.step {S : OfS} {i : Nat} (h : OfOk S i) (L : Lx) : OfOk (yaa S L) (i + 1) := by
 have hy : L.y.toNat % 6 < 6 := Nat.mod_lt _ (by omega)
 refine ⟨by show (List.set _ _ _).length = 6; rw [zlx]; exact h.m6, ?_, ?_, ?_⟩
 ·intro r hr
  rcases List.mem_or_eq_of_mem_set hr with hr | rfl
  ·have := h.row r hr; omega
  ·rw [zlg]; have := h.get _ hy; show _ + 1 ≤ _; omega
 ·show (_ ++ [_]).length ≤ _
  rw [zlg]; have := yiu (L.th.take 4) S.fr []; have := h.fr; show _ + 1 ≤ _; omega
 ·show (_ ++ [_]).length ≤ _
  rw [zlg]; have := h.md; show _ + 1 ≤ _; omega
theorem ywx : zqc Try.f9 0 = (.seq (.seq (zqr Try.f9 4) (.cond (.tmp 23) .skip (.exit 0))) (.seq (.block 1 (.seq (zqr Try.f9 6) (.seq (zqr Try.f9 7) (.seq (.seq (zqr Try.f9 8) (.cond (.tmp 51) (zqr Try.f9 9) .skip)) (.seq (.seq (zqr Try.f9 10) (.block 2 (.loop (zqc Try.f9 1)))) (.seq (.seq (zqr Try.f9 16) (.block 4 (.loop (zqc Try.f9 2)))) (.seq (zqr Try.f9 21) (.seq (.region 22 (zql Try.f9 22) true) (.seq (zqr Try.f9 23) (zqr Try.f9 24)))))))))) (zqr Try.f9 5))) := by kernel_rfl
theorem yyg (b : Int) (w : Bool) : Le Try.prog (.box [ub b, bb w, zqw, zqw]) (bxL b w [] []) := Le.box (.cons (Le.refl _) (.cons (Le.refl _) (.cons (Le.trans (Le.nilOwn 36) Le.cap) (.cons (Le.trans (Le.nilOwn 56) Le.cap) .nil))))
section
variable (c : Option Nat) (x : List Lx) (hx : x.length < 2 ^ 63)
abbrev uE (S : OfS) (i : Int) : Env := [(0, xsl c x), (4, tGW S.m), (5, iow none S.fr), (6, iow none S.md), (7, it i)]
include hx
theorem yv3 (S : OfS) (i : Nat) (h : i < x.length → 60 ≤ i) : Tri Try.prog (cxN 184 0) (zqc Try.f9 0) (uE c x S i) (.exit 0) [(4, tGW S.m), (6, iow none S.md)] := by
 rw [ywx]
 have go : Tri Try.prog (cxN 184 0) (zqr Try.f9 4) (uE c x S i) .normal (uE c x S i ++ [(23, bb false)]) := by
  by_cases h1 : i < x.length
  ·have := ywy c x S.m S.fr S.md i (zlb (by rw [zla]; omega))
   rw [show decide ((i : Int) < 60) = false by rw [zlc]; have := h h1; omega] at this
   exact this
  ·exact of4_1 c x S.m S.fr S.md i (zlc (by rw [zla]; omega))
 exact .seqX (.seq go (.cond (b := false) rfl (.after (kp [4, 6]) .exit))) (by simp)
theorem ysk (S : OfS) (i : Nat) (h1 : i < x.length) (h2 : i < 60) (hS : OfOk S i) (hL : OkX (x.getD i default)) : Tri Try.prog (cxN 184 0) (zqc Try.f9 0) (uE c x S i) .normal (uE c x (yaa S (x.getD i default)) ((i + 1 : Nat) : Int)) := by
 rw [ywx]
 have hb : decide ((0 : Int) ≤ (i : Int) ∧ (i : Int) < ((List.map Lx.enc x).length : Nat)) = true := zlb (by rw [zla]; omega)
 have h4 := ywy c x S.m S.fr S.md i (zlb (by rw [zla]; omega))
 rw [show decide ((i : Int) < 60) = true by rw [zlb]; omega] at h4
 have h6 := of6_0 c x S.m S.fr S.md i hb (yax h1)
 generalize hLe : x.getD i default = L at *
 simp only [zlf, hLe] at h6
 have hyw : IntKind.wrap i64 (Int.tmod L.y 6) = ((L.y.toNat % 6 : Nat) : Int) := by
  have := ygm (p := L.y) (n := 6) hL.y0 hL.y1
  rw [yak (n := L.y) (by have := hL.y0; omega) (by have := hL.y1; omega)] at this
  show IntKind.wrap i64 (Int.tmod L.y ((6 : Nat) : Int)) = _
  rw [this]; exact yak (by omega) (by omega)
 rw [hyw] at h6
 have hy : L.y.toNat % 6 < 6 := Nat.mod_lt _ (by omega)
 generalize hyy : L.y.toNat % 6 = y at *
 have hym : y < S.m.length := by rw [hS.m6]; exact hy
 have hrow := hS.get y hy
 have hgo : List.getD (List.map gOW S.m) y AV.bad = gOW (S.m.getD y default) := by simp [zld, hym]
 have hw : (L.w || (S.m.getD y default).length == 0) = (ofL S L).w := by unfold ofL; rw [hyy]
 have h7 : Tri Try.prog (cxN 184 0) (zqr Try.f9 7) (uE c x S i ++ [(8, it y)]) .normal (oE c x S.m S.fr S.md i y 0 (ofL S L).w [] []) := by
  rw [← hw]
  cases hLw : L.w with
  | true =>
   have h := of7_0 c x S.m S.fr S.md i y hb (yax h1) (by simp only [zlf, hLe]; exact hLw)
   exact .less h (.cons ⟨rfl, rfl, Le.refl _⟩ (.cons ⟨rfl, rfl, Le.refl _⟩ (.cons ⟨rfl, rfl, Le.refl _⟩ (.cons ⟨rfl, rfl, Le.refl _⟩ (.cons ⟨rfl, rfl, Le.refl _⟩ (.cons ⟨rfl, rfl, Le.refl _⟩ (.cons ⟨rfl, rfl, yyg 0 true⟩ .nil)))))))
  | false =>
   have h := of7_1 c x S.m S.fr S.md i y hb (yax h1) (by simp only [zlf, hLe]; exact hLw) (zlb (by rw [zla]; omega)) (zlb (by rw [zla]; simpa using hym)) (by simp only [zlf]; exact hgo)
   simp only [zlf, zla] at h
   have e : ((((S.m.getD y default).length : Nat) : Int) == 0) = (false || (S.m.getD y default).length == 0) := by
    rw [Bool.false_or, Bool.eq_iff_iff]; simp
   rw [e] at h
   exact .less h (.cons ⟨rfl, rfl, Le.refl _⟩ (.cons ⟨rfl, rfl, Le.refl _⟩ (.cons ⟨rfl, rfl, Le.refl _⟩ (.cons ⟨rfl, rfl, Le.refl _⟩ (.cons ⟨rfl, rfl, Le.refl _⟩ (.cons ⟨rfl, rfl, Le.refl _⟩ (.cons ⟨rfl, rfl, yyg 0 _⟩ .nil)))))))
 have h8 := of8_0 c x S.m S.fr S.md i y 0 (ofL S L).w [] [] hb (yax h1)
 simp only [zlf, hLe] at h8
 have h89 : Tri Try.prog (cxN 184 0) (.seq (zqr Try.f9 8) (.cond (.tmp 51) (zqr Try.f9 9) .skip)) (oE c x S.m S.fr S.md i y 0 (ofL S L).w [] []) .normal (oE c x S.m S.fr S.md i y (ofL S L).b (ofL S L).w [] []) := by
  have eb : (ofL S L).b = if L.b then 1 else 0 := rfl
  rw [eb]
  cases hb : L.b with
  | true => exact .seq (.after (kp [0, 4, 5, 6, 7, 8, 9, 51]) h8) (.cond (b := true) (by show some (bb L.b) = _; rw [hb]) (.weak (kp [0, 4, 5, 6, 7, 8, 9]) (of9_0 c x S.m S.fr S.md i y 0 (ofL S L).w [] [])))
  | false => exact .seq (.after (kp [0, 4, 5, 6, 7, 8, 9, 51]) h8) (.cond (b := false) (by show some (bb L.b) = _; rw [hb]) (.after (kp [0, 4, 5, 6, 7, 8, 9]) .skip))
 have hLx : OkX (x.getD i default) := by rw [hLe]; exact hL
 have hfr := hS.fr
 have hmd := hS.md
 have hT := (yl9 c x S.m S.md i y (ofL S L).b (ofL S L).w [] h1 hx hLx (min 4 L.th.length) 0 S.fr [] (by rw [hLe]; omega) (by omega) (by decide)).loop
 simp only [hLe, List.drop_zero] at hT
 have hth : (thF (L.th.take 4) S.fr []).2 = (ofL S L).th := rfl
 rw [hth] at hT
 have hT2 : Tri Try.prog (cxN 184 0) (.seq (zqr Try.f9 10) (.block 2 (.loop (zqc Try.f9 1)))) (oE c x S.m S.fr S.md i y (ofL S L).b (ofL S L).w [] []) .normal (oE c x S.m (thF (L.th.take 4) S.fr []).1 S.md i y (ofL S L).b (ofL S L).w (ofL S L).th []) :=
  .seq (yxf c x S.m S.fr S.md i y (ofL S L).b (ofL S L).w [] []) (.block (ex := .exit 2) hT (.inl ⟨rfl, rfl⟩))
 have hP := (ymt c x S.m (thF (L.th.take 4) S.fr []).1 i y (ofL S L).b (ofL S L).w (ofL S L).th h1 hx hLx S.md (by omega) (min 5 L.pa.length) 0 [] (by rw [hLe]; omega) (by decide)).loop
 simp only [hLe, List.drop_zero, List.nil_append] at hP
 have hpa : (if S.md.length = 0 then [] else (L.pa.take 5).map (psOf S.md L.y)) = (ofL S L).pa := rfl
 rw [hpa] at hP
 have hP2 : Tri Try.prog (cxN 184 0) (.seq (zqr Try.f9 16) (.block 4 (.loop (zqc Try.f9 2)))) (oE c x S.m (thF (L.th.take 4) S.fr []).1 S.md i y (ofL S L).b (ofL S L).w (ofL S L).th []) .normal (oE c x S.m (thF (L.th.take 4) S.fr []).1 S.md i y (ofL S L).b (ofL S L).w (ofL S L).th (ofL S L).pa) :=
  .seq (yw8 c x S.m (thF (L.th.take 4) S.fr []).1 S.md i y (ofL S L).b (ofL S L).w (ofL S L).th []) (.block (ex := .exit 4) hP (.inl ⟨rfl, rfl⟩))
 have hfl := yiu (L.th.take 4) S.fr []
 generalize hfe : (thF (L.th.take 4) S.fr []).1 = fr at *
 have h21 := yw2 c x S.m fr S.md i y (ofL S L).b (ofL S L).w (ofL S L).th (ofL S L).pa (zlb (by rw [zla]; omega)) (zlb (by rw [zla]; simpa using hym)) (by simp only [zlf]; exact hgo)
 simp only [zlf, zla] at h21
 rw [up64 (by omega), yjo (by omega) (by omega)] at h21
 have h22 := of22 c x S.m fr S.md i y (ofL S L).b (ofL S L).w (ofL S L).th (ofL S L).pa ((y + 1 : Nat) : Int) ((S.m.getD y default).length : Nat) hym (by omega) (ofL S L) ⟨rfl, rfl, rfl, rfl⟩
 have h23 := yw1 c x (S.m.set y (S.m.getD y default ++ [ofL S L])) fr S.md i ((y + 1 : Nat) : Int) ((S.m.getD y default).length : Nat) rfl (zlb (by rw [zla, zla]; show _ + 1 ≤ _; omega)) (by rw [← zlq])
 have h24 := yw0 c x (S.m.set y (S.m.getD y default ++ [ofL S L])) (fr ++ [⟨((y + 1 : Nat) : Int), ((S.m.getD y default).length : Nat)⟩]) S.md i ((y + 1 : Nat) : Int) ((S.m.getD y default).length : Nat) rfl (zlb (by rw [zla, zla]; show _ + 1 ≤ _; omega)) (by rw [← zlq])
 have hi1 : ofI S L = ⟨((y + 1 : Nat) : Int), ((S.m.getD y default).length : Nat)⟩ := by unfold ofI; rw [hyy]
 have h5 := of5_0 c x (S.m.set y (S.m.getD y default ++ [ofL S L])) (fr ++ [⟨((y + 1 : Nat) : Int), ((S.m.getD y default).length : Nat)⟩]) (S.md ++ [⟨((y + 1 : Nat) : Int), ((S.m.getD y default).length : Nat)⟩]) i
 rw [up64 (by omega)] at h5
 have hst : yaa S L = ⟨S.m.set y (S.m.getD y default ++ [ofL S L]), fr ++ [⟨((y + 1 : Nat) : Int), ((S.m.getD y default).length : Nat)⟩], S.md ++ [⟨((y + 1 : Nat) : Int), ((S.m.getD y default).length : Nat)⟩]⟩ := by
  unfold yaa
  rw [hi1, hyy, hfe]
 rw [hst]
 refine .seq (.seq h4 (.cond (b := true) rfl (.after (kp [0, 4, 5, 6, 7]) .skip))) (.seq (.block (ex := .normal) (.seq h6 (.seq h7 (.seq h89 (.seq hT2 (.seq hP2 (.seq h21 (.seq ?_ (.seq h23 h24)))))))) (.inr ⟨by simp, rfl⟩)) h5)
 exact .weak (kp [4, 9, 0, 5, 6, 7, 8, 14]) (.after (kp [0, 4, 5, 6, 7, 14]) h22)
end
def S0 : OfS := ⟨List.replicate 6 [], [], []⟩
theorem ofOk0 : OfOk S0 0 := ⟨rfl, fun r hr => by rw [(List.mem_replicate.1 hr).2]; exact zly _, zly _, zly _⟩
def ofS (x : List Lx) : OfS := (x.take 60).foldl yaa S0
theorem ys9 : Try.f9.body = some (.seq (zqr Try.f9 0) (.seq (zqr Try.f9 1) (.seq (zqr Try.f9 2) (.seq (.seq (zqr Try.f9 3) (.block 0 (.loop (zqc Try.f9 0)))) (.seq (zqr Try.f9 25) .ret))))) := by kernel_rfl
theorem ylr (l : List Lx) (n k : Nat) (h : k < l.length) (hn : k < n) : (l.take n).drop k = l.getD k default :: (l.take n).drop (k + 1) := by
 have h2 : k < (l.take n).length := by rw [zlh]; omega
 have e : (l.take n)[k]'h2 = l.getD k default := by
  rw [List.getElem_take, zld, zle h]; rfl
 rw [List.drop_eq_getElem_cons h2, e]
section
variable (c : Option Nat) (x : List Lx) (hx : x.length < 2 ^ 63) (hX : ∀ L ∈ x, OkX L)
include hx hX
theorem yl0 : ∀ (j i : Nat) (S : OfS), i + j = min 60 x.length → OfOk S i → Rnd Try.prog (cxN 184 0) (zqc Try.f9 0) (j + 1) (uE c x S i) (.exit 0) [(4, tGW (((x.take 60).drop i).foldl yaa S).m), (6, iow none (((x.take 60).drop i).foldl yaa S).md)]
 | 0, i, S, h, _ => by
  rw [zln (by rw [zlh]; omega)]
  exact .exit (yv3 c x hx S i (by omega)) (by simp)
 | j + 1, i, S, h, hS => by
  have h1 : i < x.length := by omega
  rw [ylr x 60 i h1 (by omega), List.foldl_cons]
  have hL : OkX (x.getD i default) := hX _ (by rw [zld, zle h1]; exact zlu h1)
  exact .step (ysk c x hx S i h1 (by omega) hS hL) (yl0 j (i + 1) _ (by omega) (hS.step _))
theorem of_c : PureC Try.prog 9 [xsl c x] (.tup [tGW (ofS x).m, iow none (ofS x).md]) := by
 have hl := (yl0 c x hx hX (min 60 x.length) 0 S0 (by omega) ofOk0).loop
 rw [List.drop_zero] at hl
 refine ycc ((base 184 0).ok zqb.1 zqb.2) Try.func9 rfl (by show 1 ≤ 184; omega) rfl ys9 rfl (ex := .ret) (env' := [(2, .al 4 [] none), (3, .al 6 [] none), (4, tGW (ofS x).m), (6, iow none (ofS x).md)]) ?_ (by kernel_rfl)
 refine .seq (.after (kp [0]) (of0_0 c x)) (.seq (env1 := [(0, xsl c x), (4, tGW S0.m)]) (.less (.after (kp [0, 4]) (of1_0 c x)) (.cons ⟨rfl, rfl, Le.refl _⟩ (.cons ⟨rfl, rfl, ?_⟩ .nil))) (.seq (env1 := [(0, xsl c x), (4, tGW S0.m), (5, iow none []), (6, iow none [])]) (.less (.after (kp [0, 4, 5, 6]) (of2_0 c x S0.m)) (.cons ⟨rfl, rfl, Le.refl _⟩ (.cons ⟨rfl, rfl, Le.refl _⟩ (.cons ⟨rfl, rfl, Le.trans (Le.nilOwn 36) Le.cap⟩ (.cons ⟨rfl, rfl, Le.trans (Le.nilOwn 36) Le.cap⟩ .nil))))) (.seq (.seq (.after (kp [0, 4, 5, 6, 7]) (of3_0 c x S0.m [] [])) (.block (ex := .exit 0) hl (.inl ⟨rfl, rfl⟩))) (.seq (.after (kp [2, 3, 4, 6]) (ywz (ofS x).m (ofS x).md)) .ret))))
 refine Le.trans Le.cap ?_
 show Le Try.prog (.sl .own 37 none (List.replicate 6 zqw)) (.sl .own 37 none ((List.replicate 6 []).map gOW))
 rw [List.map_replicate]
 exact Le.ownRep rfl rfl (Le.trans (Le.nilOwn 45) Le.cap) _
end
structure MakeOk (t : List Rw) (o : List Idd) : Prop where
 sub : ∀ k p, o[k]? = some p → hasV t p.y p.n = true ∧ (∀ n', 0 ≤ n' → n' < p.n → (⟨p.y, n'⟩ : Idd) ∈ o.take k) ∧ ∀ q ∈ zqz (atV t p.y p.n), q ∈ o.take k
 all : ∀ y n, hasV t y n = true → (⟨y, n⟩ : Idd) ∈ o
theorem ye5 {m : List Int} {t : List Rw} : ∀ (k j : Nat), ybl m t k j = none → ∀ i, j ≤ i → i < j + k → ycj m t i = false
 | 0, j, _, i, h1, h2 => by omega
 | k + 1, j, h, i, h1, h2 => by
  rw [ybl] at h
  by_cases hc : ycj m t j = true
  ·rw [if_pos hc] at h; cases h
  ·rw [if_neg hc] at h
   by_cases e : i = j
   ·subst e; simpa using hc
   ·exact ye5 k (j + 1) h i (by omega) (by omega)
theorem yhs {t : List Rw} {o : List Idd} {m : List Int} (hO : MakeOk t o) (hM : OkM m t) (hl : t.length ≤ 6) (h : ya3 m t = none) : ∀ k p, p ∈ o.take k → p.n < gtM m p
 | 0, p, hp => by simp at hp
 | k + 1, p, hp => by
  have ih := yhs hO hM hl h k
  rw [List.take_add_one, List.mem_append] at hp
  rcases hp with hp | hp
  ·exact ih p hp
  ·cases hk : o[k]? with
   | none => rw [hk] at hp; simp at hp
   | some p' =>
    rw [hk] at hp
    have : p = p' := by simpa using hp
    subst this
    obtain ⟨h1, h2, h3⟩ := hO.sub k p hk
    obtain ⟨a, b, c, d⟩ := ye8 h1
    refine Classical.byContradiction fun hne => ?_
    have hi : (p.y - 1).toNat < t.length := by omega
    have hm0 := hM.le (p.y - 1).toNat hi
    have hg : gtM m p = m.getD (p.y - 1).toNat default := rfl
    have hn : p.n = gtM m p := by
     rcases Int.lt_or_le (gtM m p) p.n with hlt | hge
     ·have := ih ⟨p.y, gtM m p⟩ (h2 (gtM m p) (by rw [hg]; exact hm0.1) hlt)
      have e : gtM m ⟨p.y, gtM m p⟩ = gtM m p := rfl
      rw [e] at this
      exact absurd this (by show ¬ gtM m p < gtM m p; omega)
     ·omega
    have hc := ye5 t.length 0 h (p.y - 1).toNat (by omega) (by omega)
    have : ycj m t (p.y - 1).toNat = true := by
     unfold ycj
     rw [zlo]
     constructor
     ·rw [← hg, ← hn]
      have : p.n ≠ (((t.getD (p.y - 1).toNat default).l.length : Nat) : Int) := by omega
      simpa using this
     ·rw [← hg, ← hn]
      unfold ycv
      rw [zls]
      intro q hq
      exact zlb (ih q (h3 q hq))
    rw [this] at hc; cases hc
theorem yjt {f : Nat → Nat} : ∀ n, (∀ j, j < n → f j = 0) → ((List.range n).map f).sum = 0
 | 0, _ => rfl
 | n + 1, h => by rw [List.range_succ, zlq, List.sum_append, yjt n fun j hj => h j (by omega)]; simp [h n (by omega)]
theorem ymc {t : List Rw} {o : List Idd} {m : List Int} (hO : MakeOk t o) (hM : OkM m t) (hl : t.length ≤ 6) (h : ya3 m t = none) : remV m t = 0 := by
 refine yjt t.length fun i hi => ?_
 have hm0 := hM.le i hi
 rcases zlt ((t.getD i default).l.length - (m.getD i default).toNat) with h0 | h0
 ·exact h0
 ·exfalso
  have hh : hasV t ((i + 1 : Nat) : Int) (m.getD i default) = true := by
   unfold hasV
   have e : (((i + 1 : Nat) : Int) - 1).toNat = i := by omega
   rw [e]
   simp only [zlo, decide_eq_true_eq]
   omega
  have hin := hO.all _ _ hh
  have := yhs hO hM hl h o.length _ (by rw [List.take_length]; exact hin)
  have e : gtM m ⟨((i + 1 : Nat) : Int), m.getD i default⟩ = m.getD i default := by
   show m.getD (((i + 1 : Nat) : Int) - 1).toNat default = _
   rw [show (((i + 1 : Nat) : Int) - 1).toNat = i by omega]
  rw [e] at this
  exact absurd this (by show ¬ m.getD i default < m.getD i default; omega)
theorem yf8 {t : List Rw} (hL : OkL t) (hs : ∀ m, OkM m t → ya3 m t = none → remV m t = 0) : ∀ (f : Nat) (m : List Int), OkM m t → remV m t < f → (ycz t f m).length = remV m t
 | 0, m, _, h => by omega
 | f + 1, m, hM, h => by
  rw [ycz]
  cases hl : ya3 m t with
  | none => rw [hs m hM hl]; rfl
  | some i =>
   have hr := yj0 hL hM hl
   rw [List.length_cons, yf8 hL hs f (bump m i) (hM.bump hL hl) (by omega), hr]
theorem yn9 {t : List Rw} {o : List Idd} (hL : OkL t) (hO : MakeOk t o) : (ya7 t).length = cntV t := by
 unfold ya7
 rw [yf8 hL (fun m hM h => ymc hO hM hL.len h) _ _ (okM0 t) (by rw [rem0]; omega), rem0]
def tb (m : List (List Lp)) : List Rw := m.map fun l => ⟨none, l⟩
theorem yct (m : List (List Lp)) : (tb m).length = m.length := by simp [tb]
theorem yjs (m : List (List Lp)) (i : Nat) : ((tb m).getD i default).l = m.getD i default := by
 unfold tb
 simp only [zld, List.getElem?_map]
 cases m[i]? <;> rfl
theorem ycy (m : List (List Lp)) (y n : Int) : hasV (tb m) y n = true ↔ 1 ≤ y ∧ y ≤ m.length ∧ 0 ≤ n ∧ n < (m.getD (y - 1).toNat default).length := by
 unfold hasV
 rw [yjs, yct]
 simp [zlo, and_assoc]
theorem yjm (m : List (List Lp)) (y n : Int) : atV (tb m) y n = (m.getD (y - 1).toNat default).getD n.toNat default := by
 unfold atV; rw [yjs]
structure FineL (L : Lp) : Prop where
 b : L.b = 0 ∨ L.b = 1
 th : L.th.length ≤ 4
 pa : L.pa.length ≤ 5
 d : ∃ d : Int, (d = 0 ∨ d = 1) ∧ ∀ p ∈ L.pa, p.d = d
 ct : L.ct = none
 cp : L.cp = none
theorem FineL.pend {L : Lp} (h : FineL L) : ygx L.pa = true := by
 obtain ⟨d, hd, hp⟩ := h.d
 have hn : nf L.pa = L.pa := by
  refine nf_id (yy0 L.pa.length L.pa rfl fun i hi => ?_)
  have h1 : L.pa.getD i default ∈ L.pa := by rw [zld, zle (by omega)]; exact zlu _
  have h2 : L.pa.getD (i + 1) default ∈ L.pa := by rw [zld, zle hi]; exact zlu _
  rw [Bool.eq_false_iff]
  intro hc
  have := (yuy.1 hc).1
  have e := congrArg Ps.d this
  rw [hp _ h2] at e
  have e2 := hp _ h1
  generalize L.pa.getD i default = p at e e2
  have e3 : (if p.d == 1 then (0 : Int) else 1) = d := e
  rw [e2] at e3
  rcases hd with rfl | rfl <;> simp at e3
 unfold ygx
 rw [hn]
 simp only [decide_true, Bool.and_true, zlo, decide_eq_true_eq]
 refine ⟨by have := h.pa; omega, ?_⟩
 rw [zls]
 intro p hpp
 have := hp p hpp
 unfold dirB
 rcases hd with rfl | rfl <;> simp [this]
def thM (m : List (List Lp)) : List Idd := m.flatMap fun r => r.flatMap Lp.th
structure ValidS (S : OfS) : Prop where
 m6 : S.m.length = 6
 ok : MakeOk (tb S.m) S.md
 fr : ∀ p ∈ S.fr, p ∈ S.md
 nd : (S.fr ++ thM S.m).Nodup
 fine : ∀ r ∈ S.m, ∀ L ∈ r, FineL L
 nw : ∀ i, i < 6 → S.m.getD i default ≠ [] → ((S.m.getD i default).getD 0 default).w = true
 mdn : S.md.Nodup
theorem ygn : ∀ (ps : List Int) (fr th : List Idd), ((thF ps fr th).1 ++ (thF ps fr th).2).Perm (fr ++ th)
 | [], fr, th => List.Perm.refl _
 | p :: ps, fr, th => by
  rw [thF]
  split
  ·exact List.Perm.refl _
  ·rename_i h
   refine (ygn ps _ _).trans ?_
   have hn := Nat.mod_lt p.toNat (by omega : 0 < fr.length)
   generalize p.toNat % fr.length = n at hn
   have e : fr = fr.take n ++ fr.getD n default :: fr.drop (n + 1) := by
    conv => lhs; rw [← List.take_append_drop n fr]
    congr 1
    rw [List.drop_eq_getElem_cons hn, zld, zle hn]; rfl
   generalize fr.getD n default = q at *
   conv => rhs; rw [e]
   have h1 : (fr.take n ++ fr.drop (n + 1) ++ (th ++ [q])).Perm (q :: (fr.take n ++ fr.drop (n + 1) ++ th)) := by
    rw [← zlp]
    exact List.perm_append_singleton _ _
   refine h1.trans ?_
   have h2 : (fr.take n ++ q :: fr.drop (n + 1) ++ th).Perm (q :: (fr.take n ++ fr.drop (n + 1) ++ th)) := by
    have := (List.perm_middle (a := q) (l₁ := fr.take n) (l₂ := fr.drop (n + 1))).append_right th
    simp
   exact h2.symm
theorem yjr : ∀ (ps : List Int) (fr th : List Idd), (thF ps fr th).2.length ≤ th.length + ps.length
 | [], fr, th => by simp [thF]
 | p :: ps, fr, th => by
  rw [thF]
  split
  ·simp
  ·have := yjr ps (fr.take (p.toNat % fr.length) ++ fr.drop (p.toNat % fr.length + 1)) (th ++ [fr.getD (p.toNat % fr.length) default])
   rw [zlg] at this
   have e : [fr.getD (p.toNat % fr.length) default].length = 1 := rfl
   rw [List.length_cons]; omega
section
variable {S : OfS} {L : Lx} (hS : ValidS S) (hL : OkX L)
include hS
theorem ValidS.get (l : List Lp) (y0 : Nat) (hy : y0 < 6) (j : Nat) : (S.m.set y0 l).getD j default = if j = y0 then l else S.m.getD j default := by
 rw [zld, List.getElem?_set]
 have := hS.m6
 by_cases h : y0 = j
 ·subst h; rw [if_pos rfl, if_pos rfl, if_pos (by omega)]; rfl
 ·rw [if_neg h, if_neg (Ne.symm h), zld]
theorem ValidS.has_old {p : Idd} (h : p ∈ S.md) : hasV (tb S.m) p.y p.n = true := by
 obtain ⟨k, hk, e⟩ := List.mem_iff_getElem.1 h
 exact (hS.ok.sub k p (by rw [zle hk, e])).1
theorem ValidS.new (y0 : Nat) (hy : y0 < 6) : (⟨((y0 + 1 : Nat) : Int), ((S.m.getD y0 default).length : Nat)⟩ : Idd) ∉ S.md := by
 intro h
 have := (ycy _ _ _).1 (hS.has_old h)
 have e : ((((y0 + 1 : Nat) : Int) - 1).toNat) = y0 := by omega
 simp only [e] at this
 omega
theorem ValidS.ment {y n : Int} (h : hasV (tb S.m) y n = true) : ∀ q ∈ zqz (atV (tb S.m) y n), q ∈ S.md := by
 have hm := hS.ok.all y n h
 obtain ⟨k, hk, e⟩ := List.mem_iff_getElem.1 hm
 intro q hq
 exact List.mem_of_mem_take ((hS.ok.sub k ⟨y, n⟩ (by rw [zle hk, e])).2.2 q hq)
theorem ValidS.thM {p : Idd} (h : p ∈ thM S.m) : p ∈ S.md := by
 unfold Tst.thM at h
 obtain ⟨r, hr, h⟩ := List.mem_flatMap.1 h
 obtain ⟨K, hK, h⟩ := List.mem_flatMap.1 h
 obtain ⟨i, hi, rfl⟩ := List.mem_iff_getElem.1 hr
 obtain ⟨n, hn, rfl⟩ := List.mem_iff_getElem.1 hK
 have hg : S.m.getD i default = S.m[i] := by rw [zld, zle hi]; rfl
 have hh : hasV (tb S.m) ((i + 1 : Nat) : Int) (n : Nat) = true := by
  rw [ycy]
  have e : ((((i + 1 : Nat) : Int) - 1).toNat) = i := by omega
  rw [e, hg]; omega
 refine hS.ment hh p ?_
 rw [yjm]
 have e : ((((i + 1 : Nat) : Int) - 1).toNat) = i := by omega
 rw [e, hg, zlf, zld, zle hn]
 exact List.mem_append.2 (.inl h)
theorem ysp (y0 : Nat) (hy : y0 < 6) (l : Lp) : (Tst.thM (S.m.set y0 (S.m.getD y0 default ++ [l]))).Perm (l.th ++ Tst.thM S.m) := by
 have hl : y0 < S.m.length := by rw [hS.m6]; exact hy
 have hg : S.m.getD y0 default = S.m[y0] := by rw [zld, zle hl]; rfl
 have e : S.m = S.m.take y0 ++ S.m[y0] :: S.m.drop (y0 + 1) := by
  conv => lhs; rw [← List.take_append_drop y0 S.m]
  rw [List.drop_eq_getElem_cons hl]
 unfold Tst.thM
 rw [List.set_eq_take_append_cons_drop, if_pos hl, hg]
 conv => rhs; rw [e]
 simp only [List.flatMap_append, List.flatMap_cons, List.flatMap_nil, List.append_nil]
 have : ∀ (A B C D : List Idd), (A ++ (B ++ C ++ D)).Perm (C ++ (A ++ (B ++ D))) := by
  intro A B C D
  have h1 : (A ++ (B ++ C ++ D)) = (A ++ B) ++ (C ++ D) := by simp
  have h2 : (C ++ (A ++ (B ++ D))) = C ++ ((A ++ B) ++ D) := by simp
  rw [h1, h2]
  have := List.perm_append_comm_assoc (A ++ B) C D
  exact this
 exact this _ _ _ _
end
section
variable {S : OfS} {L : Lx} (hS : ValidS S) (hL : OkX L)
include hS
theorem yt2 (y0 : Nat) (hy : y0 < 6) (l : Lp) (y n : Int) : hasV (tb (S.m.set y0 (S.m.getD y0 default ++ [l]))) y n = true ↔ hasV (tb S.m) y n = true ∨ (y = ((y0 + 1 : Nat) : Int) ∧ n = ((S.m.getD y0 default).length : Nat)) := by
 rw [ycy, ycy, hS.get _ y0 hy, zlx]
 have h6 := hS.m6
 by_cases h : (y - 1).toNat = y0
 ·rw [if_pos h, h, zlg]
  have : [l].length = 1 := rfl
  constructor
  ·rintro ⟨a, b, c, d⟩
   by_cases e : n = ((S.m.getD y0 default).length : Nat)
   ·exact .inr ⟨by omega, e⟩
   ·exact .inl ⟨a, b, c, by omega⟩
  ·rintro (⟨a, b, c, d⟩ | ⟨a, b⟩)
   ·exact ⟨a, b, c, by omega⟩
   ·exact ⟨by omega, by omega, by omega, by omega⟩
 ·rw [if_neg h]
  constructor
  ·exact .inl
  ·rintro (a | ⟨a, b⟩)
   ·exact a
   ·exfalso; apply h; omega
theorem at_old (y0 : Nat) (hy : y0 < 6) (l : Lp) {y n : Int} (h : hasV (tb S.m) y n = true) : atV (tb (S.m.set y0 (S.m.getD y0 default ++ [l]))) y n = atV (tb S.m) y n := by
 obtain ⟨a, b, c, d⟩ := (ycy _ _ _).1 h
 rw [yjm, yjm, hS.get _ y0 hy]
 by_cases h : (y - 1).toNat = y0
 ·rw [if_pos h, h]
  rw [h] at d
  generalize S.m.getD y0 default = row at *
  simp only [zld]
  rw [List.getElem?_append_left (by omega)]
 ·rw [if_neg h]
theorem at_new (y0 : Nat) (hy : y0 < 6) (l : Lp) : atV (tb (S.m.set y0 (S.m.getD y0 default ++ [l]))) ((y0 + 1 : Nat) : Int) ((S.m.getD y0 default).length : Nat) = l := by
 rw [yjm, hS.get _ y0 hy, if_pos (by omega), zlf, zld, List.getElem?_append_right (zly _), Nat.sub_self]
 rfl
include hL
theorem yha : FineL (ofL S L) := by
 refine ⟨?_, ?_, ?_, ?_, rfl, rfl⟩
 ·have e : (ofL S L).b = if L.b then 1 else 0 := rfl
  rw [e]
  split
  ·exact .inr rfl
  ·exact .inl rfl
 ·have := yjr (L.th.take 4) S.fr []
  rw [zlh] at this
  show (thF (L.th.take 4) S.fr []).2.length ≤ 4
  simp at this
  omega
 ·show (if S.md.length = 0 then [] else (L.pa.take 5).map (psOf S.md L.y)).length ≤ 5
  split
  ·simp
  ·rw [zla, zlh]; omega
 ·refine ⟨Int.tmod (IntKind.wrap u8 (Int.tdiv L.y 6)) 2, ?_, ?_⟩
  ·have h0 := hL.y0
   have h1 := hL.y1
   obtain ⟨a, ha⟩ : ∃ a : Nat, L.y = a := ⟨L.y.toNat, by omega⟩
   rw [ha] at h1 ⊢
   have e : Int.tdiv (a : Int) 6 = ((a / 6 : Nat) : Int) := by rw [Int.tdiv_eq_ediv_of_nonneg (by omega)]; rfl
   rw [e, yjo (by omega) (by omega), Int.tmod_eq_emod_of_nonneg (by omega)]
   omega
  ·intro p hp
   have hp : p ∈ (if S.md.length = 0 then [] else (L.pa.take 5).map (psOf S.md L.y)) := hp
   split at hp
   ·simp at hp
   ·obtain ⟨q, _, rfl⟩ := List.mem_map.1 hp
    rfl
theorem yp2 : ∀ q ∈ zqz (ofL S L), q ∈ S.md := by
 intro q hq
 rcases List.mem_append.1 hq with h | h
 ·have h : q ∈ (thF (L.th.take 4) S.fr []).2 := h
  have := (ygn (L.th.take 4) S.fr []).mem_iff.1 (List.mem_append.2 (.inr h))
  rw [List.append_nil] at this
  exact hS.fr q this
 ·obtain ⟨p, hp, rfl⟩ := List.mem_map.1 h
  have hp : p ∈ (if S.md.length = 0 then [] else (L.pa.take 5).map (psOf S.md L.y)) := hp
  split at hp
  ·simp at hp
  ·rename_i hne
   obtain ⟨z, _, rfl⟩ := List.mem_map.1 hp
   show (⟨(S.md.getD (z.toNat / 2 % S.md.length) default).y, (S.md.getD (z.toNat / 2 % S.md.length) default).n⟩ : Idd) ∈ S.md
   have hlt := Nat.mod_lt (z.toNat / 2) (by omega : 0 < S.md.length)
   generalize z.toNat / 2 % S.md.length = k at hlt
   show S.md.getD k default ∈ S.md
   rw [zld, zle hlt]
   exact zlu hlt
theorem ValidS.step : ValidS (yaa S L) := by
 have hy : L.y.toNat % 6 < 6 := Nat.mod_lt _ (by omega)
 have hnew := hS.new (L.y.toNat % 6) hy
 have hm : ∀ q ∈ zqz (ofL S L), q ∈ S.md := yp2 hS hL
 have hf := yha hS hL
 have hperm := ygn (L.th.take 4) S.fr []
 rw [List.append_nil] at hperm
 have hthm := ysp hS (L.y.toNat % 6) hy (ofL S L)
 have hhas := yt2 hS (L.y.toNat % 6) hy (ofL S L)
 have haold := fun y n h => at_old hS (L.y.toNat % 6) hy (ofL S L) (y := y) (n := n) h
 have hanew := at_new hS (L.y.toNat % 6) hy (ofL S L)
 have hget := hS.get (S.m.getD (L.y.toNat % 6) default ++ [ofL S L]) (L.y.toNat % 6) hy
 refine ⟨by show (List.set _ _ _).length = 6; rw [zlx]; exact hS.m6, ⟨?_, ?_⟩, ?_, ?_, ?_, ?_, ?_⟩
 ·intro k p hk
  have hk : (S.md ++ [ofI S L])[k]? = some p := hk
  show hasV (tb (S.m.set _ _)) p.y p.n = true ∧ (∀ n', 0 ≤ n' → n' < p.n → _ ∈ (S.md ++ [ofI S L]).take k) ∧ ∀ q ∈ zqz (atV (tb (S.m.set _ _)) p.y p.n), q ∈ (S.md ++ [ofI S L]).take k
  by_cases hlt : k < S.md.length
  ·rw [List.getElem?_append_left hlt] at hk
   obtain ⟨h1, h2, h3⟩ := hS.ok.sub k p hk
   rw [List.take_append_of_le_length (by omega), haold _ _ h1]
   exact ⟨(hhas _ _).2 (.inl h1), h2, h3⟩
  ·rw [List.getElem?_append_right (by omega)] at hk
   have hk0 : k = S.md.length := by
    rcases zlt (k - S.md.length) with h | h
    ·omega
    ·rw [List.getElem?_eq_none (by simp; omega)] at hk; cases hk
   subst hk0
   rw [Nat.sub_self] at hk
   injection hk with hk; subst hk
   rw [List.take_append_of_le_length (zly _), List.take_length]
   refine ⟨(hhas _ _).2 (.inr ⟨rfl, rfl⟩), ?_, ?_⟩
   ·intro n' h0 h1
    have h1 : n' < ((S.m.getD (L.y.toNat % 6) default).length : Nat) := h1
    refine hS.ok.all _ _ ((ycy _ _ _).2 ?_)
    have e : (((L.y.toNat % 6 + 1 : Nat) : Int) - 1).toNat = L.y.toNat % 6 := by omega
    have := hS.m6
    show 1 ≤ ((L.y.toNat % 6 + 1 : Nat) : Int) ∧ ((L.y.toNat % 6 + 1 : Nat) : Int) ≤ S.m.length ∧ 0 ≤ n' ∧ n' < (S.m.getD (((L.y.toNat % 6 + 1 : Nat) : Int) - 1).toNat default).length
    rw [e]
    exact ⟨by omega, by omega, h0, h1⟩
   ·have e : atV (tb (S.m.set (L.y.toNat % 6) (S.m.getD (L.y.toNat % 6) default ++ [ofL S L]))) (ofI S L).y (ofI S L).n = ofL S L := hanew
    rw [e]; exact hm
 ·intro y n h
  show _ ∈ S.md ++ [ofI S L]
  rcases (hhas y n).1 h with h | ⟨rfl, rfl⟩
  ·exact List.mem_append.2 (.inl (hS.ok.all _ _ h))
  ·exact List.mem_append.2 (.inr (by simp [ofI]))
 ·intro p hp
  show p ∈ S.md ++ [ofI S L]
  have hp : p ∈ (thF (L.th.take 4) S.fr []).1 ++ [ofI S L] := hp
  rcases List.mem_append.1 hp with h | h
  ·exact List.mem_append.2 (.inl (hS.fr p (hperm.mem_iff.1 (List.mem_append.2 (.inl h)))))
  ·exact List.mem_append.2 (.inr h)
 ·show ((thF (L.th.take 4) S.fr []).1 ++ [ofI S L] ++ Tst.thM (S.m.set _ _)).Nodup
  have h1 : ((thF (L.th.take 4) S.fr []).1 ++ [ofI S L] ++ Tst.thM (S.m.set (L.y.toNat % 6) (S.m.getD (L.y.toNat % 6) default ++ [ofL S L]))).Perm (ofI S L :: (S.fr ++ Tst.thM S.m)) := by
   refine ((List.Perm.refl _).append hthm).trans ?_
   have h2 : ((thF (L.th.take 4) S.fr []).1 ++ [ofI S L] ++ ((ofL S L).th ++ Tst.thM S.m)) = (thF (L.th.take 4) S.fr []).1 ++ ofI S L :: ((ofL S L).th ++ Tst.thM S.m) := by simp
   rw [h2]
   refine List.perm_middle.trans ?_
   refine List.Perm.cons _ ?_
   rw [← zlp]
   exact hperm.append_right _
  rw [h1.nodup_iff, List.nodup_cons]
  refine ⟨fun h => ?_, hS.nd⟩
  rcases List.mem_append.1 h with h | h
  ·exact hnew (hS.fr _ h)
  ·exact hnew (hS.thM h)
 ·intro r hr K hK
  rcases List.mem_or_eq_of_mem_set hr with hr | rfl
  ·exact hS.fine r hr K hK
  ·rcases List.mem_append.1 hK with h | h
   ·refine hS.fine (S.m.getD (L.y.toNat % 6) default) ?_ K h
    rw [zld, zle (by rw [hS.m6]; exact hy)]; exact zlu _
   ·rw [zlv] at h; subst h; exact hf
 ·intro i hi hne
  have hne : (S.m.set (L.y.toNat % 6) (S.m.getD (L.y.toNat % 6) default ++ [ofL S L])).getD i default ≠ [] := hne
  show (((S.m.set (L.y.toNat % 6) (S.m.getD (L.y.toNat % 6) default ++ [ofL S L])).getD i default).getD 0 default).w = true
  rw [hget] at hne ⊢
  by_cases h : i = L.y.toNat % 6
  ·rw [if_pos h]
   by_cases hr : S.m.getD (L.y.toNat % 6) default = []
   ·rw [hr]
    show (L.w || (S.m.getD (L.y.toNat % 6) default).length == 0) = true
    rw [hr]; simp
   ·have := hS.nw (L.y.toNat % 6) hy hr
    rw [zld, List.getElem?_append_left (List.length_pos_iff.2 hr), ← zld]
    exact this
  ·rw [if_neg h] at hne ⊢
   exact hS.nw i hi hne
 ·show (S.md ++ [ofI S L]).Nodup
  rw [List.nodup_append]
  refine ⟨hS.mdn, by simp, fun a ha b hb e => ?_⟩
  rw [zlv] at hb
  subst hb e
  exact hnew ha
end
theorem yra : ValidS S0 := by
 refine ⟨rfl, ⟨fun k p h => by simp [S0] at h, fun y n h => ?_⟩, fun p h => by simp [S0] at h, by simp [S0, thM], ?_, ?_, by simp [S0]⟩
 ·exfalso
  obtain ⟨a, b, c, d⟩ := (ycy _ _ _).1 h
  have e : S0.m.getD (y - 1).toNat default = [] := by
   unfold S0
   rw [zld, List.getElem?_replicate]
   split <;> rfl
  rw [e] at d
  simp at d
  omega
 ·intro r hr K hK
  rw [(List.mem_replicate.1 hr).2] at hK; simp at hK
 ·intro i hi hne
  exfalso; apply hne
  unfold S0
  rw [zld, List.getElem?_replicate]
  split <;> rfl
theorem yfw : ∀ (l : List Lx) (S : OfS), ValidS S → (∀ L ∈ l, OkX L) → ValidS (l.foldl yaa S)
 | [], S, h, _ => h
 | L :: l, S, h, hX => yfw l _ (h.step (hX L (by simp))) fun K hK => hX K (by simp [hK])
theorem ypa (x : List Lx) (hX : ∀ L ∈ x, OkX L) : ValidS (ofS x) := yfw _ _ yra fun L hL => hX L (List.mem_of_mem_take hL)
theorem ysw {i : Nat} {R : List Lp} {x : Idd × Lp} (h : x ∈ rowL i R) : ∃ n : Nat, n < R.length ∧ x.1 = ⟨((i + 1 : Nat) : Int), (n : Int)⟩ ∧ x.2 = R.getD n default := by
 unfold rowL at h
 obtain ⟨q, hq, rfl⟩ := List.mem_map.1 h
 have h1 := List.mem_zipIdx hq
 refine ⟨q.2, by have := h1.2.1; omega, rfl, ?_⟩
 show q.1 = _
 have := h1.2.2
 rw [this, zld, zle (by have := h1.2.1; omega)]
 simp
theorem ygg : ∀ (t : List Rw) (i : Nat) (x : Idd × Lp), x ∈ yai i t → ∃ j n : Nat, j < t.length ∧ n < (t.getD j default).l.length ∧ x.1 = ⟨((i + j + 1 : Nat) : Int), (n : Int)⟩ ∧ x.2 = (t.getD j default).l.getD n default
 | [], i, x, h => by simp [yai] at h
 | r :: t, i, x, h => by
  rw [yai, List.mem_append] at h
  rcases h with h | h
  ·obtain ⟨n, h1, h2, h3⟩ := ysw h
   exact ⟨0, n, by simp, h1, h2, h3⟩
  ·obtain ⟨j, n, h1, h2, h3, h4⟩ := ygg t (i + 1) x h
   refine ⟨j + 1, n, by rw [List.length_cons]; omega, h2, ?_, h4⟩
   rw [h3, show i + 1 + j + 1 = i + (j + 1) + 1 by omega]
theorem yph (i : Nat) (R : List Lp) : thA (rowL i R) = R.flatMap Lp.th := by
 unfold thA rowL
 rw [List.flatMap_map]
 show List.flatMap (fun q : Lp × Nat => q.1.th) R.zipIdx = _
 have : ∀ (R : List Lp) (k : Nat), List.flatMap (fun q : Lp × Nat => q.1.th) (R.zipIdx k) = R.flatMap Lp.th := by
  intro R
  induction R with
  | nil => intro k; rfl
  | cons a R ih => intro k; rw [List.zipIdx_cons, List.flatMap_cons, List.flatMap_cons, ih]
 exact this R 0
theorem yet : ∀ (t : List Rw) (i : Nat), thA (yai i t) = t.flatMap fun r => r.l.flatMap Lp.th
 | [], i => rfl
 | r :: t, i => by rw [yai, yiv, yph, yet t (i + 1), List.flatMap_cons]
theorem yj8 {l : List Lp} {n : Nat} (h : n < l.length) : l.getD n default ∈ l := by rw [zld, zle h]; exact zlu _
section
variable {S : OfS} (hS : ValidS S)
include hS
theorem ValidS.take : (tb S.m).take 255 = tb S.m := zlm (by rw [yct, hS.m6]; omega)
theorem ValidS.tw : twV (tb S.m) = false := by
 unfold twV allT
 rw [hS.take, yet]
 have e : ((tb S.m).flatMap fun r => r.l.flatMap Lp.th) = Tst.thM S.m := by
  unfold tb Tst.thM
  rw [List.flatMap_map]
 rw [e, zlb (List.nodup_append.1 hS.nd).2.1]
 rfl
theorem ValidS.ck : ckT (tb S.m) = true := by
 unfold ckT allT
 rw [hS.take, zls]
 intro x hx
 obtain ⟨j, n, h1, h2, h3, h4⟩ := ygg _ 0 x hx
 rw [yct, hS.m6] at h1
 rw [yjs] at h2 h4
 have hmem : S.m.getD j default ∈ S.m := by rw [zld, zle (by rw [hS.m6]; exact h1)]; exact zlu _
 have hL : x.2 ∈ S.m.getD j default := by rw [h4]; exact yj8 h2
 have hf := hS.fine _ hmem _ hL
 have e0 : 0 + j + 1 = j + 1 := by omega
 rw [e0] at h3
 have e1 : (((j + 1 : Nat) : Int) - 1).toNat = j := by omega
 have hh : hasV (tb S.m) ((j + 1 : Nat) : Int) (n : Int) = true := by
  rw [ycy, e1, hS.m6]; omega
 have hat : atV (tb S.m) ((j + 1 : Nat) : Int) (n : Int) = x.2 := by rw [yjm, e1, zlf, h4]
 unfold arV yad
 simp only [zlo]
 refine ⟨⟨⟨⟨?_, ?_⟩, hf.pend⟩, ?_⟩, ?_⟩
 ·rcases hf.b with h | h <;> simp [h]
 ·exact zlb hf.th
 ·rw [zls]
  intro p hp
  rw [← hat] at hp
  exact hS.has_old (hS.ment hh p hp)
 ·rw [h3]
  by_cases hn : n = 0
  ·subst hn
   have := hS.nw j h1 (by intro e; rw [e] at h2; simp at h2)
   rw [← h4] at this
   simp [this]
  ·have : ((n : Int) != 0) = true := by simpa using hn
   show ((n : Int) != 0 || x.2.w) = true
   rw [this]; rfl
theorem ValidS.okT : OkT (tb S.m) := by
 intro r hr L hL
 unfold tb at hr
 obtain ⟨l, hl, rfl⟩ := List.mem_map.1 hr
 have hf := hS.fine l hl L hL
 refine ⟨?_, by have := hf.th; omega, by have := hf.pa; omega⟩
 intro p hp
 obtain ⟨i, hi, rfl⟩ := List.mem_iff_getElem.1 hl
 obtain ⟨n, hn, rfl⟩ := List.mem_iff_getElem.1 hL
 have hg : S.m.getD i default = S.m[i] := by rw [zld, zle hi]; rfl
 have e1 : (((i + 1 : Nat) : Int) - 1).toNat = i := by omega
 have hn' : n < S.m[i].length := hn
 have hh : hasV (tb S.m) ((i + 1 : Nat) : Int) (n : Int) = true := by
  rw [ycy, e1, hg]; omega
 have hat : atV (tb S.m) ((i + 1 : Nat) : Int) (n : Int) = S.m[i][n] := by
  rw [yjm, e1, zlf, hg, zld, zle hn']; rfl
 have h3 : p ∈ zqz (atV (tb S.m) ((i + 1 : Nat) : Int) (n : Int)) := by rw [hat]; exact hp
 have := (ycy _ _ _).1 (hS.has_old (hS.ment hh p h3))
 have := hS.m6
 omega
theorem ValidS.okL (hr : ∀ r ∈ S.m, r.length < 2 ^ 60) : OkL (tb S.m) := ym8 (by rw [yct, hS.m6]; omega) (fun r h => by
 unfold tb at h
 obtain ⟨l, hl, rfl⟩ := List.mem_map.1 h
 exact hr l hl) hS.okT hS.ck
theorem ValidS.check (hr : ∀ r ∈ S.m, r.length < 2 ^ 60) (hc : cntV (tb S.m) ≤ 2048) : chV (tb S.m) = 0 := by
 unfold chV yaq
 rw [yct, hS.m6, hS.tw, hS.ck, yn9 (hS.okL hr) hS.ok]
 rw [if_neg (by omega), if_neg (by omega), if_neg (by simp), if_neg (by simp), if_neg (by omega)]
end
set_option maxHeartbeats 0
section
variable (L : Lp) (d : List Int) (hd : d.length = 7) (ht : L.th.length < 2 ^ 60) (hp : L.pa.length < 2 ^ 60)
include hd ht
omit ht
include hp
end
def HOf (c : Option Nat) (x : List Lx) (m : List (List Lp)) (md : List Idd) : Prop := PureC Try.prog 9 [xsl c x] (.tup [tGW m, iow none md])
def HOr (t : List Rw) (l : List Idd) : Prop := PureC Try.prog 10 [tsl none t] (.tup [iow (some l.length) l, it 0])
def HCn (t : List Rw) (n : Int) : Prop := PureC Try.prog 12 [tsl none t] (it n)
theorem uHCn {t : List Rw} {n : Int} (h : HCn t n) : PureC Try.prog 12 [tsl none t] (it n) := h
theorem ywh {env : Env} (h : ∀ p ∈ env, zqf p.2 = none) (r : Nat) : topOnly r env := by
 intro t y hl hy
 have : ∃ p ∈ env, p.2 = y := by
  clear hy
  induction env with
  | nil => cases hl
  | cons p env ih =>
   obtain ⟨s, z⟩ := p
   unfold Lf.lk at hl
   split at hl
   ·injection hl with hl; exact ⟨(s, z), List.mem_cons_self, hl⟩
   ·obtain ⟨q, hq, e⟩ := ih (fun q hq => h q (by simp [hq])) hl
    exact ⟨q, by simp [hq], e⟩
 obtain ⟨p, hp, rfl⟩ := this
 rw [h p hp] at hy; cases hy
theorem OpsR.grabAt {P : Program} {cx : Cx} {ops : Array Oper} {env : Env} {r : Nat} {p : Path} {xr : AV} {e : TypeId} {cap : Option Nat} {xs : List AV} (hr : lk env r = some xr) (hrt : zqu xr = true) (hg : getC xr p = some (.sl .own e cap xs)) (htop : topOnly r env) : OpsR P cx ops [] env (· = (r, setC xr p (share (.sl .own e cap xs))) :: env) := by
 intro ρ F B0 w0 S0 ds a w Q rest hag hQ
 obtain ⟨hd, hN, n, S, Os, hn, hgr, hst⟩ := hag
 obtain ⟨n', S', Os', vr, u, m, hn', hst', hS, _, _, _, _, _, hS'⟩ := hst.shareAt (p := p) hr hrt hg (.inr htop)
 refine hQ _ rfl a w ⟨hd, hN, n', S', Os', by omega, ⟨fun b hb => hS b (hgr.1 b hb), fun b hb => ?_⟩, hst'⟩
 rcases hS' b hb with h | h
 ·exact hgr.2 b h
 ·exact .inr (hst.lt r b h).1
theorem Le.viewS {P : Program} {e : TypeId} {cap : Option Nat} {xs : List AV} : Le P (.sl .fresh e cap xs) (view (.sl .fresh e cap xs)) := by
 intro B0 w S n v O hr
 obtain ⟨n, rfl⟩ := hr.pos
 have hz : O = fun _ => 0 := by
  obtain ⟨A, k, hv, hk, hm, hc, hu, hz, hx⟩ := hr
  exact funext hz
 subst hz
 exact Rv.remode (fun _ => .any) (fun m => by simp) (fun m h => by simp at h) (fun b h => h) (n + 1) 12 v _ _ (fun b hb => by simp at hb) hr
theorem yo7 (c : Option Nat) (x : List Lx) : view (xsl c x) = xsl c x := by
 show AV.sl .any 67 c ((x.map Lx.enc).map (mapE (remode (fun _ => .any) 11))) = _
 rw [List.map_map]
 congr 1
 refine List.map_congr_left fun L _ => ?_
 show AV.agg [ub L.y, bb L.b, bb L.w, .sl .any 5 L.ct ((L.th.map ubE).map (mapE (remode (fun _ => .any) 10))), .sl .any 5 L.cp ((L.pa.map ubE).map (mapE (remode (fun _ => .any) 10)))] = Lx.enc L
 rw [List.map_map, List.map_map]; rfl
abbrev tSh (m : List (List Lp)) : AV := share (tGW m)
theorem yo8 (m : List (List Lp)) (h : ∀ r ∈ m, ∀ L ∈ r, L.ct = none ∧ L.cp = none) : view (tSh m) = tsl none (tb m) := by
 show AV.sl .any 37 none (((m.map gOW).map (mapE (remode zqx 11))).map (mapE (remode (fun _ => .any) 11))) = .sl .any 37 none ((tb m).map Rw.enc)
 unfold tb
 rw [List.map_map, List.map_map, List.map_map]
 congr 1
 refine List.map_congr_left fun l hl => ?_
 show AV.sl .any 45 none (((l.map Lp.encG).map (mapE (remode zqx 10))).map (mapE (remode (fun _ => .any) 10))) = .sl .any 45 none (l.map Lp.enc)
 rw [List.map_map, List.map_map]
 congr 1
 refine List.map_congr_left fun K hK => ?_
 obtain ⟨h1, h2⟩ := h l hl K hK
 show AV.agg [ub K.b, bb K.w, .sl .any 36 none (((K.th.map Idd.enc).map (mapE (remode zqx 9))).map (mapE (remode (fun _ => .any) 9))), .sl .any 56 none (((K.pa.map Ps.enc).map (mapE (remode zqx 9))).map (mapE (remode (fun _ => .any) 9)))] = AV.agg [ub K.b, bb K.w, isl K.ct K.th, sl K.cp K.pa]
 rw [List.map_map, List.map_map, List.map_map, List.map_map, h1, h2]; rfl
section
variable (c : Option Nat) (x : List Lx) (m : List (List Lp)) (md : List Idd) (h : HOf c x m md)
include h
omit h in
theorem ymh (md : List Idd) : share (iow none md) = .sl .fresh 36 none (md.map Idd.enc) := by
 show AV.sl .fresh 36 none ((md.map Idd.enc).map (mapE (remode zqx 11))) = _
 rw [List.map_map]; rfl
end
section
variable (t : List Rw) (md l : List Idd) (h : HOr t l)
include h
end
section
variable (m : List Int) (t : List Rw)
variable (l : List Idd) (i : Nat) (hL : OkL t) (hM : OkM m t) (h6 : t.length = 6)
include hL hM h6
end
section
variable (m : List Int) (t : List Rw) (l : List Idd) (i : Nat) (hL : OkL t) (hM : OkM m t) (h6 : t.length = 6)
include hL hM h6
end
section
variable (m : List Int) (t : List Rw) (l : List Idd) (i : Nat) (hL : OkL t) (hM : OkM m t) (h6 : t.length = 6)
include hL hM h6
end
theorem yka {α : Type} : ∀ (m : List (List α)) (k : Nat) (r : α), k < m.length → ((m.set k (m.getD k default ++ [r])).map List.length).sum = (m.map List.length).sum + 1
 | [], k, r, h => by simp at h
 | a :: m, 0, r, h => by simp; omega
 | a :: m, k + 1, r, h => by
  have := yka m k r (by simpa using h)
  simp only [List.set_cons_succ, List.map_cons, List.sum_cons, List.getD_cons_succ]
  omega
theorem ygb (m : List (List Lp)) : cntV (tb m) = (m.map List.length).sum := by
 unfold cntV tb
 rw [List.map_map]; rfl
theorem yeo : ∀ (x : List Lx) (S : OfS), S.m.length = 6 → (S.m.map List.length).sum = S.md.length → ((x.foldl yaa S).m.map List.length).sum = (x.foldl yaa S).md.length ∧ (x.foldl yaa S).md.length = S.md.length + x.length
 | [], S, h6, h => ⟨h, rfl⟩
 | L :: x, S, h6, h => by
  have h1 : (yaa S L).m.length = 6 := by unfold yaa; rw [zlx]; exact h6
  have h2 : (yaa S L).md.length = S.md.length + 1 := by unfold yaa; rw [zlg]; rfl
  have h3 : ((yaa S L).m.map List.length).sum = (yaa S L).md.length := by
   rw [h2, ← h]; exact yka S.m _ _ (by rw [h6]; exact Nat.mod_lt _ (by omega))
  obtain ⟨k1, k2⟩ := yeo x (yaa S L) h1 h3
  exact ⟨k1, by rw [List.foldl_cons, k2, h2, List.length_cons]; omega⟩
theorem cnt_of (x : List Lx) : cntV (tb (ofS x).m) = (ofS x).md.length ∧ (ofS x).md.length ≤ 60 := by
 obtain ⟨h1, h2⟩ := yeo (x.take 60) S0 rfl rfl
 refine ⟨by rw [ygb]; exact h1, ?_⟩
 show (List.foldl yaa S0 (x.take 60)).md.length ≤ 60
 rw [h2, zlh]
 show 0 + _ ≤ 60
 omega
theorem ynf {α : Type} : ∀ {m : List (List α)} {r : List α}, r ∈ m → r.length ≤ (m.map List.length).sum
 | a :: m, r, h => by
  rw [List.map_cons, List.sum_cons]
  rcases List.mem_cons.1 h with rfl | h
  ·omega
  ·have := ynf h; omega
theorem yiz {m : List (List Lp)} {r : List Lp} (h : r ∈ m) : r.length ≤ cntV (tb m) := by
 rw [ygb]; exact ynf h
end Tst
end

section
namespace Go.Lf
open Go Go.RowKit
section
variable {P : Program} {cx : Cx}
theorem Rv.posN {B0 : Nat} {w : World} {S : Nat → Prop} {n : Nat} {v : Value} {x : AV} {O : Own} (h : Rv P B0 w S n v x O) : 0 < n := by
 obtain ⟨m, rfl⟩ := h.pos; exact Nat.succ_pos m
theorem OpsR.split {ops : Array Oper} {env : Env} {y : Oper} {s d : Nat} {xs xs' z : AV} (ks : List (Nat × Wk)) (hg : y.guard = none) (hnd : ∀ c, y.op ≠ .defer c) (hd : y.dst = some d) (hdN : cx.lo ≤ d ∧ d < cx.N) (hds : d ≠ s)
  (hs : lk (keepE ks env) s = some xs) (hxs : zqf xs = none) (hnl : ∀ t y', lk (keepE ks env) t = some y' → zqf y' ≠ some s ∧ zqf y' ≠ some d) (hnl' : zqf xs' ≠ some d)
  (hrun : ∀ (act : Act) (w : World) (B0 : Nat) (S : Nat → Prop) (n : Nat) (v : Value) (O : Own), act.tmps[s]? = some v → Rv P B0 w S n v xs O → ∃ u Oz Oq m, (execOp act.eval y).run P w = .ok (.value u) w ∧ Rv P B0 w S m u z Oz ∧ Rv P B0 w S m v xs' Oq ∧ ∀ b, Oz b + Oq b ≤ O b) :
  OpsR P cx ops [y] env (· = (d, z) :: (s, xs') :: keepE ks env) := by
 refine .one hg fun ρ F B0 w0 S0 ds act w Q K hag hK => ?_
 obtain ⟨hd', hN, n, S, Os, hn, hgr, hst⟩ := hag.keep (ks := ks)
 obtain ⟨v, hv, hsv⟩ := hst.rel s _ hs
 have hrv := hsv.rv hxs
 obtain ⟨u, Oz, Oq, m, hex, hz, hq, hO⟩ := hrun act w B0 S n v (Os s) hv hrv
 have hls : s < act.tmps.size := (zlj.1 hv).1
 have hld : d < act.tmps.size := by rw [hN.1]; exact hdN.2
 have k1 := hst.set (Nat.le_max_left n m) s (v := v) (x := xs') (O := Oq) (S' := S) (w' := w) ⟨hls, .inr hv⟩ (Below.refl _ _) (fun b hb => hb) hst.sLt (fun b t _ hb => hst.excl b t hb) (fun b hb => by have := hst.excl b s hb; have := hO b; omega) (fun _ _ => rfl) (fun b => by have := hst.one s b; have := hO b; omega) (fun b t ht hb => by
  have := hO b
  rcases hst.dis t s b ht with h | h
  ·exact h
  ·omega) (.inr (hq.le (Nat.le_max_right n m))) (fun t y' u' _ hy hyr _ _ => absurd hyr (hnl t y' hy).1)
 rw [ya0 act.tmps s _ hv] at k1
 have k2 := k1.set (zly _) d (v := u) (x := z) (O := Oz) (S' := S) (w' := w) ⟨hld, .inl (by rw [hN.2]; exact hdN.1)⟩ (Below.refl _ _) (fun b hb => hb) hst.sLt (fun b t _ hb => k1.excl b t hb) (fun b hb => by have := hst.excl b s hb; have := hO b; omega) (fun _ _ => rfl) (fun b => by have := hst.one s b; have := hO b; omega) (fun b t ht hb => by
  have := hO b
  have h1 := hst.one s b
  by_cases e : t = s
  ·rw [if_pos e]; omega
  ·rw [if_neg e]
   rcases hst.dis t s b e with h | h
   ·exact h
   ·omega) (.inr (hz.le (Nat.le_max_right n m))) (fun t y' u' _ hy hyr _ _ => by
  exfalso
  simp only [lk] at hy
  split at hy
  ·injection hy with hy; subst hy; exact hnl' hyr
  ·exact (hnl t y' hy).2 hyr)
 refine opIn hnd (ybz hex ?_)
 rw [hd]
 exact hK _ rfl _ _ ⟨hd', by simpa [Act.put] using hN, max n m, S, _, by omega, hgr, k2⟩
theorem yow {B0 : Nat} {w : World} {S : Nat → Prop} {n : Nat} (v : Value) (hn : 0 < n) : Rv P B0 w S n v .bad (fun _ => 0) := by
 obtain ⟨m, rfl⟩ : ∃ m, n = m + 1 := ⟨n - 1, by omega⟩
 exact fun _ => rfl
theorem OpsR.moveA {ops : Array Oper} {env : Env} {y : Oper} {s d : Nat} {xs : AV} (ks : List (Nat × Wk)) (hg : y.guard = none) (ho : y.op = .move (.tmp s)) (hd : y.dst = some d) (hdN : cx.lo ≤ d ∧ d < cx.N) (hds : d ≠ s)
  (hs : lk (keepE ks env) s = some xs) (hxs : zqf xs = none) (hnl : ∀ t y', lk (keepE ks env) t = some y' → zqf y' ≠ some s ∧ zqf y' ≠ some d) :
  OpsR P cx ops [y] env (· = (d, xs) :: (s, .bad) :: keepE ks env) :=
 .split ks hg (by intro c; rw [ho]; intro h; cases h) hd hdN hds hs hxs hnl (by simp [zqf]) fun act w B0 S n v O hv hr => ⟨v, O, fun _ => 0, n, by
  have e : act.eval (.tmp s) = v := by simp [Act.eval, zll, hv]
  simp [execOp, ho, e], hr, yow v hr.posN, fun b => by simp⟩
theorem OpsR.moveX {ops : Array Oper} {env : Env} {y : Oper} {s d : Nat} {z x1 : AV} (ks : List (Nat × Wk)) (hg : y.guard = none) (ho : y.op = .extract (.tmp s) 0) (hd : y.dst = some d) (hdN : cx.lo ≤ d ∧ d < cx.N) (hds : d ≠ s)
  (hs : lk (keepE ks env) s = some (.tup [z, x1])) (hnl : ∀ t y', lk (keepE ks env) t = some y' → zqf y' ≠ some s ∧ zqf y' ≠ some d) :
  OpsR P cx ops [y] env (· = (d, z) :: (s, .tup [.bad, x1]) :: keepE ks env) :=
 .split ks hg (by intro c; rw [ho]; intro h; cases h) hd hdN hds hs rfl hnl (by simp [zqf]) fun act w B0 S n v O hv hr => by
  obtain ⟨m, rfl⟩ := hr.pos
  obtain ⟨vs, hvv, hrc⟩ := hr
  have e : act.eval (.tmp s) = v := by simp [Act.eval, zll, hv]
  have hl := hrc.length
  obtain ⟨v0, v1, hvs⟩ : ∃ v0 v1, vs.toList = [v0, v1] := by
   match vs.toList, hl with
   | [v0, v1], _ => exact ⟨v0, v1, rfl⟩
  have hvs' : vs = #[v0, v1] := by rw [← Array.toArray_toList (xs := vs), hvs]
  subst hvs'
  rcases hrc with _ | ⟨h0, hr1, hO⟩
  rename_i O0 O1
  have hm : 0 < m := h0.posN
  refine ⟨v0, O0, O1, m + 1, ?_, h0.le (Nat.le_succ m), ⟨#[v0, v1], hvv, ?_⟩, fun b => by have := hO b; omega⟩
  ·subst hvv
   simp [execOp, ho, e, Instr.extract]
  ·exact .cons (O1 := fun _ => 0) (O2 := O1) (yow v0 hm) hr1 fun b => by simp
theorem OpsR.moveL (hcx : CxOk P cx) {ops : Array Oper} {env : Env} {y : Oper} {s d : Nat} {t : TypeId} {ti : TInfo} {cs : List AV} (ks : List (Nat × Wk)) (ht : tyF cx.T t = some ti) (hag : ti.agg = true) (hg : y.guard = none) (ho : y.op = .load t (.tmp s)) (hd : y.dst = some d) (hdN : cx.lo ≤ d ∧ d < cx.N) (hds : d ≠ s)
  (hs : lk (keepE ks env) s = some (.box cs)) (hl : cs.length = ti.zero.length) (hnl : ∀ t y', lk (keepE ks env) t = some y' → zqf y' ≠ some s ∧ zqf y' ≠ some d) :
  OpsR P cx ops [y] env (· = (d, .agg cs) :: (s, .bad) :: keepE ks env) :=
 .split ks hg (by intro c; rw [ho]; intro h; cases h) hd hdN hds hs rfl hnl (by simp [zqf]) fun act w B0 S n v O hv hr => by
  obtain ⟨m, rfl⟩ := hr.pos
  obtain ⟨g, C, T, O', rfl, hb, hg, hrc, hOO⟩ := hr
  have e : act.eval (.tmp s) = .pointer (some ⟨g, 0, none⟩) := by simp [Act.eval, zll, hv]
  have hCl : C.size = ti.zero.length := by rw [← zlr, hrc.length, hl]
  have hall : (C.toList.drop 0).take ti.zero.length = C.toList := by rw [List.drop_zero, ← hCl, ← zlr, List.take_length]
  have hld := (yba (w := w) hcx ht (off := 0) hg (by omega)).1 hag
  rw [hall] at hld
  refine ⟨_, O', fun _ => 0, m + 1, ?_, ⟨C.toList.toArray, rfl, by rw [Array.toArray_toList]; exact hrc⟩, yow _ (Nat.succ_pos m), fun b => by have := hOO b; show O' b + 0 ≤ O b; omega⟩
  rw [execOp, ho]
  simp only [e, Sem.run_bind, hld, Result.andThen_ok, Sem.run_pure]
theorem OpsR.moveS (hcx : CxOk P cx) {ops : Array Oper} {env : Env} {y : Oper} {s q : Nat} {t : TypeId} {ti : TInfo} {cs zs : List AV} (ks : List (Nat × Wk)) (ht : tyF cx.T t = some ti) (hpos : 0 < ti.zero.length) (hg : y.guard = none) (ho : y.op = .store t (.tmp q) (.tmp s)) (hd : y.dst = none) (hsq : q ≠ s)
  (hs : lk (keepE ks env) s = some (.agg cs)) (hq : lk (keepE ks env) q = some (.box zs)) (hl : cs.length = ti.zero.length) (h1 : ∀ x ∈ cs, One x) (h2 : ∀ x ∈ cs, zqt x = true ∨ ∃ e cap xs, x = .sl .own e cap xs) (hseg : seg (.box zs) 0 0 ti.zero.length = some zs) (hput : putSeg (.box zs) 0 0 cs = .box cs) (hfo : fo P (.box zs) 0 0 = 0)
  (hnl : ∀ t y', lk (keepE ks env) t = some y' → zqf y' ≠ some s ∧ zqf y' ≠ some q) :
  OpsR P cx ops [y] env (· = (q, .box cs) :: (s, .bad) :: keepE ks env) := by
 refine .one hg fun ρ F B0 w0 S0 ds act w Q K hag hK => ?_
 obtain ⟨hd', hN, n, S, Os, hn, hgr, hst⟩ := hag.keep (ks := ks)
 obtain ⟨v, hv, hsv⟩ := hst.rel s _ hs
 obtain ⟨vq, hvq, hsq'⟩ := hst.rel q _ hq
 have hrv := hsv.rv rfl
 have hrq := hsq'.rv rfl
 have k1 := St.bad' hst hn hs
 obtain ⟨m, rfl⟩ := hrv.pos
 obtain ⟨vs, rfl, hrc⟩ := hrv
 have hlkq : lk ((s, .bad) :: keepE ks env) q = some (.box zs) := by simp only [lk]; rw [if_neg (Ne.symm hsq)]; exact hq
 have htop : topOnly q ((s, .bad) :: keepE ks env) := by
  intro t y' hy hyr
  simp only [lk] at hy
  split at hy
  ·injection hy with hy; subst hy; cases hyr
  ·exact absurd hyr (hnl t y' hy).2
 obtain ⟨n2, g, C, T, vr, u, O2, hn2, hvr, hlv, hh, hgg, hsz, hvl, hst2⟩ := k1.write (p := []) hlkq rfl rfl rfl hseg hpos hl h1 (hrc.le (Nat.le_succ m)) (hst.one s) (fun b hb t => by
  by_cases e : t = s
  ·rw [if_pos e]
  ·rw [if_neg e]
   rcases hst.dis t s b e with h | h
   ·exact h
   ·omega) (fun b hb => hst.excl b s hb) (.inl htop)
 have e1 : act.eval (.tmp s) = .agg vs := by simp [Act.eval, zll, hv]
 have hu : u = vr := by
  have : LV P w vr (.box zs) [] = some vr := rfl
  rw [this] at hlv; injection hlv with h; exact h.symm
 have hvv : vr = vq := by rw [hvr] at hvq; injection hvq
 have e2 : act.eval (.tmp q) = vr := by simp [Act.eval, zll, hvr]
 have hone : ∀ v ∈ vs.toList, v.oneCell' = true := by
  intro v hv'
  obtain ⟨j, hj⟩ := List.getElem?_of_mem hv'
  have hjl : j < cs.length := by rw [← hrc.length]; exact (zlk.1 hj).1
  obtain ⟨v2, O3, g1, g2, _⟩ := hrc.get (zle hjl)
  rw [hj] at g1; injection g1 with g1; subst g1
  exact g2.oneCell (h2 _ (zlu hjl))
 obtain ⟨tj, z, dd, i1, _, _, i4, _⟩ := (hcx.ty t ti ht).ex
 rw [hfo] at hsz hst2
 have hst3 := run_storeCells_at P g 0 T vs.toList 0 C w hgg (by rw [hvl]; omega) hone
 simp only [Nat.add_zero, hvl] at hst3
 have hp : vr = .pointer (some ⟨g, 0, none⟩) := by
  rw [hu] at hh
  obtain ⟨g', C', T', O', e3, _, hg', _, _⟩ := hrq
  rw [← hvv] at e3
  subst e3
  have := hh.addr
  simp [yb7] at this
  rw [this]
 have hsz2 : (act.eval (.tmp s)).cells.size = ti.zero.length := by rw [e1]; show vs.size = _; rw [← zlr, hvl]
 have hcs : (act.eval (.tmp s)).cells = vs := by rw [e1]; rfl
 have hrun : (execOp act.eval y).run P w = .ok .skip (w.setRow g (C.toList.take 0 ++ vs.toList ++ C.toList.drop (0 + ti.zero.length)).toArray) := by
  rw [execOp, ho]
  rw [Nat.zero_add] at hst3 ⊢
  simp [Instr.storeAt, Instr.sureAddr, e2, hp, storeVar, sizeOf, typeInfo, i1, i4, hcs, hst3]
  rw [hcs] at hsz2; exact hsz2
 refine opIn (by intro c; rw [ho]; intro h; cases h) (ygh hrun ?_)
 rw [hd]
 have hset : setC (.box zs) [] (putSeg (.box zs) 0 0 cs) = .box cs := hput
 rw [hset] at hst2
 exact hK _ rfl _ _ ⟨hd', hN, n2, S, _, by omega, hgr, hst2⟩
end
end Go.Lf
end

section
open Go Go.Lf Go.Proofs
namespace Tst
set_option maxHeartbeats 0
theorem cp0_0 (l : Lp) : Tri Try.prog (cxN 12 0) (zqr Try.f29 0) ([(0, l.enc)]) .normal ([(1, AV.box [ub (Lp.b l), bb (Lp.w l), isl (Lp.ct l) (Lp.th l), sl (Lp.cp l) (Lp.pa l)]), (2, AV.box [ub 0, bb false, zqw, zqw])]) :=
 ev h29 [.c, .c] zqa
theorem cp1_0 (l : Lp) (h1 : l.th.length ≤ 4294967296) (h2 : l.pa.length ≤ 4294967296) : Tri Try.prog (cxN 12 0) (zqr Try.f29 1) ([(1, lpB l), (2, .box [ub 0, bb false, zqw, zqw])]) .normal ([(1, AV.box [ub (Lp.b l), bb (Lp.w l), iow (some ((Lp.th l).length)) (Lp.th l), AV.sl .own 56 (some ((Lp.pa l).length)) (List.map Ps.enc (Lp.pa l))]), (2, AV.box [ub 0, bb false, zqw, zqw])]) :=
 ev h29 [.c, .c, .c, .c, .r (isl (Lp.ct l) (Lp.th l)), .r (iow (some ((Lp.th l).length)) (Lp.th l)), .c, .c, .c, .c, .c, .c, .r (sl (Lp.cp l) (Lp.pa l)), .r (AV.sl .own 56 (some ((Lp.pa l).length)) (List.map Ps.enc (Lp.pa l))), .c, .c, .c, .c, .c, .c, .c, .c, .c, .c, .c, .c] (allp (zrb .any (Lp.ct l) (Lp.th l)) (allp (p := PureC Try.prog 41 [isl (Lp.ct l) (Lp.th l)] (iow (some ((Lp.th l).length)) (Lp.th l))) (by apply yry<;>first|assumption|rfl|(simp at *<;>omega)) (allp (zra .any (Lp.cp l) (Lp.pa l)) (allp (p := PureC Try.prog 42 [sl (Lp.cp l) (Lp.pa l)] (AV.sl .own 56 (some ((Lp.pa l).length)) (List.map Ps.enc (Lp.pa l)))) (by apply yrx<;>first|assumption|rfl|(simp at *<;>omega)) zqa))))
noncomputable def ti45 : TInfo := (tyF T 45).get (by kernel_rfl)
theorem ht45 (n lo : Nat) : tyF (cxN n lo).T 45 = some ti45 := by kernel_rfl
abbrev loO (b : Int) (w : Bool) (th : List Idd) (pa : List Ps) : List AV := [ub b, bb w, iow (some th.length) th, ow (some pa.length) pa]
theorem ytm (b : Int) (w : Bool) (th : List Idd) (pa : List Ps) : ∀ x ∈ loO b w th pa, One x := by
 intro x hx
 simp only [List.mem_cons, List.not_mem_nil, or_false] at hx
 rcases hx with rfl | rfl | rfl | rfl <;> rfl
theorem yx6 (b : Int) (w : Bool) (th : List Idd) (pa : List Ps) : ∀ x ∈ loO b w th pa, zqt x = true ∨ ∃ e cap xs, x = .sl .own e cap xs := by
 intro x hx
 simp only [List.mem_cons, List.not_mem_nil, or_false] at hx
 rcases hx with rfl | rfl | rfl | rfl
 ·exact .inl rfl
 ·exact .inl rfl
 ·exact .inr ⟨_, _, _, rfl⟩
 ·exact .inr ⟨_, _, _, rfl⟩
theorem cp2_0 (b : Int) (w : Bool) (th : List Idd) (pa : List Ps) : Tri Try.prog (cxN 12 0) (.region 2 (zql Try.f29 2) false) [(1, .box (loO b w th pa)), (2, .box [ub 0, bb false, zqw, zqw])] .normal [(2, .box (loO b w th pa))] := by
 refine .after (kp [2]) (env' := (2, .box (loO b w th pa)) :: (11, .bad) :: keepE (kp [11, 2]) ((11, .agg (loO b w th pa)) :: (1, .bad) :: keepE (kp [1, 2]) [(1, .box (loO b w th pa)), (2, .box [ub 0, bb false, zqw, zqw])])) (Tri.ofR (.region (R := (· = (2, .box (loO b w th pa)) :: (11, .bad) :: keepE (kp [11, 2]) ((11, .agg (loO b w th pa)) :: (1, .bad) :: keepE (kp [1, 2]) [(1, .box (loO b w th pa)), (2, .box [ub 0, bb false, zqw, zqw])]))) ?_) fun e h => h)
 rw [show (zql Try.f29 2).toList = [(zql Try.f29 2).toList.getD 0 default] ++ [(zql Try.f29 2).toList.getD 1 default] by kernel_rfl]
 refine .seq (OpsR.moveL (s := 1) (d := 11) ((base 12 0).ok zqb.1 zqb.2) (kp [1, 2]) (ht45 12 0) (by kernel_rfl) (by kernel_rfl) (by kernel_rfl) (by kernel_rfl) (by decide) (by decide) rfl (by kernel_rfl) (fun t y' hy => ⟨noLf (env := [(1, .box (loO b w th pa)), (2, .box [ub 0, bb false, zqw, zqw])]) hy (by kernel_rfl), noLf (env := [(1, .box (loO b w th pa)), (2, .box [ub 0, bb false, zqw, zqw])]) hy (by kernel_rfl)⟩)) ?_
 rintro _ rfl
 exact OpsR.moveS (s := 11) (q := 2) ((base 12 0).ok zqb.1 zqb.2) (kp [11, 2]) (ht45 12 0) (Nat.lt_of_lt_of_eq (by decide : 0 < 4) (by kernel_rfl : 4 = ti45.zero.length)) (by kernel_rfl) (by kernel_rfl) (by kernel_rfl) (by decide) rfl rfl (by kernel_rfl) (ytm b w th pa) (yx6 b w th pa) (by kernel_rfl) rfl rfl (fun t y' hy => ⟨noLf (env := [(11, .agg (loO b w th pa)), (2, .box [ub 0, bb false, zqw, zqw])]) hy (by kernel_rfl), noLf (env := [(11, .agg (loO b w th pa)), (2, .box [ub 0, bb false, zqw, zqw])]) hy (by kernel_rfl)⟩)
theorem yuk : Try.f29.body = some (.seq (zqr Try.f29 0) (.seq (zqr Try.f29 1) (.seq (.region 2 (zql Try.f29 2) false) .ret))) := by kernel_rfl
theorem yqr (b : Int) (w : Bool) (ct cp : Option Nat) (th : List Idd) (pa : List Ps) (h1 : th.length ≤ 4294967296) (h2 : pa.length ≤ 4294967296) : PureC Try.prog 29 [.agg [ub b, bb w, isl ct th, sl cp pa]] (.agg (loO b w th pa)) :=
 ycc ((base 12 0).ok zqb.1 zqb.2) Try.func29 rfl (by show 1 ≤ 12; omega) rfl yuk rfl (ex := .ret) (env' := [(2, .box (loO b w th pa))]) (.seq (cp0_0 ⟨b, w, ct, th, cp, pa⟩) (.seq (cp1_0 ⟨b, w, ct, th, cp, pa⟩ h1 h2) (.seq (cp2_0 b w th pa) .ret))) (by kernel_rfl)
set_option maxHeartbeats 0
section
variable (t : List Rw) (w : List Idd) (y i : Int) (L : Lp) (k : Int) (p q : Ps)
end
section
variable (t : List Rw) (md : List Idd) (a y n : Int) (r : List Rw) (k b : Int) (w : Bool) (th : List Idd) (pa : List Ps) (i : Int)
theorem fdO_0 (c : Option Nat) (t : List Rw) (y n : Int) (h0 : 0 ≤ y) (h1 : y ≤ 255) (q : (!hasV t y n) = false) (k1 : (List.getD (Rw.l (t.getD ((u8.wrap (y - (1 : Int))).toNat) default)) (n.toNat) default).th.length ≤ 4294967296) (k2 : (List.getD (Rw.l (t.getD ((u8.wrap (y - (1 : Int))).toNat) default)) (n.toNat) default).pa.length ≤ 4294967296) (g0 : (!hasV t y n) = false) (g1 : decide ((0 : Int) ≤ u8.wrap (y - (1 : Int)) ∧ u8.wrap (y - (1 : Int)) < ((t.map Rw.enc).length : Int)) = true) (g2 : (t.map Rw.enc).getD ((u8.wrap (y - (1 : Int))).toNat) AV.bad = Rw.enc (t.getD ((u8.wrap (y - (1 : Int))).toNat) default)) (g3 : decide ((0 : Int) ≤ n ∧ n < (↑(List.length (List.map Lp.enc (Rw.l (t.getD ((u8.wrap (y - (1 : Int))).toNat) default)))) : Int)) = true) (g4 : List.getD (List.map Lp.enc (Rw.l (t.getD ((u8.wrap (y - (1 : Int))).toNat) default))) (n.toNat) AV.bad = Lp.enc (List.getD (Rw.l (t.getD ((u8.wrap (y - (1 : Int))).toNat) default)) (n.toNat) default)) : PureC Try.prog 16 [tsl c t, idE y n]  (AV.tup [AV.agg [ub (Lp.b (List.getD (Rw.l (t.getD ((u8.wrap (y - (1 : Int))).toNat) default)) (n.toNat) default)), bb (Lp.w (List.getD (Rw.l (t.getD ((u8.wrap (y - (1 : Int))).toNat) default)) (n.toNat) default)), iow (some (List.length (Lp.th (List.getD (Rw.l (t.getD ((u8.wrap (y - (1 : Int))).toNat) default)) (n.toNat) default)))) (Lp.th (List.getD (Rw.l (t.getD ((u8.wrap (y - (1 : Int))).toNat) default)) (n.toNat) default)), AV.sl .own 56 (some (List.length (Lp.pa (List.getD (Rw.l (t.getD ((u8.wrap (y - (1 : Int))).toNat) default)) (n.toNat) default)))) (List.map Ps.enc (Lp.pa (List.getD (Rw.l (t.getD ((u8.wrap (y - (1 : Int))).toNat) default)) (n.toNat) default)))], it 0]) :=
 zqj (H := h16) (n := 22) (ans := [.c, .c, .c, .c, .c, .r (tsl c t), .r (bb (hasV t y n)), .c, .c, .c, .b false, .c, .c, .c, .c, .c, .c, .b true, .r (Rw.enc (t.getD ((u8.wrap (y - (1 : Int))).toNat) default)), .c, .c, .c, .c, .c, .c, .b true, .r (Lp.enc (List.getD (Rw.l (t.getD ((u8.wrap (y - (1 : Int))).toNat) default)) (n.toNat) default)), .c, .c, .r (AV.agg [ub (Lp.b (List.getD (Rw.l (t.getD ((u8.wrap (y - (1 : Int))).toNat) default)) (n.toNat) default)), bb (Lp.w (List.getD (Rw.l (t.getD ((u8.wrap (y - (1 : Int))).toNat) default)) (n.toNat) default)), iow (some (List.length (Lp.th (List.getD (Rw.l (t.getD ((u8.wrap (y - (1 : Int))).toNat) default)) (n.toNat) default)))) (Lp.th (List.getD (Rw.l (t.getD ((u8.wrap (y - (1 : Int))).toNat) default)) (n.toNat) default)), AV.sl .own 56 (some (List.length (Lp.pa (List.getD (Rw.l (t.getD ((u8.wrap (y - (1 : Int))).toNat) default)) (n.toNat) default)))) (List.map Ps.enc (Lp.pa (List.getD (Rw.l (t.getD ((u8.wrap (y - (1 : Int))).toNat) default)) (n.toNat) default)))]), .c, .c, .c, .c, .c]) (base 22 0) Try.func16 rfl (by simp) rfl (by kernel_rfl) (allp (zqg .any c t) (allp (p := PureC Try.prog 28 [tsl c t, AV.agg [ub y, it n]] (bb (hasV t y n))) (by apply yqe<;>first|assumption|rfl|(simp at *<;>omega)) (allp g0 (allp g1 (allp g2 (allp g3 (allp g4 (allp (p := PureC Try.prog 29 [view (AV.agg [ub (Lp.b (List.getD (Rw.l (t.getD ((u8.wrap (y - (1 : Int))).toNat) default)) (n.toNat) default)), bb (Lp.w (List.getD (Rw.l (t.getD ((u8.wrap (y - (1 : Int))).toNat) default)) (n.toNat) default)), isl (Lp.ct (List.getD (Rw.l (t.getD ((u8.wrap (y - (1 : Int))).toNat) default)) (n.toNat) default)) (Lp.th (List.getD (Rw.l (t.getD ((u8.wrap (y - (1 : Int))).toNat) default)) (n.toNat) default)), sl (Lp.cp (List.getD (Rw.l (t.getD ((u8.wrap (y - (1 : Int))).toNat) default)) (n.toNat) default)) (Lp.pa (List.getD (Rw.l (t.getD ((u8.wrap (y - (1 : Int))).toNat) default)) (n.toNat) default))])] (AV.agg [ub (Lp.b (List.getD (Rw.l (t.getD ((u8.wrap (y - (1 : Int))).toNat) default)) (n.toNat) default)), bb (Lp.w (List.getD (Rw.l (t.getD ((u8.wrap (y - (1 : Int))).toNat) default)) (n.toNat) default)), iow (some (List.length (Lp.th (List.getD (Rw.l (t.getD ((u8.wrap (y - (1 : Int))).toNat) default)) (n.toNat) default)))) (Lp.th (List.getD (Rw.l (t.getD ((u8.wrap (y - (1 : Int))).toNat) default)) (n.toNat) default)), AV.sl .own 56 (some (List.length (Lp.pa (List.getD (Rw.l (t.getD ((u8.wrap (y - (1 : Int))).toNat) default)) (n.toNat) default)))) (List.map Ps.enc (Lp.pa (List.getD (Rw.l (t.getD ((u8.wrap (y - (1 : Int))).toNat) default)) (n.toNat) default)))])) (by (first | rw [zqh] | rw [zqg] | rw [zrd] | rw [zrc] | skip); apply yqr<;>first|assumption|rfl|(simp at *<;>omega)) zqa))))))))
end
theorem F2.len {α β : Type} {R : α → β → Prop} : ∀ {l : List α} {m : List β}, F2 R l m → l.length = m.length
 | _, _, .nil => rfl
 | _, _, .cons _ h => congrArg (· + 1) (F2.len h)
theorem Le.shEls {P : Program} {m : Lf.Mode} (hm : m ≠ .own) {e : TypeId} {cap : Option Nat} {xs ys : List AV} (hl : xs.length = ys.length) (hu : ∀ sz, Uni sz xs → Uni sz ys) (hf : F2 (Le P) (flat xs) (flat ys)) : Le P (.sl m e cap xs) (.sl m e cap ys) := by
 intro B0 w S n v O hr
 obtain ⟨n, rfl⟩ := hr.pos
 have key : Shs P B0 w S (Rv P B0 w S n) m e cap xs v O → Shs P B0 w S (Rv P B0 w S n) m e cap ys v O := by
  rintro ⟨A, k, hv, h1, h2, hc, hx, hz, hr⟩
  refine ⟨A, k, hl ▸ hv, hl ▸ h1, h2, hc, hu _ hx, hz, fun hne => ?_⟩
  obtain ⟨g, off, C, T, fr, e1, e2, e3, e4, e5, e6⟩ := hr (by intro e; subst e; apply hne; exact zli hl.symm)
  have hfl := F2.len hf
  exact ⟨g, off, C, T, fr, e1, e2, e3, e4, hfl ▸ e5, hfl ▸ Rc.le2 (ys := flat ys) e6 hf⟩
 cases m with
 | own => exact absurd rfl hm
 | fresh => exact key hr
 | any => exact key hr
section
variable (c : Option Nat) (x : List Lx) (m : List (List Lp)) (md : List Idd) (a y n : Int) (h : HOf c x m md)
include h
end
def HFo (t : List Rw) (y n b : Int) (w : Bool) (th : List Idd) (pa : List Ps) : Prop := PureC Try.prog 16 [tsl none t, idE y n] (.tup [.agg (loO b w th pa), it 0])
section
variable (t : List Rw) (y n b : Int) (w : Bool) (th : List Idd) (pa : List Ps) (h : HFo t y n b w th pa)
abbrev g9 : Env := [(5, .box [ub y, it n]), (7, tsl none t)]
include h
end
theorem yig (r : List Rw) : flat (r.map Rw.enc) = r.map Rw.enc := by
 induction r with
 | nil => rfl
 | cons q r ih => rw [List.map_cons, flat, List.flatMap_cons]; show [q.enc] ++ flat (r.map Rw.enc) = _; rw [ih]; rfl
theorem F2.refl {α : Type} {R : α → α → Prop} (h : ∀ x, R x x) : ∀ l : List α, F2 R l l
 | [] => .nil
 | x :: l => .cons (h x) (F2.refl h l)
theorem F2.app {α β : Type} {R : α → β → Prop} : ∀ {l : List α} {m : List β} {l' : List α} {m' : List β}, F2 R l m → F2 R l' m' → F2 R (l ++ l') (m ++ m')
 | _, _, _, _, .nil, h => h
 | _, _, _, _, .cons h t, h' => .cons h (F2.app t h')
section
variable (t : List Rw) (md : List Idd) (a y n : Int) (A : Nat) (hA : IntKind.wrap i64 (Int.tmod a 4) = A) (hA4 : A < 4)
include hA hA4
end
section
variable (t : List Rw) (w : List Idd) (y i : Int) (L : Lp) (hpa : L.pa.length < 2 ^ 60) (hth : L.th.length < 2 ^ 60) (hI : okI L)
end
theorem yzn (t : List Rw) (y n : Int) (h0 : 0 ≤ y) (h1 : y ≤ 255) (hL : ∀ r ∈ t, ∀ L ∈ r.l, L.th.length ≤ 4294967296 ∧ L.pa.length ≤ 4294967296) (h : hasV t y n = true) : HFo t y n (atV t y n).b (atV t y n).w (atV t y n).th (atV t y n).pa := by
 obtain ⟨a, b, d, e⟩ := ye8 h
 obtain ⟨r, hr, hx⟩ := yu6 h
 have hk := hL r hr _ hx
 have w := ygj a h1
 have := fdO_0 none t y n h0 h1 (by rw [h]; rfl)
 simp only [w] at this
 exact this hk.1 hk.2 (by rw [h]; rfl) (zlb (by rw [zla]; omega)) (ybb (by omega)) (zlb (by rw [zla]; omega)) (yc7 (by omega))
def cpT (t : List Rw) : List Rw := t.map fun r => ⟨none, r.l.map cpL⟩
theorem ywk (m : List (List Lp)) : rwO m = cpT (tb m) := by unfold rwO cpT tb; rw [List.map_map]; rfl
section
variable (t : List Rw)
theorem yjj : (cpT t).length = t.length := by simp [cpT]
theorem yom (i : Nat) : ((cpT t).getD i default).l = ((t.getD i default).l).map cpL := by
 unfold cpT
 simp only [zld, List.getElem?_map]
 cases t[i]? <;> rfl
theorem cnt_cp : cntV (cpT t) = cntV t := by
 unfold cntV cpT
 rw [List.map_map]
 congr 1
 exact List.map_congr_left fun r _ => zla _
theorem yzc (y n : Int) : hasV (cpT t) y n = hasV t y n := by unfold hasV; rw [yjj, yom, zla]
theorem ypr (L : Lp) : yad (cpT t) (cpL L) = yad t L := by unfold yad; simp only [yzc]; rfl
theorem ysv (i : Nat) (R : List Lp) : rowL i (R.map cpL) = (rowL i R).map fun x => (x.1, cpL x.2) := by
 unfold rowL
 rw [List.zipIdx_map, List.map_map, List.map_map]
 rfl
theorem ygf : ∀ (t : List Rw) (i : Nat), yai i (cpT t) = (yai i t).map fun x => (x.1, cpL x.2)
 | [], i => rfl
 | r :: t, i => by
  show rowL i (r.l.map cpL) ++ yai (i + 1) (cpT t) = _
  rw [ysv, ygf t, yai, zlq]
theorem yoz : allT (cpT t) = (allT t).map fun x => (x.1, cpL x.2) := by
 unfold allT
 rw [← ygf]
 congr 1
 unfold cpT
 rw [List.map_take]
theorem ck_cp : ckT (cpT t) = ckT t := by
 unfold ckT
 rw [yoz, List.all_map]
 congr 1
 funext x
 show (yad (cpT t) (cpL x.2) && _) = _
 rw [ypr]; rfl
theorem tw_cp : twV (cpT t) = twV t := by
 unfold twV thA
 rw [yoz, List.flatMap_map]
 rfl
theorem yux (m : List Int) (i : Nat) : ycj m (cpT t) i = ycj m t i := by
 unfold ycj
 rw [yom, zla]
 congr 1
 generalize (t.getD i default).l = l
 generalize (m.getD i default).toNat = k
 simp only [zld, List.getElem?_map]
 cases l[k]? <;> rfl
theorem yh9 (m : List Int) : ∀ (k j : Nat), ybl m (cpT t) k j = ybl m t k j
 | 0, j => rfl
 | k + 1, j => by rw [ybl, ybl, yux, yh9 m k]
theorem yij : ∀ (f : Nat) (m : List Int), ycz (cpT t) f m = ycz t f m
 | 0, m => rfl
 | f + 1, m => by
  rw [ycz, ycz]
  unfold ya3
  rw [yh9, yjj]
  cases ybl m t t.length 0 with
  | none => rfl
  | some i => show _ :: _ = _ :: _; rw [yij f]
theorem ch_cp : chV (cpT t) = chV t := by
 unfold chV yaq ya7
 rw [yjj, cnt_cp, ck_cp, tw_cp, yij]
end
theorem ylw {S : OfS} (hS : ValidS S) (L : Lx) : zrj (tb S.m) (ofI S L).y (ofL S L) = (yaa S L).m := by
 have h6 := hS.m6
 have hk : L.y.toNat % 6 < 6 := Nat.mod_lt _ (by omega)
 refine List.ext_getElem (by simp [zrj, yaa, yct]) fun j h1 h2 => ?_
 have e2 : (yaa S L).m[j] = if j = L.y.toNat % 6 then S.m.getD (L.y.toNat % 6) default ++ [ofL S L] else S.m.getD j default := by
  have := hS.get (S.m.getD (L.y.toNat % 6) default ++ [ofL S L]) (L.y.toNat % 6) hk j
  rw [← this, zld]
  show _ = (yaa S L).m[j]?.getD default
  rw [zle h2]; rfl
 have e1 : (zrj (tb S.m) (ofI S L).y (ofL S L))[j] = addR (tb S.m) (ofI S L).y (ofL S L) j := by simp [zrj]
 rw [e2, e1]
 unfold addR
 rw [yjs]
 show (if (j : Int) = ((L.y.toNat % 6 + 1 : Nat) : Int) - 1 then _ else _) = _
 by_cases h : j = L.y.toNat % 6
 ·rw [if_pos (by omega), if_pos h, h]
 ·rw [if_neg (by omega), if_neg h]
theorem ymq {α : Type} (l : List α) (x : α) : l <+: l ++ [x] := List.prefix_append _ _
theorem yki : ∀ (l : List Lx) (S : OfS), ValidS S → (∀ L ∈ l, OkX L) → S.md <+: (l.foldl yaa S).md ∧ ∀ i, S.m.getD i default <+: (l.foldl yaa S).m.getD i default
 | [], S, _, _ => ⟨List.prefix_refl _, fun i => List.prefix_refl _⟩
 | L :: l, S, hS, hX => by
  have hk : L.y.toNat % 6 < 6 := Nat.mod_lt _ (by omega)
  obtain ⟨h1, h2⟩ := yki l (yaa S L) (hS.step (hX L (by simp))) fun K hK => hX K (by simp [hK])
  refine ⟨List.IsPrefix.trans (ymq _ _) h1, fun i => List.IsPrefix.trans ?_ (h2 i)⟩
  show _ <+: (S.m.set (L.y.toNat % 6) _).getD i default
  rw [hS.get _ _ hk]
  split
  ·rename_i h; subst h; exact ymq _ _
  ·exact List.prefix_refl _
theorem yyf {L : Lp} (h : L.ct = none ∧ L.cp = none) : F2 (Le Try.prog) (cpL L).enc.ecells L.enc.ecells := by
 obtain ⟨b, w, ct, th, cp, pa⟩ := L
 obtain ⟨rfl, rfl⟩ := h
 exact .cons (Le.refl _) (.cons (Le.refl _) (.cons Le.cap (.cons Le.cap .nil)))
theorem yyd {l : List Lp} (h : ∀ L ∈ l, L.ct = none ∧ L.cp = none) : Le Try.prog (Rw.enc ⟨none, l.map cpL⟩) (Rw.enc ⟨none, l⟩) := by
 refine Le.shEls (by simp) (by simp) (fun sz hu z hz => ?_) ?_
 ·obtain ⟨K, hK, rfl⟩ := List.mem_map.1 hz
  exact hu (cpL K).enc (List.mem_map.2 ⟨_, List.mem_map.2 ⟨K, hK, rfl⟩, rfl⟩)
 ·show F2 _ (((l.map cpL).map Lp.enc).flatMap AV.ecells) ((l.map Lp.enc).flatMap AV.ecells)
  induction l with
  | nil => exact .nil
  | cons K l ih =>
   rw [List.map_cons, List.map_cons, List.map_cons, List.flatMap_cons, List.flatMap_cons]
   exact F2.app (yyf (h K (by simp))) (ih fun L hL => h L (by simp [hL]))
theorem le_tb {m : List (List Lp)} (h : ∀ r ∈ m, ∀ L ∈ r, L.ct = none ∧ L.cp = none) : Le Try.prog (tsl none (rwO m)) (tsl none (tb m)) := by
 refine Le.shEls (by simp) (by simp [rwO, tb]) (fun sz hu z hz => ?_) ?_
 ·obtain ⟨K, hK, rfl⟩ := List.mem_map.1 hz
  obtain ⟨l, hl, rfl⟩ := List.mem_map.1 hK
  exact hu (Rw.enc ⟨none, l.map cpL⟩) (List.mem_map.2 ⟨_, List.mem_map.2 ⟨l, hl, rfl⟩, rfl⟩)
 ·rw [yig, yig]
  induction m with
  | nil => exact .nil
  | cons l m ih => exact .cons (yyd (h l (by simp))) (ih fun r hr => h r (by simp [hr]))
section
variable (t r : List Rw) (y i : Int) (L M : Lp) (k : Int)
abbrev dfD : Env := [(0, tsl none t), (1, tsl none r), (5, it 0), (6, it y), (7, it i), (8, lpB L), (9, lpB M)]
theorem df0_0 : Tri Try.prog (cxN 109 0) (zqr Try.f18 0) ([(0, tsl none t), (1, tsl none r)]) .normal ([(0, tsl none t), (1, tsl none r)]) :=
 ev h18 [.c] zqa
theorem df1_0 : Tri Try.prog (cxN 109 0) (zqr Try.f18 1) ([(0, tsl none t), (1, tsl none r)]) .normal ([(0, tsl none t), (1, tsl none r), (15, bb (((t.map Rw.enc).length : Int) != ((r.map Rw.enc).length : Int)))]) :=
 ev h18 [.c, .c, .c, .c, .c] zqa
theorem df3_0 : Tri Try.prog (cxN 109 0) (zqr Try.f18 3) ([(0, tsl none t), (1, tsl none r)]) .normal ([(0, tsl none t), (1, tsl none r), (5, it 0)]) :=
 ev h18 [.c] zqa
theorem df4_0 : Tri Try.prog (cxN 109 0) (zqr Try.f18 4) ([(0, tsl none t), (1, tsl none r), (5, it 0)]) .normal ([(0, tsl none t), (1, tsl none r), (5, it 0), (6, it 0)]) :=
 ev h18 [.c] zqa
theorem yzz : Tri Try.prog (cxN 109 0) (zqr Try.f18 5) ([(0, tsl none t), (1, tsl none r), (5, it 0), (6, it y)]) .normal ([(0, tsl none t), (1, tsl none r), (5, it 0), (6, it y), (19, bb (decide (y < ((t.map Rw.enc).length : Int))))]) :=
 ev h18 [.c, .c, .c, .c] zqa
theorem df6_0 : Tri Try.prog (cxN 109 0) (zqr Try.f18 6) ([(0, tsl none t), (1, tsl none r), (5, it 0), (6, it y)]) .normal ([(0, tsl none t), (1, tsl none r), (5, it 0), (6, it (i64.wrap (y + (1 : Int))))]) :=
 ev h18 [.c, .c, .c] zqa
theorem df7_0 (g0 : decide ((0 : Int) ≤ y ∧ y < ((t.map Rw.enc).length : Int)) = true) (g1 : (t.map Rw.enc).getD (y.toNat) AV.bad = Rw.enc (t.getD (y.toNat) default)) (g2 : decide ((0 : Int) ≤ y ∧ y < ((r.map Rw.enc).length : Int)) = true) (g3 : (r.map Rw.enc).getD (y.toNat) AV.bad = Rw.enc (r.getD (y.toNat) default)) : Tri Try.prog (cxN 109 0) (zqr Try.f18 7) ([(0, tsl none t), (1, tsl none r), (5, it 0), (6, it y)]) .normal ([(0, tsl none t), (1, tsl none r), (5, it 0), (6, it y), (32, bb ((↑(((Rw.l (t.getD (y.toNat) default)).map Lp.enc).length) : Int) != (↑(((Rw.l (r.getD (y.toNat) default)).map Lp.enc).length) : Int)))]) :=
 ev h18 [.c, .c, .b true, .r (Rw.enc (t.getD (y.toNat) default)), .c, .c, .c, .c, .c, .b true, .r (Rw.enc (r.getD (y.toNat) default)), .c, .c, .c, .c] (allp g0 (allp g1 (allp g2 (allp g3 zqa))))
theorem df9_0 : Tri Try.prog (cxN 109 0) (zqr Try.f18 9) ([(0, tsl none t), (1, tsl none r), (5, it 0), (6, it y)]) .normal ([(0, tsl none t), (1, tsl none r), (5, it 0), (6, it y), (7, it 0)]) :=
 ev h18 [.c] zqa
theorem yr6 (g0 : decide ((0 : Int) ≤ y ∧ y < ((t.map Rw.enc).length : Int)) = true) (g1 : (t.map Rw.enc).getD (y.toNat) AV.bad = Rw.enc (t.getD (y.toNat) default)) : Tri Try.prog (cxN 109 0) (zqr Try.f18 10) ([(0, tsl none t), (1, tsl none r), (5, it 0), (6, it y), (7, it i)]) .normal ([(0, tsl none t), (1, tsl none r), (5, it 0), (6, it y), (7, it i), (39, bb (decide (i < (↑(((Rw.l (t.getD (y.toNat) default)).map Lp.enc).length) : Int))))]) :=
 ev h18 [.c, .c, .c, .b true, .r (Rw.enc (t.getD (y.toNat) default)), .c, .c, .c, .c] (allp g0 (allp g1 zqa))
theorem yz6 : Tri Try.prog (cxN 109 0) (zqr Try.f18 11) ([(0, tsl none t), (1, tsl none r), (5, it 0), (6, it y), (7, it i)]) .normal ([(0, tsl none t), (1, tsl none r), (5, it 0), (6, it y), (7, it (i64.wrap (i + (1 : Int))))]) :=
 ev h18 [.c, .c, .c] zqa
theorem yz5 (g0 : decide ((0 : Int) ≤ y ∧ y < ((t.map Rw.enc).length : Int)) = true) (g1 : (t.map Rw.enc).getD (y.toNat) AV.bad = Rw.enc (t.getD (y.toNat) default)) (g2 : decide ((0 : Int) ≤ i ∧ i < (↑(((Rw.l (t.getD (y.toNat) default)).map Lp.enc).length) : Int)) = true) (g3 : ((Rw.l (t.getD (y.toNat) default)).map Lp.enc).getD (i.toNat) AV.bad = Lp.enc ((Rw.l (t.getD (y.toNat) default)).getD (i.toNat) default)) (g4 : decide ((0 : Int) ≤ y ∧ y < ((r.map Rw.enc).length : Int)) = true) (g5 : (r.map Rw.enc).getD (y.toNat) AV.bad = Rw.enc (r.getD (y.toNat) default)) (g6 : decide ((0 : Int) ≤ i ∧ i < (↑(((Rw.l (r.getD (y.toNat) default)).map Lp.enc).length) : Int)) = true) (g7 : ((Rw.l (r.getD (y.toNat) default)).map Lp.enc).getD (i.toNat) AV.bad = Lp.enc ((Rw.l (r.getD (y.toNat) default)).getD (i.toNat) default)) : Tri Try.prog (cxN 109 0) (zqr Try.f18 12) ([(0, tsl none t), (1, tsl none r), (5, it 0), (6, it y), (7, it i)]) .normal ([(0, tsl none t), (1, tsl none r), (5, it 0), (6, it y), (7, it i), (8, .box [ub (Lp.b ((Rw.l (t.getD (y.toNat) default)).getD (i.toNat) default)), bb (Lp.w ((Rw.l (t.getD (y.toNat) default)).getD (i.toNat) default)), isl (Lp.ct ((Rw.l (t.getD (y.toNat) default)).getD (i.toNat) default)) (Lp.th ((Rw.l (t.getD (y.toNat) default)).getD (i.toNat) default)), sl (Lp.cp ((Rw.l (t.getD (y.toNat) default)).getD (i.toNat) default)) (Lp.pa ((Rw.l (t.getD (y.toNat) default)).getD (i.toNat) default))]), (9, .box [ub (Lp.b ((Rw.l (r.getD (y.toNat) default)).getD (i.toNat) default)), bb (Lp.w ((Rw.l (r.getD (y.toNat) default)).getD (i.toNat) default)), isl (Lp.ct ((Rw.l (r.getD (y.toNat) default)).getD (i.toNat) default)) (Lp.th ((Rw.l (r.getD (y.toNat) default)).getD (i.toNat) default)), sl (Lp.cp ((Rw.l (r.getD (y.toNat) default)).getD (i.toNat) default)) (Lp.pa ((Rw.l (r.getD (y.toNat) default)).getD (i.toNat) default))])]) :=
 ev h18 [.c, .c, .b true, .r (Rw.enc (t.getD (y.toNat) default)), .c, .c, .c, .b true, .r (Lp.enc ((Rw.l (t.getD (y.toNat) default)).getD (i.toNat) default)), .c, .c, .c, .c, .b true, .r (Rw.enc (r.getD (y.toNat) default)), .c, .c, .c, .b true, .r (Lp.enc ((Rw.l (r.getD (y.toNat) default)).getD (i.toNat) default)), .c, .c, .c, .c, .c, .c, .c, .c] (allp g0 (allp g1 (allp g2 (allp g3 (allp g4 (allp g5 (allp g6 (allp g7 zqa))))))))
theorem yz4 (y i b : Int) (w : Bool) (c d e f : Option Nat) (th : List Idd) (pa : List Ps) (hl : th.length ≤ 100000) (g0 : (b != b) = false) (g1 : (w != w) = false) (g2 : (!ByteArray.toList (txV th { data := #[] }) == ByteArray.toList (txV th { data := #[] })) = false) : Tri Try.prog (cxN 109 0) (zqr Try.f18 13) ([(0, tsl none t), (1, tsl none r), (5, it 0), (6, it y), (7, it i), (8, .box [ub b, bb w, isl c th, sl d pa]), (9, .box [ub b, bb w, isl e th, sl f pa])]) .normal ([(0, tsl none t), (1, tsl none r), (5, it 0), (6, it y), (7, it i), (8, .box [ub b, bb w, isl c th, sl d pa]), (9, .box [ub b, bb w, isl e th, sl f pa]), (85, bb (((pa.map Ps.enc).length : Int) != ((pa.map Ps.enc).length : Int)))]) :=
 ev h18 [.c, .c, .c, .c, .c, .c, .c, .c, .c, .c, .b false, .c, .b false, .c, .c, .c, .b false, .c, .b false, .c, .c, .c, .b false, .c, .b false, .c, .c, .b false, .c, .b false, .c, .c, .c, .b false, .r (isl c th), .r (AV.atom (Value.string (txV th { data := #[] }))), .c, .c, .b false, .c, .b false, .c, .c, .c, .b false, .r (isl e th), .r (AV.atom (Value.string (txV th { data := #[] }))), .c, .c, .b false, .c, .b false, .c, .c, .b false, .c, .b false, .c, .c, .c, .b false, .c, .b false, .c, .b false, .c, .c, .c, .b false, .c, .b false, .c, .b false, .c] (allp g0 (allp g0 (allp g0 (allp g0 (allp g0 (allp g0 (allp g1 (allp g1 (allp g1 (allp (zrb .any c th) (allp (p := PureC Try.prog 21 [isl c th] (AV.atom (Value.string (txV th { data := #[] })))) (by apply yhr<;>first|assumption|rfl|(simp at *<;>omega)) (allp g1 (allp g1 (allp g1 (allp (zrb .any e th) (allp (p := PureC Try.prog 21 [isl e th] (AV.atom (Value.string (txV th { data := #[] })))) (by apply yhr<;>first|assumption|rfl|(simp at *<;>omega)) (allp g1 (allp g1 (allp g2 (allp g2 (allp g2 (allp g2 (allp g2 (allp g2 (allp g2 (allp g2 zqa))))))))))))))))))))))))))
theorem yz3 : Tri Try.prog (cxN 109 0) (zqr Try.f18 15) ((dfD t r y i L M) ) .normal ((dfD t r y i L M ++ [(10, it 0)])) :=
 ev h18 [.c] zqa
theorem yr5 : Tri Try.prog (cxN 109 0) (zqr Try.f18 16) ((dfD t r y i L M ++ [(10, it k)]) ) .normal ((dfD t r y i L M ++ [(10, it k), (92, bb (decide (k < (↑(((Lp.pa L).map Ps.enc).length) : Int))))])) :=
 ev h18 [.c, .c, .c, .c, .c, .c, .c] zqa
theorem yz2 : Tri Try.prog (cxN 109 0) (zqr Try.f18 17) ((dfD t r y i L M ++ [(10, it k)]) ) .normal ((dfD t r y i L M ++ [(10, it (i64.wrap (k + (1 : Int))))])) :=
 ev h18 [.c, .c, .c] zqa
theorem yz1 (g0 : decide ((0 : Int) ≤ k ∧ k < (↑(((Lp.pa L).map Ps.enc).length) : Int)) = true) (g1 : ((Lp.pa L).map Ps.enc).getD (k.toNat) AV.bad = Ps.enc ((Lp.pa L).getD (k.toNat) default)) (g2 : decide ((0 : Int) ≤ k ∧ k < (↑(((Lp.pa M).map Ps.enc).length) : Int)) = true) (g3 : ((Lp.pa M).map Ps.enc).getD (k.toNat) AV.bad = Ps.enc ((Lp.pa M).getD (k.toNat) default)) : Tri Try.prog (cxN 109 0) (zqr Try.f18 18) ((dfD t r y i L M ++ [(10, it k)]) ) .normal ((dfD t r y i L M ++ [(10, it k), (105, bb !(Ps.y ((Lp.pa L).getD (k.toNat) default) == Ps.y ((Lp.pa M).getD (k.toNat) default) && Ps.n ((Lp.pa L).getD (k.toNat) default) == Ps.n ((Lp.pa M).getD (k.toNat) default) && Ps.f ((Lp.pa L).getD (k.toNat) default) == Ps.f ((Lp.pa M).getD (k.toNat) default) && Ps.d ((Lp.pa L).getD (k.toNat) default) == Ps.d ((Lp.pa M).getD (k.toNat) default)))])) :=
 ev h18 [.c, .c, .c, .c, .c, .b true, .r (Ps.enc ((Lp.pa L).getD (k.toNat) default)), .c, .c, .c, .c, .c, .c, .c, .b true, .r (Ps.enc ((Lp.pa M).getD (k.toNat) default)), .c, .c, .c] (allp g0 (allp g1 (allp g2 (allp g3 zqa))))
theorem yz0 : Tri Try.prog (cxN 109 0) (zqr Try.f18 20) ([(0, tsl none t), (1, tsl none r), (5, it 0)]) .normal ([(4, it 0)]) :=
 ev h18 [.c, .c] zqa
end
theorem yzy : zqc Try.f18 0 = .seq (.seq (zqr Try.f18 5) (.cond (.tmp 19) .skip (.exit 0))) (.seq (.block 1 (.seq (.seq (zqr Try.f18 7) (.cond (.tmp 32) (.seq (zqr Try.f18 8) .ret) .skip)) (.seq (zqr Try.f18 9) (.block 2 (.loop (zqc Try.f18 1)))))) (zqr Try.f18 6)) := by kernel_rfl
theorem yzx : zqc Try.f18 1 = .seq (.seq (zqr Try.f18 10) (.cond (.tmp 39) .skip (.exit 2))) (.seq (.block 3 (.seq (zqr Try.f18 12) (.seq (.seq (zqr Try.f18 13) (.cond (.tmp 85) (.seq (zqr Try.f18 14) (.exit 3)) .skip)) (.seq (zqr Try.f18 15) (.block 4 (.loop (zqc Try.f18 2))))))) (zqr Try.f18 11)) := by kernel_rfl
theorem yzw : zqc Try.f18 2 = .seq (.seq (zqr Try.f18 16) (.cond (.tmp 92) .skip (.exit 4))) (.seq (.block 5 (.seq (zqr Try.f18 18) (.cond (.tmp 105) (zqr Try.f18 19) .skip))) (zqr Try.f18 17)) := by kernel_rfl
theorem yui : Try.f18.body = some (.seq (zqr Try.f18 0) (.seq (.seq (zqr Try.f18 1) (.cond (.tmp 15) (.seq (zqr Try.f18 2) .ret) .skip)) (.seq (zqr Try.f18 3) (.seq (.seq (zqr Try.f18 4) (.block 0 (.loop (zqc Try.f18 0)))) (.seq (zqr Try.f18 20) .ret))))) := by kernel_rfl
structure SameT (t r : List Rw) : Prop where
 len : t.length = r.length
 row : ∀ y, y < t.length → (t.getD y default).l.length = (r.getD y default).l.length
 eq : ∀ y, y < t.length → ∀ i, i < (t.getD y default).l.length → ∃ ct cp, (r.getD y default).l.getD i default = ⟨((t.getD y default).l.getD i default).b, ((t.getD y default).l.getD i default).w, ct, ((t.getD y default).l.getD i default).th, cp, ((t.getD y default).l.getD i default).pa⟩
section
variable (t r : List Rw) (hs : SameT t r) (ht : t.length < 2 ^ 30) (hr : ∀ q ∈ t, q.l.length < 2 ^ 30 ∧ ∀ L ∈ q.l, L.th.length ≤ 100000 ∧ L.pa.length < 2 ^ 30)
theorem ykp (y i : Int) (L : Lp) (ct cp : Option Nat) (hp : L.pa.length < 2 ^ 30) : ∀ (m k : Nat), k + m = L.pa.length → Rnd Try.prog (cxN 109 0) (zqc Try.f18 2) (m + 1) (dfD t r y i L ⟨L.b, L.w, ct, L.th, cp, L.pa⟩ ++ [(10, it k)]) (.exit 4) [(0, tsl none t), (1, tsl none r), (5, it 0), (6, it y), (7, it i)]
 | 0, k, h => by
  rw [yzw]
  have h1 := yr5 t r y i L ⟨L.b, L.w, ct, L.th, cp, L.pa⟩ k
  rw [show decide ((k : Int) < ((L.pa.map Ps.enc).length : Nat)) = false by rw [zlc]; rw [zla]; omega] at h1
  exact .exit (.seqX (.seq h1 (.cond (b := false) rfl (.after (kp [0, 1, 5, 6, 7]) .exit))) (by simp)) (by simp)
 | m + 1, k, h => by
  have hk : k < L.pa.length := by omega
  have h1 := yr5 t r y i L ⟨L.b, L.w, ct, L.th, cp, L.pa⟩ k
  rw [show decide ((k : Int) < ((L.pa.map Ps.enc).length : Nat)) = true by rw [zlb]; rw [zla]; omega] at h1
  have h18 := yz1 t r y i L ⟨L.b, L.w, ct, L.th, cp, L.pa⟩ k (zlb (by rw [zla]; omega)) (yb8 (by rw [zlf]; exact hk)) (zlb (by rw [zla]; show _ ∧ _ < ((L.pa.length : Nat) : Int); omega)) (yb8 (by rw [zlf]; exact hk))
  have h17 := yz2 t r y i L ⟨L.b, L.w, ct, L.th, cp, L.pa⟩ k
  rw [up64 (by omega)] at h17
  refine .step ?_ (ykp y i L ct cp hp m (k + 1) (by omega))
  rw [yzw]
  refine .seq (.seq h1 (.cond (b := true) rfl (.after (kp [0, 1, 5, 6, 7, 8, 9, 10]) .skip))) (.seq (.block (ex := .normal) (.seq h18 (.cond (b := false) ?_ (.after (kp [0, 1, 5, 6, 7, 8, 9, 10]) .skip))) (.inr ⟨by simp, rfl⟩)) h17)
  show some (bb _) = some (bb false)
  simp
include hs ht hr
theorem ykr (y : Nat) (hy : y < t.length) : ∀ (m i : Nat), i + m = (t.getD y default).l.length → Rnd Try.prog (cxN 109 0) (zqc Try.f18 1) (m + 1) [(0, tsl none t), (1, tsl none r), (5, it 0), (6, it y), (7, it i)] (.exit 2) [(0, tsl none t), (1, tsl none r), (5, it 0), (6, it y)]
 | 0, i, h => by
  rw [yzx]
  have h1 := yr6 t r y i (zlb (by rw [zla]; omega)) (ybb (by omega))
  rw [zlf, zla, show decide ((i : Int) < ((t.getD y default).l.length : Nat)) = false by rw [zlc]; omega] at h1
  exact .exit (.seqX (.seq h1 (.cond (b := false) rfl (.after (kp [0, 1, 5, 6]) .exit))) (by simp)) (by simp)
 | m + 1, i, h => by
  have hi : i < (t.getD y default).l.length := by omega
  have hl := hs.len
  have hrw := hs.row y hy
  have hq : t.getD y default ∈ t := by rw [zld, zle hy]; exact zlu hy
  obtain ⟨q1, q2⟩ := hr _ hq
  obtain ⟨q3, q4⟩ := q2 _ (yj8 hi)
  obtain ⟨ct, cp, he⟩ := hs.eq y hy i hi
  have h1 := yr6 t r y i (zlb (by rw [zla]; omega)) (ybb (by omega))
  rw [zlf, zla, show decide ((i : Int) < ((t.getD y default).l.length : Nat)) = true by rw [zlb]; omega] at h1
  have h12 := yz5 t r y i (zlb (by rw [zla]; omega)) (ybb (by omega))
  simp only [zlf] at h12
  have h12 := h12 (zlb (by rw [zla]; omega)) (yc7 (by omega)) (zlb (by rw [zla]; omega)) (ybb (by omega)) (zlb (by rw [zla]; omega)) (yc7 (by omega))
  rw [he] at h12
  generalize (t.getD y default).l.getD i default = L at *
  have h13 := yz4 t r y i L.b L.w L.ct L.cp ct cp L.th L.pa q3 (by simp) (by simp) (by simp)
  have hP := (ykp t r y i L ct cp q4 L.pa.length 0 (Nat.zero_add _)).loop
  have h11 := yz6 t r y i
  rw [up64 (by omega)] at h11
  refine .step ?_ (ykr y hy m (i + 1) (by omega))
  rw [yzx]
  refine .seq (.seq h1 (.cond (b := true) rfl (.after (kp [0, 1, 5, 6, 7]) .skip))) (.seq (.block (ex := .normal) (.seq h12 (.seq (.seq h13 (.cond (b := false) ?_ (.after (kp [0, 1, 5, 6, 7, 8, 9]) .skip))) (.seq (yz3 t r y i L ⟨L.b, L.w, ct, L.th, cp, L.pa⟩) (.block (ex := .exit 4) hP (.inl ⟨rfl, rfl⟩))))) (.inr ⟨by simp, rfl⟩)) h11)
  show some (bb _) = some (bb false)
  simp
theorem ykq : ∀ (m y : Nat), y + m = t.length → Rnd Try.prog (cxN 109 0) (zqc Try.f18 0) (m + 1) [(0, tsl none t), (1, tsl none r), (5, it 0), (6, it y)] (.exit 0) [(0, tsl none t), (1, tsl none r), (5, it 0)]
 | 0, y, h => by
  rw [yzy]
  have h1 := yzz t r y
  rw [zla, show decide ((y : Int) < (t.length : Nat)) = false by rw [zlc]; omega] at h1
  exact .exit (.seqX (.seq h1 (.cond (b := false) rfl (.after (kp [0, 1, 5]) .exit))) (by simp)) (by simp)
 | m + 1, y, h => by
  have hy : y < t.length := by omega
  have hl := hs.len
  have hrw := hs.row y hy
  have h1 := yzz t r y
  rw [zla, show decide ((y : Int) < (t.length : Nat)) = true by rw [zlb]; omega] at h1
  have h7 := df7_0 t r y (zlb (by rw [zla]; omega)) (ybb (by omega)) (zlb (by rw [zla]; omega)) (ybb (by omega))
  simp only [zlf, zla] at h7
  have hI := (ykr t r hs ht hr y hy (t.getD y default).l.length 0 (Nat.zero_add _)).loop
  have h6 := df6_0 t r y
  rw [up64 (by omega)] at h6
  refine .step ?_ (ykq m (y + 1) (by omega))
  rw [yzy]
  refine .seq (.seq h1 (.cond (b := true) rfl (.after (kp [0, 1, 5, 6]) .skip))) (.seq (.block (ex := .normal) (.seq (.seq h7 (.cond (b := false) ?_ (.after (kp [0, 1, 5, 6]) .skip))) (.seq (df9_0 t r y) (.block (ex := .exit 2) hI (.inl ⟨rfl, rfl⟩)))) (.inr ⟨by simp, rfl⟩)) h6)
  show some (bb _) = some (bb false)
  rw [hrw]; simp
theorem yol : PureC Try.prog 18 [tsl none t, tsl none r] (it 0) := by
 have h1 := df1_0 t r
 rw [zla, zla, hs.len, show ((r.length : Int) != (r.length : Int)) = false by simp] at h1
 have hO := (ykq t r hs ht hr t.length 0 (Nat.zero_add _)).loop
 exact ycc ((base 109 0).ok zqb.1 zqb.2) Try.func18 rfl (by show 2 ≤ 109; omega) rfl yui rfl (ex := .ret) (env' := [(4, it 0)]) (.seq (df0_0 t r) (.seq (.seq h1 (.cond (b := false) rfl (.after (kp [0, 1]) .skip))) (.seq (df3_0 t r) (.seq (.seq (df4_0 t r) (.block (ex := .exit 0) hO (.inl ⟨rfl, rfl⟩))) (.seq (yz0 t r) .ret))))) (by kernel_rfl)
end
theorem St.grabAl {P : Program} {cx : Cx} {F : Frm} {B0 : Nat} {w0 w : World} {S0 S : Nat → Prop} {n : Nat} {a : Act} {Os : Nat → Own} {env : Env} {r s : Nat} {p : Path} {xr : AV} {e : TypeId} {cap : Option Nat} {xs : List AV} (hN : a.tmps.size = cx.N ∧ F.lo = cx.lo) (hn : 0 < n) (hgr : Grow B0 S0 S) (hst : St P F B0 w0 n env a.tmps w S Os) (hrs : r ≠ s) (hr : lk env r = some xr) (hrt : zqu xr = true) (hg : getC xr p = some (.sl .own e cap xs))
  (hs : lk env s = some (.al r p none)) (hlf : zqf (setC xr p (share (.sl .own e cap xs))) = none) (hsN : cx.lo ≤ s ∧ s < cx.N) (hno : ∀ t y, t ≠ s → lk env t = some y → zqf y ≠ some r ∧ zqf y ≠ some s) :
  ∃ n' S' Os', n ≤ n' ∧ (∀ b, S b → S' b) ∧ Grow B0 S0 S' ∧ St P F B0 w0 n' ((s, share (.sl .own e cap xs)) :: (r, setC xr p (share (.sl .own e cap xs))) :: (s, .bad) :: env) a.tmps w S' Os' := by
 obtain ⟨v, hv, hsv⟩ := hst.rel s _ hs
 have ha : Al P env a.tmps w v (.al r p none) := by
  rcases hsv with ⟨_, ha, _⟩ | h
  ·exact ha
  ·have := h.noLeaf; cases this
 obtain ⟨vr, u, h1, h2, h3⟩ := ha xr hr _ _ _ _ hg (.inr rfl)
 have h3 : v = u := h3
 subst h3
 have hlk : ∀ t, t ≠ s → lk ((s, AV.bad) :: env) t = lk env t := fun t ht => by simp [lk, Ne.symm ht]
 have hst1 := hst.bad' hn hs
 have htop : topOnly r ((s, AV.bad) :: env) := by
  intro t y hy hyr
  by_cases ht : t = s
  ·subst ht
   simp only [lk, if_pos] at hy
   injection hy with hy; subst hy; cases hyr
  ·rw [hlk t ht] at hy
   exact absurd hyr (hno t y ht hy).1
 obtain ⟨n', S', Os', vr', u', m, hn', hst', hS, e1, e2, hm, hrv, hOs, hS'⟩ := hst1.shareAt (p := p) ((hlk r hrs).trans hr) hrt hg (.inr htop)
 rw [h1] at e1; injection e1 with e1; subst e1
 rw [h2] at e2; injection e2 with e2; subst e2
 have hnr : zrm s ((r, setC xr p (share (.sl .own e cap xs))) :: (s, AV.bad) :: env) := by
  intro t y hy hyr
  by_cases htr : r = t
  ·subst htr
   simp only [lk, if_pos] at hy
   injection hy with hy
   rw [← hy, hlf] at hyr; cases hyr
  ·simp only [lk, if_neg htr] at hy
   by_cases ht : t = s
   ·subst ht
    simp only [if_pos] at hy
    injection hy with hy; subst hy; cases hyr
   ·rw [if_neg (Ne.symm ht)] at hy
    exact (hno t y ht hy).2 hyr
 have hst2 := hst'.put0 (zly n') (d := s) ⟨by rw [hN.1]; exact hsN.2, by rw [hN.2]; exact hsN.1⟩ hnr (v := v) (x := share (.sl .own e cap xs)) (.inr (hrv.le (Nat.le_trans hm hn')))
 rw [ya0 _ _ _ hv] at hst2
 refine ⟨n', S', _, hn', hS, ⟨fun b hb => hS b (hgr.1 b hb), fun b hb => ?_⟩, hst2⟩
 rcases hS' b hb with h | h
 ·exact hgr.2 b h
 ·exact .inr (hst1.lt r b h).1
theorem Tri.grabAl {P : Program} {cx : Cx} {env0 env : Env} {c : Code} {ex : Ex} {r s : Nat} {p : Path} {xr : AV} {e : TypeId} {cap : Option Nat} {xs : List AV} (h : Tri P cx c env0 ex env) (hrs : r ≠ s) (hr : lk env r = some xr) (hrt : zqu xr = true) (hg : getC xr p = some (.sl .own e cap xs))
  (hs : lk env s = some (.al r p none)) (hlf : zqf (setC xr p (share (.sl .own e cap xs))) = none) (hsN : cx.lo ≤ s ∧ s < cx.N) (hno : ∀ t y, t ≠ s → lk env t = some y → zqf y ≠ some r ∧ zqf y ≠ some s) :
  Tri P cx c env0 ex ((s, share (.sl .own e cap xs)) :: (r, setC xr p (share (.sl .own e cap xs))) :: (s, .bad) :: env) :=
 fun ρ hρ F B0 w0 S0 ds a w Q hag hQ => h ρ hρ F B0 w0 S0 ds a w Q hag fun a' w' ⟨Ds, n, S, Os, hnd, hD, h1, h2, hn, hgr, hst⟩ => by
  obtain ⟨n', S', Os', hn', hS, hgr', hst'⟩ := St.grabAl h2 hn hgr hst hrs hr hrt hg hs hlf hsN hno
  exact hQ a' w' ⟨Ds, n', S', Os', hnd, fun D hm => ⟨(hD D hm).1, hS _ (hD D hm).2.1, (hD D hm).2.2⟩, h1, h2, by omega, hgr', hst'⟩
theorem Tri.grab {P : Program} {cx : Cx} {env0 env : Env} {c : Code} {ex : Ex} {r : Nat} {e : TypeId} {cap : Option Nat} {xs : List AV} (h : Tri P cx c env0 ex env) (hr : lk env r = some (.sl .own e cap xs)) :
  Tri P cx c env0 ex ((r, share (.sl .own e cap xs)) :: env) :=
 fun ρ hρ F B0 w0 S0 ds a w Q hag hQ => h ρ hρ F B0 w0 S0 ds a w Q hag fun a' w' ⟨Ds, n, S, Os, hnd, hD, h1, h2, hn, hgr, hst⟩ => by
  obtain ⟨n', S', Os', vr, u, m, hn', hst', hS, _, _, _, _, _, hS'⟩ := hst.shareAt (p := []) hr rfl rfl (.inl rfl)
  refine hQ a' w' ⟨Ds, n', S', Os', hnd, fun D hm => ⟨(hD D hm).1, hS _ (hD D hm).2.1, (hD D hm).2.2⟩, h1, h2, by omega, ⟨fun b hb => hS b (hgr.1 b hb), fun b hb => ?_⟩, hst'⟩
  rcases hS' b hb with h | h
  ·exact hgr.2 b h
  ·exact .inr (hst.lt r b h).1
def HDf (t r : List Rw) : Prop := PureC Try.prog 18 [tsl none t, tsl none r] (it 0)
theorem uHDf {t r : List Rw} (h : HDf t r) : PureC Try.prog 18 [tsl none t, tsl none r] (it 0) := h
def HAo (t : List Rw) (y b : Int) (w : Bool) (th : List Idd) (pa : List Ps) (m : List (List Lp)) : Prop := PureC Try.prog 17 [tsl none t, ub y, .agg [ub b, bb w, isl (some th.length) th, sl (some pa.length) pa]] (.tup [tOW m, it 0])
theorem uHAo {t : List Rw} {y b : Int} {w : Bool} {th : List Idd} {pa : List Ps} {m : List (List Lp)} (h : HAo t y b w th pa m) : PureC Try.prog 17 [tsl none t, ub y, .agg [ub b, bb w, isl (some th.length) th, sl (some pa.length) pa]] (.tup [tOW m, it 0]) := h
theorem yzu : PureC Try.prog 15 [] (.sl .own 37 (some 6) [zqw, zqw, zqw, zqw, zqw, zqw]) := yqp 0
theorem yyu (c : Option Nat) (x : List Lx) : Tri Try.prog (cxN 96 0) (zqr Try.f4 0) ([(0, xsl c x)]) .normal ([(0, xsl c x)]) :=
 ev h4 [.c] zqa
theorem la1_0 (c : Option Nat) (x : List Lx) : Tri Try.prog (cxN 96 0) (zqr Try.f4 1) ([(0, xsl c x)]) .normal ([(0, xsl c x), (13, bb (decide ((25 : Int) < ((x.map Lx.enc).length : Int))))]) :=
 ev h4 [.c, .c, .c] zqa
theorem la2_0 (c : Option Nat) (x : List Lx) : Tri Try.prog (cxN 96 0) (zqr Try.f4 2) ([(0, xsl c x)]) .normal ([(2, bb true)]) :=
 ev h4 [.r (bb true), .c, .c, .c] (allp (p := PureC Try.prog 14 [] (bb true)) (by apply ynm<;>first|assumption|rfl|(simp at *<;>omega)) zqa)
theorem la4_0 (t : List Rw) (md : List Idd) : Tri Try.prog (cxN 96 0) (zqr Try.f4 4) ([(3, tsl none t), (4, isl none md)]) .normal ([(3, tsl none t), (4, isl none md), (5, AV.sl .own 37 (some 6) [zqw, zqw, zqw, zqw, zqw, zqw])]) :=
 ev h4 [.r (AV.sl .own 37 (some 6) [zqw, zqw, zqw, zqw, zqw, zqw]), .c, .c, .c] (allp (p := PureC Try.prog 15 [] (AV.sl .own 37 (some 6) [zqw, zqw, zqw, zqw, zqw, zqw])) (by apply yzu<;>first|assumption|rfl|(simp at *<;>omega)) zqa)
theorem la5_1 (t u : List Rw) (md : List Idd) (k : Int) (h : HCn u k) (g0 : (((u.map Rw.enc).length : Int) != (6 : Int)) = false) : Tri Try.prog (cxN 96 0) (zqr Try.f4 5) ([(3, tsl none t), (4, isl none md), (5, tsl none u)]) .normal ([(3, tsl none t), (4, isl none md), (5, tsl none u), (28, bb (k != (0 : Int)))]) :=
 ev h4 [.c, .c, .c, .c, .b false, .c, .b false, .r (tsl none u), .r (it k), .c, .c, .b false, .c, .b false, .c] (allp g0 (allp g0 (allp (zqg .any none u) (allp (p := PureC Try.prog 12 [tsl none u] (it k)) (by apply uHCn<;>first|assumption|rfl|(simp at *<;>omega)) (allp g0 (allp g0 zqa))))))
theorem la7_0 (t u : List Rw) (md : List Idd) : Tri Try.prog (cxN 96 0) (zqr Try.f4 7) ([(3, tsl none t), (4, isl none md), (5, tsl none u)]) .normal ([(3, tsl none t), (4, isl none md), (5, tsl none u), (6, it 0)]) :=
 ev h4 [.c] zqa
theorem yyj (t u : List Rw) (md : List Idd) (i : Int) : Tri Try.prog (cxN 96 0) (zqr Try.f4 8) ([(3, tsl none t), (4, isl none md), (5, tsl none u), (6, it i)]) .normal ([(3, tsl none t), (4, isl none md), (5, tsl none u), (6, it i), (32, bb (decide (i < ((md.map Idd.enc).length : Int))))]) :=
 ev h4 [.c, .c, .c, .c] zqa
theorem la9_0 (t u : List Rw) (md : List Idd) (i : Int) : Tri Try.prog (cxN 96 0) (zqr Try.f4 9) ([(3, tsl none t), (4, isl none md), (5, tsl none u), (6, it i)]) .normal ([(3, tsl none t), (4, isl none md), (5, tsl none u), (6, it (i64.wrap (i + (1 : Int))))]) :=
 ev h4 [.c, .c, .c] zqa
theorem yys (t u : List Rw) (md : List Idd) (i : Int) (b : Int) (w : Bool) (th : List Idd) (pa : List Ps) : Tri Try.prog (cxN 96 0) (zqr Try.f4 11) ([(3, tsl none t), (4, isl none md), (5, tsl none u), (6, it i), (7, .box (loO b w th pa)), (8, it 0)]) .normal ([(3, tsl none t), (4, isl none md), (5, tsl none u), (6, it i), (7, AV.box [ub b, bb w, iow (some (th.length)) th, AV.sl .own 56 (some (pa.length)) (List.map Ps.enc pa)]), (45, bb ((0 : Int) != (0 : Int)))]) :=
 ev h4 [.c, .c] zqa
theorem yyr (t u : List Rw) (md : List Idd) (i : Int) (b : Int) (w : Bool) (th : List Idd) (pa : List Ps) (m : List (List Lp)) (h : HAo u (md.getD i.toNat default).y b w th pa m) (g0 : decide ((0 : Int) ≤ i ∧ i < ((md.map Idd.enc).length : Int)) = true) (g1 : (md.map Idd.enc).getD (i.toNat) AV.bad = Idd.enc (md.getD (i.toNat) default)) (g2 : decide ((false || (false || (true || false))) = true → yag (12 : Nat) (AV.tup [AV.sl .own 37 none (List.map lOW m), it 0]) = true) = true) : Tri Try.prog (cxN 96 0) (zqr Try.f4 13) ([(3, tsl none t), (4, isl none md), (5, tsl none u), (6, it i), (7, .box (loO b w th pa))]) .normal ([(3, tsl none t), (4, isl none md), (5, tsl none u), (6, it i), (7, AV.box [ub b, bb w, iow (some (th.length)) th, AV.sl .own 56 (some (pa.length)) (List.map Ps.enc pa)]), (8, it 0), (9, AV.al 46 [(0, 0)] none), (46, AV.tup [AV.sl .own 37 none (List.map lOW m), it 0]), (54, AV.bad)]) :=
 ev h4 [.c, .c, .c, .b true, .r (Idd.enc (md.getD (i.toNat) default)), .c, .c, .c, .c, .r (tsl none u), .r (AV.agg [ub b, bb w, isl (some (th.length)) th, sl (some (pa.length)) pa]), .r (AV.tup [AV.sl .own 37 none (List.map lOW m), it 0]), .b true, .c, .c, .c, .c, .c, .c] (allp g0 (allp g1 (allp (zqg .any none u) (allp (p := view (AV.agg [ub b, bb w, iow (some (th.length)) th, AV.sl .own 56 (some (pa.length)) (List.map Ps.enc pa)]) = AV.agg [ub b, bb w, isl (some (th.length)) th, sl (some (pa.length)) pa]) (by first | exact zra _ _ _ | exact zrb _ _ _ | rfl | exact zqg _ _ _ | exact zqk _ _ _ | exact zqh _ _ _ _ _ _ _ _ | exact zrd _ | exact zrc _ _ _ _ _ _ _ _ _) (allp (p := PureC Try.prog 17 [tsl none u, ub (Idd.y (md.getD (i.toNat) default)), AV.agg [ub b, bb w, isl (some (th.length)) th, sl (some (pa.length)) pa]] (AV.tup [AV.sl .own 37 none (List.map lOW m), it 0])) (by apply uHAo<;>first|assumption|rfl|(simp at *<;>omega)) (allp g2 zqa))))))
theorem yyp (t u r : List Rw) (md : List Idd) (i k l : Int) (b : Int) (w : Bool) (th : List Idd) (pa : List Ps) (h : HCn u k) (h2 : HCn r l) (q : (k != i) = false) (g0 : (k != i) = false) : Tri Try.prog (cxN 96 0) (zqr Try.f4 14) ([(3, tsl none t), (4, isl none md), (5, tsl none u), (6, it i), (7, .box (loO b w th pa)), (8, it 0), (9, tsl none r)]) .normal ([(3, tsl none t), (4, isl none md), (6, it i), (7, AV.box [ub b, bb w, iow (some (th.length)) th, AV.sl .own 56 (some (pa.length)) (List.map Ps.enc pa)]), (9, tsl none r), (71, bb (l != i64.wrap (i + (1 : Int))))]) :=
 ev h4 [.c, .c, .c, .c, .c, .c, .r (tsl none u), .r (it k), .c, .c, .c, .c, .c, .c, .c, .c, .c, .b false, .c, .b false, .r (tsl none r), .r (it l), .c, .c, .b false, .c, .b false, .c, .b false, .c, .b false, .c] (allp (zqg .any none u) (allp (p := PureC Try.prog 12 [tsl none u] (it k)) (by apply uHCn<;>first|assumption|rfl|(simp at *<;>omega)) (allp g0 (allp g0 (allp (zqg .any none r) (allp (p := PureC Try.prog 12 [tsl none r] (it l)) (by apply uHCn<;>first|assumption|rfl|(simp at *<;>omega)) (allp g0 (allp g0 (allp g0 (allp g0 zqa))))))))))
theorem yyo (t r : List Rw) (md : List Idd) (i : Int) (b : Int) (w : Bool) (th : List Idd) (pa : List Ps) : Tri Try.prog (cxN 96 0) (zqr Try.f4 16) ([(3, tsl none t), (4, isl none md), (6, it i), (7, .box (loO b w th pa)), (9, tsl none r)]) .normal ([(3, tsl none t), (4, isl none md), (6, it i), (7, AV.box [ub b, bb w, iow (some (th.length)) th, AV.sl .own 56 (some (pa.length)) (List.map Ps.enc pa)]), (9, tsl none r), (10, it 0)]) :=
 ev h4 [.c] zqa
theorem yru (t r : List Rw) (md : List Idd) (i k : Int) (b : Int) (w : Bool) (th : List Idd) (pa : List Ps) : Tri Try.prog (cxN 96 0) (zqr Try.f4 17) ([(3, tsl none t), (4, isl none md), (6, it i), (7, .box (loO b w th pa)), (9, tsl none r), (10, it k)]) .normal ([(3, tsl none t), (4, isl none md), (6, it i), (7, AV.box [ub b, bb w, iow (some (th.length)) th, AV.sl .own 56 (some (pa.length)) (List.map Ps.enc pa)]), (9, tsl none r), (10, it k), (76, bb (decide (k < ((th.map Idd.enc).length : Int))))]) :=
 ev h4 [.c, .c, .c, .c, .c, .c, .c, .c, .c] zqa
theorem yyn (t r : List Rw) (md : List Idd) (i k : Int) (b : Int) (w : Bool) (th : List Idd) (pa : List Ps) : Tri Try.prog (cxN 96 0) (zqr Try.f4 18) ([(3, tsl none t), (4, isl none md), (6, it i), (7, .box (loO b w th pa)), (9, tsl none r), (10, it k)]) .normal ([(3, tsl none t), (4, isl none md), (6, it i), (7, AV.box [ub b, bb w, iow (some (th.length)) th, AV.sl .own 56 (some (pa.length)) (List.map Ps.enc pa)]), (9, tsl none r), (10, it (i64.wrap (k + (1 : Int))))]) :=
 ev h4 [.c, .c, .c] zqa
theorem yym (t r : List Rw) (md : List Idd) (i k : Int) (b : Int) (w : Bool) (th : List Idd) (pa : List Ps) (g0 : decide ((0 : Int) ≤ k ∧ k < ((th.map Idd.enc).length : Int)) = true) (g1 : decide (k.toNat < (th.map Idd.enc).length) = true) (g2 : (th.map Idd.enc).getD (k.toNat) AV.bad = Idd.enc (th.getD (k.toNat) default)) : Tri Try.prog (cxN 96 0) (zqr Try.f4 19) ([(3, tsl none t), (4, isl none md), (6, it i), (7, .box (loO b w th pa)), (9, tsl none r), (10, it k)]) .normal ([(3, tsl none t), (4, isl none md), (6, it i), (7, AV.box [ub b, bb w, AV.sl .own 36 (some (th.length)) (List.set (List.map Idd.enc th) (k.toNat) (setE ((th.map Idd.enc).getD (k.toNat) AV.bad) ((0 : Nat) + (1 : Nat)) [it (i64.wrap (Idd.n (th.getD (k.toNat) default) + (100 : Int)))])), AV.sl .own 56 (some (pa.length)) (List.map Ps.enc pa)]), (9, tsl none r), (10, it k)]) :=
 ev h4 [.c, .c, .c, .c, .c, .c, .c, .b true, .c, .c, .c, .c, .c, .c, .b true, .r (Idd.enc (th.getD (k.toNat) default)), .c, .c, .c, .c, .b true, .c, .c, .c, .c, .c, .c, .b true, .r (Idd.enc (th.getD (k.toNat) default)), .c, .c, .c] (allp g0 (allp g1 (allp g2 (allp g0 (allp g1 (allp g2 zqa))))))
theorem yyl (t r : List Rw) (md : List Idd) (i : Int) : Tri Try.prog (cxN 96 0) (zqr Try.f4 20) ([(3, tsl none t), (4, isl none md), (6, it i), (9, tsl none r)]) .normal ([(3, tsl none t), (4, isl none md), (5, tsl none r), (6, it i), (9, tsl none r)]) :=
 ev h4 [.c, .c] zqa
theorem yyk (t u : List Rw) (h : HDf t u) : Tri Try.prog (cxN 96 0) (zqr Try.f4 21) ([(3, tsl none t), (5, tsl none u)]) .normal ([(2, bb true)]) :=
 ev h4 [.c, .c, .r (tsl none t), .r (tsl none u), .r (it 0), .c, .c, .c, .c, .c, .r (bb true), .c, .c, .c, .c, .c] (allp (zqg .any none t) (allp (zqg .any none u) (allp (p := PureC Try.prog 18 [tsl none t, tsl none u] (it 0)) (by apply uHDf<;>first|assumption|rfl|(simp at *<;>omega)) (allp (p := PureC Try.prog 14 [] (bb true)) (by apply ynm<;>first|assumption|rfl|(simp at *<;>omega)) zqa))))
section
variable (c : Option Nat) (x : List Lx) (m : List (List Lp)) (md : List Idd) (h : HOf c x m md)
include h
abbrev a3a : Env := [(17, .tup [tGW m, iow none md]), (16, xsl c x), (0, xsl c x)]
abbrev a3b : Env := (17, .tup [tSh m, iow none md]) :: a3a c x m md
abbrev a3c : Env := (17, .tup [tSh m, share (iow none md)]) :: a3b c x m md
theorem la3_0 : Tri Try.prog (cxN 96 0) (.region 3 (zql Try.f4 3) false) [(0, xsl c x)] .normal ((4, share (iow none md)) :: (3, tSh m) :: (19, share (iow none md)) :: (18, tSh m) :: (15, .tup [tSh m, share (iow none md)]) :: (17, .bad) :: a3c c x m md) := by
 refine Tri.ofR (.region (R := (· = (4, share (iow none md)) :: (3, tSh m) :: (19, share (iow none md)) :: (18, tSh m) :: (15, .tup [tSh m, share (iow none md)]) :: (17, .bad) :: a3c c x m md)) ?_) fun e h => h
 rw [show (zql Try.f4 3).toList = (zql Try.f4 3).toList.take 2 ++ ([] ++ ([] ++ (zql Try.f4 3).toList.drop 2)) by kernel_rfl]
 refine .seq (OpsR.ev (base 96 0) zqb.1 zqb.2 (ans := [.c, .r (xsl c x), .r (.tup [tGW m, iow none md]), .c, .c]) (ps := [view (xsl c x) = xsl c x, PureC Try.prog 9 [xsl c x] (.tup [tGW m, iow none md])]) (env' := a3a c x m md) (by kernel_rfl) (allp (yo7 c x) (allp h zqa))) ?_
 rintro _ rfl
 refine .seq (OpsR.grabAt (r := 17) (p := [(0, 0)]) rfl rfl rfl (ywh (by intro p hp; simp only [List.mem_cons, List.not_mem_nil, or_false] at hp; rcases hp with rfl | rfl | rfl <;> rfl) 17)) ?_
 rintro _ rfl
 refine .seq (OpsR.grabAt (r := 17) (p := [(0, 1)]) rfl rfl rfl (ywh (by intro p hp; simp only [List.mem_cons, List.not_mem_nil, or_false] at hp; rcases hp with rfl | rfl | rfl | rfl <;> rfl) 17)) ?_
 rintro _ rfl
 exact OpsR.ev (base 96 0) zqb.1 zqb.2 (ans := [.c, .c, .c, .c, .c, .c, .c]) (ps := []) (by kernel_rfl) zqa
theorem la3_1 (hm : ∀ r ∈ m, ∀ L ∈ r, L.ct = none ∧ L.cp = none) : Tri Try.prog (cxN 96 0) (zqr Try.f4 3) [(0, xsl c x)] .normal [(3, tsl none (tb m)), (4, isl none md)] := by
 have h1 := la3_0 c x m md h
 refine .less (.after (kp [3, 4]) h1) (.cons ⟨rfl, rfl, ?_⟩ (.cons ⟨rfl, rfl, ?_⟩ .nil))
 ·show Le Try.prog (tSh m) (tsl none (tb m))
  rw [← yo8 m hm]; exact Le.viewS
 ·show Le Try.prog (share (iow none md)) (isl none md)
  rw [ymh md]; exact Le.fresh
end
theorem ytr : Le Try.prog (share (.sl .own 37 (some 6) [zqw, zqw, zqw, zqw, zqw, zqw])) (tsl none (tb S0.m)) := by
 refine Le.trans (y := .sl .any 37 (some 6) [zqw, zqw, zqw, zqw, zqw, zqw]) Le.fresh (Le.trans (y := .sl .any 37 none [zqw, zqw, zqw, zqw, zqw, zqw]) Le.cap ?_)
 have e : Le Try.prog zqw (Rw.enc ⟨none, []⟩) := Le.trans (Le.nil 45) Le.cap
 refine Le.shEls (by simp) rfl (fun sz hu z hz => ?_) (.cons e (.cons e (.cons e (.cons e (.cons e (.cons e .nil))))))
 have h1 := hu zqw (by simp)
 obtain ⟨K, hK, rfl⟩ := List.mem_map.1 hz
 exact h1
theorem la4_1 (t : List Rw) (md : List Idd) : Tri Try.prog (cxN 96 0) (zqr Try.f4 4) [(3, tsl none t), (4, isl none md)] .normal [(3, tsl none t), (4, isl none md), (5, tsl none (tb S0.m))] :=
 .less (.after (kp [3, 4, 5]) (Tri.grab (r := 5) (la4_0 t md) rfl)) (.cons ⟨rfl, rfl, Le.refl _⟩ (.cons ⟨rfl, rfl, Le.refl _⟩ (.cons ⟨rfl, rfl, ytr⟩ .nil)))
section
variable (t u : List Rw) (md : List Idd) (i : Nat) (b : Int) (w : Bool) (th : List Idd) (pa : List Ps) (p : Idd)
abbrev bZ : Env := [(3, tsl none t), (4, isl none md), (5, tsl none u), (6, it i)]
abbrev bA : Env := [(41, .tup [.agg (loO b w th pa), it 0]), (40, p.enc), (39, .vadr [ub p.y, it p.n] 0), (38, it i), (37, isl none md), (36, tsl none t), (3, tsl none t), (4, isl none md), (5, tsl none u), (6, it i)]
abbrev bB : Env := (35, .tup [.agg (loO b w th pa), it 0]) :: (41, .bad) :: keepE (kp [3, 4, 5, 6, 41]) (bA t u md i b w th pa p)
abbrev bC : Env := (42, .agg (loO b w th pa)) :: (35, .tup [.bad, it 0]) :: keepE (kp [3, 4, 5, 6, 35]) (bB t u md i b w th pa p)
abbrev bD : Env := (8, it 0) :: (7, .box (loO b w th pa)) :: (42, .bad) :: (7, .box [ub 0, bb false, zqw, zqw]) :: (43, it 0) :: bC t u md i b w th pa p
theorem yyt (hi : i < md.length) (hp : md.getD i default = p) (h : HFo t p.y p.n b w th pa) : Tri Try.prog (cxN 96 0) (.region 10 (zql Try.f4 10) false) (bZ t u md i) .normal (bZ t u md i ++ [(7, .box (loO b w th pa)), (8, it 0)]) := by
 refine .after (kp [3, 4, 5, 6, 7, 8]) (env' := bD t u md i b w th pa p) (Tri.ofR (.region (R := (· = bD t u md i b w th pa p)) ?_) fun e h => h)
 rw [show (zql Try.f4 10).toList = (zql Try.f4 10).toList.take 6 ++ ([(zql Try.f4 10).toList.getD 6 default] ++ ([(zql Try.f4 10).toList.getD 7 default] ++ (zql Try.f4 10).toList.drop 8)) by kernel_rfl]
 have hg := yaj (l := md) (i := i) hi
 rw [hp] at hg
 refine .seq (OpsR.ev (base 96 0) zqb.1 zqb.2 (ans := [.c, .c, .c, .b true, .r p.enc, .c, .c, .r (tsl none t), .r (.tup [.agg (loO b w th pa), it 0]), .c, .c]) (ps := [decide ((0 : Int) ≤ (i : Int) ∧ (i : Int) < ((md.map Idd.enc).length : Int)) = true, (md.map Idd.enc).getD i AV.bad = p.enc, view (tsl none t) = tsl none t, PureC Try.prog 16 [tsl none t, idE p.y p.n] (.tup [.agg (loO b w th pa), it 0])]) (env' := bA t u md i b w th pa p) (by kernel_rfl) (allp (zlb (by rw [zla]; omega)) (allp hg (allp (zqg _ _ _) (allp h zqa))))) ?_
 rintro _ rfl
 refine .seq (OpsR.moveA (s := 41) (d := 35) (kp [3, 4, 5, 6, 41]) (by kernel_rfl) (by kernel_rfl) (by kernel_rfl) (by decide) (by decide) rfl rfl (fun t' y' hy => ⟨noLf (env := keepE (kp [3, 4, 5, 6, 41]) (bA t u md i b w th pa p)) hy (by kernel_rfl), noLf (env := keepE (kp [3, 4, 5, 6, 41]) (bA t u md i b w th pa p)) hy (by kernel_rfl)⟩)) ?_
 rintro _ rfl
 refine .seq (OpsR.moveX (s := 35) (d := 42) (kp [3, 4, 5, 6, 35]) (by kernel_rfl) (by kernel_rfl) (by kernel_rfl) (by decide) (by decide) rfl (fun t' y' hy => ⟨noLf (env := keepE (kp [3, 4, 5, 6, 35]) (bB t u md i b w th pa p)) hy (by kernel_rfl), noLf (env := keepE (kp [3, 4, 5, 6, 35]) (bB t u md i b w th pa p)) hy (by kernel_rfl)⟩)) ?_
 rintro _ rfl
 exact OpsR.ev (base 96 0) zqb.1 zqb.2 (ans := [.c, .c, .c, .c, .c, .c, .c, .c]) (ps := []) (by kernel_rfl) zqa
end
theorem ynb (l : List Lp) : yag 10 (lOW l) = true := by
 show (true && (l.map Lp.encF).all (yag 9)) = true
 rw [Bool.true_and, zls]
 intro z hz
 obtain ⟨K, _, rfl⟩ := List.mem_map.1 hz
 show (true && (true && ((true && (K.th.map Idd.enc).all (yag 7)) && ((true && (K.pa.map Ps.enc).all (yag 7)) && true)))) = true
 rw [yiq 5, show (K.th.map Idd.enc).all (yag 7) = true by rw [List.all_map, zls]; intro p _; rfl]
 rfl
theorem ym9 (m : List (List Lp)) : yag 12 (.tup [tOW m, it 0]) = true := by
 show ((true && (m.map lOW).all (yag 10)) && (true && true)) = true
 rw [show (m.map lOW).all (yag 10) = true by rw [List.all_map, zls]; intro l _; exact ynb l]
 rfl
theorem yla (m : List (List Lp)) : view (share (tOW m)) = tsl none (rwO m) := by
 show AV.sl .any 37 none (((m.map lOW).map (mapE (remode zqx 11))).map (mapE (remode (fun _ => .any) 11))) = .sl .any 37 none ((rwO m).map Rw.enc)
 unfold rwO
 rw [List.map_map, List.map_map, List.map_map]
 congr 1
 refine List.map_congr_left fun l hl => ?_
 show AV.sl .any 45 none (((l.map Lp.encF).map (mapE (remode zqx 10))).map (mapE (remode (fun _ => .any) 10))) = .sl .any 45 none ((l.map cpL).map Lp.enc)
 rw [List.map_map, List.map_map, List.map_map]
 congr 1
 refine List.map_congr_left fun K hK => ?_
 show AV.agg [ub K.b, bb K.w, .sl .any 36 (some K.th.length) (((K.th.map Idd.enc).map (mapE (remode zqx 9))).map (mapE (remode (fun _ => .any) 9))), .sl .any 56 (some K.pa.length) (((K.pa.map Ps.enc).map (mapE (remode zqx 9))).map (mapE (remode (fun _ => .any) 9)))] = _
 rw [List.map_map, List.map_map, List.map_map, List.map_map]; rfl
theorem yyq (t u : List Rw) (md : List Idd) (i : Nat) (b : Int) (w : Bool) (th : List Idd) (pa : List Ps) (m : List (List Lp)) (hi : i < md.length) (hm : ∀ r ∈ m, ∀ L ∈ r, L.ct = none ∧ L.cp = none) (h : HAo u (md.getD i default).y b w th pa m) :
  Tri Try.prog (cxN 96 0) (zqr Try.f4 13) [(3, tsl none t), (4, isl none md), (5, tsl none u), (6, it i), (7, .box (loO b w th pa))] .normal [(3, tsl none t), (4, isl none md), (5, tsl none u), (6, it i), (7, .box (loO b w th pa)), (8, it 0), (9, tsl none (tb m))] := by
 have h1 := yyr t u md i b w th pa m h (zlb (by rw [zla]; omega)) (yaj hi) (zlb fun _ => ym9 m)
 refine .less (.after (kp [3, 4, 5, 6, 7, 8, 9]) (Tri.grabAl (r := 46) (s := 9) (p := [(0, 0)]) h1 (by decide) rfl rfl rfl rfl rfl (by decide) ?_)) (.cons ⟨rfl, rfl, Le.refl _⟩ (.cons ⟨rfl, rfl, Le.refl _⟩ (.cons ⟨rfl, rfl, Le.refl _⟩ (.cons ⟨rfl, rfl, Le.refl _⟩ (.cons ⟨rfl, rfl, Le.refl _⟩ (.cons ⟨rfl, rfl, Le.refl _⟩ (.cons ⟨rfl, rfl, ?_⟩ .nil)))))))
 ·intro q y hq hy
  have hmem := ynl hy
  simp only [List.mem_cons, Prod.mk.injEq, List.not_mem_nil, or_false] at hmem
  rcases hmem with ⟨rfl, rfl⟩ | ⟨rfl, rfl⟩ | ⟨rfl, rfl⟩ | ⟨rfl, rfl⟩ | ⟨rfl, rfl⟩ | ⟨rfl, rfl⟩ | ⟨rfl, rfl⟩ | ⟨rfl, rfl⟩ | ⟨rfl, rfl⟩ <;> first | exact absurd rfl hq | exact ⟨by simp [zqf], by simp [zqf]⟩
 ·show Le Try.prog (share (tOW m)) (tsl none (tb m))
  have h2 : Le Try.prog (share (tOW m)) (view (share (tOW m))) := Le.viewS
  rw [yla] at h2
  exact Le.trans h2 (le_tb hm)
theorem yyi : zqc Try.f4 0 = .seq (.seq (zqr Try.f4 8) (.cond (.tmp 32) .skip (.exit 0))) (.seq (.block 1 (.seq (.region 10 (zql Try.f4 10) false) (.seq (.seq (zqr Try.f4 11) (.cond (.tmp 45) (.seq (zqr Try.f4 12) .ret) .skip)) (.seq (zqr Try.f4 13) (.seq (.seq (zqr Try.f4 14) (.cond (.tmp 71) (.seq (zqr Try.f4 15) .ret) .skip)) (.seq (.seq (zqr Try.f4 16) (.block 2 (.loop (zqc Try.f4 1)))) (zqr Try.f4 20))))))) (zqr Try.f4 9)) := by kernel_rfl
theorem yyh : zqc Try.f4 1 = .seq (.seq (zqr Try.f4 17) (.cond (.tmp 76) .skip (.exit 2))) (.seq (.block 3 (zqr Try.f4 19)) (zqr Try.f4 18)) := by kernel_rfl
theorem ynq : Try.f4.body = some (.seq (zqr Try.f4 0) (.seq (.seq (zqr Try.f4 1) (.cond (.tmp 13) (.seq (zqr Try.f4 2) .ret) .skip)) (.seq (zqr Try.f4 3) (.seq (zqr Try.f4 4) (.seq (.seq (zqr Try.f4 5) (.cond (.tmp 28) (.seq (zqr Try.f4 6) .ret) .skip)) (.seq (.seq (zqr Try.f4 7) (.block 0 (.loop (zqc Try.f4 0)))) (.seq (zqr Try.f4 21) .ret))))))) := by kernel_rfl
theorem ypm {l : List Idd} {i : Nat} (v : Int) : List.set (List.map Idd.enc l) i (setE (Idd.enc (l.getD i default)) 1 [it v]) = (l.set i ⟨(l.getD i default).y, v⟩).map Idd.enc := by
 rw [List.map_set]; rfl
section
variable (t r : List Rw) (md : List Idd) (i : Nat) (b : Int) (w : Bool) (pa : List Ps)
abbrev laE (th : List Idd) : Env := [(3, tsl none t), (4, isl none md), (6, it i), (7, .box (loO b w th pa)), (9, tsl none r)]
theorem ykc : ∀ (k j : Nat) (th : List Idd), j + k = th.length → th.length < 2 ^ 60 → ∃ th', Rnd Try.prog (cxN 96 0) (zqc Try.f4 1) (k + 1) (laE t r md i b w pa th ++ [(10, it j)]) (.exit 2) (laE t r md i b w pa th')
 | 0, j, th, h, hl => by
  refine ⟨th, ?_⟩
  rw [yyh]
  have h1 := yru t r md i j b w th pa
  rw [show decide ((j : Int) < ((th.map Idd.enc).length : Nat)) = false by rw [zlc]; rw [zla]; omega] at h1
  exact .exit (.seqX (.seq h1 (.cond (b := false) rfl (.after (kp [3, 4, 6, 7, 9]) .exit))) (by simp)) (by simp)
 | k + 1, j, th, h, hl => by
  have hi : j < th.length := by omega
  have hg := yaj (l := th) (i := j) hi
  have h17 := yym t r md i j b w th pa (zlb (by rw [zla]; omega)) (zlb (by rw [zla]; omega)) (by rw [zlf]; exact hg)
  rw [zlf, hg, show (0 : Nat) + 1 = 1 from rfl, ypm] at h17
  generalize IntKind.wrap i64 ((th.getD j default).n + 100) = v at h17
  obtain ⟨th', ih⟩ := ykc k (j + 1) (th.set j ⟨(th.getD j default).y, v⟩) (by rw [zlx]; omega) (by rw [zlx]; exact hl)
  refine ⟨th', ?_⟩
  have h1 := yru t r md i j b w th pa
  rw [show decide ((j : Int) < ((th.map Idd.enc).length : Nat)) = true by rw [zlb]; rw [zla]; omega] at h1
  have h17' : Tri Try.prog (cxN 96 0) (zqr Try.f4 19) (laE t r md i b w pa th ++ [(10, it j)]) .normal (laE t r md i b w pa (th.set j ⟨(th.getD j default).y, v⟩) ++ [(10, it j)]) := by
   show Tri _ _ _ _ _ [(3, tsl none t), (4, isl none md), (6, it i), (7, .box [ub b, bb w, iow (some (th.set j ⟨(th.getD j default).y, v⟩).length) (th.set j ⟨(th.getD j default).y, v⟩), ow (some pa.length) pa]), (9, tsl none r), (10, it j)]
   rw [zlx]; exact h17
  have h16 := yyn t r md i j b w (th.set j ⟨(th.getD j default).y, v⟩) pa
  rw [up64 (by omega)] at h16
  refine .step ?_ ih
  rw [yyh]
  exact .seq (.seq h1 (.cond (b := true) rfl (.after (kp [3, 4, 6, 7, 9, 10]) .skip))) (.seq (.block (ex := .normal) h17' (.inr ⟨by simp, rfl⟩)) h16)
end
section
variable {S : OfS} (hS : ValidS S) {L : Lx} (hL : OkX L) (hc : cntV (tb S.m) ≤ 100) (hc' : cntV (tb (yaa S L).m) ≤ 100)
include hS hL hc hc'
theorem ad_o : HAo (tb S.m) (ofI S L).y (ofL S L).b (ofL S L).w (ofL S L).th (ofL S L).pa (yaa S L).m := by
 have hS' := hS.step hL
 have hf := yha hS hL
 have hk : L.y.toNat % 6 < 6 := Nat.mod_lt _ (by omega)
 have hy : (ofI S L).y = ((L.y.toNat % 6 + 1 : Nat) : Int) := rfl
 have hrw : ∀ r ∈ S.m, r.length < 2 ^ 60 := fun r hr => by have := yiz hr; omega
 have hrw' : ∀ r ∈ (yaa S L).m, r.length < 2 ^ 60 := fun r hr => by have := yiz hr; omega
 have hrow : ∀ r ∈ tb S.m, r.l.length < 2 ^ 60 := fun r hr => by
  obtain ⟨q, hq, rfl⟩ := List.mem_map.1 hr
  exact hrw q hq
 have hin : ofL S L ∈ (yaa S L).m.getD (L.y.toNat % 6) default := by
  show _ ∈ (S.m.set (L.y.toNat % 6) _).getD _ _
  rw [hS.get _ _ hk, if_pos rfl]; simp
 have hrm : (yaa S L).m.getD (L.y.toNat % 6) default ∈ (yaa S L).m := by
  have := hS'.m6
  rw [zld, zle (by omega)]
  exact zlu _
 have hOI : okI (ofL S L) := (hS'.okT ⟨none, _⟩ (List.mem_map.2 ⟨_, hrm, rfl⟩) _ hin).1
 have h := add_c none (tb S.m) (ofI S L).y (ofL S L) (by omega) (by rw [yct, hS.m6]; omega) hrow hS.okT (by omega) (by omega) ⟨hOI, Nat.le_trans hf.th (by omega), Nat.le_trans hf.pa (by omega)⟩
 unfold addV at h
 rw [ylw hS, ywk, ch_cp, hS.check hrw (by omega), hS'.check hrw' (by omega), if_pos rfl, if_neg (by omega), if_pos rfl] at h
 exact h.args (.cons (Le.refl _) (.cons (Le.refl _) (.cons (Le.agg (.cons (Le.refl _) (.cons (Le.refl _) (.cons Le.cap (.cons Le.cap .nil))))) .nil)))
end
theorem yrh {α : Type} [Inhabited α] {l m : List α} {x : α} (h : l ++ [x] <+: m) : m.getD l.length default = x := by
 obtain ⟨r, rfl⟩ := h
 rw [zld]
 simp
theorem ynx {S : OfS} (h6 : S.m.length = 6) (h : (S.m.map List.length).sum = S.md.length) (hl : S.md.length ≤ 60) : HCn (tb S.m) (S.md.length : Int) := by
 have := ybp none (tb S.m) (by rw [ygb]; omega) (by rw [yct]; omega)
 rw [ygb, h] at this
 exact this
theorem ykd (T : OfS) (hT : ValidS T) (hsm : ∀ r ∈ tb T.m, ∀ L ∈ r.l, L.th.length ≤ 4294967296 ∧ L.pa.length ≤ 4294967296) : ∀ (l : List Lx) (S : OfS) (i : Nat), ValidS S → (∀ L ∈ l, OkX L) → l.foldl yaa S = T → S.md.length = i → (S.m.map List.length).sum = S.md.length → i + l.length ≤ 60 →
  Rnd Try.prog (cxN 96 0) (zqc Try.f4 0) (l.length + 1) (bZ (tb T.m) (tb S.m) T.md i) (.exit 0) [(3, tsl none (tb T.m)), (5, tsl none (tb T.m))]
 | [], S, i, hS, hX, hf, hi, hc, h60 => by
  have hf : S = T := hf
  subst hf
  rw [yyi]
  have h1 := yyj (tb S.m) (tb S.m) S.md i
  rw [show decide ((i : Int) < ((S.md.map Idd.enc).length : Nat)) = false by rw [zlc]; rw [zla]; omega] at h1
  exact .exit (.seqX (.seq h1 (.cond (b := false) rfl (.after (kp [3, 5]) .exit))) (by simp)) (by simp)
 | L :: l, S, i, hS, hX, hf, hi, hc, h60 => by
  have hL : OkX L := hX L (by simp)
  have hS' := hS.step hL
  have h6 := hS.m6
  have hk : L.y.toNat % 6 < 6 := Nat.mod_lt _ (by omega)
  have hlen : (L :: l).length = l.length + 1 := rfl
  have hc1 := yeo [L] S h6 hc
  have hc' : ((yaa S L).m.map List.length).sum = (yaa S L).md.length := hc1.1
  have hd' : (yaa S L).md.length = S.md.length + 1 := hc1.2
  have hfl : l.foldl yaa (yaa S L) = T := hf
  have hTl : T.md.length = S.md.length + (l.length + 1) := by rw [← hf]; exact (yeo (L :: l) S h6 hc).2
  obtain ⟨p1, p2⟩ := yki l (yaa S L) hS' fun K hK => hX K (by simp [hK])
  rw [hfl] at p1
  have hp : T.md.getD i default = ofI S L := by rw [← hi]; exact yrh p1
  have hrow : (yaa S L).m.getD (L.y.toNat % 6) default = S.m.getD (L.y.toNat % 6) default ++ [ofL S L] := by
   show (S.m.set (L.y.toNat % 6) _).getD _ _ = _
   rw [hS.get _ _ hk, if_pos rfl]
  have p3 := p2 (L.y.toNat % 6)
  rw [hfl, hrow] at p3
  have hat : atV (tb T.m) (ofI S L).y (ofI S L).n = ofL S L := by
   rw [yjm, show ((ofI S L).y - 1).toNat = L.y.toNat % 6 by show (((L.y.toNat % 6 + 1 : Nat) : Int) - 1).toNat = _; omega]
   show ((T.m.getD (L.y.toNat % 6) default).getD ((S.m.getD (L.y.toNat % 6) default).length : Int).toNat default) = _
   rw [zlf]
   exact yrh p3
  have hmem : ofI S L ∈ T.md := p1.subset (by show _ ∈ S.md ++ [ofI S L]; simp)
  have hh := hT.has_old hmem
  have hy : (ofI S L).y = ((L.y.toNat % 6 + 1 : Nat) : Int) := rfl
  have hfo := yzn (tb T.m) (ofI S L).y (ofI S L).n (by omega) (by omega) hsm hh
  rw [hat] at hfo
  have hao := ad_o hS hL (by rw [ygb]; omega) (by rw [ygb]; omega)
  have hm' : ∀ r ∈ (yaa S L).m, ∀ K ∈ r, K.ct = none ∧ K.cp = none := fun r hr K hK => ⟨(hS'.fine r hr K hK).ct, (hS'.fine r hr K hK).cp⟩
  have hn1 := ynx h6 hc (by omega)
  have hn2 := ynx hS'.m6 hc' (by omega)
  rw [hi] at hn1
  rw [hd', hi] at hn2
  have hth : (ofL S L).th.length < 2 ^ 60 := by have := (yha hS hL).th; omega
  have ih := ykd T hT hsm l (yaa S L) (i + 1) hS' (fun K hK => hX K (by simp [hK])) hfl (by omega) hc' (by omega)
  rw [← hp] at hao
  have hiT : i < T.md.length := by omega
  have h8 := yyj (tb T.m) (tb S.m) T.md i
  rw [show decide ((i : Int) < ((T.md.map Idd.enc).length : Nat)) = true by rw [zlb]; rw [zla]; omega] at h8
  generalize ofL S L = K at *
  obtain ⟨th', hl1⟩ := ykc (tb T.m) (tb (yaa S L).m) T.md i K.b K.w K.pa K.th.length 0 K.th (Nat.zero_add _) hth
  have h10 := yyt (tb T.m) (tb S.m) T.md i K.b K.w K.th K.pa (ofI S L) hiT hp hfo
  have h11 := yys (tb T.m) (tb S.m) T.md i K.b K.w K.th K.pa
  have h13 := yyq (tb T.m) (tb S.m) T.md i K.b K.w K.th K.pa (yaa S L).m hiT hm' hao
  have h14 := yyp (tb T.m) (tb S.m) (tb (yaa S L).m) T.md i i ((i + 1 : Nat) : Int) K.b K.w K.th K.pa hn1 hn2 (by simp) (by simp)
  rw [up64 (by omega), show ((((i + 1 : Nat) : Int)) != ((i + 1 : Nat) : Int)) = false by simp] at h14
  have h16 := yyo (tb T.m) (tb (yaa S L).m) T.md i K.b K.w K.th K.pa
  have h20 := Tri.after (kp [3, 4, 5, 6]) (yyl (tb T.m) (tb (yaa S L).m) T.md i)
  have h9 := la9_0 (tb T.m) (tb (yaa S L).m) T.md i
  rw [up64 (by omega)] at h9
  refine .step ?_ ih
  rw [yyi]
  refine .seq (.seq h8 (.cond (b := true) rfl (.after (kp [3, 4, 5, 6]) .skip))) (.seq (.block (ex := .normal) ?_ (.inr ⟨by simp, rfl⟩)) h9)
  refine .seq h10 (.seq (.seq h11 (.cond (b := false) rfl (.after (kp [3, 4, 5, 6, 7]) .skip))) (.seq h13 (.seq (.seq h14 (.cond (b := false) rfl (.after (kp [3, 4, 6, 7, 9]) .skip))) (.seq (.seq h16 (.block (ex := .exit 2) hl1.loop (.inl ⟨rfl, rfl⟩))) (.weak (kp [3, 4, 6, 9]) h20)))))
theorem yts (c : Option Nat) (x : List Lx) (hx : x.length < 2 ^ 63) (hX : ∀ L ∈ x, OkX L) : PureC Try.prog 4 [xsl c x] (bb true) := by
 have h1 := la1_0 c x
 rw [zla] at h1
 by_cases h25 : 25 < x.length
 ·rw [show decide ((25 : Int) < (x.length : Int)) = true by rw [zlb]; omega] at h1
  exact ycc ((base 96 0).ok zqb.1 zqb.2) Try.func4 rfl (by show 1 ≤ 96; omega) rfl ynq rfl (ex := .ret) (env' := [(2, bb true)]) (.seq (yyu c x) (.seqX (.seq h1 (.cond (b := true) rfl (.seq (.weak (kp [0]) (la2_0 c x)) .ret))) (by simp))) (by kernel_rfl)
 ·rw [show decide ((25 : Int) < (x.length : Int)) = false by rw [zlc]; omega] at h1
  have hS := ypa x hX
  obtain ⟨hcm, hc60⟩ := cnt_of x
  have hof : HOf c x (ofS x).m (ofS x).md := of_c c x hx hX
  have hTX : ∀ L ∈ x.take 60, OkX L := fun L hL => hX L (List.mem_of_mem_take hL)
  have hm : ∀ r ∈ (ofS x).m, ∀ L ∈ r, L.ct = none ∧ L.cp = none := fun r hr L hL' => ⟨(hS.fine r hr L hL').ct, (hS.fine r hr L hL').cp⟩
  have hfin : ∀ r ∈ tb (ofS x).m, r.l.length < 2 ^ 30 ∧ ∀ L ∈ r.l, L.th.length ≤ 100000 ∧ L.pa.length < 2 ^ 30 := fun r hr => by
   obtain ⟨l, hl, rfl⟩ := List.mem_map.1 hr
   refine ⟨by have := yiz hl; show l.length < _; omega, fun L hL => ?_⟩
   have := hS.fine l hl L hL
   exact ⟨Nat.le_trans this.th (by omega), Nat.lt_of_le_of_lt this.pa (by omega)⟩
  have hsm : ∀ r ∈ tb (ofS x).m, ∀ L ∈ r.l, L.th.length ≤ 4294967296 ∧ L.pa.length ≤ 4294967296 := fun r hr L hL => by
   have := (hfin r hr).2 L hL
   exact ⟨by omega, by omega⟩
  have hl := (ykd (ofS x) hS hsm (x.take 60) S0 0 yra hTX rfl rfl rfl (by rw [zlh]; omega)).loop
  have hdf : HDf (tb (ofS x).m) (tb (ofS x).m) := yol _ _ ⟨rfl, fun _ _ => rfl, fun y hy i hi => ⟨_, _, rfl⟩⟩ (by rw [yct, hS.m6]; omega) hfin
  have h0 := ynx (S := S0) rfl rfl (by show 0 ≤ 60; omega)
  have h5 := la5_1 (tb (ofS x).m) (tb S0.m) (ofS x).md _ h0 (by rw [zla, yct]; rfl)
  have h3 := la3_1 c x (ofS x).m (ofS x).md hof hm
  have h4 := la4_1 (tb (ofS x).m) (ofS x).md
  have h7 := la7_0 (tb (ofS x).m) (tb S0.m) (ofS x).md
  have h21 := yyk (tb (ofS x).m) (tb (ofS x).m) hdf
  generalize ofS x = T at *
  exact ycc ((base 96 0).ok zqb.1 zqb.2) Try.func4 rfl (by show 1 ≤ 96; omega) rfl ynq rfl (ex := .ret) (env' := [(2, bb true)]) (.seq (yyu c x) (.seq (.seq h1 (.cond (b := false) rfl (.after (kp [0]) .skip))) (.seq h3 (.seq h4 (.seq (.seq h5 (.cond (b := false) rfl (.after (kp [3, 4, 5]) .skip))) (.seq (.seq h7 (.block (ex := .exit 0) hl (.inl ⟨rfl, rfl⟩))) (.seq h21 .ret))))))) (by kernel_rfl)
theorem F2.cons' {α β : Type} {R : α → β → Prop} {x : α} {l : List α} {m : List β} (h : F2 R (x :: l) m) : ∃ y m', m = y :: m' ∧ R x y ∧ F2 R l m' := by
 cases h with
 | cons h t => exact ⟨_, _, rfl, h, t⟩
theorem F2.nil' {α β : Type} {R : α → β → Prop} {m : List β} (h : F2 R [] m) : m = [] := by cases h; rfl
section
variable {P : Program} {t : TypeId} {ys : List AV}
theorem yre (m : Nat) {k : IntKind} (hu : P.underlying t = some (.int k)) (h : ya5 P (m + 1) t ys) : ∃ i, ys = [.atom (.int k i)] ∧ (Lit.int k i).wf = true := by
 unfold ya5 at h; rw [hu] at h; exact h
theorem ymk (m : Nat) (hu : P.underlying t = some .bool) (h : ya5 P (m + 1) t ys) : ∃ b, ys = [.atom (.bool b)] := by
 unfold ya5 at h; rw [hu] at h; exact h
theorem yjx (m : Nat) {e : TypeId} (hu : P.underlying t = some (.slice e)) (h : ya5 P (m + 1) t ys) : ∃ xs, ys = [.sl .any e none xs] ∧ xs.length ≤ maxLen ∧ ∀ x ∈ xs, ∃ cs, x = elOf P e cs ∧ cs.length = P.cellsOf e ∧ ya5 P m e cs := by
 unfold ya5 at h; rw [hu] at h; exact h
theorem ymj (m : Nat) {fs : Array Field} (hu : P.underlying t = some (.struct fs)) (h : ya5 P (m + 1) t ys) : ∃ yss : List (List AV), ys = yss.flatten ∧ F2 (fun f cs => ya5 P m f.type cs) fs.toList yss := by
 unfold ya5 at h; rw [hu] at h; exact h
end
theorem yd4 {α : Type} (f : α → AV) (Q : α → Prop) : ∀ xs : List AV, (∀ x ∈ xs, ∃ a, x = f a ∧ Q a) → ∃ l : List α, xs = l.map f ∧ ∀ a ∈ l, Q a
 | [], _ => ⟨[], rfl, by simp⟩
 | x :: xs, h => by
  obtain ⟨a, rfl, ha⟩ := h x (by simp)
  obtain ⟨l, rfl, hl⟩ := yd4 f Q xs fun y hy => h y (by simp [hy])
  exact ⟨a :: l, rfl, by
   intro b hb
   rcases List.mem_cons.1 hb with rfl | hb
   ·exact ha
   ·exact hl b hb⟩
def U8 (x : Int) : Prop := 0 ≤ x ∧ x ≤ 255
theorem yv4 {i : Int} (h : (Lit.int .u8 i).wf = true) : U8 i := by
 simp only [Lit.wf, zlo, decide_eq_true_eq] at h
 exact h
def Arg (P : Program) (t : TypeId) (x : AV) : Prop := ∃ ys, x = elOf P t ys ∧ ya5 P 8 t ys ∧ ys.length = P.cellsOf t
theorem args1 {P : Program} {s : TypeId} {xs : List AV} (h : F2 (Arg P) [s] xs) : ∃ x, xs = [x] ∧ Arg P s x := by
 obtain ⟨x, _, rfl, h1, h⟩ := F2.cons' h
 obtain rfl := F2.nil' h
 exact ⟨x, rfl, h1⟩
theorem yzv {P : Program} {t : TypeId} (h : aggT P t = false) (x : AV) : elOf P t [x] = x := by unfold elOf; rw [if_neg (Bool.eq_false_iff.1 h)]; rfl
structure Ty5 (P : Program) : Prop where
 u3 : P.underlying 3 = some (.int .i64)
 u4 : P.underlying 4 = some .bool
 u5 : P.underlying 5 = some (.int .u8)
 u65 : P.underlying 65 = some (.slice 5)
 u23 : P.underlying 23 = some (.slice 67)
 u67 : ∃ a b c d e : Field, P.underlying 67 = some (.struct #[a, b, c, d, e]) ∧ a.type = 5 ∧ b.type = 4 ∧ c.type = 4 ∧ d.type = 65 ∧ e.type = 65
 a67 : aggT P 67 = true
 a5 : aggT P 5 = false
 a23 : aggT P 23 = false
theorem tyP5 : Ty5 Try.prog := ⟨Try.underlying3, Try.underlying4, Try.underlying5, Try.underlying65, Try.underlying23, ⟨_, _, _, _, _, Try.underlying67, rfl, rfl, rfl, rfl, rfl⟩, by kernel_rfl, by kernel_rfl, by kernel_rfl⟩
section
variable {P : Program} {m : Nat}
theorem yv5 (T : Ty5 P) {ys : List AV} (h : ya5 P (m + 2) 65 ys) : ∃ l : List Int, ys = [u8l none l] ∧ (∀ p ∈ l, U8 p) ∧ l.length ≤ maxLen := by
 obtain ⟨xs, rfl, hl, hx⟩ := yjx (m + 1) T.u65 h
 obtain ⟨a, rfl, ha⟩ := yd4 ubE U8 xs fun x hx' => by
  obtain ⟨cs, rfl, _, hc⟩ := hx x hx'
  obtain ⟨i, rfl, w⟩ := yre m T.u5 hc
  exact ⟨i, yzv T.a5 _, yv4 w⟩
 exact ⟨a, rfl, ha, by simpa using hl⟩
theorem lx_of (T : Ty5 P) {cs : List AV} (h : ya5 P (m + 3) 67 cs) : ∃ L : Lx, .agg cs = Lx.enc L ∧ OkX L := by
 obtain ⟨fa, fb, fc, fd, fe, hu, ta, tb, tc, td, te⟩ := T.u67
 obtain ⟨yss, rfl, hf⟩ := ymj (m + 2) hu h
 obtain ⟨c1, _, rfl, h1, hf⟩ := F2.cons' hf
 obtain ⟨c2, _, rfl, h2, hf⟩ := F2.cons' hf
 obtain ⟨c3, _, rfl, h3, hf⟩ := F2.cons' hf
 obtain ⟨c4, _, rfl, h4, hf⟩ := F2.cons' hf
 obtain ⟨c5, _, rfl, h5, hf⟩ := F2.cons' hf
 obtain rfl := F2.nil' hf
 rw [ta] at h1; rw [tb] at h2; rw [tc] at h3; rw [td] at h4; rw [te] at h5
 obtain ⟨y, rfl, w1⟩ := yre (m + 1) T.u5 h1
 obtain ⟨b, rfl⟩ := ymk (m + 1) T.u4 h2
 obtain ⟨w, rfl⟩ := ymk (m + 1) T.u4 h3
 obtain ⟨th, rfl, t1, t2⟩ := yv5 T h4
 obtain ⟨pa, rfl, p1, p2⟩ := yv5 T h5
 have hy := yv4 w1
 exact ⟨⟨y, b, w, none, th, none, pa⟩, rfl, hy.1, hy.2, t1, p1, Nat.lt_of_le_of_lt t2 (by decide), Nat.lt_of_le_of_lt p2 (by decide)⟩
theorem arg23 (T : Ty5 P) {x : AV} (h : Arg P 23 x) : ∃ l : List Lx, x = xsl none l ∧ l.length < 2 ^ 63 ∧ ∀ L ∈ l, OkX L := by
 obtain ⟨ys, rfl, hs, _⟩ := h
 obtain ⟨xs, rfl, hl, hx⟩ := yjx 7 T.u23 hs
 obtain ⟨a, rfl, ha⟩ := yd4 Lx.enc OkX xs fun x hx' => by
  obtain ⟨cs, rfl, _, hc⟩ := hx x hx'
  obtain ⟨L, hL, ok⟩ := lx_of (m := 4) T hc
  exact ⟨L, by unfold elOf; rw [if_pos T.a67]; exact hL, ok⟩
 exact ⟨a, yzv T.a23 _, Nat.lt_of_le_of_lt (by simpa using hl) (by decide), ha⟩
end
end Tst
end

section
open Go Go.Lf Go.Proofs Tst
namespace Go.Proofs.Ytpjlfgacjbkbbaa.loopsAdd
theorem LoopsAdd_pure (xs : List AV) (h : F2 (fun t x => ∃ ys, x = elOf Try.prog t ys ∧ ya5 Try.prog 8 t ys ∧ ys.length = Try.prog.cellsOf t) Try.f4.params.toList xs) : PureC Try.prog 4 xs (.atom (.bool true)) := by
 rw [Try.params4] at h
 obtain ⟨x, rfl, h1⟩ := args1 (P := Try.prog) h
 obtain ⟨l, rfl, hl, hX⟩ := arg23 tyP5 h1
 exact yts none l hl hX
end Go.Proofs.Ytpjlfgacjbkbbaa.loopsAdd
end
