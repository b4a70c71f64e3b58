/- Part 9 of the evaluator and of the contracts that the claim uses. -/
import Derived.Test.YtpjlfgacjbkbbaaLoopsNeedsLAA
import Derived.Test.YtpjlfgacjbkbbaaLoopsNeedsLAB
import Derived.Test.YtpjlfgacjbkbbaaLoopsNeedsLAC
import Derived.Test.YtpjlfgacjbkbbaaLoopsNeedsLAD
import Derived.Test.YtpjlfgacjbkbbaaLoopsNeedsLAE
import Derived.Test.YtpjlfgacjbkbbaaLoopsNeedsLAF
import Derived.Test.YtpjlfgacjbkbbaaLoopsNeedsLAG
import Derived.Test.YtpjlfgacjbkbbaaLoopsNeedsLAH
set_option linter.unusedVariables false
set_option linter.unusedSimpArgs false
set_option linter.constructorNameAsVariable false
set_option linter.unusedSectionVars false
open Go.IntKind (i64 u8)

section
open Go Go.Lf Go.Proofs
namespace Tst
noncomputable abbrev zqy : Array Oper := zql Try.f9 22
noncomputable abbrev y22 (k : Nat) : Oper := (zql Try.f9 22).toList.getD k default
theorem zri (k : Nat) (ks : List (Nat × Wk)) (env env3 : Env) (ans : List Ans) (ps : List Prop) (hp : ∀ q ∈ ps, q) (hg : (y22 k).guard = none) (h : (ybp Try.prog (cxN 184 0) zqy [y22 k] env ans).map (fun r => (keepE ks r.1, r.2)) = some (env3, ps)) : OpR Try.prog (cxN 184 0) (y22 k) env (· = env3) := by
 cases ho : ybp Try.prog (cxN 184 0) zqy [y22 k] env ans with
 | none => rw [ho] at h; cases h
 | some r =>
  rw [ho] at h
  injection h with h
  injection h with h1 h2
  obtain ⟨r1, r2⟩ := r
  simp only at h1 h2
  subst h1 h2
  exact OpR.keep _ (OpR.ev (ops := zqy) (base 184 0) zqb.1 zqb.2 hg ho hp)
section
variable (c : Option Nat) (x : List Lx) (m : List (List Lp)) (fr md : List Idd) (i y : Int) (b : Int) (w : Bool) (th : List Idd) (pa : List Ps) (p q : Int)
abbrev bs : Env := [(0, xsl c x), (5, iow none fr), (6, iow none md), (7, it i), (8, it y), (14, .box [ub p, it q])]
abbrev agF : AV := .agg [ub b, bb w, .sl .fresh 36 none (th.map Idd.enc), .sl .fresh 56 none (pa.map Ps.enc)]
abbrev tBad : AV := .sl .own 37 none (List.set (List.map gOW m) y.toNat (setE (List.getD (List.map gOW m) y.toNat AV.bad) 0 [AV.bad]))
abbrev rAp : AV := .sl .own 45 none ((m.getD y.toNat default).map Lp.encG ++ [agF b w th pa])
abbrev q4 : Prop := decide ((0 : Int) ≤ y ∧ y < ((List.map gOW m).length : Nat)) = true
abbrev q5 : Prop := decide (y.toNat < (List.map gOW m).length) = true
abbrev q5b : Prop := List.getD (List.map gOW m) y.toNat AV.bad = gOW (m.getD y.toNat default)
abbrev q6 : Prop := AV.agg ([ub b, bb w, .sl .own 36 none (th.map Idd.enc), .sl .own 56 none (pa.map Ps.enc)].map share) = agF b w th pa
abbrev q8 : Prop := decide (((m.getD y.toNat default).map Lp.encG).length + [agF b w th pa].length ≤ 4294967296) = true
variable (h4 : q4 m y) (h5 : q5 m y) (h5b : q5b m y) (h6 : q6 b w th pa) (h8 : q8 m y b w th pa)
abbrev q9 : Prop := decide ((0 : Int) ≤ y ∧ y < ((List.set (List.map gOW m) y.toNat (setE (List.getD (List.map gOW m) y.toNat AV.bad) 0 [AV.bad])).length : Nat)) = true
variable (h9 : q9 m y)
abbrev tNew : AV := .sl .own 37 none (List.set (List.set (List.map gOW m) y.toNat (setE (List.getD (List.map gOW m) y.toNat AV.bad) 0 [AV.bad])) y.toNat (setE (List.getD (List.set (List.map gOW m) y.toNat (setE (List.getD (List.map gOW m) y.toNat AV.bad) 0 [AV.bad])) y.toNat AV.bad) 0 [rAp m y b w th pa]))
abbrev q10 : Prop := decide (y.toNat < (List.set (List.map gOW m) y.toNat (setE (List.getD (List.map gOW m) y.toNat AV.bad) 0 [AV.bad])).length) = true
abbrev q11 : Prop := List.getD (List.set (List.map gOW m) y.toNat (setE (List.getD (List.map gOW m) y.toNat AV.bad) 0 [AV.bad])) y.toNat AV.bad = AV.bad
variable (h10 : q10 m y ∧ q11 m y)
abbrev R22 : Env → Prop := (· = (4, tNew m y b w th pa) :: bs c x fr md i y p q)
include h4 h5 h5b h6 h8 h9 h10
theorem fin22 : AnyR Try.prog (cxN 184 0) zqy (R22 c x m fr md i y b w th pa p q) 2 #[true, true, true, true, true, true, true, true, true, false, false] ([(4, tBad m y), (172, rAp m y b w th pa), (164, .al 4 [] none), (165, it y)] ++ bs c x fr md i y p q) := by
 refine AnyR.step [9] (by kernel_rfl) (by simp) fun k hk => ?_
 rw [zlv] at hk; subst hk
 refine ⟨y22 9, [(4, tBad m y), (172, rAp m y b w th pa), (173, .adr 4 [] y.toNat 0)] ++ bs c x fr md i y p q, by kernel_rfl, by kernel_rfl, zri 9 (kp [4, 172, 173, 0, 5, 6, 7, 8, 14]) _ _ [.b true, .c] [q9 m y] (allp h9 zqa) (by kernel_rfl) (by kernel_rfl), ?_⟩
 refine AnyR.step [10] (by kernel_rfl) (by simp) fun k hk => ?_
 rw [zlv] at hk; subst hk
 exact ⟨y22 10, _, by kernel_rfl, by kernel_rfl, zri 10 (kp [4, 0, 5, 6, 7, 8, 14]) _ ((4, tNew m y b w th pa) :: bs c x fr md i y p q) [.b true, .r .bad, .c] [q10 m y, q11 m y] (allp h10.1 (allp h10.2 zqa)) (by kernel_rfl) (by kernel_rfl), by kernel_rfl, rfl⟩
end
abbrev H22 (m : List (List Lp)) (y b : Int) (w : Bool) (th : List Idd) (pa : List Ps) : Prop := q4 m y ∧ q5 m y ∧ q5b m y ∧ q6 b w th pa ∧ q8 m y b w th pa ∧ q9 m y ∧ q10 m y ∧ q11 m y
abbrev A22 (c : Option Nat) (x : List Lx) (m : List (List Lp)) (fr md : List Idd) (i y : Int) (b : Int) (w : Bool) (th : List Idd) (pa : List Ps) (p q : Int) (n : Nat) (a : Array Bool) (e : Env) : Prop := AnyR Try.prog (cxN 184 0) zqy (R22 c x m fr md i y b w th pa p q) n a (e ++ bs c x fr md i y p q)
theorem br {R : Env → Prop} {f : Nat} {l : Array Bool} {e env1 : Env} (k : Nat) (ans : List Ans) {ps : List Prop} (hp : ∀ q ∈ ps, q) (h : AnyR Try.prog (cxN 184 0) zqy R f (l.setIfInBounds k true) env1) (h1 : zqy[k]? = some (y22 k) := by kernel_rfl) (h2 : (y22 k).guard = none := by kernel_rfl) (h3 : (ybp Try.prog (cxN 184 0) zqy [y22 k] e ans).map (fun r => (keepE (kp (env1.map Prod.fst)) r.1, r.2)) = some (env1, ps) := by kernel_rfl) : ∃ y env1, zqy[k]? = some y ∧ y.guard = none ∧ OpR Try.prog (cxN 184 0) y e (· = env1) ∧ AnyR Try.prog (cxN 184 0) zqy R f (l.setIfInBounds k true) env1 := ⟨y22 k, env1, h1, h2, zri k _ e env1 ans ps hp h2 h3, h⟩
theorem am {P : Nat → Prop} {a : Nat} {l : List Nat} (h : P a) (hl : ∀ i ∈ l, P i) : ∀ i ∈ a :: l, P i := List.forall_mem_cons.2 ⟨h, hl⟩
theorem an {P : Nat → Prop} : ∀ i ∈ ([] : List Nat), P i := fun _ h => nomatch h
section
variable {c : Option Nat} {x : List Lx} {m : List (List Lp)} {fr md : List Idd} {i y : Int} {b : Int} {w : Bool} {th : List Idd} {pa : List Ps} {p q : Int} (H : H22 m y b w th pa)
include H
theorem c4 : ∀ q ∈ [q4 m y], q := allp H.1 zqa
theorem c5 : ∀ q ∈ [q5 m y, q5b m y], q := allp H.2.1 (allp H.2.2.1 zqa)
theorem c6 : ∀ q ∈ [q6 b w th pa], q := allp H.2.2.2.1 zqa
theorem c8 : ∀ q ∈ [q5 m y, q5b m y, q5 m y, q5b m y, q8 m y b w th pa], q := allp H.2.1 (allp H.2.2.1 (allp H.2.1 (allp H.2.2.1 (allp H.2.2.2.2.1 zqa))))
theorem m303 : A22 c x m fr md i y b w th pa p q 2 #[true, true, true, true, true, true, true, true, true, false, false] [(4, tBad m y), (172, rAp m y b w th pa), (164, .al 4 [] none), (165, it y)] := fin22 c x m fr md i y b w th pa p q H.1 H.2.1 H.2.2.1 H.2.2.2.1 H.2.2.2.2.1 H.2.2.2.2.2.1 H.2.2.2.2.2.2
theorem m352 : A22 c x m fr md i y b w th pa p q 3 #[true, true, true, true, true, true, true, true, false, false, false] [(4, tGW m), (164, .al 4 [] none), (165, it y), (169, .al 4 [(y.toNat, 0)] none), (171, .sl .own 45 (some 1) [agF b w th pa])] := AnyR.step [8] (by kernel_rfl) (by simp) (am (br 8 [.c, .b true, .r (gOW (m.getD y.toNat default)), .b true, .r (gOW (m.getD y.toNat default)), .b true, .c] (c8 H) (m303 H)) an)
theorem m351 : A22 c x m fr md i y b w th pa p q 4 #[true, true, true, true, true, true, true, false, false, false, false] [(4, tGW m), (164, .al 4 [] none), (165, it y), (169, .al 4 [(y.toNat, 0)] none), (170, agF b w th pa)] := AnyR.step [7] (by kernel_rfl) (by simp) (am (br 7 [.c, .c, .c] zqa (m352 H)) an)
theorem m350 : A22 c x m fr md i y b w th pa p q 5 #[true, true, true, true, true, true, false, false, false, false, false] [(4, tGW m), (164, .al 4 [] none), (165, it y), (169, .al 4 [(y.toNat, 0)] none), (9, bxL b w th pa)] := AnyR.step [6] (by kernel_rfl) (by simp) (am (br 6 [.r (agF b w th pa), .c, .c] (c6 H) (m351 H)) an)
theorem m342 : A22 c x m fr md i y b w th pa p q 4 #[true, true, true, true, true, false, true, true, false, false, false] [(4, tGW m), (164, .al 4 [] none), (165, it y), (168, .adr 4 [] y.toNat 0), (171, .sl .own 45 (some 1) [agF b w th pa])] := AnyR.step [5] (by kernel_rfl) (by simp) (am (br 5 [.b true, .r (gOW (m.getD y.toNat default)), .c] (c5 H) (m352 H)) an)
theorem m341 : A22 c x m fr md i y b w th pa p q 5 #[true, true, true, true, true, false, true, false, false, false, false] [(4, tGW m), (164, .al 4 [] none), (165, it y), (168, .adr 4 [] y.toNat 0), (170, agF b w th pa)] := AnyR.step [5, 7] (by kernel_rfl) (by simp) (am (br 5 [.b true, .r (gOW (m.getD y.toNat default)), .c] (c5 H) (m351 H)) (am (br 7 [.c, .c, .c] zqa (m342 H)) an))
theorem m340 : A22 c x m fr md i y b w th pa p q 6 #[true, true, true, true, true, false, false, false, false, false, false] [(4, tGW m), (164, .al 4 [] none), (165, it y), (168, .adr 4 [] y.toNat 0), (9, bxL b w th pa)] := AnyR.step [5, 6] (by kernel_rfl) (by simp) (am (br 5 [.b true, .r (gOW (m.getD y.toNat default)), .c] (c5 H) (m350 H)) (am (br 6 [.r (agF b w th pa), .c, .c] (c6 H) (m341 H)) an))
theorem m332 : A22 c x m fr md i y b w th pa p q 5 #[true, true, true, true, false, false, true, true, false, false, false] [(4, tGW m), (164, .al 4 [] none), (165, it y), (166, .al 4 [] none), (167, it y), (171, .sl .own 45 (some 1) [agF b w th pa])] := AnyR.step [4] (by kernel_rfl) (by simp) (am (br 4 [.b true, .c] (c4 H) (m342 H)) an)
theorem m331 : A22 c x m fr md i y b w th pa p q 6 #[true, true, true, true, false, false, true, false, false, false, false] [(4, tGW m), (164, .al 4 [] none), (165, it y), (166, .al 4 [] none), (167, it y), (170, agF b w th pa)] := AnyR.step [4, 7] (by kernel_rfl) (by simp) (am (br 4 [.b true, .c] (c4 H) (m341 H)) (am (br 7 [.c, .c, .c] zqa (m332 H)) an))
theorem m330 : A22 c x m fr md i y b w th pa p q 7 #[true, true, true, true, false, false, false, false, false, false, false] [(4, tGW m), (164, .al 4 [] none), (165, it y), (166, .al 4 [] none), (167, it y), (9, bxL b w th pa)] := AnyR.step [4, 6] (by kernel_rfl) (by simp) (am (br 4 [.b true, .c] (c4 H) (m340 H)) (am (br 6 [.r (agF b w th pa), .c, .c] (c6 H) (m331 H)) an))
theorem m312 : A22 c x m fr md i y b w th pa p q 6 #[true, true, true, false, false, false, true, true, false, false, false] [(4, tGW m), (164, .al 4 [] none), (165, it y), (166, .al 4 [] none), (171, .sl .own 45 (some 1) [agF b w th pa])] := AnyR.step [3] (by kernel_rfl) (by simp) (am (br 3 [.c] zqa (m332 H)) an)
theorem m311 : A22 c x m fr md i y b w th pa p q 7 #[true, true, true, false, false, false, true, false, false, false, false] [(4, tGW m), (164, .al 4 [] none), (165, it y), (166, .al 4 [] none), (170, agF b w th pa)] := AnyR.step [3, 7] (by kernel_rfl) (by simp) (am (br 3 [.c] zqa (m331 H)) (am (br 7 [.c, .c, .c] zqa (m312 H)) an))
theorem m310 : A22 c x m fr md i y b w th pa p q 8 #[true, true, true, false, false, false, false, false, false, false, false] [(4, tGW m), (164, .al 4 [] none), (165, it y), (166, .al 4 [] none), (9, bxL b w th pa)] := AnyR.step [3, 6] (by kernel_rfl) (by simp) (am (br 3 [.c] zqa (m330 H)) (am (br 6 [.r (agF b w th pa), .c, .c] (c6 H) (m311 H)) an))
theorem m322 : A22 c x m fr md i y b w th pa p q 6 #[true, true, false, true, false, false, true, true, false, false, false] [(4, tGW m), (164, .al 4 [] none), (165, it y), (167, it y), (171, .sl .own 45 (some 1) [agF b w th pa])] := AnyR.step [2] (by kernel_rfl) (by simp) (am (br 2 [.c] zqa (m332 H)) an)
theorem m321 : A22 c x m fr md i y b w th pa p q 7 #[true, true, false, true, false, false, true, false, false, false, false] [(4, tGW m), (164, .al 4 [] none), (165, it y), (167, it y), (170, agF b w th pa)] := AnyR.step [2, 7] (by kernel_rfl) (by simp) (am (br 2 [.c] zqa (m331 H)) (am (br 7 [.c, .c, .c] zqa (m322 H)) an))
theorem m320 : A22 c x m fr md i y b w th pa p q 8 #[true, true, false, true, false, false, false, false, false, false, false] [(4, tGW m), (164, .al 4 [] none), (165, it y), (167, it y), (9, bxL b w th pa)] := AnyR.step [2, 6] (by kernel_rfl) (by simp) (am (br 2 [.c] zqa (m330 H)) (am (br 6 [.r (agF b w th pa), .c, .c] (c6 H) (m321 H)) an))
theorem m302 : A22 c x m fr md i y b w th pa p q 7 #[true, true, false, false, false, false, true, true, false, false, false] [(4, tGW m), (164, .al 4 [] none), (165, it y), (171, .sl .own 45 (some 1) [agF b w th pa])] := AnyR.step [2, 3] (by kernel_rfl) (by simp) (am (br 2 [.c] zqa (m312 H)) (am (br 3 [.c] zqa (m322 H)) an))
theorem m301 : A22 c x m fr md i y b w th pa p q 8 #[true, true, false, false, false, false, true, false, false, false, false] [(4, tGW m), (164, .al 4 [] none), (165, it y), (170, agF b w th pa)] := AnyR.step [2, 3, 7] (by kernel_rfl) (by simp) (am (br 2 [.c] zqa (m311 H)) (am (br 3 [.c] zqa (m321 H)) (am (br 7 [.c, .c, .c] zqa (m302 H)) an)))
theorem m300 : A22 c x m fr md i y b w th pa p q 9 #[true, true, false, false, false, false, false, false, false, false, false] [(4, tGW m), (164, .al 4 [] none), (165, it y), (9, bxL b w th pa)] := AnyR.step [2, 3, 6] (by kernel_rfl) (by simp) (am (br 2 [.c] zqa (m310 H)) (am (br 3 [.c] zqa (m320 H)) (am (br 6 [.r (agF b w th pa), .c, .c] (c6 H) (m301 H)) an)))
theorem m103 : A22 c x m fr md i y b w th pa p q 3 #[true, false, true, true, true, true, true, true, true, false, false] [(4, tBad m y), (172, rAp m y b w th pa), (164, .al 4 [] none)] := AnyR.step [1] (by kernel_rfl) (by simp) (am (br 1 [.c] zqa (m303 H)) an)
theorem m152 : A22 c x m fr md i y b w th pa p q 4 #[true, false, true, true, true, true, true, true, false, false, false] [(4, tGW m), (164, .al 4 [] none), (169, .al 4 [(y.toNat, 0)] none), (171, .sl .own 45 (some 1) [agF b w th pa])] := AnyR.step [1, 8] (by kernel_rfl) (by simp) (am (br 1 [.c] zqa (m352 H)) (am (br 8 [.c, .b true, .r (gOW (m.getD y.toNat default)), .b true, .r (gOW (m.getD y.toNat default)), .b true, .c] (c8 H) (m103 H)) an))
theorem m151 : A22 c x m fr md i y b w th pa p q 5 #[true, false, true, true, true, true, true, false, false, false, false] [(4, tGW m), (164, .al 4 [] none), (169, .al 4 [(y.toNat, 0)] none), (170, agF b w th pa)] := AnyR.step [1, 7] (by kernel_rfl) (by simp) (am (br 1 [.c] zqa (m351 H)) (am (br 7 [.c, .c, .c] zqa (m152 H)) an))
theorem m150 : A22 c x m fr md i y b w th pa p q 6 #[true, false, true, true, true, true, false, false, false, false, false] [(4, tGW m), (164, .al 4 [] none), (169, .al 4 [(y.toNat, 0)] none), (9, bxL b w th pa)] := AnyR.step [1, 6] (by kernel_rfl) (by simp) (am (br 1 [.c] zqa (m350 H)) (am (br 6 [.r (agF b w th pa), .c, .c] (c6 H) (m151 H)) an))
theorem m142 : A22 c x m fr md i y b w th pa p q 5 #[true, false, true, true, true, false, true, true, false, false, false] [(4, tGW m), (164, .al 4 [] none), (168, .adr 4 [] y.toNat 0), (171, .sl .own 45 (some 1) [agF b w th pa])] := AnyR.step [1, 5] (by kernel_rfl) (by simp) (am (br 1 [.c] zqa (m342 H)) (am (br 5 [.b true, .r (gOW (m.getD y.toNat default)), .c] (c5 H) (m152 H)) an))
theorem m141 : A22 c x m fr md i y b w th pa p q 6 #[true, false, true, true, true, false, true, false, false, false, false] [(4, tGW m), (164, .al 4 [] none), (168, .adr 4 [] y.toNat 0), (170, agF b w th pa)] := AnyR.step [1, 5, 7] (by kernel_rfl) (by simp) (am (br 1 [.c] zqa (m341 H)) (am (br 5 [.b true, .r (gOW (m.getD y.toNat default)), .c] (c5 H) (m151 H)) (am (br 7 [.c, .c, .c] zqa (m142 H)) an)))
theorem m140 : A22 c x m fr md i y b w th pa p q 7 #[true, false, true, true, true, false, false, false, false, false, false] [(4, tGW m), (164, .al 4 [] none), (168, .adr 4 [] y.toNat 0), (9, bxL b w th pa)] := AnyR.step [1, 5, 6] (by kernel_rfl) (by simp) (am (br 1 [.c] zqa (m340 H)) (am (br 5 [.b true, .r (gOW (m.getD y.toNat default)), .c] (c5 H) (m150 H)) (am (br 6 [.r (agF b w th pa), .c, .c] (c6 H) (m141 H)) an)))
theorem m132 : A22 c x m fr md i y b w th pa p q 6 #[true, false, true, true, false, false, true, true, false, false, false] [(4, tGW m), (164, .al 4 [] none), (166, .al 4 [] none), (167, it y), (171, .sl .own 45 (some 1) [agF b w th pa])] := AnyR.step [1, 4] (by kernel_rfl) (by simp) (am (br 1 [.c] zqa (m332 H)) (am (br 4 [.b true, .c] (c4 H) (m142 H)) an))
theorem m131 : A22 c x m fr md i y b w th pa p q 7 #[true, false, true, true, false, false, true, false, false, false, false] [(4, tGW m), (164, .al 4 [] none), (166, .al 4 [] none), (167, it y), (170, agF b w th pa)] := AnyR.step [1, 4, 7] (by kernel_rfl) (by simp) (am (br 1 [.c] zqa (m331 H)) (am (br 4 [.b true, .c] (c4 H) (m141 H)) (am (br 7 [.c, .c, .c] zqa (m132 H)) an)))
theorem m130 : A22 c x m fr md i y b w th pa p q 8 #[true, false, true, true, false, false, false, false, false, false, false] [(4, tGW m), (164, .al 4 [] none), (166, .al 4 [] none), (167, it y), (9, bxL b w th pa)] := AnyR.step [1, 4, 6] (by kernel_rfl) (by simp) (am (br 1 [.c] zqa (m330 H)) (am (br 4 [.b true, .c] (c4 H) (m140 H)) (am (br 6 [.r (agF b w th pa), .c, .c] (c6 H) (m131 H)) an)))
theorem m112 : A22 c x m fr md i y b w th pa p q 7 #[true, false, true, false, false, false, true, true, false, false, false] [(4, tGW m), (164, .al 4 [] none), (166, .al 4 [] none), (171, .sl .own 45 (some 1) [agF b w th pa])] := AnyR.step [1, 3] (by kernel_rfl) (by simp) (am (br 1 [.c] zqa (m312 H)) (am (br 3 [.c] zqa (m132 H)) an))
theorem m111 : A22 c x m fr md i y b w th pa p q 8 #[true, false, true, false, false, false, true, false, false, false, false] [(4, tGW m), (164, .al 4 [] none), (166, .al 4 [] none), (170, agF b w th pa)] := AnyR.step [1, 3, 7] (by kernel_rfl) (by simp) (am (br 1 [.c] zqa (m311 H)) (am (br 3 [.c] zqa (m131 H)) (am (br 7 [.c, .c, .c] zqa (m112 H)) an)))
theorem m110 : A22 c x m fr md i y b w th pa p q 9 #[true, false, true, false, false, false, false, false, false, false, false] [(4, tGW m), (164, .al 4 [] none), (166, .al 4 [] none), (9, bxL b w th pa)] := AnyR.step [1, 3, 6] (by kernel_rfl) (by simp) (am (br 1 [.c] zqa (m310 H)) (am (br 3 [.c] zqa (m130 H)) (am (br 6 [.r (agF b w th pa), .c, .c] (c6 H) (m111 H)) an)))
theorem m122 : A22 c x m fr md i y b w th pa p q 7 #[true, false, false, true, false, false, true, true, false, false, false] [(4, tGW m), (164, .al 4 [] none), (167, it y), (171, .sl .own 45 (some 1) [agF b w th pa])] := AnyR.step [1, 2] (by kernel_rfl) (by simp) (am (br 1 [.c] zqa (m322 H)) (am (br 2 [.c] zqa (m132 H)) an))
theorem m121 : A22 c x m fr md i y b w th pa p q 8 #[true, false, false, true, false, false, true, false, false, false, false] [(4, tGW m), (164, .al 4 [] none), (167, it y), (170, agF b w th pa)] := AnyR.step [1, 2, 7] (by kernel_rfl) (by simp) (am (br 1 [.c] zqa (m321 H)) (am (br 2 [.c] zqa (m131 H)) (am (br 7 [.c, .c, .c] zqa (m122 H)) an)))
theorem m120 : A22 c x m fr md i y b w th pa p q 9 #[true, false, false, true, false, false, false, false, false, false, false] [(4, tGW m), (164, .al 4 [] none), (167, it y), (9, bxL b w th pa)] := AnyR.step [1, 2, 6] (by kernel_rfl) (by simp) (am (br 1 [.c] zqa (m320 H)) (am (br 2 [.c] zqa (m130 H)) (am (br 6 [.r (agF b w th pa), .c, .c] (c6 H) (m121 H)) an)))
theorem m102 : A22 c x m fr md i y b w th pa p q 8 #[true, false, false, false, false, false, true, true, false, false, false] [(4, tGW m), (164, .al 4 [] none), (171, .sl .own 45 (some 1) [agF b w th pa])] := AnyR.step [1, 2, 3] (by kernel_rfl) (by simp) (am (br 1 [.c] zqa (m302 H)) (am (br 2 [.c] zqa (m112 H)) (am (br 3 [.c] zqa (m122 H)) an)))
theorem m101 : A22 c x m fr md i y b w th pa p q 9 #[true, false, false, false, false, false, true, false, false, false, false] [(4, tGW m), (164, .al 4 [] none), (170, agF b w th pa)] := AnyR.step [1, 2, 3, 7] (by kernel_rfl) (by simp) (am (br 1 [.c] zqa (m301 H)) (am (br 2 [.c] zqa (m111 H)) (am (br 3 [.c] zqa (m121 H)) (am (br 7 [.c, .c, .c] zqa (m102 H)) an))))
theorem m100 : A22 c x m fr md i y b w th pa p q 10 #[true, false, false, false, false, false, false, false, false, false, false] [(4, tGW m), (164, .al 4 [] none), (9, bxL b w th pa)] := AnyR.step [1, 2, 3, 6] (by kernel_rfl) (by simp) (am (br 1 [.c] zqa (m300 H)) (am (br 2 [.c] zqa (m110 H)) (am (br 3 [.c] zqa (m120 H)) (am (br 6 [.r (agF b w th pa), .c, .c] (c6 H) (m101 H)) an))))
theorem m203 : A22 c x m fr md i y b w th pa p q 3 #[false, true, true, true, true, true, true, true, true, false, false] [(4, tBad m y), (172, rAp m y b w th pa), (165, it y)] := AnyR.step [0] (by kernel_rfl) (by simp) (am (br 0 [.c] zqa (m303 H)) an)
theorem m252 : A22 c x m fr md i y b w th pa p q 4 #[false, true, true, true, true, true, true, true, false, false, false] [(4, tGW m), (165, it y), (169, .al 4 [(y.toNat, 0)] none), (171, .sl .own 45 (some 1) [agF b w th pa])] := AnyR.step [0, 8] (by kernel_rfl) (by simp) (am (br 0 [.c] zqa (m352 H)) (am (br 8 [.c, .b true, .r (gOW (m.getD y.toNat default)), .b true, .r (gOW (m.getD y.toNat default)), .b true, .c] (c8 H) (m203 H)) an))
theorem m251 : A22 c x m fr md i y b w th pa p q 5 #[false, true, true, true, true, true, true, false, false, false, false] [(4, tGW m), (165, it y), (169, .al 4 [(y.toNat, 0)] none), (170, agF b w th pa)] := AnyR.step [0, 7] (by kernel_rfl) (by simp) (am (br 0 [.c] zqa (m351 H)) (am (br 7 [.c, .c, .c] zqa (m252 H)) an))
theorem m250 : A22 c x m fr md i y b w th pa p q 6 #[false, true, true, true, true, true, false, false, false, false, false] [(4, tGW m), (165, it y), (169, .al 4 [(y.toNat, 0)] none), (9, bxL b w th pa)] := AnyR.step [0, 6] (by kernel_rfl) (by simp) (am (br 0 [.c] zqa (m350 H)) (am (br 6 [.r (agF b w th pa), .c, .c] (c6 H) (m251 H)) an))
theorem m242 : A22 c x m fr md i y b w th pa p q 5 #[false, true, true, true, true, false, true, true, false, false, false] [(4, tGW m), (165, it y), (168, .adr 4 [] y.toNat 0), (171, .sl .own 45 (some 1) [agF b w th pa])] := AnyR.step [0, 5] (by kernel_rfl) (by simp) (am (br 0 [.c] zqa (m342 H)) (am (br 5 [.b true, .r (gOW (m.getD y.toNat default)), .c] (c5 H) (m252 H)) an))
theorem m241 : A22 c x m fr md i y b w th pa p q 6 #[false, true, true, true, true, false, true, false, false, false, false] [(4, tGW m), (165, it y), (168, .adr 4 [] y.toNat 0), (170, agF b w th pa)] := AnyR.step [0, 5, 7] (by kernel_rfl) (by simp) (am (br 0 [.c] zqa (m341 H)) (am (br 5 [.b true, .r (gOW (m.getD y.toNat default)), .c] (c5 H) (m251 H)) (am (br 7 [.c, .c, .c] zqa (m242 H)) an)))
theorem m240 : A22 c x m fr md i y b w th pa p q 7 #[false, true, true, true, true, false, false, false, false, false, false] [(4, tGW m), (165, it y), (168, .adr 4 [] y.toNat 0), (9, bxL b w th pa)] := AnyR.step [0, 5, 6] (by kernel_rfl) (by simp) (am (br 0 [.c] zqa (m340 H)) (am (br 5 [.b true, .r (gOW (m.getD y.toNat default)), .c] (c5 H) (m250 H)) (am (br 6 [.r (agF b w th pa), .c, .c] (c6 H) (m241 H)) an)))
theorem m232 : A22 c x m fr md i y b w th pa p q 6 #[false, true, true, true, false, false, true, true, false, false, false] [(4, tGW m), (165, it y), (166, .al 4 [] none), (167, it y), (171, .sl .own 45 (some 1) [agF b w th pa])] := AnyR.step [0, 4] (by kernel_rfl) (by simp) (am (br 0 [.c] zqa (m332 H)) (am (br 4 [.b true, .c] (c4 H) (m242 H)) an))
theorem m231 : A22 c x m fr md i y b w th pa p q 7 #[false, true, true, true, false, false, true, false, false, false, false] [(4, tGW m), (165, it y), (166, .al 4 [] none), (167, it y), (170, agF b w th pa)] := AnyR.step [0, 4, 7] (by kernel_rfl) (by simp) (am (br 0 [.c] zqa (m331 H)) (am (br 4 [.b true, .c] (c4 H) (m241 H)) (am (br 7 [.c, .c, .c] zqa (m232 H)) an)))
theorem m230 : A22 c x m fr md i y b w th pa p q 8 #[false, true, true, true, false, false, false, false, false, false, false] [(4, tGW m), (165, it y), (166, .al 4 [] none), (167, it y), (9, bxL b w th pa)] := AnyR.step [0, 4, 6] (by kernel_rfl) (by simp) (am (br 0 [.c] zqa (m330 H)) (am (br 4 [.b true, .c] (c4 H) (m240 H)) (am (br 6 [.r (agF b w th pa), .c, .c] (c6 H) (m231 H)) an)))
theorem m212 : A22 c x m fr md i y b w th pa p q 7 #[false, true, true, false, false, false, true, true, false, false, false] [(4, tGW m), (165, it y), (166, .al 4 [] none), (171, .sl .own 45 (some 1) [agF b w th pa])] := AnyR.step [0, 3] (by kernel_rfl) (by simp) (am (br 0 [.c] zqa (m312 H)) (am (br 3 [.c] zqa (m232 H)) an))
theorem m211 : A22 c x m fr md i y b w th pa p q 8 #[false, true, true, false, false, false, true, false, false, false, false] [(4, tGW m), (165, it y), (166, .al 4 [] none), (170, agF b w th pa)] := AnyR.step [0, 3, 7] (by kernel_rfl) (by simp) (am (br 0 [.c] zqa (m311 H)) (am (br 3 [.c] zqa (m231 H)) (am (br 7 [.c, .c, .c] zqa (m212 H)) an)))
theorem m210 : A22 c x m fr md i y b w th pa p q 9 #[false, true, true, false, false, false, false, false, false, false, false] [(4, tGW m), (165, it y), (166, .al 4 [] none), (9, bxL b w th pa)] := AnyR.step [0, 3, 6] (by kernel_rfl) (by simp) (am (br 0 [.c] zqa (m310 H)) (am (br 3 [.c] zqa (m230 H)) (am (br 6 [.r (agF b w th pa), .c, .c] (c6 H) (m211 H)) an)))
theorem m222 : A22 c x m fr md i y b w th pa p q 7 #[false, true, false, true, false, false, true, true, false, false, false] [(4, tGW m), (165, it y), (167, it y), (171, .sl .own 45 (some 1) [agF b w th pa])] := AnyR.step [0, 2] (by kernel_rfl) (by simp) (am (br 0 [.c] zqa (m322 H)) (am (br 2 [.c] zqa (m232 H)) an))
theorem m221 : A22 c x m fr md i y b w th pa p q 8 #[false, true, false, true, false, false, true, false, false, false, false] [(4, tGW m), (165, it y), (167, it y), (170, agF b w th pa)] := AnyR.step [0, 2, 7] (by kernel_rfl) (by simp) (am (br 0 [.c] zqa (m321 H)) (am (br 2 [.c] zqa (m231 H)) (am (br 7 [.c, .c, .c] zqa (m222 H)) an)))
theorem m220 : A22 c x m fr md i y b w th pa p q 9 #[false, true, false, true, false, false, false, false, false, false, false] [(4, tGW m), (165, it y), (167, it y), (9, bxL b w th pa)] := AnyR.step [0, 2, 6] (by kernel_rfl) (by simp) (am (br 0 [.c] zqa (m320 H)) (am (br 2 [.c] zqa (m230 H)) (am (br 6 [.r (agF b w th pa), .c, .c] (c6 H) (m221 H)) an)))
theorem m202 : A22 c x m fr md i y b w th pa p q 8 #[false, true, false, false, false, false, true, true, false, false, false] [(4, tGW m), (165, it y), (171, .sl .own 45 (some 1) [agF b w th pa])] := AnyR.step [0, 2, 3] (by kernel_rfl) (by simp) (am (br 0 [.c] zqa (m302 H)) (am (br 2 [.c] zqa (m212 H)) (am (br 3 [.c] zqa (m222 H)) an)))
theorem m201 : A22 c x m fr md i y b w th pa p q 9 #[false, true, false, false, false, false, true, false, false, false, false] [(4, tGW m), (165, it y), (170, agF b w th pa)] := AnyR.step [0, 2, 3, 7] (by kernel_rfl) (by simp) (am (br 0 [.c] zqa (m301 H)) (am (br 2 [.c] zqa (m211 H)) (am (br 3 [.c] zqa (m221 H)) (am (br 7 [.c, .c, .c] zqa (m202 H)) an))))
theorem m200 : A22 c x m fr md i y b w th pa p q 10 #[false, true, false, false, false, false, false, false, false, false, false] [(4, tGW m), (165, it y), (9, bxL b w th pa)] := AnyR.step [0, 2, 3, 6] (by kernel_rfl) (by simp) (am (br 0 [.c] zqa (m300 H)) (am (br 2 [.c] zqa (m210 H)) (am (br 3 [.c] zqa (m220 H)) (am (br 6 [.r (agF b w th pa), .c, .c] (c6 H) (m201 H)) an))))
theorem m003 : A22 c x m fr md i y b w th pa p q 4 #[false, false, true, true, true, true, true, true, true, false, false] [(4, tBad m y), (172, rAp m y b w th pa)] := AnyR.step [0, 1] (by kernel_rfl) (by simp) (am (br 0 [.c] zqa (m103 H)) (am (br 1 [.c] zqa (m203 H)) an))
theorem m052 : A22 c x m fr md i y b w th pa p q 5 #[false, false, true, true, true, true, true, true, false, false, false] [(4, tGW m), (169, .al 4 [(y.toNat, 0)] none), (171, .sl .own 45 (some 1) [agF b w th pa])] := AnyR.step [0, 1, 8] (by kernel_rfl) (by simp) (am (br 0 [.c] zqa (m152 H)) (am (br 1 [.c] zqa (m252 H)) (am (br 8 [.c, .b true, .r (gOW (m.getD y.toNat default)), .b true, .r (gOW (m.getD y.toNat default)), .b true, .c] (c8 H) (m003 H)) an)))
theorem m051 : A22 c x m fr md i y b w th pa p q 6 #[false, false, true, true, true, true, true, false, false, false, false] [(4, tGW m), (169, .al 4 [(y.toNat, 0)] none), (170, agF b w th pa)] := AnyR.step [0, 1, 7] (by kernel_rfl) (by simp) (am (br 0 [.c] zqa (m151 H)) (am (br 1 [.c] zqa (m251 H)) (am (br 7 [.c, .c, .c] zqa (m052 H)) an)))
theorem m050 : A22 c x m fr md i y b w th pa p q 7 #[false, false, true, true, true, true, false, false, false, false, false] [(4, tGW m), (169, .al 4 [(y.toNat, 0)] none), (9, bxL b w th pa)] := AnyR.step [0, 1, 6] (by kernel_rfl) (by simp) (am (br 0 [.c] zqa (m150 H)) (am (br 1 [.c] zqa (m250 H)) (am (br 6 [.r (agF b w th pa), .c, .c] (c6 H) (m051 H)) an)))
theorem m042 : A22 c x m fr md i y b w th pa p q 6 #[false, false, true, true, true, false, true, true, false, false, false] [(4, tGW m), (168, .adr 4 [] y.toNat 0), (171, .sl .own 45 (some 1) [agF b w th pa])] := AnyR.step [0, 1, 5] (by kernel_rfl) (by simp) (am (br 0 [.c] zqa (m142 H)) (am (br 1 [.c] zqa (m242 H)) (am (br 5 [.b true, .r (gOW (m.getD y.toNat default)), .c] (c5 H) (m052 H)) an)))
theorem m041 : A22 c x m fr md i y b w th pa p q 7 #[false, false, true, true, true, false, true, false, false, false, false] [(4, tGW m), (168, .adr 4 [] y.toNat 0), (170, agF b w th pa)] := AnyR.step [0, 1, 5, 7] (by kernel_rfl) (by simp) (am (br 0 [.c] zqa (m141 H)) (am (br 1 [.c] zqa (m241 H)) (am (br 5 [.b true, .r (gOW (m.getD y.toNat default)), .c] (c5 H) (m051 H)) (am (br 7 [.c, .c, .c] zqa (m042 H)) an))))
theorem m040 : A22 c x m fr md i y b w th pa p q 8 #[false, false, true, true, true, false, false, false, false, false, false] [(4, tGW m), (168, .adr 4 [] y.toNat 0), (9, bxL b w th pa)] := AnyR.step [0, 1, 5, 6] (by kernel_rfl) (by simp) (am (br 0 [.c] zqa (m140 H)) (am (br 1 [.c] zqa (m240 H)) (am (br 5 [.b true, .r (gOW (m.getD y.toNat default)), .c] (c5 H) (m050 H)) (am (br 6 [.r (agF b w th pa), .c, .c] (c6 H) (m041 H)) an))))
theorem m032 : A22 c x m fr md i y b w th pa p q 7 #[false, false, true, true, false, false, true, true, false, false, false] [(4, tGW m), (166, .al 4 [] none), (167, it y), (171, .sl .own 45 (some 1) [agF b w th pa])] := AnyR.step [0, 1, 4] (by kernel_rfl) (by simp) (am (br 0 [.c] zqa (m132 H)) (am (br 1 [.c] zqa (m232 H)) (am (br 4 [.b true, .c] (c4 H) (m042 H)) an)))
theorem m031 : A22 c x m fr md i y b w th pa p q 8 #[false, false, true, true, false, false, true, false, false, false, false] [(4, tGW m), (166, .al 4 [] none), (167, it y), (170, agF b w th pa)] := AnyR.step [0, 1, 4, 7] (by kernel_rfl) (by simp) (am (br 0 [.c] zqa (m131 H)) (am (br 1 [.c] zqa (m231 H)) (am (br 4 [.b true, .c] (c4 H) (m041 H)) (am (br 7 [.c, .c, .c] zqa (m032 H)) an))))
theorem m030 : A22 c x m fr md i y b w th pa p q 9 #[false, false, true, true, false, false, false, false, false, false, false] [(4, tGW m), (166, .al 4 [] none), (167, it y), (9, bxL b w th pa)] := AnyR.step [0, 1, 4, 6] (by kernel_rfl) (by simp) (am (br 0 [.c] zqa (m130 H)) (am (br 1 [.c] zqa (m230 H)) (am (br 4 [.b true, .c] (c4 H) (m040 H)) (am (br 6 [.r (agF b w th pa), .c, .c] (c6 H) (m031 H)) an))))
theorem m012 : A22 c x m fr md i y b w th pa p q 8 #[false, false, true, false, false, false, true, true, false, false, false] [(4, tGW m), (166, .al 4 [] none), (171, .sl .own 45 (some 1) [agF b w th pa])] := AnyR.step [0, 1, 3] (by kernel_rfl) (by simp) (am (br 0 [.c] zqa (m112 H)) (am (br 1 [.c] zqa (m212 H)) (am (br 3 [.c] zqa (m032 H)) an)))
theorem m011 : A22 c x m fr md i y b w th pa p q 9 #[false, false, true, false, false, false, true, false, false, false, false] [(4, tGW m), (166, .al 4 [] none), (170, agF b w th pa)] := AnyR.step [0, 1, 3, 7] (by kernel_rfl) (by simp) (am (br 0 [.c] zqa (m111 H)) (am (br 1 [.c] zqa (m211 H)) (am (br 3 [.c] zqa (m031 H)) (am (br 7 [.c, .c, .c] zqa (m012 H)) an))))
theorem m010 : A22 c x m fr md i y b w th pa p q 10 #[false, false, true, false, false, false, false, false, false, false, false] [(4, tGW m), (166, .al 4 [] none), (9, bxL b w th pa)] := AnyR.step [0, 1, 3, 6] (by kernel_rfl) (by simp) (am (br 0 [.c] zqa (m110 H)) (am (br 1 [.c] zqa (m210 H)) (am (br 3 [.c] zqa (m030 H)) (am (br 6 [.r (agF b w th pa), .c, .c] (c6 H) (m011 H)) an))))
theorem m022 : A22 c x m fr md i y b w th pa p q 8 #[false, false, false, true, false, false, true, true, false, false, false] [(4, tGW m), (167, it y), (171, .sl .own 45 (some 1) [agF b w th pa])] := AnyR.step [0, 1, 2] (by kernel_rfl) (by simp) (am (br 0 [.c] zqa (m122 H)) (am (br 1 [.c] zqa (m222 H)) (am (br 2 [.c] zqa (m032 H)) an)))
theorem m021 : A22 c x m fr md i y b w th pa p q 9 #[false, false, false, true, false, false, true, false, false, false, false] [(4, tGW m), (167, it y), (170, agF b w th pa)] := AnyR.step [0, 1, 2, 7] (by kernel_rfl) (by simp) (am (br 0 [.c] zqa (m121 H)) (am (br 1 [.c] zqa (m221 H)) (am (br 2 [.c] zqa (m031 H)) (am (br 7 [.c, .c, .c] zqa (m022 H)) an))))
theorem m020 : A22 c x m fr md i y b w th pa p q 10 #[false, false, false, true, false, false, false, false, false, false, false] [(4, tGW m), (167, it y), (9, bxL b w th pa)] := AnyR.step [0, 1, 2, 6] (by kernel_rfl) (by simp) (am (br 0 [.c] zqa (m120 H)) (am (br 1 [.c] zqa (m220 H)) (am (br 2 [.c] zqa (m030 H)) (am (br 6 [.r (agF b w th pa), .c, .c] (c6 H) (m021 H)) an))))
theorem m002 : A22 c x m fr md i y b w th pa p q 9 #[false, false, false, false, false, false, true, true, false, false, false] [(4, tGW m), (171, .sl .own 45 (some 1) [agF b w th pa])] := AnyR.step [0, 1, 2, 3] (by kernel_rfl) (by simp) (am (br 0 [.c] zqa (m102 H)) (am (br 1 [.c] zqa (m202 H)) (am (br 2 [.c] zqa (m012 H)) (am (br 3 [.c] zqa (m022 H)) an))))
theorem m001 : A22 c x m fr md i y b w th pa p q 10 #[false, false, false, false, false, false, true, false, false, false, false] [(4, tGW m), (170, agF b w th pa)] := AnyR.step [0, 1, 2, 3, 7] (by kernel_rfl) (by simp) (am (br 0 [.c] zqa (m101 H)) (am (br 1 [.c] zqa (m201 H)) (am (br 2 [.c] zqa (m011 H)) (am (br 3 [.c] zqa (m021 H)) (am (br 7 [.c, .c, .c] zqa (m002 H)) an)))))
theorem m000 : A22 c x m fr md i y b w th pa p q 11 #[false, false, false, false, false, false, false, false, false, false, false] [(4, tGW m), (9, bxL b w th pa)] := AnyR.step [0, 1, 2, 3, 6] (by kernel_rfl) (by simp) (am (br 0 [.c] zqa (m100 H)) (am (br 1 [.c] zqa (m200 H)) (am (br 2 [.c] zqa (m010 H)) (am (br 3 [.c] zqa (m020 H)) (am (br 6 [.r (agF b w th pa), .c, .c] (c6 H) (m001 H)) an)))))
end
theorem yng (c : Option Nat) (x : List Lx) (m : List (List Lp)) (fr md : List Idd) (i y : Int) (b : Int) (w : Bool) (th : List Idd) (pa : List Ps) (p q : Int) (h4 : q4 m y) (h5 : q5 m y) (h5b : q5b m y) (h6 : q6 b w th pa) (h8 : q8 m y b w th pa) (h9 : q9 m y) (h10 : q10 m y ∧ q11 m y) : A22 c x m fr md i y b w th pa p q 11 #[false, false, false, false, false, false, false, false, false, false, false] [(4, tGW m), (9, bxL b w th pa)] := m000 ⟨h4, h5, h5b, h6, h8, h9, h10⟩
theorem ypl {m : List (List Lp)} {i : Nat} (L : List AV) (hi : i < m.length) : List.set (List.set (List.map gOW m) i (setE (List.getD (List.map gOW m) i AV.bad) 0 [AV.bad])) i (setE (List.getD (List.set (List.map gOW m) i (setE (List.getD (List.map gOW m) i AV.bad) 0 [AV.bad])) i AV.bad) 0 [.sl .own 45 none L]) = (List.map gOW m).set i (.sl .own 45 none L) := by
 rw [List.set_set]
 congr 1
 have h1 : List.getD (List.map gOW m) i AV.bad = gOW (m.getD i default) := by simp [zld, hi]
 rw [h1]
 have h2 : List.getD (List.set (List.map gOW m) i (setE (gOW (m.getD i default)) 0 [AV.bad])) i AV.bad = AV.bad := by
  rw [zld, List.getElem?_set_self (by simpa using hi)]; rfl
 rw [h2]; rfl
theorem yp7 (l : List Idd) : List.map (mapE (remode zqx 11)) (List.map Idd.enc l) = List.map Idd.enc l := by rw [List.map_map]; rfl
theorem ytu (l : List Ps) : List.map (mapE (remode zqx 11)) (List.map Ps.enc l) = List.map Ps.enc l := by rw [List.map_map]; rfl
theorem of22 (c : Option Nat) (x : List Lx) (m : List (List Lp)) (fr md : List Idd) (i : Int) (y : Nat) (b : Int) (w : Bool) (th : List Idd) (pa : List Ps) (p q : Int) (hy : y < m.length) (hl : (m.getD y default).length < 100000) (L : Lp) (hL : L.b = b ∧ L.w = w ∧ L.th = th ∧ L.pa = pa) :
  Tri Try.prog (cxN 184 0) (.region 22 (zql Try.f9 22) true) ((4, tGW m) :: (9, bxL b w th pa) :: bs c x fr md i y p q) .normal ((4, tGW (m.set y (m.getD y default ++ [L]))) :: bs c x fr md i y p q) := by
 obtain ⟨rfl, rfl, rfl, rfl⟩ := hL
 have hg : List.getD (List.map gOW m) y AV.bad = gOW (m.getD y default) := by simp [zld, hy]
 have h := yng c x m fr md i y L.b L.w L.th L.pa p q (zlb (by rw [zla]; omega)) (zlb (by rw [zla]; exact hy)) hg (by
   show AV.agg [ub L.b, bb L.w, .sl .fresh 36 none (List.map (mapE (remode zqx 11)) (List.map Idd.enc L.th)), .sl .fresh 56 none (List.map (mapE (remode zqx 11)) (List.map Ps.enc L.pa))] = _
   rw [yp7, ytu]) (zlb (by rw [zla]; show _ + 1 ≤ _; simp only [zlf]; omega)) (zlb (by rw [zlx, zla]; omega)) ⟨zlb (by rw [zlx, zla]; exact hy), by
   show List.getD (List.set (List.map gOW m) y (setE (List.getD (List.map gOW m) y AV.bad) 0 [AV.bad])) y AV.bad = AV.bad
   rw [hg, zld, List.getElem?_set_self (by simpa using hy)]; rfl⟩
 have e : tNew m y L.b L.w L.th L.pa = tGW (m.set y (m.getD y default ++ [L])) := by
  show AV.sl .own 37 none (List.set (List.set (List.map gOW m) y (setE (List.getD (List.map gOW m) y AV.bad) 0 [AV.bad])) y (setE (List.getD (List.set (List.map gOW m) y (setE (List.getD (List.map gOW m) y AV.bad) 0 [AV.bad])) y AV.bad) 0 [.sl .own 45 none ((m.getD y default).map Lp.encG ++ [agF L.b L.w L.th L.pa])])) = _
  rw [ypl _ hy]
  show _ = AV.sl .own 37 none ((m.set y (m.getD y default ++ [L])).map gOW)
  rw [List.map_set]
  show _ = AV.sl .own 37 none ((m.map gOW).set y (.sl .own 45 none ((m.getD y default ++ [L]).map Lp.encG)))
  rw [zlq]; rfl
 refine Tri.ofR (.any (base 184 0) (R := (· = (4, tGW (m.set y (m.getD y default ++ [L]))) :: bs c x fr md i y p q)) ?_) fun e h => h
 have hs : zqy.size = 11 := by kernel_rfl
 have ha : Array.replicate zqy.size false = #[false, false, false, false, false, false, false, false, false, false, false] := by kernel_rfl
 show AnyR Try.prog (cxN 184 0) zqy _ zqy.size (Array.replicate zqy.size false) _
 rw [ha, hs, ← e]
 exact h
theorem yj1 (l : List Idd) : ((l.map Idd.enc).all fun y => y.ecells.all zqt) = true := by rw [List.all_map, zls]; intro p _; rfl
theorem yr3 (l : List Idd) (n : Nat) (hn : n = 2) : ((l.map Idd.enc).all fun y => decide (y.ecells.length = n)) = true := by subst hn; rw [List.all_map, zls]; intro p _; rfl
abbrev oE (c : Option Nat) (x : List Lx) (m : List (List Lp)) (fr md : List Idd) (i y : Int) (b : Int) (w : Bool) (th : List Idd) (pa : List Ps) : Env := [(0, xsl c x), (4, tGW m), (5, iow none fr), (6, iow none md), (7, it i), (8, it y), (9, bxL b w th pa)]
section
variable (c : Option Nat) (x : List Lx) (m : List (List Lp)) (fr md : List Idd) (i y : Int) (b : Int) (w : Bool) (th : List Idd) (pa : List Ps)
theorem of15 (k : Int) (n : Nat) (hn : n < fr.length) (hf : fr.length < 100000) : Tri Try.prog (cxN 184 0) (zqr Try.f9 15) (oE c x m fr md i y b w th pa ++ [(10, it k), (11, it n)]) .normal (oE c x m (fr.take n ++ fr.drop (n + 1)) md i y b w th pa ++ [(10, it k)]) := by
 have h := yxm c x m fr md i y b w th pa k n
 rw [up64 (k := n) (by omega)] at h
 simp only [zlf, Nat.sub_zero, List.drop_zero] at h
 have e1 : List.map Idd.enc ([] : List Idd) ++ List.take n (List.map Idd.enc fr) = List.map Idd.enc ([] ++ List.take n fr) := by simp [List.map_take]
 have e2 : List.map Idd.enc ([] ++ List.take n fr) ++ List.take ((List.map Idd.enc fr).length - (n + 1)) (List.drop (n + 1) (List.map Idd.enc fr)) = List.map Idd.enc ([] ++ List.take n fr ++ List.take ((List.map Idd.enc fr).length - (n + 1)) (List.drop (n + 1) fr)) := by simp [List.map_take, List.map_drop]
 have t1 : List.take n (List.map Idd.enc fr) = List.map Idd.enc (List.take n fr) := (List.map_take ..).symm
 have t2 : List.take ((List.map Idd.enc fr).length - (n + 1)) (List.drop (n + 1) (List.map Idd.enc fr)) = List.map Idd.enc (List.take ((List.map Idd.enc fr).length - (n + 1)) (List.drop (n + 1) fr)) := by rw [← List.map_drop, ← List.map_take]
 have h' := h rfl (zlb (by omega)) (zlb ⟨Nat.zero_le _, by rw [zla]; omega⟩) (zlb (by rw [zla]; omega)) (zlb ⟨trivial, by rw [t1]; exact yj1 _, by rw [t1]; exact yr3 _ _ rfl⟩) (zlb ⟨trivial, by rw [t1, zla, zla, zlh]; show 0 + _ ≤ _; omega, by decide⟩)
  (by rw [e1]) (zlb (by omega)) (zlb ⟨by rw [zla]; omega, zly _⟩) (zlb (by rw [zla]; omega)) (zlb ⟨trivial, by rw [t2]; exact yj1 _, by rw [t2]; exact yr3 _ _ rfl⟩) (zlb ⟨trivial, by rw [t2, zla, zla, zlg, zlh, zlh, List.length_drop]; show 0 + _ + _ ≤ _; omega, by decide⟩) (by rw [e2])
 have e3 : ([] : List Idd) ++ List.take n fr ++ List.take ((List.map Idd.enc fr).length - (n + 1)) (List.drop (n + 1) fr) = fr.take n ++ fr.drop (n + 1) := by
  rw [List.nil_append, zla, zlm (l := List.drop (n + 1) fr) (by rw [List.length_drop]; omega)]
 rw [e3] at h'
 exact .less h' (.cons ⟨rfl, rfl, Le.refl _⟩ (.cons ⟨rfl, rfl, Le.refl _⟩ (.cons ⟨rfl, rfl, Le.cap⟩ (.cons ⟨rfl, rfl, Le.refl _⟩ (.cons ⟨rfl, rfl, Le.refl _⟩ (.cons ⟨rfl, rfl, Le.refl _⟩ (.cons ⟨rfl, rfl, Le.refl _⟩ (.cons ⟨rfl, rfl, Le.refl _⟩ .nil))))))))
end
theorem yw9 : zqc Try.f9 1 = .seq (.seq (zqr Try.f9 11) (.cond (.tmp 69) .skip (.exit 2))) (.seq (.block 3 (.seq (zqr Try.f9 13) (.seq (zqr Try.f9 14) (zqr Try.f9 15)))) (zqr Try.f9 12)) := by kernel_rfl
theorem yw8 : zqc Try.f9 2 = .seq (.seq (zqr Try.f9 17) (.cond (.tmp 119) .skip (.exit 4))) (.seq (.block 5 (.seq (zqr Try.f9 19) (zqr Try.f9 20))) (zqr Try.f9 18)) := by kernel_rfl
def thF : List Int → List Idd → List Idd → List Idd × List Idd
 | [], fr, th => (fr, th)
 | p :: ps, fr, th => if fr.length = 0 then (fr, th) else thF ps (fr.take (p.toNat % fr.length) ++ fr.drop (p.toNat % fr.length + 1)) (th ++ [fr.getD (p.toNat % fr.length) default])
structure OkX (L : Lx) : Prop where
 y0 : 0 ≤ L.y
 y1 : L.y ≤ 255
 th : ∀ p ∈ L.th, 0 ≤ p ∧ p ≤ 255
 pa : ∀ p ∈ L.pa, 0 ≤ p ∧ p ≤ 255
 lt : L.th.length < 2 ^ 63
 lp : L.pa.length < 2 ^ 63
theorem yav {x : List Lx} {i : Nat} (h : i < x.length) : (x.map Lx.enc).getD i .bad = Lx.enc (x.getD i default) := by simp [zld, h]
theorem ynz {x : List Int} {i : Nat} (h : i < x.length) : (x.map ubE).getD i .bad = ubE (x.getD i default) := by simp [zld, h]
theorem ykk {x : List Int} {i : Nat} (h : i < x.length) : x.getD i default ∈ x := by rw [zld, zle h]; exact zlu h
theorem drop_take (l : List Int) (n k : Nat) (h : k < l.length) (hn : k < n) : (l.take n).drop k = l.getD k default :: (l.take n).drop (k + 1) := by
 have h2 : k < (l.take n).length := by rw [zlh]; omega
 have e : (l.take n)[k]'h2 = l.getD k default := by
  rw [List.getElem_take, zld, zle h]; rfl
 rw [List.drop_eq_getElem_cons h2, e]
theorem ygn {p : Int} {n : Nat} (h0 : 0 ≤ p) (h1 : p ≤ 255) : Int.tmod (IntKind.wrap i64 p) (n : Int) = ((p.toNat % n : Nat) : Int) := by
 rw [yad (by omega) (by omega)]
 obtain ⟨a, rfl⟩ : ∃ a : Nat, p = a := ⟨p.toNat, by omega⟩
 rw [zlf, Int.tmod_eq_emod_of_nonneg (by omega)]
 rfl
section
variable (c : Option Nat) (x : List Lx) (m : List (List Lp)) (md : List Idd) (i : Nat) (y : Int) (b : Int) (w : Bool) (pa : List Ps) (hi : i < x.length) (hx : x.length < 2 ^ 63) (hL : OkX (x.getD i default))
abbrev thE (m : List (List Lp)) (fr md : List Idd) (i y : Int) (b : Int) (w : Bool) (th : List Idd) (pa : List Ps) (k : Int) : Env := oE c x m fr md i y b w th pa ++ [(10, it k)]
include hi hx hL
theorem yrb (fr th : List Idd) (k : Nat) (h : k < (x.getD i default).th.length → k < 4 → fr.length = 0) : Tri Try.prog (cxN 184 0) (zqc Try.f9 1) (thE c x m fr md i y b w th pa k) (.exit 2) (oE c x m fr md i y b w th pa) := by
 rw [yw9]
 have go : Tri Try.prog (cxN 184 0) (zqr Try.f9 11) (thE c x m fr md i y b w th pa k) .normal (thE c x m fr md i y b w th pa k ++ [(69, bb false)]) := by
  by_cases h1 : k < (x.getD i default).th.length
  ·by_cases h2 : k < 4
   ·have := yrp c x m fr md i y b w th pa k (zlb (by rw [zla]; omega)) (yav hi) (zlb (by rw [zla]; simp only [zlf]; omega)) (zlb (by omega))
    rw [show decide ((0 : Int) < ((List.map Idd.enc fr).length : Nat)) = false by rw [zlc]; rw [zla, h h1 h2]; decide] at this
    exact this
   ·exact yxr c x m fr md i y b w th pa k (zlb (by rw [zla]; omega)) (yav hi) (zlb (by rw [zla]; simp only [zlf]; omega)) (zlc (by omega))
  ·exact yxq c x m fr md i y b w th pa k (zlb (by rw [zla]; omega)) (yav hi) (zlc (by rw [zla]; simp only [zlf]; omega))
 exact .seqX (.seq go (.cond (b := false) rfl (.after (kp [0, 4, 5, 6, 7, 8, 9]) .exit))) (by simp)
theorem ysy (fr th : List Idd) (k : Nat) (h1 : k < (x.getD i default).th.length) (h2 : k < 4) (h3 : 0 < fr.length) (hf : fr.length < 100000) (ht : th.length < 100000) : Tri Try.prog (cxN 184 0) (zqc Try.f9 1) (thE c x m fr md i y b w th pa k) .normal (thE c x m (fr.take (((x.getD i default).th.getD k default).toNat % fr.length) ++ fr.drop (((x.getD i default).th.getD k default).toNat % fr.length + 1)) md i y b w (th ++ [fr.getD (((x.getD i default).th.getD k default).toNat % fr.length) default]) pa ((k + 1 : Nat) : Int)) := by
 rw [yw9]
 have h11 := yrp c x m fr md i y b w th pa k (zlb (by rw [zla]; omega)) (yav hi) (zlb (by rw [zla]; simp only [zlf]; omega)) (zlb (by omega))
 rw [show decide ((0 : Int) < ((List.map Idd.enc fr).length : Nat)) = true by rw [zlb]; rw [zla]; omega] at h11
 obtain ⟨p0, p1⟩ := hL.th _ (ykk h1)
 obtain ⟨f0, fr', rfl⟩ : ∃ f0 fr', fr = f0 :: fr' := by
  cases fr with
  | nil => simp at h3
  | cons f0 fr' => exact ⟨f0, fr', rfl⟩
 have h13 := yxo c x m f0 fr' md i y b w th pa k (zlb (by rw [zla]; omega)) (yav hi) (zlb (by rw [zla]; simp only [zlf]; omega)) (ynz (by simp only [zlf]; exact h1))
 simp only [zlf] at h13
 rw [ygn p0 p1, zla] at h13
 generalize hn : ((x.getD i default).th.getD k default).toNat % (f0 :: fr').length = n at *
 have hnl : n < (f0 :: fr').length := by rw [← hn]; exact Nat.mod_lt _ h3
 have h14 := yxn c x m (f0 :: fr') md i y b w th pa k n (zlb (by rw [zla]; omega)) (zlb (by rw [zla]; simpa using hnl)) (yag (by simpa using hnl)) rfl (zlb (by rw [zla, zla]; show _ + 1 ≤ _; omega)) (by rw [← zlq])
 simp only [zlf] at h14
 have h15 := of15 c x m (f0 :: fr') md i y b w (th ++ [(f0 :: fr').getD n default]) pa k n hnl hf
 have h12 := yxp c x m (List.take n (f0 :: fr') ++ List.drop (n + 1) (f0 :: fr')) md i y b w (th ++ [(f0 :: fr').getD n default]) pa k
 rw [up64 (by omega)] at h12
 exact .seq (.seq h11 (.cond (b := true) rfl (.after (kp [0, 4, 5, 6, 7, 8, 9, 10]) .skip))) (.seq (.block (ex := .normal) (.seq h13 (.seq h14 h15)) (.inr ⟨by simp, rfl⟩)) h12)
theorem yl9 : ∀ (j k : Nat) (fr th : List Idd), k + j = min 4 (x.getD i default).th.length → fr.length < 100000 → th.length < 50000 + k → Rnd Try.prog (cxN 184 0) (zqc Try.f9 1) (j + 1) (thE c x m fr md i y b w th pa k) (.exit 2) (oE c x m (thF (((x.getD i default).th.take 4).drop k) fr th).1 md i y b w (thF (((x.getD i default).th.take 4).drop k) fr th).2 pa)
 | 0, k, fr, th, h, _, _ => by
  rw [zln (by rw [zlh]; omega)]
  exact .exit (yrb c x m md i y b w pa hi hx hL fr th k (by omega)) (by simp)
 | j + 1, k, fr, th, h, hf, ht => by
  have h1 : k < (x.getD i default).th.length := by omega
  have hd := drop_take (x.getD i default).th 4 k h1 (by omega)
  rw [hd, thF]
  by_cases h3 : fr.length = 0
  ·rw [if_pos h3]
   exact .exit (yrb c x m md i y b w pa hi hx hL fr th k (fun _ _ => h3)) (by simp)
  ·rw [if_neg h3]
   have hmod := Nat.mod_lt ((x.getD i default).th.getD k default).toNat (by omega : 0 < fr.length)
   exact .step (ysy c x m md i y b w pa hi hx hL fr th k h1 (by omega) (by omega) hf (by omega)) (yl9 j (k + 1) _ _ (by omega) (by rw [zlg, zlh, List.length_drop]; omega) (by rw [zlg]; show _ + 1 < _; omega))
end
def psOf (md : List Idd) (yy p : Int) : Ps := ⟨(md.getD (p.toNat / 2 % md.length) default).y, (md.getD (p.toNat / 2 % md.length) default).n, Int.tmod p 2 == 1, Int.tmod (IntKind.wrap u8 (Int.tdiv yy 6)) 2⟩
theorem yqe {p : Int} {n : Nat} (h0 : 0 ≤ p) (h1 : p ≤ 255) : Int.tmod (IntKind.wrap i64 (IntKind.wrap u8 (Int.tdiv p 2))) (n : Int) = ((p.toNat / 2 % n : Nat) : Int) := by
 obtain ⟨a, rfl⟩ : ∃ a : Nat, p = a := ⟨p.toNat, by omega⟩
 have e : Int.tdiv (a : Int) 2 = ((a / 2 : Nat) : Int) := by rw [Int.tdiv_eq_ediv_of_nonneg (by omega)]; rfl
 have e2 : IntKind.wrap u8 ((a / 2 : Nat) : Int) = ((a / 2 : Nat) : Int) := yfx (by omega) (by omega)
 rw [e, e2, ygn (by omega) (by omega), zlf, zlf]
section
variable (c : Option Nat) (x : List Lx) (m : List (List Lp)) (fr : List Idd) (i : Nat) (y : Int) (b : Int) (w : Bool) (th : List Idd) (hi : i < x.length) (hx : x.length < 2 ^ 63) (hL : OkX (x.getD i default))
abbrev paE (m : List (List Lp)) (fr md : List Idd) (i y : Int) (b : Int) (w : Bool) (th : List Idd) (pa : List Ps) (k : Int) : Env := oE c x m fr md i y b w th pa ++ [(12, it k)]
include hi hx hL
theorem yri (md : List Idd) (pa : List Ps) (k : Nat) (h : k < (x.getD i default).pa.length → k < 5 → md.length = 0) : Tri Try.prog (cxN 184 0) (zqc Try.f9 2) (paE c x m fr md i y b w th pa k) (.exit 4) (oE c x m fr md i y b w th pa) := by
 rw [yw8]
 have go : Tri Try.prog (cxN 184 0) (zqr Try.f9 17) (paE c x m fr md i y b w th pa k) .normal (paE c x m fr md i y b w th pa k ++ [(119, bb false)]) := by
  by_cases h1 : k < (x.getD i default).pa.length
  ·by_cases h2 : k < 5
   ·have := yro c x m fr md i y b w th pa k (zlb (by rw [zla]; omega)) (yav hi) (zlb (by rw [zla]; simp only [zlf]; omega)) (zlb (by omega))
    rw [show decide ((0 : Int) < ((List.map Idd.enc md).length : Nat)) = false by rw [zlc]; rw [zla, h h1 h2]; decide] at this
    exact this
   ·exact yxk c x m fr md i y b w th pa k (zlb (by rw [zla]; omega)) (yav hi) (zlb (by rw [zla]; simp only [zlf]; omega)) (zlc (by omega))
  ·exact yxj c x m fr md i y b w th pa k (zlb (by rw [zla]; omega)) (yav hi) (zlc (by rw [zla]; simp only [zlf]; omega))
 exact .seqX (.seq go (.cond (b := false) rfl (.after (kp [0, 4, 5, 6, 7, 8, 9]) .exit))) (by simp)
theorem yta (md : List Idd) (pa : List Ps) (k : Nat) (h1 : k < (x.getD i default).pa.length) (h2 : k < 5) (h3 : 0 < md.length) (hf : md.length < 100000) (ht : pa.length < 100000) : Tri Try.prog (cxN 184 0) (zqc Try.f9 2) (paE c x m fr md i y b w th pa k) .normal (paE c x m fr md i y b w th (pa ++ [psOf md (x.getD i default).y ((x.getD i default).pa.getD k default)]) ((k + 1 : Nat) : Int)) := by
 rw [yw8]
 have h17 := yro c x m fr md i y b w th pa k (zlb (by rw [zla]; omega)) (yav hi) (zlb (by rw [zla]; simp only [zlf]; omega)) (zlb (by omega))
 rw [show decide ((0 : Int) < ((List.map Idd.enc md).length : Nat)) = true by rw [zlb]; rw [zla]; omega] at h17
 obtain ⟨p0, p1⟩ := hL.pa _ (ykk h1)
 obtain ⟨f0, md', rfl⟩ : ∃ f0 md', md = f0 :: md' := by
  cases md with
  | nil => simp at h3
  | cons f0 md' => exact ⟨f0, md', rfl⟩
 have h19 := yxh c x m fr (f0 :: md') i y b w th pa k (zlb (by rw [zla]; omega)) (yav hi) (zlb (by rw [zla]; simp only [zlf]; omega)) (ynz (by simp only [zlf]; exact h1))
 simp only [zlf] at h19
 have h20 := yxg c x m f0 fr md' i y b w th pa k ((x.getD i default).pa.getD k default)
 rw [yqe p0 p1] at h20
 simp only [zlf, zla] at h20
 have hnl : ((x.getD i default).pa.getD k default).toNat / 2 % (f0 :: md').length < (f0 :: md').length := Nat.mod_lt _ h3
 have h20' := h20 (zlb (by omega)) (zlb hnl) (yag hnl) (zlb (by omega)) (yav hi) rfl (zlb (by show _ + 1 ≤ _; omega)) (by rw [← zlq])
 have h18 := yxi c x m fr (f0 :: md') i y b w th (pa ++ [psOf (f0 :: md') (x.getD i default).y ((x.getD i default).pa.getD k default)]) k
 rw [up64 (by omega)] at h18
 exact .seq (.seq h17 (.cond (b := true) rfl (.after (kp [0, 4, 5, 6, 7, 8, 9, 12]) .skip))) (.seq (.block (ex := .normal) (.seq h19 h20') (.inr ⟨by simp, rfl⟩)) h18)
theorem ymr (md : List Idd) (hf : md.length < 100000) : ∀ (j k : Nat) (pa : List Ps), k + j = min 5 (x.getD i default).pa.length → pa.length < 50000 + k → Rnd Try.prog (cxN 184 0) (zqc Try.f9 2) (j + 1) (paE c x m fr md i y b w th pa k) (.exit 4) (oE c x m fr md i y b w th (if md.length = 0 then pa else pa ++ (((x.getD i default).pa.take 5).drop k).map (psOf md (x.getD i default).y)))
 | 0, k, pa, h, _ => by
  rw [zln (by rw [zlh]; omega), List.map_nil, List.append_nil, ite_self]
  exact .exit (yri c x m fr i y b w th hi hx hL md pa k (by omega)) (by simp)
 | j + 1, k, pa, h, ht => by
  have h1 : k < (x.getD i default).pa.length := by omega
  by_cases h3 : md.length = 0
  ·rw [if_pos h3]
   exact .exit (yri c x m fr i y b w th hi hx hL md pa k (fun _ _ => h3)) (by simp)
  ·have ih := ymr md hf j (k + 1) (pa ++ [psOf md (x.getD i default).y ((x.getD i default).pa.getD k default)]) (by omega) (by rw [zlg]; show _ + 1 < _; omega)
   rw [if_neg h3] at ih ⊢
   rw [drop_take (x.getD i default).pa 5 k h1 (by omega), List.map_cons]
   rw [zlp] at ih
   exact .step (yta c x m fr i y b w th hi hx hL md pa k h1 (by omega) (by omega) hf (by omega)) ih
end
structure OfS where
 m : List (List Lp)
 fr : List Idd
 md : List Idd
def ofL (S : OfS) (L : Lx) : Lp := ⟨if L.b then 1 else 0, L.w || (S.m.getD (L.y.toNat % 6) default).length == 0, none, (thF (L.th.take 4) S.fr []).2, none, if S.md.length = 0 then [] else (L.pa.take 5).map (psOf S.md L.y)⟩
def ofI (S : OfS) (L : Lx) : Idd := ⟨((L.y.toNat % 6 + 1 : Nat) : Int), ((S.m.getD (L.y.toNat % 6) default).length : Nat)⟩
def yax (S : OfS) (L : Lx) : OfS := ⟨S.m.set (L.y.toNat % 6) (S.m.getD (L.y.toNat % 6) default ++ [ofL S L]), (thF (L.th.take 4) S.fr []).1 ++ [ofI S L], S.md ++ [ofI S L]⟩
theorem yil : ∀ (ps : List Int) (fr th : List Idd), (thF ps fr th).1.length ≤ fr.length
 | [], fr, th => zly _
 | p :: ps, fr, th => by
  rw [thF]
  split
  ·exact zly _
  ·refine Nat.le_trans (yil ps _ _) ?_
   rw [zlg, zlh, List.length_drop]; omega
structure OfOk (S : OfS) (i : Nat) : Prop where
 m6 : S.m.length = 6
 row : ∀ r ∈ S.m, r.length ≤ i
 fr : S.fr.length ≤ i
 md : S.md.length ≤ i
theorem OfOk.get {S : OfS} {i : Nat} (h : OfOk S i) (y : Nat) (hy : y < 6) : (S.m.getD y default).length ≤ i := by
 refine h.row _ ?_
 rw [zld, zle (by rw [h.m6]; exact hy)]; exact zlu _
theorem OfOk.step {S : OfS} {i : Nat} (h : OfOk S i) (L : Lx) : OfOk (yax S L) (i + 1) := by
 have hy : L.y.toNat % 6 < 6 := Nat.mod_lt _ (by omega)
 refine ⟨by show (List.set _ _ _).length = 6; rw [zlx]; exact h.m6, ?_, ?_, ?_⟩
 ·intro r hr
  rcases List.mem_or_eq_of_mem_set hr with hr | rfl
  ·have := h.row r hr; omega
  ·rw [zlg]; have := h.get _ hy; show _ + 1 ≤ _; omega
 ·show (_ ++ [_]).length ≤ _
  rw [zlg]; have := yil (L.th.take 4) S.fr []; have := h.fr; show _ + 1 ≤ _; omega
 ·show (_ ++ [_]).length ≤ _
  rw [zlg]; have := h.md; show _ + 1 ≤ _; omega
theorem yxa : zqc Try.f9 0 = (.seq (.seq (zqr Try.f9 4) (.cond (.tmp 23) .skip (.exit 0))) (.seq (.block 1 (.seq (zqr Try.f9 6) (.seq (zqr Try.f9 7) (.seq (.seq (zqr Try.f9 8) (.cond (.tmp 51) (zqr Try.f9 9) .skip)) (.seq (.seq (zqr Try.f9 10) (.block 2 (.loop (zqc Try.f9 1)))) (.seq (.seq (zqr Try.f9 16) (.block 4 (.loop (zqc Try.f9 2)))) (.seq (zqr Try.f9 21) (.seq (.region 22 (zql Try.f9 22) true) (.seq (zqr Try.f9 23) (zqr Try.f9 24)))))))))) (zqr Try.f9 5))) := by kernel_rfl
theorem yzh (b : Int) (w : Bool) : Le Try.prog (.box [ub b, bb w, zqw, zqw]) (bxL b w [] []) := Le.box (.cons (Le.refl _) (.cons (Le.refl _) (.cons (Le.trans (Le.nilOwn 36) Le.cap) (.cons (Le.trans (Le.nilOwn 56) Le.cap) .nil))))
section
variable (c : Option Nat) (x : List Lx) (hx : x.length < 2 ^ 63)
abbrev uE (S : OfS) (i : Int) : Env := [(0, xsl c x), (4, tGW S.m), (5, iow none S.fr), (6, iow none S.md), (7, it i)]
include hx
theorem ywi (S : OfS) (i : Nat) (h : i < x.length → 60 ≤ i) : Tri Try.prog (cxN 184 0) (zqc Try.f9 0) (uE c x S i) (.exit 0) [(4, tGW S.m), (6, iow none S.md)] := by
 rw [yxa]
 have go : Tri Try.prog (cxN 184 0) (zqr Try.f9 4) (uE c x S i) .normal (uE c x S i ++ [(23, bb false)]) := by
  by_cases h1 : i < x.length
  ·have := yxb c x S.m S.fr S.md i (zlb (by rw [zla]; omega))
   rw [show decide ((i : Int) < 60) = false by rw [zlc]; have := h h1; omega] at this
   exact this
  ·exact of4_1 c x S.m S.fr S.md i (zlc (by rw [zla]; omega))
 exact .seqX (.seq go (.cond (b := false) rfl (.after (kp [4, 6]) .exit))) (by simp)
theorem ysq (S : OfS) (i : Nat) (h1 : i < x.length) (h2 : i < 60) (hS : OfOk S i) (hL : OkX (x.getD i default)) : Tri Try.prog (cxN 184 0) (zqc Try.f9 0) (uE c x S i) .normal (uE c x (yax S (x.getD i default)) ((i + 1 : Nat) : Int)) := by
 rw [yxa]
 have hb : decide ((0 : Int) ≤ (i : Int) ∧ (i : Int) < ((List.map Lx.enc x).length : Nat)) = true := zlb (by rw [zla]; omega)
 have h4 := yxb c x S.m S.fr S.md i (zlb (by rw [zla]; omega))
 rw [show decide ((i : Int) < 60) = true by rw [zlb]; omega] at h4
 have h6 := of6_0 c x S.m S.fr S.md i hb (yav h1)
 generalize hLe : x.getD i default = L at *
 simp only [zlf, hLe] at h6
 have hyw : IntKind.wrap i64 (Int.tmod L.y 6) = ((L.y.toNat % 6 : Nat) : Int) := by
  have := ygn (p := L.y) (n := 6) hL.y0 hL.y1
  rw [yad (n := L.y) (by have := hL.y0; omega) (by have := hL.y1; omega)] at this
  show IntKind.wrap i64 (Int.tmod L.y ((6 : Nat) : Int)) = _
  rw [this]; exact yad (by omega) (by omega)
 rw [hyw] at h6
 have hy : L.y.toNat % 6 < 6 := Nat.mod_lt _ (by omega)
 generalize hyy : L.y.toNat % 6 = y at *
 have hym : y < S.m.length := by rw [hS.m6]; exact hy
 have hrow := hS.get y hy
 have hgo : List.getD (List.map gOW S.m) y AV.bad = gOW (S.m.getD y default) := by simp [zld, hym]
 have hw : (L.w || (S.m.getD y default).length == 0) = (ofL S L).w := by unfold ofL; rw [hyy]
 have h7 : Tri Try.prog (cxN 184 0) (zqr Try.f9 7) (uE c x S i ++ [(8, it y)]) .normal (oE c x S.m S.fr S.md i y 0 (ofL S L).w [] []) := by
  rw [← hw]
  cases hLw : L.w with
  | true =>
   have h := of7_0 c x S.m S.fr S.md i y hb (yav h1) (by simp only [zlf, hLe]; exact hLw)
   exact .less h (.cons ⟨rfl, rfl, Le.refl _⟩ (.cons ⟨rfl, rfl, Le.refl _⟩ (.cons ⟨rfl, rfl, Le.refl _⟩ (.cons ⟨rfl, rfl, Le.refl _⟩ (.cons ⟨rfl, rfl, Le.refl _⟩ (.cons ⟨rfl, rfl, Le.refl _⟩ (.cons ⟨rfl, rfl, yzh 0 true⟩ .nil)))))))
  | false =>
   have h := of7_1 c x S.m S.fr S.md i y hb (yav h1) (by simp only [zlf, hLe]; exact hLw) (zlb (by rw [zla]; omega)) (zlb (by rw [zla]; simpa using hym)) (by simp only [zlf]; exact hgo)
   simp only [zlf, zla] at h
   have e : ((((S.m.getD y default).length : Nat) : Int) == 0) = (false || (S.m.getD y default).length == 0) := by
    rw [Bool.false_or, Bool.eq_iff_iff]; simp
   rw [e] at h
   exact .less h (.cons ⟨rfl, rfl, Le.refl _⟩ (.cons ⟨rfl, rfl, Le.refl _⟩ (.cons ⟨rfl, rfl, Le.refl _⟩ (.cons ⟨rfl, rfl, Le.refl _⟩ (.cons ⟨rfl, rfl, Le.refl _⟩ (.cons ⟨rfl, rfl, Le.refl _⟩ (.cons ⟨rfl, rfl, yzh 0 _⟩ .nil)))))))
 have h8 := of8_0 c x S.m S.fr S.md i y 0 (ofL S L).w [] [] hb (yav h1)
 simp only [zlf, hLe] at h8
 have h89 : Tri Try.prog (cxN 184 0) (.seq (zqr Try.f9 8) (.cond (.tmp 51) (zqr Try.f9 9) .skip)) (oE c x S.m S.fr S.md i y 0 (ofL S L).w [] []) .normal (oE c x S.m S.fr S.md i y (ofL S L).b (ofL S L).w [] []) := by
  have eb : (ofL S L).b = if L.b then 1 else 0 := rfl
  rw [eb]
  cases hb : L.b with
  | true => exact .seq (.after (kp [0, 4, 5, 6, 7, 8, 9, 51]) h8) (.cond (b := true) (by show some (bb L.b) = _; rw [hb]) (.weak (kp [0, 4, 5, 6, 7, 8, 9]) (of9_0 c x S.m S.fr S.md i y 0 (ofL S L).w [] [])))
  | false => exact .seq (.after (kp [0, 4, 5, 6, 7, 8, 9, 51]) h8) (.cond (b := false) (by show some (bb L.b) = _; rw [hb]) (.after (kp [0, 4, 5, 6, 7, 8, 9]) .skip))
 have hLx : OkX (x.getD i default) := by rw [hLe]; exact hL
 have hfr := hS.fr
 have hmd := hS.md
 have hT := (yl9 c x S.m S.md i y (ofL S L).b (ofL S L).w [] h1 hx hLx (min 4 L.th.length) 0 S.fr [] (by rw [hLe]; omega) (by omega) (by decide)).loop
 simp only [hLe, List.drop_zero] at hT
 have hth : (thF (L.th.take 4) S.fr []).2 = (ofL S L).th := rfl
 rw [hth] at hT
 have hT2 : Tri Try.prog (cxN 184 0) (.seq (zqr Try.f9 10) (.block 2 (.loop (zqc Try.f9 1)))) (oE c x S.m S.fr S.md i y (ofL S L).b (ofL S L).w [] []) .normal (oE c x S.m (thF (L.th.take 4) S.fr []).1 S.md i y (ofL S L).b (ofL S L).w (ofL S L).th []) :=
  .seq (yxs c x S.m S.fr S.md i y (ofL S L).b (ofL S L).w [] []) (.block (ex := .exit 2) hT (.inl ⟨rfl, rfl⟩))
 have hP := (ymr c x S.m (thF (L.th.take 4) S.fr []).1 i y (ofL S L).b (ofL S L).w (ofL S L).th h1 hx hLx S.md (by omega) (min 5 L.pa.length) 0 [] (by rw [hLe]; omega) (by decide)).loop
 simp only [hLe, List.drop_zero, List.nil_append] at hP
 have hpa : (if S.md.length = 0 then [] else (L.pa.take 5).map (psOf S.md L.y)) = (ofL S L).pa := rfl
 rw [hpa] at hP
 have hP2 : Tri Try.prog (cxN 184 0) (.seq (zqr Try.f9 16) (.block 4 (.loop (zqc Try.f9 2)))) (oE c x S.m (thF (L.th.take 4) S.fr []).1 S.md i y (ofL S L).b (ofL S L).w (ofL S L).th []) .normal (oE c x S.m (thF (L.th.take 4) S.fr []).1 S.md i y (ofL S L).b (ofL S L).w (ofL S L).th (ofL S L).pa) :=
  .seq (yxl c x S.m (thF (L.th.take 4) S.fr []).1 S.md i y (ofL S L).b (ofL S L).w (ofL S L).th []) (.block (ex := .exit 4) hP (.inl ⟨rfl, rfl⟩))
 have hfl := yil (L.th.take 4) S.fr []
 generalize hfe : (thF (L.th.take 4) S.fr []).1 = fr at *
 have h21 := yxf c x S.m fr S.md i y (ofL S L).b (ofL S L).w (ofL S L).th (ofL S L).pa (zlb (by rw [zla]; omega)) (zlb (by rw [zla]; simpa using hym)) (by simp only [zlf]; exact hgo)
 simp only [zlf, zla] at h21
 rw [up64 (by omega), yfx (by omega) (by omega)] at h21
 have h22 := of22 c x S.m fr S.md i y (ofL S L).b (ofL S L).w (ofL S L).th (ofL S L).pa ((y + 1 : Nat) : Int) ((S.m.getD y default).length : Nat) hym (by omega) (ofL S L) ⟨rfl, rfl, rfl, rfl⟩
 have h23 := yxe c x (S.m.set y (S.m.getD y default ++ [ofL S L])) fr S.md i ((y + 1 : Nat) : Int) ((S.m.getD y default).length : Nat) rfl (zlb (by rw [zla, zla]; show _ + 1 ≤ _; omega)) (by rw [← zlq])
 have h24 := yxd c x (S.m.set y (S.m.getD y default ++ [ofL S L])) (fr ++ [⟨((y + 1 : Nat) : Int), ((S.m.getD y default).length : Nat)⟩]) S.md i ((y + 1 : Nat) : Int) ((S.m.getD y default).length : Nat) rfl (zlb (by rw [zla, zla]; show _ + 1 ≤ _; omega)) (by rw [← zlq])
 have hi1 : ofI S L = ⟨((y + 1 : Nat) : Int), ((S.m.getD y default).length : Nat)⟩ := by unfold ofI; rw [hyy]
 have h5 := of5_0 c x (S.m.set y (S.m.getD y default ++ [ofL S L])) (fr ++ [⟨((y + 1 : Nat) : Int), ((S.m.getD y default).length : Nat)⟩]) (S.md ++ [⟨((y + 1 : Nat) : Int), ((S.m.getD y default).length : Nat)⟩]) i
 rw [up64 (by omega)] at h5
 have hst : yax S L = ⟨S.m.set y (S.m.getD y default ++ [ofL S L]), fr ++ [⟨((y + 1 : Nat) : Int), ((S.m.getD y default).length : Nat)⟩], S.md ++ [⟨((y + 1 : Nat) : Int), ((S.m.getD y default).length : Nat)⟩]⟩ := by
  unfold yax
  rw [hi1, hyy, hfe]
 rw [hst]
 refine .seq (.seq h4 (.cond (b := true) rfl (.after (kp [0, 4, 5, 6, 7]) .skip))) (.seq (.block (ex := .normal) (.seq h6 (.seq h7 (.seq h89 (.seq hT2 (.seq hP2 (.seq h21 (.seq ?_ (.seq h23 h24)))))))) (.inr ⟨by simp, rfl⟩)) h5)
 exact .weak (kp [4, 9, 0, 5, 6, 7, 8, 14]) (.after (kp [0, 4, 5, 6, 7, 14]) h22)
end
def S0 : OfS := ⟨List.replicate 6 [], [], []⟩
theorem ofOk0 : OfOk S0 0 := ⟨rfl, fun r hr => by rw [(List.mem_replicate.1 hr).2]; exact zly _, zly _, zly _⟩
def ofS (x : List Lx) : OfS := (x.take 60).foldl yax S0
theorem ytf : Try.f9.body = some (.seq (zqr Try.f9 0) (.seq (zqr Try.f9 1) (.seq (zqr Try.f9 2) (.seq (.seq (zqr Try.f9 3) (.block 0 (.loop (zqc Try.f9 0)))) (.seq (zqr Try.f9 25) .ret))))) := by kernel_rfl
theorem ylq (l : List Lx) (n k : Nat) (h : k < l.length) (hn : k < n) : (l.take n).drop k = l.getD k default :: (l.take n).drop (k + 1) := by
 have h2 : k < (l.take n).length := by rw [zlh]; omega
 have e : (l.take n)[k]'h2 = l.getD k default := by
  rw [List.getElem_take, zld, zle h]; rfl
 rw [List.drop_eq_getElem_cons h2, e]
section
variable (c : Option Nat) (x : List Lx) (hx : x.length < 2 ^ 63) (hX : ∀ L ∈ x, OkX L)
include hx hX
theorem yl0 : ∀ (j i : Nat) (S : OfS), i + j = min 60 x.length → OfOk S i → Rnd Try.prog (cxN 184 0) (zqc Try.f9 0) (j + 1) (uE c x S i) (.exit 0) [(4, tGW (((x.take 60).drop i).foldl yax S).m), (6, iow none (((x.take 60).drop i).foldl yax S).md)]
 | 0, i, S, h, _ => by
  rw [zln (by rw [zlh]; omega)]
  exact .exit (ywi c x hx S i (by omega)) (by simp)
 | j + 1, i, S, h, hS => by
  have h1 : i < x.length := by omega
  rw [ylq x 60 i h1 (by omega), List.foldl_cons]
  have hL : OkX (x.getD i default) := hX _ (by rw [zld, zle h1]; exact zlu h1)
  exact .step (ysq c x hx S i h1 (by omega) hS hL) (yl0 j (i + 1) _ (by omega) (hS.step _))
theorem of_c : PureC Try.prog 9 [xsl c x] (.tup [tGW (ofS x).m, iow none (ofS x).md]) := by
 have hl := (yl0 c x hx hX (min 60 x.length) 0 S0 (by omega) ofOk0).loop
 rw [List.drop_zero] at hl
 refine ycz ((base 184 0).ok zqb.1 zqb.2) Try.func9 rfl (by show 1 ≤ 184; omega) rfl ytf rfl (ex := .ret) (env' := [(2, .al 4 [] none), (3, .al 6 [] none), (4, tGW (ofS x).m), (6, iow none (ofS x).md)]) ?_ (by kernel_rfl)
 refine .seq (.after (kp [0]) (of0_0 c x)) (.seq (env1 := [(0, xsl c x), (4, tGW S0.m)]) (.less (.after (kp [0, 4]) (of1_0 c x)) (.cons ⟨rfl, rfl, Le.refl _⟩ (.cons ⟨rfl, rfl, ?_⟩ .nil))) (.seq (env1 := [(0, xsl c x), (4, tGW S0.m), (5, iow none []), (6, iow none [])]) (.less (.after (kp [0, 4, 5, 6]) (of2_0 c x S0.m)) (.cons ⟨rfl, rfl, Le.refl _⟩ (.cons ⟨rfl, rfl, Le.refl _⟩ (.cons ⟨rfl, rfl, Le.trans (Le.nilOwn 36) Le.cap⟩ (.cons ⟨rfl, rfl, Le.trans (Le.nilOwn 36) Le.cap⟩ .nil))))) (.seq (.seq (.after (kp [0, 4, 5, 6, 7]) (of3_0 c x S0.m [] [])) (.block (ex := .exit 0) hl (.inl ⟨rfl, rfl⟩))) (.seq (.after (kp [2, 3, 4, 6]) (yxc (ofS x).m (ofS x).md)) .ret))))
 refine Le.trans Le.cap ?_
 show Le Try.prog (.sl .own 37 none (List.replicate 6 zqw)) (.sl .own 37 none ((List.replicate 6 []).map gOW))
 rw [List.map_replicate]
 exact Le.ownRep rfl rfl (Le.trans (Le.nilOwn 45) Le.cap) _
end
structure MakeOk (t : List Rw) (o : List Idd) : Prop where
 sub : ∀ k p, o[k]? = some p → hasV t p.y p.n = true ∧ (∀ n', 0 ≤ n' → n' < p.n → (⟨p.y, n'⟩ : Idd) ∈ o.take k) ∧ ∀ q ∈ zqz (atV t p.y p.n), q ∈ o.take k
 all : ∀ y n, hasV t y n = true → (⟨y, n⟩ : Idd) ∈ o
def tb (m : List (List Lp)) : List Rw := m.map fun l => ⟨none, l⟩
theorem yhm (m : List (List Lp)) : (tb m).length = m.length := by simp [tb]
theorem yra (m : List (List Lp)) (i : Nat) : ((tb m).getD i default).l = m.getD i default := by
 unfold tb
 simp only [zld, List.getElem?_map]
 cases m[i]? <;> rfl
theorem ydi (m : List (List Lp)) (y n : Int) : hasV (tb m) y n = true ↔ 1 ≤ y ∧ y ≤ m.length ∧ 0 ≤ n ∧ n < (m.getD (y - 1).toNat default).length := by
 unfold hasV
 rw [yra, yhm]
 simp [zlo, and_assoc]
theorem you (m : List (List Lp)) (y n : Int) : atV (tb m) y n = (m.getD (y - 1).toNat default).getD n.toNat default := by
 unfold atV; rw [yra]
structure FineL (L : Lp) : Prop where
 b : L.b = 0 ∨ L.b = 1
 th : L.th.length ≤ 4
 pa : L.pa.length ≤ 5
 d : ∃ d : Int, (d = 0 ∨ d = 1) ∧ ∀ p ∈ L.pa, p.d = d
 ct : L.ct = none
 cp : L.cp = none
def thM (m : List (List Lp)) : List Idd := m.flatMap fun r => r.flatMap Lp.th
structure ValidS (S : OfS) : Prop where
 m6 : S.m.length = 6
 ok : MakeOk (tb S.m) S.md
 fr : ∀ p ∈ S.fr, p ∈ S.md
 nd : (S.fr ++ thM S.m).Nodup
 fine : ∀ r ∈ S.m, ∀ L ∈ r, FineL L
 nw : ∀ i, i < 6 → S.m.getD i default ≠ [] → ((S.m.getD i default).getD 0 default).w = true
 mdn : S.md.Nodup
theorem ygo : ∀ (ps : List Int) (fr th : List Idd), ((thF ps fr th).1 ++ (thF ps fr th).2).Perm (fr ++ th)
 | [], fr, th => List.Perm.refl _
 | p :: ps, fr, th => by
  rw [thF]
  split
  ·exact List.Perm.refl _
  ·rename_i h
   refine (ygo ps _ _).trans ?_
   have hn := Nat.mod_lt p.toNat (by omega : 0 < fr.length)
   generalize p.toNat % fr.length = n at hn
   have e : fr = fr.take n ++ fr.getD n default :: fr.drop (n + 1) := by
    conv => lhs; rw [← List.take_append_drop n fr]
    congr 1
    rw [List.drop_eq_getElem_cons hn, zld, zle hn]; rfl
   generalize fr.getD n default = q at *
   conv => rhs; rw [e]
   have h1 : (fr.take n ++ fr.drop (n + 1) ++ (th ++ [q])).Perm (q :: (fr.take n ++ fr.drop (n + 1) ++ th)) := by
    rw [← zlp]
    exact List.perm_append_singleton _ _
   refine h1.trans ?_
   have h2 : (fr.take n ++ q :: fr.drop (n + 1) ++ th).Perm (q :: (fr.take n ++ fr.drop (n + 1) ++ th)) := by
    have := (List.perm_middle (a := q) (l₁ := fr.take n) (l₂ := fr.drop (n + 1))).append_right th
    simp
   exact h2.symm
theorem yjn : ∀ (ps : List Int) (fr th : List Idd), (thF ps fr th).2.length ≤ th.length + ps.length
 | [], fr, th => by simp [thF]
 | p :: ps, fr, th => by
  rw [thF]
  split
  ·simp
  ·have := yjn ps (fr.take (p.toNat % fr.length) ++ fr.drop (p.toNat % fr.length + 1)) (th ++ [fr.getD (p.toNat % fr.length) default])
   rw [zlg] at this
   have e : [fr.getD (p.toNat % fr.length) default].length = 1 := rfl
   rw [List.length_cons]; omega
section
variable {S : OfS} {L : Lx} (hS : ValidS S) (hL : OkX L)
include hS
theorem ValidS.get (l : List Lp) (y0 : Nat) (hy : y0 < 6) (j : Nat) : (S.m.set y0 l).getD j default = if j = y0 then l else S.m.getD j default := by
 rw [zld, List.getElem?_set]
 have := hS.m6
 by_cases h : y0 = j
 ·subst h; rw [if_pos rfl, if_pos rfl, if_pos (by omega)]; rfl
 ·rw [if_neg h, if_neg (Ne.symm h), zld]
theorem ValidS.has_old {p : Idd} (h : p ∈ S.md) : hasV (tb S.m) p.y p.n = true := by
 obtain ⟨k, hk, e⟩ := List.mem_iff_getElem.1 h
 exact (hS.ok.sub k p (by rw [zle hk, e])).1
theorem ValidS.new (y0 : Nat) (hy : y0 < 6) : (⟨((y0 + 1 : Nat) : Int), ((S.m.getD y0 default).length : Nat)⟩ : Idd) ∉ S.md := by
 intro h
 have := (ydi _ _ _).1 (hS.has_old h)
 have e : ((((y0 + 1 : Nat) : Int) - 1).toNat) = y0 := by omega
 simp only [e] at this
 omega
theorem ValidS.ment {y n : Int} (h : hasV (tb S.m) y n = true) : ∀ q ∈ zqz (atV (tb S.m) y n), q ∈ S.md := by
 have hm := hS.ok.all y n h
 obtain ⟨k, hk, e⟩ := List.mem_iff_getElem.1 hm
 intro q hq
 exact List.mem_of_mem_take ((hS.ok.sub k ⟨y, n⟩ (by rw [zle hk, e])).2.2 q hq)
theorem ValidS.thM {p : Idd} (h : p ∈ thM S.m) : p ∈ S.md := by
 unfold Tst.thM at h
 obtain ⟨r, hr, h⟩ := List.mem_flatMap.1 h
 obtain ⟨K, hK, h⟩ := List.mem_flatMap.1 h
 obtain ⟨i, hi, rfl⟩ := List.mem_iff_getElem.1 hr
 obtain ⟨n, hn, rfl⟩ := List.mem_iff_getElem.1 hK
 have hg : S.m.getD i default = S.m[i] := by rw [zld, zle hi]; rfl
 have hh : hasV (tb S.m) ((i + 1 : Nat) : Int) (n : Nat) = true := by
  rw [ydi]
  have e : ((((i + 1 : Nat) : Int) - 1).toNat) = i := by omega
  rw [e, hg]; omega
 refine hS.ment hh p ?_
 rw [you]
 have e : ((((i + 1 : Nat) : Int) - 1).toNat) = i := by omega
 rw [e, hg, zlf, zld, zle hn]
 exact List.mem_append.2 (.inl h)
theorem ysx (y0 : Nat) (hy : y0 < 6) (l : Lp) : (Tst.thM (S.m.set y0 (S.m.getD y0 default ++ [l]))).Perm (l.th ++ Tst.thM S.m) := by
 have hl : y0 < S.m.length := by rw [hS.m6]; exact hy
 have hg : S.m.getD y0 default = S.m[y0] := by rw [zld, zle hl]; rfl
 have e : S.m = S.m.take y0 ++ S.m[y0] :: S.m.drop (y0 + 1) := by
  conv => lhs; rw [← List.take_append_drop y0 S.m]
  rw [List.drop_eq_getElem_cons hl]
 unfold Tst.thM
 rw [List.set_eq_take_append_cons_drop, if_pos hl, hg]
 conv => rhs; rw [e]
 simp only [List.flatMap_append, List.flatMap_cons, List.flatMap_nil, List.append_nil]
 have : ∀ (A B C D : List Idd), (A ++ (B ++ C ++ D)).Perm (C ++ (A ++ (B ++ D))) := by
  intro A B C D
  have h1 : (A ++ (B ++ C ++ D)) = (A ++ B) ++ (C ++ D) := by simp
  have h2 : (C ++ (A ++ (B ++ D))) = C ++ ((A ++ B) ++ D) := by simp
  rw [h1, h2]
  have := List.perm_append_comm_assoc (A ++ B) C D
  exact this
 exact this _ _ _ _
end
section
variable {S : OfS} {L : Lx} (hS : ValidS S) (hL : OkX L)
include hS
theorem yuj (y0 : Nat) (hy : y0 < 6) (l : Lp) (y n : Int) : hasV (tb (S.m.set y0 (S.m.getD y0 default ++ [l]))) y n = true ↔ hasV (tb S.m) y n = true ∨ (y = ((y0 + 1 : Nat) : Int) ∧ n = ((S.m.getD y0 default).length : Nat)) := by
 rw [ydi, ydi, hS.get _ y0 hy, zlx]
 have h6 := hS.m6
 by_cases h : (y - 1).toNat = y0
 ·rw [if_pos h, h, zlg]
  have : [l].length = 1 := rfl
  constructor
  ·rintro ⟨a, b, c, d⟩
   by_cases e : n = ((S.m.getD y0 default).length : Nat)
   ·exact .inr ⟨by omega, e⟩
   ·exact .inl ⟨a, b, c, by omega⟩
  ·rintro (⟨a, b, c, d⟩ | ⟨a, b⟩)
   ·exact ⟨a, b, c, by omega⟩
   ·exact ⟨by omega, by omega, by omega, by omega⟩
 ·rw [if_neg h]
  constructor
  ·exact .inl
  ·rintro (a | ⟨a, b⟩)
   ·exact a
   ·exfalso; apply h; omega
theorem at_old (y0 : Nat) (hy : y0 < 6) (l : Lp) {y n : Int} (h : hasV (tb S.m) y n = true) : atV (tb (S.m.set y0 (S.m.getD y0 default ++ [l]))) y n = atV (tb S.m) y n := by
 obtain ⟨a, b, c, d⟩ := (ydi _ _ _).1 h
 rw [you, you, hS.get _ y0 hy]
 by_cases h : (y - 1).toNat = y0
 ·rw [if_pos h, h]
  rw [h] at d
  generalize S.m.getD y0 default = row at *
  simp only [zld]
  rw [List.getElem?_append_left (by omega)]
 ·rw [if_neg h]
theorem at_new (y0 : Nat) (hy : y0 < 6) (l : Lp) : atV (tb (S.m.set y0 (S.m.getD y0 default ++ [l]))) ((y0 + 1 : Nat) : Int) ((S.m.getD y0 default).length : Nat) = l := by
 rw [you, hS.get _ y0 hy, if_pos (by omega), zlf, zld, List.getElem?_append_right (zly _), Nat.sub_self]
 rfl
include hL
theorem yqh : FineL (ofL S L) := by
 refine ⟨?_, ?_, ?_, ?_, rfl, rfl⟩
 ·have e : (ofL S L).b = if L.b then 1 else 0 := rfl
  rw [e]
  split
  ·exact .inr rfl
  ·exact .inl rfl
 ·have := yjn (L.th.take 4) S.fr []
  rw [zlh] at this
  show (thF (L.th.take 4) S.fr []).2.length ≤ 4
  simp at this
  omega
 ·show (if S.md.length = 0 then [] else (L.pa.take 5).map (psOf S.md L.y)).length ≤ 5
  split
  ·simp
  ·rw [zla, zlh]; omega
 ·refine ⟨Int.tmod (IntKind.wrap u8 (Int.tdiv L.y 6)) 2, ?_, ?_⟩
  ·have h0 := hL.y0
   have h1 := hL.y1
   obtain ⟨a, ha⟩ : ∃ a : Nat, L.y = a := ⟨L.y.toNat, by omega⟩
   rw [ha] at h1 ⊢
   have e : Int.tdiv (a : Int) 6 = ((a / 6 : Nat) : Int) := by rw [Int.tdiv_eq_ediv_of_nonneg (by omega)]; rfl
   rw [e, yfx (by omega) (by omega), Int.tmod_eq_emod_of_nonneg (by omega)]
   omega
  ·intro p hp
   have hp : p ∈ (if S.md.length = 0 then [] else (L.pa.take 5).map (psOf S.md L.y)) := hp
   split at hp
   ·simp at hp
   ·obtain ⟨q, _, rfl⟩ := List.mem_map.1 hp
    rfl
theorem yp4 : ∀ q ∈ zqz (ofL S L), q ∈ S.md := by
 intro q hq
 rcases List.mem_append.1 hq with h | h
 ·have h : q ∈ (thF (L.th.take 4) S.fr []).2 := h
  have := (ygo (L.th.take 4) S.fr []).mem_iff.1 (List.mem_append.2 (.inr h))
  rw [List.append_nil] at this
  exact hS.fr q this
 ·obtain ⟨p, hp, rfl⟩ := List.mem_map.1 h
  have hp : p ∈ (if S.md.length = 0 then [] else (L.pa.take 5).map (psOf S.md L.y)) := hp
  split at hp
  ·simp at hp
  ·rename_i hne
   obtain ⟨z, _, rfl⟩ := List.mem_map.1 hp
   show (⟨(S.md.getD (z.toNat / 2 % S.md.length) default).y, (S.md.getD (z.toNat / 2 % S.md.length) default).n⟩ : Idd) ∈ S.md
   have hlt := Nat.mod_lt (z.toNat / 2) (by omega : 0 < S.md.length)
   generalize z.toNat / 2 % S.md.length = k at hlt
   show S.md.getD k default ∈ S.md
   rw [zld, zle hlt]
   exact zlu hlt
theorem ValidS.step : ValidS (yax S L) := by
 have hy : L.y.toNat % 6 < 6 := Nat.mod_lt _ (by omega)
 have hnew := hS.new (L.y.toNat % 6) hy
 have hm : ∀ q ∈ zqz (ofL S L), q ∈ S.md := yp4 hS hL
 have hf := yqh hS hL
 have hperm := ygo (L.th.take 4) S.fr []
 rw [List.append_nil] at hperm
 have hthm := ysx hS (L.y.toNat % 6) hy (ofL S L)
 have hhas := yuj hS (L.y.toNat % 6) hy (ofL S L)
 have haold := fun y n h => at_old hS (L.y.toNat % 6) hy (ofL S L) (y := y) (n := n) h
 have hanew := at_new hS (L.y.toNat % 6) hy (ofL S L)
 have hget := hS.get (S.m.getD (L.y.toNat % 6) default ++ [ofL S L]) (L.y.toNat % 6) hy
 refine ⟨by show (List.set _ _ _).length = 6; rw [zlx]; exact hS.m6, ⟨?_, ?_⟩, ?_, ?_, ?_, ?_, ?_⟩
 ·intro k p hk
  have hk : (S.md ++ [ofI S L])[k]? = some p := hk
  show hasV (tb (S.m.set _ _)) p.y p.n = true ∧ (∀ n', 0 ≤ n' → n' < p.n → _ ∈ (S.md ++ [ofI S L]).take k) ∧ ∀ q ∈ zqz (atV (tb (S.m.set _ _)) p.y p.n), q ∈ (S.md ++ [ofI S L]).take k
  by_cases hlt : k < S.md.length
  ·rw [List.getElem?_append_left hlt] at hk
   obtain ⟨h1, h2, h3⟩ := hS.ok.sub k p hk
   rw [List.take_append_of_le_length (by omega), haold _ _ h1]
   exact ⟨(hhas _ _).2 (.inl h1), h2, h3⟩
  ·rw [List.getElem?_append_right (by omega)] at hk
   have hk0 : k = S.md.length := by
    rcases zlt (k - S.md.length) with h | h
    ·omega
    ·rw [List.getElem?_eq_none (by simp; omega)] at hk; cases hk
   subst hk0
   rw [Nat.sub_self] at hk
   injection hk with hk; subst hk
   rw [List.take_append_of_le_length (zly _), List.take_length]
   refine ⟨(hhas _ _).2 (.inr ⟨rfl, rfl⟩), ?_, ?_⟩
   ·intro n' h0 h1
    have h1 : n' < ((S.m.getD (L.y.toNat % 6) default).length : Nat) := h1
    refine hS.ok.all _ _ ((ydi _ _ _).2 ?_)
    have e : (((L.y.toNat % 6 + 1 : Nat) : Int) - 1).toNat = L.y.toNat % 6 := by omega
    have := hS.m6
    show 1 ≤ ((L.y.toNat % 6 + 1 : Nat) : Int) ∧ ((L.y.toNat % 6 + 1 : Nat) : Int) ≤ S.m.length ∧ 0 ≤ n' ∧ n' < (S.m.getD (((L.y.toNat % 6 + 1 : Nat) : Int) - 1).toNat default).length
    rw [e]
    exact ⟨by omega, by omega, h0, h1⟩
   ·have e : atV (tb (S.m.set (L.y.toNat % 6) (S.m.getD (L.y.toNat % 6) default ++ [ofL S L]))) (ofI S L).y (ofI S L).n = ofL S L := hanew
    rw [e]; exact hm
 ·intro y n h
  show _ ∈ S.md ++ [ofI S L]
  rcases (hhas y n).1 h with h | ⟨rfl, rfl⟩
  ·exact List.mem_append.2 (.inl (hS.ok.all _ _ h))
  ·exact List.mem_append.2 (.inr (by simp [ofI]))
 ·intro p hp
  show p ∈ S.md ++ [ofI S L]
  have hp : p ∈ (thF (L.th.take 4) S.fr []).1 ++ [ofI S L] := hp
  rcases List.mem_append.1 hp with h | h
  ·exact List.mem_append.2 (.inl (hS.fr p (hperm.mem_iff.1 (List.mem_append.2 (.inl h)))))
  ·exact List.mem_append.2 (.inr h)
 ·show ((thF (L.th.take 4) S.fr []).1 ++ [ofI S L] ++ Tst.thM (S.m.set _ _)).Nodup
  have h1 : ((thF (L.th.take 4) S.fr []).1 ++ [ofI S L] ++ Tst.thM (S.m.set (L.y.toNat % 6) (S.m.getD (L.y.toNat % 6) default ++ [ofL S L]))).Perm (ofI S L :: (S.fr ++ Tst.thM S.m)) := by
   refine ((List.Perm.refl _).append hthm).trans ?_
   have h2 : ((thF (L.th.take 4) S.fr []).1 ++ [ofI S L] ++ ((ofL S L).th ++ Tst.thM S.m)) = (thF (L.th.take 4) S.fr []).1 ++ ofI S L :: ((ofL S L).th ++ Tst.thM S.m) := by simp
   rw [h2]
   refine List.perm_middle.trans ?_
   refine List.Perm.cons _ ?_
   rw [← zlp]
   exact hperm.append_right _
  rw [h1.nodup_iff, List.nodup_cons]
  refine ⟨fun h => ?_, hS.nd⟩
  rcases List.mem_append.1 h with h | h
  ·exact hnew (hS.fr _ h)
  ·exact hnew (hS.thM h)
 ·intro r hr K hK
  rcases List.mem_or_eq_of_mem_set hr with hr | rfl
  ·exact hS.fine r hr K hK
  ·rcases List.mem_append.1 hK with h | h
   ·refine hS.fine (S.m.getD (L.y.toNat % 6) default) ?_ K h
    rw [zld, zle (by rw [hS.m6]; exact hy)]; exact zlu _
   ·rw [zlv] at h; subst h; exact hf
 ·intro i hi hne
  have hne : (S.m.set (L.y.toNat % 6) (S.m.getD (L.y.toNat % 6) default ++ [ofL S L])).getD i default ≠ [] := hne
  show (((S.m.set (L.y.toNat % 6) (S.m.getD (L.y.toNat % 6) default ++ [ofL S L])).getD i default).getD 0 default).w = true
  rw [hget] at hne ⊢
  by_cases h : i = L.y.toNat % 6
  ·rw [if_pos h]
   by_cases hr : S.m.getD (L.y.toNat % 6) default = []
   ·rw [hr]
    show (L.w || (S.m.getD (L.y.toNat % 6) default).length == 0) = true
    rw [hr]; simp
   ·have := hS.nw (L.y.toNat % 6) hy hr
    rw [zld, List.getElem?_append_left (List.length_pos_iff.2 hr), ← zld]
    exact this
  ·rw [if_neg h] at hne ⊢
   exact hS.nw i hi hne
 ·show (S.md ++ [ofI S L]).Nodup
  rw [List.nodup_append]
  refine ⟨hS.mdn, by simp, fun a ha b hb e => ?_⟩
  rw [zlv] at hb
  subst hb e
  exact hnew ha
end
theorem ywh : ValidS S0 := by
 refine ⟨rfl, ⟨fun k p h => by simp [S0] at h, fun y n h => ?_⟩, fun p h => by simp [S0] at h, by simp [S0, thM], ?_, ?_, by simp [S0]⟩
 ·exfalso
  obtain ⟨a, b, c, d⟩ := (ydi _ _ _).1 h
  have e : S0.m.getD (y - 1).toNat default = [] := by
   unfold S0
   rw [zld, List.getElem?_replicate]
   split <;> rfl
  rw [e] at d
  simp at d
  omega
 ·intro r hr K hK
  rw [(List.mem_replicate.1 hr).2] at hK; simp at hK
 ·intro i hi hne
  exfalso; apply hne
  unfold S0
  rw [zld, List.getElem?_replicate]
  split <;> rfl
theorem yfz : ∀ (l : List Lx) (S : OfS), ValidS S → (∀ L ∈ l, OkX L) → ValidS (l.foldl yax S)
 | [], S, h, _ => h
 | L :: l, S, h, hX => yfz l _ (h.step (hX L (by simp))) fun K hK => hX K (by simp [hK])
theorem ypa (x : List Lx) (hX : ∀ L ∈ x, OkX L) : ValidS (ofS x) := yfz _ _ ywh fun L hL => hX L (List.mem_of_mem_take hL)
theorem ys4 {i : Nat} {R : List Lp} {x : Idd × Lp} (h : x ∈ rowL i R) : ∃ n : Nat, n < R.length ∧ x.1 = ⟨((i + 1 : Nat) : Int), (n : Int)⟩ ∧ x.2 = R.getD n default := by
 unfold rowL at h
 obtain ⟨q, hq, rfl⟩ := List.mem_map.1 h
 have h1 := List.mem_zipIdx hq
 refine ⟨q.2, by have := h1.2.1; omega, rfl, ?_⟩
 show q.1 = _
 have := h1.2.2
 rw [this, zld, zle (by have := h1.2.1; omega)]
 simp
theorem ygj : ∀ (t : List Rw) (i : Nat) (x : Idd × Lp), x ∈ yah i t → ∃ j n : Nat, j < t.length ∧ n < (t.getD j default).l.length ∧ x.1 = ⟨((i + j + 1 : Nat) : Int), (n : Int)⟩ ∧ x.2 = (t.getD j default).l.getD n default
 | [], i, x, h => by simp [yah] at h
 | r :: t, i, x, h => by
  rw [yah, List.mem_append] at h
  rcases h with h | h
  ·obtain ⟨n, h1, h2, h3⟩ := ys4 h
   exact ⟨0, n, by simp, h1, h2, h3⟩
  ·obtain ⟨j, n, h1, h2, h3, h4⟩ := ygj t (i + 1) x h
   refine ⟨j + 1, n, by rw [List.length_cons]; omega, h2, ?_, h4⟩
   rw [h3, show i + 1 + j + 1 = i + (j + 1) + 1 by omega]
theorem yph (i : Nat) (R : List Lp) : thA (rowL i R) = R.flatMap Lp.th := by
 unfold thA rowL
 rw [List.flatMap_map]
 show List.flatMap (fun q : Lp × Nat => q.1.th) R.zipIdx = _
 have : ∀ (R : List Lp) (k : Nat), List.flatMap (fun q : Lp × Nat => q.1.th) (R.zipIdx k) = R.flatMap Lp.th := by
  intro R
  induction R with
  | nil => intro k; rfl
  | cons a R ih => intro k; rw [List.zipIdx_cons, List.flatMap_cons, List.flatMap_cons, ih]
 exact this R 0
theorem ycy : ∀ (t : List Rw) (i : Nat), thA (yah i t) = t.flatMap fun r => r.l.flatMap Lp.th
 | [], i => rfl
 | r :: t, i => by rw [yah, yim, yph, ycy t (i + 1), List.flatMap_cons]
section
variable {S : OfS} (hS : ValidS S)
include hS
theorem ValidS.take : (tb S.m).take 255 = tb S.m := zlm (by rw [yhm, hS.m6]; omega)
theorem ValidS.tw : twV (tb S.m) = false := by
 unfold twV allT
 rw [hS.take, ycy]
 have e : ((tb S.m).flatMap fun r => r.l.flatMap Lp.th) = Tst.thM S.m := by
  unfold tb Tst.thM
  rw [List.flatMap_map]
 rw [e, zlb (List.nodup_append.1 hS.nd).2.1]
 rfl
theorem ValidS.okT : OkT (tb S.m) := by
 intro r hr L hL
 unfold tb at hr
 obtain ⟨l, hl, rfl⟩ := List.mem_map.1 hr
 have hf := hS.fine l hl L hL
 refine ⟨?_, by have := hf.th; omega, by have := hf.pa; omega⟩
 intro p hp
 obtain ⟨i, hi, rfl⟩ := List.mem_iff_getElem.1 hl
 obtain ⟨n, hn, rfl⟩ := List.mem_iff_getElem.1 hL
 have hg : S.m.getD i default = S.m[i] := by rw [zld, zle hi]; rfl
 have e1 : (((i + 1 : Nat) : Int) - 1).toNat = i := by omega
 have hn' : n < S.m[i].length := hn
 have hh : hasV (tb S.m) ((i + 1 : Nat) : Int) (n : Int) = true := by
  rw [ydi, e1, hg]; omega
 have hat : atV (tb S.m) ((i + 1 : Nat) : Int) (n : Int) = S.m[i][n] := by
  rw [you, e1, zlf, hg, zld, zle hn']; rfl
 have h3 : p ∈ zqz (atV (tb S.m) ((i + 1 : Nat) : Int) (n : Int)) := by rw [hat]; exact hp
 have := (ydi _ _ _).1 (hS.has_old (hS.ment hh p h3))
 have := hS.m6
 omega
end
set_option maxHeartbeats 0
theorem yum {d : List Int} {i : Nat} (h : i < d.length) : List.getD (d.map itI) i .bad = itI (List.getD d i default) := by simp [zld, h]
section
variable (L : Lp) (d : List Int) (hd : d.length = 7) (ht : L.th.length < 2 ^ 60) (hp : L.pa.length < 2 ^ 60)
include hd ht
omit ht
include hp
end
def HOf (c : Option Nat) (x : List Lx) (m : List (List Lp)) (md : List Idd) : Prop := PureC Try.prog 9 [xsl c x] (.tup [tGW m, iow none md])
def HOr (t : List Rw) (l : List Idd) : Prop := PureC Try.prog 10 [tsl none t] (.tup [iow (some l.length) l, it 0])
theorem yy9 (t : List Rw) (l : List Idd) (d : List Int) (i y : Int) (hd : d.length = 7) (g0 : decide (0 ≤ y ∧ y < ((7 : Nat) : Int) ∧ (0 : Nat) < (1 : Nat)) = true) (g1 : decide ((0 : Nat) = (0 : Nat) ∧ y.toNat * (1 : Nat) < (d.map itI).length) = true) (g2 : (d.map itI).getD (y.toNat * (1 : Nat)) AV.bad = itI (d.getD (y.toNat * (1 : Nat)) default)) : Tri Try.prog (cxN 100 0) (zqr Try.f3 13) ([(3, tsl none t), (5, isl (some l.length) l), (7, .box (d.map itI)), (8, it i), (9, bb false), (10, it y)]) .normal ([(3, tsl none t), (5, isl (some (l.length)) l), (7, AV.box (List.map itI d)), (8, it i), (9, bb false), (10, it y), (11, AV.box [ub (u8.wrap y), it (d.getD (y.toNat * (1 : Nat)) default)])]) :=
 ev h3 [.c, .c, .c, .b true, .c, .b true, .r (itI (d.getD (y.toNat * (1 : Nat)) default)), .c, .c, .c, .c] (allp g0 (allp g1 (allp g2 zqa)))
theorem ywv {env : Env} (h : ∀ p ∈ env, zqf p.2 = none) (r : Nat) : topOnly r env := by
 intro t y hl hy
 have : ∃ p ∈ env, p.2 = y := by
  clear hy
  induction env with
  | nil => cases hl
  | cons p env ih =>
   obtain ⟨s, z⟩ := p
   unfold Lf.lk at hl
   split at hl
   ·injection hl with hl; exact ⟨(s, z), List.mem_cons_self, hl⟩
   ·obtain ⟨q, hq, e⟩ := ih (fun q hq => h q (by simp [hq])) hl
    exact ⟨q, by simp [hq], e⟩
 obtain ⟨p, hp, rfl⟩ := this
 rw [h p hp] at hy; cases hy
theorem OpsR.grabAt {P : Program} {cx : Cx} {ops : Array Oper} {env : Env} {r : Nat} {p : Path} {xr : AV} {e : TypeId} {cap : Option Nat} {xs : List AV} (hr : lk env r = some xr) (hrt : zqu xr = true) (hg : getC xr p = some (.sl .own e cap xs)) (htop : topOnly r env) : OpsR P cx ops [] env (· = (r, setC xr p (share (.sl .own e cap xs))) :: env) := by
 intro ρ F B0 w0 S0 ds a w Q rest hag hQ
 obtain ⟨hd, hN, n, S, Os, hn, hgr, hst⟩ := hag
 obtain ⟨n', S', Os', vr, u, m, hn', hst', hS, _, _, _, _, _, hS'⟩ := hst.shareAt (p := p) hr hrt hg (.inr htop)
 refine hQ _ rfl a w ⟨hd, hN, n', S', Os', by omega, ⟨fun b hb => hS b (hgr.1 b hb), fun b hb => ?_⟩, hst'⟩
 rcases hS' b hb with h | h
 ·exact hgr.2 b h
 ·exact .inr (hst.lt r b h).1
theorem Le.viewS {P : Program} {e : TypeId} {cap : Option Nat} {xs : List AV} : Le P (.sl .fresh e cap xs) (view (.sl .fresh e cap xs)) := by
 intro B0 w S n v O hr
 obtain ⟨n, rfl⟩ := hr.pos
 have hz : O = fun _ => 0 := by
  obtain ⟨A, k, hv, hk, hm, hc, hu, hz, hx⟩ := hr
  exact funext hz
 subst hz
 exact Rv.remode (fun _ => .any) (fun m => by simp) (fun m h => by simp at h) (fun b h => h) (n + 1) 12 v _ _ (fun b hb => by simp at hb) hr
theorem yo7 (c : Option Nat) (x : List Lx) : view (xsl c x) = xsl c x := by
 show AV.sl .any 67 c ((x.map Lx.enc).map (mapE (remode (fun _ => .any) 11))) = _
 rw [List.map_map]
 congr 1
 refine List.map_congr_left fun L _ => ?_
 show AV.agg [ub L.y, bb L.b, bb L.w, .sl .any 5 L.ct ((L.th.map ubE).map (mapE (remode (fun _ => .any) 10))), .sl .any 5 L.cp ((L.pa.map ubE).map (mapE (remode (fun _ => .any) 10)))] = Lx.enc L
 rw [List.map_map, List.map_map]; rfl
abbrev tSh (m : List (List Lp)) : AV := share (tGW m)
theorem yo8 (m : List (List Lp)) (h : ∀ r ∈ m, ∀ L ∈ r, L.ct = none ∧ L.cp = none) : view (tSh m) = tsl none (tb m) := by
 show AV.sl .any 37 none (((m.map gOW).map (mapE (remode zqx 11))).map (mapE (remode (fun _ => .any) 11))) = .sl .any 37 none ((tb m).map Rw.enc)
 unfold tb
 rw [List.map_map, List.map_map, List.map_map]
 congr 1
 refine List.map_congr_left fun l hl => ?_
 show AV.sl .any 45 none (((l.map Lp.encG).map (mapE (remode zqx 10))).map (mapE (remode (fun _ => .any) 10))) = .sl .any 45 none (l.map Lp.enc)
 rw [List.map_map, List.map_map]
 congr 1
 refine List.map_congr_left fun K hK => ?_
 obtain ⟨h1, h2⟩ := h l hl K hK
 show AV.agg [ub K.b, bb K.w, .sl .any 36 none (((K.th.map Idd.enc).map (mapE (remode zqx 9))).map (mapE (remode (fun _ => .any) 9))), .sl .any 56 none (((K.pa.map Ps.enc).map (mapE (remode zqx 9))).map (mapE (remode (fun _ => .any) 9)))] = AV.agg [ub K.b, bb K.w, isl K.ct K.th, sl K.cp K.pa]
 rw [List.map_map, List.map_map, List.map_map, List.map_map, h1, h2]; rfl
section
variable (c : Option Nat) (x : List Lx) (m : List (List Lp)) (md : List Idd) (h : HOf c x m md)
include h
omit h in
theorem ymh (md : List Idd) : share (iow none md) = .sl .fresh 36 none (md.map Idd.enc) := by
 show AV.sl .fresh 36 none ((md.map Idd.enc).map (mapE (remode zqx 11))) = _
 rw [List.map_map]; rfl
end
section
variable (t : List Rw) (md l : List Idd) (h : HOr t l)
include h
end
section
variable (m : List Int) (t : List Rw)
variable (l : List Idd) (i : Nat) (hL : OkL t) (hM : OkM m t) (h6 : t.length = 6)
abbrev loE (d : List Int) (i : Nat) : Env := [(3, tsl none t), (5, isl (some l.length) l), (7, .box (d.map itI)), (8, it i)]
include hL hM h6
end
section
variable (m : List Int) (t : List Rw) (l : List Idd) (i : Nat) (hL : OkL t) (hM : OkM m t) (h6 : t.length = 6)
include hM in
theorem lo13t (j : Nat) (hj : j < 6) : Tri Try.prog (cxN 100 0) (zqr Try.f3 13) (loE t l (0 :: m) i ++ [(9, bb false), (10, it (j + 1 : Nat))]) .normal (loE t l (0 :: m) i ++ [(9, bb false), (10, it (j + 1 : Nat)), (11, .box [ub (j + 1 : Nat), it (m.getD j default)])]) := by
 have hd : (0 :: m).length = 7 := by rw [List.length_cons, hM.len]
 have hy : ((j + 1 : Nat) : Int) < 7 := by omega
 have h := yy9 t l (0 :: m) i ((j + 1 : Nat) : Int) hd (zlb ⟨by omega, hy, by decide⟩) (zlb ⟨rfl, by rw [zla, hd]; show _ * 1 < 7; omega⟩) (yum (by rw [hd]; omega))
 rw [yfx (by omega) (by omega), show Int.toNat ((j + 1 : Nat) : Int) * 1 = j + 1 by omega, List.getD_cons_succ] at h
 exact h
include hL hM h6
end
section
variable (m : List Int) (t : List Rw) (l : List Idd) (i : Nat) (hL : OkL t) (hM : OkM m t) (h6 : t.length = 6)
include hL hM h6
end
theorem ykd {α : Type} : ∀ (m : List (List α)) (k : Nat) (r : α), k < m.length → ((m.set k (m.getD k default ++ [r])).map List.length).sum = (m.map List.length).sum + 1
 | [], k, r, h => by simp at h
 | a :: m, 0, r, h => by simp; omega
 | a :: m, k + 1, r, h => by
  have := ykd m k r (by simpa using h)
  simp only [List.set_cons_succ, List.map_cons, List.sum_cons, List.getD_cons_succ]
  omega
theorem ysd (m : List (List Lp)) : cntV (tb m) = (m.map List.length).sum := by
 unfold cntV tb
 rw [List.map_map]; rfl
theorem yku : ∀ (x : List Lx) (S : OfS), S.m.length = 6 → (S.m.map List.length).sum = S.md.length → ((x.foldl yax S).m.map List.length).sum = (x.foldl yax S).md.length ∧ (x.foldl yax S).md.length = S.md.length + x.length
 | [], S, h6, h => ⟨h, rfl⟩
 | L :: x, S, h6, h => by
  have h1 : (yax S L).m.length = 6 := by unfold yax; rw [zlx]; exact h6
  have h2 : (yax S L).md.length = S.md.length + 1 := by unfold yax; rw [zlg]; rfl
  have h3 : ((yax S L).m.map List.length).sum = (yax S L).md.length := by
   rw [h2, ← h]; exact ykd S.m _ _ (by rw [h6]; exact Nat.mod_lt _ (by omega))
  obtain ⟨k1, k2⟩ := yku x (yax S L) h1 h3
  exact ⟨k1, by rw [List.foldl_cons, k2, h2, List.length_cons]; omega⟩
theorem cnt_of (x : List Lx) : cntV (tb (ofS x).m) = (ofS x).md.length ∧ (ofS x).md.length ≤ 60 := by
 obtain ⟨h1, h2⟩ := yku (x.take 60) S0 rfl rfl
 refine ⟨by rw [ysd]; exact h1, ?_⟩
 show (List.foldl yax S0 (x.take 60)).md.length ≤ 60
 rw [h2, zlh]
 show 0 + _ ≤ 60
 omega
theorem ync {α : Type} : ∀ {m : List (List α)} {r : List α}, r ∈ m → r.length ≤ (m.map List.length).sum
 | a :: m, r, h => by
  rw [List.map_cons, List.sum_cons]
  rcases List.mem_cons.1 h with rfl | h
  ·omega
  ·have := ync h; omega
theorem ys3 {m : List (List Lp)} {r : List Lp} (h : r ∈ m) : r.length ≤ cntV (tb m) := by
 rw [ysd]; exact ync h
end Tst
end

section
open Go Go.Lf Go.Proofs
namespace Tst
def ltI (a b : Idd) : Prop := a.y < b.y ∨ (a.y = b.y ∧ a.n < b.n)
theorem yon {a b : Idd} : cmpP a b < 0 ↔ ltI a b := by
 unfold cmpP orV cmpI ltI
 by_cases h1 : a.y < b.y
 ·simp [h1]
 ·by_cases h2 : b.y < a.y
  ·simp [h1, h2]; omega
  ·have e : a.y = b.y := by omega
   by_cases h3 : a.n < b.n
   ·simp [e, h3]
   ·by_cases h4 : b.n < a.n <;> simp [e, h3, h4]
theorem ltI.trans {a b c : Idd} (h : ltI a b) (g : ltI b c) : ltI a c := by
 unfold ltI at *; omega
theorem ltI.irr {a : Idd} : ¬ ltI a a := by unfold ltI; omega
theorem ltI.tri {a b : Idd} (h : ¬ ltI a b) (g : ¬ ltI b a) : a = b := by
 unfold ltI at *
 obtain ⟨y, n⟩ := a
 obtain ⟨z, m⟩ := b
 simp only at h g
 have h1 : y = z := by omega
 have h2 : n = m := by omega
 rw [h1, h2]
abbrev leI (a b : Idd) : Prop := ¬ ltI b a
theorem leI.trans {a b c : Idd} (h : leI a b) (g : leI b c) : leI a c := by
 unfold leI ltI at *; omega
theorem ltI.le {a b : Idd} (h : ltI a b) : leI a b := by
 unfold leI ltI at *; omega
theorem yjo : ∀ (a : List Idd) (z x : Idd) (c : List Idd), yhn (a ++ z :: x :: c) a.length = a ++ x :: z :: c
 | [], z, x, c => rfl
 | b :: a, z, x, c => by
  have h := yjo a z x c
  unfold yhn at h ⊢
  simp only [List.cons_append, List.length_cons, List.set_cons_succ, List.getD_cons_succ] at h ⊢
  rw [h]
theorem ykj (a : List Idd) (x : Idd) (c : List Idd) : (a ++ x :: c).getD a.length default = x := by
 rw [zld, List.getElem?_append_right (zly _), Nat.sub_self]; rfl
theorem yf6 : ∀ (k : Nat) (a : List Idd) (x : Idd) (c : List Idd), a.length = k → ∃ a1 a2, a = a1 ++ a2 ∧ insF (a ++ x :: c) k = a1 ++ x :: (a2 ++ c) ∧ (∀ z ∈ a2, ltI x z) ∧ (a1 = [] ∨ ∃ b z, a1 = b ++ [z] ∧ leI z x)
 | 0, a, x, c, h => by
  have e : a = [] := zli h
  subst e
  exact ⟨[], [], rfl, rfl, by simp, .inl rfl⟩
 | k + 1, a, x, c, h => by
  rcases List.eq_nil_or_concat a with e | ⟨b, z, e⟩
  ·subst e; cases h
  ·rw [List.concat_eq_append] at e
   subst e
   rw [zlg] at h
   have hb : b.length = k := by simpa using h
   have e1 : (b ++ [z] ++ x :: c).getD (k + 1) default = x := by
    have := ykj (b ++ [z]) x c
    rwa [zlg, hb] at this
   have e2 : (b ++ [z] ++ x :: c).getD k default = z := by
    have := ykj b z (x :: c)
    rw [hb] at this
    rw [zlp]; exact this
   rw [insF, e1, e2]
   by_cases hc : cmpP x z < 0
   ·rw [if_pos hc, show b ++ [z] ++ x :: c = b ++ z :: x :: c by simp, ← hb, yjo, hb]
    obtain ⟨a1, a2, h1, h2, h3, h4⟩ := yf6 k b x (z :: c) hb
    refine ⟨a1, a2 ++ [z], by rw [h1]; simp, by rw [h2]; simp, ?_, h4⟩
    intro w hw
    rcases List.mem_append.1 hw with hw | hw
    ·exact h3 w hw
    ·rw [zlv] at hw; subst hw; exact yon.1 hc
   ·rw [if_neg hc]
    exact ⟨b ++ [z], [], by simp, by simp, by simp, .inr ⟨b, z, rfl, fun h => hc (yon.2 h)⟩⟩
theorem yud (a : List Idd) (x : Idd) (c : List Idd) (h : a.Pairwise leI) : ∃ b, insF (a ++ x :: c) a.length = b ++ c ∧ b.length = a.length + 1 ∧ b.Pairwise leI ∧ b.Perm (a ++ [x]) := by
 obtain ⟨a1, a2, h1, h2, h3, h4⟩ := yf6 a.length a x c rfl
 refine ⟨a1 ++ x :: a2, by rw [h2]; simp, by rw [h1]; simp; omega, ?_, ?_⟩
 ·rw [h1] at h
  obtain ⟨p1, p2, p3⟩ := List.pairwise_append.1 h
  refine List.pairwise_append.2 ⟨p1, List.pairwise_cons.2 ⟨fun z hz => (h3 z hz).le, p2⟩, ?_⟩
  intro u hu w hw
  rcases List.mem_cons.1 hw with rfl | hw
  ·rcases h4 with rfl | ⟨b, z, rfl, hz⟩
   ·simp at hu
   ·rcases List.mem_append.1 hu with hu | hu
    ·obtain ⟨_, _, q3⟩ := List.pairwise_append.1 p1
     exact (q3 u hu z (by simp)).trans hz
    ·rw [zlv] at hu; subst hu; exact hz
  ·exact p3 u hu w hw
 ·rw [h1, zlp]
  exact (List.perm_append_singleton x a2).symm.append_left a1
theorem yjs : ∀ (c a : List Idd), a.Pairwise leI → (yfn c.length (a ++ c) a.length).Pairwise leI ∧ (yfn c.length (a ++ c) a.length).Perm (a ++ c)
 | [], a, h => by simpa [yfn] using h
 | x :: c, a, h => by
  obtain ⟨b, h1, h2, h3, h4⟩ := yud a x c h
  rw [List.length_cons, yfn, h1, ← h2]
  obtain ⟨q1, q2⟩ := yjs c b h3
  refine ⟨q1, q2.trans ?_⟩
  have := h4.append_right c
  rwa [zlp, List.singleton_append] at this
theorem yuc (l : List Idd) : (insV l).Pairwise leI ∧ (insV l).Perm l := by
 cases l with
 | nil => exact ⟨.nil, .nil⟩
 | cons x c => exact yjs c [x] (List.pairwise_singleton _ _)
theorem yjc : ∀ (l : List Idd) (z : Idd), z ∈ ddI l ↔ z ∈ l
 | [], z => by simp [ddI]
 | [x], z => by simp [ddI]
 | x :: y :: r, z => by
  have ih := yjc (y :: r) z
  rw [ddI]
  by_cases h : x = y
  ·rw [if_pos h, ih, h]; simp
  ·rw [if_neg h, List.mem_cons, ih, List.mem_cons (l := y :: r)]
theorem yoi : ∀ (l : List Idd), l.Pairwise leI → (ddI l).Pairwise ltI
 | [], _ => .nil
 | [x], _ => List.pairwise_singleton _ _
 | x :: y :: r, h => by
  obtain ⟨h1, h2⟩ := List.pairwise_cons.1 h
  have ih := yoi (y :: r) h2
  rw [ddI]
  by_cases e : x = y
  ·rw [if_pos e]; exact ih
  ·rw [if_neg e]
   refine List.pairwise_cons.2 ⟨fun z hz => ?_, ih⟩
   have hxy : ltI x y := Classical.byContradiction fun hn => e (ltI.tri hn (h1 y (by simp)))
   rcases List.mem_cons.1 ((yjc _ _).1 hz) with rfl | hz
   ·exact hxy
   ·have := (List.pairwise_cons.1 h2).1 z hz
    unfold leI ltI at *; omega
theorem yrd : ∀ (a b : List Idd), a.Pairwise ltI → b.Pairwise ltI → (∀ x, x ∈ a ↔ x ∈ b) → a = b
 | [], [], _, _, _ => rfl
 | [], x :: b, _, _, h => by have := (h x).2 (by simp); simp at this
 | x :: a, [], _, _, h => by have := (h x).1 (by simp); simp at this
 | x :: a, y :: b, ha, hb, h => by
  obtain ⟨a1, a2⟩ := List.pairwise_cons.1 ha
  obtain ⟨b1, b2⟩ := List.pairwise_cons.1 hb
  have e : x = y := by
   rcases List.mem_cons.1 ((h x).1 (by simp)) with e | e
   ·exact e
   ·rcases List.mem_cons.1 ((h y).2 (by simp)) with f | f
    ·exact f.symm
    ·exact absurd ((b1 x e).trans (a1 y f)) ltI.irr
  subst e
  refine congrArg (x :: ·) (yrd a b a2 b2 fun z => ?_)
  constructor
  ·intro hz
   rcases List.mem_cons.1 ((h z).1 (by simp [hz])) with e | e
   ·subst e; exact absurd (a1 z hz) ltI.irr
   ·exact e
  ·intro hz
   rcases List.mem_cons.1 ((h z).2 (by simp [hz])) with e | e
   ·subst e; exact absurd (b1 z hz) ltI.irr
   ·exact e
def yb0 (t : List Rw) (k : Idd → Bool) (j : Nat) : List Idd := (List.range j).flatMap fun y => ((List.range (t.getD y default).l.length).map fun n : Nat => (⟨((y + 1 : Nat) : Int), (n : Int)⟩ : Idd)).filter k
theorem ylv (t : List Rw) (k : Idd → Bool) (j : Nat) : (yb0 t k j).Pairwise ltI := by
 unfold yb0
 rw [List.pairwise_flatMap]
 constructor
 ·intro y _
  refine List.Pairwise.filter _ ?_
  rw [List.pairwise_map]
  refine List.Pairwise.imp ?_ List.pairwise_lt_range
  intro a b h
  exact .inr ⟨rfl, by show (a : Int) < b; omega⟩
 ·refine List.Pairwise.imp ?_ List.pairwise_lt_range
  intro a b h x hx y hy
  obtain ⟨n, _, rfl⟩ := List.mem_map.1 (List.mem_filter.1 hx).1
  obtain ⟨m, _, rfl⟩ := List.mem_map.1 (List.mem_filter.1 hy).1
  exact .inl (by show ((a + 1 : Nat) : Int) < ((b + 1 : Nat) : Int); omega)
theorem ylw (t : List Rw) (k : Idd → Bool) (p : Idd) : p ∈ yb0 t k t.length ↔ hasV t p.y p.n = true ∧ k p = true := by
 unfold yb0
 rw [List.mem_flatMap]
 constructor
 ·rintro ⟨y, hy, hp⟩
  obtain ⟨h1, h2⟩ := List.mem_filter.1 hp
  obtain ⟨n, hn, rfl⟩ := List.mem_map.1 h1
  rw [List.mem_range] at hy hn
  refine ⟨?_, h2⟩
  unfold hasV
  rw [show (((y + 1 : Nat) : Int) - 1).toNat = y by omega]
  simp only [zlo, decide_eq_true_eq]; omega
 ·rintro ⟨h1, h2⟩
  obtain ⟨a, b, c, d⟩ := ybm h1
  refine ⟨(p.y - 1).toNat, List.mem_range.2 (by omega), List.mem_filter.2 ⟨List.mem_map.2 ⟨p.n.toNat, List.mem_range.2 (by omega), ?_⟩, h2⟩⟩
  obtain ⟨y, n⟩ := p
  simp only at a c ⊢
  rw [show (((y - 1).toNat + 1 : Nat) : Int) = y by omega, show ((n.toNat : Nat) : Int) = n by omega]
theorem ym9 (t : List Rw) (l : List Idd) (k : Idd → Bool) (h : ∀ p, (hasV t p.y p.n = true ∧ k p = true) ↔ p ∈ l) : ddI (insV l) = yb0 t k t.length := by
 obtain ⟨h1, h2⟩ := yuc l
 refine yrd _ _ (yoi _ h1) (ylv t k _) fun p => ?_
 rw [yjc, h2.mem_iff, ylw, h p]
set_option maxHeartbeats 0
def HNd (t : List Rw) (y n : Int) (g : List Idd) : Prop := PureC Try.prog 19 [tsl none t, idE y n] (isl (some g.length) g)
theorem uHNd {t : List Rw} {y n : Int} {g : List Idd} (h : HNd t y n g) : PureC Try.prog 19 [tsl none t, idE y n] (isl (some g.length) g) := h
def HAb (t : List Rw) (y n ay an : Int) (b : Bool) : Prop := PureC Try.prog 20 [tsl none t, idE y n] (.tup [idE ay an, bb b])
theorem uHAb {t : List Rw} {y n ay an : Int} {b : Bool} (h : HAb t y n ay an b) : PureC Try.prog 20 [tsl none t, idE y n] (.tup [idE ay an, bb b]) := h
def HFi (t : List Rw) (y n : Int) (L : Lp) (e : Int) : Prop := PureC Try.prog 16 [tsl none t, idE y n] (.tup [L.enc, it e])
theorem uHFi {t : List Rw} {y n : Int} {L : Lp} {e : Int} (h : HFi t y n L e) : PureC Try.prog 16 [tsl none t, idE y n] (.tup [.agg [ub L.b, bb L.w, isl L.ct L.th, sl L.cp L.pa], it e]) := h
theorem nl0_0 (c : Option Nat) (x : List Lx) (y n : Int) : Tri Try.prog (cxN 223 0) (zqr Try.f5 0) ([(0, xsl c x), (1, idE y n)]) .normal ([(0, xsl c x), (3, .box [ub y, it n])]) :=
 ev h5 [.c, .c] zqa
abbrev nA (t : List Rw) (md g : List Idd) (y n ay an : Int) (b : Bool) (L : Lp) (e : Int) : Env := [(3, .box [ub y, it n]), (5, tsl none t), (6, isl none md), (7, isl (some g.length) g), (8, .box [ub ay, it an]), (9, bb b), (10, lpB L), (11, it e), (12, iow none [])]
section
variable (t : List Rw) (md g : List Idd) (y n ay an : Int) (b : Bool) (L M : Lp) (e : Int) (s : Bool) (oy on k i j : Int)
theorem nl2_0 (y n : Int) (h : HNd t y n g) : Tri Try.prog (cxN 223 0) (zqr Try.f5 2) ([(3, .box [ub y, it n]), (5, tsl none t), (6, isl none md)]) .normal ([(3, .box [ub y, it n]), (5, tsl none t), (6, isl none md), (7, isl (some g.length) g)]) :=
 ev h5 [.c, .c, .r (tsl none t), .r (isl (some g.length) g), .c, .c, .c] (allp (zqg .any none t) (allp (p := PureC Try.prog 19 [tsl none t, AV.agg [ub y, it n]] (isl (some g.length) g)) (by apply uHNd<;>first|assumption|rfl|(simp at *<;>omega)) zqa))
theorem nl3_0 (h : HAb t y n ay an b) : Tri Try.prog (cxN 223 0) (zqr Try.f5 3) ([(3, .box [ub y, it n]), (5, tsl none t), (6, isl none md), (7, isl (some g.length) g)]) .normal ([(3, .box [ub y, it n]), (5, tsl none t), (6, isl none md), (7, isl (some g.length) g), (8, .box [ub ay, it an]), (9, bb b), (33, AV.tup [AV.agg [ub ay, it an], bb b])]) :=
 ev h5 [.c, .c, .r (tsl none t), .r (AV.tup [AV.agg [ub ay, it an], bb b]), .c, .c, .c, .c, .c, .c, .c, .c] (allp (zqg .any none t) (allp (p := PureC Try.prog 20 [tsl none t, AV.agg [ub y, it n]] (AV.tup [AV.agg [ub ay, it an], bb b])) (by apply uHAb<;>first|assumption|rfl|(simp at *<;>omega)) zqa))
theorem nl4_0 (h : HFi t y n L e) (g0 : AV.agg [ub (Lp.b L), bb (Lp.w L), AV.sl .any 36 (Lp.ct L) (List.map (mapE (remode zqx (10 : Nat))) (List.map Idd.enc (Lp.th L))), AV.sl .any 56 (Lp.cp L) (List.map (mapE (remode zqx (10 : Nat))) (List.map Ps.enc (Lp.pa L)))] = AV.agg [ub (Lp.b L), bb (Lp.w L), isl (Lp.ct L) (Lp.th L), sl (Lp.cp L) (Lp.pa L)]) : Tri Try.prog (cxN 223 0) (zqr Try.f5 4) ([(3, .box [ub y, it n]), (5, tsl none t), (6, isl none md), (7, isl (some g.length) g), (8, .box [ub ay, it an]), (9, bb b)]) .normal ([(3, .box [ub y, it n]), (5, tsl none t), (6, isl none md), (7, isl (some g.length) g), (8, .box [ub ay, it an]), (9, bb b), (10, lpB L), (11, it e), (39, AV.tup [AV.agg [ub (Lp.b L), bb (Lp.w L), AV.sl .any 36 (Lp.ct L) (List.map (mapE (remode zqx (10 : Nat))) (List.map Idd.enc (Lp.th L))), AV.sl .any 56 (Lp.cp L) (List.map (mapE (remode zqx (10 : Nat))) (List.map Ps.enc (Lp.pa L)))], it e])]) :=
 ev h5 [.c, .c, .r (tsl none t), .r (AV.tup [AV.agg [ub (Lp.b L), bb (Lp.w L), isl (Lp.ct L) (Lp.th L), sl (Lp.cp L) (Lp.pa L)], it e]), .c, .c, .c, .r (AV.agg [ub (Lp.b L), bb (Lp.w L), isl (Lp.ct L) (Lp.th L), sl (Lp.cp L) (Lp.pa L)]), .c, .c, .c, .c] (allp (zqg .any none t) (allp (p := PureC Try.prog 16 [tsl none t, AV.agg [ub y, it n]] (AV.tup [AV.agg [ub (Lp.b L), bb (Lp.w L), isl (Lp.ct L) (Lp.th L), sl (Lp.cp L) (Lp.pa L)], it e])) (by apply uHFi<;>first|assumption|rfl|(simp at *<;>omega)) (allp g0 zqa)))
theorem nl5_0 : Tri Try.prog (cxN 223 0) (zqr Try.f5 5) ([(3, .box [ub y, it n]), (5, tsl none t), (6, isl none md), (7, isl (some g.length) g), (8, .box [ub ay, it an]), (9, bb b), (10, lpB L), (11, it e)]) .normal ([(3, .box [ub y, it n]), (5, tsl none t), (6, isl none md), (7, isl (some g.length) g), (8, .box [ub ay, it an]), (9, bb b), (10, lpB L), (11, it e), (12, zqw)]) :=
 ev h5 [.c] zqa
theorem nl6_0 : Tri Try.prog (cxN 223 0) (zqr Try.f5 6) ((nA t md g y n ay an b L e) ) .normal ((nA t md g y n ay an b L e ++ [(13, bb false)])) :=
 ev h5 [.c] zqa
theorem nl7_0 : Tri Try.prog (cxN 223 0) (zqr Try.f5 7) ((nA t md g y n ay an b L e ++ [(13, bb false)]) ) .normal ((nA t md g y n ay an b L e ++ [(13, bb false), (14, .box [ub 0, it 0])])) :=
 ev h5 [.c] zqa
theorem nl8_0 : Tri Try.prog (cxN 223 0) (zqr Try.f5 8) ((nA t md g y n ay an b L e ++ [(13, bb false), (14, .box [ub 0, it 0])]) ) .normal ((nA t md g y n ay an b L e ++ [(13, bb false), (14, .box [ub 0, it 0]), (15, it 0)])) :=
 ev h5 [.c] zqa
theorem nl9_0 : Tri Try.prog (cxN 223 0) (zqr Try.f5 9) ((nA t md g y n ay an b L e ++ [(13, bb false), (14, .box [ub 0, it 0]), (15, it 0)]) ) .normal ((nA t md g y n ay an b L e ++ [(13, bb false), (14, .box [ub 0, it 0]), (15, it 0), (16, it 0)])) :=
 ev h5 [.c] zqa
theorem yry : Tri Try.prog (cxN 223 0) (zqr Try.f5 10) ((nA t md g y n ay an b L e ++ [(13, bb s), (14, .box [ub oy, it on]), (15, it k), (16, it i)]) ) .normal ((nA t md g y n ay an b L e ++ [(13, bb s), (14, .box [ub oy, it on]), (15, it k), (16, it i), (48, bb (decide (i < ((md.map Idd.enc).length : Int))))])) :=
 ev h5 [.c, .c, .c, .c] zqa
theorem yyk : Tri Try.prog (cxN 223 0) (zqr Try.f5 11) ((nA t md g y n ay an b L e ++ [(13, bb s), (14, .box [ub oy, it on]), (15, it k), (16, it i)]) ) .normal ((nA t md g y n ay an b L e ++ [(13, bb s), (14, .box [ub oy, it on]), (15, it k), (16, it (i64.wrap (i + (1 : Int))))])) :=
 ev h5 [.c, .c, .c] zqa
theorem ytp : Tri Try.prog (cxN 223 0) (zqr Try.f5 12) ((nA t md g y n ay an b L e ++ [(13, bb true), (14, .box [ub oy, it on]), (15, it k), (16, it i)]) ) .normal ((nA t md g y n ay an b L e ++ [(13, bb true), (14, .box [ub oy, it on]), (15, it k), (16, it i)])) :=
 ev h5 [.c, .c, .c, .c, .c, .c, .c, .c, .c, .c, .c, .c, .c, .c, .c, .c, .c] zqa
theorem ytq (g0 : decide ((0 : Int) ≤ i ∧ i < ((md.map Idd.enc).length : Int)) = true) (g1 : (md.map Idd.enc).getD (i.toNat) AV.bad = Idd.enc (md.getD (i.toNat) default)) : Tri Try.prog (cxN 223 0) (zqr Try.f5 12) ((nA t md g y n ay an b L e ++ [(13, bb false), (14, .box [ub oy, it on]), (15, it k), (16, it i)]) ) .normal ((nA t md g y n ay an b L e ++ [(13, bb (Idd.y (md.getD (i.toNat) default) == y && Idd.n (md.getD (i.toNat) default) == n)), (14, .box [ub oy, it on]), (15, it k), (16, it i)])) :=
 ev h5 [.c, .c, .c, .c, .c, .c, .c, .b true, .r (Idd.enc (md.getD (i.toNat) default)), .c, .c, .c, .c, .c, .c, .c, .c, .c, .c] (allp g0 (allp g1 zqa))
theorem yyj (g0 : decide ((0 : Int) ≤ i ∧ i < ((md.map Idd.enc).length : Int)) = true) (g1 : (md.map Idd.enc).getD (i.toNat) AV.bad = Idd.enc (md.getD (i.toNat) default)) (g2 : decide ((0 : Int) ≤ u8.wrap (Idd.y (md.getD (i.toNat) default) - (1 : Int)) ∧ u8.wrap (Idd.y (md.getD (i.toNat) default) - (1 : Int)) < ((t.map Rw.enc).length : Int)) = true) (g3 : (t.map Rw.enc).getD ((u8.wrap (Idd.y (md.getD (i.toNat) default) - (1 : Int))).toNat) AV.bad = Rw.enc (t.getD ((u8.wrap (Idd.y (md.getD (i.toNat) default) - (1 : Int))).toNat) default)) (g4 : decide ((0 : Int) ≤ Idd.n (md.getD (i.toNat) default) ∧ Idd.n (md.getD (i.toNat) default) < (↑(List.length (List.map Lp.enc (Rw.l (t.getD ((u8.wrap (Idd.y (md.getD (i.toNat) default) - (1 : Int))).toNat) default)))) : Int)) = true) (g5 : List.getD (List.map Lp.enc (Rw.l (t.getD ((u8.wrap (Idd.y (md.getD (i.toNat) default) - (1 : Int))).toNat) default))) ((Idd.n (md.getD (i.toNat) default)).toNat) AV.bad = Lp.enc (List.getD (Rw.l (t.getD ((u8.wrap (Idd.y (md.getD (i.toNat) default) - (1 : Int))).toNat) default)) ((Idd.n (md.getD (i.toNat) default)).toNat) default)) : Tri Try.prog (cxN 223 0) (zqr Try.f5 13) ((nA t md g y n ay an b L e ++ [(13, bb s), (14, .box [ub oy, it on]), (15, it k), (16, it i)]) ) .normal ((nA t md g y n ay an b L e ++ [(13, bb s), (14, .box [ub oy, it on]), (15, it k), (16, it i), (17, .box [ub (Lp.b (List.getD (Rw.l (t.getD ((u8.wrap (Idd.y (md.getD (i.toNat) default) - (1 : Int))).toNat) default)) ((Idd.n (md.getD (i.toNat) default)).toNat) default)), bb (Lp.w (List.getD (Rw.l (t.getD ((u8.wrap (Idd.y (md.getD (i.toNat) default) - (1 : Int))).toNat) default)) ((Idd.n (md.getD (i.toNat) default)).toNat) default)), isl (Lp.ct (List.getD (Rw.l (t.getD ((u8.wrap (Idd.y (md.getD (i.toNat) default) - (1 : Int))).toNat) default)) ((Idd.n (md.getD (i.toNat) default)).toNat) default)) (Lp.th (List.getD (Rw.l (t.getD ((u8.wrap (Idd.y (md.getD (i.toNat) default) - (1 : Int))).toNat) default)) ((Idd.n (md.getD (i.toNat) default)).toNat) default)), sl (Lp.cp (List.getD (Rw.l (t.getD ((u8.wrap (Idd.y (md.getD (i.toNat) default) - (1 : Int))).toNat) default)) ((Idd.n (md.getD (i.toNat) default)).toNat) default)) (Lp.pa (List.getD (Rw.l (t.getD ((u8.wrap (Idd.y (md.getD (i.toNat) default) - (1 : Int))).toNat) default)) ((Idd.n (md.getD (i.toNat) default)).toNat) default))])])) :=
 ev h5 [.c, .c, .c, .b true, .r (Idd.enc (md.getD (i.toNat) default)), .c, .c, .c, .c, .b true, .r (Rw.enc (t.getD ((u8.wrap (Idd.y (md.getD (i.toNat) default) - (1 : Int))).toNat) default)), .c, .c, .c, .c, .b true, .r (Idd.enc (md.getD (i.toNat) default)), .c, .c, .c, .b true, .r (Lp.enc (List.getD (Rw.l (t.getD ((u8.wrap (Idd.y (md.getD (i.toNat) default) - (1 : Int))).toNat) default)) ((Idd.n (md.getD (i.toNat) default)).toNat) default)), .c, .c, .c, .c, .c] (allp g0 (allp g1 (allp g2 (allp g3 (allp g0 (allp g1 (allp g4 (allp g5 zqa))))))))
theorem yyi : Tri Try.prog (cxN 223 0) (zqr Try.f5 14) ((nA t md g y n ay an b L e ++ [(13, bb s), (14, .box [ub oy, it on]), (15, it k), (16, it i), (17, lpB M)]) ) .normal ((nA t md g y n ay an b L e ++ [(13, bb s), (14, .box [ub oy, it on]), (15, it k), (16, it i), (17, lpB M), (18, it 0)])) :=
 ev h5 [.c] zqa
theorem yrx : Tri Try.prog (cxN 223 0) (zqr Try.f5 15) ((nA t md g y n ay an b L e ++ [(13, bb s), (14, .box [ub oy, it on]), (15, it k), (16, it i), (17, lpB M), (18, it j)]) ) .normal ((nA t md g y n ay an b L e ++ [(13, bb s), (14, .box [ub oy, it on]), (15, it k), (16, it i), (17, lpB M), (18, it j), (80, bb (decide (j < (↑(((Lp.th M).map Idd.enc).length) : Int))))])) :=
 ev h5 [.c, .c, .c, .c, .c, .c, .c] zqa
theorem yrw : Tri Try.prog (cxN 223 0) (zqr Try.f5 16) ((nA t md g y n ay an b L e ++ [(13, bb s), (14, .box [ub oy, it on]), (15, it k), (16, it i), (17, lpB M), (18, it j)]) ) .normal ((nA t md g y n ay an b L e ++ [(13, bb s), (14, .box [ub oy, it on]), (15, it k), (16, it i), (17, lpB M), (18, it (i64.wrap (j + (1 : Int))))])) :=
 ev h5 [.c, .c, .c] zqa
theorem yyh (g0 : decide ((0 : Int) ≤ j ∧ j < (↑(((Lp.th M).map Idd.enc).length) : Int)) = true) (g1 : ((Lp.th M).map Idd.enc).getD (j.toNat) AV.bad = Idd.enc ((Lp.th M).getD (j.toNat) default)) : Tri Try.prog (cxN 223 0) (zqr Try.f5 17) ((nA t md g y n ay an b L e ++ [(13, bb s), (14, .box [ub oy, it on]), (15, it k), (16, it i), (17, lpB M), (18, it j)]) ) .normal ((nA t md g y n ay an b L e ++ [(13, bb s), (14, .box [ub oy, it on]), (15, it k), (16, it i), (17, lpB M), (18, it j), (89, bb (Idd.y ((Lp.th M).getD (j.toNat) default) == y && Idd.n ((Lp.th M).getD (j.toNat) default) == n))])) :=
 ev h5 [.c, .c, .c, .c, .c, .b true, .r (Idd.enc ((Lp.th M).getD (j.toNat) default)), .c, .c, .c, .c] (allp g0 (allp g1 zqa))
theorem yyg (g0 : decide ((0 : Int) ≤ i ∧ i < ((md.map Idd.enc).length : Int)) = true) (g1 : (md.map Idd.enc).getD (i.toNat) AV.bad = Idd.enc (md.getD (i.toNat) default)) : Tri Try.prog (cxN 223 0) (zqr Try.f5 18) ((nA t md g y n ay an b L e ++ [(13, bb s), (14, .box [ub oy, it on]), (15, it k), (16, it i), (17, lpB M), (18, it j)]) ) .normal ((nA t md g y n ay an b L e ++ [(13, bb s), (14, .box [ub (Idd.y (md.getD (i.toNat) default)), it (Idd.n (md.getD (i.toNat) default))]), (15, it k), (16, it i), (17, lpB M), (18, it j)])) :=
 ev h5 [.c, .c, .b true, .r (Idd.enc (md.getD (i.toNat) default)), .c, .c, .c] (allp g0 (allp g1 zqa))
theorem yyf : Tri Try.prog (cxN 223 0) (zqr Try.f5 19) ((nA t md g y n ay an b L e ++ [(13, bb s), (14, .box [ub oy, it on]), (15, it k), (16, it i), (17, lpB M), (18, it j)]) ) .normal ((nA t md g y n ay an b L e ++ [(13, bb s), (14, .box [ub oy, it on]), (15, it (i64.wrap (k + (1 : Int)))), (16, it i), (17, lpB M), (18, it j)])) :=
 ev h5 [.c, .c, .c] zqa
end
theorem yxz : zqc Try.f5 0 = .seq (.seq (zqr Try.f5 10) (.cond (.tmp 48) .skip (.exit 0))) (.seq (.block 1 (.seq (zqr Try.f5 12) (.seq (zqr Try.f5 13) (.seq (zqr Try.f5 14) (.block 2 (.loop (zqc Try.f5 1))))))) (zqr Try.f5 11)) := by kernel_rfl
theorem yxy : zqc Try.f5 1 = .seq (.seq (zqr Try.f5 15) (.cond (.tmp 80) .skip (.exit 2))) (.seq (.block 3 (.seq (zqr Try.f5 17) (.cond (.tmp 89) (.seq (zqr Try.f5 18) (zqr Try.f5 19)) .skip))) (zqr Try.f5 16)) := by kernel_rfl
def stq (p r : Idd) (s : Idd × Int) (q : Idd) : Idd × Int := if q = p then (r, s.2 + 1) else s
def nSt (t : List Rw) (p : Idd) (s : Bool × Idd × Int) (r : Idd) : Bool × Idd × Int := (s.1 || decide (r = p), (atV t r.y r.n).th.foldl (stq p r) s.2)
theorem stq1 (p r : Idd) (s : Idd × Int) (q : Idd) (h : 0 ≤ s.2) : 0 ≤ (stq p r s q).2 ∧ (stq p r s q).2 ≤ s.2 + 1 := by
 unfold stq; split
 ·show 0 ≤ s.2 + 1 ∧ s.2 + 1 ≤ s.2 + 1; omega
 ·omega
theorem yrc (p r : Idd) : ∀ (l : List Idd) (s : Idd × Int), 0 ≤ s.2 → 0 ≤ (l.foldl (stq p r) s).2 ∧ (l.foldl (stq p r) s).2 ≤ s.2 + l.length
 | [], s, h => by simp; exact h
 | q :: l, s, h => by
  have h1 := stq1 p r s q h
  have := yrc p r l _ h1.1
  rw [List.foldl_cons, List.length_cons]
  omega
theorem yoh (a b : Idd) : (a.y == b.y && a.n == b.n) = decide (a = b) := by
 obtain ⟨y, n⟩ := a
 obtain ⟨z, m⟩ := b
 simp only [Idd.mk.injEq, Bool.decide_and]
 rfl
section
variable (t : List Rw) (md g : List Idd) (p : Idd) (ay an : Int) (b : Bool) (L : Lp) (e : Int)
abbrev nlC : Env := [(3, .box [ub p.y, it p.n]), (5, tsl none t), (6, isl none md), (7, isl (some g.length) g), (8, .box [ub ay, it an]), (9, bb b), (10, lpB L), (11, it e), (12, iow none [])]
abbrev nlO (s : Bool × Idd × Int) (i : Int) : Env := nlC t md g p ay an b L e ++ [(13, bb s.1), (14, .box [ub s.2.1.y, it s.2.1.n]), (15, it s.2.2), (16, it i)]
abbrev nlI (s : Bool × Idd × Int) (i : Int) (M : Lp) (j : Int) : Env := nlO t md g p ay an b L e s i ++ [(17, lpB M), (18, it j)]
theorem yti (s : Bool × Idd × Int) (i : Int) (M : Lp) (j : Nat) (h : M.th.length ≤ j) : Tri Try.prog (cxN 223 0) (zqc Try.f5 1) (nlI t md g p ay an b L e s i M j) (.exit 2) (nlO t md g p ay an b L e s i) := by
 rw [yxy]
 have h1 := yrx t md g p.y p.n ay an b L M e s.1 s.2.1.y s.2.1.n s.2.2 i j
 rw [show decide ((j : Int) < ((M.th.map Idd.enc).length : Nat)) = false by rw [zlc]; rw [zla]; omega] at h1
 exact .seqX (.seq h1 (.cond (b := false) rfl (.after (kp [3, 5, 6, 7, 8, 9, 10, 11, 12, 13, 14, 15, 16]) .exit))) (by simp)
theorem yp2 (s : Bool × Idd × Int) (i : Nat) (M : Lp) (j : Nat) (h : j < M.th.length) (hi : i < md.length) (h0 : 0 ≤ s.2.2) (h1 : s.2.2 < 2 ^ 61) (hj : j < 2 ^ 61) : Tri Try.prog (cxN 223 0) (zqc Try.f5 1) (nlI t md g p ay an b L e s i M j) .normal (nlI t md g p ay an b L e (s.1, stq p (md.getD i default) s.2 (M.th.getD j default)) i M (j + 1 : Nat)) := by
 rw [yxy]
 have h15 := yrx t md g p.y p.n ay an b L M e s.1 s.2.1.y s.2.1.n s.2.2 i j
 rw [show decide ((j : Int) < ((M.th.map Idd.enc).length : Nat)) = true by rw [zlb]; rw [zla]; omega] at h15
 have h17 := yyh t md g p.y p.n ay an b L M e s.1 s.2.1.y s.2.1.n s.2.2 i j (zlb (by rw [zla]; omega)) (yag (by rw [zlf]; exact h))
 rw [zlf, yoh] at h17
 refine .seq (.seq h15 (.cond (b := true) rfl (.after (kp [3, 5, 6, 7, 8, 9, 10, 11, 12, 13, 14, 15, 16, 17, 18]) .skip))) ?_
 by_cases hc : M.th.getD j default = p
 ·have h18 := yyg t md g p.y p.n ay an b L M e s.1 s.2.1.y s.2.1.n s.2.2 i j (zlb (by rw [zla]; omega)) (yag (by rw [zlf]; exact hi))
  rw [zlf] at h18
  have h19 := yyf t md g p.y p.n ay an b L M e s.1 (md.getD i default).y (md.getD i default).n s.2.2 i j
  have h16 := yrw t md g p.y p.n ay an b L M e s.1 (md.getD i default).y (md.getD i default).n (s.2.2 + 1) i j
  rw [yad (by omega) (by omega)] at h19
  rw [up64 (by omega)] at h16
  rw [zlb hc] at h17
  rw [show stq p (md.getD i default) s.2 (M.th.getD j default) = (md.getD i default, s.2.2 + 1) from if_pos hc]
  exact .seq (.block (ex := .normal) (.seq h17 (.cond (b := true) rfl (.weak (kp [3, 5, 6, 7, 8, 9, 10, 11, 12, 13, 14, 15, 16, 17, 18]) (.seq h18 h19)))) (.inr ⟨by simp, rfl⟩)) h16
 ·have h16 := yrw t md g p.y p.n ay an b L M e s.1 s.2.1.y s.2.1.n s.2.2 i j
  rw [up64 (by omega)] at h16
  rw [zlc hc] at h17
  rw [show stq p (md.getD i default) s.2 (M.th.getD j default) = s.2 from if_neg hc]
  exact .seq (.block (ex := .normal) (.seq h17 (.cond (b := false) rfl (.after (kp [3, 5, 6, 7, 8, 9, 10, 11, 12, 13, 14, 15, 16, 17, 18]) .skip))) (.inr ⟨by simp, rfl⟩)) h16
theorem ykb (i : Nat) (M : Lp) (hi : i < md.length) (hM : M.th.length < 2 ^ 60) : ∀ (k j : Nat) (s : Bool × Idd × Int), j + k = M.th.length → 0 ≤ s.2.2 → s.2.2 < 2 ^ 60 + j → Rnd Try.prog (cxN 223 0) (zqc Try.f5 1) (k + 1) (nlI t md g p ay an b L e s i M j) (.exit 2) (nlO t md g p ay an b L e (s.1, (M.th.drop j).foldl (stq p (md.getD i default)) s.2) i)
 | 0, j, s, h, h0, h1 => by
  rw [zln (by omega)]
  exact .exit (yti t md g p ay an b L e s i M j (by omega)) (by simp)
 | k + 1, j, s, h, h0, h1 => by
  have hj : j < M.th.length := by omega
  have hs := stq1 p (md.getD i default) s.2 (M.th.getD j default) h0
  rw [ya3 _ hj default, List.foldl_cons]
  exact .step (yp2 t md g p ay an b L e s i M j hj hi h0 (by omega) (by omega)) (ykb i M hi hM k (j + 1) (s.1, stq p (md.getD i default) s.2 (M.th.getD j default)) (by omega) hs.1 (by have := hs.2; show (stq p (md.getD i default) s.2 (M.th.getD j default)).2 < _; omega))
theorem yth (s : Bool × Idd × Int) (i : Nat) (h : md.length ≤ i) : Tri Try.prog (cxN 223 0) (zqc Try.f5 0) (nlO t md g p ay an b L e s i) (.exit 0) (nlC t md g p ay an b L e ++ [(13, bb s.1), (14, .box [ub s.2.1.y, it s.2.1.n]), (15, it s.2.2)]) := by
 rw [yxz]
 have h1 := yry t md g p.y p.n ay an b L e s.1 s.2.1.y s.2.1.n s.2.2 i
 rw [show decide ((i : Int) < ((md.map Idd.enc).length : Nat)) = false by rw [zlc]; rw [zla]; omega] at h1
 exact .seqX (.seq h1 (.cond (b := false) rfl (.after (kp [3, 5, 6, 7, 8, 9, 10, 11, 12, 13, 14, 15]) .exit))) (by simp)
theorem yp1 (s : Bool × Idd × Int) (i : Nat) (hi : i < md.length) (hil : md.length < 2 ^ 60) (hh : hasV t (md.getD i default).y (md.getD i default).n = true) (hy : t.length ≤ 255) (hM : (atV t (md.getD i default).y (md.getD i default).n).th.length < 2 ^ 60) (h0 : 0 ≤ s.2.2) (h1 : s.2.2 < 2 ^ 60) : Tri Try.prog (cxN 223 0) (zqc Try.f5 0) (nlO t md g p ay an b L e s i) .normal (nlO t md g p ay an b L e (nSt t p s (md.getD i default)) (i + 1 : Nat)) := by
 rw [yxz]
 have h10 := yry t md g p.y p.n ay an b L e s.1 s.2.1.y s.2.1.n s.2.2 i
 rw [show decide ((i : Int) < ((md.map Idd.enc).length : Nat)) = true by rw [zlb]; rw [zla]; omega] at h10
 obtain ⟨a, c, d, f⟩ := ybm hh
 have w := yes a (by omega)
 have hg := yag (l := md) (i := i) hi
 have hdec : decide ((0 : Int) ≤ (i : Int) ∧ (i : Int) < ((md.map Idd.enc).length : Nat)) = true := zlb (by rw [zla]; omega)
 have h12 : Tri Try.prog (cxN 223 0) (zqr Try.f5 12) (nlO t md g p ay an b L e s i) .normal (nlO t md g p ay an b L e (s.1 || decide (md.getD i default = p), s.2) i) := by
  obtain ⟨s1, s2⟩ := s
  cases s1 with
  | true => exact ytp t md g p.y p.n ay an b L e s2.1.y s2.1.n s2.2 i
  | false =>
   have := ytq t md g p.y p.n ay an b L e s2.1.y s2.1.n s2.2 i hdec (by rw [zlf]; exact hg)
   rw [zlf, yoh] at this
   exact this
 have h13 := yyj t md g p.y p.n ay an b L e (s.1 || decide (md.getD i default = p)) s.2.1.y s.2.1.n s.2.2 i hdec (by rw [zlf]; exact hg)
 rw [zlf, w] at h13
 have h13' := h13 (zlb (by rw [zla]; omega)) (ybx (by omega)) (zlb (by rw [zla]; omega)) (ydv (by omega))
 have hI := (ykb t md g p ay an b L e i (atV t (md.getD i default).y (md.getD i default).n) hi hM _ 0 (s.1 || decide (md.getD i default = p), s.2) (Nat.zero_add _) h0 (by show s.2.2 < _; omega)).loop
 rw [List.drop_zero] at hI
 have h11 := yyk t md g p.y p.n ay an b L e (nSt t p s (md.getD i default)).1 (nSt t p s (md.getD i default)).2.1.y (nSt t p s (md.getD i default)).2.1.n (nSt t p s (md.getD i default)).2.2 i
 rw [up64 (by omega)] at h11
 have h14 := yyi t md g p.y p.n ay an b L (atV t (md.getD i default).y (md.getD i default).n) e (s.1 || decide (md.getD i default = p)) s.2.1.y s.2.1.n s.2.2 i
 exact .seq (.seq h10 (.cond (b := true) rfl (.after (kp [3, 5, 6, 7, 8, 9, 10, 11, 12, 13, 14, 15, 16]) .skip))) (.seq (.block (ex := .normal) (.seq h12 (.seq h13' (.seq h14 (.block (ex := .exit 2) hI (.inl ⟨rfl, rfl⟩))))) (.inr ⟨by simp, rfl⟩)) h11)
theorem yka (hl : md.length < 2 ^ 50) (hh : ∀ q ∈ md, hasV t q.y q.n = true ∧ (atV t q.y q.n).th.length ≤ 4) (hy : t.length ≤ 255) : ∀ (k i : Nat) (s : Bool × Idd × Int), i + k = md.length → 0 ≤ s.2.2 → s.2.2 ≤ 4 * i → Rnd Try.prog (cxN 223 0) (zqc Try.f5 0) (k + 1) (nlO t md g p ay an b L e s i) (.exit 0) (nlC t md g p ay an b L e ++ [(13, bb ((md.drop i).foldl (nSt t p) s).1), (14, .box [ub ((md.drop i).foldl (nSt t p) s).2.1.y, it ((md.drop i).foldl (nSt t p) s).2.1.n]), (15, it ((md.drop i).foldl (nSt t p) s).2.2)])
 | 0, i, s, h, h0, h1 => by
  rw [zln (by omega)]
  exact .exit (yth t md g p ay an b L e s i (by omega)) (by simp)
 | k + 1, i, s, h, h0, h1 => by
  have hi : i < md.length := by omega
  have hm : md.getD i default ∈ md := by rw [zld, zle hi]; exact zlu hi
  obtain ⟨a, c⟩ := hh _ hm
  have hs := yrc p (md.getD i default) (atV t (md.getD i default).y (md.getD i default).n).th s.2 h0
  rw [ya3 _ hi default, List.foldl_cons]
  exact .step (yp1 t md g p ay an b L e s i hi (by omega) a hy (by omega) h0 (by omega)) (yka hl hh hy k (i + 1) (nSt t p s (md.getD i default)) (by omega) hs.1 (by have := hs.2; show (List.foldl (stq p (md.getD i default)) s.2 _).2 ≤ _; omega))
end
theorem ytn (t : List Rw) (md g : List Idd) (y n ay an : Int) (b : Bool) (L : Lp) (oy on k : Int) (g0 : decide ((1 : Int) < k) = false) (g1 : (b != (k == (1 : Int))) = false) (g2 : (!(ay == oy && an == on)) = false) : Tri Try.prog (cxN 223 0) (zqr Try.f5 20) ([(3, .box [ub y, it n]), (5, tsl none t), (7, isl (some g.length) g), (8, .box [ub ay, it an]), (9, bb b), (10, lpB L), (11, it 0), (12, iow none []), (13, bb true), (14, .box [ub oy, it on]), (15, it k)]) .normal ([(3, .box [ub y, it n]), (5, tsl none t), (7, isl (some g.length) g), (10, lpB L), (12, iow none []), (13, bb true), (127, bb false)]) :=
 ev h5 [.c, .c, .c, .b false, .c, .b false, .c, .b false, .c, .b false, .c, .b false, .c, .c, .b false, .c, .b false, .c, .b false, .c, .b false, .c, .c, .b false, .c, .b false, .c, .b false, .c, .b false, .c, .b false, .c, .c, .c, .c, .c, .c, .c, .c, .c, .c, .c, .c, .c, .c, .c, .c, .c, .c, .c, .c, .c, .c, .c, .c] (allp g0 (allp g0 (allp g0 (allp g0 (allp g0 (allp g1 (allp g1 (allp g1 (allp g1 (allp g2 (allp g2 (allp g2 (allp g2 (allp g2 zqa))))))))))))))
theorem yto (t : List Rw) (md : List Idd) (y n ay an : Int) (b : Bool) (L : Lp) (oy on k : Int) (g0 : decide ((1 : Int) < k) = false) (g1 : (b != (k == (1 : Int))) = false) (g2 : (!(ay == oy && an == on)) = false) : Tri Try.prog (cxN 223 0) (zqr Try.f5 20) ([(3, .box [ub y, it n]), (5, tsl none t), (7, isl (some 0) []), (8, .box [ub ay, it an]), (9, bb b), (10, lpB L), (11, it 7), (12, iow none []), (13, bb false), (14, .box [ub oy, it on]), (15, it k)]) .normal ([(3, .box [ub y, it n]), (5, tsl none t), (7, isl (some 0) []), (10, lpB L), (12, iow none []), (13, bb false), (127, bb (((List.map Idd.enc []).length : Int) != (0 : Int)))]) :=
 ev h5 [.c, .c, .c, .b false, .c, .b false, .c, .b false, .c, .b false, .c, .b false, .c, .c, .b false, .c, .b false, .c, .b false, .c, .b false, .c, .c, .b false, .c, .b false, .c, .b false, .c, .b false, .c, .b false, .c, .c, .c, .c, .c, .c, .c, .c, .c, .c, .c, .c, .c, .c, .c, .c, .c, .c, .c, .c, .c, .c, .c, .c, .c, .c, .c, .c] (allp g0 (allp g0 (allp g0 (allp g0 (allp g0 (allp g1 (allp g1 (allp g1 (allp g1 (allp g2 (allp g2 (allp g2 (allp g2 (allp g2 zqa))))))))))))))
theorem yrv (t : List Rw) (g : List Idd) (y n : Int) (L : Lp) (s : Bool) : Tri Try.prog (cxN 223 0) (zqr Try.f5 22) ([(3, .box [ub y, it n]), (5, tsl none t), (7, isl (some g.length) g), (10, lpB L), (12, iow none []), (13, bb s)]) .normal ([(3, .box [ub y, it n]), (5, tsl none t), (7, isl (some g.length) g), (10, lpB L), (12, iow none []), (129, bb !s)]) :=
 ev h5 [.c, .c] zqa
theorem yye (t : List Rw) : Tri Try.prog (cxN 223 0) (zqr Try.f5 23) ([(5, tsl none t)]) .normal ([(4, bb true)]) :=
 ev h5 [.r (bb true), .c, .c, .c] (allp (p := PureC Try.prog 14 [] (bb true)) (by apply yni<;>first|assumption|rfl|(simp at *<;>omega)) zqa)
abbrev nB (t : List Rw) (g w : List Idd) (y n : Int) (L : Lp) : Env := [(3, .box [ub y, it n]), (5, tsl none t), (7, isl (some g.length) g), (10, lpB L), (12, iow none w)]
section
variable (t : List Rw) (g w : List Idd) (y n : Int) (L : Lp) (z v u : Int) (s : Bool) (j : Int)
theorem yyd : Tri Try.prog (cxN 223 0) (zqr Try.f5 24) ((nB t g w y n L) ) .normal ((nB t g w y n L ++ [(19, it 1)])) :=
 ev h5 [.c] zqa
theorem yru : Tri Try.prog (cxN 223 0) (zqr Try.f5 25) ((nB t g w y n L ++ [(19, it z)]) ) .normal ((nB t g w y n L ++ [(19, it z), (132, bb (decide (z ≤ (6 : Int))))])) :=
 ev h5 [.c, .c] zqa
theorem yyc : Tri Try.prog (cxN 223 0) (zqr Try.f5 26) ((nB t g w y n L ++ [(19, it z)]) ) .normal ((nB t g w y n L ++ [(19, it (i64.wrap (z + (1 : Int))))])) :=
 ev h5 [.c, .c, .c] zqa
theorem yyb : Tri Try.prog (cxN 223 0) (zqr Try.f5 27) ((nB t g w y n L ++ [(19, it z)]) ) .normal ((nB t g w y n L ++ [(19, it z), (20, it 0)])) :=
 ev h5 [.c] zqa
theorem yrt (g0 : decide ((0 : Int) ≤ i64.wrap (z - (1 : Int)) ∧ i64.wrap (z - (1 : Int)) < ((t.map Rw.enc).length : Int)) = true) (g1 : (t.map Rw.enc).getD ((i64.wrap (z - (1 : Int))).toNat) AV.bad = Rw.enc (t.getD ((i64.wrap (z - (1 : Int))).toNat) default)) : Tri Try.prog (cxN 223 0) (zqr Try.f5 28) ((nB t g w y n L ++ [(19, it z), (20, it v)]) ) .normal ((nB t g w y n L ++ [(19, it z), (20, it v), (142, bb (decide (v < (↑(List.length (List.map Lp.enc (Rw.l (t.getD ((i64.wrap (z - (1 : Int))).toNat) default)))) : Int))))])) :=
 ev h5 [.c, .c, .c, .c, .b true, .r (Rw.enc (t.getD ((i64.wrap (z - (1 : Int))).toNat) default)), .c, .c, .c, .c] (allp g0 (allp g1 zqa))
theorem yya : Tri Try.prog (cxN 223 0) (zqr Try.f5 29) ((nB t g w y n L ++ [(19, it z), (20, it v)]) ) .normal ((nB t g w y n L ++ [(19, it z), (20, it (i64.wrap (v + (1 : Int))))])) :=
 ev h5 [.c, .c, .c] zqa
theorem yx9 : Tri Try.prog (cxN 223 0) (zqr Try.f5 30) ((nB t g w y n L ++ [(19, it z), (20, it v)]) ) .normal ((nB t g w y n L ++ [(19, it z), (20, it v), (21, .box [ub (u8.wrap z), it v])])) :=
 ev h5 [.c, .c, .c, .c, .c, .c] zqa
theorem yx8 (g0 : (u == y) = true) : Tri Try.prog (cxN 223 0) (zqr Try.f5 31) ((nB t g w y n L ++ [(19, it z), (20, it v), (21, .box [ub u, it v])]) ) .normal ((nB t g w y n L ++ [(19, it z), (20, it v), (21, .box [ub u, it v]), (22, bb (v == i64.wrap (n - (1 : Int))))])) :=
 ev h5 [.c, .c, .c, .c, .c, .c, .c, .c, .c, .c, .b true, .c, .b true, .c, .b true, .c, .c, .c, .b true, .c, .b true, .c, .b true, .c, .c] (allp g0 (allp g0 (allp g0 (allp g0 (allp g0 (allp g0 zqa))))))
theorem yx7 (g0 : (u == y) = false) : Tri Try.prog (cxN 223 0) (zqr Try.f5 31) ((nB t g w y n L ++ [(19, it z), (20, it v), (21, .box [ub u, it v])]) ) .normal ((nB t g w y n L ++ [(19, it z), (20, it v), (21, .box [ub u, it v]), (22, bb false)])) :=
 ev h5 [.c, .c, .c, .c, .c, .c, .c, .c, .c, .c, .b false, .c, .b false, .c, .b false, .c, .b false, .c, .b false, .c, .b false, .c, .c] (allp g0 (allp g0 (allp g0 (allp g0 (allp g0 (allp g0 zqa))))))
theorem yx6 : Tri Try.prog (cxN 223 0) (zqr Try.f5 32) ((nB t g w y n L ++ [(19, it z), (20, it v), (21, .box [ub u, it v]), (22, bb s)]) ) .normal ((nB t g w y n L ++ [(19, it z), (20, it v), (21, .box [ub u, it v]), (22, bb s), (23, it 0)])) :=
 ev h5 [.c] zqa
theorem yrs : Tri Try.prog (cxN 223 0) (zqr Try.f5 33) ((nB t g w y n L ++ [(19, it z), (20, it v), (21, .box [ub u, it v]), (22, bb s), (23, it j)]) ) .normal ((nB t g w y n L ++ [(19, it z), (20, it v), (21, .box [ub u, it v]), (22, bb s), (23, it j), (165, bb (decide (j < (↑(((Lp.th L).map Idd.enc).length) : Int))))])) :=
 ev h5 [.c, .c, .c, .c, .c, .c, .c] zqa
theorem yx5 : Tri Try.prog (cxN 223 0) (zqr Try.f5 34) ((nB t g w y n L ++ [(19, it z), (20, it v), (21, .box [ub u, it v]), (22, bb s), (23, it j)]) ) .normal ((nB t g w y n L ++ [(19, it z), (20, it v), (21, .box [ub u, it v]), (22, bb s), (23, it (i64.wrap (j + (1 : Int))))])) :=
 ev h5 [.c, .c, .c] zqa
theorem ytl : Tri Try.prog (cxN 223 0) (zqr Try.f5 35) ((nB t g w y n L ++ [(19, it z), (20, it v), (21, .box [ub u, it v]), (22, bb true), (23, it j)]) ) .normal ((nB t g w y n L ++ [(19, it z), (20, it v), (21, .box [ub u, it v]), (22, bb true), (23, it j)])) :=
 ev h5 [.c, .c, .c, .c, .c, .c, .c, .c, .c, .c, .c, .c, .c, .c, .c, .c, .c, .c, .c] zqa
theorem ytm (g0 : decide ((0 : Int) ≤ j ∧ j < (↑(((Lp.th L).map Idd.enc).length) : Int)) = true) (g1 : ((Lp.th L).map Idd.enc).getD (j.toNat) AV.bad = Idd.enc ((Lp.th L).getD (j.toNat) default)) : Tri Try.prog (cxN 223 0) (zqr Try.f5 35) ((nB t g w y n L ++ [(19, it z), (20, it v), (21, .box [ub u, it v]), (22, bb false), (23, it j)]) ) .normal ((nB t g w y n L ++ [(19, it z), (20, it v), (21, .box [ub u, it v]), (22, bb (Idd.y ((Lp.th L).getD (j.toNat) default) == u && Idd.n ((Lp.th L).getD (j.toNat) default) == v)), (23, it j)])) :=
 ev h5 [.c, .c, .c, .c, .c, .c, .c, .c, .c, .c, .c, .b true, .r (Idd.enc ((Lp.th L).getD (j.toNat) default)), .c, .c, .c, .c, .c, .c, .c, .c, .c, .c] (allp g0 (allp g1 zqa))
theorem yx4 : Tri Try.prog (cxN 223 0) (zqr Try.f5 36) ((nB t g w y n L ++ [(19, it z), (20, it v), (21, .box [ub u, it v]), (22, bb s)]) ) .normal ((nB t g w y n L ++ [(19, it z), (20, it v), (21, .box [ub u, it v]), (22, bb s), (24, it 0)])) :=
 ev h5 [.c] zqa
theorem yrr : Tri Try.prog (cxN 223 0) (zqr Try.f5 37) ((nB t g w y n L ++ [(19, it z), (20, it v), (21, .box [ub u, it v]), (22, bb s), (24, it j)]) ) .normal ((nB t g w y n L ++ [(19, it z), (20, it v), (21, .box [ub u, it v]), (22, bb s), (24, it j), (182, bb (decide (j < (↑(((Lp.pa L).map Ps.enc).length) : Int))))])) :=
 ev h5 [.c, .c, .c, .c, .c, .c, .c] zqa
theorem yx3 : Tri Try.prog (cxN 223 0) (zqr Try.f5 38) ((nB t g w y n L ++ [(19, it z), (20, it v), (21, .box [ub u, it v]), (22, bb s), (24, it j)]) ) .normal ((nB t g w y n L ++ [(19, it z), (20, it v), (21, .box [ub u, it v]), (22, bb s), (24, it (i64.wrap (j + (1 : Int))))])) :=
 ev h5 [.c, .c, .c] zqa
theorem ytj : Tri Try.prog (cxN 223 0) (zqr Try.f5 39) ((nB t g w y n L ++ [(19, it z), (20, it v), (21, .box [ub u, it v]), (22, bb true), (24, it j)]) ) .normal ((nB t g w y n L ++ [(19, it z), (20, it v), (21, .box [ub u, it v]), (22, bb true), (24, it j)])) :=
 ev h5 [.c, .c, .c, .c, .c, .c, .c, .c, .c, .c, .c, .c, .c, .c, .c, .c, .c, .c, .c, .c, .c] zqa
theorem ytk (g0 : decide ((0 : Int) ≤ j ∧ j < (↑(((Lp.pa L).map Ps.enc).length) : Int)) = true) (g1 : ((Lp.pa L).map Ps.enc).getD (j.toNat) AV.bad = Ps.enc ((Lp.pa L).getD (j.toNat) default)) : Tri Try.prog (cxN 223 0) (zqr Try.f5 39) ((nB t g w y n L ++ [(19, it z), (20, it v), (21, .box [ub u, it v]), (22, bb false), (24, it j)]) ) .normal ((nB t g w y n L ++ [(19, it z), (20, it v), (21, .box [ub u, it v]), (22, bb (Ps.y ((Lp.pa L).getD (j.toNat) default) == u && Ps.n ((Lp.pa L).getD (j.toNat) default) == v)), (24, it j)])) :=
 ev h5 [.c, .c, .c, .c, .c, .c, .c, .c, .c, .c, .c, .b true, .r (Ps.enc ((Lp.pa L).getD (j.toNat) default)), .c, .c, .c, .c, .c, .c, .c, .c, .c, .c, .c, .c] (allp g0 (allp g1 zqa))
theorem yx2 : Tri Try.prog (cxN 223 0) (zqr Try.f5 40) ((nB t g w y n L ++ [(19, it z), (20, it v), (21, .box [ub u, it v]), (22, bb s)]) ) .normal ((nB t g w y n L ++ [(19, it z), (20, it v), (21, .box [ub u, it v]), (196, bb s)])) :=
 ev h5 [.c] zqa
theorem yx1 (g0 : AV.sl .own 36 (some 1) [AV.agg [ub u, it v]] = iow (some (1 : Nat)) [{ y := u, n := v }]) (g1 : decide ((w.map Idd.enc).length + (List.map Idd.enc [{ y := u, n := v }]).length ≤ (4294967296 : Nat)) = true) (g2 : AV.sl .own 36 none (List.map Idd.enc w ++ List.map Idd.enc [{ y := u, n := v }]) = iow none (w ++ [{ y := u, n := v }])) : Tri Try.prog (cxN 223 0) (zqr Try.f5 41) ((nB t g w y n L ++ [(19, it z), (20, it v), (21, .box [ub u, it v])]) ) .normal ([(3, .box [ub y, it n]), (5, tsl none t), (7, isl (some g.length) g), (10, lpB L), (12, iow none (w ++ [{ y := u, n := v }])), (19, it z), (20, it v)]) :=
 ev h5 [.c, .c, .r (iow (some (1 : Nat)) [{ y := u, n := v }]), .c, .b true, .r (iow none (w ++ [{ y := u, n := v }])), .c] (allp g0 (allp g1 (allp g2 zqa)))
end
theorem yx0 (g : List Idd) (hg : g.length ≤ 100000) (g0 : (ByteArray.toList (txV g { data := #[] }) == ByteArray.toList (txV g { data := #[] })) = true) (g1 : (((g.map Idd.enc).length : Int) == ((g.map Idd.enc).length : Int)) = true) (g2 : ((g.length : Int) == ((g.map Idd.enc).length : Int)) = true) : Tri Try.prog (cxN 223 0) (zqr Try.f5 42) ([(7, isl (some g.length) g), (12, iow none g)]) .normal ([(4, bb true)]) :=
 ev h5 [.c, .r (isl (some g.length) g), .r (AV.atom (Value.string (txV g { data := #[] }))), .c, .c, .c, .r (isl none g), .r (AV.atom (Value.string (txV g { data := #[] }))), .c, .c, .c, .c, .b true, .c, .b true, .c, .b true, .c, .b true, .c, .b true, .c, .b true, .c, .c, .b true, .c, .b true, .c, .b true, .c, .b true, .c, .b true, .c, .b true, .c, .c, .b true, .r (bb true), .c, .c, .b true, .c, .c] (allp (zrb .any (some (g.length)) g) (allp (p := PureC Try.prog 21 [isl (some g.length) g] (AV.atom (Value.string (txV g { data := #[] })))) (by apply yhl<;>first|assumption|rfl|(simp at *<;>omega)) (allp (p := view (iow none g) = isl none g) (by first | exact zra _ _ _ | exact zrb _ _ _ | rfl | exact zqg _ _ _ | exact zqk _ _ _ | exact zqh _ _ _ _ _ _ _ _ | exact zrd _ | exact zrc _ _ _ _ _ _ _ _ _) (allp (p := PureC Try.prog 21 [isl none g] (AV.atom (Value.string (txV g { data := #[] })))) (by apply yhl<;>first|assumption|rfl|(simp at *<;>omega)) (allp g0 (allp g0 (allp g0 (allp g0 (allp g0 (allp g0 (allp g1 (allp g1 (allp g1 (allp g1 (allp g1 (allp g1 (allp g2 (allp (p := PureC Try.prog 14 [] (bb true)) (by apply yni<;>first|assumption|rfl|(simp at *<;>omega)) (allp g2 zqa)))))))))))))))))))
theorem yxx : zqc Try.f5 2 = .seq (.seq (zqr Try.f5 25) (.cond (.tmp 132) .skip (.exit 4))) (.seq (.block 5 (.seq (zqr Try.f5 27) (.block 6 (.loop (zqc Try.f5 3))))) (zqr Try.f5 26)) := by kernel_rfl
theorem yxw : zqc Try.f5 3 = .seq (.seq (zqr Try.f5 28) (.cond (.tmp 142) .skip (.exit 6))) (.seq (.block 7 (.seq (zqr Try.f5 30) (.seq (zqr Try.f5 31) (.seq (.seq (zqr Try.f5 32) (.block 8 (.loop (zqc Try.f5 4)))) (.seq (.seq (zqr Try.f5 36) (.block 10 (.loop (zqc Try.f5 5)))) (.seq (zqr Try.f5 40) (.cond (.tmp 196) (zqr Try.f5 41) .skip))))))) (zqr Try.f5 29)) := by kernel_rfl
theorem yxv : zqc Try.f5 4 = .seq (.seq (zqr Try.f5 33) (.cond (.tmp 165) .skip (.exit 8))) (.seq (.block 9 (zqr Try.f5 35)) (zqr Try.f5 34)) := by kernel_rfl
theorem yxu : zqc Try.f5 5 = .seq (.seq (zqr Try.f5 37) (.cond (.tmp 182) .skip (.exit 10))) (.seq (.block 11 (zqr Try.f5 39)) (zqr Try.f5 38)) := by kernel_rfl
def kn1 (p q : Idd) : Bool := q.y == p.y && q.n == p.n - 1
def knT (q r : Idd) : Bool := r.y == q.y && r.n == q.n
def knP (q : Idd) (r : Ps) : Bool := r.y == q.y && r.n == q.n
def knV (p : Idd) (L : Lp) (q : Idd) : Bool := kn1 p q || L.th.any (knT q) || L.pa.any (knP q)
section
variable (t : List Rw) (g : List Idd) (p : Idd) (L : Lp) (hth : L.th.length < 2 ^ 60) (hpa : L.pa.length < 2 ^ 60)
abbrev nW (w : List Idd) : Env := [(3, .box [ub p.y, it p.n]), (5, tsl none t), (7, isl (some g.length) g), (10, lpB L), (12, iow none w)]
abbrev nX (w : List Idd) (z v : Int) (q : Idd) (s : Bool) : Env := nW t g p L w ++ [(19, it z), (20, it v), (21, .box [ub q.y, it v]), (22, bb s)]
include hth in
theorem yj7 (w : List Idd) (z : Int) (q : Idd) : ∀ (k j : Nat) (s : Bool), j + k = L.th.length → Rnd Try.prog (cxN 223 0) (zqc Try.f5 4) (k + 1) (nX t g p L w z q.n q s ++ [(23, it j)]) (.exit 8) (nX t g p L w z q.n q (s || (L.th.drop j).any (knT q)))
 | 0, j, s, h => by
  rw [zln (by omega), List.any_nil, Bool.or_false, yxv]
  have h1 := yrs t g w p.y p.n L z q.n q.y s j
  rw [show decide ((j : Int) < ((L.th.map Idd.enc).length : Nat)) = false by rw [zlc]; rw [zla]; omega] at h1
  exact .exit (.seqX (.seq h1 (.cond (b := false) rfl (.after (kp [3, 5, 7, 10, 12, 19, 20, 21, 22]) .exit))) (by simp)) (by simp)
 | k + 1, j, s, h => by
  have hj : j < L.th.length := by omega
  rw [ya3 _ hj default, List.any_cons, ← Bool.or_assoc]
  refine .step ?_ (yj7 w z q k (j + 1) (s || knT q (L.th.getD j default)) (by omega))
  rw [yxv]
  have h1 := yrs t g w p.y p.n L z q.n q.y s j
  rw [show decide ((j : Int) < ((L.th.map Idd.enc).length : Nat)) = true by rw [zlb]; rw [zla]; omega] at h1
  have h35 : Tri Try.prog (cxN 223 0) (zqr Try.f5 35) (nX t g p L w z q.n q s ++ [(23, it j)]) .normal (nX t g p L w z q.n q (s || knT q (L.th.getD j default)) ++ [(23, it j)]) := by
   cases s with
   | true => exact ytl t g w p.y p.n L z q.n q.y j
   | false =>
    have := ytm t g w p.y p.n L z q.n q.y j (zlb (by rw [zla]; omega)) (yag (by rw [zlf]; exact hj))
    rw [zlf] at this
    exact this
  have h34 := yx5 t g w p.y p.n L z q.n q.y (s || knT q (L.th.getD j default)) j
  rw [up64 (by omega)] at h34
  exact .seq (.seq h1 (.cond (b := true) rfl (.after (kp [3, 5, 7, 10, 12, 19, 20, 21, 22, 23]) .skip))) (.seq (.block (ex := .normal) h35 (.inr ⟨by simp, rfl⟩)) h34)
include hpa in
theorem yj9 (w : List Idd) (z : Int) (q : Idd) : ∀ (k j : Nat) (s : Bool), j + k = L.pa.length → Rnd Try.prog (cxN 223 0) (zqc Try.f5 5) (k + 1) (nX t g p L w z q.n q s ++ [(24, it j)]) (.exit 10) (nX t g p L w z q.n q (s || (L.pa.drop j).any (knP q)))
 | 0, j, s, h => by
  rw [zln (by omega), List.any_nil, Bool.or_false, yxu]
  have h1 := yrr t g w p.y p.n L z q.n q.y s j
  rw [show decide ((j : Int) < ((L.pa.map Ps.enc).length : Nat)) = false by rw [zlc]; rw [zla]; omega] at h1
  exact .exit (.seqX (.seq h1 (.cond (b := false) rfl (.after (kp [3, 5, 7, 10, 12, 19, 20, 21, 22]) .exit))) (by simp)) (by simp)
 | k + 1, j, s, h => by
  have hj : j < L.pa.length := by omega
  rw [ya3 _ hj default, List.any_cons, ← Bool.or_assoc]
  refine .step ?_ (yj9 w z q k (j + 1) (s || knP q (L.pa.getD j default)) (by omega))
  rw [yxu]
  have h1 := yrr t g w p.y p.n L z q.n q.y s j
  rw [show decide ((j : Int) < ((L.pa.map Ps.enc).length : Nat)) = true by rw [zlb]; rw [zla]; omega] at h1
  have h35 : Tri Try.prog (cxN 223 0) (zqr Try.f5 39) (nX t g p L w z q.n q s ++ [(24, it j)]) .normal (nX t g p L w z q.n q (s || knP q (L.pa.getD j default)) ++ [(24, it j)]) := by
   cases s with
   | true => exact ytj t g w p.y p.n L z q.n q.y j
   | false =>
    have := ytk t g w p.y p.n L z q.n q.y j (zlb (by rw [zla]; omega)) (ycf (by rw [zlf]; exact hj))
    rw [zlf] at this
    exact this
  have h34 := yx3 t g w p.y p.n L z q.n q.y (s || knP q (L.pa.getD j default)) j
  rw [up64 (by omega)] at h34
  exact .seq (.seq h1 (.cond (b := true) rfl (.after (kp [3, 5, 7, 10, 12, 19, 20, 21, 22, 24]) .skip))) (.seq (.block (ex := .normal) h35 (.inr ⟨by simp, rfl⟩)) h34)
variable (h6 : t.length = 6) (hrow : ∀ r ∈ t, r.l.length < 2 ^ 20) (hpn : 0 ≤ p.n ∧ p.n < 2 ^ 60)
abbrev wrow (w : List Idd) (j v : Nat) : List Idd := w ++ ((List.range v).map fun n : Nat => (⟨((j + 1 : Nat) : Int), (n : Int)⟩ : Idd)).filter (knV p L)
include hth hpa h6 hrow hpn
theorem yj8 (w : List Idd) (hw : w.length < 2 ^ 31) (j : Nat) (hj : j < 6) : ∀ (k v : Nat), v + k = (t.getD j default).l.length → Rnd Try.prog (cxN 223 0) (zqc Try.f5 3) (k + 1) (nW t g p L (wrow p L w j v) ++ [(19, it (j + 1 : Nat)), (20, it v)]) (.exit 6) (nW t g p L (wrow p L w j (t.getD j default).l.length) ++ [(19, it (j + 1 : Nat))])
 | 0, v, h => by
  have hv : v = (t.getD j default).l.length := by omega
  have wz : IntKind.wrap i64 (((j + 1 : Nat) : Int) - 1) = (j : Int) := by rw [yad (by omega) (by omega)]; omega
  have h1 := yrt t g (wrow p L w j v) p.y p.n L (j + 1 : Nat) v
  rw [wz, zlf] at h1
  have h1 := h1 (zlb (by rw [zla]; omega)) (ybx (by omega))
  rw [show decide ((v : Int) < ((List.map Lp.enc (t.getD j default).l).length : Nat)) = false by rw [zlc]; rw [zla]; omega] at h1
  rw [yxw, ← hv]
  exact .exit (.seqX (.seq h1 (.cond (b := false) rfl (.after (kp [3, 5, 7, 10, 12, 19]) .exit))) (by simp)) (by simp)
 | k + 1, v, h => by
  have hr := hrow (t.getD j default) (by rw [zld, zle (by omega)]; exact zlu _)
  have wz : IntKind.wrap i64 (((j + 1 : Nat) : Int) - 1) = (j : Int) := by rw [yad (by omega) (by omega)]; omega
  have hlw : (wrow p L w j v).length < 2 ^ 31 + 2 ^ 30 := by
   have := List.length_filter_le (knV p L) ((List.range v).map fun n : Nat => (⟨((j + 1 : Nat) : Int), (n : Int)⟩ : Idd))
   rw [zla, List.length_range] at this
   show (w ++ _).length < _
   rw [zlg]; omega
  have es : wrow p L w j (v + 1) = wrow p L w j v ++ (if knV p L ⟨((j + 1 : Nat) : Int), (v : Int)⟩ then [⟨((j + 1 : Nat) : Int), (v : Int)⟩] else []) := by
   show w ++ _ = w ++ _ ++ _
   rw [List.range_succ, zlq, List.filter_append, zlp, List.map_cons, List.map_nil, List.filter_cons, List.filter_nil]
  refine .step (env1 := nW t g p L (wrow p L w j (v + 1)) ++ [(19, it (j + 1 : Nat)), (20, it (v + 1 : Nat))]) ?_ (yj8 w hw j hj k (v + 1) (by omega))
  rw [es]
  generalize wrow p L w j v = W at *
  have h1 := yrt t g W p.y p.n L (j + 1 : Nat) v
  rw [wz, zlf] at h1
  have h1 := h1 (zlb (by rw [zla]; omega)) (ybx (by omega))
  rw [show decide ((v : Int) < ((List.map Lp.enc (t.getD j default).l).length : Nat)) = true by rw [zlb]; rw [zla]; omega] at h1
  have h30 := yx9 t g W p.y p.n L (j + 1 : Nat) v
  rw [yfx (by omega) (by omega)] at h30
  let q : Idd := ⟨((j + 1 : Nat) : Int), (v : Int)⟩
  have h31 : Tri Try.prog (cxN 223 0) (zqr Try.f5 31) (nW t g p L W ++ [(19, it (j + 1 : Nat)), (20, it v), (21, .box [ub (j + 1 : Nat), it v])]) .normal (nX t g p L W (j + 1 : Nat) q.n q (kn1 p q)) := by
   by_cases hc : (((j + 1 : Nat) : Int) == p.y) = true
   ·have := yx8 t g W p.y p.n L (j + 1 : Nat) v (j + 1 : Nat) hc
    rw [yad (by omega) (by omega)] at this
    rw [show kn1 p q = ((v : Int) == p.n - 1) by show ((((j + 1 : Nat) : Int) == p.y) && _) = _; rw [hc, Bool.true_and]]
    exact this
   ·rw [Bool.not_eq_true] at hc
    rw [show kn1 p q = false by show ((((j + 1 : Nat) : Int) == p.y) && _) = _; rw [hc, Bool.false_and]]
    exact yx7 t g W p.y p.n L (j + 1 : Nat) v (j + 1 : Nat) hc
  have hT := (yj7 t g p L hth W (j + 1 : Nat) q L.th.length 0 (kn1 p q) (by omega)).loop
  have hP := (yj9 t g p L hpa W (j + 1 : Nat) q L.pa.length 0 (kn1 p q || L.th.any (knT q)) (by omega)).loop
  rw [List.drop_zero] at hT hP
  have h32 := yx6 t g W p.y p.n L (j + 1 : Nat) v (j + 1 : Nat) (kn1 p q)
  have h36 := yx4 t g W p.y p.n L (j + 1 : Nat) v (j + 1 : Nat) (kn1 p q || L.th.any (knT q))
  have h40 := yx2 t g W p.y p.n L (j + 1 : Nat) v (j + 1 : Nat) (knV p L q)
  have h29 := fun w' => yya t g w' p.y p.n L (j + 1 : Nat) v
  rw [up64 (by omega)] at h29
  rw [yxw]
  refine .seq (.seq h1 (.cond (b := true) rfl (.after (kp [3, 5, 7, 10, 12, 19, 20]) .skip))) (.seq (.block (ex := .normal) (.seq h30 (.seq h31 (.seq (.seq h32 (.block (ex := .exit 8) hT (.inl ⟨rfl, rfl⟩))) (.seq (.seq h36 (.block (ex := .exit 10) hP (.inl ⟨rfl, rfl⟩))) (.seq h40 (env' := nW t g p L (W ++ (if knV p L q then [q] else [])) ++ [(19, it (j + 1 : Nat)), (20, it v)]) ?_))))) (.inr ⟨by simp, rfl⟩)) (h29 _))
  cases hk : knV p L q with
  | false =>
   rw [if_neg (by simp), List.append_nil]
   exact .cond (b := false) rfl (.after (kp [3, 5, 7, 10, 12, 19, 20]) .skip)
  | true =>
   rw [if_pos rfl]
   exact .cond (b := true) rfl (.weak (kp [3, 5, 7, 10, 12, 19, 20, 21]) (yx1 t g W p.y p.n L (j + 1 : Nat) v (j + 1 : Nat) rfl (zlb (by rw [zla, zla]; show _ + 1 ≤ _; omega)) (by rw [← zlq])))
omit hth hpa hpn in
theorem yjj (k : Idd → Bool) : ∀ j, j ≤ 6 → (yb0 t k j).length ≤ j * 2 ^ 20
 | 0, _ => by simp [yb0]
 | j + 1, h => by
  have ih := yjj k j (by omega)
  have hr := hrow (t.getD j default) (by rw [zld, zle (by omega)]; exact zlu _)
  have := List.length_filter_le k ((List.range (t.getD j default).l.length).map fun n : Nat => (⟨((j + 1 : Nat) : Int), (n : Int)⟩ : Idd))
  rw [zla, List.length_range] at this
  unfold yb0 at ih ⊢
  rw [List.range_succ, List.flatMap_append, zlg, List.flatMap_cons, List.flatMap_nil, List.append_nil]
  omega
theorem yj6 : ∀ (k j : Nat), j + k = 6 → Rnd Try.prog (cxN 223 0) (zqc Try.f5 2) (k + 1) (nW t g p L (yb0 t (knV p L) j) ++ [(19, it (j + 1 : Nat))]) (.exit 4) [(7, isl (some g.length) g), (12, iow none (yb0 t (knV p L) 6))]
 | 0, j, h => by
  have hj : j = 6 := by omega
  subst hj
  rw [yxx]
  have h1 := yru t g (yb0 t (knV p L) 6) p.y p.n L ((6 + 1 : Nat) : Int)
  exact .exit (.seqX (.seq h1 (.cond (b := false) rfl (.after (kp [7, 12]) .exit))) (by simp)) (by simp)
 | k + 1, j, h => by
  have hj : j < 6 := by omega
  refine .step ?_ (yj6 k (j + 1) (by omega))
  have hw := yjj t h6 hrow (knV p L) j (by omega)
  have es : yb0 t (knV p L) (j + 1) = wrow p L (yb0 t (knV p L) j) j (t.getD j default).l.length := by
   unfold yb0
   rw [List.range_succ, List.flatMap_append, List.flatMap_cons, List.flatMap_nil, List.append_nil]
  rw [es]
  have hR := (yj8 t g p L hth hpa h6 hrow hpn (yb0 t (knV p L) j) (by omega) j hj _ 0 (Nat.zero_add _)).loop
  rw [show wrow p L (yb0 t (knV p L) j) j 0 = yb0 t (knV p L) j by show _ ++ _ = _; simp] at hR
  have h1 := yru t g (yb0 t (knV p L) j) p.y p.n L ((j + 1 : Nat) : Int)
  rw [show decide (((j + 1 : Nat) : Int) ≤ 6) = true from zlb (by omega)] at h1
  have h26 := yyc t g (wrow p L (yb0 t (knV p L) j) j (t.getD j default).l.length) p.y p.n L ((j + 1 : Nat) : Int)
  rw [up64 (by omega)] at h26
  rw [yxx]
  exact .seq (.seq h1 (.cond (b := true) rfl (.after (kp [3, 5, 7, 10, 12, 19]) .skip))) (.seq (.block (ex := .normal) (.seq (yyb t g _ p.y p.n L _) (.block (ex := .exit 6) hR (.inl ⟨rfl, rfl⟩))) (.inr ⟨by simp, rfl⟩)) h26)
end
theorem ynn (a : List Idd) (p : Idd) : ∀ (k i : Nat), i + k = a.length → ((ixF a p k i).isSome = true ↔ p ∈ a.drop i)
 | 0, i, h => by rw [zln (by omega)]; simp [ixF]
 | k + 1, i, h => by
  rw [ixF, ya3 a (by omega) default, List.mem_cons]
  by_cases hp : p = a.getD i default
  ·rw [if_pos hp]; simp [hp]
  ·rw [if_neg hp, ynn a p k (i + 1) (by omega)]
   exact ⟨.inr, fun h => h.resolve_left hp⟩
theorem ynq {a : List Idd} {p : Idd} : inV a p = true ↔ p ∈ a := by
 unfold inV; rw [ynn a p a.length 0 (by omega), List.drop_zero]
theorem ygi : ∀ (t : List Rw) (i j n : Nat), j < t.length → n < (t.getD j default).l.length → ((⟨((i + j + 1 : Nat) : Int), (n : Int)⟩ : Idd), (t.getD j default).l.getD n default) ∈ yah i t
 | [], i, j, n, h, _ => by simp at h
 | r :: t, i, 0, n, h, hn => by
  rw [yah, List.mem_append]
  left
  unfold rowL
  have hn : n < r.l.length := hn
  refine List.mem_map.2 ⟨(r.l.getD n default, n), ?_, rfl⟩
  rw [List.mem_zipIdx_iff_getElem?]
  show r.l[n]? = some (r.l.getD n default)
  rw [zld, zle hn]; rfl
 | r :: t, i, j + 1, n, h, hn => by
  rw [yah, List.mem_append]
  right
  have := ygi t (i + 1) j n (by simpa using h) hn
  rw [show i + (j + 1) + 1 = i + 1 + j + 1 by omega]
  exact this
theorem yq1 {t : List Rw} (h6 : t.length ≤ 255) {q : Idd} (h : hasV t q.y q.n = true) : (q, atV t q.y q.n) ∈ allT t := by
 obtain ⟨a, b, c, d⟩ := ybm h
 unfold allT
 rw [zlm h6]
 have := ygi t 0 (q.y - 1).toNat q.n.toNat (by omega) (by omega)
 obtain ⟨y, n⟩ := q
 simp only at a b c d this ⊢
 rw [show ((0 + (y - 1).toNat + 1 : Nat) : Int) = y by omega, show ((n.toNat : Nat) : Int) = n by omega] at this
 exact this
theorem yvp {t : List Rw} (h6 : t.length ≤ 255) {x : Idd × Lp} (h : x ∈ allT t) : hasV t x.1.y x.1.n = true ∧ x.2 = atV t x.1.y x.1.n := by
 unfold allT at h
 rw [zlm h6] at h
 obtain ⟨j, n, h1, h2, h3, h4⟩ := ygj t 0 x h
 have e : (((0 + j + 1 : Nat) : Int) - 1).toNat = j := by omega
 rw [h3]
 unfold hasV atV
 rw [e]
 simp only [zlo, decide_eq_true_eq]
 refine ⟨⟨⟨⟨by omega, by omega⟩, by omega⟩, by omega⟩, ?_⟩
 rw [h4, zlf]
theorem yrm {α : Type} (f : α → List Idd) (p : Idd) : ∀ (l : List α), (l.flatMap f).Nodup → ∀ x ∈ l, ∀ y ∈ l, p ∈ f x → p ∈ f y → x = y
 | [], _, x, hx, _, _, _, _ => by simp at hx
 | a :: l, h, x, hx, y, hy, px, py => by
  rw [List.flatMap_cons, List.nodup_append] at h
  obtain ⟨h1, h2, h3⟩ := h
  rcases List.mem_cons.1 hx with ex | hx <;> rcases List.mem_cons.1 hy with ey | hy
  ·rw [ex, ey]
  ·exact absurd rfl (h3 p (ex ▸ px) p (List.mem_flatMap.2 ⟨y, hy, py⟩))
  ·exact absurd rfl (h3 p (ey ▸ py) p (List.mem_flatMap.2 ⟨x, hx, px⟩))
  ·exact yrm f p l h2 x hx y hy px py
theorem yrq (t : List Rw) (p : Idd) : ∀ (md : List Idd) (s : Bool × Idd × Int), (md.foldl (nSt t p) s).1 = (s.1 || decide (p ∈ md))
 | [], s => by simp
 | r :: md, s => by
  rw [List.foldl_cons, yrq t p md]
  show (s.1 || decide (r = p) || decide (p ∈ md)) = _
  rw [Bool.or_assoc, ← Bool.decide_or]
  congr 1
  rw [decide_eq_decide, List.mem_cons]
  exact ⟨fun h => h.imp Eq.symm id, fun h => h.imp Eq.symm id⟩
theorem yjq (p r : Idd) : ∀ (l : List Idd) (s : Idd × Int), p ∉ l → l.foldl (stq p r) s = s
 | [], s, _ => rfl
 | q :: l, s, h => by
  rw [List.foldl_cons, show stq p r s q = s from if_neg (fun e => h (by simp [e])), yjq p r l s (fun e => h (by simp [e]))]
theorem ymc (p r : Idd) : ∀ (l : List Idd) (s : Idd × Int), l.Nodup → p ∈ l → l.foldl (stq p r) s = (r, s.2 + 1)
 | [], s, _, h => by simp at h
 | q :: l, s, hd, h => by
  rw [List.nodup_cons] at hd
  rw [List.foldl_cons]
  by_cases e : q = p
  ·rw [show stq p r s q = (r, s.2 + 1) from if_pos e, yjq p r l _ (by rw [← e]; exact hd.1)]
  ·rw [show stq p r s q = s from if_neg e, ymc p r l s hd.2 (by rcases List.mem_cons.1 h with h | h; exact absurd h.symm e; exact h)]
theorem ym6 (t : List Rw) (p : Idd) : ∀ (md : List Idd) (s : Bool × Idd × Int), (∀ r ∈ md, p ∉ (atV t r.y r.n).th) → (md.foldl (nSt t p) s).2 = s.2
 | [], s, _ => rfl
 | r :: md, s, h => by
  rw [List.foldl_cons, ym6 t p md _ (fun q hq => h q (by simp [hq]))]
  exact yjq p r _ _ (h r (by simp))
theorem ym5 (t : List Rw) (p r : Idd) : ∀ (md : List Idd) (s : Bool × Idd × Int), r ∈ md → md.Nodup → p ∈ (atV t r.y r.n).th → (atV t r.y r.n).th.Nodup → (∀ q ∈ md, p ∈ (atV t q.y q.n).th → q = r) → (md.foldl (nSt t p) s).2 = (r, s.2.2 + 1)
 | [], s, h, _, _, _, _ => by simp at h
 | q :: md, s, h, hd, hp, hn, hu => by
  rw [List.nodup_cons] at hd
  rw [List.foldl_cons]
  by_cases e : q = r
  ·subst e
   rw [ym6 t p md _ (fun u hu2 hp2 => hd.1 (by rw [← hu u (by simp [hu2]) hp2]; exact hu2))]
   exact ymc p q _ _ hn hp
  ·rw [ym5 t p r md _ (by rcases List.mem_cons.1 h with h | h; exact absurd h.symm e; exact h) hd.2 hp hn (fun u hu2 hp2 => hu u (by simp [hu2]) hp2)]
   have : (nSt t p s q).2 = s.2 := yjq p q _ _ (fun hp2 => e (hu q (by simp) hp2))
   rw [this]
section
variable (c : Option Nat) (x : List Lx) (m : List (List Lp)) (md : List Idd) (y n : Int) (h : HOf c x m md)
include h
abbrev n1a : Env := [(27, .tup [tGW m, iow none md]), (26, xsl c x), (0, xsl c x), (3, .box [ub y, it n])]
abbrev n1b : Env := (27, .tup [tSh m, iow none md]) :: n1a c x m md y n
abbrev n1c : Env := (27, .tup [tSh m, share (iow none md)]) :: n1b c x m md y n
theorem nl1_0 : Tri Try.prog (cxN 223 0) (.region 1 (zql Try.f5 1) false) [(0, xsl c x), (3, .box [ub y, it n])] .normal ((6, share (iow none md)) :: (5, tSh m) :: (29, share (iow none md)) :: (28, tSh m) :: (25, .tup [tSh m, share (iow none md)]) :: (27, .bad) :: n1c c x m md y n) := by
 refine Tri.ofR (.region (R := (· = (6, share (iow none md)) :: (5, tSh m) :: (29, share (iow none md)) :: (28, tSh m) :: (25, .tup [tSh m, share (iow none md)]) :: (27, .bad) :: n1c c x m md y n)) ?_) fun e h => h
 rw [show (zql Try.f5 1).toList = (zql Try.f5 1).toList.take 2 ++ ([] ++ ([] ++ (zql Try.f5 1).toList.drop 2)) by kernel_rfl]
 refine .seq (OpsR.ev (base 223 0) zqb.1 zqb.2 (ans := [.c, .r (xsl c x), .r (.tup [tGW m, iow none md]), .c, .c]) (ps := [view (xsl c x) = xsl c x, PureC Try.prog 9 [xsl c x] (.tup [tGW m, iow none md])]) (env' := n1a c x m md y n) (by kernel_rfl) (allp (yo7 c x) (allp h zqa))) ?_
 rintro _ rfl
 refine .seq (OpsR.grabAt (r := 27) (p := [(0, 0)]) rfl rfl rfl (ywv (by intro p hp; simp only [List.mem_cons, List.not_mem_nil, or_false] at hp; rcases hp with rfl | rfl | rfl | rfl <;> rfl) 27)) ?_
 rintro _ rfl
 refine .seq (OpsR.grabAt (r := 27) (p := [(0, 1)]) rfl rfl rfl (ywv (by intro p hp; simp only [List.mem_cons, List.not_mem_nil, or_false] at hp; rcases hp with rfl | rfl | rfl | rfl | rfl <;> rfl) 27)) ?_
 rintro _ rfl
 exact OpsR.ev (base 223 0) zqb.1 zqb.2 (ans := [.c, .c, .c, .c, .c, .c, .c]) (ps := []) (by kernel_rfl) zqa
theorem nl1_1 (hm : ∀ r ∈ m, ∀ L ∈ r, L.ct = none ∧ L.cp = none) : Tri Try.prog (cxN 223 0) (zqr Try.f5 1) [(0, xsl c x), (3, .box [ub y, it n])] .normal [(3, .box [ub y, it n]), (5, tsl none (tb m)), (6, isl none md)] := by
 have h1 := nl1_0 c x m md y n h
 refine .less (.after (kp [3, 5, 6]) h1) (.cons ⟨rfl, rfl, Le.refl _⟩ (.cons ⟨rfl, rfl, ?_⟩ (.cons ⟨rfl, rfl, ?_⟩ .nil)))
 ·show Le Try.prog (tSh m) (tsl none (tb m))
  rw [← yo8 m hm]; exact Le.viewS
 ·show Le Try.prog (share (iow none md)) (isl none md)
  rw [ymh md]; exact Le.fresh
end
theorem ytg : Try.f5.body = some (.seq (zqr Try.f5 0) (.seq (zqr Try.f5 1) (.seq (zqr Try.f5 2) (.seq (zqr Try.f5 3) (.seq (zqr Try.f5 4) (.seq (zqr Try.f5 5) (.seq (zqr Try.f5 6) (.seq (zqr Try.f5 7) (.seq (zqr Try.f5 8) (.seq (.seq (zqr Try.f5 9) (.block 0 (.loop (zqc Try.f5 0)))) (.seq (.seq (zqr Try.f5 20) (.cond (.tmp 127) (.seq (zqr Try.f5 21) .ret) .skip)) (.seq (.seq (zqr Try.f5 22) (.cond (.tmp 129) (.seq (zqr Try.f5 23) .ret) .skip)) (.seq (.seq (zqr Try.f5 24) (.block 4 (.loop (zqc Try.f5 2)))) (.seq (zqr Try.f5 42) .ret)))))))))))))) := by kernel_rfl
theorem yo2 {S : OfS} (hS : ValidS S) (hrow : ∀ r ∈ tb S.m, r.l.length < 2 ^ 60) (p : Idd) (h0 : 0 ≤ p.y) (h1 : p.y ≤ 255) : ∃ (r : Idd) (k : Int), HAb (tb S.m) p.y p.n r.y r.n (k == 1) ∧ (S.md.foldl (nSt (tb S.m) p) (false, ⟨0, 0⟩, 0)).2 = (r, k) ∧ k ≤ 1 := by
 have ht6 : (tb S.m).length = 6 := by rw [yhm, hS.m6]
 have ha := yjg none (tb S.m) p.y p.n (by omega) hrow hS.okT
 have hth : ((allT (tb S.m)).flatMap fun x => x.2.th).Nodup := by
  have h : thA (allT (tb S.m)) = Tst.thM S.m := by
   unfold allT
   rw [hS.take, ycy]
   unfold tb Tst.thM
   rw [List.flatMap_map]
  have h2 : thA (allT (tb S.m)) = (allT (tb S.m)).flatMap fun x => x.2.th := rfl
  rw [← h2, h]
  exact (List.nodup_append.1 hS.nd).2.1
 have hmd : ∀ r ∈ S.md, (r, atV (tb S.m) r.y r.n) ∈ allT (tb S.m) := fun r hr => yq1 (by omega) (hS.has_old hr)
 unfold yo3 at ha
 cases hf : (allT (tb S.m)).find? (fun x => inV x.2.th ⟨p.y, p.n⟩) with
 | none =>
  rw [hf] at ha
  refine ⟨⟨0, 0⟩, 0, ha, ?_, by decide⟩
  refine ym6 _ _ _ _ fun r hr hp => ?_
  have := List.find?_eq_none.1 hf _ (hmd r hr)
  exact this (ynq.2 hp)
 | some z =>
  rw [hf] at ha
  have hz := List.mem_of_find?_eq_some hf
  have hzp : p ∈ z.2.th := ynq.1 (List.find?_some (p := fun x : Idd × Lp => inV x.2.th ⟨p.y, p.n⟩) hf)
  obtain ⟨hzh, hza⟩ := yvp (by omega) hz
  refine ⟨z.1, 1, ha, ?_, by decide⟩
  have := ym5 (tb S.m) p z.1 S.md (false, ⟨0, 0⟩, 0) (hS.ok.all _ _ hzh) hS.mdn (by rw [← hza]; exact hzp) ?_ ?_
  ·rw [this]; rfl
  ·rw [← hza]
   have := (List.pairwise_flatMap.1 hth).1 z hz
   exact this
  ·intro q hq hp
   have := yrm (fun x : Idd × Lp => x.2.th) p _ hth _ (hmd q hq) z hz hp hzp
   rw [← this]
theorem yp3 {S : OfS} (hS : ValidS S) (p : Idd) (hh : hasV (tb S.m) p.y p.n = true) : ddI (insV (ndL (tb S.m) p.y p.n)) = yb0 (tb S.m) (knV p (atV (tb S.m) p.y p.n)) 6 := by
 have ht6 : (tb S.m).length = 6 := by rw [yhm, hS.m6]
 have := ym9 (tb S.m) (ndL (tb S.m) p.y p.n) (knV p (atV (tb S.m) p.y p.n)) ?_
 ·rw [ht6] at this; exact this
 intro q
 have hment := hS.ment hh
 obtain ⟨a, b, c, d⟩ := ybm hh
 generalize hL : atV (tb S.m) p.y p.n = L at *
 have e : ndL (tb S.m) p.y p.n = zqz L ++ (if 0 < p.n then [⟨p.y, p.n - 1⟩] else []) := by unfold ndL; rw [hL]
 have hone : q ∈ (if 0 < p.n then [(⟨p.y, p.n - 1⟩ : Idd)] else []) ↔ 0 < p.n ∧ kn1 p q = true := by
  unfold kn1
  obtain ⟨u, v⟩ := q
  by_cases h : 0 < p.n
  ·rw [if_pos h, zlv, Idd.mk.injEq]; simp [h]
  ·rw [if_neg h]; simp [h]
 have hme : q ∈ zqz L ↔ (L.th.any (knT q) || L.pa.any (knP q)) = true := by
  unfold zqz ye2
  rw [List.mem_append, Bool.or_eq_true, List.any_eq_true, List.any_eq_true, List.mem_map]
  refine ⟨fun h => h.imp (fun h => ⟨q, h, by unfold knT; simp⟩) (fun ⟨r, hr, e⟩ => ⟨r, hr, by rw [← e]; unfold knP; simp⟩), fun h => h.imp (fun ⟨r, hr, e⟩ => ?_) (fun ⟨r, hr, e⟩ => ⟨r, hr, ?_⟩)⟩
  ·unfold knT at e
   rw [yoh, decide_eq_true_eq] at e
   rw [← e]; exact hr
  ·unfold knP at e
   obtain ⟨u, v⟩ := q
   rw [zlo, beq_iff_eq, beq_iff_eq] at e
   rw [Idd.mk.injEq]; exact e
 rw [e, List.mem_append, hone, hme]
 unfold knV
 rw [Bool.or_assoc, Bool.or_eq_true]
 constructor
 ·rintro ⟨h, h1 | h1⟩
  ·right
   refine ⟨?_, h1⟩
   unfold kn1 at h1
   rw [zlo, beq_iff_eq, beq_iff_eq] at h1
   have := (ybm h).2.2.1
   omega
  ·exact .inl h1
 ·rintro (h1 | ⟨h2, h1⟩)
  ·exact ⟨hS.has_old (hment q (hme.2 h1)), .inr h1⟩
  ·refine ⟨?_, .inl h1⟩
   unfold kn1 at h1
   rw [zlo, beq_iff_eq, beq_iff_eq] at h1
   rw [h1.1, h1.2]
   unfold hasV
   simp only [zlo, decide_eq_true_eq]
   omega
theorem yqi (t : List Rw) (p : Idd) (h0 : 0 ≤ p.y) (h1 : p.y ≤ 255) (hL : ∀ r ∈ t, ∀ L ∈ r.l, L.th.length ≤ 4294967296 ∧ L.pa.length ≤ 4294967296) : ∃ L : Lp, HFi t p.y p.n L (if hasV t p.y p.n then 0 else 7) ∧ (hasV t p.y p.n = true → L.th = (atV t p.y p.n).th ∧ L.pa = (atV t p.y p.n).pa) := by
 have h := find_c none t p.y p.n h0 h1 hL
 unfold yuw at h
 cases hh : hasV t p.y p.n with
 | true =>
  rw [hh, if_pos rfl] at h
  rw [if_pos rfl]
  refine ⟨⟨(atV t p.y p.n).b, (atV t p.y p.n).w, some (atV t p.y p.n).th.length, (atV t p.y p.n).th, some (atV t p.y p.n).pa.length, (atV t p.y p.n).pa⟩, h.res ?_, fun _ => ⟨rfl, rfl⟩⟩
  exact Le.tup (.cons (Le.agg (.cons (Le.refl _) (.cons (Le.refl _) (.cons Le.fresh (.cons Le.fresh .nil))))) (.cons (Le.refl _) .nil))
 | false =>
  rw [hh, if_neg (by simp)] at h
  rw [if_neg (by simp)]
  refine ⟨⟨0, false, some 0, [], some 0, []⟩, h.res ?_, fun h => by cases h⟩
  exact Le.tup (.cons (Le.agg (.cons (Le.refl _) (.cons (Le.refl _) (.cons (Le.nil 36) (.cons (Le.nil 56) .nil))))) (.cons (Le.refl _) .nil))
theorem yi6 {S : OfS} (hS : ValidS S) {y n : Int} (h : hasV (tb S.m) y n = true) : FineL (atV (tb S.m) y n) := by
 obtain ⟨r, hr, hx⟩ := yov h
 unfold tb at hr
 obtain ⟨l, hl, rfl⟩ := List.mem_map.1 hr
 exact hS.fine l hl _ hx
theorem yna {S : OfS} (hS : ValidS S) {y n : Int} (h : hasV (tb S.m) y n = true) : (ndL (tb S.m) y n).length ≤ 12 := by
 have hf := yi6 hS h
 have := hf.th
 have := hf.pa
 unfold ndL zqz ye2
 rw [zlg, zlg, zla]
 split
 ·show _ + _ + 1 ≤ 12; omega
 ·show _ + _ + 0 ≤ 12; omega
theorem ynm (c : Option Nat) (x : List Lx) (hx : x.length < 2 ^ 63) (hX : ∀ L ∈ x, OkX L) (p : Idd) (h0 : 0 ≤ p.y) (h1 : p.y ≤ 255) : PureC Try.prog 5 [xsl c x, p.enc] (bb true) := by
 have hS := ypa x hX
 obtain ⟨hcm, hc60⟩ := cnt_of x
 have hof : HOf c x (ofS x).m (ofS x).md := of_c c x hx hX
 generalize ofS x = S at *
 have hrw : ∀ r ∈ tb S.m, r.l.length ≤ 60 := fun r hr => by
  obtain ⟨q, hq, rfl⟩ := List.mem_map.1 hr
  have := ys3 hq
  show q.length ≤ 60
  omega
 have ht6 : (tb S.m).length = 6 := by rw [yhm, hS.m6]
 have hOT := hS.okT
 have hm : ∀ r ∈ S.m, ∀ L ∈ r, L.ct = none ∧ L.cp = none := fun r hr L hL' => ⟨(hS.fine r hr L hL').ct, (hS.fine r hr L hL').cp⟩
 obtain ⟨r, k, hab, hF, hk⟩ := yo2 hS (fun r hr => by have := hrw r hr; omega) p h0 h1
 obtain ⟨L, hfi, hLe⟩ := yqi (tb S.m) p h0 h1 (fun r hr L hL => by
  obtain ⟨l, hl, rfl⟩ := List.mem_map.1 hr
  have := hS.fine l hl L hL
  exact ⟨Nat.le_trans this.th (by omega), Nat.le_trans this.pa (by omega)⟩)
 have hin : hasV (tb S.m) p.y p.n = decide (p ∈ S.md) := by
  cases hh : hasV (tb S.m) p.y p.n with
  | true => exact (zlb (hS.ok.all p.y p.n hh)).symm
  | false => exact (zlc fun hp => by rw [hS.has_old hp] at hh; cases hh).symm
 have hF1 := yrq (tb S.m) p S.md (false, ⟨0, 0⟩, 0)
 rw [Bool.false_or, ← hin] at hF1
 have hnd : HNd (tb S.m) p.y p.n (if hasV (tb S.m) p.y p.n then ddI (insV (ndL (tb S.m) p.y p.n)) else []) := by
  have h := yi2 none (tb S.m) p.y p.n h0 h1 (fun hh => by
   obtain ⟨a, b, d, e⟩ := ybm hh
   have := hrw ((tb S.m).getD (p.y - 1).toNat default) (by rw [zld, zle (by omega)]; exact zlu _)
   omega) (fun hh => by
   exact yna hS hh)
  unfold ytr at h
  unfold HNd
  cases hh : hasV (tb S.m) p.y p.n with
  | true =>
   rw [hh, if_pos rfl] at h
   rw [if_pos rfl]
   exact h.res Le.fresh
  | false =>
   rw [hh, if_neg (by simp)] at h
   rw [if_neg (by simp)]
   exact h.res (Le.nil 36)
 generalize hg : (if hasV (tb S.m) p.y p.n then ddI (insV (ndL (tb S.m) p.y p.n)) else []) = g at hnd
 generalize he : (if hasV (tb S.m) p.y p.n then (0 : Int) else 7) = e at hfi
 have h4 := nl4_0 (tb S.m) S.md g p.y p.n r.y r.n (k == 1) L e hfi (by rw [ybh, ybl])
 have h4 := Tri.after (kp [3, 5, 6, 7, 8, 9, 10, 11]) h4
 have h5 : Tri Try.prog (cxN 223 0) (zqr Try.f5 5) _ .normal (nlC (tb S.m) S.md g p r.y r.n (k == 1) L e) := .less (nl5_0 (tb S.m) S.md g p.y p.n r.y r.n (k == 1) L e) (.cons ⟨rfl, rfl, Le.refl _⟩ (.cons ⟨rfl, rfl, Le.refl _⟩ (.cons ⟨rfl, rfl, Le.refl _⟩ (.cons ⟨rfl, rfl, Le.refl _⟩ (.cons ⟨rfl, rfl, Le.refl _⟩ (.cons ⟨rfl, rfl, Le.refl _⟩ (.cons ⟨rfl, rfl, Le.refl _⟩ (.cons ⟨rfl, rfl, Le.refl _⟩ (.cons ⟨rfl, rfl, (Le.nilOwn 36).trans Le.cap⟩ .nil)))))))))
 have hl1 := (yka (tb S.m) S.md g p r.y r.n (k == 1) L e (by omega) (fun q hq => ⟨hS.has_old hq, (yi6 hS (hS.has_old hq)).th⟩) (by omega) S.md.length 0 (false, ⟨0, 0⟩, 0) (by omega) (by decide) (by decide)).loop
 rw [List.drop_zero, hF, hF1] at hl1
 have pre : ∀ {ex : Ex} {env' : Env} {c2 : Code}, Tri Try.prog (cxN 223 0) c2 (nlC (tb S.m) S.md g p r.y r.n (k == 1) L e ++ [(13, bb (hasV (tb S.m) p.y p.n)), (14, .box [ub r.y, it r.n]), (15, it k)]) ex env' → Tri Try.prog (cxN 223 0) (.seq (zqr Try.f5 0) (.seq (zqr Try.f5 1) (.seq (zqr Try.f5 2) (.seq (zqr Try.f5 3) (.seq (zqr Try.f5 4) (.seq (zqr Try.f5 5) (.seq (zqr Try.f5 6) (.seq (zqr Try.f5 7) (.seq (zqr Try.f5 8) (.seq (.seq (zqr Try.f5 9) (.block 0 (.loop (zqc Try.f5 0)))) c2)))))))))) [(0, xsl c x), (1, p.enc)] ex env' := fun h =>
  .seq (nl0_0 c x p.y p.n) (.seq (nl1_1 c x S.m S.md p.y p.n hof hm) (.seq (nl2_0 (tb S.m) S.md g p.y p.n hnd) (.seq (.after (kp [3, 5, 6, 7, 8, 9]) (nl3_0 (tb S.m) S.md g p.y p.n r.y r.n (k == 1) hab)) (.seq h4 (.seq h5 (.seq (nl6_0 (tb S.m) S.md g p.y p.n r.y r.n (k == 1) L e) (.seq (nl7_0 (tb S.m) S.md g p.y p.n r.y r.n (k == 1) L e) (.seq (nl8_0 (tb S.m) S.md g p.y p.n r.y r.n (k == 1) L e) (.seq (.seq (nl9_0 (tb S.m) S.md g p.y p.n r.y r.n (k == 1) L e) (.block (ex := .exit 0) hl1 (.inl ⟨rfl, rfl⟩))) h)))))))))
 refine ycz ((base 223 0).ok zqb.1 zqb.2) Try.func5 rfl (by show 2 ≤ 223; omega) rfl ytg rfl (ex := .ret) (env' := [(4, bb true)]) (pre ?_) (by kernel_rfl)
 have q0 : decide ((1 : Int) < k) = false := zlc (by omega)
 have q1 : ((k == 1) != (k == (1 : Int))) = false := by simp
 have q2 : (!(r.y == r.y && r.n == r.n)) = false := by simp
 cases hh : hasV (tb S.m) p.y p.n with
 | false =>
  rw [hh, if_neg (by simp)] at hg he
  subst hg he
  have h20 := yto (tb S.m) S.md p.y p.n r.y r.n (k == 1) L r.y r.n k q0 q1 q2
  exact .seq (.seq (.weak (kp [3, 5, 7, 8, 9, 10, 11, 12, 13, 14, 15]) h20) (.cond (b := false) rfl (.after (kp [3, 5, 7, 10, 12, 13]) .skip))) (.seqX (.seq (yrv (tb S.m) [] p.y p.n L false) (.cond (b := true) rfl (.seq (.weak (kp [5]) (yye (tb S.m))) .ret))) (by simp))
 | true =>
  rw [hh, if_pos rfl] at hg he
  subst he
  obtain ⟨l1, l2⟩ := hLe hh
  have hf := yi6 hS hh
  have hna := yp3 hS p hh
  rw [hg] at hna
  have hkn : knV p (atV (tb S.m) p.y p.n) = knV p L := by
   funext q; unfold knV; rw [l1, l2]
  rw [hkn] at hna
  obtain ⟨a, b, d, f⟩ := ybm hh
  have hrn := hrw ((tb S.m).getD (p.y - 1).toNat default) (by rw [zld, zle (by omega)]; exact zlu _)
  have hth := hf.th
  have hpa := hf.pa
  have hrow : ∀ r ∈ tb S.m, r.l.length < 2 ^ 20 := fun r hr => by have := hrw r hr; omega
  have h20 := ytn (tb S.m) S.md g p.y p.n r.y r.n (k == 1) L r.y r.n k q0 q1 q2
  have hl2 := (yj6 (tb S.m) g p L (by rw [l1]; omega) (by rw [l2]; omega) ht6 hrow ⟨d, by omega⟩ 6 0 (by omega)).loop
  rw [← hna] at hl2
  have hgl : g.length ≤ 12 := by
   rw [← hg]
   have := ygd (insV (ndL (tb S.m) p.y p.n)) _ (zly _)
   rw [List.take_length, ykf] at this
   have := yna hS hh
   omega
  have h42 := yx0 g (by omega) (by simp) (by simp) (by simp)
  exact .seq (.seq (.weak (kp [3, 5, 7, 8, 9, 10, 11, 12, 13, 14, 15]) h20) (.cond (b := false) rfl (.after (kp [3, 5, 7, 10, 12, 13]) .skip))) (.seq (.seq (yrv (tb S.m) g p.y p.n L true) (.cond (b := false) rfl (.after (kp [3, 5, 7, 10, 12]) .skip))) (.seq (.seq (yyd (tb S.m) g [] p.y p.n L) (.block (ex := .exit 4) hl2 (.inl ⟨rfl, rfl⟩))) (.seq h42 .ret)))
theorem F2.cons' {α β : Type} {R : α → β → Prop} {x : α} {l : List α} {m : List β} (h : F2 R (x :: l) m) : ∃ y m', m = y :: m' ∧ R x y ∧ F2 R l m' := by
 cases h with
 | cons h t => exact ⟨_, _, rfl, h, t⟩
theorem F2.nil' {α β : Type} {R : α → β → Prop} {m : List β} (h : F2 R [] m) : m = [] := by cases h; rfl
section
variable {P : Program} {t : TypeId} {ys : List AV}
theorem yjv (m : Nat) {k : IntKind} (hu : P.underlying t = some (.int k)) (h : ya4 P (m + 1) t ys) : ∃ i, ys = [.atom (.int k i)] ∧ (Lit.int k i).wf = true := by
 unfold ya4 at h; rw [hu] at h; exact h
theorem ymj (m : Nat) (hu : P.underlying t = some .bool) (h : ya4 P (m + 1) t ys) : ∃ b, ys = [.atom (.bool b)] := by
 unfold ya4 at h; rw [hu] at h; exact h
theorem yju (m : Nat) {e : TypeId} (hu : P.underlying t = some (.slice e)) (h : ya4 P (m + 1) t ys) : ∃ xs, ys = [.sl .any e none xs] ∧ xs.length ≤ maxLen ∧ ∀ x ∈ xs, ∃ cs, x = elOf P e cs ∧ cs.length = P.cellsOf e ∧ ya4 P m e cs := by
 unfold ya4 at h; rw [hu] at h; exact h
theorem yhp (m : Nat) {fs : Array Field} (hu : P.underlying t = some (.struct fs)) (h : ya4 P (m + 1) t ys) : ∃ yss : List (List AV), ys = yss.flatten ∧ F2 (fun f cs => ya4 P m f.type cs) fs.toList yss := by
 unfold ya4 at h; rw [hu] at h; exact h
end
theorem yd1 {α : Type} (f : α → AV) (Q : α → Prop) : ∀ xs : List AV, (∀ x ∈ xs, ∃ a, x = f a ∧ Q a) → ∃ l : List α, xs = l.map f ∧ ∀ a ∈ l, Q a
 | [], _ => ⟨[], rfl, by simp⟩
 | x :: xs, h => by
  obtain ⟨a, rfl, ha⟩ := h x (by simp)
  obtain ⟨l, rfl, hl⟩ := yd1 f Q xs fun y hy => h y (by simp [hy])
  exact ⟨a :: l, rfl, by
   intro b hb
   rcases List.mem_cons.1 hb with rfl | hb
   ·exact ha
   ·exact hl b hb⟩
def U8 (x : Int) : Prop := 0 ≤ x ∧ x ≤ 255
def I64 (x : Int) : Prop := -9223372036854775808 ≤ x ∧ x ≤ 9223372036854775807
theorem ysr {i : Int} (h : (Lit.int .u8 i).wf = true) : U8 i := by
 simp only [Lit.wf, zlo, decide_eq_true_eq] at h
 exact h
theorem yzv {i : Int} (h : (Lit.int .i64 i).wf = true) : I64 i := by
 simp only [Lit.wf, zlo, decide_eq_true_eq] at h
 exact h
def Arg (P : Program) (t : TypeId) (x : AV) : Prop := ∃ ys, x = elOf P t ys ∧ ya4 P 8 t ys ∧ ys.length = P.cellsOf t
theorem args2 {P : Program} {s t : TypeId} {xs : List AV} (h : F2 (Arg P) [s, t] xs) : ∃ x y, xs = [x, y] ∧ Arg P s x ∧ Arg P t y := by
 obtain ⟨x, _, rfl, h1, h⟩ := F2.cons' h
 obtain ⟨y, _, rfl, h2, h⟩ := F2.cons' h
 obtain rfl := F2.nil' h
 exact ⟨x, y, rfl, h1, h2⟩
theorem el_no {P : Program} {t : TypeId} (h : aggT P t = false) (x : AV) : elOf P t [x] = x := by unfold elOf; rw [if_neg (Bool.eq_false_iff.1 h)]; rfl
structure Ty5 (P : Program) : Prop where
 u3 : P.underlying 3 = some (.int .i64)
 u4 : P.underlying 4 = some .bool
 u5 : P.underlying 5 = some (.int .u8)
 u65 : P.underlying 65 = some (.slice 5)
 u23 : P.underlying 23 = some (.slice 67)
 u67 : ∃ a b c d e : Field, P.underlying 67 = some (.struct #[a, b, c, d, e]) ∧ a.type = 5 ∧ b.type = 4 ∧ c.type = 4 ∧ d.type = 65 ∧ e.type = 65
 a67 : aggT P 67 = true
 a5 : aggT P 5 = false
 a23 : aggT P 23 = false
theorem tyP5 : Ty5 Try.prog := ⟨Try.underlying3, Try.underlying4, Try.underlying5, Try.underlying65, Try.underlying23, ⟨_, _, _, _, _, Try.underlying67, rfl, rfl, rfl, rfl, rfl⟩, by kernel_rfl, by kernel_rfl, by kernel_rfl⟩
section
variable {P : Program} {m : Nat}
theorem ywj (T : Ty5 P) {ys : List AV} (h : ya4 P (m + 2) 65 ys) : ∃ l : List Int, ys = [u8l none l] ∧ (∀ p ∈ l, U8 p) ∧ l.length ≤ maxLen := by
 obtain ⟨xs, rfl, hl, hx⟩ := yju (m + 1) T.u65 h
 obtain ⟨a, rfl, ha⟩ := yd1 ubE U8 xs fun x hx' => by
  obtain ⟨cs, rfl, _, hc⟩ := hx x hx'
  obtain ⟨i, rfl, w⟩ := yjv m T.u5 hc
  exact ⟨i, el_no T.a5 _, ysr w⟩
 exact ⟨a, rfl, ha, by simpa using hl⟩
theorem lx_of (T : Ty5 P) {cs : List AV} (h : ya4 P (m + 3) 67 cs) : ∃ L : Lx, .agg cs = Lx.enc L ∧ OkX L := by
 obtain ⟨fa, fb, fc, fd, fe, hu, ta, tb, tc, td, te⟩ := T.u67
 obtain ⟨yss, rfl, hf⟩ := yhp (m + 2) hu h
 obtain ⟨c1, _, rfl, h1, hf⟩ := F2.cons' hf
 obtain ⟨c2, _, rfl, h2, hf⟩ := F2.cons' hf
 obtain ⟨c3, _, rfl, h3, hf⟩ := F2.cons' hf
 obtain ⟨c4, _, rfl, h4, hf⟩ := F2.cons' hf
 obtain ⟨c5, _, rfl, h5, hf⟩ := F2.cons' hf
 obtain rfl := F2.nil' hf
 rw [ta] at h1; rw [tb] at h2; rw [tc] at h3; rw [td] at h4; rw [te] at h5
 obtain ⟨y, rfl, w1⟩ := yjv (m + 1) T.u5 h1
 obtain ⟨b, rfl⟩ := ymj (m + 1) T.u4 h2
 obtain ⟨w, rfl⟩ := ymj (m + 1) T.u4 h3
 obtain ⟨th, rfl, t1, t2⟩ := ywj T h4
 obtain ⟨pa, rfl, p1, p2⟩ := ywj T h5
 have hy := ysr w1
 exact ⟨⟨y, b, w, none, th, none, pa⟩, rfl, hy.1, hy.2, t1, p1, Nat.lt_of_le_of_lt t2 (by decide), Nat.lt_of_le_of_lt p2 (by decide)⟩
theorem arg23 (T : Ty5 P) {x : AV} (h : Arg P 23 x) : ∃ l : List Lx, x = xsl none l ∧ l.length < 2 ^ 63 ∧ ∀ L ∈ l, OkX L := by
 obtain ⟨ys, rfl, hs, _⟩ := h
 obtain ⟨xs, rfl, hl, hx⟩ := yju 7 T.u23 hs
 obtain ⟨a, rfl, ha⟩ := yd1 Lx.enc OkX xs fun x hx' => by
  obtain ⟨cs, rfl, _, hc⟩ := hx x hx'
  obtain ⟨L, hL, ok⟩ := lx_of (m := 4) T hc
  exact ⟨L, by unfold elOf; rw [if_pos T.a67]; exact hL, ok⟩
 exact ⟨a, el_no T.a23 _, Nat.lt_of_le_of_lt (by simpa using hl) (by decide), ha⟩
end
structure Ty6 (P : Program) : Prop where
 u36 : ∃ a b : Field, P.underlying 36 = some (.struct #[a, b]) ∧ a.type = 5 ∧ b.type = 3
 u60 : P.underlying 60 = some (.array 2 5)
 a36 : aggT P 36 = true
 a60 : aggT P 60 = true
theorem tyP6 : Ty6 Try.prog := ⟨⟨_, _, Try.underlying36, rfl, rfl⟩, Try.underlying60, by kernel_rfl, by kernel_rfl⟩
section
variable {P : Program} {m : Nat}
theorem id_of (T : Ty5 P) (U : Ty6 P) {cs : List AV} (h : ya4 P (m + 2) 36 cs) : ∃ p : Idd, cs = [ub p.y, it p.n] ∧ U8 p.y ∧ I64 p.n := by
 obtain ⟨fa, fb, hu, ta, tb⟩ := U.u36
 obtain ⟨yss, rfl, hf⟩ := yhp (m + 1) hu h
 obtain ⟨c1, _, rfl, h1, hf⟩ := F2.cons' hf
 obtain ⟨c2, _, rfl, h2, hf⟩ := F2.cons' hf
 obtain rfl := F2.nil' hf
 rw [ta] at h1; rw [tb] at h2
 obtain ⟨y, rfl, w1⟩ := yjv m T.u5 h1
 obtain ⟨n, rfl, w2⟩ := yjv m T.u3 h2
 exact ⟨⟨y, n⟩, rfl, ysr w1, yzv w2⟩
theorem arg36 (T : Ty5 P) (U : Ty6 P) {x : AV} (h : Arg P 36 x) : ∃ p : Idd, x = p.enc ∧ U8 p.y ∧ I64 p.n := by
 obtain ⟨ys, rfl, hs, _⟩ := h
 obtain ⟨p, rfl, h1, h2⟩ := id_of (m := 6) T U hs
 exact ⟨p, by unfold elOf; rw [if_pos U.a36]; rfl, h1, h2⟩
end
end Tst
end

section
open Go Go.Lf Go.Proofs Tst
namespace Go.Proofs.Ytpjlfgacjbkbbaa.loopsNeeds
theorem LoopsNeeds_pure (xs : List AV) (h : F2 (fun t x => ∃ ys, x = elOf Try.prog t ys ∧ ya4 Try.prog 8 t ys ∧ ys.length = Try.prog.cellsOf t) Try.f5.params.toList xs) : PureC Try.prog 5 xs (.atom (.bool true)) := by
 rw [Try.params5] at h
 obtain ⟨x, y, rfl, h1, h2⟩ := args2 (P := Try.prog) h
 obtain ⟨l, rfl, hl, hX⟩ := arg23 tyP5 h1
 obtain ⟨p, rfl, hp, _⟩ := arg36 tyP5 tyP6 h2
 exact ynm none l hl hX p hp.1 hp.2
end Go.Proofs.Ytpjlfgacjbkbbaa.loopsNeeds
end
