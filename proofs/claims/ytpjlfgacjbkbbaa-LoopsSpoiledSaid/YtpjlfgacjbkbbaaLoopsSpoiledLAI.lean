/- Part 9 of the evaluator and of the contracts that the claim uses. -/
import Derived.Test.YtpjlfgacjbkbbaaLoopsSpoiledLAA
import Derived.Test.YtpjlfgacjbkbbaaLoopsSpoiledLAB
import Derived.Test.YtpjlfgacjbkbbaaLoopsSpoiledLAC
import Derived.Test.YtpjlfgacjbkbbaaLoopsSpoiledLAD
import Derived.Test.YtpjlfgacjbkbbaaLoopsSpoiledLAE
import Derived.Test.YtpjlfgacjbkbbaaLoopsSpoiledLAF
import Derived.Test.YtpjlfgacjbkbbaaLoopsSpoiledLAG
import Derived.Test.YtpjlfgacjbkbbaaLoopsSpoiledLAH
set_option linter.unusedVariables false
set_option linter.unusedSimpArgs false
set_option linter.constructorNameAsVariable false
set_option linter.unusedSectionVars false
open Go.IntKind (i64 u8)

section
open Go Go.Lf Go.Proofs
namespace Tst
noncomputable abbrev zqy : Array Oper := zql Try.f9 22
noncomputable abbrev y22 (k : Nat) : Oper := (zql Try.f9 22).toList.getD k default
theorem zri (k : Nat) (ks : List (Nat × Wk)) (env env3 : Env) (ans : List Ans) (ps : List Prop) (hp : ∀ q ∈ ps, q) (hg : (y22 k).guard = none) (h : (ybu Try.prog (cxN 184 0) zqy [y22 k] env ans).map (fun r => (keepE ks r.1, r.2)) = some (env3, ps)) : OpR Try.prog (cxN 184 0) (y22 k) env (· = env3) := by
 cases ho : ybu Try.prog (cxN 184 0) zqy [y22 k] env ans with
 | none => rw [ho] at h; cases h
 | some r =>
  rw [ho] at h
  injection h with h
  injection h with h1 h2
  obtain ⟨r1, r2⟩ := r
  simp only at h1 h2
  subst h1 h2
  exact OpR.keep _ (OpR.ev (ops := zqy) (base 184 0) zqb.1 zqb.2 hg ho hp)
section
variable (c : Option Nat) (x : List Lx) (m : List (List Lp)) (fr md : List Idd) (i y : Int) (b : Int) (w : Bool) (th : List Idd) (pa : List Ps) (p q : Int)
abbrev bs : Env := [(0, xsl c x), (5, iow none fr), (6, iow none md), (7, it i), (8, it y), (14, .box [ub p, it q])]
abbrev agF : AV := .agg [ub b, bb w, .sl .fresh 36 none (th.map Idd.enc), .sl .fresh 56 none (pa.map Ps.enc)]
abbrev tBad : AV := .sl .own 37 none (List.set (List.map gOW m) y.toNat (setE (List.getD (List.map gOW m) y.toNat AV.bad) 0 [AV.bad]))
abbrev rAp : AV := .sl .own 45 none ((m.getD y.toNat default).map Lp.encG ++ [agF b w th pa])
abbrev q4 : Prop := decide ((0 : Int) ≤ y ∧ y < ((List.map gOW m).length : Nat)) = true
abbrev q5 : Prop := decide (y.toNat < (List.map gOW m).length) = true
abbrev q5b : Prop := List.getD (List.map gOW m) y.toNat AV.bad = gOW (m.getD y.toNat default)
abbrev q6 : Prop := AV.agg ([ub b, bb w, .sl .own 36 none (th.map Idd.enc), .sl .own 56 none (pa.map Ps.enc)].map share) = agF b w th pa
abbrev q8 : Prop := decide (((m.getD y.toNat default).map Lp.encG).length + [agF b w th pa].length ≤ 4294967296) = true
variable (h4 : q4 m y) (h5 : q5 m y) (h5b : q5b m y) (h6 : q6 b w th pa) (h8 : q8 m y b w th pa)
abbrev q9 : Prop := decide ((0 : Int) ≤ y ∧ y < ((List.set (List.map gOW m) y.toNat (setE (List.getD (List.map gOW m) y.toNat AV.bad) 0 [AV.bad])).length : Nat)) = true
variable (h9 : q9 m y)
abbrev tNew : AV := .sl .own 37 none (List.set (List.set (List.map gOW m) y.toNat (setE (List.getD (List.map gOW m) y.toNat AV.bad) 0 [AV.bad])) y.toNat (setE (List.getD (List.set (List.map gOW m) y.toNat (setE (List.getD (List.map gOW m) y.toNat AV.bad) 0 [AV.bad])) y.toNat AV.bad) 0 [rAp m y b w th pa]))
abbrev q10 : Prop := decide (y.toNat < (List.set (List.map gOW m) y.toNat (setE (List.getD (List.map gOW m) y.toNat AV.bad) 0 [AV.bad])).length) = true
abbrev q11 : Prop := List.getD (List.set (List.map gOW m) y.toNat (setE (List.getD (List.map gOW m) y.toNat AV.bad) 0 [AV.bad])) y.toNat AV.bad = AV.bad
variable (h10 : q10 m y ∧ q11 m y)
abbrev R22 : Env → Prop := (· = (4, tNew m y b w th pa) :: bs c x fr md i y p q)
include h4 h5 h5b h6 h8 h9 h10
theorem fin22 : AnyR Try.prog (cxN 184 0) zqy (R22 c x m fr md i y b w th pa p q) 2 #[true, true, true, true, true, true, true, true, true, false, false] ([(4, tBad m y), (172, rAp m y b w th pa), (164, .al 4 [] none), (165, it y)] ++ bs c x fr md i y p q) := by
 refine AnyR.step [9] (by kernel_rfl) (by simp) fun k hk => ?_
 rw [zlv] at hk; subst hk
 refine ⟨y22 9, [(4, tBad m y), (172, rAp m y b w th pa), (173, .adr 4 [] y.toNat 0)] ++ bs c x fr md i y p q, by kernel_rfl, by kernel_rfl, zri 9 (kp [4, 172, 173, 0, 5, 6, 7, 8, 14]) _ _ [.b true, .c] [q9 m y] (allp h9 zqa) (by kernel_rfl) (by kernel_rfl), ?_⟩
 refine AnyR.step [10] (by kernel_rfl) (by simp) fun k hk => ?_
 rw [zlv] at hk; subst hk
 exact ⟨y22 10, _, by kernel_rfl, by kernel_rfl, zri 10 (kp [4, 0, 5, 6, 7, 8, 14]) _ ((4, tNew m y b w th pa) :: bs c x fr md i y p q) [.b true, .r .bad, .c] [q10 m y, q11 m y] (allp h10.1 (allp h10.2 zqa)) (by kernel_rfl) (by kernel_rfl), by kernel_rfl, rfl⟩
end
abbrev H22 (m : List (List Lp)) (y b : Int) (w : Bool) (th : List Idd) (pa : List Ps) : Prop := q4 m y ∧ q5 m y ∧ q5b m y ∧ q6 b w th pa ∧ q8 m y b w th pa ∧ q9 m y ∧ q10 m y ∧ q11 m y
abbrev A22 (c : Option Nat) (x : List Lx) (m : List (List Lp)) (fr md : List Idd) (i y : Int) (b : Int) (w : Bool) (th : List Idd) (pa : List Ps) (p q : Int) (n : Nat) (a : Array Bool) (e : Env) : Prop := AnyR Try.prog (cxN 184 0) zqy (R22 c x m fr md i y b w th pa p q) n a (e ++ bs c x fr md i y p q)
theorem br {R : Env → Prop} {f : Nat} {l : Array Bool} {e env1 : Env} (k : Nat) (ans : List Ans) {ps : List Prop} (hp : ∀ q ∈ ps, q) (h : AnyR Try.prog (cxN 184 0) zqy R f (l.setIfInBounds k true) env1) (h1 : zqy[k]? = some (y22 k) := by kernel_rfl) (h2 : (y22 k).guard = none := by kernel_rfl) (h3 : (ybu Try.prog (cxN 184 0) zqy [y22 k] e ans).map (fun r => (keepE (kp (env1.map Prod.fst)) r.1, r.2)) = some (env1, ps) := by kernel_rfl) : ∃ y env1, zqy[k]? = some y ∧ y.guard = none ∧ OpR Try.prog (cxN 184 0) y e (· = env1) ∧ AnyR Try.prog (cxN 184 0) zqy R f (l.setIfInBounds k true) env1 := ⟨y22 k, env1, h1, h2, zri k _ e env1 ans ps hp h2 h3, h⟩
theorem am {P : Nat → Prop} {a : Nat} {l : List Nat} (h : P a) (hl : ∀ i ∈ l, P i) : ∀ i ∈ a :: l, P i := List.forall_mem_cons.2 ⟨h, hl⟩
theorem an {P : Nat → Prop} : ∀ i ∈ ([] : List Nat), P i := fun _ h => nomatch h
section
variable {c : Option Nat} {x : List Lx} {m : List (List Lp)} {fr md : List Idd} {i y : Int} {b : Int} {w : Bool} {th : List Idd} {pa : List Ps} {p q : Int} (H : H22 m y b w th pa)
include H
theorem c4 : ∀ q ∈ [q4 m y], q := allp H.1 zqa
theorem c5 : ∀ q ∈ [q5 m y, q5b m y], q := allp H.2.1 (allp H.2.2.1 zqa)
theorem c6 : ∀ q ∈ [q6 b w th pa], q := allp H.2.2.2.1 zqa
theorem c8 : ∀ q ∈ [q5 m y, q5b m y, q5 m y, q5b m y, q8 m y b w th pa], q := allp H.2.1 (allp H.2.2.1 (allp H.2.1 (allp H.2.2.1 (allp H.2.2.2.2.1 zqa))))
theorem m303 : A22 c x m fr md i y b w th pa p q 2 #[true, true, true, true, true, true, true, true, true, false, false] [(4, tBad m y), (172, rAp m y b w th pa), (164, .al 4 [] none), (165, it y)] := fin22 c x m fr md i y b w th pa p q H.1 H.2.1 H.2.2.1 H.2.2.2.1 H.2.2.2.2.1 H.2.2.2.2.2.1 H.2.2.2.2.2.2
theorem m352 : A22 c x m fr md i y b w th pa p q 3 #[true, true, true, true, true, true, true, true, false, false, false] [(4, tGW m), (164, .al 4 [] none), (165, it y), (169, .al 4 [(y.toNat, 0)] none), (171, .sl .own 45 (some 1) [agF b w th pa])] := AnyR.step [8] (by kernel_rfl) (by simp) (am (br 8 [.c, .b true, .r (gOW (m.getD y.toNat default)), .b true, .r (gOW (m.getD y.toNat default)), .b true, .c] (c8 H) (m303 H)) an)
theorem m351 : A22 c x m fr md i y b w th pa p q 4 #[true, true, true, true, true, true, true, false, false, false, false] [(4, tGW m), (164, .al 4 [] none), (165, it y), (169, .al 4 [(y.toNat, 0)] none), (170, agF b w th pa)] := AnyR.step [7] (by kernel_rfl) (by simp) (am (br 7 [.c, .c, .c] zqa (m352 H)) an)
theorem m350 : A22 c x m fr md i y b w th pa p q 5 #[true, true, true, true, true, true, false, false, false, false, false] [(4, tGW m), (164, .al 4 [] none), (165, it y), (169, .al 4 [(y.toNat, 0)] none), (9, bxL b w th pa)] := AnyR.step [6] (by kernel_rfl) (by simp) (am (br 6 [.r (agF b w th pa), .c, .c] (c6 H) (m351 H)) an)
theorem m342 : A22 c x m fr md i y b w th pa p q 4 #[true, true, true, true, true, false, true, true, false, false, false] [(4, tGW m), (164, .al 4 [] none), (165, it y), (168, .adr 4 [] y.toNat 0), (171, .sl .own 45 (some 1) [agF b w th pa])] := AnyR.step [5] (by kernel_rfl) (by simp) (am (br 5 [.b true, .r (gOW (m.getD y.toNat default)), .c] (c5 H) (m352 H)) an)
theorem m341 : A22 c x m fr md i y b w th pa p q 5 #[true, true, true, true, true, false, true, false, false, false, false] [(4, tGW m), (164, .al 4 [] none), (165, it y), (168, .adr 4 [] y.toNat 0), (170, agF b w th pa)] := AnyR.step [5, 7] (by kernel_rfl) (by simp) (am (br 5 [.b true, .r (gOW (m.getD y.toNat default)), .c] (c5 H) (m351 H)) (am (br 7 [.c, .c, .c] zqa (m342 H)) an))
theorem m340 : A22 c x m fr md i y b w th pa p q 6 #[true, true, true, true, true, false, false, false, false, false, false] [(4, tGW m), (164, .al 4 [] none), (165, it y), (168, .adr 4 [] y.toNat 0), (9, bxL b w th pa)] := AnyR.step [5, 6] (by kernel_rfl) (by simp) (am (br 5 [.b true, .r (gOW (m.getD y.toNat default)), .c] (c5 H) (m350 H)) (am (br 6 [.r (agF b w th pa), .c, .c] (c6 H) (m341 H)) an))
theorem m332 : A22 c x m fr md i y b w th pa p q 5 #[true, true, true, true, false, false, true, true, false, false, false] [(4, tGW m), (164, .al 4 [] none), (165, it y), (166, .al 4 [] none), (167, it y), (171, .sl .own 45 (some 1) [agF b w th pa])] := AnyR.step [4] (by kernel_rfl) (by simp) (am (br 4 [.b true, .c] (c4 H) (m342 H)) an)
theorem m331 : A22 c x m fr md i y b w th pa p q 6 #[true, true, true, true, false, false, true, false, false, false, false] [(4, tGW m), (164, .al 4 [] none), (165, it y), (166, .al 4 [] none), (167, it y), (170, agF b w th pa)] := AnyR.step [4, 7] (by kernel_rfl) (by simp) (am (br 4 [.b true, .c] (c4 H) (m341 H)) (am (br 7 [.c, .c, .c] zqa (m332 H)) an))
theorem m330 : A22 c x m fr md i y b w th pa p q 7 #[true, true, true, true, false, false, false, false, false, false, false] [(4, tGW m), (164, .al 4 [] none), (165, it y), (166, .al 4 [] none), (167, it y), (9, bxL b w th pa)] := AnyR.step [4, 6] (by kernel_rfl) (by simp) (am (br 4 [.b true, .c] (c4 H) (m340 H)) (am (br 6 [.r (agF b w th pa), .c, .c] (c6 H) (m331 H)) an))
theorem m312 : A22 c x m fr md i y b w th pa p q 6 #[true, true, true, false, false, false, true, true, false, false, false] [(4, tGW m), (164, .al 4 [] none), (165, it y), (166, .al 4 [] none), (171, .sl .own 45 (some 1) [agF b w th pa])] := AnyR.step [3] (by kernel_rfl) (by simp) (am (br 3 [.c] zqa (m332 H)) an)
theorem m311 : A22 c x m fr md i y b w th pa p q 7 #[true, true, true, false, false, false, true, false, false, false, false] [(4, tGW m), (164, .al 4 [] none), (165, it y), (166, .al 4 [] none), (170, agF b w th pa)] := AnyR.step [3, 7] (by kernel_rfl) (by simp) (am (br 3 [.c] zqa (m331 H)) (am (br 7 [.c, .c, .c] zqa (m312 H)) an))
theorem m310 : A22 c x m fr md i y b w th pa p q 8 #[true, true, true, false, false, false, false, false, false, false, false] [(4, tGW m), (164, .al 4 [] none), (165, it y), (166, .al 4 [] none), (9, bxL b w th pa)] := AnyR.step [3, 6] (by kernel_rfl) (by simp) (am (br 3 [.c] zqa (m330 H)) (am (br 6 [.r (agF b w th pa), .c, .c] (c6 H) (m311 H)) an))
theorem m322 : A22 c x m fr md i y b w th pa p q 6 #[true, true, false, true, false, false, true, true, false, false, false] [(4, tGW m), (164, .al 4 [] none), (165, it y), (167, it y), (171, .sl .own 45 (some 1) [agF b w th pa])] := AnyR.step [2] (by kernel_rfl) (by simp) (am (br 2 [.c] zqa (m332 H)) an)
theorem m321 : A22 c x m fr md i y b w th pa p q 7 #[true, true, false, true, false, false, true, false, false, false, false] [(4, tGW m), (164, .al 4 [] none), (165, it y), (167, it y), (170, agF b w th pa)] := AnyR.step [2, 7] (by kernel_rfl) (by simp) (am (br 2 [.c] zqa (m331 H)) (am (br 7 [.c, .c, .c] zqa (m322 H)) an))
theorem m320 : A22 c x m fr md i y b w th pa p q 8 #[true, true, false, true, false, false, false, false, false, false, false] [(4, tGW m), (164, .al 4 [] none), (165, it y), (167, it y), (9, bxL b w th pa)] := AnyR.step [2, 6] (by kernel_rfl) (by simp) (am (br 2 [.c] zqa (m330 H)) (am (br 6 [.r (agF b w th pa), .c, .c] (c6 H) (m321 H)) an))
theorem m302 : A22 c x m fr md i y b w th pa p q 7 #[true, true, false, false, false, false, true, true, false, false, false] [(4, tGW m), (164, .al 4 [] none), (165, it y), (171, .sl .own 45 (some 1) [agF b w th pa])] := AnyR.step [2, 3] (by kernel_rfl) (by simp) (am (br 2 [.c] zqa (m312 H)) (am (br 3 [.c] zqa (m322 H)) an))
theorem m301 : A22 c x m fr md i y b w th pa p q 8 #[true, true, false, false, false, false, true, false, false, false, false] [(4, tGW m), (164, .al 4 [] none), (165, it y), (170, agF b w th pa)] := AnyR.step [2, 3, 7] (by kernel_rfl) (by simp) (am (br 2 [.c] zqa (m311 H)) (am (br 3 [.c] zqa (m321 H)) (am (br 7 [.c, .c, .c] zqa (m302 H)) an)))
theorem m300 : A22 c x m fr md i y b w th pa p q 9 #[true, true, false, false, false, false, false, false, false, false, false] [(4, tGW m), (164, .al 4 [] none), (165, it y), (9, bxL b w th pa)] := AnyR.step [2, 3, 6] (by kernel_rfl) (by simp) (am (br 2 [.c] zqa (m310 H)) (am (br 3 [.c] zqa (m320 H)) (am (br 6 [.r (agF b w th pa), .c, .c] (c6 H) (m301 H)) an)))
theorem m103 : A22 c x m fr md i y b w th pa p q 3 #[true, false, true, true, true, true, true, true, true, false, false] [(4, tBad m y), (172, rAp m y b w th pa), (164, .al 4 [] none)] := AnyR.step [1] (by kernel_rfl) (by simp) (am (br 1 [.c] zqa (m303 H)) an)
theorem m152 : A22 c x m fr md i y b w th pa p q 4 #[true, false, true, true, true, true, true, true, false, false, false] [(4, tGW m), (164, .al 4 [] none), (169, .al 4 [(y.toNat, 0)] none), (171, .sl .own 45 (some 1) [agF b w th pa])] := AnyR.step [1, 8] (by kernel_rfl) (by simp) (am (br 1 [.c] zqa (m352 H)) (am (br 8 [.c, .b true, .r (gOW (m.getD y.toNat default)), .b true, .r (gOW (m.getD y.toNat default)), .b true, .c] (c8 H) (m103 H)) an))
theorem m151 : A22 c x m fr md i y b w th pa p q 5 #[true, false, true, true, true, true, true, false, false, false, false] [(4, tGW m), (164, .al 4 [] none), (169, .al 4 [(y.toNat, 0)] none), (170, agF b w th pa)] := AnyR.step [1, 7] (by kernel_rfl) (by simp) (am (br 1 [.c] zqa (m351 H)) (am (br 7 [.c, .c, .c] zqa (m152 H)) an))
theorem m150 : A22 c x m fr md i y b w th pa p q 6 #[true, false, true, true, true, true, false, false, false, false, false] [(4, tGW m), (164, .al 4 [] none), (169, .al 4 [(y.toNat, 0)] none), (9, bxL b w th pa)] := AnyR.step [1, 6] (by kernel_rfl) (by simp) (am (br 1 [.c] zqa (m350 H)) (am (br 6 [.r (agF b w th pa), .c, .c] (c6 H) (m151 H)) an))
theorem m142 : A22 c x m fr md i y b w th pa p q 5 #[true, false, true, true, true, false, true, true, false, false, false] [(4, tGW m), (164, .al 4 [] none), (168, .adr 4 [] y.toNat 0), (171, .sl .own 45 (some 1) [agF b w th pa])] := AnyR.step [1, 5] (by kernel_rfl) (by simp) (am (br 1 [.c] zqa (m342 H)) (am (br 5 [.b true, .r (gOW (m.getD y.toNat default)), .c] (c5 H) (m152 H)) an))
theorem m141 : A22 c x m fr md i y b w th pa p q 6 #[true, false, true, true, true, false, true, false, false, false, false] [(4, tGW m), (164, .al 4 [] none), (168, .adr 4 [] y.toNat 0), (170, agF b w th pa)] := AnyR.step [1, 5, 7] (by kernel_rfl) (by simp) (am (br 1 [.c] zqa (m341 H)) (am (br 5 [.b true, .r (gOW (m.getD y.toNat default)), .c] (c5 H) (m151 H)) (am (br 7 [.c, .c, .c] zqa (m142 H)) an)))
theorem m140 : A22 c x m fr md i y b w th pa p q 7 #[true, false, true, true, true, false, false, false, false, false, false] [(4, tGW m), (164, .al 4 [] none), (168, .adr 4 [] y.toNat 0), (9, bxL b w th pa)] := AnyR.step [1, 5, 6] (by kernel_rfl) (by simp) (am (br 1 [.c] zqa (m340 H)) (am (br 5 [.b true, .r (gOW (m.getD y.toNat default)), .c] (c5 H) (m150 H)) (am (br 6 [.r (agF b w th pa), .c, .c] (c6 H) (m141 H)) an)))
theorem m132 : A22 c x m fr md i y b w th pa p q 6 #[true, false, true, true, false, false, true, true, false, false, false] [(4, tGW m), (164, .al 4 [] none), (166, .al 4 [] none), (167, it y), (171, .sl .own 45 (some 1) [agF b w th pa])] := AnyR.step [1, 4] (by kernel_rfl) (by simp) (am (br 1 [.c] zqa (m332 H)) (am (br 4 [.b true, .c] (c4 H) (m142 H)) an))
theorem m131 : A22 c x m fr md i y b w th pa p q 7 #[true, false, true, true, false, false, true, false, false, false, false] [(4, tGW m), (164, .al 4 [] none), (166, .al 4 [] none), (167, it y), (170, agF b w th pa)] := AnyR.step [1, 4, 7] (by kernel_rfl) (by simp) (am (br 1 [.c] zqa (m331 H)) (am (br 4 [.b true, .c] (c4 H) (m141 H)) (am (br 7 [.c, .c, .c] zqa (m132 H)) an)))
theorem m130 : A22 c x m fr md i y b w th pa p q 8 #[true, false, true, true, false, false, false, false, false, false, false] [(4, tGW m), (164, .al 4 [] none), (166, .al 4 [] none), (167, it y), (9, bxL b w th pa)] := AnyR.step [1, 4, 6] (by kernel_rfl) (by simp) (am (br 1 [.c] zqa (m330 H)) (am (br 4 [.b true, .c] (c4 H) (m140 H)) (am (br 6 [.r (agF b w th pa), .c, .c] (c6 H) (m131 H)) an)))
theorem m112 : A22 c x m fr md i y b w th pa p q 7 #[true, false, true, false, false, false, true, true, false, false, false] [(4, tGW m), (164, .al 4 [] none), (166, .al 4 [] none), (171, .sl .own 45 (some 1) [agF b w th pa])] := AnyR.step [1, 3] (by kernel_rfl) (by simp) (am (br 1 [.c] zqa (m312 H)) (am (br 3 [.c] zqa (m132 H)) an))
theorem m111 : A22 c x m fr md i y b w th pa p q 8 #[true, false, true, false, false, false, true, false, false, false, false] [(4, tGW m), (164, .al 4 [] none), (166, .al 4 [] none), (170, agF b w th pa)] := AnyR.step [1, 3, 7] (by kernel_rfl) (by simp) (am (br 1 [.c] zqa (m311 H)) (am (br 3 [.c] zqa (m131 H)) (am (br 7 [.c, .c, .c] zqa (m112 H)) an)))
theorem m110 : A22 c x m fr md i y b w th pa p q 9 #[true, false, true, false, false, false, false, false, false, false, false] [(4, tGW m), (164, .al 4 [] none), (166, .al 4 [] none), (9, bxL b w th pa)] := AnyR.step [1, 3, 6] (by kernel_rfl) (by simp) (am (br 1 [.c] zqa (m310 H)) (am (br 3 [.c] zqa (m130 H)) (am (br 6 [.r (agF b w th pa), .c, .c] (c6 H) (m111 H)) an)))
theorem m122 : A22 c x m fr md i y b w th pa p q 7 #[true, false, false, true, false, false, true, true, false, false, false] [(4, tGW m), (164, .al 4 [] none), (167, it y), (171, .sl .own 45 (some 1) [agF b w th pa])] := AnyR.step [1, 2] (by kernel_rfl) (by simp) (am (br 1 [.c] zqa (m322 H)) (am (br 2 [.c] zqa (m132 H)) an))
theorem m121 : A22 c x m fr md i y b w th pa p q 8 #[true, false, false, true, false, false, true, false, false, false, false] [(4, tGW m), (164, .al 4 [] none), (167, it y), (170, agF b w th pa)] := AnyR.step [1, 2, 7] (by kernel_rfl) (by simp) (am (br 1 [.c] zqa (m321 H)) (am (br 2 [.c] zqa (m131 H)) (am (br 7 [.c, .c, .c] zqa (m122 H)) an)))
theorem m120 : A22 c x m fr md i y b w th pa p q 9 #[true, false, false, true, false, false, false, false, false, false, false] [(4, tGW m), (164, .al 4 [] none), (167, it y), (9, bxL b w th pa)] := AnyR.step [1, 2, 6] (by kernel_rfl) (by simp) (am (br 1 [.c] zqa (m320 H)) (am (br 2 [.c] zqa (m130 H)) (am (br 6 [.r (agF b w th pa), .c, .c] (c6 H) (m121 H)) an)))
theorem m102 : A22 c x m fr md i y b w th pa p q 8 #[true, false, false, false, false, false, true, true, false, false, false] [(4, tGW m), (164, .al 4 [] none), (171, .sl .own 45 (some 1) [agF b w th pa])] := AnyR.step [1, 2, 3] (by kernel_rfl) (by simp) (am (br 1 [.c] zqa (m302 H)) (am (br 2 [.c] zqa (m112 H)) (am (br 3 [.c] zqa (m122 H)) an)))
theorem m101 : A22 c x m fr md i y b w th pa p q 9 #[true, false, false, false, false, false, true, false, false, false, false] [(4, tGW m), (164, .al 4 [] none), (170, agF b w th pa)] := AnyR.step [1, 2, 3, 7] (by kernel_rfl) (by simp) (am (br 1 [.c] zqa (m301 H)) (am (br 2 [.c] zqa (m111 H)) (am (br 3 [.c] zqa (m121 H)) (am (br 7 [.c, .c, .c] zqa (m102 H)) an))))
theorem m100 : A22 c x m fr md i y b w th pa p q 10 #[true, false, false, false, false, false, false, false, false, false, false] [(4, tGW m), (164, .al 4 [] none), (9, bxL b w th pa)] := AnyR.step [1, 2, 3, 6] (by kernel_rfl) (by simp) (am (br 1 [.c] zqa (m300 H)) (am (br 2 [.c] zqa (m110 H)) (am (br 3 [.c] zqa (m120 H)) (am (br 6 [.r (agF b w th pa), .c, .c] (c6 H) (m101 H)) an))))
theorem m203 : A22 c x m fr md i y b w th pa p q 3 #[false, true, true, true, true, true, true, true, true, false, false] [(4, tBad m y), (172, rAp m y b w th pa), (165, it y)] := AnyR.step [0] (by kernel_rfl) (by simp) (am (br 0 [.c] zqa (m303 H)) an)
theorem m252 : A22 c x m fr md i y b w th pa p q 4 #[false, true, true, true, true, true, true, true, false, false, false] [(4, tGW m), (165, it y), (169, .al 4 [(y.toNat, 0)] none), (171, .sl .own 45 (some 1) [agF b w th pa])] := AnyR.step [0, 8] (by kernel_rfl) (by simp) (am (br 0 [.c] zqa (m352 H)) (am (br 8 [.c, .b true, .r (gOW (m.getD y.toNat default)), .b true, .r (gOW (m.getD y.toNat default)), .b true, .c] (c8 H) (m203 H)) an))
theorem m251 : A22 c x m fr md i y b w th pa p q 5 #[false, true, true, true, true, true, true, false, false, false, false] [(4, tGW m), (165, it y), (169, .al 4 [(y.toNat, 0)] none), (170, agF b w th pa)] := AnyR.step [0, 7] (by kernel_rfl) (by simp) (am (br 0 [.c] zqa (m351 H)) (am (br 7 [.c, .c, .c] zqa (m252 H)) an))
theorem m250 : A22 c x m fr md i y b w th pa p q 6 #[false, true, true, true, true, true, false, false, false, false, false] [(4, tGW m), (165, it y), (169, .al 4 [(y.toNat, 0)] none), (9, bxL b w th pa)] := AnyR.step [0, 6] (by kernel_rfl) (by simp) (am (br 0 [.c] zqa (m350 H)) (am (br 6 [.r (agF b w th pa), .c, .c] (c6 H) (m251 H)) an))
theorem m242 : A22 c x m fr md i y b w th pa p q 5 #[false, true, true, true, true, false, true, true, false, false, false] [(4, tGW m), (165, it y), (168, .adr 4 [] y.toNat 0), (171, .sl .own 45 (some 1) [agF b w th pa])] := AnyR.step [0, 5] (by kernel_rfl) (by simp) (am (br 0 [.c] zqa (m342 H)) (am (br 5 [.b true, .r (gOW (m.getD y.toNat default)), .c] (c5 H) (m252 H)) an))
theorem m241 : A22 c x m fr md i y b w th pa p q 6 #[false, true, true, true, true, false, true, false, false, false, false] [(4, tGW m), (165, it y), (168, .adr 4 [] y.toNat 0), (170, agF b w th pa)] := AnyR.step [0, 5, 7] (by kernel_rfl) (by simp) (am (br 0 [.c] zqa (m341 H)) (am (br 5 [.b true, .r (gOW (m.getD y.toNat default)), .c] (c5 H) (m251 H)) (am (br 7 [.c, .c, .c] zqa (m242 H)) an)))
theorem m240 : A22 c x m fr md i y b w th pa p q 7 #[false, true, true, true, true, false, false, false, false, false, false] [(4, tGW m), (165, it y), (168, .adr 4 [] y.toNat 0), (9, bxL b w th pa)] := AnyR.step [0, 5, 6] (by kernel_rfl) (by simp) (am (br 0 [.c] zqa (m340 H)) (am (br 5 [.b true, .r (gOW (m.getD y.toNat default)), .c] (c5 H) (m250 H)) (am (br 6 [.r (agF b w th pa), .c, .c] (c6 H) (m241 H)) an)))
theorem m232 : A22 c x m fr md i y b w th pa p q 6 #[false, true, true, true, false, false, true, true, false, false, false] [(4, tGW m), (165, it y), (166, .al 4 [] none), (167, it y), (171, .sl .own 45 (some 1) [agF b w th pa])] := AnyR.step [0, 4] (by kernel_rfl) (by simp) (am (br 0 [.c] zqa (m332 H)) (am (br 4 [.b true, .c] (c4 H) (m242 H)) an))
theorem m231 : A22 c x m fr md i y b w th pa p q 7 #[false, true, true, true, false, false, true, false, false, false, false] [(4, tGW m), (165, it y), (166, .al 4 [] none), (167, it y), (170, agF b w th pa)] := AnyR.step [0, 4, 7] (by kernel_rfl) (by simp) (am (br 0 [.c] zqa (m331 H)) (am (br 4 [.b true, .c] (c4 H) (m241 H)) (am (br 7 [.c, .c, .c] zqa (m232 H)) an)))
theorem m230 : A22 c x m fr md i y b w th pa p q 8 #[false, true, true, true, false, false, false, false, false, false, false] [(4, tGW m), (165, it y), (166, .al 4 [] none), (167, it y), (9, bxL b w th pa)] := AnyR.step [0, 4, 6] (by kernel_rfl) (by simp) (am (br 0 [.c] zqa (m330 H)) (am (br 4 [.b true, .c] (c4 H) (m240 H)) (am (br 6 [.r (agF b w th pa), .c, .c] (c6 H) (m231 H)) an)))
theorem m212 : A22 c x m fr md i y b w th pa p q 7 #[false, true, true, false, false, false, true, true, false, false, false] [(4, tGW m), (165, it y), (166, .al 4 [] none), (171, .sl .own 45 (some 1) [agF b w th pa])] := AnyR.step [0, 3] (by kernel_rfl) (by simp) (am (br 0 [.c] zqa (m312 H)) (am (br 3 [.c] zqa (m232 H)) an))
theorem m211 : A22 c x m fr md i y b w th pa p q 8 #[false, true, true, false, false, false, true, false, false, false, false] [(4, tGW m), (165, it y), (166, .al 4 [] none), (170, agF b w th pa)] := AnyR.step [0, 3, 7] (by kernel_rfl) (by simp) (am (br 0 [.c] zqa (m311 H)) (am (br 3 [.c] zqa (m231 H)) (am (br 7 [.c, .c, .c] zqa (m212 H)) an)))
theorem m210 : A22 c x m fr md i y b w th pa p q 9 #[false, true, true, false, false, false, false, false, false, false, false] [(4, tGW m), (165, it y), (166, .al 4 [] none), (9, bxL b w th pa)] := AnyR.step [0, 3, 6] (by kernel_rfl) (by simp) (am (br 0 [.c] zqa (m310 H)) (am (br 3 [.c] zqa (m230 H)) (am (br 6 [.r (agF b w th pa), .c, .c] (c6 H) (m211 H)) an)))
theorem m222 : A22 c x m fr md i y b w th pa p q 7 #[false, true, false, true, false, false, true, true, false, false, false] [(4, tGW m), (165, it y), (167, it y), (171, .sl .own 45 (some 1) [agF b w th pa])] := AnyR.step [0, 2] (by kernel_rfl) (by simp) (am (br 0 [.c] zqa (m322 H)) (am (br 2 [.c] zqa (m232 H)) an))
theorem m221 : A22 c x m fr md i y b w th pa p q 8 #[false, true, false, true, false, false, true, false, false, false, false] [(4, tGW m), (165, it y), (167, it y), (170, agF b w th pa)] := AnyR.step [0, 2, 7] (by kernel_rfl) (by simp) (am (br 0 [.c] zqa (m321 H)) (am (br 2 [.c] zqa (m231 H)) (am (br 7 [.c, .c, .c] zqa (m222 H)) an)))
theorem m220 : A22 c x m fr md i y b w th pa p q 9 #[false, true, false, true, false, false, false, false, false, false, false] [(4, tGW m), (165, it y), (167, it y), (9, bxL b w th pa)] := AnyR.step [0, 2, 6] (by kernel_rfl) (by simp) (am (br 0 [.c] zqa (m320 H)) (am (br 2 [.c] zqa (m230 H)) (am (br 6 [.r (agF b w th pa), .c, .c] (c6 H) (m221 H)) an)))
theorem m202 : A22 c x m fr md i y b w th pa p q 8 #[false, true, false, false, false, false, true, true, false, false, false] [(4, tGW m), (165, it y), (171, .sl .own 45 (some 1) [agF b w th pa])] := AnyR.step [0, 2, 3] (by kernel_rfl) (by simp) (am (br 0 [.c] zqa (m302 H)) (am (br 2 [.c] zqa (m212 H)) (am (br 3 [.c] zqa (m222 H)) an)))
theorem m201 : A22 c x m fr md i y b w th pa p q 9 #[false, true, false, false, false, false, true, false, false, false, false] [(4, tGW m), (165, it y), (170, agF b w th pa)] := AnyR.step [0, 2, 3, 7] (by kernel_rfl) (by simp) (am (br 0 [.c] zqa (m301 H)) (am (br 2 [.c] zqa (m211 H)) (am (br 3 [.c] zqa (m221 H)) (am (br 7 [.c, .c, .c] zqa (m202 H)) an))))
theorem m200 : A22 c x m fr md i y b w th pa p q 10 #[false, true, false, false, false, false, false, false, false, false, false] [(4, tGW m), (165, it y), (9, bxL b w th pa)] := AnyR.step [0, 2, 3, 6] (by kernel_rfl) (by simp) (am (br 0 [.c] zqa (m300 H)) (am (br 2 [.c] zqa (m210 H)) (am (br 3 [.c] zqa (m220 H)) (am (br 6 [.r (agF b w th pa), .c, .c] (c6 H) (m201 H)) an))))
theorem m003 : A22 c x m fr md i y b w th pa p q 4 #[false, false, true, true, true, true, true, true, true, false, false] [(4, tBad m y), (172, rAp m y b w th pa)] := AnyR.step [0, 1] (by kernel_rfl) (by simp) (am (br 0 [.c] zqa (m103 H)) (am (br 1 [.c] zqa (m203 H)) an))
theorem m052 : A22 c x m fr md i y b w th pa p q 5 #[false, false, true, true, true, true, true, true, false, false, false] [(4, tGW m), (169, .al 4 [(y.toNat, 0)] none), (171, .sl .own 45 (some 1) [agF b w th pa])] := AnyR.step [0, 1, 8] (by kernel_rfl) (by simp) (am (br 0 [.c] zqa (m152 H)) (am (br 1 [.c] zqa (m252 H)) (am (br 8 [.c, .b true, .r (gOW (m.getD y.toNat default)), .b true, .r (gOW (m.getD y.toNat default)), .b true, .c] (c8 H) (m003 H)) an)))
theorem m051 : A22 c x m fr md i y b w th pa p q 6 #[false, false, true, true, true, true, true, false, false, false, false] [(4, tGW m), (169, .al 4 [(y.toNat, 0)] none), (170, agF b w th pa)] := AnyR.step [0, 1, 7] (by kernel_rfl) (by simp) (am (br 0 [.c] zqa (m151 H)) (am (br 1 [.c] zqa (m251 H)) (am (br 7 [.c, .c, .c] zqa (m052 H)) an)))
theorem m050 : A22 c x m fr md i y b w th pa p q 7 #[false, false, true, true, true, true, false, false, false, false, false] [(4, tGW m), (169, .al 4 [(y.toNat, 0)] none), (9, bxL b w th pa)] := AnyR.step [0, 1, 6] (by kernel_rfl) (by simp) (am (br 0 [.c] zqa (m150 H)) (am (br 1 [.c] zqa (m250 H)) (am (br 6 [.r (agF b w th pa), .c, .c] (c6 H) (m051 H)) an)))
theorem m042 : A22 c x m fr md i y b w th pa p q 6 #[false, false, true, true, true, false, true, true, false, false, false] [(4, tGW m), (168, .adr 4 [] y.toNat 0), (171, .sl .own 45 (some 1) [agF b w th pa])] := AnyR.step [0, 1, 5] (by kernel_rfl) (by simp) (am (br 0 [.c] zqa (m142 H)) (am (br 1 [.c] zqa (m242 H)) (am (br 5 [.b true, .r (gOW (m.getD y.toNat default)), .c] (c5 H) (m052 H)) an)))
theorem m041 : A22 c x m fr md i y b w th pa p q 7 #[false, false, true, true, true, false, true, false, false, false, false] [(4, tGW m), (168, .adr 4 [] y.toNat 0), (170, agF b w th pa)] := AnyR.step [0, 1, 5, 7] (by kernel_rfl) (by simp) (am (br 0 [.c] zqa (m141 H)) (am (br 1 [.c] zqa (m241 H)) (am (br 5 [.b true, .r (gOW (m.getD y.toNat default)), .c] (c5 H) (m051 H)) (am (br 7 [.c, .c, .c] zqa (m042 H)) an))))
theorem m040 : A22 c x m fr md i y b w th pa p q 8 #[false, false, true, true, true, false, false, false, false, false, false] [(4, tGW m), (168, .adr 4 [] y.toNat 0), (9, bxL b w th pa)] := AnyR.step [0, 1, 5, 6] (by kernel_rfl) (by simp) (am (br 0 [.c] zqa (m140 H)) (am (br 1 [.c] zqa (m240 H)) (am (br 5 [.b true, .r (gOW (m.getD y.toNat default)), .c] (c5 H) (m050 H)) (am (br 6 [.r (agF b w th pa), .c, .c] (c6 H) (m041 H)) an))))
theorem m032 : A22 c x m fr md i y b w th pa p q 7 #[false, false, true, true, false, false, true, true, false, false, false] [(4, tGW m), (166, .al 4 [] none), (167, it y), (171, .sl .own 45 (some 1) [agF b w th pa])] := AnyR.step [0, 1, 4] (by kernel_rfl) (by simp) (am (br 0 [.c] zqa (m132 H)) (am (br 1 [.c] zqa (m232 H)) (am (br 4 [.b true, .c] (c4 H) (m042 H)) an)))
theorem m031 : A22 c x m fr md i y b w th pa p q 8 #[false, false, true, true, false, false, true, false, false, false, false] [(4, tGW m), (166, .al 4 [] none), (167, it y), (170, agF b w th pa)] := AnyR.step [0, 1, 4, 7] (by kernel_rfl) (by simp) (am (br 0 [.c] zqa (m131 H)) (am (br 1 [.c] zqa (m231 H)) (am (br 4 [.b true, .c] (c4 H) (m041 H)) (am (br 7 [.c, .c, .c] zqa (m032 H)) an))))
theorem m030 : A22 c x m fr md i y b w th pa p q 9 #[false, false, true, true, false, false, false, false, false, false, false] [(4, tGW m), (166, .al 4 [] none), (167, it y), (9, bxL b w th pa)] := AnyR.step [0, 1, 4, 6] (by kernel_rfl) (by simp) (am (br 0 [.c] zqa (m130 H)) (am (br 1 [.c] zqa (m230 H)) (am (br 4 [.b true, .c] (c4 H) (m040 H)) (am (br 6 [.r (agF b w th pa), .c, .c] (c6 H) (m031 H)) an))))
theorem m012 : A22 c x m fr md i y b w th pa p q 8 #[false, false, true, false, false, false, true, true, false, false, false] [(4, tGW m), (166, .al 4 [] none), (171, .sl .own 45 (some 1) [agF b w th pa])] := AnyR.step [0, 1, 3] (by kernel_rfl) (by simp) (am (br 0 [.c] zqa (m112 H)) (am (br 1 [.c] zqa (m212 H)) (am (br 3 [.c] zqa (m032 H)) an)))
theorem m011 : A22 c x m fr md i y b w th pa p q 9 #[false, false, true, false, false, false, true, false, false, false, false] [(4, tGW m), (166, .al 4 [] none), (170, agF b w th pa)] := AnyR.step [0, 1, 3, 7] (by kernel_rfl) (by simp) (am (br 0 [.c] zqa (m111 H)) (am (br 1 [.c] zqa (m211 H)) (am (br 3 [.c] zqa (m031 H)) (am (br 7 [.c, .c, .c] zqa (m012 H)) an))))
theorem m010 : A22 c x m fr md i y b w th pa p q 10 #[false, false, true, false, false, false, false, false, false, false, false] [(4, tGW m), (166, .al 4 [] none), (9, bxL b w th pa)] := AnyR.step [0, 1, 3, 6] (by kernel_rfl) (by simp) (am (br 0 [.c] zqa (m110 H)) (am (br 1 [.c] zqa (m210 H)) (am (br 3 [.c] zqa (m030 H)) (am (br 6 [.r (agF b w th pa), .c, .c] (c6 H) (m011 H)) an))))
theorem m022 : A22 c x m fr md i y b w th pa p q 8 #[false, false, false, true, false, false, true, true, false, false, false] [(4, tGW m), (167, it y), (171, .sl .own 45 (some 1) [agF b w th pa])] := AnyR.step [0, 1, 2] (by kernel_rfl) (by simp) (am (br 0 [.c] zqa (m122 H)) (am (br 1 [.c] zqa (m222 H)) (am (br 2 [.c] zqa (m032 H)) an)))
theorem m021 : A22 c x m fr md i y b w th pa p q 9 #[false, false, false, true, false, false, true, false, false, false, false] [(4, tGW m), (167, it y), (170, agF b w th pa)] := AnyR.step [0, 1, 2, 7] (by kernel_rfl) (by simp) (am (br 0 [.c] zqa (m121 H)) (am (br 1 [.c] zqa (m221 H)) (am (br 2 [.c] zqa (m031 H)) (am (br 7 [.c, .c, .c] zqa (m022 H)) an))))
theorem m020 : A22 c x m fr md i y b w th pa p q 10 #[false, false, false, true, false, false, false, false, false, false, false] [(4, tGW m), (167, it y), (9, bxL b w th pa)] := AnyR.step [0, 1, 2, 6] (by kernel_rfl) (by simp) (am (br 0 [.c] zqa (m120 H)) (am (br 1 [.c] zqa (m220 H)) (am (br 2 [.c] zqa (m030 H)) (am (br 6 [.r (agF b w th pa), .c, .c] (c6 H) (m021 H)) an))))
theorem m002 : A22 c x m fr md i y b w th pa p q 9 #[false, false, false, false, false, false, true, true, false, false, false] [(4, tGW m), (171, .sl .own 45 (some 1) [agF b w th pa])] := AnyR.step [0, 1, 2, 3] (by kernel_rfl) (by simp) (am (br 0 [.c] zqa (m102 H)) (am (br 1 [.c] zqa (m202 H)) (am (br 2 [.c] zqa (m012 H)) (am (br 3 [.c] zqa (m022 H)) an))))
theorem m001 : A22 c x m fr md i y b w th pa p q 10 #[false, false, false, false, false, false, true, false, false, false, false] [(4, tGW m), (170, agF b w th pa)] := AnyR.step [0, 1, 2, 3, 7] (by kernel_rfl) (by simp) (am (br 0 [.c] zqa (m101 H)) (am (br 1 [.c] zqa (m201 H)) (am (br 2 [.c] zqa (m011 H)) (am (br 3 [.c] zqa (m021 H)) (am (br 7 [.c, .c, .c] zqa (m002 H)) an)))))
theorem m000 : A22 c x m fr md i y b w th pa p q 11 #[false, false, false, false, false, false, false, false, false, false, false] [(4, tGW m), (9, bxL b w th pa)] := AnyR.step [0, 1, 2, 3, 6] (by kernel_rfl) (by simp) (am (br 0 [.c] zqa (m100 H)) (am (br 1 [.c] zqa (m200 H)) (am (br 2 [.c] zqa (m010 H)) (am (br 3 [.c] zqa (m020 H)) (am (br 6 [.r (agF b w th pa), .c, .c] (c6 H) (m001 H)) an)))))
end
theorem ynn (c : Option Nat) (x : List Lx) (m : List (List Lp)) (fr md : List Idd) (i y : Int) (b : Int) (w : Bool) (th : List Idd) (pa : List Ps) (p q : Int) (h4 : q4 m y) (h5 : q5 m y) (h5b : q5b m y) (h6 : q6 b w th pa) (h8 : q8 m y b w th pa) (h9 : q9 m y) (h10 : q10 m y ∧ q11 m y) : A22 c x m fr md i y b w th pa p q 11 #[false, false, false, false, false, false, false, false, false, false, false] [(4, tGW m), (9, bxL b w th pa)] := m000 ⟨h4, h5, h5b, h6, h8, h9, h10⟩
theorem ypu {m : List (List Lp)} {i : Nat} (L : List AV) (hi : i < m.length) : List.set (List.set (List.map gOW m) i (setE (List.getD (List.map gOW m) i AV.bad) 0 [AV.bad])) i (setE (List.getD (List.set (List.map gOW m) i (setE (List.getD (List.map gOW m) i AV.bad) 0 [AV.bad])) i AV.bad) 0 [.sl .own 45 none L]) = (List.map gOW m).set i (.sl .own 45 none L) := by
 rw [List.set_set]
 congr 1
 have h1 : List.getD (List.map gOW m) i AV.bad = gOW (m.getD i default) := by simp [zld, hi]
 rw [h1]
 have h2 : List.getD (List.set (List.map gOW m) i (setE (gOW (m.getD i default)) 0 [AV.bad])) i AV.bad = AV.bad := by
  rw [zld, List.getElem?_set_self (by simpa using hi)]; rfl
 rw [h2]; rfl
theorem yqi (l : List Idd) : List.map (mapE (remode zqx 11)) (List.map Idd.enc l) = List.map Idd.enc l := by rw [List.map_map]; rfl
theorem yt3 (l : List Ps) : List.map (mapE (remode zqx 11)) (List.map Ps.enc l) = List.map Ps.enc l := by rw [List.map_map]; rfl
theorem of22 (c : Option Nat) (x : List Lx) (m : List (List Lp)) (fr md : List Idd) (i : Int) (y : Nat) (b : Int) (w : Bool) (th : List Idd) (pa : List Ps) (p q : Int) (hy : y < m.length) (hl : (m.getD y default).length < 100000) (L : Lp) (hL : L.b = b ∧ L.w = w ∧ L.th = th ∧ L.pa = pa) :
  Tri Try.prog (cxN 184 0) (.region 22 (zql Try.f9 22) true) ((4, tGW m) :: (9, bxL b w th pa) :: bs c x fr md i y p q) .normal ((4, tGW (m.set y (m.getD y default ++ [L]))) :: bs c x fr md i y p q) := by
 obtain ⟨rfl, rfl, rfl, rfl⟩ := hL
 have hg : List.getD (List.map gOW m) y AV.bad = gOW (m.getD y default) := by simp [zld, hy]
 have h := ynn c x m fr md i y L.b L.w L.th L.pa p q (zlb (by rw [zla]; omega)) (zlb (by rw [zla]; exact hy)) hg (by
   show AV.agg [ub L.b, bb L.w, .sl .fresh 36 none (List.map (mapE (remode zqx 11)) (List.map Idd.enc L.th)), .sl .fresh 56 none (List.map (mapE (remode zqx 11)) (List.map Ps.enc L.pa))] = _
   rw [yqi, yt3]) (zlb (by rw [zla]; show _ + 1 ≤ _; simp only [zlf]; omega)) (zlb (by rw [zlx, zla]; omega)) ⟨zlb (by rw [zlx, zla]; exact hy), by
   show List.getD (List.set (List.map gOW m) y (setE (List.getD (List.map gOW m) y AV.bad) 0 [AV.bad])) y AV.bad = AV.bad
   rw [hg, zld, List.getElem?_set_self (by simpa using hy)]; rfl⟩
 have e : tNew m y L.b L.w L.th L.pa = tGW (m.set y (m.getD y default ++ [L])) := by
  show AV.sl .own 37 none (List.set (List.set (List.map gOW m) y (setE (List.getD (List.map gOW m) y AV.bad) 0 [AV.bad])) y (setE (List.getD (List.set (List.map gOW m) y (setE (List.getD (List.map gOW m) y AV.bad) 0 [AV.bad])) y AV.bad) 0 [.sl .own 45 none ((m.getD y default).map Lp.encG ++ [agF L.b L.w L.th L.pa])])) = _
  rw [ypu _ hy]
  show _ = AV.sl .own 37 none ((m.set y (m.getD y default ++ [L])).map gOW)
  rw [List.map_set]
  show _ = AV.sl .own 37 none ((m.map gOW).set y (.sl .own 45 none ((m.getD y default ++ [L]).map Lp.encG)))
  rw [zlq]; rfl
 refine Tri.ofR (.any (base 184 0) (R := (· = (4, tGW (m.set y (m.getD y default ++ [L]))) :: bs c x fr md i y p q)) ?_) fun e h => h
 have hs : zqy.size = 11 := by kernel_rfl
 have ha : Array.replicate zqy.size false = #[false, false, false, false, false, false, false, false, false, false, false] := by kernel_rfl
 show AnyR Try.prog (cxN 184 0) zqy _ zqy.size (Array.replicate zqy.size false) _
 rw [ha, hs, ← e]
 exact h
theorem ykb (l : List Idd) : ((l.map Idd.enc).all fun y => y.ecells.all zqt) = true := by rw [List.all_map, zls]; intro p _; rfl
theorem yr8 (l : List Idd) (n : Nat) (hn : n = 2) : ((l.map Idd.enc).all fun y => decide (y.ecells.length = n)) = true := by subst hn; rw [List.all_map, zls]; intro p _; rfl
abbrev oE (c : Option Nat) (x : List Lx) (m : List (List Lp)) (fr md : List Idd) (i y : Int) (b : Int) (w : Bool) (th : List Idd) (pa : List Ps) : Env := [(0, xsl c x), (4, tGW m), (5, iow none fr), (6, iow none md), (7, it i), (8, it y), (9, bxL b w th pa)]
section
variable (c : Option Nat) (x : List Lx) (m : List (List Lp)) (fr md : List Idd) (i y : Int) (b : Int) (w : Bool) (th : List Idd) (pa : List Ps)
theorem of15 (k : Int) (n : Nat) (hn : n < fr.length) (hf : fr.length < 100000) : Tri Try.prog (cxN 184 0) (zqr Try.f9 15) (oE c x m fr md i y b w th pa ++ [(10, it k), (11, it n)]) .normal (oE c x m (fr.take n ++ fr.drop (n + 1)) md i y b w th pa ++ [(10, it k)]) := by
 have h := yx7 c x m fr md i y b w th pa k n
 rw [up64 (k := n) (by omega)] at h
 simp only [zlf, Nat.sub_zero, List.drop_zero] at h
 have e1 : List.map Idd.enc ([] : List Idd) ++ List.take n (List.map Idd.enc fr) = List.map Idd.enc ([] ++ List.take n fr) := by simp [List.map_take]
 have e2 : List.map Idd.enc ([] ++ List.take n fr) ++ List.take ((List.map Idd.enc fr).length - (n + 1)) (List.drop (n + 1) (List.map Idd.enc fr)) = List.map Idd.enc ([] ++ List.take n fr ++ List.take ((List.map Idd.enc fr).length - (n + 1)) (List.drop (n + 1) fr)) := by simp [List.map_take, List.map_drop]
 have t1 : List.take n (List.map Idd.enc fr) = List.map Idd.enc (List.take n fr) := (List.map_take ..).symm
 have t2 : List.take ((List.map Idd.enc fr).length - (n + 1)) (List.drop (n + 1) (List.map Idd.enc fr)) = List.map Idd.enc (List.take ((List.map Idd.enc fr).length - (n + 1)) (List.drop (n + 1) fr)) := by rw [← List.map_drop, ← List.map_take]
 have h' := h rfl (zlb (by omega)) (zlb ⟨Nat.zero_le _, by rw [zla]; omega⟩) (zlb (by rw [zla]; omega)) (zlb ⟨trivial, by rw [t1]; exact ykb _, by rw [t1]; exact yr8 _ _ rfl⟩) (zlb ⟨trivial, by rw [t1, zla, zla, zlh]; show 0 + _ ≤ _; omega, by decide⟩)
  (by rw [e1]) (zlb (by omega)) (zlb ⟨by rw [zla]; omega, zly _⟩) (zlb (by rw [zla]; omega)) (zlb ⟨trivial, by rw [t2]; exact ykb _, by rw [t2]; exact yr8 _ _ rfl⟩) (zlb ⟨trivial, by rw [t2, zla, zla, zlg, zlh, zlh, List.length_drop]; show 0 + _ + _ ≤ _; omega, by decide⟩) (by rw [e2])
 have e3 : ([] : List Idd) ++ List.take n fr ++ List.take ((List.map Idd.enc fr).length - (n + 1)) (List.drop (n + 1) fr) = fr.take n ++ fr.drop (n + 1) := by
  rw [List.nil_append, zla, zlm (l := List.drop (n + 1) fr) (by rw [List.length_drop]; omega)]
 rw [e3] at h'
 exact .less h' (.cons ⟨rfl, rfl, Le.refl _⟩ (.cons ⟨rfl, rfl, Le.refl _⟩ (.cons ⟨rfl, rfl, Le.cap⟩ (.cons ⟨rfl, rfl, Le.refl _⟩ (.cons ⟨rfl, rfl, Le.refl _⟩ (.cons ⟨rfl, rfl, Le.refl _⟩ (.cons ⟨rfl, rfl, Le.refl _⟩ (.cons ⟨rfl, rfl, Le.refl _⟩ .nil))))))))
end
theorem yxu : zqc Try.f9 1 = .seq (.seq (zqr Try.f9 11) (.cond (.tmp 69) .skip (.exit 2))) (.seq (.block 3 (.seq (zqr Try.f9 13) (.seq (zqr Try.f9 14) (zqr Try.f9 15)))) (zqr Try.f9 12)) := by kernel_rfl
theorem yxt : zqc Try.f9 2 = .seq (.seq (zqr Try.f9 17) (.cond (.tmp 119) .skip (.exit 4))) (.seq (.block 5 (.seq (zqr Try.f9 19) (zqr Try.f9 20))) (zqr Try.f9 18)) := by kernel_rfl
def thF : List Int → List Idd → List Idd → List Idd × List Idd
 | [], fr, th => (fr, th)
 | p :: ps, fr, th => if fr.length = 0 then (fr, th) else thF ps (fr.take (p.toNat % fr.length) ++ fr.drop (p.toNat % fr.length + 1)) (th ++ [fr.getD (p.toNat % fr.length) default])
structure OkX (L : Lx) : Prop where
 y0 : 0 ≤ L.y
 y1 : L.y ≤ 255
 th : ∀ p ∈ L.th, 0 ≤ p ∧ p ≤ 255
 pa : ∀ p ∈ L.pa, 0 ≤ p ∧ p ≤ 255
 lt : L.th.length < 2 ^ 63
 lp : L.pa.length < 2 ^ 63
theorem yay {x : List Lx} {i : Nat} (h : i < x.length) : (x.map Lx.enc).getD i .bad = Lx.enc (x.getD i default) := by simp [zld, h]
theorem yn6 {x : List Int} {i : Nat} (h : i < x.length) : (x.map ubE).getD i .bad = ubE (x.getD i default) := by simp [zld, h]
theorem yko {x : List Int} {i : Nat} (h : i < x.length) : x.getD i default ∈ x := by rw [zld, zle h]; exact zlu h
theorem drop_take (l : List Int) (n k : Nat) (h : k < l.length) (hn : k < n) : (l.take n).drop k = l.getD k default :: (l.take n).drop (k + 1) := by
 have h2 : k < (l.take n).length := by rw [zlh]; omega
 have e : (l.take n)[k]'h2 = l.getD k default := by
  rw [List.getElem_take, zld, zle h]; rfl
 rw [List.drop_eq_getElem_cons h2, e]
theorem ygp {p : Int} {n : Nat} (h0 : 0 ≤ p) (h1 : p ≤ 255) : Int.tmod (IntKind.wrap i64 p) (n : Int) = ((p.toNat % n : Nat) : Int) := by
 rw [yaf (by omega) (by omega)]
 obtain ⟨a, rfl⟩ : ∃ a : Nat, p = a := ⟨p.toNat, by omega⟩
 rw [zlf, Int.tmod_eq_emod_of_nonneg (by omega)]
 rfl
section
variable (c : Option Nat) (x : List Lx) (m : List (List Lp)) (md : List Idd) (i : Nat) (y : Int) (b : Int) (w : Bool) (pa : List Ps) (hi : i < x.length) (hx : x.length < 2 ^ 63) (hL : OkX (x.getD i default))
abbrev thE (m : List (List Lp)) (fr md : List Idd) (i y : Int) (b : Int) (w : Bool) (th : List Idd) (pa : List Ps) (k : Int) : Env := oE c x m fr md i y b w th pa ++ [(10, it k)]
include hi hx hL
theorem yro (fr th : List Idd) (k : Nat) (h : k < (x.getD i default).th.length → k < 4 → fr.length = 0) : Tri Try.prog (cxN 184 0) (zqc Try.f9 1) (thE c x m fr md i y b w th pa k) (.exit 2) (oE c x m fr md i y b w th pa) := by
 rw [yxu]
 have go : Tri Try.prog (cxN 184 0) (zqr Try.f9 11) (thE c x m fr md i y b w th pa k) .normal (thE c x m fr md i y b w th pa k ++ [(69, bb false)]) := by
  by_cases h1 : k < (x.getD i default).th.length
  ·by_cases h2 : k < 4
   ·have := yr0 c x m fr md i y b w th pa k (zlb (by rw [zla]; omega)) (yay hi) (zlb (by rw [zla]; simp only [zlf]; omega)) (zlb (by omega))
    rw [show decide ((0 : Int) < ((List.map Idd.enc fr).length : Nat)) = false by rw [zlc]; rw [zla, h h1 h2]; decide] at this
    exact this
   ·exact yyc c x m fr md i y b w th pa k (zlb (by rw [zla]; omega)) (yay hi) (zlb (by rw [zla]; simp only [zlf]; omega)) (zlc (by omega))
  ·exact yyb c x m fr md i y b w th pa k (zlb (by rw [zla]; omega)) (yay hi) (zlc (by rw [zla]; simp only [zlf]; omega))
 exact .seqX (.seq go (.cond (b := false) rfl (.after (kp [0, 4, 5, 6, 7, 8, 9]) .exit))) (by simp)
theorem ys7 (fr th : List Idd) (k : Nat) (h1 : k < (x.getD i default).th.length) (h2 : k < 4) (h3 : 0 < fr.length) (hf : fr.length < 100000) (ht : th.length < 100000) : Tri Try.prog (cxN 184 0) (zqc Try.f9 1) (thE c x m fr md i y b w th pa k) .normal (thE c x m (fr.take (((x.getD i default).th.getD k default).toNat % fr.length) ++ fr.drop (((x.getD i default).th.getD k default).toNat % fr.length + 1)) md i y b w (th ++ [fr.getD (((x.getD i default).th.getD k default).toNat % fr.length) default]) pa ((k + 1 : Nat) : Int)) := by
 rw [yxu]
 have h11 := yr0 c x m fr md i y b w th pa k (zlb (by rw [zla]; omega)) (yay hi) (zlb (by rw [zla]; simp only [zlf]; omega)) (zlb (by omega))
 rw [show decide ((0 : Int) < ((List.map Idd.enc fr).length : Nat)) = true by rw [zlb]; rw [zla]; omega] at h11
 obtain ⟨p0, p1⟩ := hL.th _ (yko h1)
 obtain ⟨f0, fr', rfl⟩ : ∃ f0 fr', fr = f0 :: fr' := by
  cases fr with
  | nil => simp at h3
  | cons f0 fr' => exact ⟨f0, fr', rfl⟩
 have h13 := yx9 c x m f0 fr' md i y b w th pa k (zlb (by rw [zla]; omega)) (yay hi) (zlb (by rw [zla]; simp only [zlf]; omega)) (yn6 (by simp only [zlf]; exact h1))
 simp only [zlf] at h13
 rw [ygp p0 p1, zla] at h13
 generalize hn : ((x.getD i default).th.getD k default).toNat % (f0 :: fr').length = n at *
 have hnl : n < (f0 :: fr').length := by rw [← hn]; exact Nat.mod_lt _ h3
 have h14 := yx8 c x m (f0 :: fr') md i y b w th pa k n (zlb (by rw [zla]; omega)) (zlb (by rw [zla]; simpa using hnl)) (yah (by simpa using hnl)) rfl (zlb (by rw [zla, zla]; show _ + 1 ≤ _; omega)) (by rw [← zlq])
 simp only [zlf] at h14
 have h15 := of15 c x m (f0 :: fr') md i y b w (th ++ [(f0 :: fr').getD n default]) pa k n hnl hf
 have h12 := yya c x m (List.take n (f0 :: fr') ++ List.drop (n + 1) (f0 :: fr')) md i y b w (th ++ [(f0 :: fr').getD n default]) pa k
 rw [up64 (by omega)] at h12
 exact .seq (.seq h11 (.cond (b := true) rfl (.after (kp [0, 4, 5, 6, 7, 8, 9, 10]) .skip))) (.seq (.block (ex := .normal) (.seq h13 (.seq h14 h15)) (.inr ⟨by simp, rfl⟩)) h12)
theorem ymg : ∀ (j k : Nat) (fr th : List Idd), k + j = min 4 (x.getD i default).th.length → fr.length < 100000 → th.length < 50000 + k → Rnd Try.prog (cxN 184 0) (zqc Try.f9 1) (j + 1) (thE c x m fr md i y b w th pa k) (.exit 2) (oE c x m (thF (((x.getD i default).th.take 4).drop k) fr th).1 md i y b w (thF (((x.getD i default).th.take 4).drop k) fr th).2 pa)
 | 0, k, fr, th, h, _, _ => by
  rw [zln (by rw [zlh]; omega)]
  exact .exit (yro c x m md i y b w pa hi hx hL fr th k (by omega)) (by simp)
 | j + 1, k, fr, th, h, hf, ht => by
  have h1 : k < (x.getD i default).th.length := by omega
  have hd := drop_take (x.getD i default).th 4 k h1 (by omega)
  rw [hd, thF]
  by_cases h3 : fr.length = 0
  ·rw [if_pos h3]
   exact .exit (yro c x m md i y b w pa hi hx hL fr th k (fun _ _ => h3)) (by simp)
  ·rw [if_neg h3]
   have hmod := Nat.mod_lt ((x.getD i default).th.getD k default).toNat (by omega : 0 < fr.length)
   exact .step (ys7 c x m md i y b w pa hi hx hL fr th k h1 (by omega) (by omega) hf (by omega)) (ymg j (k + 1) _ _ (by omega) (by rw [zlg, zlh, List.length_drop]; omega) (by rw [zlg]; show _ + 1 < _; omega))
end
def psOf (md : List Idd) (yy p : Int) : Ps := ⟨(md.getD (p.toNat / 2 % md.length) default).y, (md.getD (p.toNat / 2 % md.length) default).n, Int.tmod p 2 == 1, Int.tmod (IntKind.wrap u8 (Int.tdiv yy 6)) 2⟩
theorem yqr {p : Int} {n : Nat} (h0 : 0 ≤ p) (h1 : p ≤ 255) : Int.tmod (IntKind.wrap i64 (IntKind.wrap u8 (Int.tdiv p 2))) (n : Int) = ((p.toNat / 2 % n : Nat) : Int) := by
 obtain ⟨a, rfl⟩ : ∃ a : Nat, p = a := ⟨p.toNat, by omega⟩
 have e : Int.tdiv (a : Int) 2 = ((a / 2 : Nat) : Int) := by rw [Int.tdiv_eq_ediv_of_nonneg (by omega)]; rfl
 have e2 : IntKind.wrap u8 ((a / 2 : Nat) : Int) = ((a / 2 : Nat) : Int) := yhm (by omega) (by omega)
 rw [e, e2, ygp (by omega) (by omega), zlf, zlf]
section
variable (c : Option Nat) (x : List Lx) (m : List (List Lp)) (fr : List Idd) (i : Nat) (y : Int) (b : Int) (w : Bool) (th : List Idd) (hi : i < x.length) (hx : x.length < 2 ^ 63) (hL : OkX (x.getD i default))
abbrev paE (m : List (List Lp)) (fr md : List Idd) (i y : Int) (b : Int) (w : Bool) (th : List Idd) (pa : List Ps) (k : Int) : Env := oE c x m fr md i y b w th pa ++ [(12, it k)]
include hi hx hL
theorem yrv (md : List Idd) (pa : List Ps) (k : Nat) (h : k < (x.getD i default).pa.length → k < 5 → md.length = 0) : Tri Try.prog (cxN 184 0) (zqc Try.f9 2) (paE c x m fr md i y b w th pa k) (.exit 4) (oE c x m fr md i y b w th pa) := by
 rw [yxt]
 have go : Tri Try.prog (cxN 184 0) (zqr Try.f9 17) (paE c x m fr md i y b w th pa k) .normal (paE c x m fr md i y b w th pa k ++ [(119, bb false)]) := by
  by_cases h1 : k < (x.getD i default).pa.length
  ·by_cases h2 : k < 5
   ·have := yrz c x m fr md i y b w th pa k (zlb (by rw [zla]; omega)) (yay hi) (zlb (by rw [zla]; simp only [zlf]; omega)) (zlb (by omega))
    rw [show decide ((0 : Int) < ((List.map Idd.enc md).length : Nat)) = false by rw [zlc]; rw [zla, h h1 h2]; decide] at this
    exact this
   ·exact yx5 c x m fr md i y b w th pa k (zlb (by rw [zla]; omega)) (yay hi) (zlb (by rw [zla]; simp only [zlf]; omega)) (zlc (by omega))
  ·exact yx4 c x m fr md i y b w th pa k (zlb (by rw [zla]; omega)) (yay hi) (zlc (by rw [zla]; simp only [zlf]; omega))
 exact .seqX (.seq go (.cond (b := false) rfl (.after (kp [0, 4, 5, 6, 7, 8, 9]) .exit))) (by simp)
theorem ytn (md : List Idd) (pa : List Ps) (k : Nat) (h1 : k < (x.getD i default).pa.length) (h2 : k < 5) (h3 : 0 < md.length) (hf : md.length < 100000) (ht : pa.length < 100000) : Tri Try.prog (cxN 184 0) (zqc Try.f9 2) (paE c x m fr md i y b w th pa k) .normal (paE c x m fr md i y b w th (pa ++ [psOf md (x.getD i default).y ((x.getD i default).pa.getD k default)]) ((k + 1 : Nat) : Int)) := by
 rw [yxt]
 have h17 := yrz c x m fr md i y b w th pa k (zlb (by rw [zla]; omega)) (yay hi) (zlb (by rw [zla]; simp only [zlf]; omega)) (zlb (by omega))
 rw [show decide ((0 : Int) < ((List.map Idd.enc md).length : Nat)) = true by rw [zlb]; rw [zla]; omega] at h17
 obtain ⟨p0, p1⟩ := hL.pa _ (yko h1)
 obtain ⟨f0, md', rfl⟩ : ∃ f0 md', md = f0 :: md' := by
  cases md with
  | nil => simp at h3
  | cons f0 md' => exact ⟨f0, md', rfl⟩
 have h19 := yx2 c x m fr (f0 :: md') i y b w th pa k (zlb (by rw [zla]; omega)) (yay hi) (zlb (by rw [zla]; simp only [zlf]; omega)) (yn6 (by simp only [zlf]; exact h1))
 simp only [zlf] at h19
 have h20 := yx1 c x m f0 fr md' i y b w th pa k ((x.getD i default).pa.getD k default)
 rw [yqr p0 p1] at h20
 simp only [zlf, zla] at h20
 have hnl : ((x.getD i default).pa.getD k default).toNat / 2 % (f0 :: md').length < (f0 :: md').length := Nat.mod_lt _ h3
 have h20' := h20 (zlb (by omega)) (zlb hnl) (yah hnl) (zlb (by omega)) (yay hi) rfl (zlb (by show _ + 1 ≤ _; omega)) (by rw [← zlq])
 have h18 := yx3 c x m fr (f0 :: md') i y b w th (pa ++ [psOf (f0 :: md') (x.getD i default).y ((x.getD i default).pa.getD k default)]) k
 rw [up64 (by omega)] at h18
 exact .seq (.seq h17 (.cond (b := true) rfl (.after (kp [0, 4, 5, 6, 7, 8, 9, 12]) .skip))) (.seq (.block (ex := .normal) (.seq h19 h20') (.inr ⟨by simp, rfl⟩)) h18)
theorem ymz (md : List Idd) (hf : md.length < 100000) : ∀ (j k : Nat) (pa : List Ps), k + j = min 5 (x.getD i default).pa.length → pa.length < 50000 + k → Rnd Try.prog (cxN 184 0) (zqc Try.f9 2) (j + 1) (paE c x m fr md i y b w th pa k) (.exit 4) (oE c x m fr md i y b w th (if md.length = 0 then pa else pa ++ (((x.getD i default).pa.take 5).drop k).map (psOf md (x.getD i default).y)))
 | 0, k, pa, h, _ => by
  rw [zln (by rw [zlh]; omega), List.map_nil, List.append_nil, ite_self]
  exact .exit (yrv c x m fr i y b w th hi hx hL md pa k (by omega)) (by simp)
 | j + 1, k, pa, h, ht => by
  have h1 : k < (x.getD i default).pa.length := by omega
  by_cases h3 : md.length = 0
  ·rw [if_pos h3]
   exact .exit (yrv c x m fr i y b w th hi hx hL md pa k (fun _ _ => h3)) (by simp)
  ·have ih := ymz md hf j (k + 1) (pa ++ [psOf md (x.getD i default).y ((x.getD i default).pa.getD k default)]) (by omega) (by rw [zlg]; show _ + 1 < _; omega)
   rw [if_neg h3] at ih ⊢
   rw [drop_take (x.getD i default).pa 5 k h1 (by omega), List.map_cons]
   rw [zlp] at ih
   exact .step (ytn c x m fr i y b w th hi hx hL md pa k h1 (by omega) (by omega) hf (by omega)) ih
end
structure OfS where
 m : List (List Lp)
 fr : List Idd
 md : List Idd
def ofL (S : OfS) (L : Lx) : Lp := ⟨if L.b then 1 else 0, L.w || (S.m.getD (L.y.toNat % 6) default).length == 0, none, (thF (L.th.take 4) S.fr []).2, none, if S.md.length = 0 then [] else (L.pa.take 5).map (psOf S.md L.y)⟩
def ofI (S : OfS) (L : Lx) : Idd := ⟨((L.y.toNat % 6 + 1 : Nat) : Int), ((S.m.getD (L.y.toNat % 6) default).length : Nat)⟩
def ya1 (S : OfS) (L : Lx) : OfS := ⟨S.m.set (L.y.toNat % 6) (S.m.getD (L.y.toNat % 6) default ++ [ofL S L]), (thF (L.th.take 4) S.fr []).1 ++ [ofI S L], S.md ++ [ofI S L]⟩
theorem yiu : ∀ (ps : List Int) (fr th : List Idd), (thF ps fr th).1.length ≤ fr.length
 | [], fr, th => zly _
 | p :: ps, fr, th => by
  rw [thF]
  split
  ·exact zly _
  ·refine Nat.le_trans (yiu ps _ _) ?_
   rw [zlg, zlh, List.length_drop]; omega
structure OfOk (S : OfS) (i : Nat) : Prop where
 m6 : S.m.length = 6
 row : ∀ r ∈ S.m, r.length ≤ i
 fr : S.fr.length ≤ i
 md : S.md.length ≤ i
theorem OfOk.get {S : OfS} {i : Nat} (h : OfOk S i) (y : Nat) (hy : y < 6) : (S.m.getD y default).length ≤ i := by
 refine h.row _ ?_
 rw [zld, zle (by rw [h.m6]; exact hy)]; exact zlu _
theorem OfOk.step {S : OfS} {i : Nat} (h : OfOk S i) (L : Lx) : OfOk (ya1 S L) (i + 1) := by
 have hy : L.y.toNat % 6 < 6 := Nat.mod_lt _ (by omega)
 refine ⟨by show (List.set _ _ _).length = 6; rw [zlx]; exact h.m6, ?_, ?_, ?_⟩
 ·intro r hr
  rcases List.mem_or_eq_of_mem_set hr with hr | rfl
  ·have := h.row r hr; omega
  ·rw [zlg]; have := h.get _ hy; show _ + 1 ≤ _; omega
 ·show (_ ++ [_]).length ≤ _
  rw [zlg]; have := yiu (L.th.take 4) S.fr []; have := h.fr; show _ + 1 ≤ _; omega
 ·show (_ ++ [_]).length ≤ _
  rw [zlg]; have := h.md; show _ + 1 ≤ _; omega
theorem yxv : zqc Try.f9 0 = (.seq (.seq (zqr Try.f9 4) (.cond (.tmp 23) .skip (.exit 0))) (.seq (.block 1 (.seq (zqr Try.f9 6) (.seq (zqr Try.f9 7) (.seq (.seq (zqr Try.f9 8) (.cond (.tmp 51) (zqr Try.f9 9) .skip)) (.seq (.seq (zqr Try.f9 10) (.block 2 (.loop (zqc Try.f9 1)))) (.seq (.seq (zqr Try.f9 16) (.block 4 (.loop (zqc Try.f9 2)))) (.seq (zqr Try.f9 21) (.seq (.region 22 (zql Try.f9 22) true) (.seq (zqr Try.f9 23) (zqr Try.f9 24)))))))))) (zqr Try.f9 5))) := by kernel_rfl
theorem yzh (b : Int) (w : Bool) : Le Try.prog (.box [ub b, bb w, zqw, zqw]) (bxL b w [] []) := Le.box (.cons (Le.refl _) (.cons (Le.refl _) (.cons (Le.trans (Le.nilOwn 36) Le.cap) (.cons (Le.trans (Le.nilOwn 56) Le.cap) .nil))))
section
variable (c : Option Nat) (x : List Lx) (hx : x.length < 2 ^ 63)
abbrev uE (S : OfS) (i : Int) : Env := [(0, xsl c x), (4, tGW S.m), (5, iow none S.fr), (6, iow none S.md), (7, it i)]
include hx
theorem ywt (S : OfS) (i : Nat) (h : i < x.length → 60 ≤ i) : Tri Try.prog (cxN 184 0) (zqc Try.f9 0) (uE c x S i) (.exit 0) [(4, tGW S.m), (6, iow none S.md)] := by
 rw [yxv]
 have go : Tri Try.prog (cxN 184 0) (zqr Try.f9 4) (uE c x S i) .normal (uE c x S i ++ [(23, bb false)]) := by
  by_cases h1 : i < x.length
  ·have := yxw c x S.m S.fr S.md i (zlb (by rw [zla]; omega))
   rw [show decide ((i : Int) < 60) = false by rw [zlc]; have := h h1; omega] at this
   exact this
  ·exact of4_1 c x S.m S.fr S.md i (zlc (by rw [zla]; omega))
 exact .seqX (.seq go (.cond (b := false) rfl (.after (kp [4, 6]) .exit))) (by simp)
theorem ys0 (S : OfS) (i : Nat) (h1 : i < x.length) (h2 : i < 60) (hS : OfOk S i) (hL : OkX (x.getD i default)) : Tri Try.prog (cxN 184 0) (zqc Try.f9 0) (uE c x S i) .normal (uE c x (ya1 S (x.getD i default)) ((i + 1 : Nat) : Int)) := by
 rw [yxv]
 have hb : decide ((0 : Int) ≤ (i : Int) ∧ (i : Int) < ((List.map Lx.enc x).length : Nat)) = true := zlb (by rw [zla]; omega)
 have h4 := yxw c x S.m S.fr S.md i (zlb (by rw [zla]; omega))
 rw [show decide ((i : Int) < 60) = true by rw [zlb]; omega] at h4
 have h6 := of6_0 c x S.m S.fr S.md i hb (yay h1)
 generalize hLe : x.getD i default = L at *
 simp only [zlf, hLe] at h6
 have hyw : IntKind.wrap i64 (Int.tmod L.y 6) = ((L.y.toNat % 6 : Nat) : Int) := by
  have := ygp (p := L.y) (n := 6) hL.y0 hL.y1
  rw [yaf (n := L.y) (by have := hL.y0; omega) (by have := hL.y1; omega)] at this
  show IntKind.wrap i64 (Int.tmod L.y ((6 : Nat) : Int)) = _
  rw [this]; exact yaf (by omega) (by omega)
 rw [hyw] at h6
 have hy : L.y.toNat % 6 < 6 := Nat.mod_lt _ (by omega)
 generalize hyy : L.y.toNat % 6 = y at *
 have hym : y < S.m.length := by rw [hS.m6]; exact hy
 have hrow := hS.get y hy
 have hgo : List.getD (List.map gOW S.m) y AV.bad = gOW (S.m.getD y default) := by simp [zld, hym]
 have hw : (L.w || (S.m.getD y default).length == 0) = (ofL S L).w := by unfold ofL; rw [hyy]
 have h7 : Tri Try.prog (cxN 184 0) (zqr Try.f9 7) (uE c x S i ++ [(8, it y)]) .normal (oE c x S.m S.fr S.md i y 0 (ofL S L).w [] []) := by
  rw [← hw]
  cases hLw : L.w with
  | true =>
   have h := of7_0 c x S.m S.fr S.md i y hb (yay h1) (by simp only [zlf, hLe]; exact hLw)
   exact .less h (.cons ⟨rfl, rfl, Le.refl _⟩ (.cons ⟨rfl, rfl, Le.refl _⟩ (.cons ⟨rfl, rfl, Le.refl _⟩ (.cons ⟨rfl, rfl, Le.refl _⟩ (.cons ⟨rfl, rfl, Le.refl _⟩ (.cons ⟨rfl, rfl, Le.refl _⟩ (.cons ⟨rfl, rfl, yzh 0 true⟩ .nil)))))))
  | false =>
   have h := of7_1 c x S.m S.fr S.md i y hb (yay h1) (by simp only [zlf, hLe]; exact hLw) (zlb (by rw [zla]; omega)) (zlb (by rw [zla]; simpa using hym)) (by simp only [zlf]; exact hgo)
   simp only [zlf, zla] at h
   have e : ((((S.m.getD y default).length : Nat) : Int) == 0) = (false || (S.m.getD y default).length == 0) := by
    rw [Bool.false_or, Bool.eq_iff_iff]; simp
   rw [e] at h
   exact .less h (.cons ⟨rfl, rfl, Le.refl _⟩ (.cons ⟨rfl, rfl, Le.refl _⟩ (.cons ⟨rfl, rfl, Le.refl _⟩ (.cons ⟨rfl, rfl, Le.refl _⟩ (.cons ⟨rfl, rfl, Le.refl _⟩ (.cons ⟨rfl, rfl, Le.refl _⟩ (.cons ⟨rfl, rfl, yzh 0 _⟩ .nil)))))))
 have h8 := of8_0 c x S.m S.fr S.md i y 0 (ofL S L).w [] [] hb (yay h1)
 simp only [zlf, hLe] at h8
 have h89 : Tri Try.prog (cxN 184 0) (.seq (zqr Try.f9 8) (.cond (.tmp 51) (zqr Try.f9 9) .skip)) (oE c x S.m S.fr S.md i y 0 (ofL S L).w [] []) .normal (oE c x S.m S.fr S.md i y (ofL S L).b (ofL S L).w [] []) := by
  have eb : (ofL S L).b = if L.b then 1 else 0 := rfl
  rw [eb]
  cases hb : L.b with
  | true => exact .seq (.after (kp [0, 4, 5, 6, 7, 8, 9, 51]) h8) (.cond (b := true) (by show some (bb L.b) = _; rw [hb]) (.weak (kp [0, 4, 5, 6, 7, 8, 9]) (of9_0 c x S.m S.fr S.md i y 0 (ofL S L).w [] [])))
  | false => exact .seq (.after (kp [0, 4, 5, 6, 7, 8, 9, 51]) h8) (.cond (b := false) (by show some (bb L.b) = _; rw [hb]) (.after (kp [0, 4, 5, 6, 7, 8, 9]) .skip))
 have hLx : OkX (x.getD i default) := by rw [hLe]; exact hL
 have hfr := hS.fr
 have hmd := hS.md
 have hT := (ymg c x S.m S.md i y (ofL S L).b (ofL S L).w [] h1 hx hLx (min 4 L.th.length) 0 S.fr [] (by rw [hLe]; omega) (by omega) (by decide)).loop
 simp only [hLe, List.drop_zero] at hT
 have hth : (thF (L.th.take 4) S.fr []).2 = (ofL S L).th := rfl
 rw [hth] at hT
 have hT2 : Tri Try.prog (cxN 184 0) (.seq (zqr Try.f9 10) (.block 2 (.loop (zqc Try.f9 1)))) (oE c x S.m S.fr S.md i y (ofL S L).b (ofL S L).w [] []) .normal (oE c x S.m (thF (L.th.take 4) S.fr []).1 S.md i y (ofL S L).b (ofL S L).w (ofL S L).th []) :=
  .seq (yyd c x S.m S.fr S.md i y (ofL S L).b (ofL S L).w [] []) (.block (ex := .exit 2) hT (.inl ⟨rfl, rfl⟩))
 have hP := (ymz c x S.m (thF (L.th.take 4) S.fr []).1 i y (ofL S L).b (ofL S L).w (ofL S L).th h1 hx hLx S.md (by omega) (min 5 L.pa.length) 0 [] (by rw [hLe]; omega) (by decide)).loop
 simp only [hLe, List.drop_zero, List.nil_append] at hP
 have hpa : (if S.md.length = 0 then [] else (L.pa.take 5).map (psOf S.md L.y)) = (ofL S L).pa := rfl
 rw [hpa] at hP
 have hP2 : Tri Try.prog (cxN 184 0) (.seq (zqr Try.f9 16) (.block 4 (.loop (zqc Try.f9 2)))) (oE c x S.m (thF (L.th.take 4) S.fr []).1 S.md i y (ofL S L).b (ofL S L).w (ofL S L).th []) .normal (oE c x S.m (thF (L.th.take 4) S.fr []).1 S.md i y (ofL S L).b (ofL S L).w (ofL S L).th (ofL S L).pa) :=
  .seq (yx6 c x S.m (thF (L.th.take 4) S.fr []).1 S.md i y (ofL S L).b (ofL S L).w (ofL S L).th []) (.block (ex := .exit 4) hP (.inl ⟨rfl, rfl⟩))
 have hfl := yiu (L.th.take 4) S.fr []
 generalize hfe : (thF (L.th.take 4) S.fr []).1 = fr at *
 have h21 := yx0 c x S.m fr S.md i y (ofL S L).b (ofL S L).w (ofL S L).th (ofL S L).pa (zlb (by rw [zla]; omega)) (zlb (by rw [zla]; simpa using hym)) (by simp only [zlf]; exact hgo)
 simp only [zlf, zla] at h21
 rw [up64 (by omega), yhm (by omega) (by omega)] at h21
 have h22 := of22 c x S.m fr S.md i y (ofL S L).b (ofL S L).w (ofL S L).th (ofL S L).pa ((y + 1 : Nat) : Int) ((S.m.getD y default).length : Nat) hym (by omega) (ofL S L) ⟨rfl, rfl, rfl, rfl⟩
 have h23 := yxz c x (S.m.set y (S.m.getD y default ++ [ofL S L])) fr S.md i ((y + 1 : Nat) : Int) ((S.m.getD y default).length : Nat) rfl (zlb (by rw [zla, zla]; show _ + 1 ≤ _; omega)) (by rw [← zlq])
 have h24 := yxy c x (S.m.set y (S.m.getD y default ++ [ofL S L])) (fr ++ [⟨((y + 1 : Nat) : Int), ((S.m.getD y default).length : Nat)⟩]) S.md i ((y + 1 : Nat) : Int) ((S.m.getD y default).length : Nat) rfl (zlb (by rw [zla, zla]; show _ + 1 ≤ _; omega)) (by rw [← zlq])
 have hi1 : ofI S L = ⟨((y + 1 : Nat) : Int), ((S.m.getD y default).length : Nat)⟩ := by unfold ofI; rw [hyy]
 have h5 := of5_0 c x (S.m.set y (S.m.getD y default ++ [ofL S L])) (fr ++ [⟨((y + 1 : Nat) : Int), ((S.m.getD y default).length : Nat)⟩]) (S.md ++ [⟨((y + 1 : Nat) : Int), ((S.m.getD y default).length : Nat)⟩]) i
 rw [up64 (by omega)] at h5
 have hst : ya1 S L = ⟨S.m.set y (S.m.getD y default ++ [ofL S L]), fr ++ [⟨((y + 1 : Nat) : Int), ((S.m.getD y default).length : Nat)⟩], S.md ++ [⟨((y + 1 : Nat) : Int), ((S.m.getD y default).length : Nat)⟩]⟩ := by
  unfold ya1
  rw [hi1, hyy, hfe]
 rw [hst]
 refine .seq (.seq h4 (.cond (b := true) rfl (.after (kp [0, 4, 5, 6, 7]) .skip))) (.seq (.block (ex := .normal) (.seq h6 (.seq h7 (.seq h89 (.seq hT2 (.seq hP2 (.seq h21 (.seq ?_ (.seq h23 h24)))))))) (.inr ⟨by simp, rfl⟩)) h5)
 exact .weak (kp [4, 9, 0, 5, 6, 7, 8, 14]) (.after (kp [0, 4, 5, 6, 7, 14]) h22)
end
def S0 : OfS := ⟨List.replicate 6 [], [], []⟩
theorem ofOk0 : OfOk S0 0 := ⟨rfl, fun r hr => by rw [(List.mem_replicate.1 hr).2]; exact zly _, zly _, zly _⟩
def ofS (x : List Lx) : OfS := (x.take 60).foldl ya1 S0
theorem ytu : Try.f9.body = some (.seq (zqr Try.f9 0) (.seq (zqr Try.f9 1) (.seq (zqr Try.f9 2) (.seq (.seq (zqr Try.f9 3) (.block 0 (.loop (zqc Try.f9 0)))) (.seq (zqr Try.f9 25) .ret))))) := by kernel_rfl
theorem yly (l : List Lx) (n k : Nat) (h : k < l.length) (hn : k < n) : (l.take n).drop k = l.getD k default :: (l.take n).drop (k + 1) := by
 have h2 : k < (l.take n).length := by rw [zlh]; omega
 have e : (l.take n)[k]'h2 = l.getD k default := by
  rw [List.getElem_take, zld, zle h]; rfl
 rw [List.drop_eq_getElem_cons h2, e]
section
variable (c : Option Nat) (x : List Lx) (hx : x.length < 2 ^ 63) (hX : ∀ L ∈ x, OkX L)
include hx hX
theorem yl6 : ∀ (j i : Nat) (S : OfS), i + j = min 60 x.length → OfOk S i → Rnd Try.prog (cxN 184 0) (zqc Try.f9 0) (j + 1) (uE c x S i) (.exit 0) [(4, tGW (((x.take 60).drop i).foldl ya1 S).m), (6, iow none (((x.take 60).drop i).foldl ya1 S).md)]
 | 0, i, S, h, _ => by
  rw [zln (by rw [zlh]; omega)]
  exact .exit (ywt c x hx S i (by omega)) (by simp)
 | j + 1, i, S, h, hS => by
  have h1 : i < x.length := by omega
  rw [yly x 60 i h1 (by omega), List.foldl_cons]
  have hL : OkX (x.getD i default) := hX _ (by rw [zld, zle h1]; exact zlu h1)
  exact .step (ys0 c x hx S i h1 (by omega) hS hL) (yl6 j (i + 1) _ (by omega) (hS.step _))
theorem of_c : PureC Try.prog 9 [xsl c x] (.tup [tGW (ofS x).m, iow none (ofS x).md]) := by
 have hl := (yl6 c x hx hX (min 60 x.length) 0 S0 (by omega) ofOk0).loop
 rw [List.drop_zero] at hl
 refine yc5 ((base 184 0).ok zqb.1 zqb.2) Try.func9 rfl (by show 1 ≤ 184; omega) rfl ytu rfl (ex := .ret) (env' := [(2, .al 4 [] none), (3, .al 6 [] none), (4, tGW (ofS x).m), (6, iow none (ofS x).md)]) ?_ (by kernel_rfl)
 refine .seq (.after (kp [0]) (of0_0 c x)) (.seq (env1 := [(0, xsl c x), (4, tGW S0.m)]) (.less (.after (kp [0, 4]) (of1_0 c x)) (.cons ⟨rfl, rfl, Le.refl _⟩ (.cons ⟨rfl, rfl, ?_⟩ .nil))) (.seq (env1 := [(0, xsl c x), (4, tGW S0.m), (5, iow none []), (6, iow none [])]) (.less (.after (kp [0, 4, 5, 6]) (of2_0 c x S0.m)) (.cons ⟨rfl, rfl, Le.refl _⟩ (.cons ⟨rfl, rfl, Le.refl _⟩ (.cons ⟨rfl, rfl, Le.trans (Le.nilOwn 36) Le.cap⟩ (.cons ⟨rfl, rfl, Le.trans (Le.nilOwn 36) Le.cap⟩ .nil))))) (.seq (.seq (.after (kp [0, 4, 5, 6, 7]) (of3_0 c x S0.m [] [])) (.block (ex := .exit 0) hl (.inl ⟨rfl, rfl⟩))) (.seq (.after (kp [2, 3, 4, 6]) (yxx (ofS x).m (ofS x).md)) .ret))))
 refine Le.trans Le.cap ?_
 show Le Try.prog (.sl .own 37 none (List.replicate 6 zqw)) (.sl .own 37 none ((List.replicate 6 []).map gOW))
 rw [List.map_replicate]
 exact Le.ownRep rfl rfl (Le.trans (Le.nilOwn 45) Le.cap) _
end
structure MakeOk (t : List Rw) (o : List Idd) : Prop where
 sub : ∀ k p, o[k]? = some p → hasV t p.y p.n = true ∧ (∀ n', 0 ≤ n' → n' < p.n → (⟨p.y, n'⟩ : Idd) ∈ o.take k) ∧ ∀ q ∈ zqz (atV t p.y p.n), q ∈ o.take k
 all : ∀ y n, hasV t y n = true → (⟨y, n⟩ : Idd) ∈ o
theorem yfa {m : List Int} {t : List Rw} : ∀ (k j : Nat), ycj m t k j = none → ∀ i, j ≤ i → i < j + k → ycc m t i = false
 | 0, j, _, i, h1, h2 => by omega
 | k + 1, j, h, i, h1, h2 => by
  rw [ycj] at h
  by_cases hc : ycc m t j = true
  ·rw [if_pos hc] at h; cases h
  ·rw [if_neg hc] at h
   by_cases e : i = j
   ·subst e; simpa using hc
   ·exact yfa k (j + 1) h i (by omega) (by omega)
theorem yhu {t : List Rw} {o : List Idd} {m : List Int} (hO : MakeOk t o) (hM : OkM m t) (hl : t.length ≤ 6) (h : ya6 m t = none) : ∀ k p, p ∈ o.take k → p.n < gtM m p
 | 0, p, hp => by simp at hp
 | k + 1, p, hp => by
  have ih := yhu hO hM hl h k
  rw [List.take_add_one, List.mem_append] at hp
  rcases hp with hp | hp
  ·exact ih p hp
  ·cases hk : o[k]? with
   | none => rw [hk] at hp; simp at hp
   | some p' =>
    rw [hk] at hp
    have : p = p' := by simpa using hp
    subst this
    obtain ⟨h1, h2, h3⟩ := hO.sub k p hk
    obtain ⟨a, b, c, d⟩ := yas h1
    refine Classical.byContradiction fun hne => ?_
    have hi : (p.y - 1).toNat < t.length := by omega
    have hm0 := hM.le (p.y - 1).toNat hi
    have hg : gtM m p = m.getD (p.y - 1).toNat default := rfl
    have hn : p.n = gtM m p := by
     rcases Int.lt_or_le (gtM m p) p.n with hlt | hge
     ·have := ih ⟨p.y, gtM m p⟩ (h2 (gtM m p) (by rw [hg]; exact hm0.1) hlt)
      have e : gtM m ⟨p.y, gtM m p⟩ = gtM m p := rfl
      rw [e] at this
      exact absurd this (by show ¬ gtM m p < gtM m p; omega)
     ·omega
    have hc := yfa t.length 0 h (p.y - 1).toNat (by omega) (by omega)
    have : ycc m t (p.y - 1).toNat = true := by
     unfold ycc
     rw [zlo]
     constructor
     ·rw [← hg, ← hn]
      have : p.n ≠ (((t.getD (p.y - 1).toNat default).l.length : Nat) : Int) := by omega
      simpa using this
     ·rw [← hg, ← hn]
      unfold ych
      rw [zls]
      intro q hq
      exact zlb (ih q (h3 q hq))
    rw [this] at hc; cases hc
theorem yjy {f : Nat → Nat} : ∀ n, (∀ j, j < n → f j = 0) → ((List.range n).map f).sum = 0
 | 0, _ => rfl
 | n + 1, h => by rw [List.range_succ, zlq, List.sum_append, yjy n fun j hj => h j (by omega)]; simp [h n (by omega)]
theorem ymi {t : List Rw} {o : List Idd} {m : List Int} (hO : MakeOk t o) (hM : OkM m t) (hl : t.length ≤ 6) (h : ya6 m t = none) : remV m t = 0 := by
 refine yjy t.length fun i hi => ?_
 have hm0 := hM.le i hi
 rcases zlt ((t.getD i default).l.length - (m.getD i default).toNat) with h0 | h0
 ·exact h0
 ·exfalso
  have hh : hasV t ((i + 1 : Nat) : Int) (m.getD i default) = true := by
   unfold hasV
   have e : (((i + 1 : Nat) : Int) - 1).toNat = i := by omega
   rw [e]
   simp only [zlo, decide_eq_true_eq]
   omega
  have hin := hO.all _ _ hh
  have := yhu hO hM hl h o.length _ (by rw [List.take_length]; exact hin)
  have e : gtM m ⟨((i + 1 : Nat) : Int), m.getD i default⟩ = m.getD i default := by
   show m.getD (((i + 1 : Nat) : Int) - 1).toNat default = _
   rw [show (((i + 1 : Nat) : Int) - 1).toNat = i by omega]
  rw [e] at this
  exact absurd this (by show ¬ m.getD i default < m.getD i default; omega)
theorem ygf {t : List Rw} (hL : OkL t) (hs : ∀ m, OkM m t → ya6 m t = none → remV m t = 0) : ∀ (f : Nat) (m : List Int), OkM m t → remV m t < f → (yc2 t f m).length = remV m t
 | 0, m, _, h => by omega
 | f + 1, m, hM, h => by
  rw [yc2]
  cases hl : ya6 m t with
  | none => rw [hs m hM hl]; rfl
  | some i =>
   have hr := yj7 hL hM hl
   rw [List.length_cons, ygf hL hs f (bump m i) (hM.bump hL hl) (by omega), hr]
theorem yof {t : List Rw} {o : List Idd} (hL : OkL t) (hO : MakeOk t o) : (ya2 t).length = cntV t := by
 unfold ya2
 rw [ygf hL (fun m hM h => ymi hO hM hL.len h) _ _ (okM0 t) (by rw [rem0]; omega), rem0]
def tb (m : List (List Lp)) : List Rw := m.map fun l => ⟨none, l⟩
theorem ydg (m : List (List Lp)) : (tb m).length = m.length := by simp [tb]
theorem yht (m : List (List Lp)) (i : Nat) : ((tb m).getD i default).l = m.getD i default := by
 unfold tb
 simp only [zld, List.getElem?_map]
 cases m[i]? <;> rfl
theorem yck (m : List (List Lp)) (y n : Int) : hasV (tb m) y n = true ↔ 1 ≤ y ∧ y ≤ m.length ∧ 0 ≤ n ∧ n < (m.getD (y - 1).toNat default).length := by
 unfold hasV
 rw [yht, ydg]
 simp [zlo, and_assoc]
theorem yjp (m : List (List Lp)) (y n : Int) : atV (tb m) y n = (m.getD (y - 1).toNat default).getD n.toNat default := by
 unfold atV; rw [yht]
structure FineL (L : Lp) : Prop where
 b : L.b = 0 ∨ L.b = 1
 th : L.th.length ≤ 4
 pa : L.pa.length ≤ 5
 d : ∃ d : Int, (d = 0 ∨ d = 1) ∧ ∀ p ∈ L.pa, p.d = d
 ct : L.ct = none
 cp : L.cp = none
theorem FineL.pend {L : Lp} (h : FineL L) : ydk L.pa = true := by
 obtain ⟨d, hd, hp⟩ := h.d
 have hn : nf L.pa = L.pa := by
  refine yyj (ysb L.pa.length L.pa rfl fun i hi => ?_)
  have h1 : L.pa.getD i default ∈ L.pa := by rw [zld, zle (by omega)]; exact zlu _
  have h2 : L.pa.getD (i + 1) default ∈ L.pa := by rw [zld, zle hi]; exact zlu _
  rw [Bool.eq_false_iff]
  intro hc
  have := (yhi.1 hc).1
  have e := congrArg Ps.d this
  rw [hp _ h2] at e
  have e2 := hp _ h1
  generalize L.pa.getD i default = p at e e2
  have e3 : (if p.d == 1 then (0 : Int) else 1) = d := e
  rw [e2] at e3
  rcases hd with rfl | rfl <;> simp at e3
 unfold ydk
 rw [hn]
 simp only [decide_true, Bool.and_true, zlo, decide_eq_true_eq]
 refine ⟨by have := h.pa; omega, ?_⟩
 rw [zls]
 intro p hpp
 have := hp p hpp
 unfold dirB
 rcases hd with rfl | rfl <;> simp [this]
def thM (m : List (List Lp)) : List Idd := m.flatMap fun r => r.flatMap Lp.th
structure ValidS (S : OfS) : Prop where
 m6 : S.m.length = 6
 ok : MakeOk (tb S.m) S.md
 fr : ∀ p ∈ S.fr, p ∈ S.md
 nd : (S.fr ++ thM S.m).Nodup
 fine : ∀ r ∈ S.m, ∀ L ∈ r, FineL L
 nw : ∀ i, i < 6 → S.m.getD i default ≠ [] → ((S.m.getD i default).getD 0 default).w = true
 mdn : S.md.Nodup
theorem ygq : ∀ (ps : List Int) (fr th : List Idd), ((thF ps fr th).1 ++ (thF ps fr th).2).Perm (fr ++ th)
 | [], fr, th => List.Perm.refl _
 | p :: ps, fr, th => by
  rw [thF]
  split
  ·exact List.Perm.refl _
  ·rename_i h
   refine (ygq ps _ _).trans ?_
   have hn := Nat.mod_lt p.toNat (by omega : 0 < fr.length)
   generalize p.toNat % fr.length = n at hn
   have e : fr = fr.take n ++ fr.getD n default :: fr.drop (n + 1) := by
    conv => lhs; rw [← List.take_append_drop n fr]
    congr 1
    rw [List.drop_eq_getElem_cons hn, zld, zle hn]; rfl
   generalize fr.getD n default = q at *
   conv => rhs; rw [e]
   have h1 : (fr.take n ++ fr.drop (n + 1) ++ (th ++ [q])).Perm (q :: (fr.take n ++ fr.drop (n + 1) ++ th)) := by
    rw [← zlp]
    exact List.perm_append_singleton _ _
   refine h1.trans ?_
   have h2 : (fr.take n ++ q :: fr.drop (n + 1) ++ th).Perm (q :: (fr.take n ++ fr.drop (n + 1) ++ th)) := by
    have := (List.perm_middle (a := q) (l₁ := fr.take n) (l₂ := fr.drop (n + 1))).append_right th
    simp
   exact h2.symm
theorem yjx : ∀ (ps : List Int) (fr th : List Idd), (thF ps fr th).2.length ≤ th.length + ps.length
 | [], fr, th => by simp [thF]
 | p :: ps, fr, th => by
  rw [thF]
  split
  ·simp
  ·have := yjx ps (fr.take (p.toNat % fr.length) ++ fr.drop (p.toNat % fr.length + 1)) (th ++ [fr.getD (p.toNat % fr.length) default])
   rw [zlg] at this
   have e : [fr.getD (p.toNat % fr.length) default].length = 1 := rfl
   rw [List.length_cons]; omega
section
variable {S : OfS} {L : Lx} (hS : ValidS S) (hL : OkX L)
include hS
theorem ValidS.get (l : List Lp) (y0 : Nat) (hy : y0 < 6) (j : Nat) : (S.m.set y0 l).getD j default = if j = y0 then l else S.m.getD j default := by
 rw [zld, List.getElem?_set]
 have := hS.m6
 by_cases h : y0 = j
 ·subst h; rw [if_pos rfl, if_pos rfl, if_pos (by omega)]; rfl
 ·rw [if_neg h, if_neg (Ne.symm h), zld]
theorem ValidS.has_old {p : Idd} (h : p ∈ S.md) : hasV (tb S.m) p.y p.n = true := by
 obtain ⟨k, hk, e⟩ := List.mem_iff_getElem.1 h
 exact (hS.ok.sub k p (by rw [zle hk, e])).1
theorem ValidS.new (y0 : Nat) (hy : y0 < 6) : (⟨((y0 + 1 : Nat) : Int), ((S.m.getD y0 default).length : Nat)⟩ : Idd) ∉ S.md := by
 intro h
 have := (yck _ _ _).1 (hS.has_old h)
 have e : ((((y0 + 1 : Nat) : Int) - 1).toNat) = y0 := by omega
 simp only [e] at this
 omega
theorem ValidS.ment {y n : Int} (h : hasV (tb S.m) y n = true) : ∀ q ∈ zqz (atV (tb S.m) y n), q ∈ S.md := by
 have hm := hS.ok.all y n h
 obtain ⟨k, hk, e⟩ := List.mem_iff_getElem.1 hm
 intro q hq
 exact List.mem_of_mem_take ((hS.ok.sub k ⟨y, n⟩ (by rw [zle hk, e])).2.2 q hq)
theorem ValidS.thM {p : Idd} (h : p ∈ thM S.m) : p ∈ S.md := by
 unfold Tst.thM at h
 obtain ⟨r, hr, h⟩ := List.mem_flatMap.1 h
 obtain ⟨K, hK, h⟩ := List.mem_flatMap.1 h
 obtain ⟨i, hi, rfl⟩ := List.mem_iff_getElem.1 hr
 obtain ⟨n, hn, rfl⟩ := List.mem_iff_getElem.1 hK
 have hg : S.m.getD i default = S.m[i] := by rw [zld, zle hi]; rfl
 have hh : hasV (tb S.m) ((i + 1 : Nat) : Int) (n : Nat) = true := by
  rw [yck]
  have e : ((((i + 1 : Nat) : Int) - 1).toNat) = i := by omega
  rw [e, hg]; omega
 refine hS.ment hh p ?_
 rw [yjp]
 have e : ((((i + 1 : Nat) : Int) - 1).toNat) = i := by omega
 rw [e, hg, zlf, zld, zle hn]
 exact List.mem_append.2 (.inl h)
theorem ys6 (y0 : Nat) (hy : y0 < 6) (l : Lp) : (Tst.thM (S.m.set y0 (S.m.getD y0 default ++ [l]))).Perm (l.th ++ Tst.thM S.m) := by
 have hl : y0 < S.m.length := by rw [hS.m6]; exact hy
 have hg : S.m.getD y0 default = S.m[y0] := by rw [zld, zle hl]; rfl
 have e : S.m = S.m.take y0 ++ S.m[y0] :: S.m.drop (y0 + 1) := by
  conv => lhs; rw [← List.take_append_drop y0 S.m]
  rw [List.drop_eq_getElem_cons hl]
 unfold Tst.thM
 rw [List.set_eq_take_append_cons_drop, if_pos hl, hg]
 conv => rhs; rw [e]
 simp only [List.flatMap_append, List.flatMap_cons, List.flatMap_nil, List.append_nil]
 have : ∀ (A B C D : List Idd), (A ++ (B ++ C ++ D)).Perm (C ++ (A ++ (B ++ D))) := by
  intro A B C D
  have h1 : (A ++ (B ++ C ++ D)) = (A ++ B) ++ (C ++ D) := by simp
  have h2 : (C ++ (A ++ (B ++ D))) = C ++ ((A ++ B) ++ D) := by simp
  rw [h1, h2]
  have := List.perm_append_comm_assoc (A ++ B) C D
  exact this
 exact this _ _ _ _
end
section
variable {S : OfS} {L : Lx} (hS : ValidS S) (hL : OkX L)
include hS
theorem yur (y0 : Nat) (hy : y0 < 6) (l : Lp) (y n : Int) : hasV (tb (S.m.set y0 (S.m.getD y0 default ++ [l]))) y n = true ↔ hasV (tb S.m) y n = true ∨ (y = ((y0 + 1 : Nat) : Int) ∧ n = ((S.m.getD y0 default).length : Nat)) := by
 rw [yck, yck, hS.get _ y0 hy, zlx]
 have h6 := hS.m6
 by_cases h : (y - 1).toNat = y0
 ·rw [if_pos h, h, zlg]
  have : [l].length = 1 := rfl
  constructor
  ·rintro ⟨a, b, c, d⟩
   by_cases e : n = ((S.m.getD y0 default).length : Nat)
   ·exact .inr ⟨by omega, e⟩
   ·exact .inl ⟨a, b, c, by omega⟩
  ·rintro (⟨a, b, c, d⟩ | ⟨a, b⟩)
   ·exact ⟨a, b, c, by omega⟩
   ·exact ⟨by omega, by omega, by omega, by omega⟩
 ·rw [if_neg h]
  constructor
  ·exact .inl
  ·rintro (a | ⟨a, b⟩)
   ·exact a
   ·exfalso; apply h; omega
theorem at_old (y0 : Nat) (hy : y0 < 6) (l : Lp) {y n : Int} (h : hasV (tb S.m) y n = true) : atV (tb (S.m.set y0 (S.m.getD y0 default ++ [l]))) y n = atV (tb S.m) y n := by
 obtain ⟨a, b, c, d⟩ := (yck _ _ _).1 h
 rw [yjp, yjp, hS.get _ y0 hy]
 by_cases h : (y - 1).toNat = y0
 ·rw [if_pos h, h]
  rw [h] at d
  generalize S.m.getD y0 default = row at *
  simp only [zld]
  rw [List.getElem?_append_left (by omega)]
 ·rw [if_neg h]
theorem at_new (y0 : Nat) (hy : y0 < 6) (l : Lp) : atV (tb (S.m.set y0 (S.m.getD y0 default ++ [l]))) ((y0 + 1 : Nat) : Int) ((S.m.getD y0 default).length : Nat) = l := by
 rw [yjp, hS.get _ y0 hy, if_pos (by omega), zlf, zld, List.getElem?_append_right (zly _), Nat.sub_self]
 rfl
include hL
theorem yqu : FineL (ofL S L) := by
 refine ⟨?_, ?_, ?_, ?_, rfl, rfl⟩
 ·have e : (ofL S L).b = if L.b then 1 else 0 := rfl
  rw [e]
  split
  ·exact .inr rfl
  ·exact .inl rfl
 ·have := yjx (L.th.take 4) S.fr []
  rw [zlh] at this
  show (thF (L.th.take 4) S.fr []).2.length ≤ 4
  simp at this
  omega
 ·show (if S.md.length = 0 then [] else (L.pa.take 5).map (psOf S.md L.y)).length ≤ 5
  split
  ·simp
  ·rw [zla, zlh]; omega
 ·refine ⟨Int.tmod (IntKind.wrap u8 (Int.tdiv L.y 6)) 2, ?_, ?_⟩
  ·have h0 := hL.y0
   have h1 := hL.y1
   obtain ⟨a, ha⟩ : ∃ a : Nat, L.y = a := ⟨L.y.toNat, by omega⟩
   rw [ha] at h1 ⊢
   have e : Int.tdiv (a : Int) 6 = ((a / 6 : Nat) : Int) := by rw [Int.tdiv_eq_ediv_of_nonneg (by omega)]; rfl
   rw [e, yhm (by omega) (by omega), Int.tmod_eq_emod_of_nonneg (by omega)]
   omega
  ·intro p hp
   have hp : p ∈ (if S.md.length = 0 then [] else (L.pa.take 5).map (psOf S.md L.y)) := hp
   split at hp
   ·simp at hp
   ·obtain ⟨q, _, rfl⟩ := List.mem_map.1 hp
    rfl
theorem yqf : ∀ q ∈ zqz (ofL S L), q ∈ S.md := by
 intro q hq
 rcases List.mem_append.1 hq with h | h
 ·have h : q ∈ (thF (L.th.take 4) S.fr []).2 := h
  have := (ygq (L.th.take 4) S.fr []).mem_iff.1 (List.mem_append.2 (.inr h))
  rw [List.append_nil] at this
  exact hS.fr q this
 ·obtain ⟨p, hp, rfl⟩ := List.mem_map.1 h
  have hp : p ∈ (if S.md.length = 0 then [] else (L.pa.take 5).map (psOf S.md L.y)) := hp
  split at hp
  ·simp at hp
  ·rename_i hne
   obtain ⟨z, _, rfl⟩ := List.mem_map.1 hp
   show (⟨(S.md.getD (z.toNat / 2 % S.md.length) default).y, (S.md.getD (z.toNat / 2 % S.md.length) default).n⟩ : Idd) ∈ S.md
   have hlt := Nat.mod_lt (z.toNat / 2) (by omega : 0 < S.md.length)
   generalize z.toNat / 2 % S.md.length = k at hlt
   show S.md.getD k default ∈ S.md
   rw [zld, zle hlt]
   exact zlu hlt
theorem ValidS.step : ValidS (ya1 S L) := by
 have hy : L.y.toNat % 6 < 6 := Nat.mod_lt _ (by omega)
 have hnew := hS.new (L.y.toNat % 6) hy
 have hm : ∀ q ∈ zqz (ofL S L), q ∈ S.md := yqf hS hL
 have hf := yqu hS hL
 have hperm := ygq (L.th.take 4) S.fr []
 rw [List.append_nil] at hperm
 have hthm := ys6 hS (L.y.toNat % 6) hy (ofL S L)
 have hhas := yur hS (L.y.toNat % 6) hy (ofL S L)
 have haold := fun y n h => at_old hS (L.y.toNat % 6) hy (ofL S L) (y := y) (n := n) h
 have hanew := at_new hS (L.y.toNat % 6) hy (ofL S L)
 have hget := hS.get (S.m.getD (L.y.toNat % 6) default ++ [ofL S L]) (L.y.toNat % 6) hy
 refine ⟨by show (List.set _ _ _).length = 6; rw [zlx]; exact hS.m6, ⟨?_, ?_⟩, ?_, ?_, ?_, ?_, ?_⟩
 ·intro k p hk
  have hk : (S.md ++ [ofI S L])[k]? = some p := hk
  show hasV (tb (S.m.set _ _)) p.y p.n = true ∧ (∀ n', 0 ≤ n' → n' < p.n → _ ∈ (S.md ++ [ofI S L]).take k) ∧ ∀ q ∈ zqz (atV (tb (S.m.set _ _)) p.y p.n), q ∈ (S.md ++ [ofI S L]).take k
  by_cases hlt : k < S.md.length
  ·rw [List.getElem?_append_left hlt] at hk
   obtain ⟨h1, h2, h3⟩ := hS.ok.sub k p hk
   rw [List.take_append_of_le_length (by omega), haold _ _ h1]
   exact ⟨(hhas _ _).2 (.inl h1), h2, h3⟩
  ·rw [List.getElem?_append_right (by omega)] at hk
   have hk0 : k = S.md.length := by
    rcases zlt (k - S.md.length) with h | h
    ·omega
    ·rw [List.getElem?_eq_none (by simp; omega)] at hk; cases hk
   subst hk0
   rw [Nat.sub_self] at hk
   injection hk with hk; subst hk
   rw [List.take_append_of_le_length (zly _), List.take_length]
   refine ⟨(hhas _ _).2 (.inr ⟨rfl, rfl⟩), ?_, ?_⟩
   ·intro n' h0 h1
    have h1 : n' < ((S.m.getD (L.y.toNat % 6) default).length : Nat) := h1
    refine hS.ok.all _ _ ((yck _ _ _).2 ?_)
    have e : (((L.y.toNat % 6 + 1 : Nat) : Int) - 1).toNat = L.y.toNat % 6 := by omega
    have := hS.m6
    show 1 ≤ ((L.y.toNat % 6 + 1 : Nat) : Int) ∧ ((L.y.toNat % 6 + 1 : Nat) : Int) ≤ S.m.length ∧ 0 ≤ n' ∧ n' < (S.m.getD (((L.y.toNat % 6 + 1 : Nat) : Int) - 1).toNat default).length
    rw [e]
    exact ⟨by omega, by omega, h0, h1⟩
   ·have e : atV (tb (S.m.set (L.y.toNat % 6) (S.m.getD (L.y.toNat % 6) default ++ [ofL S L]))) (ofI S L).y (ofI S L).n = ofL S L := hanew
    rw [e]; exact hm
 ·intro y n h
  show _ ∈ S.md ++ [ofI S L]
  rcases (hhas y n).1 h with h | ⟨rfl, rfl⟩
  ·exact List.mem_append.2 (.inl (hS.ok.all _ _ h))
  ·exact List.mem_append.2 (.inr (by simp [ofI]))
 ·intro p hp
  show p ∈ S.md ++ [ofI S L]
  have hp : p ∈ (thF (L.th.take 4) S.fr []).1 ++ [ofI S L] := hp
  rcases List.mem_append.1 hp with h | h
  ·exact List.mem_append.2 (.inl (hS.fr p (hperm.mem_iff.1 (List.mem_append.2 (.inl h)))))
  ·exact List.mem_append.2 (.inr h)
 ·show ((thF (L.th.take 4) S.fr []).1 ++ [ofI S L] ++ Tst.thM (S.m.set _ _)).Nodup
  have h1 : ((thF (L.th.take 4) S.fr []).1 ++ [ofI S L] ++ Tst.thM (S.m.set (L.y.toNat % 6) (S.m.getD (L.y.toNat % 6) default ++ [ofL S L]))).Perm (ofI S L :: (S.fr ++ Tst.thM S.m)) := by
   refine ((List.Perm.refl _).append hthm).trans ?_
   have h2 : ((thF (L.th.take 4) S.fr []).1 ++ [ofI S L] ++ ((ofL S L).th ++ Tst.thM S.m)) = (thF (L.th.take 4) S.fr []).1 ++ ofI S L :: ((ofL S L).th ++ Tst.thM S.m) := by simp
   rw [h2]
   refine List.perm_middle.trans ?_
   refine List.Perm.cons _ ?_
   rw [← zlp]
   exact hperm.append_right _
  rw [h1.nodup_iff, List.nodup_cons]
  refine ⟨fun h => ?_, hS.nd⟩
  rcases List.mem_append.1 h with h | h
  ·exact hnew (hS.fr _ h)
  ·exact hnew (hS.thM h)
 ·intro r hr K hK
  rcases List.mem_or_eq_of_mem_set hr with hr | rfl
  ·exact hS.fine r hr K hK
  ·rcases List.mem_append.1 hK with h | h
   ·refine hS.fine (S.m.getD (L.y.toNat % 6) default) ?_ K h
    rw [zld, zle (by rw [hS.m6]; exact hy)]; exact zlu _
   ·rw [zlv] at h; subst h; exact hf
 ·intro i hi hne
  have hne : (S.m.set (L.y.toNat % 6) (S.m.getD (L.y.toNat % 6) default ++ [ofL S L])).getD i default ≠ [] := hne
  show (((S.m.set (L.y.toNat % 6) (S.m.getD (L.y.toNat % 6) default ++ [ofL S L])).getD i default).getD 0 default).w = true
  rw [hget] at hne ⊢
  by_cases h : i = L.y.toNat % 6
  ·rw [if_pos h]
   by_cases hr : S.m.getD (L.y.toNat % 6) default = []
   ·rw [hr]
    show (L.w || (S.m.getD (L.y.toNat % 6) default).length == 0) = true
    rw [hr]; simp
   ·have := hS.nw (L.y.toNat % 6) hy hr
    rw [zld, List.getElem?_append_left (List.length_pos_iff.2 hr), ← zld]
    exact this
  ·rw [if_neg h] at hne ⊢
   exact hS.nw i hi hne
 ·show (S.md ++ [ofI S L]).Nodup
  rw [List.nodup_append]
  refine ⟨hS.mdn, by simp, fun a ha b hb e => ?_⟩
  rw [zlv] at hb
  subst hb e
  exact hnew ha
end
theorem yws : ValidS S0 := by
 refine ⟨rfl, ⟨fun k p h => by simp [S0] at h, fun y n h => ?_⟩, fun p h => by simp [S0] at h, by simp [S0, thM], ?_, ?_, by simp [S0]⟩
 ·exfalso
  obtain ⟨a, b, c, d⟩ := (yck _ _ _).1 h
  have e : S0.m.getD (y - 1).toNat default = [] := by
   unfold S0
   rw [zld, List.getElem?_replicate]
   split <;> rfl
  rw [e] at d
  simp at d
  omega
 ·intro r hr K hK
  rw [(List.mem_replicate.1 hr).2] at hK; simp at hK
 ·intro i hi hne
  exfalso; apply hne
  unfold S0
  rw [zld, List.getElem?_replicate]
  split <;> rfl
theorem yf3 : ∀ (l : List Lx) (S : OfS), ValidS S → (∀ L ∈ l, OkX L) → ValidS (l.foldl ya1 S)
 | [], S, h, _ => h
 | L :: l, S, h, hX => yf3 l _ (h.step (hX L (by simp))) fun K hK => hX K (by simp [hK])
theorem ypf (x : List Lx) (hX : ∀ L ∈ x, OkX L) : ValidS (ofS x) := yf3 _ _ yws fun L hL => hX L (List.mem_of_mem_take hL)
theorem yju (m : List (List Lp)) (h : ∀ r ∈ m, ∀ L ∈ r, L.ct = none ∧ L.cp = none) : view (.sl .own 37 none (m.map gOW)) = .sl .any 37 none ((tb m).map Rw.enc) := by
 show AV.sl .any 37 none ((m.map gOW).map (mapE (remode (fun _ => .any) 11))) = _
 unfold tb
 rw [List.map_map, List.map_map]
 congr 1
 refine List.map_congr_left fun l hl => ?_
 show AV.sl .any 45 none ((l.map Lp.encG).map (mapE (remode (fun _ => .any) 10))) = .sl .any 45 none (l.map Lp.enc)
 rw [List.map_map]
 congr 1
 refine List.map_congr_left fun K hK => ?_
 obtain ⟨h1, h2⟩ := h l hl K hK
 show AV.agg [ub K.b, bb K.w, .sl .any 36 none ((K.th.map Idd.enc).map (mapE (remode (fun _ => .any) 9))), .sl .any 56 none ((K.pa.map Ps.enc).map (mapE (remode (fun _ => .any) 9)))] = AV.agg [ub K.b, bb K.w, isl K.ct K.th, sl K.cp K.pa]
 rw [ybb, ybm, h1, h2]
theorem ytg {i : Nat} {R : List Lp} {x : Idd × Lp} (h : x ∈ rowL i R) : ∃ n : Nat, n < R.length ∧ x.1 = ⟨((i + 1 : Nat) : Int), (n : Int)⟩ ∧ x.2 = R.getD n default := by
 unfold rowL at h
 obtain ⟨q, hq, rfl⟩ := List.mem_map.1 h
 have h1 := List.mem_zipIdx hq
 refine ⟨q.2, by have := h1.2.1; omega, rfl, ?_⟩
 show q.1 = _
 have := h1.2.2
 rw [this, zld, zle (by have := h1.2.1; omega)]
 simp
theorem yec : ∀ (t : List Rw) (i : Nat) (x : Idd × Lp), x ∈ yaj i t → ∃ j n : Nat, j < t.length ∧ n < (t.getD j default).l.length ∧ x.1 = ⟨((i + j + 1 : Nat) : Int), (n : Int)⟩ ∧ x.2 = (t.getD j default).l.getD n default
 | [], i, x, h => by simp [yaj] at h
 | r :: t, i, x, h => by
  rw [yaj, List.mem_append] at h
  rcases h with h | h
  ·obtain ⟨n, h1, h2, h3⟩ := ytg h
   exact ⟨0, n, by simp, h1, h2, h3⟩
  ·obtain ⟨j, n, h1, h2, h3, h4⟩ := yec t (i + 1) x h
   refine ⟨j + 1, n, by rw [List.length_cons]; omega, h2, ?_, h4⟩
   rw [h3, show i + 1 + j + 1 = i + (j + 1) + 1 by omega]
theorem ypn (i : Nat) (R : List Lp) : thA (rowL i R) = R.flatMap Lp.th := by
 unfold thA rowL
 rw [List.flatMap_map]
 show List.flatMap (fun q : Lp × Nat => q.1.th) R.zipIdx = _
 have : ∀ (R : List Lp) (k : Nat), List.flatMap (fun q : Lp × Nat => q.1.th) (R.zipIdx k) = R.flatMap Lp.th := by
  intro R
  induction R with
  | nil => intro k; rfl
  | cons a R ih => intro k; rw [List.zipIdx_cons, List.flatMap_cons, List.flatMap_cons, ih]
 exact this R 0
theorem yc4 : ∀ (t : List Rw) (i : Nat), thA (yaj i t) = t.flatMap fun r => r.l.flatMap Lp.th
 | [], i => rfl
 | r :: t, i => by rw [yaj, yiv, ypn, yc4 t (i + 1), List.flatMap_cons]
theorem ykh {l : List Lp} {n : Nat} (h : n < l.length) : l.getD n default ∈ l := by rw [zld, zle h]; exact zlu _
section
variable {S : OfS} (hS : ValidS S)
include hS
theorem ValidS.take : (tb S.m).take 255 = tb S.m := zlm (by rw [ydg, hS.m6]; omega)
theorem ValidS.tw : twV (tb S.m) = false := by
 unfold twV allT
 rw [hS.take, yc4]
 have e : ((tb S.m).flatMap fun r => r.l.flatMap Lp.th) = Tst.thM S.m := by
  unfold tb Tst.thM
  rw [List.flatMap_map]
 rw [e, zlb (List.nodup_append.1 hS.nd).2.1]
 rfl
theorem ValidS.ck : ckT (tb S.m) = true := by
 unfold ckT allT
 rw [hS.take, zls]
 intro x hx
 obtain ⟨j, n, h1, h2, h3, h4⟩ := yec _ 0 x hx
 rw [ydg, hS.m6] at h1
 rw [yht] at h2 h4
 have hmem : S.m.getD j default ∈ S.m := by rw [zld, zle (by rw [hS.m6]; exact h1)]; exact zlu _
 have hL : x.2 ∈ S.m.getD j default := by rw [h4]; exact ykh h2
 have hf := hS.fine _ hmem _ hL
 have e0 : 0 + j + 1 = j + 1 := by omega
 rw [e0] at h3
 have e1 : (((j + 1 : Nat) : Int) - 1).toNat = j := by omega
 have hh : hasV (tb S.m) ((j + 1 : Nat) : Int) (n : Int) = true := by
  rw [yck, e1, hS.m6]; omega
 have hat : atV (tb S.m) ((j + 1 : Nat) : Int) (n : Int) = x.2 := by rw [yjp, e1, zlf, h4]
 unfold arV yaa
 simp only [zlo]
 refine ⟨⟨⟨⟨?_, ?_⟩, hf.pend⟩, ?_⟩, ?_⟩
 ·rcases hf.b with h | h <;> simp [h]
 ·exact zlb hf.th
 ·rw [zls]
  intro p hp
  rw [← hat] at hp
  exact hS.has_old (hS.ment hh p hp)
 ·rw [h3]
  by_cases hn : n = 0
  ·subst hn
   have := hS.nw j h1 (by intro e; rw [e] at h2; simp at h2)
   rw [← h4] at this
   simp [this]
  ·have : ((n : Int) != 0) = true := by simpa using hn
   show ((n : Int) != 0 || x.2.w) = true
   rw [this]; rfl
theorem ValidS.okT : OkT (tb S.m) := by
 intro r hr L hL
 unfold tb at hr
 obtain ⟨l, hl, rfl⟩ := List.mem_map.1 hr
 have hf := hS.fine l hl L hL
 refine ⟨?_, by have := hf.th; omega, by have := hf.pa; omega⟩
 intro p hp
 obtain ⟨i, hi, rfl⟩ := List.mem_iff_getElem.1 hl
 obtain ⟨n, hn, rfl⟩ := List.mem_iff_getElem.1 hL
 have hg : S.m.getD i default = S.m[i] := by rw [zld, zle hi]; rfl
 have e1 : (((i + 1 : Nat) : Int) - 1).toNat = i := by omega
 have hn' : n < S.m[i].length := hn
 have hh : hasV (tb S.m) ((i + 1 : Nat) : Int) (n : Int) = true := by
  rw [yck, e1, hg]; omega
 have hat : atV (tb S.m) ((i + 1 : Nat) : Int) (n : Int) = S.m[i][n] := by
  rw [yjp, e1, zlf, hg, zld, zle hn']; rfl
 have h3 : p ∈ zqz (atV (tb S.m) ((i + 1 : Nat) : Int) (n : Int)) := by rw [hat]; exact hp
 have := (yck _ _ _).1 (hS.has_old (hS.ment hh p h3))
 have := hS.m6
 omega
theorem ValidS.okL (hr : ∀ r ∈ S.m, r.length < 2 ^ 60) : OkL (tb S.m) := yne (by rw [ydg, hS.m6]; omega) (fun r h => by
 unfold tb at h
 obtain ⟨l, hl, rfl⟩ := List.mem_map.1 h
 exact hr l hl) hS.okT hS.ck
theorem ValidS.check (hr : ∀ r ∈ S.m, r.length < 2 ^ 60) (hc : cntV (tb S.m) ≤ 2048) : chV (tb S.m) = 0 := by
 unfold chV yap
 rw [ydg, hS.m6, hS.tw, hS.ck, yof (hS.okL hr) hS.ok]
 rw [if_neg (by omega), if_neg (by omega), if_neg (by simp), if_neg (by simp), if_neg (by omega)]
end
set_option maxHeartbeats 0
theorem yuv {d : List Int} {i : Nat} (h : i < d.length) : List.getD (d.map itI) i .bad = itI (List.getD d i default) := by simp [zld, h]
section
variable (L : Lp) (d : List Int) (hd : d.length = 7) (ht : L.th.length < 2 ^ 60) (hp : L.pa.length < 2 ^ 60)
include hd ht
omit ht
include hp
end
def HOf (c : Option Nat) (x : List Lx) (m : List (List Lp)) (md : List Idd) : Prop := PureC Try.prog 9 [xsl c x] (.tup [tGW m, iow none md])
def HOr (t : List Rw) (l : List Idd) : Prop := PureC Try.prog 10 [tsl none t] (.tup [iow (some l.length) l, it 0])
theorem yy9 (t : List Rw) (l : List Idd) (d : List Int) (i y : Int) (hd : d.length = 7) (g0 : decide (0 ≤ y ∧ y < ((7 : Nat) : Int) ∧ (0 : Nat) < (1 : Nat)) = true) (g1 : decide ((0 : Nat) = (0 : Nat) ∧ y.toNat * (1 : Nat) < (d.map itI).length) = true) (g2 : (d.map itI).getD (y.toNat * (1 : Nat)) AV.bad = itI (d.getD (y.toNat * (1 : Nat)) default)) : Tri Try.prog (cxN 100 0) (zqr Try.f3 13) ([(3, tsl none t), (5, isl (some l.length) l), (7, .box (d.map itI)), (8, it i), (9, bb false), (10, it y)]) .normal ([(3, tsl none t), (5, isl (some (l.length)) l), (7, AV.box (List.map itI d)), (8, it i), (9, bb false), (10, it y), (11, AV.box [ub (u8.wrap y), it (d.getD (y.toNat * (1 : Nat)) default)])]) :=
 ev h3 [.c, .c, .c, .b true, .c, .b true, .r (itI (d.getD (y.toNat * (1 : Nat)) default)), .c, .c, .c, .c] (allp g0 (allp g1 (allp g2 zqa)))
theorem topNo {env : Env} (h : ∀ p ∈ env, zqf p.2 = none) (r : Nat) : topOnly r env := by
 intro t y hl hy
 have : ∃ p ∈ env, p.2 = y := by
  clear hy
  induction env with
  | nil => cases hl
  | cons p env ih =>
   obtain ⟨s, z⟩ := p
   unfold Lf.lk at hl
   split at hl
   ·injection hl with hl; exact ⟨(s, z), List.mem_cons_self, hl⟩
   ·obtain ⟨q, hq, e⟩ := ih (fun q hq => h q (by simp [hq])) hl
    exact ⟨q, by simp [hq], e⟩
 obtain ⟨p, hp, rfl⟩ := this
 rw [h p hp] at hy; cases hy
theorem OpsR.grabAt {P : Program} {cx : Cx} {ops : Array Oper} {env : Env} {r : Nat} {p : Path} {xr : AV} {e : TypeId} {cap : Option Nat} {xs : List AV} (hr : lk env r = some xr) (hrt : zqu xr = true) (hg : getC xr p = some (.sl .own e cap xs)) (htop : topOnly r env) : OpsR P cx ops [] env (· = (r, setC xr p (share (.sl .own e cap xs))) :: env) := by
 intro ρ F B0 w0 S0 ds a w Q rest hag hQ
 obtain ⟨hd, hN, n, S, Os, hn, hgr, hst⟩ := hag
 obtain ⟨n', S', Os', vr, u, m, hn', hst', hS, _, _, _, _, _, hS'⟩ := hst.shareAt (p := p) hr hrt hg (.inr htop)
 refine hQ _ rfl a w ⟨hd, hN, n', S', Os', by omega, ⟨fun b hb => hS b (hgr.1 b hb), fun b hb => ?_⟩, hst'⟩
 rcases hS' b hb with h | h
 ·exact hgr.2 b h
 ·exact .inr (hst.lt r b h).1
theorem ypc (c : Option Nat) (x : List Lx) : view (xsl c x) = xsl c x := by
 show AV.sl .any 67 c ((x.map Lx.enc).map (mapE (remode (fun _ => .any) 11))) = _
 rw [List.map_map]
 congr 1
 refine List.map_congr_left fun L _ => ?_
 show AV.agg [ub L.y, bb L.b, bb L.w, .sl .any 5 L.ct ((L.th.map ubE).map (mapE (remode (fun _ => .any) 10))), .sl .any 5 L.cp ((L.pa.map ubE).map (mapE (remode (fun _ => .any) 10)))] = Lx.enc L
 rw [List.map_map, List.map_map]; rfl
section
variable (c : Option Nat) (x : List Lx) (m : List (List Lp)) (md : List Idd) (h : HOf c x m md)
include h
omit h in
theorem ymn (md : List Idd) : share (iow none md) = .sl .fresh 36 none (md.map Idd.enc) := by
 show AV.sl .fresh 36 none ((md.map Idd.enc).map (mapE (remode zqx 11))) = _
 rw [List.map_map]; rfl
end
section
variable (t : List Rw) (md l : List Idd) (h : HOr t l)
include h
end
section
variable (m : List Int) (t : List Rw)
variable (l : List Idd) (i : Nat) (hL : OkL t) (hM : OkM m t) (h6 : t.length = 6)
abbrev loE (d : List Int) (i : Nat) : Env := [(3, tsl none t), (5, isl (some l.length) l), (7, .box (d.map itI)), (8, it i)]
include hL hM h6
end
section
variable (m : List Int) (t : List Rw) (l : List Idd) (i : Nat) (hL : OkL t) (hM : OkM m t) (h6 : t.length = 6)
include hM in
theorem lo13t (j : Nat) (hj : j < 6) : Tri Try.prog (cxN 100 0) (zqr Try.f3 13) (loE t l (0 :: m) i ++ [(9, bb false), (10, it (j + 1 : Nat))]) .normal (loE t l (0 :: m) i ++ [(9, bb false), (10, it (j + 1 : Nat)), (11, .box [ub (j + 1 : Nat), it (m.getD j default)])]) := by
 have hd : (0 :: m).length = 7 := by rw [List.length_cons, hM.len]
 have hy : ((j + 1 : Nat) : Int) < 7 := by omega
 have h := yy9 t l (0 :: m) i ((j + 1 : Nat) : Int) hd (zlb ⟨by omega, hy, by decide⟩) (zlb ⟨rfl, by rw [zla, hd]; show _ * 1 < 7; omega⟩) (yuv (by rw [hd]; omega))
 rw [yhm (by omega) (by omega), show Int.toNat ((j + 1 : Nat) : Int) * 1 = j + 1 by omega, List.getD_cons_succ] at h
 exact h
include hL hM h6
end
section
variable (m : List Int) (t : List Rw) (l : List Idd) (i : Nat) (hL : OkL t) (hM : OkM m t) (h6 : t.length = 6)
include hL hM h6
end
theorem ykj {α : Type} : ∀ (m : List (List α)) (k : Nat) (r : α), k < m.length → ((m.set k (m.getD k default ++ [r])).map List.length).sum = (m.map List.length).sum + 1
 | [], k, r, h => by simp at h
 | a :: m, 0, r, h => by simp; omega
 | a :: m, k + 1, r, h => by
  have := ykj m k r (by simpa using h)
  simp only [List.set_cons_succ, List.map_cons, List.sum_cons, List.getD_cons_succ]
  omega
theorem ysj (m : List (List Lp)) : cntV (tb m) = (m.map List.length).sum := by
 unfold cntV tb
 rw [List.map_map]; rfl
theorem ykx : ∀ (x : List Lx) (S : OfS), S.m.length = 6 → (S.m.map List.length).sum = S.md.length → ((x.foldl ya1 S).m.map List.length).sum = (x.foldl ya1 S).md.length ∧ (x.foldl ya1 S).md.length = S.md.length + x.length
 | [], S, h6, h => ⟨h, rfl⟩
 | L :: x, S, h6, h => by
  have h1 : (ya1 S L).m.length = 6 := by unfold ya1; rw [zlx]; exact h6
  have h2 : (ya1 S L).md.length = S.md.length + 1 := by unfold ya1; rw [zlg]; rfl
  have h3 : ((ya1 S L).m.map List.length).sum = (ya1 S L).md.length := by
   rw [h2, ← h]; exact ykj S.m _ _ (by rw [h6]; exact Nat.mod_lt _ (by omega))
  obtain ⟨k1, k2⟩ := ykx x (ya1 S L) h1 h3
  exact ⟨k1, by rw [List.foldl_cons, k2, h2, List.length_cons]; omega⟩
theorem cnt_of (x : List Lx) : cntV (tb (ofS x).m) = (ofS x).md.length ∧ (ofS x).md.length ≤ 60 := by
 obtain ⟨h1, h2⟩ := ykx (x.take 60) S0 rfl rfl
 refine ⟨by rw [ysj]; exact h1, ?_⟩
 show (List.foldl ya1 S0 (x.take 60)).md.length ≤ 60
 rw [h2, zlh]
 show 0 + _ ≤ 60
 omega
theorem ynj {α : Type} : ∀ {m : List (List α)} {r : List α}, r ∈ m → r.length ≤ (m.map List.length).sum
 | a :: m, r, h => by
  rw [List.map_cons, List.sum_cons]
  rcases List.mem_cons.1 h with rfl | h
  ·omega
  ·have := ynj h; omega
theorem ytf {m : List (List Lp)} {r : List Lp} (h : r ∈ m) : r.length ≤ cntV (tb m) := by
 rw [ysj]; exact ynj h
end Tst
end

section
namespace Go.Lf
open Go Go.RowKit
section
variable {P : Program} {cx : Cx}
theorem Rv.posN {B0 : Nat} {w : World} {S : Nat → Prop} {n : Nat} {v : Value} {x : AV} {O : Own} (h : Rv P B0 w S n v x O) : 0 < n := by
 obtain ⟨m, rfl⟩ := h.pos; exact Nat.succ_pos m
theorem OpsR.split {ops : Array Oper} {env : Env} {y : Oper} {s d : Nat} {xs xs' z : AV} (ks : List (Nat × Wk)) (hg : y.guard = none) (hnd : ∀ c, y.op ≠ .defer c) (hd : y.dst = some d) (hdN : cx.lo ≤ d ∧ d < cx.N) (hds : d ≠ s)
  (hs : lk (keepE ks env) s = some xs) (hxs : zqf xs = none) (hnl : ∀ t y', lk (keepE ks env) t = some y' → zqf y' ≠ some s ∧ zqf y' ≠ some d) (hnl' : zqf xs' ≠ some d)
  (hrun : ∀ (act : Act) (w : World) (B0 : Nat) (S : Nat → Prop) (n : Nat) (v : Value) (O : Own), act.tmps[s]? = some v → Rv P B0 w S n v xs O → ∃ u Oz Oq m, (execOp act.eval y).run P w = .ok (.value u) w ∧ Rv P B0 w S m u z Oz ∧ Rv P B0 w S m v xs' Oq ∧ ∀ b, Oz b + Oq b ≤ O b) :
  OpsR P cx ops [y] env (· = (d, z) :: (s, xs') :: keepE ks env) := by
 refine .one hg fun ρ F B0 w0 S0 ds act w Q K hag hK => ?_
 obtain ⟨hd', hN, n, S, Os, hn, hgr, hst⟩ := hag.keep (ks := ks)
 obtain ⟨v, hv, hsv⟩ := hst.rel s _ hs
 have hrv := hsv.rv hxs
 obtain ⟨u, Oz, Oq, m, hex, hz, hq, hO⟩ := hrun act w B0 S n v (Os s) hv hrv
 have hls : s < act.tmps.size := (zlj.1 hv).1
 have hld : d < act.tmps.size := by rw [hN.1]; exact hdN.2
 have k1 := hst.set (Nat.le_max_left n m) s (v := v) (x := xs') (O := Oq) (S' := S) (w' := w) ⟨hls, .inr hv⟩ (Below.refl _ _) (fun b hb => hb) hst.sLt (fun b t _ hb => hst.excl b t hb) (fun b hb => by have := hst.excl b s hb; have := hO b; omega) (fun _ _ => rfl) (fun b => by have := hst.one s b; have := hO b; omega) (fun b t ht hb => by
  have := hO b
  rcases hst.dis t s b ht with h | h
  ·exact h
  ·omega) (.inr (hq.le (Nat.le_max_right n m))) (fun t y' u' _ hy hyr _ _ => absurd hyr (hnl t y' hy).1)
 rw [yba act.tmps s _ hv] at k1
 have k2 := k1.set (zly _) d (v := u) (x := z) (O := Oz) (S' := S) (w' := w) ⟨hld, .inl (by rw [hN.2]; exact hdN.1)⟩ (Below.refl _ _) (fun b hb => hb) hst.sLt (fun b t _ hb => k1.excl b t hb) (fun b hb => by have := hst.excl b s hb; have := hO b; omega) (fun _ _ => rfl) (fun b => by have := hst.one s b; have := hO b; omega) (fun b t ht hb => by
  have := hO b
  have h1 := hst.one s b
  by_cases e : t = s
  ·rw [if_pos e]; omega
  ·rw [if_neg e]
   rcases hst.dis t s b e with h | h
   ·exact h
   ·omega) (.inr (hz.le (Nat.le_max_right n m))) (fun t y' u' _ hy hyr _ _ => by
  exfalso
  simp only [lk] at hy
  split at hy
  ·injection hy with hy; subst hy; exact hnl' hyr
  ·exact (hnl t y' hy).2 hyr)
 refine opIn hnd (yb4 hex ?_)
 rw [hd]
 exact hK _ rfl _ _ ⟨hd', by simpa [Act.put] using hN, max n m, S, _, by omega, hgr, k2⟩
theorem bad_rv {B0 : Nat} {w : World} {S : Nat → Prop} {n : Nat} (v : Value) (hn : 0 < n) : Rv P B0 w S n v .bad (fun _ => 0) := by
 obtain ⟨m, rfl⟩ : ∃ m, n = m + 1 := ⟨n - 1, by omega⟩
 exact fun _ => rfl
theorem OpsR.moveX {ops : Array Oper} {env : Env} {y : Oper} {s d : Nat} {z x1 : AV} (ks : List (Nat × Wk)) (hg : y.guard = none) (ho : y.op = .extract (.tmp s) 0) (hd : y.dst = some d) (hdN : cx.lo ≤ d ∧ d < cx.N) (hds : d ≠ s)
  (hs : lk (keepE ks env) s = some (.tup [z, x1])) (hnl : ∀ t y', lk (keepE ks env) t = some y' → zqf y' ≠ some s ∧ zqf y' ≠ some d) :
  OpsR P cx ops [y] env (· = (d, z) :: (s, .tup [.bad, x1]) :: keepE ks env) :=
 .split ks hg (by intro c; rw [ho]; intro h; cases h) hd hdN hds hs rfl hnl (by simp [zqf]) fun act w B0 S n v O hv hr => by
  obtain ⟨m, rfl⟩ := hr.pos
  obtain ⟨vs, hvv, hrc⟩ := hr
  have e : act.eval (.tmp s) = v := by simp [Act.eval, zll, hv]
  have hl := hrc.length
  obtain ⟨v0, v1, hvs⟩ : ∃ v0 v1, vs.toList = [v0, v1] := by
   match vs.toList, hl with
   | [v0, v1], _ => exact ⟨v0, v1, rfl⟩
  have hvs' : vs = #[v0, v1] := by rw [← Array.toArray_toList (xs := vs), hvs]
  subst hvs'
  rcases hrc with _ | ⟨h0, hr1, hO⟩
  rename_i O0 O1
  have hm : 0 < m := h0.posN
  refine ⟨v0, O0, O1, m + 1, ?_, h0.le (Nat.le_succ m), ⟨#[v0, v1], hvv, ?_⟩, fun b => by have := hO b; omega⟩
  ·subst hvv
   simp [execOp, ho, e, Instr.extract]
  ·exact .cons (O1 := fun _ => 0) (O2 := O1) (bad_rv v0 hm) hr1 fun b => by simp
end
end Go.Lf
end

section
open Go Go.Lf Go.Proofs
namespace Tst
set_option maxHeartbeats 0
abbrev loO (b : Int) (w : Bool) (th : List Idd) (pa : List Ps) : List AV := [ub b, bb w, iow (some th.length) th, ow (some pa.length) pa]
theorem lth_0 (t : List Rw) (y n : Int) (g0 : decide ((1 : Int) ≤ y) = true) (g1 : decide (i64.wrap y ≤ ((t.map Rw.enc).length : Int)) = true) (g2 : decide ((0 : Int) ≤ n) = true) (g3 : decide ((0 : Int) ≤ u8.wrap (y - (1 : Int)) ∧ u8.wrap (y - (1 : Int)) < ((t.map Rw.enc).length : Int)) = true) (g4 : (t.map Rw.enc).getD ((u8.wrap (y - (1 : Int))).toNat) AV.bad = Rw.enc (t.getD ((u8.wrap (y - (1 : Int))).toNat) default)) : PureC Try.prog 23 [tsl none t, idE y n]  (bb (decide (n < (↑(List.length (List.map Lp.enc (Rw.l (t.getD ((u8.wrap (y - (1 : Int))).toNat) default)))) : Int)))) :=
 zqj (H := h23) (n := 33) (ans := [.c, .c, .c, .c, .c, .c, .c, .c, .b true, .c, .b true, .c, .c, .c, .b true, .c, .b true, .c, .b true, .c, .b true, .c, .b true, .c, .c, .b true, .c, .b true, .c, .c, .c, .b true, .c, .b true, .c, .c, .b true, .c, .b true, .c, .c, .c, .b true, .c, .b true, .c, .b true, .c, .c, .c, .b true, .c, .b true, .b true, .r (Rw.enc (t.getD ((u8.wrap (y - (1 : Int))).toNat) default)), .c, .b true, .c, .b true, .c, .b true, .c, .b true, .c, .c]) (base 33 0) Try.func23 rfl (by simp) rfl (by kernel_rfl) (allp g0 (allp g0 (allp g0 (allp g0 (allp g0 (allp g0 (allp g0 (allp g1 (allp g1 (allp g1 (allp g1 (allp g2 (allp g2 (allp g2 (allp g2 (allp g2 (allp g2 (allp g2 (allp g3 (allp g4 (allp g2 (allp g2 (allp g2 (allp g2 zqa))))))))))))))))))))))))
theorem lth_1 (t : List Rw) (y n : Int) (g0 : decide ((1 : Int) ≤ y) = true) (g1 : decide (i64.wrap y ≤ ((t.map Rw.enc).length : Int)) = true) (g2 : decide ((0 : Int) ≤ n) = false) : PureC Try.prog 23 [tsl none t, idE y n]  (bb false) :=
 zqj (H := h23) (n := 33) (ans := [.c, .c, .c, .c, .c, .c, .c, .c, .b true, .c, .b true, .c, .c, .c, .b true, .c, .b true, .c, .b true, .c, .b true, .c, .b true, .c, .c, .b true, .c, .b true, .c, .c, .c, .b true, .c, .b true, .c, .c, .b false, .c, .b false, .c, .b false, .c, .b false, .c, .b false, .c, .b false, .c, .b false, .c, .b false, .c, .b false, .c, .b false, .c, .b false, .c, .c]) (base 33 0) Try.func23 rfl (by simp) rfl (by kernel_rfl) (allp g0 (allp g0 (allp g0 (allp g0 (allp g0 (allp g0 (allp g0 (allp g1 (allp g1 (allp g1 (allp g1 (allp g2 (allp g2 (allp g2 (allp g2 (allp g2 (allp g2 (allp g2 (allp g2 (allp g2 (allp g2 (allp g2 zqa))))))))))))))))))))))
theorem lth_2 (t : List Rw) (y n : Int) (g0 : decide ((1 : Int) ≤ y) = true) (g1 : decide (i64.wrap y ≤ ((t.map Rw.enc).length : Int)) = false) : PureC Try.prog 23 [tsl none t, idE y n]  (bb false) :=
 zqj (H := h23) (n := 33) (ans := [.c, .c, .c, .c, .c, .c, .c, .c, .b true, .c, .b true, .c, .c, .c, .b true, .c, .b true, .c, .b true, .c, .b true, .c, .b true, .c, .c, .b false, .c, .b false, .c, .b false, .c, .b false, .c, .c, .c, .c, .c, .c, .c, .c, .c, .c, .c, .c, .c, .c, .c, .c, .c, .c, .c, .c, .c, .c, .c, .c, .c]) (base 33 0) Try.func23 rfl (by simp) rfl (by kernel_rfl) (allp g0 (allp g0 (allp g0 (allp g0 (allp g0 (allp g0 (allp g0 (allp g1 (allp g1 (allp g1 (allp g1 zqa)))))))))))
theorem lth_3 (t : List Rw) (y n : Int) (g0 : decide ((1 : Int) ≤ y) = false) : PureC Try.prog 23 [tsl none t, idE y n]  (bb false) :=
 zqj (H := h23) (n := 33) (ans := [.c, .c, .c, .c, .c, .c, .c, .c, .b false, .c, .b false, .c, .b false, .c, .b false, .c, .b false, .c, .b false, .c, .b false, .c, .c, .c, .c, .c, .c, .c, .c, .c, .c, .c, .c, .c, .c, .c, .c, .c, .c, .c, .c, .c, .c, .c, .c, .c, .c, .c, .c, .c, .c, .c, .c, .c, .c]) (base 33 0) Try.func23 rfl (by simp) rfl (by kernel_rfl) (allp g0 (allp g0 (allp g0 (allp g0 (allp g0 (allp g0 (allp g0 zqa)))))))
def HTh (t : List Rw) (y n : Int) (b : Bool) : Prop := PureC Try.prog 23 [tsl none t, idE y n] (bb b)
theorem uHTh {t : List Rw} {y n : Int} {b : Bool} (h : HTh t y n b) : PureC Try.prog 23 [tsl none t, idE y n] (bb b) := h
section
variable (t : List Rw) (w : List Idd) (y i : Int) (L : Lp) (k : Int) (p q : Ps)
abbrev cD : Env := [(0, tsl none t), (3, iow none w), (4, it y), (5, it i), (6, lpB L)]
theorem ysn : Tri Try.prog (cxN 193 0) (zqr Try.f22 14) ((cD t w y i L ++ [(7, it k)]) ) .normal ((cD t w y i L ++ [(7, it k), (63, bb (decide (k < (↑(((Lp.pa L).map Ps.enc).length) : Int))))])) :=
 ev h22 [.c, .c, .c, .c, .c, .c, .c] zqa
theorem ch15_0 : Tri Try.prog (cxN 193 0) (zqr Try.f22 15) ((cD t w y i L ++ [(7, it k)]) ) .normal ((cD t w y i L ++ [(7, it (i64.wrap (k + (1 : Int))))])) :=
 ev h22 [.c, .c, .c] zqa
theorem ch16_0 (g0 : decide ((0 : Int) ≤ k ∧ k < (↑(((Lp.pa L).map Ps.enc).length) : Int)) = true) (g1 : ((Lp.pa L).map Ps.enc).getD (k.toNat) AV.bad = Ps.enc ((Lp.pa L).getD (k.toNat) default)) : Tri Try.prog (cxN 193 0) (zqr Try.f22 16) ((cD t w y i L ++ [(7, it k)]) ) .normal ((cD t w y i L ++ [(7, it k), (8, .box [ub (Ps.y ((Lp.pa L).getD (k.toNat) default)), it (Ps.n ((Lp.pa L).getD (k.toNat) default)), bb (Ps.f ((Lp.pa L).getD (k.toNat) default)), ub (Ps.d ((Lp.pa L).getD (k.toNat) default))])])) :=
 ev h22 [.c, .c, .c, .c, .c, .b true, .r (Ps.enc ((Lp.pa L).getD (k.toNat) default)), .c, .c, .c, .c] (allp g0 (allp g1 zqa))
theorem ch17_0 (b : Bool) (h : HTh t p.y p.n b) (g0 : decide ((1 : Int) < Ps.d p) = true) : Tri Try.prog (cxN 193 0) (zqr Try.f22 17) ((cD t w y i L ++ [(7, it k), (8, .box [ub p.y, it p.n, bb p.f, ub p.d])]) ) .normal ((cD t w y i L ++ [(7, it k), (8, .box [ub p.y, it p.n, bb p.f, ub p.d]), (80, bb true)])) :=
 ev h22 [.c, .c, .c, .c, .c, .c, .b true, .c, .b true, .c, .b true, .c, .b true, .c, .b true, .c, .b true, .c] (allp g0 (allp g0 (allp g0 (allp g0 (allp g0 (allp g0 zqa))))))
theorem ch17_1 (b : Bool) (h : HTh t p.y p.n b) (g0 : decide ((1 : Int) < Ps.d p) = false) : Tri Try.prog (cxN 193 0) (zqr Try.f22 17) ((cD t w y i L ++ [(7, it k), (8, .box [ub p.y, it p.n, bb p.f, ub p.d])]) ) .normal ((cD t w y i L ++ [(7, it k), (8, .box [ub p.y, it p.n, bb p.f, ub p.d]), (80, bb !b)])) :=
 ev h22 [.c, .c, .c, .c, .c, .c, .b false, .c, .b false, .c, .b false, .c, .b false, .r (tsl none t), .r (bb b), .c, .c, .b false, .c, .b false, .c] (allp g0 (allp g0 (allp g0 (allp g0 (allp (zqg .any none t) (allp (p := PureC Try.prog 23 [tsl none t, AV.agg [ub (Ps.y p), it (Ps.n p)]] (bb b)) (by apply uHTh<;>first|assumption|rfl|(simp at *<;>omega)) (allp g0 (allp g0 zqa))))))))
theorem ch18_0 : Tri Try.prog (cxN 193 0) (zqr Try.f22 18) ([(0, tsl none t)]) .normal ([(2, it 1)]) :=
 ev h22 [.c] zqa
theorem ch19_0 : Tri Try.prog (cxN 193 0) (zqr Try.f22 19) ((cD t w y i L ++ [(7, it k), (8, .box [ub p.y, it p.n, bb p.f, ub p.d])]) ) .normal ((cD t w y i L ++ [(7, it k), (8, .box [ub p.y, it p.n, bb p.f, ub p.d]), (82, bb (decide ((0 : Int) < k)))])) :=
 ev h22 [.c, .c] zqa
theorem ch20_0 (g0 : decide ((0 : Int) ≤ i64.wrap (k - (1 : Int)) ∧ i64.wrap (k - (1 : Int)) < (↑(((Lp.pa L).map Ps.enc).length) : Int)) = true) (g1 : ((Lp.pa L).map Ps.enc).getD ((i64.wrap (k - (1 : Int))).toNat) AV.bad = Ps.enc ((Lp.pa L).getD ((i64.wrap (k - (1 : Int))).toNat) default)) : Tri Try.prog (cxN 193 0) (zqr Try.f22 20) ((cD t w y i L ++ [(7, it k), (8, .box [ub p.y, it p.n, bb p.f, ub p.d])]) ) .normal ((cD t w y i L ++ [(7, it k), (8, .box [ub p.y, it p.n, bb p.f, ub p.d]), (9, .box [ub (Ps.y ((Lp.pa L).getD ((i64.wrap (k - (1 : Int))).toNat) default)), it (Ps.n ((Lp.pa L).getD ((i64.wrap (k - (1 : Int))).toNat) default)), bb (Ps.f ((Lp.pa L).getD ((i64.wrap (k - (1 : Int))).toNat) default)), ub (Ps.d ((Lp.pa L).getD ((i64.wrap (k - (1 : Int))).toNat) default))])])) :=
 ev h22 [.c, .c, .c, .c, .c, .c, .b true, .r (Ps.enc ((Lp.pa L).getD ((i64.wrap (k - (1 : Int))).toNat) default)), .c, .c, .c, .c] (allp g0 (allp g1 zqa))
theorem ch21_0 (g0 : (Ps.y q == Ps.y p && Ps.n q == Ps.n p) = true) (g1 : (Ps.f q == Ps.f p) = true) : Tri Try.prog (cxN 193 0) (zqr Try.f22 21) ((cD t w y i L ++ [(7, it k), (8, .box [ub p.y, it p.n, bb p.f, ub p.d]), (9, .box [ub q.y, it q.n, bb q.f, ub q.d])]) ) .normal ((cD t w y i L ++ [(7, it k), (107, bb (Ps.d q != Ps.d p))])) :=
 ev h22 [.c, .c, .c, .c, .c, .c, .b true, .c, .b true, .c, .c, .c, .b true, .c, .b true, .c, .c, .c, .b true, .c, .b true, .c, .c, .b true, .c, .b true, .c, .c, .c, .b true, .c, .b true, .c, .c, .c, .b true, .c, .b true, .c] (allp g0 (allp g0 (allp g0 (allp g0 (allp g0 (allp g0 (allp g1 (allp g1 (allp g1 (allp g1 (allp g1 (allp g1 zqa))))))))))))
theorem ch21_1 (g0 : (Ps.y q == Ps.y p && Ps.n q == Ps.n p) = true) (g1 : (Ps.f q == Ps.f p) = false) : Tri Try.prog (cxN 193 0) (zqr Try.f22 21) ((cD t w y i L ++ [(7, it k), (8, .box [ub p.y, it p.n, bb p.f, ub p.d]), (9, .box [ub q.y, it q.n, bb q.f, ub q.d])]) ) .normal ((cD t w y i L ++ [(7, it k), (107, bb false)])) :=
 ev h22 [.c, .c, .c, .c, .c, .c, .b true, .c, .b true, .c, .c, .c, .b true, .c, .b true, .c, .c, .c, .b true, .c, .b true, .c, .c, .b false, .c, .b false, .c, .b false, .c, .b false, .c, .b false, .c, .b false, .c] (allp g0 (allp g0 (allp g0 (allp g0 (allp g0 (allp g0 (allp g1 (allp g1 (allp g1 (allp g1 (allp g1 (allp g1 zqa))))))))))))
theorem ch21_2 (g0 : (Ps.y q == Ps.y p && Ps.n q == Ps.n p) = false) : Tri Try.prog (cxN 193 0) (zqr Try.f22 21) ((cD t w y i L ++ [(7, it k), (8, .box [ub p.y, it p.n, bb p.f, ub p.d]), (9, .box [ub q.y, it q.n, bb q.f, ub q.d])]) ) .normal ((cD t w y i L ++ [(7, it k), (107, bb false)])) :=
 ev h22 [.c, .c, .c, .c, .c, .c, .b false, .c, .b false, .c, .b false, .c, .b false, .c, .b false, .c, .b false, .c, .c, .c, .c, .c, .c, .c, .c, .c, .c, .c, .c, .c, .c] (allp g0 (allp g0 (allp g0 (allp g0 (allp g0 (allp g0 zqa))))))
theorem ch22_0 : Tri Try.prog (cxN 193 0) (zqr Try.f22 22) ([(0, tsl none t)]) .normal ([(2, it 1)]) :=
 ev h22 [.c] zqa
theorem ysm : Tri Try.prog (cxN 193 0) (zqr Try.f22 24) ((cD t w y i L ++ [(10, it k)]) ) .normal ((cD t w y i L ++ [(10, it k), (112, bb (decide (k < (↑(((Lp.th L).map Idd.enc).length) : Int))))])) :=
 ev h22 [.c, .c, .c, .c, .c, .c, .c] zqa
theorem ch25_0 : Tri Try.prog (cxN 193 0) (zqr Try.f22 25) ((cD t w y i L ++ [(10, it k)]) ) .normal ((cD t w y i L ++ [(10, it (i64.wrap (k + (1 : Int))))])) :=
 ev h22 [.c, .c, .c] zqa
theorem ch26_0 (b : Bool) (h : HTh t (L.th.getD k.toNat default).y (L.th.getD k.toNat default).n b) (g0 : decide ((0 : Int) ≤ k ∧ k < (↑(((Lp.th L).map Idd.enc).length) : Int)) = true) (g1 : ((Lp.th L).map Idd.enc).getD (k.toNat) AV.bad = Idd.enc ((Lp.th L).getD (k.toNat) default)) : Tri Try.prog (cxN 193 0) (zqr Try.f22 26) ((cD t w y i L ++ [(10, it k)]) ) .normal ((cD t w y i L ++ [(10, it k), (122, bb !b)])) :=
 ev h22 [.c, .c, .c, .c, .c, .c, .b true, .r (Idd.enc ((Lp.th L).getD (k.toNat) default)), .c, .c, .r (tsl none t), .r (bb b), .c, .c, .c] (allp g0 (allp g1 (allp (zqg .any none t) (allp (p := PureC Try.prog 23 [tsl none t, AV.agg [ub (Idd.y ((Lp.th L).getD (k.toNat) default)), it (Idd.n ((Lp.th L).getD (k.toNat) default))]] (bb b)) (by apply uHTh<;>first|assumption|rfl|(simp at *<;>omega)) zqa))))
theorem ch27_0 : Tri Try.prog (cxN 193 0) (zqr Try.f22 27) ([(0, tsl none t)]) .normal ([(2, it 1)]) :=
 ev h22 [.c] zqa
end
section
variable (t : List Rw) (md : List Idd) (a y n : Int) (r : List Rw) (k b : Int) (w : Bool) (th : List Idd) (pa : List Ps) (i : Int)
end
theorem F2.len {α β : Type} {R : α → β → Prop} : ∀ {l : List α} {m : List β}, F2 R l m → l.length = m.length
 | _, _, .nil => rfl
 | _, _, .cons _ h => congrArg (· + 1) (F2.len h)
section
variable (c : Option Nat) (x : List Lx) (m : List (List Lp)) (md : List Idd) (a y n : Int) (h : HOf c x m md)
include h
end
def HFo (t : List Rw) (y n b : Int) (w : Bool) (th : List Idd) (pa : List Ps) : Prop := PureC Try.prog 16 [tsl none t, idE y n] (.tup [.agg (loO b w th pa), it 0])
section
variable (t : List Rw) (y n b : Int) (w : Bool) (th : List Idd) (pa : List Ps) (h : HFo t y n b w th pa)
abbrev g9 : Env := [(5, .box [ub y, it n]), (7, tsl none t)]
include h
end
theorem F2.refl {α : Type} {R : α → α → Prop} (h : ∀ x, R x x) : ∀ l : List α, F2 R l l
 | [] => .nil
 | x :: l => .cons (h x) (F2.refl h l)
theorem F2.app {α β : Type} {R : α → β → Prop} : ∀ {l : List α} {m : List β} {l' : List α} {m' : List β}, F2 R l m → F2 R l' m' → F2 R (l ++ l') (m ++ m')
 | _, _, _, _, .nil, h => h
 | _, _, _, _, .cons h t, h' => .cons h (F2.app t h')
section
variable (t : List Rw) (md : List Idd) (a y n : Int) (A : Nat) (hA : IntKind.wrap i64 (Int.tmod a 4) = A) (hA4 : A < 4)
include hA hA4
end
theorem yy1 (t : List Rw) (y n : Int) (h0 : 0 ≤ y) (h1 : y ≤ 255) : HTh t y n (hasV t y n) := by
 unfold HTh hasV
 have w1 : IntKind.wrap i64 y = y := yaf (by omega) (by omega)
 by_cases a : 1 ≤ y
 ·have w := yey a h1
  by_cases b : y ≤ t.length
  ·by_cases c : 0 ≤ n
   ·have h := lth_0 t y n (zlb a)
    rw [w, w1] at h
    have h := h (zlb (by rw [zla]; exact b)) (zlb c) (zlb (by rw [zla]; omega)) (ydb (by omega))
    rw [zla] at h
    rw [zlb a, zlb b, zlb c]
    exact h
   ·rw [zlc c, Bool.and_false, Bool.false_and]
    have h := lth_1 t y n (zlb a)
    rw [w1] at h
    exact h (zlb (by rw [zla]; exact b)) (zlc c)
  ·rw [zlc b, Bool.and_false, Bool.false_and, Bool.false_and]
   have h := lth_2 t y n (zlb a)
   rw [w1] at h
   exact h (zlc (by rw [zla]; exact b))
 ·rw [zlc a, Bool.false_and, Bool.false_and, Bool.false_and]
  exact lth_3 t y n (zlc a)
theorem yov : zqc Try.f22 2 = .seq (.seq (zqr Try.f22 14) (.cond (.tmp 63) .skip (.exit 4))) (.seq (.block 5 (.seq (zqr Try.f22 16) (.seq (.seq (zqr Try.f22 17) (.cond (.tmp 80) (.seq (zqr Try.f22 18) .ret) .skip)) (.seq (zqr Try.f22 19) (.cond (.tmp 82) (.seq (zqr Try.f22 20) (.seq (zqr Try.f22 21) (.cond (.tmp 107) (.seq (zqr Try.f22 22) .ret) .skip))) .skip))))) (zqr Try.f22 15)) := by kernel_rfl
theorem yvm : zqc Try.f22 3 = .seq (.seq (zqr Try.f22 24) (.cond (.tmp 112) .skip (.exit 6))) (.seq (.block 7 (.seq (zqr Try.f22 26) (.cond (.tmp 122) (.seq (zqr Try.f22 27) .ret) .skip))) (zqr Try.f22 25)) := by kernel_rfl
def canc (q p : Ps) : Bool := (q.y == p.y && q.n == p.n) && q.f == p.f && q.d != p.d
def ncO : Option Ps → Ps → Bool
 | none, _ => true
 | some q, p => !canc q p
def okPa (t : List Rw) : Option Ps → List Ps → Bool
 | _, [] => true
 | q, p :: l => !decide (1 < p.d) && hasV t p.y p.n && ncO q p && okPa t (some p) l
def prv (l : List Ps) (j : Nat) : Option Ps := if j = 0 then none else some (l.getD (j - 1) default)
theorem yp2 (l : List Ps) (j : Nat) : prv l (j + 1) = some (l.getD j default) := by unfold prv; rw [if_neg (by omega)]; rfl
section
variable (t : List Rw) (w : List Idd) (y i : Int) (L : Lp) (hpa : L.pa.length < 2 ^ 60) (hth : L.th.length < 2 ^ 60) (hI : okI L)
include hpa hI in
theorem yq7 : ∀ (m j : Nat), j + m = L.pa.length → Rnd Try.prog (cxN 193 0) (zqc Try.f22 2) (m + 1) (cD t w y i L ++ [(7, it j)]) (if okPa t (prv L.pa j) (L.pa.drop j) = true then .exit 4 else .ret) (if okPa t (prv L.pa j) (L.pa.drop j) = true then cD t w y i L else [(2, it 1)])
 | 0, j, h => by
  rw [zln (by omega), show okPa t (prv L.pa j) [] = true from rfl, if_pos rfl, if_pos rfl, yov]
  have h1 := ysn t w y i L j
  rw [show decide ((j : Int) < ((L.pa.map Ps.enc).length : Nat)) = false by rw [zlc]; rw [zla]; omega] at h1
  exact .exit (.seqX (.seq h1 (.cond (b := false) rfl (.after (kp [0, 3, 4, 5, 6]) .exit))) (by simp)) (by simp)
 | m + 1, j, h => by
  have hj : j < L.pa.length := by omega
  have ih := yq7 m (j + 1) (by omega)
  rw [yp2] at ih
  rw [yai _ hj default, okPa]
  have h1 := ysn t w y i L j
  rw [show decide ((j : Int) < ((L.pa.map Ps.enc).length : Nat)) = true by rw [zlb]; rw [zla]; omega] at h1
  have h1 := Tri.seq h1 (.cond (t := 63) (c := .skip) (d := .exit 4) (b := true) rfl (.after (kp [0, 3, 4, 5, 6, 7]) .skip))
  have h16 := ch16_0 t w y i L j (zlb (by rw [zla]; omega)) (yb1 (by rw [zlf]; exact hj))
  rw [zlf] at h16
  have hm : L.pa.getD j default ∈ L.pa := by rw [zld, zle hj]; exact zlu hj
  generalize hp : L.pa.getD j default = p at *
  obtain ⟨y0, y1⟩ := hI ⟨p.y, p.n⟩ (List.mem_append_right _ (List.mem_map.2 ⟨p, hm, rfl⟩))
  have hT := yy1 t p.y p.n y0 y1
  -- the first test
  have h17 : Tri Try.prog (cxN 193 0) (zqr Try.f22 17) (cD t w y i L ++ [(7, it j), (8, .box [ub p.y, it p.n, bb p.f, ub p.d])]) .normal (cD t w y i L ++ [(7, it j), (8, .box [ub p.y, it p.n, bb p.f, ub p.d]), (80, bb (!(!decide (1 < p.d) && hasV t p.y p.n)))]) := by
   by_cases hd : 1 < p.d
   ·rw [zlb hd]
    exact ch17_0 t w y i L j p _ hT (zlb hd)
   ·rw [zlc hd]
    exact ch17_1 t w y i L j p _ hT (zlc hd)
  cases hA : (!decide (1 < p.d) && hasV t p.y p.n) with
  | false =>
   rw [Bool.false_and, Bool.false_and, if_neg (by simp), if_neg (by simp)]
   rw [hA] at h17
   refine .exit ?_ (by simp)
   rw [yov]
   exact .seq h1 (.seqX (.block (ex := .ret) (.seq h16 (.seqX (.seq h17 (.cond (b := true) rfl (.seq (.weak (kp [0]) (ch18_0 t)) .ret))) (by simp))) (.inr ⟨by simp, rfl⟩)) (by simp))
  | true =>
   rw [Bool.true_and]
   rw [hA] at h17
   have h17 := Tri.seq h17 (.cond (t := 80) (c := .seq (zqr Try.f22 18) .ret) (d := .skip) (b := false) rfl (.after (kp [0, 3, 4, 5, 6, 7, 8]) .skip))
   have h19 := ch19_0 t w y i L j p
   have h15 := ch15_0 t w y i L j
   rw [up64 (by omega)] at h15
   rcases zlt j with hz | hz
   ·subst hz
    rw [show prv L.pa 0 = none from rfl, show ncO none p = true from rfl, Bool.true_and]
    refine .step ?_ ih
    rw [yov]
    exact .seq h1 (.seq (.block (ex := .normal) (.seq h16 (.seq h17 (.seq h19 (.cond (b := false) rfl (.after (kp [0, 3, 4, 5, 6, 7]) .skip))))) (.inr ⟨by simp, rfl⟩)) h15)
   ·have wj : IntKind.wrap i64 ((j : Int) - 1) = ((j - 1 : Nat) : Int) := by rw [yaf (by omega) (by omega)]; omega
    have h20 := ch20_0 t w y i L j p
    rw [wj, zlf] at h20
    have h20 := h20 (zlb (by rw [zla]; omega)) (yb1 (by omega))
    rw [show prv L.pa j = some (L.pa.getD (j - 1) default) from if_neg (by omega)]
    rw [show decide ((0 : Int) < (j : Int)) = true from zlb (by omega)] at h19
    generalize L.pa.getD (j - 1) default = q at *
    have h21 : Tri Try.prog (cxN 193 0) (zqr Try.f22 21) (cD t w y i L ++ [(7, it j), (8, .box [ub p.y, it p.n, bb p.f, ub p.d]), (9, .box [ub q.y, it q.n, bb q.f, ub q.d])]) .normal (cD t w y i L ++ [(7, it j), (107, bb (canc q p))]) := by
     unfold canc
     cases e1 : (q.y == p.y && q.n == p.n) with
     | false => exact ch21_2 t w y i L j p q e1
     | true =>
      cases e2 : (q.f == p.f) with
      | false => exact ch21_1 t w y i L j p q e1 e2
      | true => exact ch21_0 t w y i L j p q e1 e2
    show Rnd _ _ _ _ _ (if (!canc q p && okPa t (some p) (L.pa.drop (j + 1))) = true then _ else _) (if (!canc q p && okPa t (some p) (L.pa.drop (j + 1))) = true then _ else _)
    cases hc : canc q p with
    | true =>
     rw [Bool.not_true, Bool.false_and, if_neg (by simp), if_neg (by simp)]
     rw [hc] at h21
     refine .exit ?_ (by simp)
     rw [yov]
     exact .seq h1 (.seqX (.block (ex := .ret) (.seq h16 (.seq h17 (.seq h19 (.cond (b := true) rfl (.seq (.weak (kp [0, 3, 4, 5, 6, 7, 8]) h20) (.seq h21 (.cond (b := true) rfl (.seq (.weak (kp [0]) (ch22_0 t)) .ret)))))))) (.inr ⟨by simp, rfl⟩)) (by simp))
    | false =>
     rw [Bool.not_false, Bool.true_and]
     rw [hc] at h21
     refine .step ?_ ih
     rw [yov]
     exact .seq h1 (.seq (.block (ex := .normal) (.seq h16 (.seq h17 (.seq h19 (.cond (b := true) rfl (.seq (.weak (kp [0, 3, 4, 5, 6, 7, 8]) h20) (.seq h21 (.cond (b := false) rfl (.after (kp [0, 3, 4, 5, 6, 7]) .skip)))))))) (.inr ⟨by simp, rfl⟩)) h15)
include hth hI in
theorem yq6 : ∀ (m j : Nat), j + m = L.th.length → Rnd Try.prog (cxN 193 0) (zqc Try.f22 3) (m + 1) (cD t w y i L ++ [(10, it j)]) (if ((L.th.drop j).all fun q => hasV t q.y q.n) = true then .exit 6 else .ret) (if ((L.th.drop j).all fun q => hasV t q.y q.n) = true then cD t w y i L else [(2, it 1)])
 | 0, j, h => by
  rw [zln (by omega), List.all_nil, if_pos rfl, if_pos rfl, yvm]
  have h1 := ysm t w y i L j
  rw [show decide ((j : Int) < ((L.th.map Idd.enc).length : Nat)) = false by rw [zlc]; rw [zla]; omega] at h1
  exact .exit (.seqX (.seq h1 (.cond (b := false) rfl (.after (kp [0, 3, 4, 5, 6]) .exit))) (by simp)) (by simp)
 | m + 1, j, h => by
  have hj : j < L.th.length := by omega
  have ih := yq6 m (j + 1) (by omega)
  rw [yai _ hj default, List.all_cons]
  have h1 := ysm t w y i L j
  rw [show decide ((j : Int) < ((L.th.map Idd.enc).length : Nat)) = true by rw [zlb]; rw [zla]; omega] at h1
  have h1 := Tri.seq h1 (.cond (t := 112) (c := .skip) (d := .exit 6) (b := true) rfl (.after (kp [0, 3, 4, 5, 6, 10]) .skip))
  have hm : L.th.getD j default ∈ L.th := by rw [zld, zle hj]; exact zlu hj
  obtain ⟨y0, y1⟩ := hI _ (List.mem_append_left _ hm)
  have hT := yy1 t (L.th.getD j default).y (L.th.getD j default).n y0 y1
  have h26 := ch26_0 t w y i L j _ (by rw [zlf]; exact hT) (zlb (by rw [zla]; omega)) (yah (by rw [zlf]; exact hj))
  cases hA : hasV t (L.th.getD j default).y (L.th.getD j default).n with
  | false =>
   rw [Bool.false_and, if_neg (by simp), if_neg (by simp)]
   rw [hA] at h26
   refine .exit ?_ (by simp)
   rw [yvm]
   exact .seq h1 (.seqX (.block (ex := .ret) (.seq h26 (.cond (b := true) rfl (.seq (.weak (kp [0]) (ch27_0 t)) .ret))) (.inr ⟨by simp, rfl⟩)) (by simp))
  | true =>
   rw [Bool.true_and]
   rw [hA] at h26
   have h15 := ch25_0 t w y i L j
   rw [up64 (by omega)] at h15
   refine .step ?_ ih
   rw [yvm]
   exact .seq h1 (.seq (.block (ex := .normal) (.seq h26 (.cond (b := false) rfl (.after (kp [0, 3, 4, 5, 6, 10]) .skip))) (.inr ⟨by simp, rfl⟩)) h15)
end
end Tst
end

section
open Go Go.Lf Go.Proofs
namespace Tst
set_option maxHeartbeats 0
abbrev spV (m : List (List Lp)) (i n c : Nat) (E : AV) : AV := .sl .own 37 none (List.set (m.map gOW) i (setE (List.getD (m.map gOW) i .bad) 0 [.sl .own 45 none (List.set ((m.getD i default).map Lp.encG) n (setE (List.getD ((m.getD i default).map Lp.encG) n .bad) (0 + c) [E]))]))
section
variable (m : List (List Lp)) (md : List Idd) (z0 z1 : Int) (p : Idd) (i n : Nat) (v : Int)
abbrev spE : Env := [(5, tGW m), (6, isl none md), (7, .box [ub p.y, it p.n]), (8, .adr 5 [(i, 0)] n 0), (9, it 1), (41, ub v)]
abbrev spF : Env := [(5, tGW m), (7, .box [ub p.y, it p.n]), (8, .adr 5 [(i, 0)] n 0)]
theorem sp0_0 (c : Option Nat) (x : List Lx) (z0 z1 : Int) : Tri Try.prog (cxN 109 0) (zqr Try.f7 0) ([(0, xsl c x), (1, .agg [ub z0, ub z1])]) .normal ([(0, xsl c x), (3, .box [ub z0, ub z1])]) :=
 ev h7 [.c, .c] zqa
theorem sp2_0 (m : List (List Lp)) (md : List Idd) (z0 z1 : Int) : Tri Try.prog (cxN 109 0) (zqr Try.f7 2) ([(3, .box [ub z0, ub z1]), (5, tGW m), (6, isl none md)]) .normal ([(3, .box [ub z0, ub z1]), (5, tGW m), (6, isl none md), (19, bb (decide (((md.map Idd.enc).length : Int) < (2 : Int))))]) :=
 ev h7 [.c, .c, .c] zqa
theorem sp3_0 (m : List (List Lp)) : Tri Try.prog (cxN 109 0) (zqr Try.f7 3) ([(5, tGW m)]) .normal ([(4, bb true)]) :=
 ev h7 [.r (bb true), .c, .c, .c] (allp (p := PureC Try.prog 14 [] (bb true)) (by apply ynq<;>first|assumption|rfl|(simp at *<;>omega)) zqa)
theorem sp4_0 (m : List (List Lp)) (q : Idd) (md : List Idd) (z0 z1 : Int) (g0 : decide ((0 : Int) ≤ Int.tmod (i64.wrap z0) (↑(((q :: md).map Idd.enc).length) : Int) ∧ Int.tmod (i64.wrap z0) (↑(((q :: md).map Idd.enc).length) : Int) < (↑(((q :: md).map Idd.enc).length) : Int)) = true) (g1 : ((q :: md).map Idd.enc).getD ((Int.tmod (i64.wrap z0) (↑(((q :: md).map Idd.enc).length) : Int)).toNat) AV.bad = Idd.enc ((q :: md).getD ((Int.tmod (i64.wrap z0) (↑(((q :: md).map Idd.enc).length) : Int)).toNat) default)) : Tri Try.prog (cxN 109 0) (zqr Try.f7 4) ([(3, .box [ub z0, ub z1]), (5, tGW m), (6, isl none (q :: md))]) .normal ([(3, .box [ub z0, ub z1]), (5, tGW m), (6, isl none (q :: md)), (7, .box [ub (Idd.y ((q :: md).getD ((Int.tmod (i64.wrap z0) (↑(((q :: md).map Idd.enc).length) : Int)).toNat) default)), it (Idd.n ((q :: md).getD ((Int.tmod (i64.wrap z0) (↑(((q :: md).map Idd.enc).length) : Int)).toNat) default))])]) :=
 ev h7 [.c, .c, .c, .c, .c, .c, .c, .c, .c, .c, .b true, .r (Idd.enc ((q :: md).getD ((Int.tmod (i64.wrap z0) (↑(((q :: md).map Idd.enc).length) : Int)).toNat) default)), .c, .c, .c, .c] (allp g0 (allp g1 zqa))
theorem sp5_0 (m : List (List Lp)) (md : List Idd) (z0 z1 : Int) (p : Idd) (g0 : decide ((0 : Int) ≤ u8.wrap (Idd.y p - (1 : Int)) ∧ u8.wrap (Idd.y p - (1 : Int)) < ((m.map gOW).length : Int)) = true) (g1 : decide ((u8.wrap (Idd.y p - (1 : Int))).toNat < (m.map gOW).length) = true) (g2 : (m.map gOW).getD ((u8.wrap (Idd.y p - (1 : Int))).toNat) AV.bad = gOW (m.getD ((u8.wrap (Idd.y p - (1 : Int))).toNat) default)) (g3 : decide ((0 : Int) ≤ Idd.n p ∧ Idd.n p < (↑(List.length (List.map Lp.encG (m.getD ((u8.wrap (Idd.y p - (1 : Int))).toNat) default))) : Int)) = true) : Tri Try.prog (cxN 109 0) (zqr Try.f7 5) ([(3, .box [ub z0, ub z1]), (5, tGW m), (6, isl none md), (7, .box [ub p.y, it p.n])]) .normal ([(3, .box [ub z0, ub z1]), (5, tGW m), (6, isl none md), (7, .box [ub p.y, it p.n]), (8, AV.adr 5 [((u8.wrap (Idd.y p - (1 : Int))).toNat, 0)] ((Idd.n p).toNat) 0)]) :=
 ev h7 [.c, .c, .c, .c, .c, .c, .b true, .c, .b true, .r (gOW (m.getD ((u8.wrap (Idd.y p - (1 : Int))).toNat) default)), .c, .c, .c, .c, .c, .b true, .r (gOW (m.getD ((u8.wrap (Idd.y p - (1 : Int))).toNat) default)), .b true, .c, .c] (allp g0 (allp g1 (allp g2 (allp g1 (allp g2 (allp g3 zqa))))))
theorem sp6_0 (m : List (List Lp)) (md : List Idd) (z0 z1 : Int) (p : Idd) (i n : Nat) : Tri Try.prog (cxN 109 0) (zqr Try.f7 6) ([(3, .box [ub z0, ub z1]), (5, tGW m), (6, isl none md), (7, .box [ub p.y, it p.n]), (8, .adr 5 [(i, 0)] n 0)]) .normal ([(3, .box [ub z0, ub z1]), (5, tGW m), (6, isl none md), (7, .box [ub p.y, it p.n]), (8, AV.adr 5 [(i, 0)] n 0), (9, it 1)]) :=
 ev h7 [.c] zqa
theorem sp7_0 (m : List (List Lp)) (md : List Idd) (z0 z1 : Int) (p : Idd) (i n : Nat) : Tri Try.prog (cxN 109 0) (zqr Try.f7 7) ([(3, .box [ub z0, ub z1]), (5, tGW m), (6, isl none md), (7, .box [ub p.y, it p.n]), (8, .adr 5 [(i, 0)] n 0), (9, it 1)]) .normal ([(5, tGW m), (6, isl none md), (7, .box [ub p.y, it p.n]), (8, AV.adr 5 [(i, 0)] n 0), (9, it 1), (41, ub (Int.tmod z1 (5 : Int)))]) :=
 ev h7 [.c, .c, .c, .c, .c, .c] zqa
theorem sp9_0 (m : List (List Lp)) (md : List Idd) (p : Idd) (i n : Nat) (v : Int) : Tri Try.prog (cxN 109 0) (zqr Try.f7 9) ((spE m md p i n v) ) .normal ([(5, tGW m), (6, isl none md), (7, .box [ub p.y, it p.n]), (8, AV.adr 5 [(i, 0)] n 0), (9, it 1), (41, ub v), (45, bb (v == (0 : Int)))]) :=
 ev h7 [.c, .c] zqa
theorem yxf (m : List (List Lp)) (p : Idd) (i n : Nat) (g0 : decide ((0 : Int) ≤ u8.wrap (Idd.y p - (1 : Int)) ∧ u8.wrap (Idd.y p - (1 : Int)) < ((m.map gOW).length : Int)) = true) (g1 : decide ((u8.wrap (Idd.y p - (1 : Int))).toNat < (m.map gOW).length) = true) (g2 : (m.map gOW).getD ((u8.wrap (Idd.y p - (1 : Int))).toNat) AV.bad = gOW (m.getD ((u8.wrap (Idd.y p - (1 : Int))).toNat) default)) (g3 : AV.sl .own 36 (some 1) [AV.agg [ub (Idd.y p), it (↑(List.length (List.map Lp.encG (m.getD ((u8.wrap (Idd.y p - (1 : Int))).toNat) default))) : Int)]] = iow (some (1 : Nat)) [{ y := Idd.y p, n := (↑(List.length (List.map Lp.encG (m.getD ((u8.wrap (Idd.y p - (1 : Int))).toNat) default))) : Int) }]) (g4 : decide (i < (m.map gOW).length) = true) (g5 : (m.map gOW).getD i AV.bad = gOW (m.getD i default)) (g6 : decide (n < ((m.getD i default).map Lp.encG).length) = true) (g7 : ((m.getD i default).map Lp.encG).getD n AV.bad = Lp.encG ((m.getD i default).getD n default)) (g8 : List.all (flat (List.set (List.map gOW m) i (setE ((m.map gOW).getD i AV.bad) (0 : Nat) [putSeg (gOW (m.getD i default)) n ((0 : Nat) + (2 : Nat)) [iow (some (1 : Nat)) [{ y := Idd.y p, n := (↑(List.length (List.map Lp.encG (m.getD ((u8.wrap (Idd.y p - (1 : Int))).toNat) default))) : Int) }]]]))) ycm = false) : Tri Try.prog (cxN 109 0) (zqr Try.f7 10) ((spF m p i n ++ [(9, it 1)]) ) .normal ([(5, spV m i n 2 (AV.sl .own 36 (some 1) [AV.agg [ub (Idd.y { y := Idd.y p, n := (↑(List.length (List.map Lp.encG (m.getD ((u8.wrap (Idd.y p - (1 : Int))).toNat) default))) : Int) }), it (Idd.n { y := Idd.y p, n := (↑(List.length (List.map Lp.encG (m.getD ((u8.wrap (Idd.y p - (1 : Int))).toNat) default))) : Int) })]])), (9, it 1)]) :=
 ev h7 [.c, .c, .c, .c, .c, .c, .c, .c, .c, .c, .c, .b true, .c, .b true, .r (gOW (m.getD ((u8.wrap (Idd.y p - (1 : Int))).toNat) default)), .c, .b true, .r (gOW (m.getD ((u8.wrap (Idd.y p - (1 : Int))).toNat) default)), .c, .c, .r (iow (some (1 : Nat)) [{ y := Idd.y p, n := (↑(List.length (List.map Lp.encG (m.getD ((u8.wrap (Idd.y p - (1 : Int))).toNat) default))) : Int) }]), .b true, .r (gOW (m.getD i default)), .c, .b true, .r (gOW (m.getD i default)), .c, .b true, .r (gOW (m.getD i default)), .b true, .r (Lp.encG ((m.getD i default).getD n default)), .b true, .r (gOW (m.getD i default)), .c, .b false] (allp g0 (allp g1 (allp g2 (allp g1 (allp g2 (allp g3 (allp g4 (allp g5 (allp g4 (allp g5 (allp g4 (allp g5 (allp g6 (allp g7 (allp g4 (allp g5 (allp g8 zqa)))))))))))))))))
theorem yxe (m : List (List Lp)) (md : List Idd) (p : Idd) (i n : Nat) (v : Int) : Tri Try.prog (cxN 109 0) (zqr Try.f7 11) ((spE m md p i n v) ) .normal ([(5, tGW m), (6, isl none md), (7, .box [ub p.y, it p.n]), (8, AV.adr 5 [(i, 0)] n 0), (9, it 1), (41, ub v), (61, bb (v == (1 : Int)))]) :=
 ev h7 [.c, .c] zqa
theorem yxd (m : List (List Lp)) (p : Idd) (i n : Nat) (ay an : Int) (b : Bool) (g0 : AV.sl .own 36 (some 1) [Idd.enc p] = iow (some (1 : Nat)) [{ y := Idd.y p, n := Idd.n p }]) (g1 : decide (i < (m.map gOW).length) = true) (g2 : (m.map gOW).getD i AV.bad = gOW (m.getD i default)) (g3 : decide (n < ((m.getD i default).map Lp.encG).length) = true) (g4 : ((m.getD i default).map Lp.encG).getD n AV.bad = Lp.encG ((m.getD i default).getD n default)) : Tri Try.prog (cxN 109 0) (zqr Try.f7 13) ((spF m p i n ++ [(10, .box [ub ay, it an]), (11, bb b)]) ) .normal ([(5, spV m i n 2 (AV.sl .own 36 (some 1) [AV.agg [ub (Idd.y { y := Idd.y p, n := Idd.n p }), it (Idd.n { y := Idd.y p, n := Idd.n p })]])), (7, .box [ub p.y, it p.n]), (10, .box [ub ay, it an]), (11, bb b)]) :=
 ev h7 [.c, .c, .r (iow (some (1 : Nat)) [{ y := Idd.y p, n := Idd.n p }]), .b true, .r (gOW (m.getD i default)), .c, .b true, .r (gOW (m.getD i default)), .c, .b true, .r (gOW (m.getD i default)), .b true, .r (Lp.encG ((m.getD i default).getD n default)), .b true, .r (gOW (m.getD i default)), .c] (allp g0 (allp g1 (allp g2 (allp g1 (allp g2 (allp g1 (allp g2 (allp g3 (allp g4 (allp g1 (allp g2 zqa)))))))))))
theorem yxa (m : List (List Lp)) (md : List Idd) (p : Idd) (i n : Nat) (v : Int) : Tri Try.prog (cxN 109 0) (zqr Try.f7 17) ((spE m md p i n v) ) .normal ([(5, tGW m), (6, isl none md), (7, .box [ub p.y, it p.n]), (8, AV.adr 5 [(i, 0)] n 0), (9, it 1), (41, ub v), (80, bb (v == (2 : Int)))]) :=
 ev h7 [.c, .c] zqa
theorem yw9 (m : List (List Lp)) (p : Idd) (i n : Nat) (g0 : AV.sl .own 56 (some 1) [AV.agg [ub (Idd.y p), it (Idd.n p), bb false, ub 0]] = AV.sl .own 56 (some (1 : Nat)) (List.map Ps.enc [{ y := Idd.y p, n := Idd.n p, f := false, d := (0 : Int) }])) (g1 : decide (i < (m.map gOW).length) = true) (g2 : (m.map gOW).getD i AV.bad = gOW (m.getD i default)) (g3 : decide (n < ((m.getD i default).map Lp.encG).length) = true) (g4 : ((m.getD i default).map Lp.encG).getD n AV.bad = Lp.encG ((m.getD i default).getD n default)) : Tri Try.prog (cxN 109 0) (zqr Try.f7 18) ((spF m p i n) ) .normal ([(5, spV m i n 3 (AV.sl .own 56 (some 1) [AV.agg [ub (Ps.y { y := Idd.y p, n := Idd.n p, f := false, d := (0 : Int) }), it (Ps.n { y := Idd.y p, n := Idd.n p, f := false, d := (0 : Int) }), bb (Ps.f { y := Idd.y p, n := Idd.n p, f := false, d := (0 : Int) }), ub (Ps.d { y := Idd.y p, n := Idd.n p, f := false, d := (0 : Int) })]]))]) :=
 ev h7 [.c, .c, .c, .r (AV.sl .own 56 (some (1 : Nat)) (List.map Ps.enc [{ y := Idd.y p, n := Idd.n p, f := false, d := (0 : Int) }])), .b true, .r (gOW (m.getD i default)), .c, .b true, .r (gOW (m.getD i default)), .c, .b true, .r (gOW (m.getD i default)), .b true, .r (Lp.encG ((m.getD i default).getD n default)), .b true, .r (gOW (m.getD i default)), .c] (allp g0 (allp g1 (allp g2 (allp g1 (allp g2 (allp g1 (allp g2 (allp g3 (allp g4 (allp g1 (allp g2 zqa)))))))))))
theorem yw7 (m : List (List Lp)) (md : List Idd) (i n : Nat) (v : Int) : Tri Try.prog (cxN 109 0) (zqr Try.f7 20) ([(5, tGW m), (6, isl none md), (8, .adr 5 [(i, 0)] n 0), (9, it 1), (41, ub v)]) .normal ([(5, tGW m), (6, isl none md), (8, AV.adr 5 [(i, 0)] n 0), (9, it 1), (88, bb (v == (3 : Int)))]) :=
 ev h7 [.c, .c] zqa
theorem yw6 (m : List (List Lp)) (q : Idd) (md : List Idd) (i n : Nat) (g0 : decide ((0 : Int) ≤ (0 : Int) ∧ (0 : Int) < (↑(((q :: md).map Idd.enc).length) : Int)) = true) (g1 : AV.sl .own 56 (some 2) [AV.agg [ub (Idd.y q), it (Idd.n q), bb false, ub 0], AV.agg [ub (Idd.y q), it (Idd.n q), bb false, ub 1]] = AV.sl .own 56 (some (2 : Nat)) (List.map Ps.enc [{ y := Idd.y q, n := Idd.n q, f := false, d := (0 : Int) }, { y := Idd.y q, n := Idd.n q, f := false, d := (1 : Int) }])) (g2 : decide (i < (m.map gOW).length) = true) (g3 : (m.map gOW).getD i AV.bad = gOW (m.getD i default)) (g4 : decide (n < ((m.getD i default).map Lp.encG).length) = true) (g5 : ((m.getD i default).map Lp.encG).getD n AV.bad = Lp.encG ((m.getD i default).getD n default)) (g6 : List.all (flat (List.set (List.map gOW m) i (setE ((m.map gOW).getD i AV.bad) (0 : Nat) [putSeg (gOW (m.getD i default)) n ((0 : Nat) + (3 : Nat)) [AV.sl .own 56 (some (2 : Nat)) (List.map Ps.enc [{ y := Idd.y q, n := Idd.n q, f := false, d := (0 : Int) }, { y := Idd.y q, n := Idd.n q, f := false, d := (1 : Int) }])]]))) ycm = false) : Tri Try.prog (cxN 109 0) (zqr Try.f7 21) ([(5, tGW m), (6, isl none (q :: md)), (8, .adr 5 [(i, 0)] n 0), (9, it 1)]) .normal ([(5, spV m i n 3 (AV.sl .own 56 (some 2) [AV.agg [ub (Ps.y { y := Idd.y q, n := Idd.n q, f := false, d := (0 : Int) }), it (Ps.n { y := Idd.y q, n := Idd.n q, f := false, d := (0 : Int) }), bb (Ps.f { y := Idd.y q, n := Idd.n q, f := false, d := (0 : Int) }), ub (Ps.d { y := Idd.y q, n := Idd.n q, f := false, d := (0 : Int) })], AV.agg [ub (Ps.y { y := Idd.y q, n := Idd.n q, f := false, d := (1 : Int) }), it (Ps.n { y := Idd.y q, n := Idd.n q, f := false, d := (1 : Int) }), bb (Ps.f { y := Idd.y q, n := Idd.n q, f := false, d := (1 : Int) }), ub (Ps.d { y := Idd.y q, n := Idd.n q, f := false, d := (1 : Int) })]])), (9, it 1)]) :=
 ev h7 [.c, .c, .b true, .c, .c, .c, .c, .c, .b true, .c, .c, .c, .c, .r (AV.sl .own 56 (some (2 : Nat)) (List.map Ps.enc [{ y := Idd.y q, n := Idd.n q, f := false, d := (0 : Int) }, { y := Idd.y q, n := Idd.n q, f := false, d := (1 : Int) }])), .b true, .r (gOW (m.getD i default)), .c, .b true, .r (gOW (m.getD i default)), .c, .b true, .r (gOW (m.getD i default)), .b true, .r (Lp.encG ((m.getD i default).getD n default)), .b true, .r (gOW (m.getD i default)), .c, .b false] (allp g0 (allp g0 (allp g1 (allp g2 (allp g3 (allp g2 (allp g3 (allp g2 (allp g3 (allp g4 (allp g5 (allp g2 (allp g3 (allp g6 zqa))))))))))))))
theorem sp8_0 (m : List (List Lp)) (i n : Nat) (g0 : decide (i < (m.map gOW).length) = true) (g1 : (m.map gOW).getD i AV.bad = gOW (m.getD i default)) (g2 : decide (n < ((m.getD i default).map Lp.encG).length) = true) (g3 : ((m.getD i default).map Lp.encG).getD n AV.bad = Lp.encG ((m.getD i default).getD n default)) : Tri Try.prog (cxN 109 0) (zqr Try.f7 8) ([(5, tGW m), (8, .adr 5 [(i, 0)] n 0), (9, it 1)]) .normal ([(5, spV m i n 0 (ub 2)), (9, it 1)]) :=
 ev h7 [.c, .b true, .r (gOW (m.getD i default)), .c, .b true, .r (gOW (m.getD i default)), .c, .b true, .r (gOW (m.getD i default)), .b true, .r (Lp.encG ((m.getD i default).getD n default)), .b true, .r (gOW (m.getD i default)), .c] (allp g0 (allp g1 (allp g0 (allp g1 (allp g0 (allp g1 (allp g2 (allp g3 (allp g0 (allp g1 zqa))))))))))
end
def ltI (a b : Idd) : Prop := a.y < b.y ∨ (a.y = b.y ∧ a.n < b.n)
theorem ltI.trans {a b c : Idd} (h : ltI a b) (g : ltI b c) : ltI a c := by
 unfold ltI at *; omega
abbrev leI (a b : Idd) : Prop := ¬ ltI b a
theorem leI.trans {a b c : Idd} (h : leI a b) (g : leI b c) : leI a c := by
 unfold leI ltI at *; omega
theorem ltI.le {a b : Idd} (h : ltI a b) : leI a b := by
 unfold leI ltI at *; omega
def HAb (t : List Rw) (y n ay an : Int) (b : Bool) : Prop := PureC Try.prog 20 [tsl none t, idE y n] (.tup [idE ay an, bb b])
section
variable (t : List Rw) (md g : List Idd) (y n ay an : Int) (b : Bool) (L M : Lp) (e : Int) (s : Bool) (oy on k i j : Int)
end
theorem eqb_id (a b : Idd) : (a.y == b.y && a.n == b.n) = decide (a = b) := by
 obtain ⟨y, n⟩ := a
 obtain ⟨z, m⟩ := b
 simp only [Idd.mk.injEq, Bool.decide_and]
 rfl
section
variable (t : List Rw) (md g : List Idd) (p : Idd) (ay an : Int) (b : Bool) (L : Lp) (e : Int)
end
abbrev nB (t : List Rw) (g w : List Idd) (y n : Int) (L : Lp) : Env := [(3, .box [ub y, it n]), (5, tsl none t), (7, isl (some g.length) g), (10, lpB L), (12, iow none w)]
section
variable (t : List Rw) (g w : List Idd) (y n : Int) (L : Lp) (z v u : Int) (s : Bool) (j : Int)
theorem yr2 : Tri Try.prog (cxN 223 0) (zqr Try.f5 33) ((nB t g w y n L ++ [(19, it z), (20, it v), (21, .box [ub u, it v]), (22, bb s), (23, it j)]) ) .normal ((nB t g w y n L ++ [(19, it z), (20, it v), (21, .box [ub u, it v]), (22, bb s), (23, it j), (165, bb (decide (j < (↑(((Lp.th L).map Idd.enc).length) : Int))))])) :=
 ev h5 [.c, .c, .c, .c, .c, .c, .c] zqa
theorem yyi : Tri Try.prog (cxN 223 0) (zqr Try.f5 34) ((nB t g w y n L ++ [(19, it z), (20, it v), (21, .box [ub u, it v]), (22, bb s), (23, it j)]) ) .normal ((nB t g w y n L ++ [(19, it z), (20, it v), (21, .box [ub u, it v]), (22, bb s), (23, it (i64.wrap (j + (1 : Int))))])) :=
 ev h5 [.c, .c, .c] zqa
theorem ytx : Tri Try.prog (cxN 223 0) (zqr Try.f5 35) ((nB t g w y n L ++ [(19, it z), (20, it v), (21, .box [ub u, it v]), (22, bb true), (23, it j)]) ) .normal ((nB t g w y n L ++ [(19, it z), (20, it v), (21, .box [ub u, it v]), (22, bb true), (23, it j)])) :=
 ev h5 [.c, .c, .c, .c, .c, .c, .c, .c, .c, .c, .c, .c, .c, .c, .c, .c, .c, .c, .c] zqa
theorem yty (g0 : decide ((0 : Int) ≤ j ∧ j < (↑(((Lp.th L).map Idd.enc).length) : Int)) = true) (g1 : ((Lp.th L).map Idd.enc).getD (j.toNat) AV.bad = Idd.enc ((Lp.th L).getD (j.toNat) default)) : Tri Try.prog (cxN 223 0) (zqr Try.f5 35) ((nB t g w y n L ++ [(19, it z), (20, it v), (21, .box [ub u, it v]), (22, bb false), (23, it j)]) ) .normal ((nB t g w y n L ++ [(19, it z), (20, it v), (21, .box [ub u, it v]), (22, bb (Idd.y ((Lp.th L).getD (j.toNat) default) == u && Idd.n ((Lp.th L).getD (j.toNat) default) == v)), (23, it j)])) :=
 ev h5 [.c, .c, .c, .c, .c, .c, .c, .c, .c, .c, .c, .b true, .r (Idd.enc ((Lp.th L).getD (j.toNat) default)), .c, .c, .c, .c, .c, .c, .c, .c, .c, .c] (allp g0 (allp g1 zqa))
theorem yr1 : Tri Try.prog (cxN 223 0) (zqr Try.f5 37) ((nB t g w y n L ++ [(19, it z), (20, it v), (21, .box [ub u, it v]), (22, bb s), (24, it j)]) ) .normal ((nB t g w y n L ++ [(19, it z), (20, it v), (21, .box [ub u, it v]), (22, bb s), (24, it j), (182, bb (decide (j < (↑(((Lp.pa L).map Ps.enc).length) : Int))))])) :=
 ev h5 [.c, .c, .c, .c, .c, .c, .c] zqa
theorem yyh : Tri Try.prog (cxN 223 0) (zqr Try.f5 38) ((nB t g w y n L ++ [(19, it z), (20, it v), (21, .box [ub u, it v]), (22, bb s), (24, it j)]) ) .normal ((nB t g w y n L ++ [(19, it z), (20, it v), (21, .box [ub u, it v]), (22, bb s), (24, it (i64.wrap (j + (1 : Int))))])) :=
 ev h5 [.c, .c, .c] zqa
theorem ytv : Tri Try.prog (cxN 223 0) (zqr Try.f5 39) ((nB t g w y n L ++ [(19, it z), (20, it v), (21, .box [ub u, it v]), (22, bb true), (24, it j)]) ) .normal ((nB t g w y n L ++ [(19, it z), (20, it v), (21, .box [ub u, it v]), (22, bb true), (24, it j)])) :=
 ev h5 [.c, .c, .c, .c, .c, .c, .c, .c, .c, .c, .c, .c, .c, .c, .c, .c, .c, .c, .c, .c, .c] zqa
theorem ytw (g0 : decide ((0 : Int) ≤ j ∧ j < (↑(((Lp.pa L).map Ps.enc).length) : Int)) = true) (g1 : ((Lp.pa L).map Ps.enc).getD (j.toNat) AV.bad = Ps.enc ((Lp.pa L).getD (j.toNat) default)) : Tri Try.prog (cxN 223 0) (zqr Try.f5 39) ((nB t g w y n L ++ [(19, it z), (20, it v), (21, .box [ub u, it v]), (22, bb false), (24, it j)]) ) .normal ((nB t g w y n L ++ [(19, it z), (20, it v), (21, .box [ub u, it v]), (22, bb (Ps.y ((Lp.pa L).getD (j.toNat) default) == u && Ps.n ((Lp.pa L).getD (j.toNat) default) == v)), (24, it j)])) :=
 ev h5 [.c, .c, .c, .c, .c, .c, .c, .c, .c, .c, .c, .b true, .r (Ps.enc ((Lp.pa L).getD (j.toNat) default)), .c, .c, .c, .c, .c, .c, .c, .c, .c, .c, .c, .c] (allp g0 (allp g1 zqa))
end
theorem yyg : zqc Try.f5 4 = .seq (.seq (zqr Try.f5 33) (.cond (.tmp 165) .skip (.exit 8))) (.seq (.block 9 (zqr Try.f5 35)) (zqr Try.f5 34)) := by kernel_rfl
theorem yyf : zqc Try.f5 5 = .seq (.seq (zqr Try.f5 37) (.cond (.tmp 182) .skip (.exit 10))) (.seq (.block 11 (zqr Try.f5 39)) (zqr Try.f5 38)) := by kernel_rfl
def knT (q r : Idd) : Bool := r.y == q.y && r.n == q.n
def knP (q : Idd) (r : Ps) : Bool := r.y == q.y && r.n == q.n
section
variable (t : List Rw) (g : List Idd) (p : Idd) (L : Lp) (hth : L.th.length < 2 ^ 60) (hpa : L.pa.length < 2 ^ 60)
abbrev nW (w : List Idd) : Env := [(3, .box [ub p.y, it p.n]), (5, tsl none t), (7, isl (some g.length) g), (10, lpB L), (12, iow none w)]
abbrev nX (w : List Idd) (z v : Int) (q : Idd) (s : Bool) : Env := nW t g p L w ++ [(19, it z), (20, it v), (21, .box [ub q.y, it v]), (22, bb s)]
include hth in
theorem yqd (w : List Idd) (z : Int) (q : Idd) : ∀ (k j : Nat) (s : Bool), j + k = L.th.length → Rnd Try.prog (cxN 223 0) (zqc Try.f5 4) (k + 1) (nX t g p L w z q.n q s ++ [(23, it j)]) (.exit 8) (nX t g p L w z q.n q (s || (L.th.drop j).any (knT q)))
 | 0, j, s, h => by
  rw [zln (by omega), List.any_nil, Bool.or_false, yyg]
  have h1 := yr2 t g w p.y p.n L z q.n q.y s j
  rw [show decide ((j : Int) < ((L.th.map Idd.enc).length : Nat)) = false by rw [zlc]; rw [zla]; omega] at h1
  exact .exit (.seqX (.seq h1 (.cond (b := false) rfl (.after (kp [3, 5, 7, 10, 12, 19, 20, 21, 22]) .exit))) (by simp)) (by simp)
 | k + 1, j, s, h => by
  have hj : j < L.th.length := by omega
  rw [yai _ hj default, List.any_cons, ← Bool.or_assoc]
  refine .step ?_ (yqd w z q k (j + 1) (s || knT q (L.th.getD j default)) (by omega))
  rw [yyg]
  have h1 := yr2 t g w p.y p.n L z q.n q.y s j
  rw [show decide ((j : Int) < ((L.th.map Idd.enc).length : Nat)) = true by rw [zlb]; rw [zla]; omega] at h1
  have h35 : Tri Try.prog (cxN 223 0) (zqr Try.f5 35) (nX t g p L w z q.n q s ++ [(23, it j)]) .normal (nX t g p L w z q.n q (s || knT q (L.th.getD j default)) ++ [(23, it j)]) := by
   cases s with
   | true => exact ytx t g w p.y p.n L z q.n q.y j
   | false =>
    have := yty t g w p.y p.n L z q.n q.y j (zlb (by rw [zla]; omega)) (yah (by rw [zlf]; exact hj))
    rw [zlf] at this
    exact this
  have h34 := yyi t g w p.y p.n L z q.n q.y (s || knT q (L.th.getD j default)) j
  rw [up64 (by omega)] at h34
  exact .seq (.seq h1 (.cond (b := true) rfl (.after (kp [3, 5, 7, 10, 12, 19, 20, 21, 22, 23]) .skip))) (.seq (.block (ex := .normal) h35 (.inr ⟨by simp, rfl⟩)) h34)
include hpa in
theorem yqe (w : List Idd) (z : Int) (q : Idd) : ∀ (k j : Nat) (s : Bool), j + k = L.pa.length → Rnd Try.prog (cxN 223 0) (zqc Try.f5 5) (k + 1) (nX t g p L w z q.n q s ++ [(24, it j)]) (.exit 10) (nX t g p L w z q.n q (s || (L.pa.drop j).any (knP q)))
 | 0, j, s, h => by
  rw [zln (by omega), List.any_nil, Bool.or_false, yyf]
  have h1 := yr1 t g w p.y p.n L z q.n q.y s j
  rw [show decide ((j : Int) < ((L.pa.map Ps.enc).length : Nat)) = false by rw [zlc]; rw [zla]; omega] at h1
  exact .exit (.seqX (.seq h1 (.cond (b := false) rfl (.after (kp [3, 5, 7, 10, 12, 19, 20, 21, 22]) .exit))) (by simp)) (by simp)
 | k + 1, j, s, h => by
  have hj : j < L.pa.length := by omega
  rw [yai _ hj default, List.any_cons, ← Bool.or_assoc]
  refine .step ?_ (yqe w z q k (j + 1) (s || knP q (L.pa.getD j default)) (by omega))
  rw [yyf]
  have h1 := yr1 t g w p.y p.n L z q.n q.y s j
  rw [show decide ((j : Int) < ((L.pa.map Ps.enc).length : Nat)) = true by rw [zlb]; rw [zla]; omega] at h1
  have h35 : Tri Try.prog (cxN 223 0) (zqr Try.f5 39) (nX t g p L w z q.n q s ++ [(24, it j)]) .normal (nX t g p L w z q.n q (s || knP q (L.pa.getD j default)) ++ [(24, it j)]) := by
   cases s with
   | true => exact ytv t g w p.y p.n L z q.n q.y j
   | false =>
    have := ytw t g w p.y p.n L z q.n q.y j (zlb (by rw [zla]; omega)) (yb1 (by rw [zlf]; exact hj))
    rw [zlf] at this
    exact this
  have h34 := yyh t g w p.y p.n L z q.n q.y (s || knP q (L.pa.getD j default)) j
  rw [up64 (by omega)] at h34
  exact .seq (.seq h1 (.cond (b := true) rfl (.after (kp [3, 5, 7, 10, 12, 19, 20, 21, 22, 24]) .skip))) (.seq (.block (ex := .normal) h35 (.inr ⟨by simp, rfl⟩)) h34)
variable (h6 : t.length = 6) (hrow : ∀ r ∈ t, r.l.length < 2 ^ 20) (hpn : 0 ≤ p.n ∧ p.n < 2 ^ 60)
include hth hpa h6 hrow hpn
end
theorem ynv (a : List Idd) (p : Idd) : ∀ (k i : Nat), i + k = a.length → ((ixF a p k i).isSome = true ↔ p ∈ a.drop i)
 | 0, i, h => by rw [zln (by omega)]; simp [ixF]
 | k + 1, i, h => by
  rw [ixF, yai a (by omega) default, List.mem_cons]
  by_cases hp : p = a.getD i default
  ·rw [if_pos hp]; simp [hp]
  ·rw [if_neg hp, ynv a p k (i + 1) (by omega)]
   exact ⟨.inr, fun h => h.resolve_left hp⟩
theorem yny {a : List Idd} {p : Idd} : inV a p = true ↔ p ∈ a := by
 unfold inV; rw [ynv a p a.length 0 (by omega), List.drop_zero]
theorem ygl : ∀ (t : List Rw) (i j n : Nat), j < t.length → n < (t.getD j default).l.length → ((⟨((i + j + 1 : Nat) : Int), (n : Int)⟩ : Idd), (t.getD j default).l.getD n default) ∈ yaj i t
 | [], i, j, n, h, _ => by simp at h
 | r :: t, i, 0, n, h, hn => by
  rw [yaj, List.mem_append]
  left
  unfold rowL
  have hn : n < r.l.length := hn
  refine List.mem_map.2 ⟨(r.l.getD n default, n), ?_, rfl⟩
  rw [List.mem_zipIdx_iff_getElem?]
  show r.l[n]? = some (r.l.getD n default)
  rw [zld, zle hn]; rfl
 | r :: t, i, j + 1, n, h, hn => by
  rw [yaj, List.mem_append]
  right
  have := ygl t (i + 1) j n (by simpa using h) hn
  rw [show i + (j + 1) + 1 = i + 1 + j + 1 by omega]
  exact this
theorem ylc {t : List Rw} (h6 : t.length ≤ 255) {q : Idd} (h : hasV t q.y q.n = true) : (q, atV t q.y q.n) ∈ allT t := by
 obtain ⟨a, b, c, d⟩ := yas h
 unfold allT
 rw [zlm h6]
 have := ygl t 0 (q.y - 1).toNat q.n.toNat (by omega) (by omega)
 obtain ⟨y, n⟩ := q
 simp only at a b c d this ⊢
 rw [show ((0 + (y - 1).toNat + 1 : Nat) : Int) = y by omega, show ((n.toNat : Nat) : Int) = n by omega] at this
 exact this
theorem yo4 {t : List Rw} (h6 : t.length ≤ 255) {x : Idd × Lp} (h : x ∈ allT t) : hasV t x.1.y x.1.n = true ∧ x.2 = atV t x.1.y x.1.n := by
 unfold allT at h
 rw [zlm h6] at h
 obtain ⟨j, n, h1, h2, h3, h4⟩ := yec t 0 x h
 have e : (((0 + j + 1 : Nat) : Int) - 1).toNat = j := by omega
 rw [h3]
 unfold hasV atV
 rw [e]
 simp only [zlo, decide_eq_true_eq]
 refine ⟨⟨⟨⟨by omega, by omega⟩, by omega⟩, by omega⟩, ?_⟩
 rw [h4, zlf]
section
variable (t : List Rw) (w : List Idd) (i k : Int) (d : List Int) (b : Bool) (y : Int)
end
section
variable (t : List Rw) (hO : OkT t)
include hO
end
theorem OkM.bumpC {m : List Int} {t : List Rw} (h6 : t.length ≤ 6) (hM : OkM m t) {i : Nat} (hi : i < t.length) (hc : ycc m t i = true) : OkM (Tst.bump m i) t := by
 have hm := hM.len
 refine ⟨by rw [yk3 (by omega)]; exact hm, fun j hj => ?_⟩
 rw [ybp (by omega)]
 have hj' := hM.le j hj
 by_cases e : j = i
 ·rw [if_pos e]
  subst e
  unfold ycc at hc
  rw [zlo] at hc
  have : m.getD j default ≠ (((t.getD j default).l.length : Nat) : Int) := by
   intro e; rw [e] at hc; simp at hc
  omega
 ·rw [if_neg e]; exact hj'
theorem ymu {m : List Int} {t : List Rw} (h6 : t.length ≤ 6) (hM : OkM m t) {i : Nat} (hi : i < t.length) (hc : ycc m t i = true) : remV m t = remV (bump m i) t + 1 := by
 have hb := (hM.bumpC h6 hi hc).le i hi
 have hm := hM.len
 have ha := hM.le i hi
 rw [ybp (by omega), if_pos rfl] at hb
 refine yix (i := i) t.length hi (fun j hj => ?_) ?_
 ·show _ = (t.getD j default).l.length - ((Tst.bump m i).getD j default).toNat
  rw [ybp (by omega), if_neg hj]
 ·show _ = (t.getD i default).l.length - ((Tst.bump m i).getD i default).toNat + 1
  rw [ybp (by omega), if_pos rfl]
  omega
section
variable {t : List Rw} (h6 : t.length = 6)
include h6
end
section
variable {t : List Rw} (h6 : t.length = 6) (hy : ∀ r ∈ t, ∀ L ∈ r.l, okY L) {g : List Int} (hG : OkM g t) (hs : ∀ i, i < 6 → ycc g t i = false)
include h6 hy hG hs
end
section
variable (t : List Rw) (w : List Idd) (hw : w.length < 2 ^ 40)
include hw
end
section
variable {t : List Rw} (hL : OkL t) (h6 : t.length = 6)
include hL h6
end
theorem yt0 (l : List Ps) : (nf l).length = l.length ↔ ∀ i, i + 1 < l.length → can (l.getD i default) (l.getD (i + 1) default) = false := by
 constructor
 ·intro h i hi
  rw [Bool.eq_false_iff]
  intro hc
  have e : l = l.take i ++ l.getD i default :: l.getD (i + 1) default :: l.drop (i + 2) := by
   conv => lhs; rw [← List.take_append_drop i l]
   rw [yai l (by omega : i < l.length) default, yai l hi default]
  have h2 := ytz (l.take i) (l.drop (i + 2)) hc
  rw [← e] at h2
  have h3 := yr4 (l.take i ++ l.drop (i + 2))
  rw [← h2, h, zlg, zlh, List.length_drop] at h3
  omega
 ·intro h
  rw [yyj (ysb l.length l rfl h)]
theorem yrp {f : Nat → Nat} {i : Nat} : ∀ n, i < n → f i ≤ ((List.range n).map f).sum
 | 0, h => by omega
 | n + 1, h => by
  rw [List.range_succ, zlq, List.sum_append]
  by_cases e : i = n
  ·subst e; simp
  ·have := yrp (f := f) (i := i) n (by omega); omega
theorem ylv {t : List Rw} (h6 : t.length = 6) (a : Idd) (hh : hasV t a.y a.n = true) (hs : a ∈ zqz (atV t a.y a.n)) : ∀ (f : Nat) (m : List Int), OkM m t → m.getD (a.y - 1).toNat default ≤ a.n → (yc2 t f m).length + 1 ≤ remV m t := by
 obtain ⟨h1, h2, h3, h4⟩ := yas hh
 have base : ∀ m, OkM m t → m.getD (a.y - 1).toNat default ≤ a.n → 1 ≤ remV m t := by
  intro m hM hm
  have := yrp (f := fun i => (t.getD i default).l.length - (m.getD i default).toNat) (i := (a.y - 1).toNat) t.length (by omega)
  have hb := (hM.le (a.y - 1).toNat (by omega)).1
  have this2 : (t.getD (a.y - 1).toNat default).l.length - (m.getD (a.y - 1).toNat default).toNat ≤ remV m t := this
  omega
 intro f
 induction f with
 | zero => intro m hM hm; show 0 + 1 ≤ _; have := base m hM hm; omega
 | succ f ih =>
  intro m hM hm
  rw [yc2]
  cases hv : ya6 m t with
  | none => show 0 + 1 ≤ _; have := base m hM hm; omega
  | some i =>
   obtain ⟨hi, hc⟩ := ybs t.length 0 i (by omega) hv
   have hr := ymu (by omega) hM hi hc
   have hml := hM.len
   have := ih (bump m i) (hM.bumpC (by omega) hi hc) (by
    rw [ybp (by omega)]
    by_cases e : (a.y - 1).toNat = i
    ·rw [if_pos e]
     by_cases e2 : m.getD i default = a.n
     ·exfalso
      unfold ycc at hc
      rw [zlo] at hc
      have hrd := hc.2
      rw [e2, ← e] at hrd
      unfold ych at hrd
      rw [zls] at hrd
      have := of_decide_eq_true (hrd a hs)
      unfold gtM at this
      rw [e] at this
      rw [e2] at this
      omega
     ·rw [e] at hm; omega
    ·rw [if_neg e]; exact hm)
   show (_ :: yc2 t f (bump m i)).length + 1 ≤ _
   rw [List.length_cons]; omega
theorem yog {t : List Rw} (h6 : t.length = 6) (a : Idd) (hh : hasV t a.y a.n = true) (hs : a ∈ zqz (atV t a.y a.n)) : (ya2 t).length < cntV t := by
 have := ylv h6 a hh hs (cntV t + 1) m0 (okM0 t) (by rw [yno]; exact (yas hh).2.2.1)
 rw [rem0] at this
 have e : (ya2 t).length = (yc2 t (cntV t + 1) m0).length := rfl
 omega
def putT (t : List Rw) (y n : Nat) (L : Lp) : List Rw := t.set y ⟨none, (t.getD y default).l.set n L⟩
section
variable {t : List Rw} {a : Idd} {L : Lp} (hh : hasV t a.y a.n = true)
theorem yd0 (t : List Rw) (y n : Nat) (L : Lp) : (putT t y n L).length = t.length := by unfold putT; rw [zlx]
theorem yi1 (t : List Rw) (y n : Nat) (L : Lp) (hy : y < t.length) (j : Nat) : ((putT t y n L).getD j default).l = if j = y then (t.getD y default).l.set n L else (t.getD j default).l := by
 unfold putT
 rw [zld, List.getElem?_set]
 by_cases e : y = j
 ·subst e; rw [if_pos rfl, if_pos hy, if_pos rfl]; rfl
 ·rw [if_neg e, if_neg (Ne.symm e), zld]
include hh
theorem yg0 (y n : Int) : hasV (putT t (a.y - 1).toNat a.n.toNat L) y n = hasV t y n := by
 obtain ⟨h1, h2, h3, h4⟩ := yas hh
 unfold hasV
 rw [yd0, yi1 t _ _ L (by omega)]
 by_cases e : (y - 1).toNat = (a.y - 1).toNat
 ·rw [if_pos e, zlx, e]
 ·rw [if_neg e]
theorem yrs (y n : Int) (h : hasV t y n = true) : atV (putT t (a.y - 1).toNat a.n.toNat L) y n = if (⟨y, n⟩ : Idd) = a then L else atV t y n := by
 obtain ⟨ay, an⟩ := a
 obtain ⟨h1, h2, h3, h4⟩ := yas hh
 obtain ⟨g1, g2, g3, g4⟩ := yas h
 dsimp only at h1 h2 h3 h4 ⊢
 unfold atV
 rw [yi1 t _ _ L (by omega)]
 by_cases e : (y - 1).toNat = (ay - 1).toNat
 ·rw [if_pos e, zld, List.getElem?_set]
  by_cases e2 : an.toNat = n.toNat
  ·rw [if_pos e2, if_pos (by omega), if_pos (by rw [Idd.mk.injEq]; omega)]; rfl
  ·rw [if_neg e2, if_neg (by rw [Idd.mk.injEq]; omega), ← zld, e]
 ·rw [if_neg e, if_neg (by rw [Idd.mk.injEq]; omega)]
theorem yi2 : cntV (putT t (a.y - 1).toNat a.n.toNat L) = cntV t := by
 rw [yfl t, yfl]
 rw [yd0]
 congr 1
 refine List.map_congr_left fun i hi => ?_
 obtain ⟨h1, h2, h3, h4⟩ := yas hh
 rw [yi1 t _ _ L (by omega)]
 by_cases e : i = (a.y - 1).toNat
 ·rw [if_pos e, zlx, e]
 ·rw [if_neg e]
theorem ytj : ∃ r ∈ putT t (a.y - 1).toNat a.n.toNat L, L ∈ r.l := by
 obtain ⟨h1, h2, h3, h4⟩ := yas hh
 refine ⟨_, List.mem_set (by omega) _, ?_⟩
 exact List.mem_set (by omega) _
theorem yi3 (h6 : t.length = 6) (hc : cntV t ≤ 2048) (hr : yaa (putT t (a.y - 1).toNat a.n.toNat L) L = false) : chV (putT t (a.y - 1).toNat a.n.toNat L) = 1 := by
 have hl : (putT t (a.y - 1).toNat a.n.toNat L).length = 6 := by rw [yd0, h6]
 unfold chV yap
 rw [if_neg (show ¬ (putT t (a.y - 1).toNat a.n.toNat L).length ≠ 6 by omega), yi2 hh, if_neg (show ¬ 2048 < cntV t by omega)]
 cases hk : ckT (putT t (a.y - 1).toNat a.n.toNat L) with
 | false => rfl
 | true =>
  exfalso
  obtain ⟨r, h, hL⟩ := ytj (L := L) hh
  have := ysl (by omega) hk h hL
  rw [hr] at this; cases this
theorem yxm (h6 : t.length = 6) (hk : ckT t = true) (hr : yaa t L = true) (hw : a.n ≠ 0 ∨ L.w = true) : ckT (putT t (a.y - 1).toNat a.n.toNat L) = true := by
 have hl : (putT t (a.y - 1).toNat a.n.toNat L).length = 6 := by rw [yd0, h6]
 have rv : ∀ K, yaa (putT t (a.y - 1).toNat a.n.toNat L) K = yaa t K := by
  intro K; unfold yaa; congr 1; congr 1; funext p; exact yg0 hh p.y p.n
 unfold ckT
 rw [zls]
 intro x hx
 obtain ⟨g1, g2⟩ := yo4 (by omega) hx
 rw [yg0 hh] at g1
 rw [yrs hh _ _ g1] at g2
 have hx0 := zls.1 hk _ (ylc (by omega) g1)
 unfold arV at hx0 ⊢
 rw [rv, g2]
 by_cases e : (⟨x.1.y, x.1.n⟩ : Idd) = a
 ·rw [if_pos e, hr, Bool.true_and]
  have e2 : x.1.n = a.n := by rw [← e]
  rw [e2]
  rcases hw with h | h
  ·simp [h]
  ·simp [h]
 ·rw [if_neg e]; exact hx0
end
def flT (t : List Rw) : List Idd := t.flatMap fun r => r.l.flatMap Lp.th
theorem yoe {t : List Rw} (h : t.length ≤ 255) : flT t = (allT t).flatMap fun x => x.2.th := by
 have h2 : thA (allT t) = (allT t).flatMap fun x => x.2.th := rfl
 rw [← h2]
 unfold allT
 rw [zlm h, yc4]; rfl
theorem tw_fl {t : List Rw} (h : t.length ≤ 255) : twV t = !decide (flT t).Nodup := by
 unfold twV
 rw [yoe h]; rfl
theorem yka {t : List Rw} {a : Idd} (hh : hasV t a.y a.n = true) (L : Lp) : ∃ P D, flT t = P ++ ((atV t a.y a.n).th ++ D) ∧ flT (putT t (a.y - 1).toNat a.n.toNat L) = P ++ (L.th ++ D) := by
 obtain ⟨h1, h2, h3, h4⟩ := yas hh
 have hy : (a.y - 1).toNat < t.length := by omega
 have hn : a.n.toNat < (t.getD (a.y - 1).toNat default).l.length := by omega
 refine ⟨flT (t.take (a.y - 1).toNat) ++ ((t.getD (a.y - 1).toNat default).l.take a.n.toNat).flatMap Lp.th, ((t.getD (a.y - 1).toNat default).l.drop (a.n.toNat + 1)).flatMap Lp.th ++ flT (t.drop ((a.y - 1).toNat + 1)), ?_, ?_⟩
 ·have e1 : t = t.take (a.y - 1).toNat ++ t.getD (a.y - 1).toNat default :: t.drop ((a.y - 1).toNat + 1) := by
   conv => lhs; rw [← List.take_append_drop (a.y - 1).toNat t]
   rw [yai t hy default]
  have e2 : (t.getD (a.y - 1).toNat default).l = (t.getD (a.y - 1).toNat default).l.take a.n.toNat ++ atV t a.y a.n :: (t.getD (a.y - 1).toNat default).l.drop (a.n.toNat + 1) := by
   conv => lhs; rw [← List.take_append_drop a.n.toNat (t.getD (a.y - 1).toNat default).l]
   rw [yai _ hn default]; rfl
  have e3 : (t.getD (a.y - 1).toNat default).l.flatMap Lp.th = ((t.getD (a.y - 1).toNat default).l.take a.n.toNat).flatMap Lp.th ++ ((atV t a.y a.n).th ++ ((t.getD (a.y - 1).toNat default).l.drop (a.n.toNat + 1)).flatMap Lp.th) := by
   conv => lhs; rw [e2]
   rw [List.flatMap_append, List.flatMap_cons]
  have e4 : flT t = flT (t.take (a.y - 1).toNat) ++ ((t.getD (a.y - 1).toNat default).l.flatMap Lp.th ++ flT (t.drop ((a.y - 1).toNat + 1))) := by
   conv => lhs; rw [e1]
   unfold flT
   rw [List.flatMap_append, List.flatMap_cons]
  rw [e4, e3]
  simp only [zlp]
 ·unfold putT
  rw [List.set_eq_take_append_cons_drop, if_pos hy, List.set_eq_take_append_cons_drop, if_pos hn]
  unfold flT
  simp only [List.flatMap_append, List.flatMap_cons, zlp]
section
variable {S : OfS} (hS : ValidS S) (hrow : ∀ r ∈ S.m, r.length < 2 ^ 60) (hc : cntV (tb S.m) ≤ 2048) {a : Idd} (ha : a ∈ S.md)
include hS ha
theorem ykg : a ∉ zqz (atV (tb S.m) a.y a.n) := by
 obtain ⟨k, hk, e⟩ := List.mem_iff_getElem.1 ha
 intro hm
 have := (hS.ok.sub k a (by rw [zle hk, e])).2.2 a hm
 obtain ⟨j, hj, ej⟩ := List.mem_iff_getElem.1 this
 rw [zlh] at hj
 rw [List.getElem_take] at ej
 have hnd := hS.mdn
 unfold List.Nodup at hnd
 rw [List.pairwise_iff_getElem] at hnd
 exact hnd j k (by omega) hk (by omega) (by rw [ej, e])
theorem yj1 (L : Lp) (hb : L.b = 0 ∨ L.b = 1) (hth : L.th.length ≤ 4) (hpa : ydk L.pa = true) (hm : ∀ q ∈ zqz L, q ∈ S.md) (hw : L.w = (atV (tb S.m) a.y a.n).w) : ckT (putT (tb S.m) (a.y - 1).toNat a.n.toNat L) = true := by
 have ht6 : (tb S.m).length = 6 := by rw [ydg, hS.m6]
 have hh := hS.has_old ha
 refine yxm hh ht6 hS.ck ?_ ?_
 ·unfold yaa
  simp only [zlo, Bool.or_eq_true, beq_iff_eq, decide_eq_true_eq]
  refine ⟨⟨⟨hb, hth⟩, hpa⟩, ?_⟩
  rw [zls]
  exact fun q hq => hS.has_old (hm q hq)
 ·have := zls.1 hS.ck _ (ylc (by omega) hh)
  unfold arV at this
  rw [zlo, Bool.or_eq_true] at this
  rcases this.2 with h | h
  ·exact .inl (by simpa using h)
  ·exact .inr (by rw [hw]; exact h)
include hc
theorem yhv (L : Lp) (hk : ckT (putT (tb S.m) (a.y - 1).toNat a.n.toNat L) = true) (hs : a ∈ zqz L) : chV (putT (tb S.m) (a.y - 1).toNat a.n.toNat L) = if (flT (putT (tb S.m) (a.y - 1).toNat a.n.toNat L)).Nodup then 6 else 8 := by
 have ht6 : (tb S.m).length = 6 := by rw [ydg, hS.m6]
 have hh := hS.has_old ha
 have hl : (putT (tb S.m) (a.y - 1).toNat a.n.toNat L).length = 6 := by rw [yd0, ht6]
 have hcn := yi2 (L := L) hh
 have hf : (ya2 (putT (tb S.m) (a.y - 1).toNat a.n.toNat L)).length < cntV (putT (tb S.m) (a.y - 1).toNat a.n.toNat L) := by
  refine yog hl a (by rw [yg0 hh]; exact hh) ?_
  rw [yrs hh _ _ hh, if_pos rfl]; exact hs
 unfold chV yap
 rw [hk, tw_fl (by omega)]
 rw [if_neg (show ¬ (putT (tb S.m) (a.y - 1).toNat a.n.toNat L).length ≠ 6 by omega), if_neg (show ¬ 2048 < cntV (putT (tb S.m) (a.y - 1).toNat a.n.toNat L) by omega), if_neg (show ¬ (true = false) by simp)]
 by_cases hd : (flT (putT (tb S.m) (a.y - 1).toNat a.n.toNat L)).Nodup
 ·rw [zlb hd, if_neg (show ¬ ((!true) = true) by simp), if_pos hf, if_pos hd]
 ·rw [zlc hd, if_pos (show (!false) = true from rfl), if_neg hd]
theorem yij : (flT (tb S.m)).Nodup := by
 have e : flT (tb S.m) = Tst.thM S.m := by
  unfold flT tb Tst.thM
  rw [List.flatMap_map]
 rw [e]
 exact (List.nodup_append.1 hS.nd).2.1
theorem ypr (L : Lp) (hk : ckT (putT (tb S.m) (a.y - 1).toNat a.n.toNat L) = true) (hs : L.th = [a]) : chV (putT (tb S.m) (a.y - 1).toNat a.n.toNat L) = if a ∈ flT (tb S.m) then 8 else 6 := by
 have hh := hS.has_old ha
 rw [yhv hS hc ha L hk (by unfold zqz; rw [hs]; simp)]
 obtain ⟨P, D, e1, e2⟩ := yka hh L
 have hnd := yij hS hc ha
 have hns : a ∉ (atV (tb S.m) a.y a.n).th := fun h => ykg hS ha (List.mem_append_left _ h)
 rw [e1] at hnd
 rw [e1, e2, hs]
 have hPD : (P ++ D).Nodup := by
  refine List.Sublist.nodup ?_ hnd
  exact (List.Sublist.refl P).append (List.sublist_append_right _ _)
 have hp : (P ++ ([a] ++ D)).Perm (a :: (P ++ D)) := List.perm_middle
 by_cases hin : a ∈ P ++ ((atV (tb S.m) a.y a.n).th ++ D)
 ·rw [if_pos hin, if_neg]
  rw [hp.nodup_iff, List.nodup_cons]
  rintro ⟨h, _⟩
  apply h
  rcases List.mem_append.1 hin with h | h
  ·exact List.mem_append_left _ h
  ·rcases List.mem_append.1 h with h | h
   ·exact absurd h hns
   ·exact List.mem_append_right _ h
 ·rw [if_neg hin, if_pos]
  rw [hp.nodup_iff, List.nodup_cons]
  refine ⟨fun h => hin ?_, hPD⟩
  rcases List.mem_append.1 h with h | h
  ·exact List.mem_append_left _ h
  ·exact List.mem_append_right _ (List.mem_append_right _ h)
theorem yps (L : Lp) (hk : ckT (putT (tb S.m) (a.y - 1).toNat a.n.toNat L) = true) (hs : L.th = (atV (tb S.m) a.y a.n).th) (hp : a ∈ zqz L) : chV (putT (tb S.m) (a.y - 1).toNat a.n.toNat L) = 6 := by
 have hh := hS.has_old ha
 rw [yhv hS hc ha L hk hp]
 obtain ⟨P, D, e1, e2⟩ := yka hh L
 rw [if_pos]
 rw [e2, hs, ← e1]
 exact yij hS hc ha
include hrow
theorem yrh : ∃ (r : Idd) (b : Bool), HAb (tb S.m) a.y a.n r.y r.n b ∧ b = decide (a ∈ flT (tb S.m)) ∧ (b = true → r ≠ a) := by
 have ht6 : (tb S.m).length = 6 := by rw [ydg, hS.m6]
 have hh := hS.has_old ha
 obtain ⟨h1, h2, _, _⟩ := yas hh
 have hr : ∀ r ∈ tb S.m, r.l.length < 2 ^ 60 := fun r hr => by
  obtain ⟨q, hq, rfl⟩ := List.mem_map.1 hr
  exact hrow q hq
 have hab := yjr none (tb S.m) a.y a.n (by omega) hr hS.okT
 rw [yoe (by omega)]
 unfold yo8 at hab
 cases hf : (allT (tb S.m)).find? (fun x => inV x.2.th ⟨a.y, a.n⟩) with
 | none =>
  rw [hf] at hab
  refine ⟨⟨0, 0⟩, false, hab, (zlc fun h => ?_).symm, fun h => by cases h⟩
  obtain ⟨x, hx, hp⟩ := List.mem_flatMap.1 h
  have := List.find?_eq_none.1 hf x hx
  exact this (yny.2 hp)
 | some z =>
  rw [hf] at hab
  have hz := List.mem_of_find?_eq_some hf
  have hzp : a ∈ z.2.th := yny.1 (List.find?_some (p := fun x : Idd × Lp => inV x.2.th ⟨a.y, a.n⟩) hf)
  refine ⟨z.1, true, hab, (zlb (List.mem_flatMap.2 ⟨z, hz, hzp⟩)).symm, fun _ e => ?_⟩
  obtain ⟨g1, g2⟩ := yo4 (by omega) hz
  rw [e] at g2
  rw [g2] at hzp
  exact ykg hS ha (List.mem_append_left _ hzp)
end
section
variable (c : Option Nat) (x : List Lx) (m : List (List Lp)) (md : List Idd) (y n : Int) (h : HOf c x m md)
include h
end
theorem yu5 {S : OfS} (hS : ValidS S) {y n : Int} (h : hasV (tb S.m) y n = true) : FineL (atV (tb S.m) y n) := by
 obtain ⟨r, hr, hx⟩ := yvv h
 unfold tb at hr
 obtain ⟨l, hl, rfl⟩ := List.mem_map.1 hr
 exact hS.fine l hl _ hx
def HCv (t : List Rw) (v : Int) : Prop := PureC Try.prog 11 [tsl none t] (it v)
section
variable (c : Option Nat) (x : List Lx) (m : List (List Lp)) (md : List Idd) (z0 z1 : Int) (h : HOf c x m md)
include h
abbrev s1a : Env := [(14, .tup [tGW m, iow none md]), (13, xsl c x), (0, xsl c x), (3, .box [ub z0, ub z1])]
abbrev s1b : Env := (14, .tup [tGW m, share (iow none md)]) :: s1a c x m md z0 z1
abbrev s1c : Env := (12, .tup [tGW m, share (iow none md)]) :: (14, .bad) :: s1b c x m md z0 z1
abbrev s1d : Env := (15, tGW m) :: (12, .tup [.bad, share (iow none md)]) :: keepE (kp [3, 12]) (s1c c x m md z0 z1)
abbrev s1e : Env := (6, share (iow none md)) :: (5, tGW m) :: (15, .bad) :: (16, share (iow none md)) :: s1d c x m md z0 z1
theorem sp1_0 : Tri Try.prog (cxN 109 0) (.region 1 (zql Try.f7 1) false) [(0, xsl c x), (3, .box [ub z0, ub z1])] .normal (s1e c x m md z0 z1) := by
 refine Tri.ofR (.region (R := (· = s1e c x m md z0 z1)) ?_) fun e h => h
 rw [show (zql Try.f7 1).toList = (zql Try.f7 1).toList.take 2 ++ ([] ++ (((zql Try.f7 1).toList.drop 2).take 1 ++ ([(zql Try.f7 1).toList.getD 3 default] ++ (zql Try.f7 1).toList.drop 4))) by kernel_rfl]
 refine .seq (OpsR.ev (base 109 0) zqb.1 zqb.2 (ans := [.c, .r (xsl c x), .r (.tup [tGW m, iow none md]), .c, .c]) (ps := [view (xsl c x) = xsl c x, PureC Try.prog 9 [xsl c x] (.tup [tGW m, iow none md])]) (env' := s1a c x m md z0 z1) (by kernel_rfl) (allp (ypc c x) (allp h zqa))) ?_
 rintro _ rfl
 refine .seq (OpsR.grabAt (r := 14) (p := [(0, 1)]) rfl rfl rfl (topNo (by intro p hp; simp only [List.mem_cons, List.not_mem_nil, or_false] at hp; rcases hp with rfl | rfl | rfl | rfl <;> rfl) 14)) ?_
 rintro _ rfl
 refine .seq (OpsR.ev (base 109 0) zqb.1 zqb.2 (ans := [.c, .c, .c]) (ps := []) (env' := s1c c x m md z0 z1) (by kernel_rfl) zqa) ?_
 rintro _ rfl
 refine .seq (OpsR.moveX (s := 12) (d := 15) (kp [3, 12]) (by kernel_rfl) (by kernel_rfl) (by kernel_rfl) (by decide) (by decide) rfl (fun t' y' hy => ⟨noLf (env := keepE (kp [3, 12]) (s1c c x m md z0 z1)) hy (by kernel_rfl), noLf (env := keepE (kp [3, 12]) (s1c c x m md z0 z1)) hy (by kernel_rfl)⟩)) ?_
 rintro _ rfl
 exact OpsR.ev (base 109 0) zqb.1 zqb.2 (ans := [.c, .c, .c, .c, .c]) (ps := []) (by kernel_rfl) zqa
theorem sp1_1 : Tri Try.prog (cxN 109 0) (.region 1 (zql Try.f7 1) false) [(0, xsl c x), (3, .box [ub z0, ub z1])] .normal [(3, .box [ub z0, ub z1]), (5, tGW m), (6, isl none md)] := by
 have h1 := sp1_0 c x m md z0 z1 h
 refine .less (.after (kp [3, 5, 6]) h1) (.cons ⟨rfl, rfl, Le.refl _⟩ (.cons ⟨rfl, rfl, Le.refl _⟩ (.cons ⟨rfl, rfl, ?_⟩ .nil)))
 show Le Try.prog (share (iow none md)) (isl none md)
 rw [ymn md]; exact Le.fresh
end
theorem ybe {m : List (List Lp)} {i : Nat} (h : i < m.length) : List.getD (List.map gOW m) i AV.bad = gOW (List.getD m i default) := by simp [zld, h]
theorem yd5 {l : List Lp} {i : Nat} (h : i < l.length) : List.getD (List.map Lp.encG l) i AV.bad = Lp.encG (List.getD l i default) := by simp [zld, h]
theorem yr3 {m : List (List Lp)} {i : Nat} (h : i < m.length) (x : AV) (hx : ∃ e cap ys, x = .sl .own e cap ys) : List.all (flat (List.set (List.map gOW m) i x)) ycm = false := by
 obtain ⟨e, cap, ys, rfl⟩ := hx
 rw [List.all_eq_false]
 refine ⟨.sl .own e cap ys, List.mem_flatMap.2 ⟨.sl .own e cap ys, ?_, by simp [AV.ecells]⟩, by simp [ycm]⟩
 exact List.mem_set (by simpa using h) _
def spU (m : List (List Lp)) (i n c : Nat) (E : AV) : List AV := List.set (m.map gOW) i (setE (List.getD (m.map gOW) i .bad) 0 [.sl .own 45 none (List.set ((m.getD i default).map Lp.encG) n (setE (List.getD ((m.getD i default).map Lp.encG) n .bad) c [E]))])
theorem ypd {m : List (List Lp)} (hm : ∀ r ∈ m, ∀ L ∈ r, L.ct = none ∧ L.cp = none) {i n c : Nat} (hi : i < m.length) (hn : n < (m.getD i default).length) (E : AV) (L' : Lp) (hE : mapE (remode (fun _ => .any) 10) (setE (Lp.encG ((m.getD i default).getD n default)) c [E]) = L'.enc) : view (.sl .own 37 none (spU m i n c E)) = tsl none (putT (tb m) i n L') := by
 unfold spU
 rw [ybe hi, yd5 hn]
 show AV.sl .any 37 none ((List.set (m.map gOW) i (.sl .own 45 none (List.set ((m.getD i default).map Lp.encG) n (setE (Lp.encG ((m.getD i default).getD n default)) c [E])))).map (mapE (remode (fun _ => .any) 11))) = _
 have e1 : (m.map gOW).map (mapE (remode (fun _ => .any) 11)) = (tb m).map Rw.enc := by
  have := yju m hm
  have h2 : view (.sl .own 37 none (m.map gOW)) = .sl .any 37 none ((m.map gOW).map (mapE (remode (fun _ => .any) 11))) := rfl
  rw [h2] at this
  injection this
 have e2 : ((m.getD i default).map Lp.encG).map (mapE (remode (fun _ => .any) 10)) = (m.getD i default).map Lp.enc := by
  rw [List.map_map]
  refine List.map_congr_left fun K hK => ?_
  have hr : m.getD i default ∈ m := by rw [zld, zle hi]; exact zlu hi
  obtain ⟨h1, h2⟩ := hm _ hr K hK
  show AV.agg [ub K.b, bb K.w, .sl .any 36 none ((K.th.map Idd.enc).map (mapE (remode (fun _ => .any) 9))), .sl .any 56 none ((K.pa.map Ps.enc).map (mapE (remode (fun _ => .any) 9)))] = AV.agg [ub K.b, bb K.w, isl K.ct K.th, sl K.cp K.pa]
  rw [ybb, ybm, h1, h2]
 rw [List.map_set, e1]
 unfold putT
 rw [yht]
 show _ = AV.sl .any 37 none (((tb m).set i ⟨none, (m.getD i default).set n L'⟩).map Rw.enc)
 rw [List.map_set]
 congr 2
 show AV.sl .any 45 none ((List.set ((m.getD i default).map Lp.encG) n (setE (Lp.encG ((m.getD i default).getD n default)) c [E])).map (mapE (remode (fun _ => .any) 10))) = .sl .any 45 none (((m.getD i default).set n L').map Lp.enc)
 rw [List.map_set, List.map_set, e2, hE]
theorem ytt {t : List Rw} (hO : OkT t) (y n : Nat) {L : Lp} (hL : okI L ∧ L.th.length < 2 ^ 60 ∧ L.pa.length < 2 ^ 60) (hy : y < t.length) : OkT (putT t y n L) := by
 intro r hr K hK
 unfold putT at hr
 rcases List.mem_or_eq_of_mem_set hr with hr | rfl
 ·exact hO r hr K hK
 ·rcases List.mem_or_eq_of_mem_set hK with hK | rfl
  ·exact hO (t.getD y default) (by rw [zld, zle hy]; exact zlu hy) K hK
  ·exact hL
theorem yte {t : List Rw} (hr : ∀ r ∈ t, r.l.length < 2 ^ 60) (y n : Nat) (L : Lp) (hy : y < t.length) : ∀ r ∈ putT t y n L, r.l.length < 2 ^ 60 := by
 intro r h
 unfold putT at h
 rcases List.mem_or_eq_of_mem_set h with h | rfl
 ·exact hr r h
 ·show ((t.getD y default).l.set n L).length < _
  rw [zlx]
  exact hr _ (by rw [zld, zle hy]; exact zlu hy)
theorem sp12h (m : List (List Lp)) (hm : ∀ r ∈ m, ∀ L ∈ r, L.ct = none ∧ L.cp = none) (y n ay an : Int) (b : Bool) (k i : Nat) (h : HAb (tb m) y n ay an b) : Tri Try.prog (cxN 109 0) (zqr Try.f7 12) [(5, tGW m), (7, .box [ub y, it n]), (8, .adr 5 [(i, 0)] k 0)] .normal [(5, tGW m), (7, .box [ub y, it n]), (8, .adr 5 [(i, 0)] k 0), (10, .box [ub ay, it an]), (11, bb b), (63, .tup [.agg [ub ay, it an], bb b])] :=
 ev h7 [.c, .c, .r (tsl none (tb m)), .r (AV.tup [AV.agg [ub ay, it an], bb b]), .c, .c, .c, .c, .c, .c, .c, .c] (ps := [view (tGW m) = tsl none (tb m), PureC Try.prog 20 [tsl none (tb m), AV.agg [ub y, it n]] (AV.tup [AV.agg [ub ay, it an], bb b])]) (allp (yju m hm) (allp h zqa))
theorem sp22h (u : List AV) (t : List Rw) (v : Int) (hu : view (.sl .own 37 none u) = tsl none t) (h : HCv t v) : Tri Try.prog (cxN 109 0) (zqr Try.f7 22) [(5, .sl .own 37 none u), (9, it v)] .normal [(4, bb true)] :=
 ev h7 [.c, .r (tsl none t), .r (it v), .c, .c, .c, .c, .c, .b true, .r (bb true), .c, .c, .b true, .c, .c] (ps := [view (.sl .own 37 none u) = tsl none t, PureC Try.prog 11 [tsl none t] (it v), (v == v) = true, PureC Try.prog 14 [] (bb true), (v == v) = true]) (allp hu (allp h (allp (by simp) (allp ynq (allp (by simp) zqa)))))
theorem yxc (u : List AV) (y n ay an : Int) (b : Bool) : Tri Try.prog (cxN 109 0) (zqr Try.f7 14) ([(5, .sl .own 37 none u), (7, .box [ub y, it n]), (10, .box [ub ay, it an]), (11, bb b)]) .normal ([(5, AV.sl .own 37 none u), (7, AV.box [ub y, it n]), (9, it 6), (10, AV.box [ub ay, it an]), (11, bb b)]) :=
 ev h7 [.c] zqa
theorem yta (u : List AV) (y n ay an : Int) : Tri Try.prog (cxN 109 0) (zqr Try.f7 15) ([(5, .sl .own 37 none u), (7, .box [ub y, it n]), (9, it 6), (10, .box [ub ay, it an]), (11, bb true)]) .normal ([(5, AV.sl .own 37 none u), (9, it 6), (79, bb !(ay == y && an == n))]) :=
 ev h7 [.c, .c, .c, .c, .c, .c, .c, .c, .c, .c] zqa
theorem ytb (u : List AV) (y n ay an : Int) : Tri Try.prog (cxN 109 0) (zqr Try.f7 15) ([(5, .sl .own 37 none u), (7, .box [ub y, it n]), (9, it 6), (10, .box [ub ay, it an]), (11, bb false)]) .normal ([(5, AV.sl .own 37 none u), (9, it 6), (79, bb false)]) :=
 ev h7 [.c, .c, .c, .c, .c, .c, .c, .c, .c, .c] zqa
theorem yxb (u : List AV) : Tri Try.prog (cxN 109 0) (zqr Try.f7 16) ([(5, .sl .own 37 none u), (9, it 6)]) .normal ([(5, AV.sl .own 37 none u), (9, it 8)]) :=
 ev h7 [.c] zqa
theorem yw8 (u : List AV) : Tri Try.prog (cxN 109 0) (zqr Try.f7 19) ([(5, .sl .own 37 none u)]) .normal ([(5, AV.sl .own 37 none u), (9, it 6)]) :=
 ev h7 [.c] zqa
end Tst
end
