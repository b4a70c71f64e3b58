/- Part 9 of the evaluator and of the contracts that the claim uses. -/
import Derived.Test.YtpjlfgacjbkbbaaLoopsOrderLAA
import Derived.Test.YtpjlfgacjbkbbaaLoopsOrderLAB
import Derived.Test.YtpjlfgacjbkbbaaLoopsOrderLAC
import Derived.Test.YtpjlfgacjbkbbaaLoopsOrderLAD
import Derived.Test.YtpjlfgacjbkbbaaLoopsOrderLAE
import Derived.Test.YtpjlfgacjbkbbaaLoopsOrderLAF
import Derived.Test.YtpjlfgacjbkbbaaLoopsOrderLAG
import Derived.Test.YtpjlfgacjbkbbaaLoopsOrderLAH
set_option linter.unusedVariables false
set_option linter.unusedSimpArgs false
set_option linter.constructorNameAsVariable false
set_option linter.unusedSectionVars false

section
open Go Go.Lf Go.Proofs
namespace Tst
noncomputable abbrev zqy : Array Oper := zql Try.f9 22
noncomputable abbrev y22 (k : Nat) : Oper := (zql Try.f9 22).toList.getD k default
theorem zri (k : Nat) (ks : List (Nat × Wk)) (env env3 : Env) (ans : List Ans) (ps : List Prop) (hp : ∀ q ∈ ps, q) (hg : (y22 k).guard = none) (h : (opsEnv Try.prog (cxN 184 0) zqy [y22 k] env ans).map (fun r => (keepE ks r.1, r.2)) = some (env3, ps)) : OpR Try.prog (cxN 184 0) (y22 k) env (· = env3) := by
 cases ho : opsEnv Try.prog (cxN 184 0) zqy [y22 k] env ans with
 | none => rw [ho] at h; cases h
 | some r =>
  rw [ho] at h
  injection h with h
  injection h with h1 h2
  obtain ⟨r1, r2⟩ := r
  simp only at h1 h2
  subst h1 h2
  exact OpR.keep _ (OpR.ev (ops := zqy) (base 184 0) zqb.1 zqb.2 hg ho hp)
section
variable (c : Option Nat) (x : List Lx) (m : List (List Lp)) (fr md : List Idd) (i y : Int) (b : Int) (w : Bool) (th : List Idd) (pa : List Ps) (p q : Int)
abbrev bs : Env := [(0, xsl c x), (5, iow none fr), (6, iow none md), (7, it i), (8, it y), (14, .box [ub p, it q])]
abbrev agF : AV := .agg [ub b, bb w, .sl .fresh 36 none (th.map Idd.enc), .sl .fresh 56 none (pa.map Ps.enc)]
abbrev tBad : AV := .sl .own 37 none (List.set (List.map gOW m) y.toNat (setE (List.getD (List.map gOW m) y.toNat AV.bad) 0 [AV.bad]))
abbrev rAp : AV := .sl .own 45 none ((m.getD y.toNat default).map Lp.encG ++ [agF b w th pa])
abbrev q4 : Prop := decide ((0 : Int) ≤ y ∧ y < ((List.map gOW m).length : Nat)) = true
abbrev q5 : Prop := decide (y.toNat < (List.map gOW m).length) = true
abbrev q5b : Prop := List.getD (List.map gOW m) y.toNat AV.bad = gOW (m.getD y.toNat default)
abbrev q6 : Prop := AV.agg ([ub b, bb w, .sl .own 36 none (th.map Idd.enc), .sl .own 56 none (pa.map Ps.enc)].map share) = agF b w th pa
abbrev q8 : Prop := decide (((m.getD y.toNat default).map Lp.encG).length + [agF b w th pa].length ≤ 4294967296) = true
variable (h4 : q4 m y) (h5 : q5 m y) (h5b : q5b m y) (h6 : q6 b w th pa) (h8 : q8 m y b w th pa)
abbrev q9 : Prop := decide ((0 : Int) ≤ y ∧ y < ((List.set (List.map gOW m) y.toNat (setE (List.getD (List.map gOW m) y.toNat AV.bad) 0 [AV.bad])).length : Nat)) = true
variable (h9 : q9 m y)
abbrev tNew : AV := .sl .own 37 none (List.set (List.set (List.map gOW m) y.toNat (setE (List.getD (List.map gOW m) y.toNat AV.bad) 0 [AV.bad])) y.toNat (setE (List.getD (List.set (List.map gOW m) y.toNat (setE (List.getD (List.map gOW m) y.toNat AV.bad) 0 [AV.bad])) y.toNat AV.bad) 0 [rAp m y b w th pa]))
abbrev q10 : Prop := decide (y.toNat < (List.set (List.map gOW m) y.toNat (setE (List.getD (List.map gOW m) y.toNat AV.bad) 0 [AV.bad])).length) = true
abbrev q11 : Prop := List.getD (List.set (List.map gOW m) y.toNat (setE (List.getD (List.map gOW m) y.toNat AV.bad) 0 [AV.bad])) y.toNat AV.bad = AV.bad
variable (h10 : q10 m y ∧ q11 m y)
abbrev R22 : Env → Prop := (· = (4, tNew m y b w th pa) :: bs c x fr md i y p q)
include h4 h5 h5b h6 h8 h9 h10
theorem fin22 : AnyR Try.prog (cxN 184 0) zqy (R22 c x m fr md i y b w th pa p q) 2 #[true, true, true, true, true, true, true, true, true, false, false] ([(4, tBad m y), (172, rAp m y b w th pa), (164, .al 4 [] none), (165, it y)] ++ bs c x fr md i y p q) := by
 refine AnyR.step [9] (by kernel_rfl) (by simp) fun k hk => ?_
 rw [List.mem_singleton] at hk; subst hk
 refine ⟨y22 9, [(4, tBad m y), (172, rAp m y b w th pa), (173, .adr 4 [] y.toNat 0)] ++ bs c x fr md i y p q, by kernel_rfl, by kernel_rfl, zri 9 (kp [4, 172, 173, 0, 5, 6, 7, 8, 14]) _ _ [.b true, .c] [q9 m y] (allp h9 zqa) (by kernel_rfl) (by kernel_rfl), ?_⟩
 refine AnyR.step [10] (by kernel_rfl) (by simp) fun k hk => ?_
 rw [List.mem_singleton] at hk; subst hk
 exact ⟨y22 10, _, by kernel_rfl, by kernel_rfl, zri 10 (kp [4, 0, 5, 6, 7, 8, 14]) _ ((4, tNew m y b w th pa) :: bs c x fr md i y p q) [.b true, .r .bad, .c] [q10 m y, q11 m y] (allp h10.1 (allp h10.2 zqa)) (by kernel_rfl) (by kernel_rfl), by kernel_rfl, rfl⟩
end
abbrev H22 (m : List (List Lp)) (y b : Int) (w : Bool) (th : List Idd) (pa : List Ps) : Prop := q4 m y ∧ q5 m y ∧ q5b m y ∧ q6 b w th pa ∧ q8 m y b w th pa ∧ q9 m y ∧ q10 m y ∧ q11 m y
abbrev A22 (c : Option Nat) (x : List Lx) (m : List (List Lp)) (fr md : List Idd) (i y : Int) (b : Int) (w : Bool) (th : List Idd) (pa : List Ps) (p q : Int) (n : Nat) (a : Array Bool) (e : Env) : Prop := AnyR Try.prog (cxN 184 0) zqy (R22 c x m fr md i y b w th pa p q) n a (e ++ bs c x fr md i y p q)
theorem br {R : Env → Prop} {f : Nat} {l : Array Bool} {e env1 : Env} (k : Nat) (ans : List Ans) {ps : List Prop} (hp : ∀ q ∈ ps, q) (h : AnyR Try.prog (cxN 184 0) zqy R f (l.setIfInBounds k true) env1) (h1 : zqy[k]? = some (y22 k) := by kernel_rfl) (h2 : (y22 k).guard = none := by kernel_rfl) (h3 : (opsEnv Try.prog (cxN 184 0) zqy [y22 k] e ans).map (fun r => (keepE (kp (env1.map Prod.fst)) r.1, r.2)) = some (env1, ps) := by kernel_rfl) : ∃ y env1, zqy[k]? = some y ∧ y.guard = none ∧ OpR Try.prog (cxN 184 0) y e (· = env1) ∧ AnyR Try.prog (cxN 184 0) zqy R f (l.setIfInBounds k true) env1 := ⟨y22 k, env1, h1, h2, zri k _ e env1 ans ps hp h2 h3, h⟩
theorem am {P : Nat → Prop} {a : Nat} {l : List Nat} (h : P a) (hl : ∀ i ∈ l, P i) : ∀ i ∈ a :: l, P i := List.forall_mem_cons.2 ⟨h, hl⟩
theorem an {P : Nat → Prop} : ∀ i ∈ ([] : List Nat), P i := fun _ h => nomatch h
section
variable {c : Option Nat} {x : List Lx} {m : List (List Lp)} {fr md : List Idd} {i y : Int} {b : Int} {w : Bool} {th : List Idd} {pa : List Ps} {p q : Int} (H : H22 m y b w th pa)
include H
theorem c4 : ∀ q ∈ [q4 m y], q := allp H.1 zqa
theorem c5 : ∀ q ∈ [q5 m y, q5b m y], q := allp H.2.1 (allp H.2.2.1 zqa)
theorem c6 : ∀ q ∈ [q6 b w th pa], q := allp H.2.2.2.1 zqa
theorem c8 : ∀ q ∈ [q5 m y, q5b m y, q5 m y, q5b m y, q8 m y b w th pa], q := allp H.2.1 (allp H.2.2.1 (allp H.2.1 (allp H.2.2.1 (allp H.2.2.2.2.1 zqa))))
theorem m303 : A22 c x m fr md i y b w th pa p q 2 #[true, true, true, true, true, true, true, true, true, false, false] [(4, tBad m y), (172, rAp m y b w th pa), (164, .al 4 [] none), (165, it y)] := fin22 c x m fr md i y b w th pa p q H.1 H.2.1 H.2.2.1 H.2.2.2.1 H.2.2.2.2.1 H.2.2.2.2.2.1 H.2.2.2.2.2.2
theorem m352 : A22 c x m fr md i y b w th pa p q 3 #[true, true, true, true, true, true, true, true, false, false, false] [(4, tGW m), (164, .al 4 [] none), (165, it y), (169, .al 4 [(y.toNat, 0)] none), (171, .sl .own 45 (some 1) [agF b w th pa])] := AnyR.step [8] (by kernel_rfl) (by simp) (am (br 8 [.c, .b true, .r (gOW (m.getD y.toNat default)), .b true, .r (gOW (m.getD y.toNat default)), .b true, .c] (c8 H) (m303 H)) an)
theorem m351 : A22 c x m fr md i y b w th pa p q 4 #[true, true, true, true, true, true, true, false, false, false, false] [(4, tGW m), (164, .al 4 [] none), (165, it y), (169, .al 4 [(y.toNat, 0)] none), (170, agF b w th pa)] := AnyR.step [7] (by kernel_rfl) (by simp) (am (br 7 [.c, .c, .c] zqa (m352 H)) an)
theorem m350 : A22 c x m fr md i y b w th pa p q 5 #[true, true, true, true, true, true, false, false, false, false, false] [(4, tGW m), (164, .al 4 [] none), (165, it y), (169, .al 4 [(y.toNat, 0)] none), (9, bxL b w th pa)] := AnyR.step [6] (by kernel_rfl) (by simp) (am (br 6 [.r (agF b w th pa), .c, .c] (c6 H) (m351 H)) an)
theorem m342 : A22 c x m fr md i y b w th pa p q 4 #[true, true, true, true, true, false, true, true, false, false, false] [(4, tGW m), (164, .al 4 [] none), (165, it y), (168, .adr 4 [] y.toNat 0), (171, .sl .own 45 (some 1) [agF b w th pa])] := AnyR.step [5] (by kernel_rfl) (by simp) (am (br 5 [.b true, .r (gOW (m.getD y.toNat default)), .c] (c5 H) (m352 H)) an)
theorem m341 : A22 c x m fr md i y b w th pa p q 5 #[true, true, true, true, true, false, true, false, false, false, false] [(4, tGW m), (164, .al 4 [] none), (165, it y), (168, .adr 4 [] y.toNat 0), (170, agF b w th pa)] := AnyR.step [5, 7] (by kernel_rfl) (by simp) (am (br 5 [.b true, .r (gOW (m.getD y.toNat default)), .c] (c5 H) (m351 H)) (am (br 7 [.c, .c, .c] zqa (m342 H)) an))
theorem m340 : A22 c x m fr md i y b w th pa p q 6 #[true, true, true, true, true, false, false, false, false, false, false] [(4, tGW m), (164, .al 4 [] none), (165, it y), (168, .adr 4 [] y.toNat 0), (9, bxL b w th pa)] := AnyR.step [5, 6] (by kernel_rfl) (by simp) (am (br 5 [.b true, .r (gOW (m.getD y.toNat default)), .c] (c5 H) (m350 H)) (am (br 6 [.r (agF b w th pa), .c, .c] (c6 H) (m341 H)) an))
theorem m332 : A22 c x m fr md i y b w th pa p q 5 #[true, true, true, true, false, false, true, true, false, false, false] [(4, tGW m), (164, .al 4 [] none), (165, it y), (166, .al 4 [] none), (167, it y), (171, .sl .own 45 (some 1) [agF b w th pa])] := AnyR.step [4] (by kernel_rfl) (by simp) (am (br 4 [.b true, .c] (c4 H) (m342 H)) an)
theorem m331 : A22 c x m fr md i y b w th pa p q 6 #[true, true, true, true, false, false, true, false, false, false, false] [(4, tGW m), (164, .al 4 [] none), (165, it y), (166, .al 4 [] none), (167, it y), (170, agF b w th pa)] := AnyR.step [4, 7] (by kernel_rfl) (by simp) (am (br 4 [.b true, .c] (c4 H) (m341 H)) (am (br 7 [.c, .c, .c] zqa (m332 H)) an))
theorem m330 : A22 c x m fr md i y b w th pa p q 7 #[true, true, true, true, false, false, false, false, false, false, false] [(4, tGW m), (164, .al 4 [] none), (165, it y), (166, .al 4 [] none), (167, it y), (9, bxL b w th pa)] := AnyR.step [4, 6] (by kernel_rfl) (by simp) (am (br 4 [.b true, .c] (c4 H) (m340 H)) (am (br 6 [.r (agF b w th pa), .c, .c] (c6 H) (m331 H)) an))
theorem m312 : A22 c x m fr md i y b w th pa p q 6 #[true, true, true, false, false, false, true, true, false, false, false] [(4, tGW m), (164, .al 4 [] none), (165, it y), (166, .al 4 [] none), (171, .sl .own 45 (some 1) [agF b w th pa])] := AnyR.step [3] (by kernel_rfl) (by simp) (am (br 3 [.c] zqa (m332 H)) an)
theorem m311 : A22 c x m fr md i y b w th pa p q 7 #[true, true, true, false, false, false, true, false, false, false, false] [(4, tGW m), (164, .al 4 [] none), (165, it y), (166, .al 4 [] none), (170, agF b w th pa)] := AnyR.step [3, 7] (by kernel_rfl) (by simp) (am (br 3 [.c] zqa (m331 H)) (am (br 7 [.c, .c, .c] zqa (m312 H)) an))
theorem m310 : A22 c x m fr md i y b w th pa p q 8 #[true, true, true, false, false, false, false, false, false, false, false] [(4, tGW m), (164, .al 4 [] none), (165, it y), (166, .al 4 [] none), (9, bxL b w th pa)] := AnyR.step [3, 6] (by kernel_rfl) (by simp) (am (br 3 [.c] zqa (m330 H)) (am (br 6 [.r (agF b w th pa), .c, .c] (c6 H) (m311 H)) an))
theorem m322 : A22 c x m fr md i y b w th pa p q 6 #[true, true, false, true, false, false, true, true, false, false, false] [(4, tGW m), (164, .al 4 [] none), (165, it y), (167, it y), (171, .sl .own 45 (some 1) [agF b w th pa])] := AnyR.step [2] (by kernel_rfl) (by simp) (am (br 2 [.c] zqa (m332 H)) an)
theorem m321 : A22 c x m fr md i y b w th pa p q 7 #[true, true, false, true, false, false, true, false, false, false, false] [(4, tGW m), (164, .al 4 [] none), (165, it y), (167, it y), (170, agF b w th pa)] := AnyR.step [2, 7] (by kernel_rfl) (by simp) (am (br 2 [.c] zqa (m331 H)) (am (br 7 [.c, .c, .c] zqa (m322 H)) an))
theorem m320 : A22 c x m fr md i y b w th pa p q 8 #[true, true, false, true, false, false, false, false, false, false, false] [(4, tGW m), (164, .al 4 [] none), (165, it y), (167, it y), (9, bxL b w th pa)] := AnyR.step [2, 6] (by kernel_rfl) (by simp) (am (br 2 [.c] zqa (m330 H)) (am (br 6 [.r (agF b w th pa), .c, .c] (c6 H) (m321 H)) an))
theorem m302 : A22 c x m fr md i y b w th pa p q 7 #[true, true, false, false, false, false, true, true, false, false, false] [(4, tGW m), (164, .al 4 [] none), (165, it y), (171, .sl .own 45 (some 1) [agF b w th pa])] := AnyR.step [2, 3] (by kernel_rfl) (by simp) (am (br 2 [.c] zqa (m312 H)) (am (br 3 [.c] zqa (m322 H)) an))
theorem m301 : A22 c x m fr md i y b w th pa p q 8 #[true, true, false, false, false, false, true, false, false, false, false] [(4, tGW m), (164, .al 4 [] none), (165, it y), (170, agF b w th pa)] := AnyR.step [2, 3, 7] (by kernel_rfl) (by simp) (am (br 2 [.c] zqa (m311 H)) (am (br 3 [.c] zqa (m321 H)) (am (br 7 [.c, .c, .c] zqa (m302 H)) an)))
theorem m300 : A22 c x m fr md i y b w th pa p q 9 #[true, true, false, false, false, false, false, false, false, false, false] [(4, tGW m), (164, .al 4 [] none), (165, it y), (9, bxL b w th pa)] := AnyR.step [2, 3, 6] (by kernel_rfl) (by simp) (am (br 2 [.c] zqa (m310 H)) (am (br 3 [.c] zqa (m320 H)) (am (br 6 [.r (agF b w th pa), .c, .c] (c6 H) (m301 H)) an)))
theorem m103 : A22 c x m fr md i y b w th pa p q 3 #[true, false, true, true, true, true, true, true, true, false, false] [(4, tBad m y), (172, rAp m y b w th pa), (164, .al 4 [] none)] := AnyR.step [1] (by kernel_rfl) (by simp) (am (br 1 [.c] zqa (m303 H)) an)
theorem m152 : A22 c x m fr md i y b w th pa p q 4 #[true, false, true, true, true, true, true, true, false, false, false] [(4, tGW m), (164, .al 4 [] none), (169, .al 4 [(y.toNat, 0)] none), (171, .sl .own 45 (some 1) [agF b w th pa])] := AnyR.step [1, 8] (by kernel_rfl) (by simp) (am (br 1 [.c] zqa (m352 H)) (am (br 8 [.c, .b true, .r (gOW (m.getD y.toNat default)), .b true, .r (gOW (m.getD y.toNat default)), .b true, .c] (c8 H) (m103 H)) an))
theorem m151 : A22 c x m fr md i y b w th pa p q 5 #[true, false, true, true, true, true, true, false, false, false, false] [(4, tGW m), (164, .al 4 [] none), (169, .al 4 [(y.toNat, 0)] none), (170, agF b w th pa)] := AnyR.step [1, 7] (by kernel_rfl) (by simp) (am (br 1 [.c] zqa (m351 H)) (am (br 7 [.c, .c, .c] zqa (m152 H)) an))
theorem m150 : A22 c x m fr md i y b w th pa p q 6 #[true, false, true, true, true, true, false, false, false, false, false] [(4, tGW m), (164, .al 4 [] none), (169, .al 4 [(y.toNat, 0)] none), (9, bxL b w th pa)] := AnyR.step [1, 6] (by kernel_rfl) (by simp) (am (br 1 [.c] zqa (m350 H)) (am (br 6 [.r (agF b w th pa), .c, .c] (c6 H) (m151 H)) an))
theorem m142 : A22 c x m fr md i y b w th pa p q 5 #[true, false, true, true, true, false, true, true, false, false, false] [(4, tGW m), (164, .al 4 [] none), (168, .adr 4 [] y.toNat 0), (171, .sl .own 45 (some 1) [agF b w th pa])] := AnyR.step [1, 5] (by kernel_rfl) (by simp) (am (br 1 [.c] zqa (m342 H)) (am (br 5 [.b true, .r (gOW (m.getD y.toNat default)), .c] (c5 H) (m152 H)) an))
theorem m141 : A22 c x m fr md i y b w th pa p q 6 #[true, false, true, true, true, false, true, false, false, false, false] [(4, tGW m), (164, .al 4 [] none), (168, .adr 4 [] y.toNat 0), (170, agF b w th pa)] := AnyR.step [1, 5, 7] (by kernel_rfl) (by simp) (am (br 1 [.c] zqa (m341 H)) (am (br 5 [.b true, .r (gOW (m.getD y.toNat default)), .c] (c5 H) (m151 H)) (am (br 7 [.c, .c, .c] zqa (m142 H)) an)))
theorem m140 : A22 c x m fr md i y b w th pa p q 7 #[true, false, true, true, true, false, false, false, false, false, false] [(4, tGW m), (164, .al 4 [] none), (168, .adr 4 [] y.toNat 0), (9, bxL b w th pa)] := AnyR.step [1, 5, 6] (by kernel_rfl) (by simp) (am (br 1 [.c] zqa (m340 H)) (am (br 5 [.b true, .r (gOW (m.getD y.toNat default)), .c] (c5 H) (m150 H)) (am (br 6 [.r (agF b w th pa), .c, .c] (c6 H) (m141 H)) an)))
theorem m132 : A22 c x m fr md i y b w th pa p q 6 #[true, false, true, true, false, false, true, true, false, false, false] [(4, tGW m), (164, .al 4 [] none), (166, .al 4 [] none), (167, it y), (171, .sl .own 45 (some 1) [agF b w th pa])] := AnyR.step [1, 4] (by kernel_rfl) (by simp) (am (br 1 [.c] zqa (m332 H)) (am (br 4 [.b true, .c] (c4 H) (m142 H)) an))
theorem m131 : A22 c x m fr md i y b w th pa p q 7 #[true, false, true, true, false, false, true, false, false, false, false] [(4, tGW m), (164, .al 4 [] none), (166, .al 4 [] none), (167, it y), (170, agF b w th pa)] := AnyR.step [1, 4, 7] (by kernel_rfl) (by simp) (am (br 1 [.c] zqa (m331 H)) (am (br 4 [.b true, .c] (c4 H) (m141 H)) (am (br 7 [.c, .c, .c] zqa (m132 H)) an)))
theorem m130 : A22 c x m fr md i y b w th pa p q 8 #[true, false, true, true, false, false, false, false, false, false, false] [(4, tGW m), (164, .al 4 [] none), (166, .al 4 [] none), (167, it y), (9, bxL b w th pa)] := AnyR.step [1, 4, 6] (by kernel_rfl) (by simp) (am (br 1 [.c] zqa (m330 H)) (am (br 4 [.b true, .c] (c4 H) (m140 H)) (am (br 6 [.r (agF b w th pa), .c, .c] (c6 H) (m131 H)) an)))
theorem m112 : A22 c x m fr md i y b w th pa p q 7 #[true, false, true, false, false, false, true, true, false, false, false] [(4, tGW m), (164, .al 4 [] none), (166, .al 4 [] none), (171, .sl .own 45 (some 1) [agF b w th pa])] := AnyR.step [1, 3] (by kernel_rfl) (by simp) (am (br 1 [.c] zqa (m312 H)) (am (br 3 [.c] zqa (m132 H)) an))
theorem m111 : A22 c x m fr md i y b w th pa p q 8 #[true, false, true, false, false, false, true, false, false, false, false] [(4, tGW m), (164, .al 4 [] none), (166, .al 4 [] none), (170, agF b w th pa)] := AnyR.step [1, 3, 7] (by kernel_rfl) (by simp) (am (br 1 [.c] zqa (m311 H)) (am (br 3 [.c] zqa (m131 H)) (am (br 7 [.c, .c, .c] zqa (m112 H)) an)))
theorem m110 : A22 c x m fr md i y b w th pa p q 9 #[true, false, true, false, false, false, false, false, false, false, false] [(4, tGW m), (164, .al 4 [] none), (166, .al 4 [] none), (9, bxL b w th pa)] := AnyR.step [1, 3, 6] (by kernel_rfl) (by simp) (am (br 1 [.c] zqa (m310 H)) (am (br 3 [.c] zqa (m130 H)) (am (br 6 [.r (agF b w th pa), .c, .c] (c6 H) (m111 H)) an)))
theorem m122 : A22 c x m fr md i y b w th pa p q 7 #[true, false, false, true, false, false, true, true, false, false, false] [(4, tGW m), (164, .al 4 [] none), (167, it y), (171, .sl .own 45 (some 1) [agF b w th pa])] := AnyR.step [1, 2] (by kernel_rfl) (by simp) (am (br 1 [.c] zqa (m322 H)) (am (br 2 [.c] zqa (m132 H)) an))
theorem m121 : A22 c x m fr md i y b w th pa p q 8 #[true, false, false, true, false, false, true, false, false, false, false] [(4, tGW m), (164, .al 4 [] none), (167, it y), (170, agF b w th pa)] := AnyR.step [1, 2, 7] (by kernel_rfl) (by simp) (am (br 1 [.c] zqa (m321 H)) (am (br 2 [.c] zqa (m131 H)) (am (br 7 [.c, .c, .c] zqa (m122 H)) an)))
theorem m120 : A22 c x m fr md i y b w th pa p q 9 #[true, false, false, true, false, false, false, false, false, false, false] [(4, tGW m), (164, .al 4 [] none), (167, it y), (9, bxL b w th pa)] := AnyR.step [1, 2, 6] (by kernel_rfl) (by simp) (am (br 1 [.c] zqa (m320 H)) (am (br 2 [.c] zqa (m130 H)) (am (br 6 [.r (agF b w th pa), .c, .c] (c6 H) (m121 H)) an)))
theorem m102 : A22 c x m fr md i y b w th pa p q 8 #[true, false, false, false, false, false, true, true, false, false, false] [(4, tGW m), (164, .al 4 [] none), (171, .sl .own 45 (some 1) [agF b w th pa])] := AnyR.step [1, 2, 3] (by kernel_rfl) (by simp) (am (br 1 [.c] zqa (m302 H)) (am (br 2 [.c] zqa (m112 H)) (am (br 3 [.c] zqa (m122 H)) an)))
theorem m101 : A22 c x m fr md i y b w th pa p q 9 #[true, false, false, false, false, false, true, false, false, false, false] [(4, tGW m), (164, .al 4 [] none), (170, agF b w th pa)] := AnyR.step [1, 2, 3, 7] (by kernel_rfl) (by simp) (am (br 1 [.c] zqa (m301 H)) (am (br 2 [.c] zqa (m111 H)) (am (br 3 [.c] zqa (m121 H)) (am (br 7 [.c, .c, .c] zqa (m102 H)) an))))
theorem m100 : A22 c x m fr md i y b w th pa p q 10 #[true, false, false, false, false, false, false, false, false, false, false] [(4, tGW m), (164, .al 4 [] none), (9, bxL b w th pa)] := AnyR.step [1, 2, 3, 6] (by kernel_rfl) (by simp) (am (br 1 [.c] zqa (m300 H)) (am (br 2 [.c] zqa (m110 H)) (am (br 3 [.c] zqa (m120 H)) (am (br 6 [.r (agF b w th pa), .c, .c] (c6 H) (m101 H)) an))))
theorem m203 : A22 c x m fr md i y b w th pa p q 3 #[false, true, true, true, true, true, true, true, true, false, false] [(4, tBad m y), (172, rAp m y b w th pa), (165, it y)] := AnyR.step [0] (by kernel_rfl) (by simp) (am (br 0 [.c] zqa (m303 H)) an)
theorem m252 : A22 c x m fr md i y b w th pa p q 4 #[false, true, true, true, true, true, true, true, false, false, false] [(4, tGW m), (165, it y), (169, .al 4 [(y.toNat, 0)] none), (171, .sl .own 45 (some 1) [agF b w th pa])] := AnyR.step [0, 8] (by kernel_rfl) (by simp) (am (br 0 [.c] zqa (m352 H)) (am (br 8 [.c, .b true, .r (gOW (m.getD y.toNat default)), .b true, .r (gOW (m.getD y.toNat default)), .b true, .c] (c8 H) (m203 H)) an))
theorem m251 : A22 c x m fr md i y b w th pa p q 5 #[false, true, true, true, true, true, true, false, false, false, false] [(4, tGW m), (165, it y), (169, .al 4 [(y.toNat, 0)] none), (170, agF b w th pa)] := AnyR.step [0, 7] (by kernel_rfl) (by simp) (am (br 0 [.c] zqa (m351 H)) (am (br 7 [.c, .c, .c] zqa (m252 H)) an))
theorem m250 : A22 c x m fr md i y b w th pa p q 6 #[false, true, true, true, true, true, false, false, false, false, false] [(4, tGW m), (165, it y), (169, .al 4 [(y.toNat, 0)] none), (9, bxL b w th pa)] := AnyR.step [0, 6] (by kernel_rfl) (by simp) (am (br 0 [.c] zqa (m350 H)) (am (br 6 [.r (agF b w th pa), .c, .c] (c6 H) (m251 H)) an))
theorem m242 : A22 c x m fr md i y b w th pa p q 5 #[false, true, true, true, true, false, true, true, false, false, false] [(4, tGW m), (165, it y), (168, .adr 4 [] y.toNat 0), (171, .sl .own 45 (some 1) [agF b w th pa])] := AnyR.step [0, 5] (by kernel_rfl) (by simp) (am (br 0 [.c] zqa (m342 H)) (am (br 5 [.b true, .r (gOW (m.getD y.toNat default)), .c] (c5 H) (m252 H)) an))
theorem m241 : A22 c x m fr md i y b w th pa p q 6 #[false, true, true, true, true, false, true, false, false, false, false] [(4, tGW m), (165, it y), (168, .adr 4 [] y.toNat 0), (170, agF b w th pa)] := AnyR.step [0, 5, 7] (by kernel_rfl) (by simp) (am (br 0 [.c] zqa (m341 H)) (am (br 5 [.b true, .r (gOW (m.getD y.toNat default)), .c] (c5 H) (m251 H)) (am (br 7 [.c, .c, .c] zqa (m242 H)) an)))
theorem m240 : A22 c x m fr md i y b w th pa p q 7 #[false, true, true, true, true, false, false, false, false, false, false] [(4, tGW m), (165, it y), (168, .adr 4 [] y.toNat 0), (9, bxL b w th pa)] := AnyR.step [0, 5, 6] (by kernel_rfl) (by simp) (am (br 0 [.c] zqa (m340 H)) (am (br 5 [.b true, .r (gOW (m.getD y.toNat default)), .c] (c5 H) (m250 H)) (am (br 6 [.r (agF b w th pa), .c, .c] (c6 H) (m241 H)) an)))
theorem m232 : A22 c x m fr md i y b w th pa p q 6 #[false, true, true, true, false, false, true, true, false, false, false] [(4, tGW m), (165, it y), (166, .al 4 [] none), (167, it y), (171, .sl .own 45 (some 1) [agF b w th pa])] := AnyR.step [0, 4] (by kernel_rfl) (by simp) (am (br 0 [.c] zqa (m332 H)) (am (br 4 [.b true, .c] (c4 H) (m242 H)) an))
theorem m231 : A22 c x m fr md i y b w th pa p q 7 #[false, true, true, true, false, false, true, false, false, false, false] [(4, tGW m), (165, it y), (166, .al 4 [] none), (167, it y), (170, agF b w th pa)] := AnyR.step [0, 4, 7] (by kernel_rfl) (by simp) (am (br 0 [.c] zqa (m331 H)) (am (br 4 [.b true, .c] (c4 H) (m241 H)) (am (br 7 [.c, .c, .c] zqa (m232 H)) an)))
theorem m230 : A22 c x m fr md i y b w th pa p q 8 #[false, true, true, true, false, false, false, false, false, false, false] [(4, tGW m), (165, it y), (166, .al 4 [] none), (167, it y), (9, bxL b w th pa)] := AnyR.step [0, 4, 6] (by kernel_rfl) (by simp) (am (br 0 [.c] zqa (m330 H)) (am (br 4 [.b true, .c] (c4 H) (m240 H)) (am (br 6 [.r (agF b w th pa), .c, .c] (c6 H) (m231 H)) an)))
theorem m212 : A22 c x m fr md i y b w th pa p q 7 #[false, true, true, false, false, false, true, true, false, false, false] [(4, tGW m), (165, it y), (166, .al 4 [] none), (171, .sl .own 45 (some 1) [agF b w th pa])] := AnyR.step [0, 3] (by kernel_rfl) (by simp) (am (br 0 [.c] zqa (m312 H)) (am (br 3 [.c] zqa (m232 H)) an))
theorem m211 : A22 c x m fr md i y b w th pa p q 8 #[false, true, true, false, false, false, true, false, false, false, false] [(4, tGW m), (165, it y), (166, .al 4 [] none), (170, agF b w th pa)] := AnyR.step [0, 3, 7] (by kernel_rfl) (by simp) (am (br 0 [.c] zqa (m311 H)) (am (br 3 [.c] zqa (m231 H)) (am (br 7 [.c, .c, .c] zqa (m212 H)) an)))
theorem m210 : A22 c x m fr md i y b w th pa p q 9 #[false, true, true, false, false, false, false, false, false, false, false] [(4, tGW m), (165, it y), (166, .al 4 [] none), (9, bxL b w th pa)] := AnyR.step [0, 3, 6] (by kernel_rfl) (by simp) (am (br 0 [.c] zqa (m310 H)) (am (br 3 [.c] zqa (m230 H)) (am (br 6 [.r (agF b w th pa), .c, .c] (c6 H) (m211 H)) an)))
theorem m222 : A22 c x m fr md i y b w th pa p q 7 #[false, true, false, true, false, false, true, true, false, false, false] [(4, tGW m), (165, it y), (167, it y), (171, .sl .own 45 (some 1) [agF b w th pa])] := AnyR.step [0, 2] (by kernel_rfl) (by simp) (am (br 0 [.c] zqa (m322 H)) (am (br 2 [.c] zqa (m232 H)) an))
theorem m221 : A22 c x m fr md i y b w th pa p q 8 #[false, true, false, true, false, false, true, false, false, false, false] [(4, tGW m), (165, it y), (167, it y), (170, agF b w th pa)] := AnyR.step [0, 2, 7] (by kernel_rfl) (by simp) (am (br 0 [.c] zqa (m321 H)) (am (br 2 [.c] zqa (m231 H)) (am (br 7 [.c, .c, .c] zqa (m222 H)) an)))
theorem m220 : A22 c x m fr md i y b w th pa p q 9 #[false, true, false, true, false, false, false, false, false, false, false] [(4, tGW m), (165, it y), (167, it y), (9, bxL b w th pa)] := AnyR.step [0, 2, 6] (by kernel_rfl) (by simp) (am (br 0 [.c] zqa (m320 H)) (am (br 2 [.c] zqa (m230 H)) (am (br 6 [.r (agF b w th pa), .c, .c] (c6 H) (m221 H)) an)))
theorem m202 : A22 c x m fr md i y b w th pa p q 8 #[false, true, false, false, false, false, true, true, false, false, false] [(4, tGW m), (165, it y), (171, .sl .own 45 (some 1) [agF b w th pa])] := AnyR.step [0, 2, 3] (by kernel_rfl) (by simp) (am (br 0 [.c] zqa (m302 H)) (am (br 2 [.c] zqa (m212 H)) (am (br 3 [.c] zqa (m222 H)) an)))
theorem m201 : A22 c x m fr md i y b w th pa p q 9 #[false, true, false, false, false, false, true, false, false, false, false] [(4, tGW m), (165, it y), (170, agF b w th pa)] := AnyR.step [0, 2, 3, 7] (by kernel_rfl) (by simp) (am (br 0 [.c] zqa (m301 H)) (am (br 2 [.c] zqa (m211 H)) (am (br 3 [.c] zqa (m221 H)) (am (br 7 [.c, .c, .c] zqa (m202 H)) an))))
theorem m200 : A22 c x m fr md i y b w th pa p q 10 #[false, true, false, false, false, false, false, false, false, false, false] [(4, tGW m), (165, it y), (9, bxL b w th pa)] := AnyR.step [0, 2, 3, 6] (by kernel_rfl) (by simp) (am (br 0 [.c] zqa (m300 H)) (am (br 2 [.c] zqa (m210 H)) (am (br 3 [.c] zqa (m220 H)) (am (br 6 [.r (agF b w th pa), .c, .c] (c6 H) (m201 H)) an))))
theorem m003 : A22 c x m fr md i y b w th pa p q 4 #[false, false, true, true, true, true, true, true, true, false, false] [(4, tBad m y), (172, rAp m y b w th pa)] := AnyR.step [0, 1] (by kernel_rfl) (by simp) (am (br 0 [.c] zqa (m103 H)) (am (br 1 [.c] zqa (m203 H)) an))
theorem m052 : A22 c x m fr md i y b w th pa p q 5 #[false, false, true, true, true, true, true, true, false, false, false] [(4, tGW m), (169, .al 4 [(y.toNat, 0)] none), (171, .sl .own 45 (some 1) [agF b w th pa])] := AnyR.step [0, 1, 8] (by kernel_rfl) (by simp) (am (br 0 [.c] zqa (m152 H)) (am (br 1 [.c] zqa (m252 H)) (am (br 8 [.c, .b true, .r (gOW (m.getD y.toNat default)), .b true, .r (gOW (m.getD y.toNat default)), .b true, .c] (c8 H) (m003 H)) an)))
theorem m051 : A22 c x m fr md i y b w th pa p q 6 #[false, false, true, true, true, true, true, false, false, false, false] [(4, tGW m), (169, .al 4 [(y.toNat, 0)] none), (170, agF b w th pa)] := AnyR.step [0, 1, 7] (by kernel_rfl) (by simp) (am (br 0 [.c] zqa (m151 H)) (am (br 1 [.c] zqa (m251 H)) (am (br 7 [.c, .c, .c] zqa (m052 H)) an)))
theorem m050 : A22 c x m fr md i y b w th pa p q 7 #[false, false, true, true, true, true, false, false, false, false, false] [(4, tGW m), (169, .al 4 [(y.toNat, 0)] none), (9, bxL b w th pa)] := AnyR.step [0, 1, 6] (by kernel_rfl) (by simp) (am (br 0 [.c] zqa (m150 H)) (am (br 1 [.c] zqa (m250 H)) (am (br 6 [.r (agF b w th pa), .c, .c] (c6 H) (m051 H)) an)))
theorem m042 : A22 c x m fr md i y b w th pa p q 6 #[false, false, true, true, true, false, true, true, false, false, false] [(4, tGW m), (168, .adr 4 [] y.toNat 0), (171, .sl .own 45 (some 1) [agF b w th pa])] := AnyR.step [0, 1, 5] (by kernel_rfl) (by simp) (am (br 0 [.c] zqa (m142 H)) (am (br 1 [.c] zqa (m242 H)) (am (br 5 [.b true, .r (gOW (m.getD y.toNat default)), .c] (c5 H) (m052 H)) an)))
theorem m041 : A22 c x m fr md i y b w th pa p q 7 #[false, false, true, true, true, false, true, false, false, false, false] [(4, tGW m), (168, .adr 4 [] y.toNat 0), (170, agF b w th pa)] := AnyR.step [0, 1, 5, 7] (by kernel_rfl) (by simp) (am (br 0 [.c] zqa (m141 H)) (am (br 1 [.c] zqa (m241 H)) (am (br 5 [.b true, .r (gOW (m.getD y.toNat default)), .c] (c5 H) (m051 H)) (am (br 7 [.c, .c, .c] zqa (m042 H)) an))))
theorem m040 : A22 c x m fr md i y b w th pa p q 8 #[false, false, true, true, true, false, false, false, false, false, false] [(4, tGW m), (168, .adr 4 [] y.toNat 0), (9, bxL b w th pa)] := AnyR.step [0, 1, 5, 6] (by kernel_rfl) (by simp) (am (br 0 [.c] zqa (m140 H)) (am (br 1 [.c] zqa (m240 H)) (am (br 5 [.b true, .r (gOW (m.getD y.toNat default)), .c] (c5 H) (m050 H)) (am (br 6 [.r (agF b w th pa), .c, .c] (c6 H) (m041 H)) an))))
theorem m032 : A22 c x m fr md i y b w th pa p q 7 #[false, false, true, true, false, false, true, true, false, false, false] [(4, tGW m), (166, .al 4 [] none), (167, it y), (171, .sl .own 45 (some 1) [agF b w th pa])] := AnyR.step [0, 1, 4] (by kernel_rfl) (by simp) (am (br 0 [.c] zqa (m132 H)) (am (br 1 [.c] zqa (m232 H)) (am (br 4 [.b true, .c] (c4 H) (m042 H)) an)))
theorem m031 : A22 c x m fr md i y b w th pa p q 8 #[false, false, true, true, false, false, true, false, false, false, false] [(4, tGW m), (166, .al 4 [] none), (167, it y), (170, agF b w th pa)] := AnyR.step [0, 1, 4, 7] (by kernel_rfl) (by simp) (am (br 0 [.c] zqa (m131 H)) (am (br 1 [.c] zqa (m231 H)) (am (br 4 [.b true, .c] (c4 H) (m041 H)) (am (br 7 [.c, .c, .c] zqa (m032 H)) an))))
theorem m030 : A22 c x m fr md i y b w th pa p q 9 #[false, false, true, true, false, false, false, false, false, false, false] [(4, tGW m), (166, .al 4 [] none), (167, it y), (9, bxL b w th pa)] := AnyR.step [0, 1, 4, 6] (by kernel_rfl) (by simp) (am (br 0 [.c] zqa (m130 H)) (am (br 1 [.c] zqa (m230 H)) (am (br 4 [.b true, .c] (c4 H) (m040 H)) (am (br 6 [.r (agF b w th pa), .c, .c] (c6 H) (m031 H)) an))))
theorem m012 : A22 c x m fr md i y b w th pa p q 8 #[false, false, true, false, false, false, true, true, false, false, false] [(4, tGW m), (166, .al 4 [] none), (171, .sl .own 45 (some 1) [agF b w th pa])] := AnyR.step [0, 1, 3] (by kernel_rfl) (by simp) (am (br 0 [.c] zqa (m112 H)) (am (br 1 [.c] zqa (m212 H)) (am (br 3 [.c] zqa (m032 H)) an)))
theorem m011 : A22 c x m fr md i y b w th pa p q 9 #[false, false, true, false, false, false, true, false, false, false, false] [(4, tGW m), (166, .al 4 [] none), (170, agF b w th pa)] := AnyR.step [0, 1, 3, 7] (by kernel_rfl) (by simp) (am (br 0 [.c] zqa (m111 H)) (am (br 1 [.c] zqa (m211 H)) (am (br 3 [.c] zqa (m031 H)) (am (br 7 [.c, .c, .c] zqa (m012 H)) an))))
theorem m010 : A22 c x m fr md i y b w th pa p q 10 #[false, false, true, false, false, false, false, false, false, false, false] [(4, tGW m), (166, .al 4 [] none), (9, bxL b w th pa)] := AnyR.step [0, 1, 3, 6] (by kernel_rfl) (by simp) (am (br 0 [.c] zqa (m110 H)) (am (br 1 [.c] zqa (m210 H)) (am (br 3 [.c] zqa (m030 H)) (am (br 6 [.r (agF b w th pa), .c, .c] (c6 H) (m011 H)) an))))
theorem m022 : A22 c x m fr md i y b w th pa p q 8 #[false, false, false, true, false, false, true, true, false, false, false] [(4, tGW m), (167, it y), (171, .sl .own 45 (some 1) [agF b w th pa])] := AnyR.step [0, 1, 2] (by kernel_rfl) (by simp) (am (br 0 [.c] zqa (m122 H)) (am (br 1 [.c] zqa (m222 H)) (am (br 2 [.c] zqa (m032 H)) an)))
theorem m021 : A22 c x m fr md i y b w th pa p q 9 #[false, false, false, true, false, false, true, false, false, false, false] [(4, tGW m), (167, it y), (170, agF b w th pa)] := AnyR.step [0, 1, 2, 7] (by kernel_rfl) (by simp) (am (br 0 [.c] zqa (m121 H)) (am (br 1 [.c] zqa (m221 H)) (am (br 2 [.c] zqa (m031 H)) (am (br 7 [.c, .c, .c] zqa (m022 H)) an))))
theorem m020 : A22 c x m fr md i y b w th pa p q 10 #[false, false, false, true, false, false, false, false, false, false, false] [(4, tGW m), (167, it y), (9, bxL b w th pa)] := AnyR.step [0, 1, 2, 6] (by kernel_rfl) (by simp) (am (br 0 [.c] zqa (m120 H)) (am (br 1 [.c] zqa (m220 H)) (am (br 2 [.c] zqa (m030 H)) (am (br 6 [.r (agF b w th pa), .c, .c] (c6 H) (m021 H)) an))))
theorem m002 : A22 c x m fr md i y b w th pa p q 9 #[false, false, false, false, false, false, true, true, false, false, false] [(4, tGW m), (171, .sl .own 45 (some 1) [agF b w th pa])] := AnyR.step [0, 1, 2, 3] (by kernel_rfl) (by simp) (am (br 0 [.c] zqa (m102 H)) (am (br 1 [.c] zqa (m202 H)) (am (br 2 [.c] zqa (m012 H)) (am (br 3 [.c] zqa (m022 H)) an))))
theorem m001 : A22 c x m fr md i y b w th pa p q 10 #[false, false, false, false, false, false, true, false, false, false, false] [(4, tGW m), (170, agF b w th pa)] := AnyR.step [0, 1, 2, 3, 7] (by kernel_rfl) (by simp) (am (br 0 [.c] zqa (m101 H)) (am (br 1 [.c] zqa (m201 H)) (am (br 2 [.c] zqa (m011 H)) (am (br 3 [.c] zqa (m021 H)) (am (br 7 [.c, .c, .c] zqa (m002 H)) an)))))
theorem m000 : A22 c x m fr md i y b w th pa p q 11 #[false, false, false, false, false, false, false, false, false, false, false] [(4, tGW m), (9, bxL b w th pa)] := AnyR.step [0, 1, 2, 3, 6] (by kernel_rfl) (by simp) (am (br 0 [.c] zqa (m100 H)) (am (br 1 [.c] zqa (m200 H)) (am (br 2 [.c] zqa (m010 H)) (am (br 3 [.c] zqa (m020 H)) (am (br 6 [.r (agF b w th pa), .c, .c] (c6 H) (m001 H)) an)))))
end
theorem m22_0_0_0 (c : Option Nat) (x : List Lx) (m : List (List Lp)) (fr md : List Idd) (i y : Int) (b : Int) (w : Bool) (th : List Idd) (pa : List Ps) (p q : Int) (h4 : q4 m y) (h5 : q5 m y) (h5b : q5b m y) (h6 : q6 b w th pa) (h8 : q8 m y b w th pa) (h9 : q9 m y) (h10 : q10 m y ∧ q11 m y) : A22 c x m fr md i y b w th pa p q 11 #[false, false, false, false, false, false, false, false, false, false, false] [(4, tGW m), (9, bxL b w th pa)] := m000 ⟨h4, h5, h5b, h6, h8, h9, h10⟩
theorem set_rowG {m : List (List Lp)} {i : Nat} (L : List AV) (hi : i < m.length) : List.set (List.set (List.map gOW m) i (setE (List.getD (List.map gOW m) i AV.bad) 0 [AV.bad])) i (setE (List.getD (List.set (List.map gOW m) i (setE (List.getD (List.map gOW m) i AV.bad) 0 [AV.bad])) i AV.bad) 0 [.sl .own 45 none L]) = (List.map gOW m).set i (.sl .own 45 none L) := by
 rw [List.set_set]
 congr 1
 have h1 : List.getD (List.map gOW m) i AV.bad = gOW (m.getD i default) := by simp [List.getD_eq_getElem?_getD, hi]
 rw [h1]
 have h2 : List.getD (List.set (List.map gOW m) i (setE (gOW (m.getD i default)) 0 [AV.bad])) i AV.bad = AV.bad := by
  rw [List.getD_eq_getElem?_getD, List.getElem?_set_self (by simpa using hi)]; rfl
 rw [h2]; rfl
theorem map_iddS (l : List Idd) : List.map (mapE (remode zqx 11)) (List.map Idd.enc l) = List.map Idd.enc l := by rw [List.map_map]; rfl
theorem map_psS (l : List Ps) : List.map (mapE (remode zqx 11)) (List.map Ps.enc l) = List.map Ps.enc l := by rw [List.map_map]; rfl
theorem of22 (c : Option Nat) (x : List Lx) (m : List (List Lp)) (fr md : List Idd) (i : Int) (y : Nat) (b : Int) (w : Bool) (th : List Idd) (pa : List Ps) (p q : Int) (hy : y < m.length) (hl : (m.getD y default).length < 100000) (L : Lp) (hL : L.b = b ∧ L.w = w ∧ L.th = th ∧ L.pa = pa) :
  Tri Try.prog (cxN 184 0) (.region 22 (zql Try.f9 22) true) ((4, tGW m) :: (9, bxL b w th pa) :: bs c x fr md i y p q) .normal ((4, tGW (m.set y (m.getD y default ++ [L]))) :: bs c x fr md i y p q) := by
 obtain ⟨rfl, rfl, rfl, rfl⟩ := hL
 have hg : List.getD (List.map gOW m) y AV.bad = gOW (m.getD y default) := by simp [List.getD_eq_getElem?_getD, hy]
 have h := m22_0_0_0 c x m fr md i y L.b L.w L.th L.pa p q (decide_eq_true (by rw [List.length_map]; omega)) (decide_eq_true (by rw [List.length_map]; exact hy)) hg (by
   show AV.agg [ub L.b, bb L.w, .sl .fresh 36 none (List.map (mapE (remode zqx 11)) (List.map Idd.enc L.th)), .sl .fresh 56 none (List.map (mapE (remode zqx 11)) (List.map Ps.enc L.pa))] = _
   rw [map_iddS, map_psS]) (decide_eq_true (by rw [List.length_map]; show _ + 1 ≤ _; simp only [Int.toNat_natCast]; omega)) (decide_eq_true (by rw [List.length_set, List.length_map]; omega)) ⟨decide_eq_true (by rw [List.length_set, List.length_map]; exact hy), by
   show List.getD (List.set (List.map gOW m) y (setE (List.getD (List.map gOW m) y AV.bad) 0 [AV.bad])) y AV.bad = AV.bad
   rw [hg, List.getD_eq_getElem?_getD, List.getElem?_set_self (by simpa using hy)]; rfl⟩
 have e : tNew m y L.b L.w L.th L.pa = tGW (m.set y (m.getD y default ++ [L])) := by
  show AV.sl .own 37 none (List.set (List.set (List.map gOW m) y (setE (List.getD (List.map gOW m) y AV.bad) 0 [AV.bad])) y (setE (List.getD (List.set (List.map gOW m) y (setE (List.getD (List.map gOW m) y AV.bad) 0 [AV.bad])) y AV.bad) 0 [.sl .own 45 none ((m.getD y default).map Lp.encG ++ [agF L.b L.w L.th L.pa])])) = _
  rw [set_rowG _ hy]
  show _ = AV.sl .own 37 none ((m.set y (m.getD y default ++ [L])).map gOW)
  rw [List.map_set]
  show _ = AV.sl .own 37 none ((m.map gOW).set y (.sl .own 45 none ((m.getD y default ++ [L]).map Lp.encG)))
  rw [List.map_append]; rfl
 refine Tri.ofR (.any (base 184 0) (R := (· = (4, tGW (m.set y (m.getD y default ++ [L]))) :: bs c x fr md i y p q)) ?_) fun e h => h
 have hs : zqy.size = 11 := by kernel_rfl
 have ha : Array.replicate zqy.size false = #[false, false, false, false, false, false, false, false, false, false, false] := by kernel_rfl
 show AnyR Try.prog (cxN 184 0) zqy _ zqy.size (Array.replicate zqy.size false) _
 rw [ha, hs, ← e]
 exact h
theorem plain_tk (l : List Idd) : ((l.map Idd.enc).all fun y => y.ecells.all zqt) = true := by rw [List.all_map, List.all_eq_true]; intro p _; rfl
theorem len_tk (l : List Idd) (n : Nat) (hn : n = 2) : ((l.map Idd.enc).all fun y => decide (y.ecells.length = n)) = true := by subst hn; rw [List.all_map, List.all_eq_true]; intro p _; rfl
abbrev oE (c : Option Nat) (x : List Lx) (m : List (List Lp)) (fr md : List Idd) (i y : Int) (b : Int) (w : Bool) (th : List Idd) (pa : List Ps) : Env := [(0, xsl c x), (4, tGW m), (5, iow none fr), (6, iow none md), (7, it i), (8, it y), (9, bxL b w th pa)]
section
variable (c : Option Nat) (x : List Lx) (m : List (List Lp)) (fr md : List Idd) (i y : Int) (b : Int) (w : Bool) (th : List Idd) (pa : List Ps)
theorem of15 (k : Int) (n : Nat) (hn : n < fr.length) (hf : fr.length < 100000) : Tri Try.prog (cxN 184 0) (zqr Try.f9 15) (oE c x m fr md i y b w th pa ++ [(10, it k), (11, it n)]) .normal (oE c x m (fr.take n ++ fr.drop (n + 1)) md i y b w th pa ++ [(10, it k)]) := by
 have h := of15_0 c x m fr md i y b w th pa k n
 rw [up64 (k := n) (by omega)] at h
 simp only [Int.toNat_natCast, Nat.sub_zero, List.drop_zero] at h
 have e1 : List.map Idd.enc ([] : List Idd) ++ List.take n (List.map Idd.enc fr) = List.map Idd.enc ([] ++ List.take n fr) := by simp [List.map_take]
 have e2 : List.map Idd.enc ([] ++ List.take n fr) ++ List.take ((List.map Idd.enc fr).length - (n + 1)) (List.drop (n + 1) (List.map Idd.enc fr)) = List.map Idd.enc ([] ++ List.take n fr ++ List.take ((List.map Idd.enc fr).length - (n + 1)) (List.drop (n + 1) fr)) := by simp [List.map_take, List.map_drop]
 have t1 : List.take n (List.map Idd.enc fr) = List.map Idd.enc (List.take n fr) := (List.map_take ..).symm
 have t2 : List.take ((List.map Idd.enc fr).length - (n + 1)) (List.drop (n + 1) (List.map Idd.enc fr)) = List.map Idd.enc (List.take ((List.map Idd.enc fr).length - (n + 1)) (List.drop (n + 1) fr)) := by rw [← List.map_drop, ← List.map_take]
 have h' := h rfl (decide_eq_true (by omega)) (decide_eq_true ⟨Nat.zero_le _, by rw [List.length_map]; omega⟩) (decide_eq_true (by rw [List.length_map]; omega)) (decide_eq_true ⟨trivial, by rw [t1]; exact plain_tk _, by rw [t1]; exact len_tk _ _ rfl⟩) (decide_eq_true ⟨trivial, by rw [t1, List.length_map, List.length_map, List.length_take]; show 0 + _ ≤ _; omega, by decide⟩)
  (by rw [e1]) (decide_eq_true (by omega)) (decide_eq_true ⟨by rw [List.length_map]; omega, Nat.le_refl _⟩) (decide_eq_true (by rw [List.length_map]; omega)) (decide_eq_true ⟨trivial, by rw [t2]; exact plain_tk _, by rw [t2]; exact len_tk _ _ rfl⟩) (decide_eq_true ⟨trivial, by rw [t2, List.length_map, List.length_map, List.length_append, List.length_take, List.length_take, List.length_drop]; show 0 + _ + _ ≤ _; omega, by decide⟩) (by rw [e2])
 have e3 : ([] : List Idd) ++ List.take n fr ++ List.take ((List.map Idd.enc fr).length - (n + 1)) (List.drop (n + 1) fr) = fr.take n ++ fr.drop (n + 1) := by
  rw [List.nil_append, List.length_map, List.take_of_length_le (l := List.drop (n + 1) fr) (by rw [List.length_drop]; omega)]
 rw [e3] at h'
 exact .less h' (.cons ⟨rfl, rfl, Le.refl _⟩ (.cons ⟨rfl, rfl, Le.refl _⟩ (.cons ⟨rfl, rfl, Le.cap⟩ (.cons ⟨rfl, rfl, Le.refl _⟩ (.cons ⟨rfl, rfl, Le.refl _⟩ (.cons ⟨rfl, rfl, Le.refl _⟩ (.cons ⟨rfl, rfl, Le.refl _⟩ (.cons ⟨rfl, rfl, Le.refl _⟩ .nil))))))))
end
theorem of_l1 : zqc Try.f9 1 = .seq (.seq (zqr Try.f9 11) (.cond (.tmp 69) .skip (.exit 2))) (.seq (.block 3 (.seq (zqr Try.f9 13) (.seq (zqr Try.f9 14) (zqr Try.f9 15)))) (zqr Try.f9 12)) := by kernel_rfl
theorem of_l2 : zqc Try.f9 2 = .seq (.seq (zqr Try.f9 17) (.cond (.tmp 119) .skip (.exit 4))) (.seq (.block 5 (.seq (zqr Try.f9 19) (zqr Try.f9 20))) (zqr Try.f9 18)) := by kernel_rfl
def thF : List Int → List Idd → List Idd → List Idd × List Idd
 | [], fr, th => (fr, th)
 | p :: ps, fr, th => if fr.length = 0 then (fr, th) else thF ps (fr.take (p.toNat % fr.length) ++ fr.drop (p.toNat % fr.length + 1)) (th ++ [fr.getD (p.toNat % fr.length) default])
structure OkX (L : Lx) : Prop where
 y0 : 0 ≤ L.y
 y1 : L.y ≤ 255
 th : ∀ p ∈ L.th, 0 ≤ p ∧ p ≤ 255
 pa : ∀ p ∈ L.pa, 0 ≤ p ∧ p ≤ 255
 lt : L.th.length < 2 ^ 63
 lp : L.pa.length < 2 ^ 63
theorem getD_lx {x : List Lx} {i : Nat} (h : i < x.length) : (x.map Lx.enc).getD i .bad = Lx.enc (x.getD i default) := by simp [List.getD_eq_getElem?_getD, h]
theorem getD_ub {x : List Int} {i : Nat} (h : i < x.length) : (x.map ubE).getD i .bad = ubE (x.getD i default) := by simp [List.getD_eq_getElem?_getD, h]
theorem getD_mem {x : List Int} {i : Nat} (h : i < x.length) : x.getD i default ∈ x := by rw [List.getD_eq_getElem?_getD, List.getElem?_eq_getElem h]; exact List.getElem_mem h
theorem drop_take (l : List Int) (n k : Nat) (h : k < l.length) (hn : k < n) : (l.take n).drop k = l.getD k default :: (l.take n).drop (k + 1) := by
 have h2 : k < (l.take n).length := by rw [List.length_take]; omega
 have e : (l.take n)[k]'h2 = l.getD k default := by
  rw [List.getElem_take, List.getD_eq_getElem?_getD, List.getElem?_eq_getElem h]; rfl
 rw [List.drop_eq_getElem_cons h2, e]
theorem tmod_nat {p : Int} {n : Nat} (h0 : 0 ≤ p) (h1 : p ≤ 255) : Int.tmod (IntKind.wrap IntKind.i64 p) (n : Int) = ((p.toNat % n : Nat) : Int) := by
 rw [wrap_i (by omega) (by omega)]
 obtain ⟨a, rfl⟩ : ∃ a : Nat, p = a := ⟨p.toNat, by omega⟩
 rw [Int.toNat_natCast, Int.tmod_eq_emod_of_nonneg (by omega)]
 rfl
section
variable (c : Option Nat) (x : List Lx) (m : List (List Lp)) (md : List Idd) (i : Nat) (y : Int) (b : Int) (w : Bool) (pa : List Ps) (hi : i < x.length) (hx : x.length < 2 ^ 63) (hL : OkX (x.getD i default))
abbrev thE (m : List (List Lp)) (fr md : List Idd) (i y : Int) (b : Int) (w : Bool) (th : List Idd) (pa : List Ps) (k : Int) : Env := oE c x m fr md i y b w th pa ++ [(10, it k)]
include hi hx hL
theorem tL_end (fr th : List Idd) (k : Nat) (h : k < (x.getD i default).th.length → k < 4 → fr.length = 0) : Tri Try.prog (cxN 184 0) (zqc Try.f9 1) (thE c x m fr md i y b w th pa k) (.exit 2) (oE c x m fr md i y b w th pa) := by
 rw [of_l1]
 have go : Tri Try.prog (cxN 184 0) (zqr Try.f9 11) (thE c x m fr md i y b w th pa k) .normal (thE c x m fr md i y b w th pa k ++ [(69, bb false)]) := by
  by_cases h1 : k < (x.getD i default).th.length
  ·by_cases h2 : k < 4
   ·have := of11_0 c x m fr md i y b w th pa k (decide_eq_true (by rw [List.length_map]; omega)) (getD_lx hi) (decide_eq_true (by rw [List.length_map]; simp only [Int.toNat_natCast]; omega)) (decide_eq_true (by omega))
    rw [show decide ((0 : Int) < ((List.map Idd.enc fr).length : Nat)) = false by rw [decide_eq_false]; rw [List.length_map, h h1 h2]; decide] at this
    exact this
   ·exact of11_1 c x m fr md i y b w th pa k (decide_eq_true (by rw [List.length_map]; omega)) (getD_lx hi) (decide_eq_true (by rw [List.length_map]; simp only [Int.toNat_natCast]; omega)) (decide_eq_false (by omega))
  ·exact of11_2 c x m fr md i y b w th pa k (decide_eq_true (by rw [List.length_map]; omega)) (getD_lx hi) (decide_eq_false (by rw [List.length_map]; simp only [Int.toNat_natCast]; omega))
 exact .seqX (.seq go (.cond (b := false) rfl (.after (kp [0, 4, 5, 6, 7, 8, 9]) .exit))) (by simp)
theorem tL_step (fr th : List Idd) (k : Nat) (h1 : k < (x.getD i default).th.length) (h2 : k < 4) (h3 : 0 < fr.length) (hf : fr.length < 100000) (ht : th.length < 100000) : Tri Try.prog (cxN 184 0) (zqc Try.f9 1) (thE c x m fr md i y b w th pa k) .normal (thE c x m (fr.take (((x.getD i default).th.getD k default).toNat % fr.length) ++ fr.drop (((x.getD i default).th.getD k default).toNat % fr.length + 1)) md i y b w (th ++ [fr.getD (((x.getD i default).th.getD k default).toNat % fr.length) default]) pa ((k + 1 : Nat) : Int)) := by
 rw [of_l1]
 have h11 := of11_0 c x m fr md i y b w th pa k (decide_eq_true (by rw [List.length_map]; omega)) (getD_lx hi) (decide_eq_true (by rw [List.length_map]; simp only [Int.toNat_natCast]; omega)) (decide_eq_true (by omega))
 rw [show decide ((0 : Int) < ((List.map Idd.enc fr).length : Nat)) = true by rw [decide_eq_true]; rw [List.length_map]; omega] at h11
 obtain ⟨p0, p1⟩ := hL.th _ (getD_mem h1)
 obtain ⟨f0, fr', rfl⟩ : ∃ f0 fr', fr = f0 :: fr' := by
  cases fr with
  | nil => simp at h3
  | cons f0 fr' => exact ⟨f0, fr', rfl⟩
 have h13 := of13_0 c x m f0 fr' md i y b w th pa k (decide_eq_true (by rw [List.length_map]; omega)) (getD_lx hi) (decide_eq_true (by rw [List.length_map]; simp only [Int.toNat_natCast]; omega)) (getD_ub (by simp only [Int.toNat_natCast]; exact h1))
 simp only [Int.toNat_natCast] at h13
 rw [tmod_nat p0 p1, List.length_map] at h13
 generalize hn : ((x.getD i default).th.getD k default).toNat % (f0 :: fr').length = n at *
 have hnl : n < (f0 :: fr').length := by rw [← hn]; exact Nat.mod_lt _ h3
 have h14 := of14_0 c x m (f0 :: fr') md i y b w th pa k n (decide_eq_true (by rw [List.length_map]; omega)) (decide_eq_true (by rw [List.length_map]; simpa using hnl)) (getD_id (by simpa using hnl)) rfl (decide_eq_true (by rw [List.length_map, List.length_map]; show _ + 1 ≤ _; omega)) (by rw [← List.map_append])
 simp only [Int.toNat_natCast] at h14
 have h15 := of15 c x m (f0 :: fr') md i y b w (th ++ [(f0 :: fr').getD n default]) pa k n hnl hf
 have h12 := of12_0 c x m (List.take n (f0 :: fr') ++ List.drop (n + 1) (f0 :: fr')) md i y b w (th ++ [(f0 :: fr').getD n default]) pa k
 rw [up64 (by omega)] at h12
 exact .seq (.seq h11 (.cond (b := true) rfl (.after (kp [0, 4, 5, 6, 7, 8, 9, 10]) .skip))) (.seq (.block (ex := .normal) (.seq h13 (.seq h14 h15)) (.inr ⟨by simp, rfl⟩)) h12)
theorem tL_loop : ∀ (j k : Nat) (fr th : List Idd), k + j = min 4 (x.getD i default).th.length → fr.length < 100000 → th.length < 50000 + k → Rnd Try.prog (cxN 184 0) (zqc Try.f9 1) (j + 1) (thE c x m fr md i y b w th pa k) (.exit 2) (oE c x m (thF (((x.getD i default).th.take 4).drop k) fr th).1 md i y b w (thF (((x.getD i default).th.take 4).drop k) fr th).2 pa)
 | 0, k, fr, th, h, _, _ => by
  rw [List.drop_eq_nil_of_le (by rw [List.length_take]; omega)]
  exact .exit (tL_end c x m md i y b w pa hi hx hL fr th k (by omega)) (by simp)
 | j + 1, k, fr, th, h, hf, ht => by
  have h1 : k < (x.getD i default).th.length := by omega
  have hd := drop_take (x.getD i default).th 4 k h1 (by omega)
  rw [hd, thF]
  by_cases h3 : fr.length = 0
  ·rw [if_pos h3]
   exact .exit (tL_end c x m md i y b w pa hi hx hL fr th k (fun _ _ => h3)) (by simp)
  ·rw [if_neg h3]
   have hmod := Nat.mod_lt ((x.getD i default).th.getD k default).toNat (by omega : 0 < fr.length)
   exact .step (tL_step c x m md i y b w pa hi hx hL fr th k h1 (by omega) (by omega) hf (by omega)) (tL_loop j (k + 1) _ _ (by omega) (by rw [List.length_append, List.length_take, List.length_drop]; omega) (by rw [List.length_append]; show _ + 1 < _; omega))
end
def psOf (md : List Idd) (yy p : Int) : Ps := ⟨(md.getD (p.toNat / 2 % md.length) default).y, (md.getD (p.toNat / 2 % md.length) default).n, Int.tmod p 2 == 1, Int.tmod (IntKind.wrap IntKind.u8 (Int.tdiv yy 6)) 2⟩
theorem half_nat {p : Int} {n : Nat} (h0 : 0 ≤ p) (h1 : p ≤ 255) : Int.tmod (IntKind.wrap IntKind.i64 (IntKind.wrap IntKind.u8 (Int.tdiv p 2))) (n : Int) = ((p.toNat / 2 % n : Nat) : Int) := by
 obtain ⟨a, rfl⟩ : ∃ a : Nat, p = a := ⟨p.toNat, by omega⟩
 have e : Int.tdiv (a : Int) 2 = ((a / 2 : Nat) : Int) := by rw [Int.tdiv_eq_ediv_of_nonneg (by omega)]; rfl
 have e2 : IntKind.wrap IntKind.u8 ((a / 2 : Nat) : Int) = ((a / 2 : Nat) : Int) := wrap_u (by omega) (by omega)
 rw [e, e2, tmod_nat (by omega) (by omega), Int.toNat_natCast, Int.toNat_natCast]
section
variable (c : Option Nat) (x : List Lx) (m : List (List Lp)) (fr : List Idd) (i : Nat) (y : Int) (b : Int) (w : Bool) (th : List Idd) (hi : i < x.length) (hx : x.length < 2 ^ 63) (hL : OkX (x.getD i default))
abbrev paE (m : List (List Lp)) (fr md : List Idd) (i y : Int) (b : Int) (w : Bool) (th : List Idd) (pa : List Ps) (k : Int) : Env := oE c x m fr md i y b w th pa ++ [(12, it k)]
include hi hx hL
theorem pL_end (md : List Idd) (pa : List Ps) (k : Nat) (h : k < (x.getD i default).pa.length → k < 5 → md.length = 0) : Tri Try.prog (cxN 184 0) (zqc Try.f9 2) (paE c x m fr md i y b w th pa k) (.exit 4) (oE c x m fr md i y b w th pa) := by
 rw [of_l2]
 have go : Tri Try.prog (cxN 184 0) (zqr Try.f9 17) (paE c x m fr md i y b w th pa k) .normal (paE c x m fr md i y b w th pa k ++ [(119, bb false)]) := by
  by_cases h1 : k < (x.getD i default).pa.length
  ·by_cases h2 : k < 5
   ·have := of17_0 c x m fr md i y b w th pa k (decide_eq_true (by rw [List.length_map]; omega)) (getD_lx hi) (decide_eq_true (by rw [List.length_map]; simp only [Int.toNat_natCast]; omega)) (decide_eq_true (by omega))
    rw [show decide ((0 : Int) < ((List.map Idd.enc md).length : Nat)) = false by rw [decide_eq_false]; rw [List.length_map, h h1 h2]; decide] at this
    exact this
   ·exact of17_1 c x m fr md i y b w th pa k (decide_eq_true (by rw [List.length_map]; omega)) (getD_lx hi) (decide_eq_true (by rw [List.length_map]; simp only [Int.toNat_natCast]; omega)) (decide_eq_false (by omega))
  ·exact of17_2 c x m fr md i y b w th pa k (decide_eq_true (by rw [List.length_map]; omega)) (getD_lx hi) (decide_eq_false (by rw [List.length_map]; simp only [Int.toNat_natCast]; omega))
 exact .seqX (.seq go (.cond (b := false) rfl (.after (kp [0, 4, 5, 6, 7, 8, 9]) .exit))) (by simp)
theorem pL_step (md : List Idd) (pa : List Ps) (k : Nat) (h1 : k < (x.getD i default).pa.length) (h2 : k < 5) (h3 : 0 < md.length) (hf : md.length < 100000) (ht : pa.length < 100000) : Tri Try.prog (cxN 184 0) (zqc Try.f9 2) (paE c x m fr md i y b w th pa k) .normal (paE c x m fr md i y b w th (pa ++ [psOf md (x.getD i default).y ((x.getD i default).pa.getD k default)]) ((k + 1 : Nat) : Int)) := by
 rw [of_l2]
 have h17 := of17_0 c x m fr md i y b w th pa k (decide_eq_true (by rw [List.length_map]; omega)) (getD_lx hi) (decide_eq_true (by rw [List.length_map]; simp only [Int.toNat_natCast]; omega)) (decide_eq_true (by omega))
 rw [show decide ((0 : Int) < ((List.map Idd.enc md).length : Nat)) = true by rw [decide_eq_true]; rw [List.length_map]; omega] at h17
 obtain ⟨p0, p1⟩ := hL.pa _ (getD_mem h1)
 obtain ⟨f0, md', rfl⟩ : ∃ f0 md', md = f0 :: md' := by
  cases md with
  | nil => simp at h3
  | cons f0 md' => exact ⟨f0, md', rfl⟩
 have h19 := of19_0 c x m fr (f0 :: md') i y b w th pa k (decide_eq_true (by rw [List.length_map]; omega)) (getD_lx hi) (decide_eq_true (by rw [List.length_map]; simp only [Int.toNat_natCast]; omega)) (getD_ub (by simp only [Int.toNat_natCast]; exact h1))
 simp only [Int.toNat_natCast] at h19
 have h20 := of20_0 c x m f0 fr md' i y b w th pa k ((x.getD i default).pa.getD k default)
 rw [half_nat p0 p1] at h20
 simp only [Int.toNat_natCast, List.length_map] at h20
 have hnl : ((x.getD i default).pa.getD k default).toNat / 2 % (f0 :: md').length < (f0 :: md').length := Nat.mod_lt _ h3
 have h20' := h20 (decide_eq_true (by omega)) (decide_eq_true hnl) (getD_id hnl) (decide_eq_true (by omega)) (getD_lx hi) rfl (decide_eq_true (by show _ + 1 ≤ _; omega)) (by rw [← List.map_append])
 have h18 := of18_0 c x m fr (f0 :: md') i y b w th (pa ++ [psOf (f0 :: md') (x.getD i default).y ((x.getD i default).pa.getD k default)]) k
 rw [up64 (by omega)] at h18
 exact .seq (.seq h17 (.cond (b := true) rfl (.after (kp [0, 4, 5, 6, 7, 8, 9, 12]) .skip))) (.seq (.block (ex := .normal) (.seq h19 h20') (.inr ⟨by simp, rfl⟩)) h18)
theorem pL_loop (md : List Idd) (hf : md.length < 100000) : ∀ (j k : Nat) (pa : List Ps), k + j = min 5 (x.getD i default).pa.length → pa.length < 50000 + k → Rnd Try.prog (cxN 184 0) (zqc Try.f9 2) (j + 1) (paE c x m fr md i y b w th pa k) (.exit 4) (oE c x m fr md i y b w th (if md.length = 0 then pa else pa ++ (((x.getD i default).pa.take 5).drop k).map (psOf md (x.getD i default).y)))
 | 0, k, pa, h, _ => by
  rw [List.drop_eq_nil_of_le (by rw [List.length_take]; omega), List.map_nil, List.append_nil, ite_self]
  exact .exit (pL_end c x m fr i y b w th hi hx hL md pa k (by omega)) (by simp)
 | j + 1, k, pa, h, ht => by
  have h1 : k < (x.getD i default).pa.length := by omega
  by_cases h3 : md.length = 0
  ·rw [if_pos h3]
   exact .exit (pL_end c x m fr i y b w th hi hx hL md pa k (fun _ _ => h3)) (by simp)
  ·have ih := pL_loop md hf j (k + 1) (pa ++ [psOf md (x.getD i default).y ((x.getD i default).pa.getD k default)]) (by omega) (by rw [List.length_append]; show _ + 1 < _; omega)
   rw [if_neg h3] at ih ⊢
   rw [drop_take (x.getD i default).pa 5 k h1 (by omega), List.map_cons]
   rw [List.append_assoc] at ih
   exact .step (pL_step c x m fr i y b w th hi hx hL md pa k h1 (by omega) (by omega) hf (by omega)) ih
end
structure OfS where
 m : List (List Lp)
 fr : List Idd
 md : List Idd
def ofL (S : OfS) (L : Lx) : Lp := ⟨if L.b then 1 else 0, L.w || (S.m.getD (L.y.toNat % 6) default).length == 0, none, (thF (L.th.take 4) S.fr []).2, none, if S.md.length = 0 then [] else (L.pa.take 5).map (psOf S.md L.y)⟩
def ofI (S : OfS) (L : Lx) : Idd := ⟨((L.y.toNat % 6 + 1 : Nat) : Int), ((S.m.getD (L.y.toNat % 6) default).length : Nat)⟩
def ofStep (S : OfS) (L : Lx) : OfS := ⟨S.m.set (L.y.toNat % 6) (S.m.getD (L.y.toNat % 6) default ++ [ofL S L]), (thF (L.th.take 4) S.fr []).1 ++ [ofI S L], S.md ++ [ofI S L]⟩
theorem thF_len : ∀ (ps : List Int) (fr th : List Idd), (thF ps fr th).1.length ≤ fr.length
 | [], fr, th => Nat.le_refl _
 | p :: ps, fr, th => by
  rw [thF]
  split
  ·exact Nat.le_refl _
  ·refine Nat.le_trans (thF_len ps _ _) ?_
   rw [List.length_append, List.length_take, List.length_drop]; omega
structure OfOk (S : OfS) (i : Nat) : Prop where
 m6 : S.m.length = 6
 row : ∀ r ∈ S.m, r.length ≤ i
 fr : S.fr.length ≤ i
 md : S.md.length ≤ i
theorem OfOk.get {S : OfS} {i : Nat} (h : OfOk S i) (y : Nat) (hy : y < 6) : (S.m.getD y default).length ≤ i := by
 refine h.row _ ?_
 rw [List.getD_eq_getElem?_getD, List.getElem?_eq_getElem (by rw [h.m6]; exact hy)]; exact List.getElem_mem _
theorem OfOk.step {S : OfS} {i : Nat} (h : OfOk S i) (L : Lx) : OfOk (ofStep S L) (i + 1) := by
 have hy : L.y.toNat % 6 < 6 := Nat.mod_lt _ (by omega)
 refine ⟨by show (List.set _ _ _).length = 6; rw [List.length_set]; exact h.m6, ?_, ?_, ?_⟩
 ·intro r hr
  rcases List.mem_or_eq_of_mem_set hr with hr | rfl
  ·have := h.row r hr; omega
  ·rw [List.length_append]; have := h.get _ hy; show _ + 1 ≤ _; omega
 ·show (_ ++ [_]).length ≤ _
  rw [List.length_append]; have := thF_len (L.th.take 4) S.fr []; have := h.fr; show _ + 1 ≤ _; omega
 ·show (_ ++ [_]).length ≤ _
  rw [List.length_append]; have := h.md; show _ + 1 ≤ _; omega
theorem of_l0 : zqc Try.f9 0 = (.seq (.seq (zqr Try.f9 4) (.cond (.tmp 23) .skip (.exit 0))) (.seq (.block 1 (.seq (zqr Try.f9 6) (.seq (zqr Try.f9 7) (.seq (.seq (zqr Try.f9 8) (.cond (.tmp 51) (zqr Try.f9 9) .skip)) (.seq (.seq (zqr Try.f9 10) (.block 2 (.loop (zqc Try.f9 1)))) (.seq (.seq (zqr Try.f9 16) (.block 4 (.loop (zqc Try.f9 2)))) (.seq (zqr Try.f9 21) (.seq (.region 22 (zql Try.f9 22) true) (.seq (zqr Try.f9 23) (zqr Try.f9 24)))))))))) (zqr Try.f9 5))) := by kernel_rfl
theorem le_bx (b : Int) (w : Bool) : Le Try.prog (.box [ub b, bb w, zqw, zqw]) (bxL b w [] []) := Le.box (.cons (Le.refl _) (.cons (Le.refl _) (.cons (Le.trans (Le.nilOwn 36) Le.cap) (.cons (Le.trans (Le.nilOwn 56) Le.cap) .nil))))
section
variable (c : Option Nat) (x : List Lx) (hx : x.length < 2 ^ 63)
abbrev uE (S : OfS) (i : Int) : Env := [(0, xsl c x), (4, tGW S.m), (5, iow none S.fr), (6, iow none S.md), (7, it i)]
include hx
theorem uO_end (S : OfS) (i : Nat) (h : i < x.length → 60 ≤ i) : Tri Try.prog (cxN 184 0) (zqc Try.f9 0) (uE c x S i) (.exit 0) [(4, tGW S.m), (6, iow none S.md)] := by
 rw [of_l0]
 have go : Tri Try.prog (cxN 184 0) (zqr Try.f9 4) (uE c x S i) .normal (uE c x S i ++ [(23, bb false)]) := by
  by_cases h1 : i < x.length
  ·have := of4_0 c x S.m S.fr S.md i (decide_eq_true (by rw [List.length_map]; omega))
   rw [show decide ((i : Int) < 60) = false by rw [decide_eq_false]; have := h h1; omega] at this
   exact this
  ·exact of4_1 c x S.m S.fr S.md i (decide_eq_false (by rw [List.length_map]; omega))
 exact .seqX (.seq go (.cond (b := false) rfl (.after (kp [4, 6]) .exit))) (by simp)
theorem uO_step (S : OfS) (i : Nat) (h1 : i < x.length) (h2 : i < 60) (hS : OfOk S i) (hL : OkX (x.getD i default)) : Tri Try.prog (cxN 184 0) (zqc Try.f9 0) (uE c x S i) .normal (uE c x (ofStep S (x.getD i default)) ((i + 1 : Nat) : Int)) := by
 rw [of_l0]
 have hb : decide ((0 : Int) ≤ (i : Int) ∧ (i : Int) < ((List.map Lx.enc x).length : Nat)) = true := decide_eq_true (by rw [List.length_map]; omega)
 have h4 := of4_0 c x S.m S.fr S.md i (decide_eq_true (by rw [List.length_map]; omega))
 rw [show decide ((i : Int) < 60) = true by rw [decide_eq_true]; omega] at h4
 have h6 := of6_0 c x S.m S.fr S.md i hb (getD_lx h1)
 generalize hLe : x.getD i default = L at *
 simp only [Int.toNat_natCast, hLe] at h6
 have hyw : IntKind.wrap IntKind.i64 (Int.tmod L.y 6) = ((L.y.toNat % 6 : Nat) : Int) := by
  have := tmod_nat (p := L.y) (n := 6) hL.y0 hL.y1
  rw [wrap_i (n := L.y) (by have := hL.y0; omega) (by have := hL.y1; omega)] at this
  show IntKind.wrap IntKind.i64 (Int.tmod L.y ((6 : Nat) : Int)) = _
  rw [this]; exact wrap_i (by omega) (by omega)
 rw [hyw] at h6
 have hy : L.y.toNat % 6 < 6 := Nat.mod_lt _ (by omega)
 generalize hyy : L.y.toNat % 6 = y at *
 have hym : y < S.m.length := by rw [hS.m6]; exact hy
 have hrow := hS.get y hy
 have hgo : List.getD (List.map gOW S.m) y AV.bad = gOW (S.m.getD y default) := by simp [List.getD_eq_getElem?_getD, hym]
 have hw : (L.w || (S.m.getD y default).length == 0) = (ofL S L).w := by unfold ofL; rw [hyy]
 have h7 : Tri Try.prog (cxN 184 0) (zqr Try.f9 7) (uE c x S i ++ [(8, it y)]) .normal (oE c x S.m S.fr S.md i y 0 (ofL S L).w [] []) := by
  rw [← hw]
  cases hLw : L.w with
  | true =>
   have h := of7_0 c x S.m S.fr S.md i y hb (getD_lx h1) (by simp only [Int.toNat_natCast, hLe]; exact hLw)
   exact .less h (.cons ⟨rfl, rfl, Le.refl _⟩ (.cons ⟨rfl, rfl, Le.refl _⟩ (.cons ⟨rfl, rfl, Le.refl _⟩ (.cons ⟨rfl, rfl, Le.refl _⟩ (.cons ⟨rfl, rfl, Le.refl _⟩ (.cons ⟨rfl, rfl, Le.refl _⟩ (.cons ⟨rfl, rfl, le_bx 0 true⟩ .nil)))))))
  | false =>
   have h := of7_1 c x S.m S.fr S.md i y hb (getD_lx h1) (by simp only [Int.toNat_natCast, hLe]; exact hLw) (decide_eq_true (by rw [List.length_map]; omega)) (decide_eq_true (by rw [List.length_map]; simpa using hym)) (by simp only [Int.toNat_natCast]; exact hgo)
   simp only [Int.toNat_natCast, List.length_map] at h
   have e : ((((S.m.getD y default).length : Nat) : Int) == 0) = (false || (S.m.getD y default).length == 0) := by
    rw [Bool.false_or, Bool.eq_iff_iff]; simp
   rw [e] at h
   exact .less h (.cons ⟨rfl, rfl, Le.refl _⟩ (.cons ⟨rfl, rfl, Le.refl _⟩ (.cons ⟨rfl, rfl, Le.refl _⟩ (.cons ⟨rfl, rfl, Le.refl _⟩ (.cons ⟨rfl, rfl, Le.refl _⟩ (.cons ⟨rfl, rfl, Le.refl _⟩ (.cons ⟨rfl, rfl, le_bx 0 _⟩ .nil)))))))
 have h8 := of8_0 c x S.m S.fr S.md i y 0 (ofL S L).w [] [] hb (getD_lx h1)
 simp only [Int.toNat_natCast, hLe] at h8
 have h89 : Tri Try.prog (cxN 184 0) (.seq (zqr Try.f9 8) (.cond (.tmp 51) (zqr Try.f9 9) .skip)) (oE c x S.m S.fr S.md i y 0 (ofL S L).w [] []) .normal (oE c x S.m S.fr S.md i y (ofL S L).b (ofL S L).w [] []) := by
  have eb : (ofL S L).b = if L.b then 1 else 0 := rfl
  rw [eb]
  cases hb : L.b with
  | true => exact .seq (.after (kp [0, 4, 5, 6, 7, 8, 9, 51]) h8) (.cond (b := true) (by show some (bb L.b) = _; rw [hb]) (.weak (kp [0, 4, 5, 6, 7, 8, 9]) (of9_0 c x S.m S.fr S.md i y 0 (ofL S L).w [] [])))
  | false => exact .seq (.after (kp [0, 4, 5, 6, 7, 8, 9, 51]) h8) (.cond (b := false) (by show some (bb L.b) = _; rw [hb]) (.after (kp [0, 4, 5, 6, 7, 8, 9]) .skip))
 have hLx : OkX (x.getD i default) := by rw [hLe]; exact hL
 have hfr := hS.fr
 have hmd := hS.md
 have hT := (tL_loop c x S.m S.md i y (ofL S L).b (ofL S L).w [] h1 hx hLx (min 4 L.th.length) 0 S.fr [] (by rw [hLe]; omega) (by omega) (by decide)).loop
 simp only [hLe, List.drop_zero] at hT
 have hth : (thF (L.th.take 4) S.fr []).2 = (ofL S L).th := rfl
 rw [hth] at hT
 have hT2 : Tri Try.prog (cxN 184 0) (.seq (zqr Try.f9 10) (.block 2 (.loop (zqc Try.f9 1)))) (oE c x S.m S.fr S.md i y (ofL S L).b (ofL S L).w [] []) .normal (oE c x S.m (thF (L.th.take 4) S.fr []).1 S.md i y (ofL S L).b (ofL S L).w (ofL S L).th []) :=
  .seq (of10_0 c x S.m S.fr S.md i y (ofL S L).b (ofL S L).w [] []) (.block (ex := .exit 2) hT (.inl ⟨rfl, rfl⟩))
 have hP := (pL_loop c x S.m (thF (L.th.take 4) S.fr []).1 i y (ofL S L).b (ofL S L).w (ofL S L).th h1 hx hLx S.md (by omega) (min 5 L.pa.length) 0 [] (by rw [hLe]; omega) (by decide)).loop
 simp only [hLe, List.drop_zero, List.nil_append] at hP
 have hpa : (if S.md.length = 0 then [] else (L.pa.take 5).map (psOf S.md L.y)) = (ofL S L).pa := rfl
 rw [hpa] at hP
 have hP2 : Tri Try.prog (cxN 184 0) (.seq (zqr Try.f9 16) (.block 4 (.loop (zqc Try.f9 2)))) (oE c x S.m (thF (L.th.take 4) S.fr []).1 S.md i y (ofL S L).b (ofL S L).w (ofL S L).th []) .normal (oE c x S.m (thF (L.th.take 4) S.fr []).1 S.md i y (ofL S L).b (ofL S L).w (ofL S L).th (ofL S L).pa) :=
  .seq (of16_0 c x S.m (thF (L.th.take 4) S.fr []).1 S.md i y (ofL S L).b (ofL S L).w (ofL S L).th []) (.block (ex := .exit 4) hP (.inl ⟨rfl, rfl⟩))
 have hfl := thF_len (L.th.take 4) S.fr []
 generalize hfe : (thF (L.th.take 4) S.fr []).1 = fr at *
 have h21 := of21_0 c x S.m fr S.md i y (ofL S L).b (ofL S L).w (ofL S L).th (ofL S L).pa (decide_eq_true (by rw [List.length_map]; omega)) (decide_eq_true (by rw [List.length_map]; simpa using hym)) (by simp only [Int.toNat_natCast]; exact hgo)
 simp only [Int.toNat_natCast, List.length_map] at h21
 rw [up64 (by omega), wrap_u (by omega) (by omega)] at h21
 have h22 := of22 c x S.m fr S.md i y (ofL S L).b (ofL S L).w (ofL S L).th (ofL S L).pa ((y + 1 : Nat) : Int) ((S.m.getD y default).length : Nat) hym (by omega) (ofL S L) ⟨rfl, rfl, rfl, rfl⟩
 have h23 := of23_0 c x (S.m.set y (S.m.getD y default ++ [ofL S L])) fr S.md i ((y + 1 : Nat) : Int) ((S.m.getD y default).length : Nat) rfl (decide_eq_true (by rw [List.length_map, List.length_map]; show _ + 1 ≤ _; omega)) (by rw [← List.map_append])
 have h24 := of24_0 c x (S.m.set y (S.m.getD y default ++ [ofL S L])) (fr ++ [⟨((y + 1 : Nat) : Int), ((S.m.getD y default).length : Nat)⟩]) S.md i ((y + 1 : Nat) : Int) ((S.m.getD y default).length : Nat) rfl (decide_eq_true (by rw [List.length_map, List.length_map]; show _ + 1 ≤ _; omega)) (by rw [← List.map_append])
 have hi1 : ofI S L = ⟨((y + 1 : Nat) : Int), ((S.m.getD y default).length : Nat)⟩ := by unfold ofI; rw [hyy]
 have h5 := of5_0 c x (S.m.set y (S.m.getD y default ++ [ofL S L])) (fr ++ [⟨((y + 1 : Nat) : Int), ((S.m.getD y default).length : Nat)⟩]) (S.md ++ [⟨((y + 1 : Nat) : Int), ((S.m.getD y default).length : Nat)⟩]) i
 rw [up64 (by omega)] at h5
 have hst : ofStep S L = ⟨S.m.set y (S.m.getD y default ++ [ofL S L]), fr ++ [⟨((y + 1 : Nat) : Int), ((S.m.getD y default).length : Nat)⟩], S.md ++ [⟨((y + 1 : Nat) : Int), ((S.m.getD y default).length : Nat)⟩]⟩ := by
  unfold ofStep
  rw [hi1, hyy, hfe]
 rw [hst]
 refine .seq (.seq h4 (.cond (b := true) rfl (.after (kp [0, 4, 5, 6, 7]) .skip))) (.seq (.block (ex := .normal) (.seq h6 (.seq h7 (.seq h89 (.seq hT2 (.seq hP2 (.seq h21 (.seq ?_ (.seq h23 h24)))))))) (.inr ⟨by simp, rfl⟩)) h5)
 exact .weak (kp [4, 9, 0, 5, 6, 7, 8, 14]) (.after (kp [0, 4, 5, 6, 7, 14]) h22)
end
def S0 : OfS := ⟨List.replicate 6 [], [], []⟩
theorem ofOk0 : OfOk S0 0 := ⟨rfl, fun r hr => by rw [(List.mem_replicate.1 hr).2]; exact Nat.le_refl _, Nat.le_refl _, Nat.le_refl _⟩
def ofS (x : List Lx) : OfS := (x.take 60).foldl ofStep S0
theorem of_body : Try.f9.body = some (.seq (zqr Try.f9 0) (.seq (zqr Try.f9 1) (.seq (zqr Try.f9 2) (.seq (.seq (zqr Try.f9 3) (.block 0 (.loop (zqc Try.f9 0)))) (.seq (zqr Try.f9 25) .ret))))) := by kernel_rfl
theorem drop_take' (l : List Lx) (n k : Nat) (h : k < l.length) (hn : k < n) : (l.take n).drop k = l.getD k default :: (l.take n).drop (k + 1) := by
 have h2 : k < (l.take n).length := by rw [List.length_take]; omega
 have e : (l.take n)[k]'h2 = l.getD k default := by
  rw [List.getElem_take, List.getD_eq_getElem?_getD, List.getElem?_eq_getElem h]; rfl
 rw [List.drop_eq_getElem_cons h2, e]
section
variable (c : Option Nat) (x : List Lx) (hx : x.length < 2 ^ 63) (hX : ∀ L ∈ x, OkX L)
include hx hX
theorem uO_loop : ∀ (j i : Nat) (S : OfS), i + j = min 60 x.length → OfOk S i → Rnd Try.prog (cxN 184 0) (zqc Try.f9 0) (j + 1) (uE c x S i) (.exit 0) [(4, tGW (((x.take 60).drop i).foldl ofStep S).m), (6, iow none (((x.take 60).drop i).foldl ofStep S).md)]
 | 0, i, S, h, _ => by
  rw [List.drop_eq_nil_of_le (by rw [List.length_take]; omega)]
  exact .exit (uO_end c x hx S i (by omega)) (by simp)
 | j + 1, i, S, h, hS => by
  have h1 : i < x.length := by omega
  rw [drop_take' x 60 i h1 (by omega), List.foldl_cons]
  have hL : OkX (x.getD i default) := hX _ (by rw [List.getD_eq_getElem?_getD, List.getElem?_eq_getElem h1]; exact List.getElem_mem h1)
  exact .step (uO_step c x hx S i h1 (by omega) hS hL) (uO_loop j (i + 1) _ (by omega) (hS.step _))
theorem of_c : PureC Try.prog 9 [xsl c x] (.tup [tGW (ofS x).m, iow none (ofS x).md]) := by
 have hl := (uO_loop c x hx hX (min 60 x.length) 0 S0 (by omega) ofOk0).loop
 rw [List.drop_zero] at hl
 refine pureT ((base 184 0).ok zqb.1 zqb.2) Try.func9 rfl (by show 1 ≤ 184; omega) rfl of_body rfl (ex := .ret) (env' := [(2, .al 4 [] none), (3, .al 6 [] none), (4, tGW (ofS x).m), (6, iow none (ofS x).md)]) ?_ (by kernel_rfl)
 refine .seq (.after (kp [0]) (of0_0 c x)) (.seq (env1 := [(0, xsl c x), (4, tGW S0.m)]) (.less (.after (kp [0, 4]) (of1_0 c x)) (.cons ⟨rfl, rfl, Le.refl _⟩ (.cons ⟨rfl, rfl, ?_⟩ .nil))) (.seq (env1 := [(0, xsl c x), (4, tGW S0.m), (5, iow none []), (6, iow none [])]) (.less (.after (kp [0, 4, 5, 6]) (of2_0 c x S0.m)) (.cons ⟨rfl, rfl, Le.refl _⟩ (.cons ⟨rfl, rfl, Le.refl _⟩ (.cons ⟨rfl, rfl, Le.trans (Le.nilOwn 36) Le.cap⟩ (.cons ⟨rfl, rfl, Le.trans (Le.nilOwn 36) Le.cap⟩ .nil))))) (.seq (.seq (.after (kp [0, 4, 5, 6, 7]) (of3_0 c x S0.m [] [])) (.block (ex := .exit 0) hl (.inl ⟨rfl, rfl⟩))) (.seq (.after (kp [2, 3, 4, 6]) (of25_0 (ofS x).m (ofS x).md)) .ret))))
 refine Le.trans Le.cap ?_
 show Le Try.prog (.sl .own 37 none (List.replicate 6 zqw)) (.sl .own 37 none ((List.replicate 6 []).map gOW))
 rw [List.map_replicate]
 exact Le.ownRep rfl rfl (Le.trans (Le.nilOwn 45) Le.cap) _
end
structure MakeOk (t : List Rw) (o : List Idd) : Prop where
 sub : ∀ k p, o[k]? = some p → hasV t p.y p.n = true ∧ (∀ n', 0 ≤ n' → n' < p.n → (⟨p.y, n'⟩ : Idd) ∈ o.take k) ∧ ∀ q ∈ zqz (atV t p.y p.n), q ∈ o.take k
 all : ∀ y n, hasV t y n = true → (⟨y, n⟩ : Idd) ∈ o
theorem leastF_none {m : List Int} {t : List Rw} : ∀ (k j : Nat), leastF m t k j = none → ∀ i, j ≤ i → i < j + k → candV m t i = false
 | 0, j, _, i, h1, h2 => by omega
 | k + 1, j, h, i, h1, h2 => by
  rw [leastF] at h
  by_cases hc : candV m t j = true
  ·rw [if_pos hc] at h; cases h
  ·rw [if_neg hc] at h
   by_cases e : i = j
   ·subst e; simpa using hc
   ·exact leastF_none k (j + 1) h i (by omega) (by omega)
theorem stuck_all {t : List Rw} {o : List Idd} {m : List Int} (hO : MakeOk t o) (hM : OkM m t) (hl : t.length ≤ 6) (h : leastV m t = none) : ∀ k p, p ∈ o.take k → p.n < gtM m p
 | 0, p, hp => by simp at hp
 | k + 1, p, hp => by
  have ih := stuck_all hO hM hl h k
  rw [List.take_add_one, List.mem_append] at hp
  rcases hp with hp | hp
  ·exact ih p hp
  ·cases hk : o[k]? with
   | none => rw [hk] at hp; simp at hp
   | some p' =>
    rw [hk] at hp
    have : p = p' := by simpa using hp
    subst this
    obtain ⟨h1, h2, h3⟩ := hO.sub k p hk
    obtain ⟨a, b, c, d⟩ := has_iff h1
    refine Classical.byContradiction fun hne => ?_
    have hi : (p.y - 1).toNat < t.length := by omega
    have hm0 := hM.le (p.y - 1).toNat hi
    have hg : gtM m p = m.getD (p.y - 1).toNat default := rfl
    have hn : p.n = gtM m p := by
     rcases Int.lt_or_le (gtM m p) p.n with hlt | hge
     ·have := ih ⟨p.y, gtM m p⟩ (h2 (gtM m p) (by rw [hg]; exact hm0.1) hlt)
      have e : gtM m ⟨p.y, gtM m p⟩ = gtM m p := rfl
      rw [e] at this
      exact absurd this (by show ¬ gtM m p < gtM m p; omega)
     ·omega
    have hc := leastF_none t.length 0 h (p.y - 1).toNat (by omega) (by omega)
    have : candV m t (p.y - 1).toNat = true := by
     unfold candV
     rw [Bool.and_eq_true]
     constructor
     ·rw [← hg, ← hn]
      have : p.n ≠ (((t.getD (p.y - 1).toNat default).l.length : Nat) : Int) := by omega
      simpa using this
     ·rw [← hg, ← hn]
      unfold readyV
      rw [List.all_eq_true]
      intro q hq
      exact decide_eq_true (ih q (h3 q hq))
    rw [this] at hc; cases hc
theorem sum_zero {f : Nat → Nat} : ∀ n, (∀ j, j < n → f j = 0) → ((List.range n).map f).sum = 0
 | 0, _ => rfl
 | n + 1, h => by rw [List.range_succ, List.map_append, List.sum_append, sum_zero n fun j hj => h j (by omega)]; simp [h n (by omega)]
theorem stuck_rem {t : List Rw} {o : List Idd} {m : List Int} (hO : MakeOk t o) (hM : OkM m t) (hl : t.length ≤ 6) (h : leastV m t = none) : remV m t = 0 := by
 refine sum_zero t.length fun i hi => ?_
 have hm0 := hM.le i hi
 rcases Nat.eq_zero_or_pos ((t.getD i default).l.length - (m.getD i default).toNat) with h0 | h0
 ·exact h0
 ·exfalso
  have hh : hasV t ((i + 1 : Nat) : Int) (m.getD i default) = true := by
   unfold hasV
   have e : (((i + 1 : Nat) : Int) - 1).toNat = i := by omega
   rw [e]
   simp only [Bool.and_eq_true, decide_eq_true_eq]
   omega
  have hin := hO.all _ _ hh
  have := stuck_all hO hM hl h o.length _ (by rw [List.take_length]; exact hin)
  have e : gtM m ⟨((i + 1 : Nat) : Int), m.getD i default⟩ = m.getD i default := by
   show m.getD (((i + 1 : Nat) : Int) - 1).toNat default = _
   rw [show (((i + 1 : Nat) : Int) - 1).toNat = i by omega]
  rw [e] at this
  exact absurd this (by show ¬ m.getD i default < m.getD i default; omega)
theorem first_full {t : List Rw} (hL : OkL t) (hs : ∀ m, OkM m t → leastV m t = none → remV m t = 0) : ∀ (f : Nat) (m : List Int), OkM m t → remV m t < f → (firstF t f m).length = remV m t
 | 0, m, _, h => by omega
 | f + 1, m, hM, h => by
  rw [firstF]
  cases hl : leastV m t with
  | none => rw [hs m hM hl]; rfl
  | some i =>
   have hr := rem_bump hL hM hl
   rw [List.length_cons, first_full hL hs f (bump m i) (hM.bump hL hl) (by omega), hr]
theorem first_len {t : List Rw} {o : List Idd} (hL : OkL t) (hO : MakeOk t o) : (firstV t).length = cntV t := by
 unfold firstV
 rw [first_full hL (fun m hM h => stuck_rem hO hM hL.len h) _ _ (okM0 t) (by rw [rem0]; omega), rem0]
def tb (m : List (List Lp)) : List Rw := m.map fun l => ⟨none, l⟩
theorem tb_len (m : List (List Lp)) : (tb m).length = m.length := by simp [tb]
theorem tb_get (m : List (List Lp)) (i : Nat) : ((tb m).getD i default).l = m.getD i default := by
 unfold tb
 simp only [List.getD_eq_getElem?_getD, List.getElem?_map]
 cases m[i]? <;> rfl
theorem has_tb (m : List (List Lp)) (y n : Int) : hasV (tb m) y n = true ↔ 1 ≤ y ∧ y ≤ m.length ∧ 0 ≤ n ∧ n < (m.getD (y - 1).toNat default).length := by
 unfold hasV
 rw [tb_get, tb_len]
 simp [Bool.and_eq_true, and_assoc]
theorem at_tb (m : List (List Lp)) (y n : Int) : atV (tb m) y n = (m.getD (y - 1).toNat default).getD n.toNat default := by
 unfold atV; rw [tb_get]
structure FineL (L : Lp) : Prop where
 b : L.b = 0 ∨ L.b = 1
 th : L.th.length ≤ 4
 pa : L.pa.length ≤ 5
 d : ∃ d : Int, (d = 0 ∨ d = 1) ∧ ∀ p ∈ L.pa, p.d = d
 ct : L.ct = none
 cp : L.cp = none
theorem FineL.pend {L : Lp} (h : FineL L) : pendV L.pa = true := by
 obtain ⟨d, hd, hp⟩ := h.d
 have hn : nf L.pa = L.pa := by
  refine nf_id (irr_of L.pa.length L.pa rfl fun i hi => ?_)
  have h1 : L.pa.getD i default ∈ L.pa := by rw [List.getD_eq_getElem?_getD, List.getElem?_eq_getElem (by omega)]; exact List.getElem_mem _
  have h2 : L.pa.getD (i + 1) default ∈ L.pa := by rw [List.getD_eq_getElem?_getD, List.getElem?_eq_getElem hi]; exact List.getElem_mem _
  rw [Bool.eq_false_iff]
  intro hc
  have := (can_iff.1 hc).1
  have e := congrArg Ps.d this
  rw [hp _ h2] at e
  have e2 := hp _ h1
  generalize L.pa.getD i default = p at e e2
  have e3 : (if p.d == 1 then (0 : Int) else 1) = d := e
  rw [e2] at e3
  rcases hd with rfl | rfl <;> simp at e3
 unfold pendV
 rw [hn]
 simp only [decide_true, Bool.and_true, Bool.and_eq_true, decide_eq_true_eq]
 refine ⟨by have := h.pa; omega, ?_⟩
 rw [List.all_eq_true]
 intro p hpp
 have := hp p hpp
 unfold dirB
 rcases hd with rfl | rfl <;> simp [this]
def thM (m : List (List Lp)) : List Idd := m.flatMap fun r => r.flatMap Lp.th
structure ValidS (S : OfS) : Prop where
 m6 : S.m.length = 6
 ok : MakeOk (tb S.m) S.md
 fr : ∀ p ∈ S.fr, p ∈ S.md
 nd : (S.fr ++ thM S.m).Nodup
 fine : ∀ r ∈ S.m, ∀ L ∈ r, FineL L
 nw : ∀ i, i < 6 → S.m.getD i default ≠ [] → ((S.m.getD i default).getD 0 default).w = true
 mdn : S.md.Nodup
theorem thF_perm : ∀ (ps : List Int) (fr th : List Idd), ((thF ps fr th).1 ++ (thF ps fr th).2).Perm (fr ++ th)
 | [], fr, th => List.Perm.refl _
 | p :: ps, fr, th => by
  rw [thF]
  split
  ·exact List.Perm.refl _
  ·rename_i h
   refine (thF_perm ps _ _).trans ?_
   have hn := Nat.mod_lt p.toNat (by omega : 0 < fr.length)
   generalize p.toNat % fr.length = n at hn
   have e : fr = fr.take n ++ fr.getD n default :: fr.drop (n + 1) := by
    conv => lhs; rw [← List.take_append_drop n fr]
    congr 1
    rw [List.drop_eq_getElem_cons hn, List.getD_eq_getElem?_getD, List.getElem?_eq_getElem hn]; rfl
   generalize fr.getD n default = q at *
   conv => rhs; rw [e]
   have h1 : (fr.take n ++ fr.drop (n + 1) ++ (th ++ [q])).Perm (q :: (fr.take n ++ fr.drop (n + 1) ++ th)) := by
    rw [← List.append_assoc]
    exact List.perm_append_singleton _ _
   refine h1.trans ?_
   have h2 : (fr.take n ++ q :: fr.drop (n + 1) ++ th).Perm (q :: (fr.take n ++ fr.drop (n + 1) ++ th)) := by
    have := (List.perm_middle (a := q) (l₁ := fr.take n) (l₂ := fr.drop (n + 1))).append_right th
    simp
   exact h2.symm
theorem thF_len2 : ∀ (ps : List Int) (fr th : List Idd), (thF ps fr th).2.length ≤ th.length + ps.length
 | [], fr, th => by simp [thF]
 | p :: ps, fr, th => by
  rw [thF]
  split
  ·simp
  ·have := thF_len2 ps (fr.take (p.toNat % fr.length) ++ fr.drop (p.toNat % fr.length + 1)) (th ++ [fr.getD (p.toNat % fr.length) default])
   rw [List.length_append] at this
   have e : [fr.getD (p.toNat % fr.length) default].length = 1 := rfl
   rw [List.length_cons]; omega
section
variable {S : OfS} {L : Lx} (hS : ValidS S) (hL : OkX L)
include hS
theorem ValidS.get (l : List Lp) (y0 : Nat) (hy : y0 < 6) (j : Nat) : (S.m.set y0 l).getD j default = if j = y0 then l else S.m.getD j default := by
 rw [List.getD_eq_getElem?_getD, List.getElem?_set]
 have := hS.m6
 by_cases h : y0 = j
 ·subst h; rw [if_pos rfl, if_pos rfl, if_pos (by omega)]; rfl
 ·rw [if_neg h, if_neg (Ne.symm h), List.getD_eq_getElem?_getD]
theorem ValidS.has_old {p : Idd} (h : p ∈ S.md) : hasV (tb S.m) p.y p.n = true := by
 obtain ⟨k, hk, e⟩ := List.mem_iff_getElem.1 h
 exact (hS.ok.sub k p (by rw [List.getElem?_eq_getElem hk, e])).1
theorem ValidS.new (y0 : Nat) (hy : y0 < 6) : (⟨((y0 + 1 : Nat) : Int), ((S.m.getD y0 default).length : Nat)⟩ : Idd) ∉ S.md := by
 intro h
 have := (has_tb _ _ _).1 (hS.has_old h)
 have e : ((((y0 + 1 : Nat) : Int) - 1).toNat) = y0 := by omega
 simp only [e] at this
 omega
theorem ValidS.ment {y n : Int} (h : hasV (tb S.m) y n = true) : ∀ q ∈ zqz (atV (tb S.m) y n), q ∈ S.md := by
 have hm := hS.ok.all y n h
 obtain ⟨k, hk, e⟩ := List.mem_iff_getElem.1 hm
 intro q hq
 exact List.mem_of_mem_take ((hS.ok.sub k ⟨y, n⟩ (by rw [List.getElem?_eq_getElem hk, e])).2.2 q hq)
theorem ValidS.thM {p : Idd} (h : p ∈ thM S.m) : p ∈ S.md := by
 unfold Tst.thM at h
 obtain ⟨r, hr, h⟩ := List.mem_flatMap.1 h
 obtain ⟨K, hK, h⟩ := List.mem_flatMap.1 h
 obtain ⟨i, hi, rfl⟩ := List.mem_iff_getElem.1 hr
 obtain ⟨n, hn, rfl⟩ := List.mem_iff_getElem.1 hK
 have hg : S.m.getD i default = S.m[i] := by rw [List.getD_eq_getElem?_getD, List.getElem?_eq_getElem hi]; rfl
 have hh : hasV (tb S.m) ((i + 1 : Nat) : Int) (n : Nat) = true := by
  rw [has_tb]
  have e : ((((i + 1 : Nat) : Int) - 1).toNat) = i := by omega
  rw [e, hg]; omega
 refine hS.ment hh p ?_
 rw [at_tb]
 have e : ((((i + 1 : Nat) : Int) - 1).toNat) = i := by omega
 rw [e, hg, Int.toNat_natCast, List.getD_eq_getElem?_getD, List.getElem?_eq_getElem hn]
 exact List.mem_append.2 (.inl h)
theorem thM_set (y0 : Nat) (hy : y0 < 6) (l : Lp) : (Tst.thM (S.m.set y0 (S.m.getD y0 default ++ [l]))).Perm (l.th ++ Tst.thM S.m) := by
 have hl : y0 < S.m.length := by rw [hS.m6]; exact hy
 have hg : S.m.getD y0 default = S.m[y0] := by rw [List.getD_eq_getElem?_getD, List.getElem?_eq_getElem hl]; rfl
 have e : S.m = S.m.take y0 ++ S.m[y0] :: S.m.drop (y0 + 1) := by
  conv => lhs; rw [← List.take_append_drop y0 S.m]
  rw [List.drop_eq_getElem_cons hl]
 unfold Tst.thM
 rw [List.set_eq_take_append_cons_drop, if_pos hl, hg]
 conv => rhs; rw [e]
 simp only [List.flatMap_append, List.flatMap_cons, List.flatMap_nil, List.append_nil]
 have : ∀ (A B C D : List Idd), (A ++ (B ++ C ++ D)).Perm (C ++ (A ++ (B ++ D))) := by
  intro A B C D
  have h1 : (A ++ (B ++ C ++ D)) = (A ++ B) ++ (C ++ D) := by simp
  have h2 : (C ++ (A ++ (B ++ D))) = C ++ ((A ++ B) ++ D) := by simp
  rw [h1, h2]
  have := List.perm_append_comm_assoc (A ++ B) C D
  exact this
 exact this _ _ _ _
end
section
variable {S : OfS} {L : Lx} (hS : ValidS S) (hL : OkX L)
include hS
theorem has_new (y0 : Nat) (hy : y0 < 6) (l : Lp) (y n : Int) : hasV (tb (S.m.set y0 (S.m.getD y0 default ++ [l]))) y n = true ↔ hasV (tb S.m) y n = true ∨ (y = ((y0 + 1 : Nat) : Int) ∧ n = ((S.m.getD y0 default).length : Nat)) := by
 rw [has_tb, has_tb, hS.get _ y0 hy, List.length_set]
 have h6 := hS.m6
 by_cases h : (y - 1).toNat = y0
 ·rw [if_pos h, h, List.length_append]
  have : [l].length = 1 := rfl
  constructor
  ·rintro ⟨a, b, c, d⟩
   by_cases e : n = ((S.m.getD y0 default).length : Nat)
   ·exact .inr ⟨by omega, e⟩
   ·exact .inl ⟨a, b, c, by omega⟩
  ·rintro (⟨a, b, c, d⟩ | ⟨a, b⟩)
   ·exact ⟨a, b, c, by omega⟩
   ·exact ⟨by omega, by omega, by omega, by omega⟩
 ·rw [if_neg h]
  constructor
  ·exact .inl
  ·rintro (a | ⟨a, b⟩)
   ·exact a
   ·exfalso; apply h; omega
theorem at_old (y0 : Nat) (hy : y0 < 6) (l : Lp) {y n : Int} (h : hasV (tb S.m) y n = true) : atV (tb (S.m.set y0 (S.m.getD y0 default ++ [l]))) y n = atV (tb S.m) y n := by
 obtain ⟨a, b, c, d⟩ := (has_tb _ _ _).1 h
 rw [at_tb, at_tb, hS.get _ y0 hy]
 by_cases h : (y - 1).toNat = y0
 ·rw [if_pos h, h]
  rw [h] at d
  generalize S.m.getD y0 default = row at *
  simp only [List.getD_eq_getElem?_getD]
  rw [List.getElem?_append_left (by omega)]
 ·rw [if_neg h]
theorem at_new (y0 : Nat) (hy : y0 < 6) (l : Lp) : atV (tb (S.m.set y0 (S.m.getD y0 default ++ [l]))) ((y0 + 1 : Nat) : Int) ((S.m.getD y0 default).length : Nat) = l := by
 rw [at_tb, hS.get _ y0 hy, if_pos (by omega), Int.toNat_natCast, List.getD_eq_getElem?_getD, List.getElem?_append_right (Nat.le_refl _), Nat.sub_self]
 rfl
include hL
theorem fine_new : FineL (ofL S L) := by
 refine ⟨?_, ?_, ?_, ?_, rfl, rfl⟩
 ·have e : (ofL S L).b = if L.b then 1 else 0 := rfl
  rw [e]
  split
  ·exact .inr rfl
  ·exact .inl rfl
 ·have := thF_len2 (L.th.take 4) S.fr []
  rw [List.length_take] at this
  show (thF (L.th.take 4) S.fr []).2.length ≤ 4
  simp at this
  omega
 ·show (if S.md.length = 0 then [] else (L.pa.take 5).map (psOf S.md L.y)).length ≤ 5
  split
  ·simp
  ·rw [List.length_map, List.length_take]; omega
 ·refine ⟨Int.tmod (IntKind.wrap IntKind.u8 (Int.tdiv L.y 6)) 2, ?_, ?_⟩
  ·have h0 := hL.y0
   have h1 := hL.y1
   obtain ⟨a, ha⟩ : ∃ a : Nat, L.y = a := ⟨L.y.toNat, by omega⟩
   rw [ha] at h1 ⊢
   have e : Int.tdiv (a : Int) 6 = ((a / 6 : Nat) : Int) := by rw [Int.tdiv_eq_ediv_of_nonneg (by omega)]; rfl
   rw [e, wrap_u (by omega) (by omega), Int.tmod_eq_emod_of_nonneg (by omega)]
   omega
  ·intro p hp
   have hp : p ∈ (if S.md.length = 0 then [] else (L.pa.take 5).map (psOf S.md L.y)) := hp
   split at hp
   ·simp at hp
   ·obtain ⟨q, _, rfl⟩ := List.mem_map.1 hp
    rfl
theorem ment_new : ∀ q ∈ zqz (ofL S L), q ∈ S.md := by
 intro q hq
 rcases List.mem_append.1 hq with h | h
 ·have h : q ∈ (thF (L.th.take 4) S.fr []).2 := h
  have := (thF_perm (L.th.take 4) S.fr []).mem_iff.1 (List.mem_append.2 (.inr h))
  rw [List.append_nil] at this
  exact hS.fr q this
 ·obtain ⟨p, hp, rfl⟩ := List.mem_map.1 h
  have hp : p ∈ (if S.md.length = 0 then [] else (L.pa.take 5).map (psOf S.md L.y)) := hp
  split at hp
  ·simp at hp
  ·rename_i hne
   obtain ⟨z, _, rfl⟩ := List.mem_map.1 hp
   show (⟨(S.md.getD (z.toNat / 2 % S.md.length) default).y, (S.md.getD (z.toNat / 2 % S.md.length) default).n⟩ : Idd) ∈ S.md
   have hlt := Nat.mod_lt (z.toNat / 2) (by omega : 0 < S.md.length)
   generalize z.toNat / 2 % S.md.length = k at hlt
   show S.md.getD k default ∈ S.md
   rw [List.getD_eq_getElem?_getD, List.getElem?_eq_getElem hlt]
   exact List.getElem_mem hlt
theorem ValidS.step : ValidS (ofStep S L) := by
 have hy : L.y.toNat % 6 < 6 := Nat.mod_lt _ (by omega)
 have hnew := hS.new (L.y.toNat % 6) hy
 have hm : ∀ q ∈ zqz (ofL S L), q ∈ S.md := ment_new hS hL
 have hf := fine_new hS hL
 have hperm := thF_perm (L.th.take 4) S.fr []
 rw [List.append_nil] at hperm
 have hthm := thM_set hS (L.y.toNat % 6) hy (ofL S L)
 have hhas := has_new hS (L.y.toNat % 6) hy (ofL S L)
 have haold := fun y n h => at_old hS (L.y.toNat % 6) hy (ofL S L) (y := y) (n := n) h
 have hanew := at_new hS (L.y.toNat % 6) hy (ofL S L)
 have hget := hS.get (S.m.getD (L.y.toNat % 6) default ++ [ofL S L]) (L.y.toNat % 6) hy
 refine ⟨by show (List.set _ _ _).length = 6; rw [List.length_set]; exact hS.m6, ⟨?_, ?_⟩, ?_, ?_, ?_, ?_, ?_⟩
 ·intro k p hk
  have hk : (S.md ++ [ofI S L])[k]? = some p := hk
  show hasV (tb (S.m.set _ _)) p.y p.n = true ∧ (∀ n', 0 ≤ n' → n' < p.n → _ ∈ (S.md ++ [ofI S L]).take k) ∧ ∀ q ∈ zqz (atV (tb (S.m.set _ _)) p.y p.n), q ∈ (S.md ++ [ofI S L]).take k
  by_cases hlt : k < S.md.length
  ·rw [List.getElem?_append_left hlt] at hk
   obtain ⟨h1, h2, h3⟩ := hS.ok.sub k p hk
   rw [List.take_append_of_le_length (by omega), haold _ _ h1]
   exact ⟨(hhas _ _).2 (.inl h1), h2, h3⟩
  ·rw [List.getElem?_append_right (by omega)] at hk
   have hk0 : k = S.md.length := by
    rcases Nat.eq_zero_or_pos (k - S.md.length) with h | h
    ·omega
    ·rw [List.getElem?_eq_none (by simp; omega)] at hk; cases hk
   subst hk0
   rw [Nat.sub_self] at hk
   injection hk with hk; subst hk
   rw [List.take_append_of_le_length (Nat.le_refl _), List.take_length]
   refine ⟨(hhas _ _).2 (.inr ⟨rfl, rfl⟩), ?_, ?_⟩
   ·intro n' h0 h1
    have h1 : n' < ((S.m.getD (L.y.toNat % 6) default).length : Nat) := h1
    refine hS.ok.all _ _ ((has_tb _ _ _).2 ?_)
    have e : (((L.y.toNat % 6 + 1 : Nat) : Int) - 1).toNat = L.y.toNat % 6 := by omega
    have := hS.m6
    show 1 ≤ ((L.y.toNat % 6 + 1 : Nat) : Int) ∧ ((L.y.toNat % 6 + 1 : Nat) : Int) ≤ S.m.length ∧ 0 ≤ n' ∧ n' < (S.m.getD (((L.y.toNat % 6 + 1 : Nat) : Int) - 1).toNat default).length
    rw [e]
    exact ⟨by omega, by omega, h0, h1⟩
   ·have e : atV (tb (S.m.set (L.y.toNat % 6) (S.m.getD (L.y.toNat % 6) default ++ [ofL S L]))) (ofI S L).y (ofI S L).n = ofL S L := hanew
    rw [e]; exact hm
 ·intro y n h
  show _ ∈ S.md ++ [ofI S L]
  rcases (hhas y n).1 h with h | ⟨rfl, rfl⟩
  ·exact List.mem_append.2 (.inl (hS.ok.all _ _ h))
  ·exact List.mem_append.2 (.inr (by simp [ofI]))
 ·intro p hp
  show p ∈ S.md ++ [ofI S L]
  have hp : p ∈ (thF (L.th.take 4) S.fr []).1 ++ [ofI S L] := hp
  rcases List.mem_append.1 hp with h | h
  ·exact List.mem_append.2 (.inl (hS.fr p (hperm.mem_iff.1 (List.mem_append.2 (.inl h)))))
  ·exact List.mem_append.2 (.inr h)
 ·show ((thF (L.th.take 4) S.fr []).1 ++ [ofI S L] ++ Tst.thM (S.m.set _ _)).Nodup
  have h1 : ((thF (L.th.take 4) S.fr []).1 ++ [ofI S L] ++ Tst.thM (S.m.set (L.y.toNat % 6) (S.m.getD (L.y.toNat % 6) default ++ [ofL S L]))).Perm (ofI S L :: (S.fr ++ Tst.thM S.m)) := by
   refine ((List.Perm.refl _).append hthm).trans ?_
   have h2 : ((thF (L.th.take 4) S.fr []).1 ++ [ofI S L] ++ ((ofL S L).th ++ Tst.thM S.m)) = (thF (L.th.take 4) S.fr []).1 ++ ofI S L :: ((ofL S L).th ++ Tst.thM S.m) := by simp
   rw [h2]
   refine List.perm_middle.trans ?_
   refine List.Perm.cons _ ?_
   rw [← List.append_assoc]
   exact hperm.append_right _
  rw [h1.nodup_iff, List.nodup_cons]
  refine ⟨fun h => ?_, hS.nd⟩
  rcases List.mem_append.1 h with h | h
  ·exact hnew (hS.fr _ h)
  ·exact hnew (hS.thM h)
 ·intro r hr K hK
  rcases List.mem_or_eq_of_mem_set hr with hr | rfl
  ·exact hS.fine r hr K hK
  ·rcases List.mem_append.1 hK with h | h
   ·refine hS.fine (S.m.getD (L.y.toNat % 6) default) ?_ K h
    rw [List.getD_eq_getElem?_getD, List.getElem?_eq_getElem (by rw [hS.m6]; exact hy)]; exact List.getElem_mem _
   ·rw [List.mem_singleton] at h; subst h; exact hf
 ·intro i hi hne
  have hne : (S.m.set (L.y.toNat % 6) (S.m.getD (L.y.toNat % 6) default ++ [ofL S L])).getD i default ≠ [] := hne
  show (((S.m.set (L.y.toNat % 6) (S.m.getD (L.y.toNat % 6) default ++ [ofL S L])).getD i default).getD 0 default).w = true
  rw [hget] at hne ⊢
  by_cases h : i = L.y.toNat % 6
  ·rw [if_pos h]
   by_cases hr : S.m.getD (L.y.toNat % 6) default = []
   ·rw [hr]
    show (L.w || (S.m.getD (L.y.toNat % 6) default).length == 0) = true
    rw [hr]; simp
   ·have := hS.nw (L.y.toNat % 6) hy hr
    rw [List.getD_eq_getElem?_getD, List.getElem?_append_left (List.length_pos_iff.2 hr), ← List.getD_eq_getElem?_getD]
    exact this
  ·rw [if_neg h] at hne ⊢
   exact hS.nw i hi hne
 ·show (S.md ++ [ofI S L]).Nodup
  rw [List.nodup_append]
  refine ⟨hS.mdn, by simp, fun a ha b hb e => ?_⟩
  rw [List.mem_singleton] at hb
  subst hb e
  exact hnew ha
end
theorem valid0 : ValidS S0 := by
 refine ⟨rfl, ⟨fun k p h => by simp [S0] at h, fun y n h => ?_⟩, fun p h => by simp [S0] at h, by simp [S0, thM], ?_, ?_, by simp [S0]⟩
 ·exfalso
  obtain ⟨a, b, c, d⟩ := (has_tb _ _ _).1 h
  have e : S0.m.getD (y - 1).toNat default = [] := by
   unfold S0
   rw [List.getD_eq_getElem?_getD, List.getElem?_replicate]
   split <;> rfl
  rw [e] at d
  simp at d
  omega
 ·intro r hr K hK
  rw [(List.mem_replicate.1 hr).2] at hK; simp at hK
 ·intro i hi hne
  exfalso; apply hne
  unfold S0
  rw [List.getD_eq_getElem?_getD, List.getElem?_replicate]
  split <;> rfl
theorem valid_fold : ∀ (l : List Lx) (S : OfS), ValidS S → (∀ L ∈ l, OkX L) → ValidS (l.foldl ofStep S)
 | [], S, h, _ => h
 | L :: l, S, h, hX => valid_fold l _ (h.step (hX L (by simp))) fun K hK => hX K (by simp [hK])
theorem valid_of (x : List Lx) (hX : ∀ L ∈ x, OkX L) : ValidS (ofS x) := valid_fold _ _ valid0 fun L hL => hX L (List.mem_of_mem_take hL)
theorem rowL_at {i : Nat} {R : List Lp} {x : Idd × Lp} (h : x ∈ rowL i R) : ∃ n : Nat, n < R.length ∧ x.1 = ⟨((i + 1 : Nat) : Int), (n : Int)⟩ ∧ x.2 = R.getD n default := by
 unfold rowL at h
 obtain ⟨q, hq, rfl⟩ := List.mem_map.1 h
 have h1 := List.mem_zipIdx hq
 refine ⟨q.2, by have := h1.2.1; omega, rfl, ?_⟩
 show q.1 = _
 have := h1.2.2
 rw [this, List.getD_eq_getElem?_getD, List.getElem?_eq_getElem (by have := h1.2.1; omega)]
 simp
theorem allFrom_at : ∀ (t : List Rw) (i : Nat) (x : Idd × Lp), x ∈ allFrom i t → ∃ j n : Nat, j < t.length ∧ n < (t.getD j default).l.length ∧ x.1 = ⟨((i + j + 1 : Nat) : Int), (n : Int)⟩ ∧ x.2 = (t.getD j default).l.getD n default
 | [], i, x, h => by simp [allFrom] at h
 | r :: t, i, x, h => by
  rw [allFrom, List.mem_append] at h
  rcases h with h | h
  ·obtain ⟨n, h1, h2, h3⟩ := rowL_at h
   exact ⟨0, n, by simp, h1, h2, h3⟩
  ·obtain ⟨j, n, h1, h2, h3, h4⟩ := allFrom_at t (i + 1) x h
   refine ⟨j + 1, n, by rw [List.length_cons]; omega, h2, ?_, h4⟩
   rw [h3, show i + 1 + j + 1 = i + (j + 1) + 1 by omega]
theorem thA_rowL (i : Nat) (R : List Lp) : thA (rowL i R) = R.flatMap Lp.th := by
 unfold thA rowL
 rw [List.flatMap_map]
 show List.flatMap (fun q : Lp × Nat => q.1.th) R.zipIdx = _
 have : ∀ (R : List Lp) (k : Nat), List.flatMap (fun q : Lp × Nat => q.1.th) (R.zipIdx k) = R.flatMap Lp.th := by
  intro R
  induction R with
  | nil => intro k; rfl
  | cons a R ih => intro k; rw [List.zipIdx_cons, List.flatMap_cons, List.flatMap_cons, ih]
 exact this R 0
theorem thA_allFrom : ∀ (t : List Rw) (i : Nat), thA (allFrom i t) = t.flatMap fun r => r.l.flatMap Lp.th
 | [], i => rfl
 | r :: t, i => by rw [allFrom, thA_app, thA_rowL, thA_allFrom t (i + 1), List.flatMap_cons]
theorem mem_getD {l : List Lp} {n : Nat} (h : n < l.length) : l.getD n default ∈ l := by rw [List.getD_eq_getElem?_getD, List.getElem?_eq_getElem h]; exact List.getElem_mem _
section
variable {S : OfS} (hS : ValidS S)
include hS
theorem ValidS.take : (tb S.m).take 255 = tb S.m := List.take_of_length_le (by rw [tb_len, hS.m6]; omega)
theorem ValidS.tw : twV (tb S.m) = false := by
 unfold twV allT
 rw [hS.take, thA_allFrom]
 have e : ((tb S.m).flatMap fun r => r.l.flatMap Lp.th) = Tst.thM S.m := by
  unfold tb Tst.thM
  rw [List.flatMap_map]
 rw [e, decide_eq_true (List.nodup_append.1 hS.nd).2.1]
 rfl
theorem ValidS.ck : ckT (tb S.m) = true := by
 unfold ckT allT
 rw [hS.take, List.all_eq_true]
 intro x hx
 obtain ⟨j, n, h1, h2, h3, h4⟩ := allFrom_at _ 0 x hx
 rw [tb_len, hS.m6] at h1
 rw [tb_get] at h2 h4
 have hmem : S.m.getD j default ∈ S.m := by rw [List.getD_eq_getElem?_getD, List.getElem?_eq_getElem (by rw [hS.m6]; exact h1)]; exact List.getElem_mem _
 have hL : x.2 ∈ S.m.getD j default := by rw [h4]; exact mem_getD h2
 have hf := hS.fine _ hmem _ hL
 have e0 : 0 + j + 1 = j + 1 := by omega
 rw [e0] at h3
 have e1 : (((j + 1 : Nat) : Int) - 1).toNat = j := by omega
 have hh : hasV (tb S.m) ((j + 1 : Nat) : Int) (n : Int) = true := by
  rw [has_tb, e1, hS.m6]; omega
 have hat : atV (tb S.m) ((j + 1 : Nat) : Int) (n : Int) = x.2 := by rw [at_tb, e1, Int.toNat_natCast, h4]
 unfold arV rightV
 simp only [Bool.and_eq_true]
 refine ⟨⟨⟨⟨?_, ?_⟩, hf.pend⟩, ?_⟩, ?_⟩
 ·rcases hf.b with h | h <;> simp [h]
 ·exact decide_eq_true hf.th
 ·rw [List.all_eq_true]
  intro p hp
  rw [← hat] at hp
  exact hS.has_old (hS.ment hh p hp)
 ·rw [h3]
  by_cases hn : n = 0
  ·subst hn
   have := hS.nw j h1 (by intro e; rw [e] at h2; simp at h2)
   rw [← h4] at this
   simp [this]
  ·have : ((n : Int) != 0) = true := by simpa using hn
   show ((n : Int) != 0 || x.2.w) = true
   rw [this]; rfl
theorem ValidS.okT : OkT (tb S.m) := by
 intro r hr L hL
 unfold tb at hr
 obtain ⟨l, hl, rfl⟩ := List.mem_map.1 hr
 have hf := hS.fine l hl L hL
 refine ⟨?_, by have := hf.th; omega, by have := hf.pa; omega⟩
 intro p hp
 obtain ⟨i, hi, rfl⟩ := List.mem_iff_getElem.1 hl
 obtain ⟨n, hn, rfl⟩ := List.mem_iff_getElem.1 hL
 have hg : S.m.getD i default = S.m[i] := by rw [List.getD_eq_getElem?_getD, List.getElem?_eq_getElem hi]; rfl
 have e1 : (((i + 1 : Nat) : Int) - 1).toNat = i := by omega
 have hn' : n < S.m[i].length := hn
 have hh : hasV (tb S.m) ((i + 1 : Nat) : Int) (n : Int) = true := by
  rw [has_tb, e1, hg]; omega
 have hat : atV (tb S.m) ((i + 1 : Nat) : Int) (n : Int) = S.m[i][n] := by
  rw [at_tb, e1, Int.toNat_natCast, hg, List.getD_eq_getElem?_getD, List.getElem?_eq_getElem hn']; rfl
 have h3 : p ∈ zqz (atV (tb S.m) ((i + 1 : Nat) : Int) (n : Int)) := by rw [hat]; exact hp
 have := (has_tb _ _ _).1 (hS.has_old (hS.ment hh p h3))
 have := hS.m6
 omega
theorem ValidS.okL (hr : ∀ r ∈ S.m, r.length < 2 ^ 60) : OkL (tb S.m) := okL_of (by rw [tb_len, hS.m6]; omega) (fun r h => by
 unfold tb at h
 obtain ⟨l, hl, rfl⟩ := List.mem_map.1 h
 exact hr l hl) hS.okT hS.ck
theorem ValidS.check (hr : ∀ r ∈ S.m, r.length < 2 ^ 60) (hc : cntV (tb S.m) ≤ 2048) : chV (tb S.m) = 0 := by
 unfold chV checkV
 rw [tb_len, hS.m6, hS.tw, hS.ck, first_len (hS.okL hr) hS.ok]
 rw [if_neg (by omega), if_neg (by omega), if_neg (by simp), if_neg (by simp), if_neg (by omega)]
end
set_option maxHeartbeats 0
theorem ne0_0 (c : Option Nat) (t : List Rw) (y n d0 d1 d2 d3 d4 d5 d6 : Int) : Tri Try.prog (cxN 81 0) (zqr Try.f13 0) ([(0, tsl c t), (1, idE y n), (2, .agg [it d0, it d1, it d2, it d3, it d4, it d5, it d6])]) .normal ([(0, tsl c t), (4, AV.box [ub y, it n]), (5, AV.box [it d0, it d1, it d2, it d3, it d4, it d5, it d6])]) :=
 ev h13 [.c, .c, .c] zqa
theorem ne1_0 (c : Option Nat) (t : List Rw) (y n : Int) (d : List Int) (g0 : decide (0 ≤ IntKind.u8.wrap (y - (1 : Int)) ∧ IntKind.u8.wrap (y - (1 : Int)) < ((t.map Rw.enc).length : Int)) = true) (g1 : (t.map Rw.enc).getD ((IntKind.u8.wrap (y - (1 : Int))).toNat) AV.bad = Rw.enc (t.getD ((IntKind.u8.wrap (y - (1 : Int))).toNat) default)) (g2 : decide (0 ≤ n ∧ n < (↑(List.length (List.map Lp.enc (Rw.l (t.getD ((IntKind.u8.wrap (y - (1 : Int))).toNat) default)))) : Int)) = true) (g3 : List.getD (List.map Lp.enc (Rw.l (t.getD ((IntKind.u8.wrap (y - (1 : Int))).toNat) default))) n.toNat AV.bad = Lp.enc (List.getD (Rw.l (t.getD ((IntKind.u8.wrap (y - (1 : Int))).toNat) default)) n.toNat default)) : Tri Try.prog (cxN 81 0) (zqr Try.f13 1) ([(0, tsl c t), (4, .box [ub y, it n]), (5, .box (d.map itI))]) .normal ([(4, AV.box [ub y, it n]), (5, AV.box (List.map itI d)), (7, AV.box [ub (Lp.b (List.getD (Rw.l (t.getD ((IntKind.u8.wrap (y - (1 : Int))).toNat) default)) n.toNat default)), bb (Lp.w (List.getD (Rw.l (t.getD ((IntKind.u8.wrap (y - (1 : Int))).toNat) default)) n.toNat default)), isl (Lp.ct (List.getD (Rw.l (t.getD ((IntKind.u8.wrap (y - (1 : Int))).toNat) default)) n.toNat default)) (Lp.th (List.getD (Rw.l (t.getD ((IntKind.u8.wrap (y - (1 : Int))).toNat) default)) n.toNat default)), sl (Lp.cp (List.getD (Rw.l (t.getD ((IntKind.u8.wrap (y - (1 : Int))).toNat) default)) n.toNat default)) (Lp.pa (List.getD (Rw.l (t.getD ((IntKind.u8.wrap (y - (1 : Int))).toNat) default)) n.toNat default))])]) :=
 ev h13 [.c, .c, .c, .c, .c, .c, .b true, .r (Rw.enc (t.getD ((IntKind.u8.wrap (y - (1 : Int))).toNat) default)), .c, .c, .c, .c, .c, .c, .b true, .r (Lp.enc (List.getD (Rw.l (t.getD ((IntKind.u8.wrap (y - (1 : Int))).toNat) default)) n.toNat default)), .c, .c, .c, .c, .c] (allp g0 (allp g1 (allp g2 (allp g3 zqa))))
theorem ne2_0 (L : Lp) (y n : Int) (d : List Int) : Tri Try.prog (cxN 81 0) (zqr Try.f13 2) ([(4, .box [ub y, it n]), (5, .box (d.map itI)), (7, lpB L)]) .normal ([(4, AV.box [ub y, it n]), (5, AV.box (List.map itI d)), (7, AV.box [ub (Lp.b L), bb (Lp.w L), isl (Lp.ct L) (Lp.th L), sl (Lp.cp L) (Lp.pa L)]), (8, it 0)]) :=
 ev h13 [.c] zqa
theorem ne3_0 (L : Lp) (y n : Int) (d : List Int) (hd : d.length = 7) (g0 : decide (0 ≤ y ∧ y < ((7 : Nat) : Int) ∧ (0 : Nat) < (1 : Nat)) = true) (g1 : decide ((0 : Nat) = (0 : Nat) ∧ y.toNat * (1 : Nat) < (d.map itI).length) = true) (g2 : (d.map itI).getD (y.toNat * (1 : Nat)) AV.bad = itI (d.getD (y.toNat * (1 : Nat)) default)) : Tri Try.prog (cxN 81 0) (zqr Try.f13 3) ([(4, .box [ub y, it n]), (5, .box (d.map itI)), (7, lpB L), (8, it 0)]) .normal ([(5, AV.box (List.map itI d)), (7, AV.box [ub (Lp.b L), bb (Lp.w L), isl (Lp.ct L) (Lp.th L), sl (Lp.cp L) (Lp.pa L)]), (8, it 0), (27, bb (decide (d.getD (y.toNat * (1 : Nat)) default < n)))]) :=
 ev h13 [.c, .c, .c, .c, .c, .c, .c, .c, .b true, .c, .b true, .r (itI (d.getD (y.toNat * (1 : Nat)) default)), .c, .c] (allp g0 (allp g1 (allp g2 zqa)))
theorem ne4_0 (L : Lp) (d : List Int) (v : Int) : Tri Try.prog (cxN 81 0) (zqr Try.f13 4) ([(5, .box (d.map itI)), (7, lpB L), (8, it v)]) .normal ([(5, AV.box (List.map itI d)), (7, AV.box [ub (Lp.b L), bb (Lp.w L), isl (Lp.ct L) (Lp.th L), sl (Lp.cp L) (Lp.pa L)]), (8, it (IntKind.i64.wrap (v + (1 : Int))))]) :=
 ev h13 [.c, .c, .c] zqa
theorem ne5_0 (L : Lp) (d : List Int) (v : Int) : Tri Try.prog (cxN 81 0) (zqr Try.f13 5) ([(5, .box (d.map itI)), (7, lpB L), (8, it v)]) .normal ([(5, AV.box (List.map itI d)), (7, AV.box [ub (Lp.b L), bb (Lp.w L), isl (Lp.ct L) (Lp.th L), sl (Lp.cp L) (Lp.pa L)]), (8, it v), (9, it 0)]) :=
 ev h13 [.c] zqa
theorem ne6_0 (L : Lp) (d : List Int) (v k : Int) : Tri Try.prog (cxN 81 0) (zqr Try.f13 6) ([(5, .box (d.map itI)), (7, lpB L), (8, it v), (9, it k)]) .normal ([(5, AV.box (List.map itI d)), (7, AV.box [ub (Lp.b L), bb (Lp.w L), isl (Lp.ct L) (Lp.th L), sl (Lp.cp L) (Lp.pa L)]), (8, it v), (9, it k), (34, bb (decide (k < (↑(((Lp.th L).map Idd.enc).length) : Int))))]) :=
 ev h13 [.c, .c, .c, .c, .c, .c, .c] zqa
theorem ne8_0 (L : Lp) (d : List Int) (v k : Int) (hd : d.length = 7) (g0 : decide (0 ≤ k ∧ k < (↑(((Lp.th L).map Idd.enc).length) : Int)) = true) (g1 : ((Lp.th L).map Idd.enc).getD k.toNat AV.bad = Idd.enc ((Lp.th L).getD k.toNat default)) (g2 : decide (0 ≤ Idd.y ((Lp.th L).getD k.toNat default) ∧ Idd.y ((Lp.th L).getD k.toNat default) < ((7 : Nat) : Int) ∧ (0 : Nat) < (1 : Nat)) = true) (g3 : decide ((0 : Nat) = (0 : Nat) ∧ (Idd.y ((Lp.th L).getD k.toNat default)).toNat * (1 : Nat) < (d.map itI).length) = true) (g4 : (d.map itI).getD ((Idd.y ((Lp.th L).getD k.toNat default)).toNat * (1 : Nat)) AV.bad = itI (d.getD ((Idd.y ((Lp.th L).getD k.toNat default)).toNat * (1 : Nat)) default)) : Tri Try.prog (cxN 81 0) (zqr Try.f13 8) ([(5, .box (d.map itI)), (7, lpB L), (8, it v), (9, it k)]) .normal ([(5, AV.box (List.map itI d)), (7, AV.box [ub (Lp.b L), bb (Lp.w L), isl (Lp.ct L) (Lp.th L), sl (Lp.cp L) (Lp.pa L)]), (8, it v), (9, it k), (51, bb (decide (d.getD ((Idd.y ((Lp.th L).getD k.toNat default)).toNat * (1 : Nat)) default ≤ Idd.n ((Lp.th L).getD k.toNat default))))]) :=
 ev h13 [.c, .c, .c, .c, .c, .b true, .r (Idd.enc ((Lp.th L).getD k.toNat default)), .c, .c, .c, .c, .c, .c, .c, .c, .b true, .r (Idd.enc ((Lp.th L).getD k.toNat default)), .c, .c, .c, .b true, .c, .b true, .r (itI (d.getD ((Idd.y ((Lp.th L).getD k.toNat default)).toNat * (1 : Nat)) default)), .c, .c] (allp g0 (allp g1 (allp g0 (allp g1 (allp g2 (allp g3 (allp g4 zqa)))))))
theorem ne9_0 (L : Lp) (d : List Int) (v k : Int) : Tri Try.prog (cxN 81 0) (zqr Try.f13 9) ([(5, .box (d.map itI)), (7, lpB L), (8, it v), (9, it k)]) .normal ([(5, AV.box (List.map itI d)), (7, AV.box [ub (Lp.b L), bb (Lp.w L), isl (Lp.ct L) (Lp.th L), sl (Lp.cp L) (Lp.pa L)]), (8, it (IntKind.i64.wrap (v + (1 : Int)))), (9, it k)]) :=
 ev h13 [.c, .c, .c] zqa
theorem ne7_0 (L : Lp) (d : List Int) (v k : Int) : Tri Try.prog (cxN 81 0) (zqr Try.f13 7) ([(5, .box (d.map itI)), (7, lpB L), (8, it v), (9, it k)]) .normal ([(5, AV.box (List.map itI d)), (7, AV.box [ub (Lp.b L), bb (Lp.w L), isl (Lp.ct L) (Lp.th L), sl (Lp.cp L) (Lp.pa L)]), (8, it v), (9, it (IntKind.i64.wrap (k + (1 : Int))))]) :=
 ev h13 [.c, .c, .c] zqa
theorem ne10_0 (L : Lp) (d : List Int) (v : Int) : Tri Try.prog (cxN 81 0) (zqr Try.f13 10) ([(5, .box (d.map itI)), (7, lpB L), (8, it v)]) .normal ([(5, AV.box (List.map itI d)), (7, AV.box [ub (Lp.b L), bb (Lp.w L), isl (Lp.ct L) (Lp.th L), sl (Lp.cp L) (Lp.pa L)]), (8, it v), (10, it 0)]) :=
 ev h13 [.c] zqa
theorem ne11_0 (L : Lp) (d : List Int) (v k : Int) : Tri Try.prog (cxN 81 0) (zqr Try.f13 11) ([(5, .box (d.map itI)), (7, lpB L), (8, it v), (10, it k)]) .normal ([(5, AV.box (List.map itI d)), (7, AV.box [ub (Lp.b L), bb (Lp.w L), isl (Lp.ct L) (Lp.th L), sl (Lp.cp L) (Lp.pa L)]), (8, it v), (10, it k), (58, bb (decide (k < (↑(((Lp.pa L).map Ps.enc).length) : Int))))]) :=
 ev h13 [.c, .c, .c, .c, .c, .c, .c] zqa
theorem ne13_0 (L : Lp) (d : List Int) (v k : Int) (hd : d.length = 7) (g0 : decide (0 ≤ k ∧ k < (↑(((Lp.pa L).map Ps.enc).length) : Int)) = true) (g1 : ((Lp.pa L).map Ps.enc).getD k.toNat AV.bad = Ps.enc ((Lp.pa L).getD k.toNat default)) (g2 : decide (0 ≤ Ps.y ((Lp.pa L).getD k.toNat default) ∧ Ps.y ((Lp.pa L).getD k.toNat default) < ((7 : Nat) : Int) ∧ (0 : Nat) < (1 : Nat)) = true) (g3 : decide ((0 : Nat) = (0 : Nat) ∧ (Ps.y ((Lp.pa L).getD k.toNat default)).toNat * (1 : Nat) < (d.map itI).length) = true) (g4 : (d.map itI).getD ((Ps.y ((Lp.pa L).getD k.toNat default)).toNat * (1 : Nat)) AV.bad = itI (d.getD ((Ps.y ((Lp.pa L).getD k.toNat default)).toNat * (1 : Nat)) default)) : Tri Try.prog (cxN 81 0) (zqr Try.f13 13) ([(5, .box (d.map itI)), (7, lpB L), (8, it v), (10, it k)]) .normal ([(5, AV.box (List.map itI d)), (7, AV.box [ub (Lp.b L), bb (Lp.w L), isl (Lp.ct L) (Lp.th L), sl (Lp.cp L) (Lp.pa L)]), (8, it v), (10, it k), (77, bb (decide (d.getD ((Ps.y ((Lp.pa L).getD k.toNat default)).toNat * (1 : Nat)) default ≤ Ps.n ((Lp.pa L).getD k.toNat default))))]) :=
 ev h13 [.c, .c, .c, .c, .c, .b true, .r (Ps.enc ((Lp.pa L).getD k.toNat default)), .c, .c, .c, .c, .c, .c, .c, .c, .c, .b true, .r (Ps.enc ((Lp.pa L).getD k.toNat default)), .c, .c, .c, .c, .b true, .c, .b true, .r (itI (d.getD ((Ps.y ((Lp.pa L).getD k.toNat default)).toNat * (1 : Nat)) default)), .c, .c] (allp g0 (allp g1 (allp g0 (allp g1 (allp g2 (allp g3 (allp g4 zqa)))))))
theorem ne14_0 (L : Lp) (d : List Int) (v k : Int) : Tri Try.prog (cxN 81 0) (zqr Try.f13 14) ([(5, .box (d.map itI)), (7, lpB L), (8, it v), (10, it k)]) .normal ([(5, AV.box (List.map itI d)), (7, AV.box [ub (Lp.b L), bb (Lp.w L), isl (Lp.ct L) (Lp.th L), sl (Lp.cp L) (Lp.pa L)]), (8, it (IntKind.i64.wrap (v + (1 : Int)))), (10, it k)]) :=
 ev h13 [.c, .c, .c] zqa
theorem ne12_0 (L : Lp) (d : List Int) (v k : Int) : Tri Try.prog (cxN 81 0) (zqr Try.f13 12) ([(5, .box (d.map itI)), (7, lpB L), (8, it v), (10, it k)]) .normal ([(5, AV.box (List.map itI d)), (7, AV.box [ub (Lp.b L), bb (Lp.w L), isl (Lp.ct L) (Lp.th L), sl (Lp.cp L) (Lp.pa L)]), (8, it v), (10, it (IntKind.i64.wrap (k + (1 : Int))))]) :=
 ev h13 [.c, .c, .c] zqa
theorem ne15_0 (v : Int) : Tri Try.prog (cxN 81 0) (zqr Try.f13 15) ([(8, it v)]) .normal ([(6, it v)]) :=
 ev h13 [.c, .c] zqa
theorem ne_body : Try.f13.body = some (.seq (zqr Try.f13 0) (.seq (zqr Try.f13 1) (.seq (zqr Try.f13 2) (.seq (.seq (zqr Try.f13 3) (.cond (.tmp 27) (zqr Try.f13 4) .skip)) (.seq (.seq (zqr Try.f13 5) (.block 0 (.loop (zqc Try.f13 0)))) (.seq (.seq (zqr Try.f13 10) (.block 2 (.loop (zqc Try.f13 1)))) (.seq (zqr Try.f13 15) .ret))))))) := by kernel_rfl
theorem ne_l0 : zqc Try.f13 0 = .seq (.seq (zqr Try.f13 6) (.cond (.tmp 34) .skip (.exit 0))) (.seq (.block 1 (.seq (zqr Try.f13 8) (.cond (.tmp 51) (zqr Try.f13 9) .skip))) (zqr Try.f13 7)) := by kernel_rfl
theorem ne_l2 : zqc Try.f13 1 = .seq (.seq (zqr Try.f13 11) (.cond (.tmp 58) .skip (.exit 2))) (.seq (.block 3 (.seq (zqr Try.f13 13) (.cond (.tmp 77) (zqr Try.f13 14) .skip))) (zqr Try.f13 12)) := by kernel_rfl
def gtD (d : List Int) (y n : Int) : Bool := decide (d.getD y.toNat default ≤ n)
def gtI (d : List Int) (p : Idd) : Bool := gtD d p.y p.n
def gtP (d : List Int) (p : Ps) : Bool := gtD d p.y p.n
theorem getD_it {d : List Int} {i : Nat} (h : i < d.length) : List.getD (d.map itI) i .bad = itI (List.getD d i default) := by simp [List.getD_eq_getElem?_getD, h]
section
variable (L : Lp) (d : List Int) (hd : d.length = 7) (ht : L.th.length < 2 ^ 60) (hp : L.pa.length < 2 ^ 60)
abbrev nE (v : Int) : Env := [(5, .box (d.map itI)), (7, lpB L), (8, it v)]
include hd ht
theorem neI_end (v : Int) (k : Nat) (h : L.th.length ≤ k) : Tri Try.prog (cxN 81 0) (zqc Try.f13 0) (nE L d v ++ [(9, it k)]) (.exit 0) (nE L d v) := by
 rw [ne_l0]
 have h6 := ne6_0 L d v k
 rw [show decide ((k : Int) < ((List.map Idd.enc (Lp.th L)).length : Nat)) = false by rw [decide_eq_false]; rw [List.length_map]; omega] at h6
 exact .seqX (.seq h6 (.cond (b := false) rfl (.after (kp [5, 7, 8]) .exit))) (by simp)
theorem neI_step (v : Int) (k : Nat) (h : k < L.th.length) (hy : ∀ p ∈ L.th, 0 ≤ p.y ∧ p.y ≤ 6) (hv0 : 0 ≤ v) (hv : v ≤ 1 + k) : Tri Try.prog (cxN 81 0) (zqc Try.f13 0) (nE L d v ++ [(9, it k)]) .normal (nE L d (v + if gtI d (L.th.getD k default) then 1 else 0) ++ [(9, it (k + 1 : Nat))]) := by
 rw [ne_l0]
 have h6 := ne6_0 L d v k
 rw [show decide ((k : Int) < ((List.map Idd.enc (Lp.th L)).length : Nat)) = true by rw [decide_eq_true]; rw [List.length_map]; omega] at h6
 have hm : L.th.getD k default ∈ L.th := by rw [List.getD_eq_getElem?_getD, List.getElem?_eq_getElem h]; exact List.getElem_mem h
 obtain ⟨y0, y1⟩ := hy _ hm
 have h8 := ne8_0 L d v k hd (decide_eq_true (by rw [List.length_map]; omega)) (getD_id h) (decide_eq_true (by simp only [Int.toNat_natCast]; exact ⟨y0, Int.lt_of_le_of_lt y1 (by decide), by decide⟩)) (decide_eq_true ⟨rfl, by rw [List.length_map, hd]; simp only [Int.toNat_natCast]; show _ * 1 < 7; omega⟩) (getD_it (by simp only [Int.toNat_natCast]; omega))
 simp only [Int.toNat_natCast, Nat.mul_one] at h8
 have h7 := fun u => ne7_0 L d u k
 rw [up64 (by omega)] at h7
 refine .seq (env1 := nE L d v ++ [(9, it k)]) (.seq h6 (.cond (b := true) rfl (.after (kp [5, 7, 8, 9]) .skip))) (.seq (.block (ex := .normal) (.seq (show Tri Try.prog (cxN 81 0) (zqr Try.f13 8) (nE L d v ++ [(9, it k)]) .normal (nE L d v ++ [(9, it k), (51, bb (gtI d (L.th.getD k default)))]) from h8) (env' := nE L d (v + if gtI d (L.th.getD k default) then 1 else 0) ++ [(9, it k)]) ?_) (.inr ⟨by simp, rfl⟩)) (h7 _))
 cases hg : gtI d (L.th.getD k default) with
 | false => rw [if_neg (by simp), Int.add_zero]; exact .cond (b := false) rfl (.after (kp [5, 7, 8, 9]) .skip)
 | true =>
  have h9 := ne9_0 L d v k
  rw [wrap_i (by omega) (by omega)] at h9
  rw [if_pos rfl]; exact .cond (b := true) rfl (.weak (kp [5, 7, 8, 9]) h9)
theorem neI_loop (hy : ∀ p ∈ L.th, 0 ≤ p.y ∧ p.y ≤ 6) : ∀ (j k : Nat) (v : Int), k + j = L.th.length → 0 ≤ v → v ≤ 1 + k → Rnd Try.prog (cxN 81 0) (zqc Try.f13 0) (j + 1) (nE L d v ++ [(9, it k)]) (.exit 0) (nE L d (v + ((L.th.drop k).countP (gtI d) : Nat)))
 | 0, k, v, h, _, _ => by
  rw [List.drop_eq_nil_of_le (by omega), List.countP_nil, Int.natCast_zero, Int.add_zero]
  exact .exit (neI_end L d hd ht v k (by omega)) (by simp)
 | j + 1, k, v, h, h0, h1 => by
  have hk : k < L.th.length := by omega
  rw [drop_cons _ hk default, List.countP_cons]
  have h2 := neI_loop hy j (k + 1) (v + if gtI d (L.th.getD k default) then 1 else 0) (by omega) (by split <;> omega) (by split <;> omega)
  rw [show v + ((List.countP (gtI d) (List.drop (k + 1) L.th) + if gtI d (L.th.getD k default) = true then 1 else 0 : Nat) : Int) = (v + if gtI d (L.th.getD k default) then 1 else 0) + (List.countP (gtI d) (List.drop (k + 1) L.th) : Nat) by split <;> omega]
  exact .step (neI_step L d hd ht v k hk hy h0 h1) h2
omit ht
include hp
theorem neP_end (v : Int) (k : Nat) (h : L.pa.length ≤ k) : Tri Try.prog (cxN 81 0) (zqc Try.f13 1) (nE L d v ++ [(10, it k)]) (.exit 2) (nE L d v) := by
 rw [ne_l2]
 have h6 := ne11_0 L d v k
 rw [show decide ((k : Int) < ((List.map Ps.enc (Lp.pa L)).length : Nat)) = false by rw [decide_eq_false]; rw [List.length_map]; omega] at h6
 exact .seqX (.seq h6 (.cond (b := false) rfl (.after (kp [5, 7, 8]) .exit))) (by simp)
theorem neP_step (v : Int) (k : Nat) (h : k < L.pa.length) (hy : ∀ p ∈ L.pa, 0 ≤ p.y ∧ p.y ≤ 6) (hv0 : 0 ≤ v) (hv : v ≤ 2 ^ 61 + k) : Tri Try.prog (cxN 81 0) (zqc Try.f13 1) (nE L d v ++ [(10, it k)]) .normal (nE L d (v + if gtP d (L.pa.getD k default) then 1 else 0) ++ [(10, it (k + 1 : Nat))]) := by
 rw [ne_l2]
 have h6 := ne11_0 L d v k
 rw [show decide ((k : Int) < ((List.map Ps.enc (Lp.pa L)).length : Nat)) = true by rw [decide_eq_true]; rw [List.length_map]; omega] at h6
 have hm : L.pa.getD k default ∈ L.pa := by rw [List.getD_eq_getElem?_getD, List.getElem?_eq_getElem h]; exact List.getElem_mem h
 obtain ⟨y0, y1⟩ := hy _ hm
 have h8 := ne13_0 L d v k hd (decide_eq_true (by rw [List.length_map]; omega)) (getD_ps h) (decide_eq_true (by simp only [Int.toNat_natCast]; exact ⟨y0, Int.lt_of_le_of_lt y1 (by decide), by decide⟩)) (decide_eq_true ⟨rfl, by rw [List.length_map, hd]; simp only [Int.toNat_natCast]; show _ * 1 < 7; omega⟩) (getD_it (by simp only [Int.toNat_natCast]; omega))
 simp only [Int.toNat_natCast, Nat.mul_one] at h8
 have h7 := fun u => ne12_0 L d u k
 rw [up64 (by omega)] at h7
 refine .seq (env1 := nE L d v ++ [(10, it k)]) (.seq h6 (.cond (b := true) rfl (.after (kp [5, 7, 8, 10]) .skip))) (.seq (.block (ex := .normal) (.seq (show Tri Try.prog (cxN 81 0) (zqr Try.f13 13) (nE L d v ++ [(10, it k)]) .normal (nE L d v ++ [(10, it k), (77, bb (gtP d (L.pa.getD k default)))]) from h8) (env' := nE L d (v + if gtP d (L.pa.getD k default) then 1 else 0) ++ [(10, it k)]) ?_) (.inr ⟨by simp, rfl⟩)) (h7 _))
 cases hg : gtP d (L.pa.getD k default) with
 | false => rw [if_neg (by simp), Int.add_zero]; exact .cond (b := false) rfl (.after (kp [5, 7, 8, 10]) .skip)
 | true =>
  have h9 := ne14_0 L d v k
  rw [wrap_i (by omega) (by omega)] at h9
  rw [if_pos rfl]; exact .cond (b := true) rfl (.weak (kp [5, 7, 8, 10]) h9)
theorem neP_loop (hy : ∀ p ∈ L.pa, 0 ≤ p.y ∧ p.y ≤ 6) : ∀ (j k : Nat) (v : Int), k + j = L.pa.length → 0 ≤ v → v ≤ 2 ^ 61 + k → Rnd Try.prog (cxN 81 0) (zqc Try.f13 1) (j + 1) (nE L d v ++ [(10, it k)]) (.exit 2) (nE L d (v + ((L.pa.drop k).countP (gtP d) : Nat)))
 | 0, k, v, h, _, _ => by
  rw [List.drop_eq_nil_of_le (by omega), List.countP_nil, Int.natCast_zero, Int.add_zero]
  exact .exit (neP_end L d hd hp v k (by omega)) (by simp)
 | j + 1, k, v, h, h0, h1 => by
  have hk : k < L.pa.length := by omega
  rw [drop_cons _ hk default, List.countP_cons]
  have h2 := neP_loop hy j (k + 1) (v + if gtP d (L.pa.getD k default) then 1 else 0) (by omega) (by split <;> omega) (by split <;> omega)
  rw [show v + ((List.countP (gtP d) (List.drop (k + 1) L.pa) + if gtP d (L.pa.getD k default) = true then 1 else 0 : Nat) : Int) = (v + if gtP d (L.pa.getD k default) then 1 else 0) + (List.countP (gtP d) (List.drop (k + 1) L.pa) : Nat) by split <;> omega]
  exact .step (neP_step L d hd hp v k hk hy h0 h1) h2
end
def needN (d : List Int) (p : Idd) (L : Lp) : Nat := (if d.getD p.y.toNat default < p.n then 1 else 0) + L.th.countP (gtI d) + L.pa.countP (gtP d)
theorem lneeds_c (c : Option Nat) (t : List Rw) (p : Idd) (d : List Int) (hd : d.length = 7) (hp0 : 1 ≤ p.y) (hp1 : p.y ≤ t.length) (hp6 : p.y ≤ 6) (hn0 : 0 ≤ p.n) (hn1 : p.n < (t.getD (p.y - 1).toNat default).l.length) (ht : (atV t p.y p.n).th.length < 2 ^ 60) (hp : (atV t p.y p.n).pa.length < 2 ^ 60) (hyt : ∀ q ∈ (atV t p.y p.n).th, 0 ≤ q.y ∧ q.y ≤ 6) (hyp : ∀ q ∈ (atV t p.y p.n).pa, 0 ≤ q.y ∧ q.y ≤ 6) : PureC Try.prog 13 [tsl c t, Idd.enc p, .agg (d.map itI)] (it (needN d p (atV t p.y p.n))) := by
 obtain ⟨y, n⟩ := p
 simp only at *
 have hw : IntKind.wrap IntKind.u8 (y - 1) = y - 1 := wrap_u (by omega) (by omega)
 have h0 : Tri Try.prog (cxN 81 0) (zqr Try.f13 0) [(0, tsl c t), (1, idE y n), (2, .agg (d.map itI))] .normal [(0, tsl c t), (4, .box [ub y, it n]), (5, .box (d.map itI))] := by
  match d, hd with
  | [d0, d1, d2, d3, d4, d5, d6], _ => exact .after (kp [0, 4, 5]) (ne0_0 c t y n d0 d1 d2 d3 d4 d5 d6)
 have h1 := ne1_0 c t y n d (by rw [hw, List.length_map]; exact decide_eq_true ⟨by omega, by omega⟩) (by rw [hw]; exact getD_rw (by omega)) (by rw [hw, List.length_map]; exact decide_eq_true ⟨hn0, hn1⟩) (by rw [hw]; exact getD_lp (by omega))
 rw [hw] at h1
 generalize hL : atV t y n = L at *
 have h1' : Tri Try.prog (cxN 81 0) (zqr Try.f13 1) [(0, tsl c t), (4, .box [ub y, it n]), (5, .box (d.map itI))] .normal [(4, .box [ub y, it n]), (5, .box (d.map itI)), (7, lpB L)] := by rw [← hL]; exact h1
 have h3 := ne3_0 L y n d hd (decide_eq_true ⟨by omega, Int.lt_of_le_of_lt hp6 (by decide), by decide⟩) (decide_eq_true ⟨rfl, by rw [List.length_map, hd]; show _ * 1 < 7; omega⟩) (getD_it (by omega))
 simp only [Nat.mul_one] at h3
 let v1 : Int := if d.getD y.toNat default < n then 1 else 0
 have h3' : Tri Try.prog (cxN 81 0) (.seq (zqr Try.f13 3) (.cond (.tmp 27) (zqr Try.f13 4) .skip)) [(4, .box [ub y, it n]), (5, .box (d.map itI)), (7, lpB L), (8, it 0)] .normal (nE L d v1) := by
  refine .seq h3 ?_
  by_cases hg : d.getD y.toNat default < n
  ·rw [decide_eq_true hg, show v1 = 0 + 1 from if_pos hg]
   have h4 := ne4_0 L d 0
   rw [wrap_i (by omega) (by omega)] at h4
   exact .cond (b := true) rfl (.weak (kp [5, 7, 8]) h4)
  ·rw [decide_eq_false hg, show v1 = 0 from if_neg hg]
   exact .cond (b := false) rfl (.after (kp [5, 7, 8]) .skip)
 have hv0 : 0 ≤ v1 := by show 0 ≤ (if _ then (1 : Int) else 0); split <;> omega
 have hv1 : v1 ≤ 1 := by show (if _ then (1 : Int) else 0) ≤ 1; split <;> omega
 have hI := (neI_loop L d hd ht hyt L.th.length 0 v1 (by omega) hv0 (by omega)).loop
 rw [List.drop_zero] at hI
 have hcI : L.th.countP (gtI d) ≤ L.th.length := List.countP_le_length
 have hP := (neP_loop L d hd hp hyp L.pa.length 0 (v1 + (L.th.countP (gtI d) : Nat)) (by omega) (by omega) (by omega)).loop
 rw [List.drop_zero] at hP
 have hr : ((needN d ⟨y, n⟩ L : Nat) : Int) = v1 + (L.th.countP (gtI d) : Nat) + (L.pa.countP (gtP d) : Nat) := by
  show (((if d.getD y.toNat default < n then 1 else 0) + _ + _ : Nat) : Int) = (if d.getD y.toNat default < n then (1 : Int) else 0) + _ + _
  split <;> omega
 rw [hr]
 refine pureT ((base 81 0).ok zqb.1 zqb.2) Try.func13 rfl (by show 3 ≤ 81; omega) rfl ne_body rfl (ex := .ret) (env' := [(6, it (v1 + (L.th.countP (gtI d) : Nat) + (L.pa.countP (gtP d) : Nat)))]) ?_ (by kernel_rfl)
 refine .seq h0 (.seq h1' (.seq (ne2_0 L y n d) (.seq h3' (.seq (.seq (ne5_0 L d v1) (.block (ex := .exit 0) hI (.inl ⟨rfl, rfl⟩))) (.seq (.seq (ne10_0 L d _) (.block (ex := .exit 2) hP (.inl ⟨rfl, rfl⟩))) (.seq (.weak (kp [8]) (ne15_0 _)) .ret))))))
def HOf (c : Option Nat) (x : List Lx) (m : List (List Lp)) (md : List Idd) : Prop := PureC Try.prog 9 [xsl c x] (.tup [tGW m, iow none md])
def HOr (t : List Rw) (l : List Idd) : Prop := PureC Try.prog 10 [tsl none t] (.tup [iow (some l.length) l, it 0])
def HCk (t : List Rw) : Prop := PureC Try.prog 11 [tsl none t] (it 0)
theorem uHCk {t : List Rw} (h : HCk t) : PureC Try.prog 11 [tsl none t] (it 0) := h
def HCn (t : List Rw) (n : Int) : Prop := PureC Try.prog 12 [tsl none t] (it n)
theorem uHCn {t : List Rw} {n : Int} (h : HCn t n) : PureC Try.prog 12 [tsl none t] (it n) := h
def HNe (t : List Rw) (z n d0 d1 d2 d3 d4 d5 d6 : Int) (v : Int) : Prop := PureC Try.prog 13 [tsl none t, idE z n, .agg [it d0, it d1, it d2, it d3, it d4, it d5, it d6]] (it v)
theorem uHNe {t : List Rw} {z n d0 d1 d2 d3 d4 d5 d6 : Int} {v : Int} (h : HNe t z n d0 d1 d2 d3 d4 d5 d6 v) : PureC Try.prog 13 [tsl none t, idE z n, .agg [it d0, it d1, it d2, it d3, it d4, it d5, it d6]] (it v) := h
theorem lo0_0 (c : Option Nat) (x : List Lx) : Tri Try.prog (cxN 100 0) (zqr Try.f3 0) ([(0, xsl c x)]) .normal ([(0, xsl c x)]) :=
 ev h3 [.c] zqa
theorem lo3_2 (t : List Rw) (md l : List Idd) (n : Int) (hck : HCk t) (hcn : HCn t n) (g0 : (((l.map Idd.enc).length : Int) != ((md.map Idd.enc).length : Int)) = false) (g1 : ((l.length : Int) != ((l.map Idd.enc).length : Int)) = false) : Tri Try.prog (cxN 100 0) (zqr Try.f3 3) ([(3, tsl none t), (4, isl none md), (5, isl (some l.length) l), (6, it 0)]) .normal ([(3, tsl none t), (5, isl (some (l.length)) l), (49, bb (n != ((md.map Idd.enc).length : Int)))]) :=
 ev h3 [.c, .r (tsl none t), .r (it 0), .c, .c, .c, .c, .c, .c, .c, .c, .c, .c, .c, .c, .c, .c, .c, .c, .c, .c, .c, .c, .c, .c, .c, .c, .b false, .c, .b false, .c, .b false, .c, .b false, .c, .b false, .c, .b false, .c, .c, .b false, .c, .b false, .r (tsl none t), .r (it n), .c, .c, .b false, .c, .b false, .c, .b false, .c, .b false, .c] (allp (zqg .any none t) (allp (p := PureC Try.prog 11 [tsl none t] (it 0)) (by apply uHCk<;>first|assumption|rfl|(simp at *<;>omega)) (allp g0 (allp g0 (allp g0 (allp g0 (allp g0 (allp g0 (allp g1 (allp g1 (allp (zqg .any none t) (allp (p := PureC Try.prog 12 [tsl none t] (it n)) (by apply uHCn<;>first|assumption|rfl|(simp at *<;>omega)) (allp g1 (allp g1 (allp g1 (allp g1 zqa))))))))))))))))
theorem lo5_0 (t : List Rw) (l : List Idd) : Tri Try.prog (cxN 100 0) (zqr Try.f3 5) ([(3, tsl none t), (5, isl (some l.length) l)]) .normal ([(3, tsl none t), (5, isl (some (l.length)) l), (7, AV.box [it 0, it 0, it 0, it 0, it 0, it 0, it 0])]) :=
 ev h3 [.c] zqa
theorem lo6_0 (t : List Rw) (l : List Idd) (d : List Int) : Tri Try.prog (cxN 100 0) (zqr Try.f3 6) ([(3, tsl none t), (5, isl (some l.length) l), (7, .box (d.map itI))]) .normal ([(3, tsl none t), (5, isl (some (l.length)) l), (7, AV.box (List.map itI d)), (8, it 0)]) :=
 ev h3 [.c] zqa
theorem lo7_0 (t : List Rw) (l : List Idd) (d : List Int) (i : Int) : Tri Try.prog (cxN 100 0) (zqr Try.f3 7) ([(3, tsl none t), (5, isl (some l.length) l), (7, .box (d.map itI)), (8, it i)]) .normal ([(3, tsl none t), (5, isl (some (l.length)) l), (7, AV.box (List.map itI d)), (8, it i), (53, bb (decide (i < ((l.map Idd.enc).length : Int))))]) :=
 ev h3 [.c, .c, .c, .c] zqa
theorem lo8_0 (t : List Rw) (l : List Idd) (d : List Int) (i : Int) : Tri Try.prog (cxN 100 0) (zqr Try.f3 8) ([(3, tsl none t), (5, isl (some l.length) l), (7, .box (d.map itI)), (8, it i)]) .normal ([(3, tsl none t), (5, isl (some (l.length)) l), (7, AV.box (List.map itI d)), (8, it (IntKind.i64.wrap (i + (1 : Int))))]) :=
 ev h3 [.c, .c, .c] zqa
theorem lo9_0 (t : List Rw) (l : List Idd) (d : List Int) (i : Int) : Tri Try.prog (cxN 100 0) (zqr Try.f3 9) ([(3, tsl none t), (5, isl (some l.length) l), (7, .box (d.map itI)), (8, it i)]) .normal ([(3, tsl none t), (5, isl (some (l.length)) l), (7, AV.box (List.map itI d)), (8, it i), (9, bb false)]) :=
 ev h3 [.c] zqa
theorem lo10_0 (t : List Rw) (l : List Idd) (d : List Int) (i : Int) : Tri Try.prog (cxN 100 0) (zqr Try.f3 10) ([(3, tsl none t), (5, isl (some l.length) l), (7, .box (d.map itI)), (8, it i), (9, bb false)]) .normal ([(3, tsl none t), (5, isl (some (l.length)) l), (7, AV.box (List.map itI d)), (8, it i), (9, bb false), (10, it 1)]) :=
 ev h3 [.c] zqa
theorem lo11_0 (t : List Rw) (l : List Idd) (d : List Int) (i y : Int) (b : Bool) (g0 : decide (y ≤ (6 : Int)) = true) : Tri Try.prog (cxN 100 0) (zqr Try.f3 11) ([(3, tsl none t), (5, isl (some l.length) l), (7, .box (d.map itI)), (8, it i), (9, bb b), (10, it y)]) .normal ([(3, tsl none t), (5, isl (some (l.length)) l), (7, AV.box (List.map itI d)), (8, it i), (9, bb b), (10, it y), (61, bb !b)]) :=
 ev h3 [.c, .c, .c, .b true, .c, .b true, .c, .b true, .c] (allp g0 (allp g0 (allp g0 zqa)))
theorem lo11_1 (t : List Rw) (l : List Idd) (d : List Int) (i y : Int) (b : Bool) (g0 : decide (y ≤ (6 : Int)) = false) : Tri Try.prog (cxN 100 0) (zqr Try.f3 11) ([(3, tsl none t), (5, isl (some l.length) l), (7, .box (d.map itI)), (8, it i), (9, bb b), (10, it y)]) .normal ([(3, tsl none t), (5, isl (some (l.length)) l), (7, AV.box (List.map itI d)), (8, it i), (9, bb b), (10, it y), (61, bb false)]) :=
 ev h3 [.c, .c, .c, .b false, .c, .b false, .c, .b false, .c] (allp g0 (allp g0 (allp g0 zqa)))
theorem lo12_0 (t : List Rw) (l : List Idd) (d : List Int) (i y : Int) (b : Bool) : Tri Try.prog (cxN 100 0) (zqr Try.f3 12) ([(3, tsl none t), (5, isl (some l.length) l), (7, .box (d.map itI)), (8, it i), (9, bb b), (10, it y)]) .normal ([(3, tsl none t), (5, isl (some (l.length)) l), (7, AV.box (List.map itI d)), (8, it i), (9, bb b), (10, it (IntKind.i64.wrap (y + (1 : Int))))]) :=
 ev h3 [.c, .c, .c] zqa
theorem lo13_0 (t : List Rw) (l : List Idd) (d : List Int) (i y : Int) (hd : d.length = 7) (g0 : decide (0 ≤ y ∧ y < ((7 : Nat) : Int) ∧ (0 : Nat) < (1 : Nat)) = true) (g1 : decide ((0 : Nat) = (0 : Nat) ∧ y.toNat * (1 : Nat) < (d.map itI).length) = true) (g2 : (d.map itI).getD (y.toNat * (1 : Nat)) AV.bad = itI (d.getD (y.toNat * (1 : Nat)) default)) : Tri Try.prog (cxN 100 0) (zqr Try.f3 13) ([(3, tsl none t), (5, isl (some l.length) l), (7, .box (d.map itI)), (8, it i), (9, bb false), (10, it y)]) .normal ([(3, tsl none t), (5, isl (some (l.length)) l), (7, AV.box (List.map itI d)), (8, it i), (9, bb false), (10, it y), (11, AV.box [ub (IntKind.u8.wrap y), it (d.getD (y.toNat * (1 : Nat)) default)])]) :=
 ev h3 [.c, .c, .c, .b true, .c, .b true, .r (itI (d.getD (y.toNat * (1 : Nat)) default)), .c, .c, .c, .c] (allp g0 (allp g1 (allp g2 zqa)))
theorem lo14_1 (t : List Rw) (l : List Idd) (d0 d1 d2 d3 d4 d5 d6 : Int) (i y z n v : Int) (hne : HNe t z n d0 d1 d2 d3 d4 d5 d6 v) (g0 : decide (0 ≤ IntKind.i64.wrap (y - (1 : Int)) ∧ IntKind.i64.wrap (y - (1 : Int)) < ((t.map Rw.enc).length : Int)) = true) (g1 : (t.map Rw.enc).getD ((IntKind.i64.wrap (y - (1 : Int))).toNat) AV.bad = Rw.enc (t.getD ((IntKind.i64.wrap (y - (1 : Int))).toNat) default)) (g2 : (n == (↑(List.length (List.map Lp.enc (Rw.l (t.getD ((IntKind.i64.wrap (y - (1 : Int))).toNat) default)))) : Int)) = false) : Tri Try.prog (cxN 100 0) (zqr Try.f3 14) ([(3, tsl none t), (5, isl (some l.length) l), (7, .box [it d0, it d1, it d2, it d3, it d4, it d5, it d6]), (8, it i), (9, bb false), (10, it y), (11, .box [ub z, it n])]) .normal ([(3, tsl none t), (5, isl (some (l.length)) l), (7, AV.box [it d0, it d1, it d2, it d3, it d4, it d5, it d6]), (8, it i), (9, bb false), (10, it y), (11, AV.box [ub z, it n]), (85, bb (decide ((0 : Int) < v)))]) :=
 ev h3 [.c, .c, .c, .c, .c, .c, .c, .b true, .r (Rw.enc (t.getD ((IntKind.i64.wrap (y - (1 : Int))).toNat) default)), .c, .c, .c, .c, .c, .b false, .c, .b false, .c, .b false, .c, .b false, .r (tsl none t), .r (it v), .c, .c, .b false, .c, .b false, .c] (allp g0 (allp g1 (allp g2 (allp g2 (allp g2 (allp g2 (allp (zqg .any none t) (allp (p := PureC Try.prog 13 [tsl none t, AV.agg [ub z, it n], AV.agg [it d0, it d1, it d2, it d3, it d4, it d5, it d6]] (it v)) (by apply uHNe<;>first|assumption|rfl|(simp at *<;>omega)) (allp g2 (allp g2 zqa))))))))))
theorem lo14n_0 (t : List Rw) (l : List Idd) (d0 d1 d2 d3 d4 d5 d6 : Int) (i y z n : Int) (g0 : decide (0 ≤ IntKind.i64.wrap (y - (1 : Int)) ∧ IntKind.i64.wrap (y - (1 : Int)) < ((t.map Rw.enc).length : Int)) = true) (g1 : (t.map Rw.enc).getD ((IntKind.i64.wrap (y - (1 : Int))).toNat) AV.bad = Rw.enc (t.getD ((IntKind.i64.wrap (y - (1 : Int))).toNat) default)) (g2 : (n == (↑(List.length (List.map Lp.enc (Rw.l (t.getD ((IntKind.i64.wrap (y - (1 : Int))).toNat) default)))) : Int)) = true) : Tri Try.prog (cxN 100 0) (zqr Try.f3 14) ([(3, tsl none t), (5, isl (some l.length) l), (7, .box [it d0, it d1, it d2, it d3, it d4, it d5, it d6]), (8, it i), (9, bb false), (10, it y), (11, .box [ub z, it n])]) .normal ([(3, tsl none t), (5, isl (some (l.length)) l), (7, AV.box [it d0, it d1, it d2, it d3, it d4, it d5, it d6]), (8, it i), (9, bb false), (10, it y), (11, AV.box [ub z, it n]), (85, bb true)]) :=
 ev h3 [.c, .c, .c, .c, .c, .c, .c, .b true, .r (Rw.enc (t.getD ((IntKind.i64.wrap (y - (1 : Int))).toNat) default)), .c, .c, .c, .c, .c, .b true, .c, .b true, .c, .b true, .c, .b true, .c, .b true, .c, .b true, .c] (allp g0 (allp g1 (allp g2 (allp g2 (allp g2 (allp g2 (allp g2 (allp g2 zqa))))))))
theorem lo15_0 (t : List Rw) (l : List Idd) (d : List Int) (i y z n : Int) : Tri Try.prog (cxN 100 0) (zqr Try.f3 15) ([(3, tsl none t), (5, isl (some l.length) l), (7, .box (d.map itI)), (8, it i), (9, bb false), (10, it y), (11, .box [ub z, it n])]) .normal ([(3, tsl none t), (5, isl (some (l.length)) l), (7, AV.box (List.map itI d)), (8, it i), (9, bb true), (10, it y), (11, AV.box [ub z, it n])]) :=
 ev h3 [.c] zqa
theorem lo16_0 (t : List Rw) (l : List Idd) (d : List Int) (i y z n : Int) (g0 : decide (0 ≤ i ∧ i < ((l.map Idd.enc).length : Int)) = true) (g1 : (l.map Idd.enc).getD i.toNat AV.bad = Idd.enc (l.getD i.toNat default)) : Tri Try.prog (cxN 100 0) (zqr Try.f3 16) ([(3, tsl none t), (5, isl (some l.length) l), (7, .box (d.map itI)), (8, it i), (9, bb true), (10, it y), (11, .box [ub z, it n])]) .normal ([(3, tsl none t), (5, isl (some (l.length)) l), (7, AV.box (List.map itI d)), (8, it i), (9, bb true), (10, it y), (91, bb !(Idd.y (l.getD i.toNat default) == z && Idd.n (l.getD i.toNat default) == n))]) :=
 ev h3 [.c, .c, .b true, .r (Idd.enc (l.getD i.toNat default)), .c, .c, .c, .c] (allp g0 (allp g1 zqa))
theorem lo18_0 (t : List Rw) (l : List Idd) (d : List Int) (i y : Int) (hd : d.length = 7) (g0 : decide (0 ≤ y ∧ y < ((7 : Nat) : Int) ∧ (0 : Nat) < (1 : Nat)) = true) (g1 : decide ((0 : Nat) = (0 : Nat) ∧ y.toNat * (1 : Nat) < (d.map itI).length) = true) (g2 : (d.map itI).getD (y.toNat * (1 : Nat)) AV.bad = itI (d.getD (y.toNat * (1 : Nat)) default)) : Tri Try.prog (cxN 100 0) (zqr Try.f3 18) ([(3, tsl none t), (5, isl (some l.length) l), (7, .box (d.map itI)), (8, it i), (9, bb true), (10, it y)]) .normal ([(3, tsl none t), (5, isl (some (l.length)) l), (7, AV.box (List.take (y.toNat * (1 : Nat)) (List.map itI d) ++ [it (IntKind.i64.wrap (d.getD (y.toNat * (1 : Nat)) default + (1 : Int)))] ++ List.drop (y.toNat * (1 : Nat) + (1 : Nat)) (List.map itI d))), (8, it i), (9, bb true), (10, it y)]) :=
 ev h3 [.c, .b true, .c, .b true, .r (itI (d.getD (y.toNat * (1 : Nat)) default)), .c, .c, .b true, .c, .b true, .r (itI (d.getD (y.toNat * (1 : Nat)) default)), .c] (allp g0 (allp g1 (allp g2 (allp g0 (allp g1 (allp g2 zqa))))))
theorem lo19_0 (t : List Rw) (l : List Idd) (d : List Int) (i : Int) (b : Bool) : Tri Try.prog (cxN 100 0) (zqr Try.f3 19) ([(3, tsl none t), (5, isl (some l.length) l), (7, .box (d.map itI)), (8, it i), (9, bb b)]) .normal ([(3, tsl none t), (5, isl (some (l.length)) l), (7, AV.box (List.map itI d)), (8, it i), (98, bb !b)]) :=
 ev h3 [.c, .c] zqa
theorem lo21_0 (t : List Rw) : Tri Try.prog (cxN 100 0) (zqr Try.f3 21) ([(3, tsl none t)]) .normal ([(2, bb true)]) :=
 ev h3 [.r (bb true), .c, .c, .c] (allp (p := PureC Try.prog 14 [] (bb true)) (by apply lives_c<;>first|assumption|rfl|(simp at *<;>omega)) zqa)
theorem topNo {env : Env} (h : ∀ p ∈ env, zqf p.2 = none) (r : Nat) : topOnly r env := by
 intro t y hl hy
 have : ∃ p ∈ env, p.2 = y := by
  clear hy
  induction env with
  | nil => cases hl
  | cons p env ih =>
   obtain ⟨s, z⟩ := p
   unfold Lf.lk at hl
   split at hl
   ·injection hl with hl; exact ⟨(s, z), List.mem_cons_self, hl⟩
   ·obtain ⟨q, hq, e⟩ := ih (fun q hq => h q (by simp [hq])) hl
    exact ⟨q, by simp [hq], e⟩
 obtain ⟨p, hp, rfl⟩ := this
 rw [h p hp] at hy; cases hy
theorem OpsR.grabAt {P : Program} {cx : Cx} {ops : Array Oper} {env : Env} {r : Nat} {p : Path} {xr : AV} {e : TypeId} {cap : Option Nat} {xs : List AV} (hr : lk env r = some xr) (hrt : zqu xr = true) (hg : getC xr p = some (.sl .own e cap xs)) (htop : topOnly r env) : OpsR P cx ops [] env (· = (r, setC xr p (share (.sl .own e cap xs))) :: env) := by
 intro ρ F B0 w0 S0 ds a w Q rest hag hQ
 obtain ⟨hd, hN, n, S, Os, hn, hgr, hst⟩ := hag
 obtain ⟨n', S', Os', vr, u, m, hn', hst', hS, _, _, _, _, _, hS'⟩ := hst.shareAt (p := p) hr hrt hg (.inr htop)
 refine hQ _ rfl a w ⟨hd, hN, n', S', Os', by omega, ⟨fun b hb => hS b (hgr.1 b hb), fun b hb => ?_⟩, hst'⟩
 rcases hS' b hb with h | h
 ·exact hgr.2 b h
 ·exact .inr (hst.lt r b h).1
theorem Le.viewS {P : Program} {e : TypeId} {cap : Option Nat} {xs : List AV} : Le P (.sl .fresh e cap xs) (view (.sl .fresh e cap xs)) := by
 intro B0 w S n v O hr
 obtain ⟨n, rfl⟩ := hr.pos
 have hz : O = fun _ => 0 := by
  obtain ⟨A, k, hv, hk, hm, hc, hu, hz, hx⟩ := hr
  exact funext hz
 subst hz
 exact Rv.remode (fun _ => .any) (fun m => by simp) (fun m h => by simp at h) (fun b h => h) (n + 1) 12 v _ _ (fun b hb => by simp at hb) hr
theorem view_xsl (c : Option Nat) (x : List Lx) : view (xsl c x) = xsl c x := by
 show AV.sl .any 67 c ((x.map Lx.enc).map (mapE (remode (fun _ => .any) 11))) = _
 rw [List.map_map]
 congr 1
 refine List.map_congr_left fun L _ => ?_
 show AV.agg [ub L.y, bb L.b, bb L.w, .sl .any 5 L.ct ((L.th.map ubE).map (mapE (remode (fun _ => .any) 10))), .sl .any 5 L.cp ((L.pa.map ubE).map (mapE (remode (fun _ => .any) 10)))] = Lx.enc L
 rw [List.map_map, List.map_map]; rfl
abbrev tSh (m : List (List Lp)) : AV := share (tGW m)
theorem view_tsh (m : List (List Lp)) (h : ∀ r ∈ m, ∀ L ∈ r, L.ct = none ∧ L.cp = none) : view (tSh m) = tsl none (tb m) := by
 show AV.sl .any 37 none (((m.map gOW).map (mapE (remode zqx 11))).map (mapE (remode (fun _ => .any) 11))) = .sl .any 37 none ((tb m).map Rw.enc)
 unfold tb
 rw [List.map_map, List.map_map, List.map_map]
 congr 1
 refine List.map_congr_left fun l hl => ?_
 show AV.sl .any 45 none (((l.map Lp.encG).map (mapE (remode zqx 10))).map (mapE (remode (fun _ => .any) 10))) = .sl .any 45 none (l.map Lp.enc)
 rw [List.map_map, List.map_map]
 congr 1
 refine List.map_congr_left fun K hK => ?_
 obtain ⟨h1, h2⟩ := h l hl K hK
 show AV.agg [ub K.b, bb K.w, .sl .any 36 none (((K.th.map Idd.enc).map (mapE (remode zqx 9))).map (mapE (remode (fun _ => .any) 9))), .sl .any 56 none (((K.pa.map Ps.enc).map (mapE (remode zqx 9))).map (mapE (remode (fun _ => .any) 9)))] = AV.agg [ub K.b, bb K.w, isl K.ct K.th, sl K.cp K.pa]
 rw [List.map_map, List.map_map, List.map_map, List.map_map, h1, h2]; rfl
section
variable (c : Option Nat) (x : List Lx) (m : List (List Lp)) (md : List Idd) (h : HOf c x m md)
include h
abbrev e1a : Env := [(14, .tup [tGW m, iow none md]), (13, xsl c x), (0, xsl c x)]
abbrev e1b : Env := (14, .tup [tSh m, iow none md]) :: e1a c x m md
abbrev e1c : Env := (14, .tup [tSh m, share (iow none md)]) :: e1b c x m md
theorem lo1_0 : Tri Try.prog (cxN 100 0) (.region 1 (zql Try.f3 1) false) [(0, xsl c x)] .normal ((4, share (iow none md)) :: (3, tSh m) :: (16, share (iow none md)) :: (15, tSh m) :: (12, .tup [tSh m, share (iow none md)]) :: (14, .bad) :: e1c c x m md) := by
 refine Tri.ofR (.region (R := (· = (4, share (iow none md)) :: (3, tSh m) :: (16, share (iow none md)) :: (15, tSh m) :: (12, .tup [tSh m, share (iow none md)]) :: (14, .bad) :: e1c c x m md)) ?_) fun e h => h
 rw [show (zql Try.f3 1).toList = (zql Try.f3 1).toList.take 2 ++ ([] ++ ([] ++ (zql Try.f3 1).toList.drop 2)) by kernel_rfl]
 refine .seq (OpsR.ev (base 100 0) zqb.1 zqb.2 (ans := [.c, .r (xsl c x), .r (.tup [tGW m, iow none md]), .c, .c]) (ps := [view (xsl c x) = xsl c x, PureC Try.prog 9 [xsl c x] (.tup [tGW m, iow none md])]) (env' := e1a c x m md) (by kernel_rfl) (allp (view_xsl c x) (allp h zqa))) ?_
 rintro _ rfl
 refine .seq (OpsR.grabAt (r := 14) (p := [(0, 0)]) rfl rfl rfl (topNo (by intro p hp; simp only [List.mem_cons, List.not_mem_nil, or_false] at hp; rcases hp with rfl | rfl | rfl <;> rfl) 14)) ?_
 rintro _ rfl
 refine .seq (OpsR.grabAt (r := 14) (p := [(0, 1)]) rfl rfl rfl (topNo (by intro p hp; simp only [List.mem_cons, List.not_mem_nil, or_false] at hp; rcases hp with rfl | rfl | rfl | rfl <;> rfl) 14)) ?_
 rintro _ rfl
 exact OpsR.ev (base 100 0) zqb.1 zqb.2 (ans := [.c, .c, .c, .c, .c, .c, .c]) (ps := []) (by kernel_rfl) zqa
omit h in
theorem share_isl (md : List Idd) : share (iow none md) = .sl .fresh 36 none (md.map Idd.enc) := by
 show AV.sl .fresh 36 none ((md.map Idd.enc).map (mapE (remode zqx 11))) = _
 rw [List.map_map]; rfl
theorem lo1_1 (hm : ∀ r ∈ m, ∀ L ∈ r, L.ct = none ∧ L.cp = none) : Tri Try.prog (cxN 100 0) (zqr Try.f3 1) [(0, xsl c x)] .normal [(3, tsl none (tb m)), (4, isl none md)] := by
 have h1 := lo1_0 c x m md h
 refine .less (.after (kp [3, 4]) h1) (.cons ⟨rfl, rfl, ?_⟩ (.cons ⟨rfl, rfl, ?_⟩ .nil))
 ·show Le Try.prog (tSh m) (tsl none (tb m))
  rw [← view_tsh m hm]; exact Le.viewS
 ·show Le Try.prog (share (iow none md)) (isl none md)
  rw [share_isl md]; exact Le.fresh
end
theorem share_islc (c : Option Nat) (md : List Idd) : share (iow c md) = .sl .fresh 36 c (md.map Idd.enc) := by
 show AV.sl .fresh 36 c ((md.map Idd.enc).map (mapE (remode zqx 11))) = _
 rw [List.map_map]; rfl
section
variable (t : List Rw) (md l : List Idd) (h : HOr t l)
include h
abbrev e2a : Env := [(19, .tup [iow (some l.length) l, it 0]), (18, tsl none t), (3, tsl none t), (4, isl none md)]
abbrev e2b : Env := (19, .tup [share (iow (some l.length) l), it 0]) :: e2a t md l
theorem lo2_0 : Tri Try.prog (cxN 100 0) (.region 2 (zql Try.f3 2) false) [(3, tsl none t), (4, isl none md)] .normal ((6, it 0) :: (5, share (iow (some l.length) l)) :: (21, it 0) :: (20, share (iow (some l.length) l)) :: (17, .tup [share (iow (some l.length) l), it 0]) :: (19, .bad) :: e2b t md l) := by
 refine Tri.ofR (.region (R := (· = (6, it 0) :: (5, share (iow (some l.length) l)) :: (21, it 0) :: (20, share (iow (some l.length) l)) :: (17, .tup [share (iow (some l.length) l), it 0]) :: (19, .bad) :: e2b t md l)) ?_) fun e h => h
 rw [show (zql Try.f3 2).toList = (zql Try.f3 2).toList.take 2 ++ ([] ++ (zql Try.f3 2).toList.drop 2) by kernel_rfl]
 refine .seq (OpsR.ev (base 100 0) zqb.1 zqb.2 (ans := [.c, .r (tsl none t), .r (.tup [iow (some l.length) l, it 0]), .c, .c]) (ps := [view (tsl none t) = tsl none t, PureC Try.prog 10 [tsl none t] (.tup [iow (some l.length) l, it 0])]) (env' := e2a t md l) (by kernel_rfl) (allp (zqg _ _ _) (allp h zqa))) ?_
 rintro _ rfl
 refine .seq (OpsR.grabAt (r := 19) (p := [(0, 0)]) rfl rfl rfl (topNo (by intro p hp; simp only [List.mem_cons, List.not_mem_nil, or_false] at hp; rcases hp with rfl | rfl | rfl | rfl <;> rfl) 19)) ?_
 rintro _ rfl
 exact OpsR.ev (base 100 0) zqb.1 zqb.2 (ans := [.c, .c, .c, .c, .c, .c, .c]) (ps := []) (by kernel_rfl) zqa
theorem lo2_1 : Tri Try.prog (cxN 100 0) (zqr Try.f3 2) [(3, tsl none t), (4, isl none md)] .normal [(3, tsl none t), (4, isl none md), (5, isl (some l.length) l), (6, it 0)] := by
 have h1 := lo2_0 t md l h
 refine .less (.after (kp [3, 4, 5, 6]) h1) (.cons ⟨rfl, rfl, Le.refl _⟩ (.cons ⟨rfl, rfl, Le.refl _⟩ (.cons ⟨rfl, rfl, ?_⟩ (.cons ⟨rfl, rfl, Le.refl _⟩ .nil))))
 show Le Try.prog (share (iow (some l.length) l)) (isl (some l.length) l)
 rw [share_islc]; exact Le.fresh
end
theorem lo_l1 : zqc Try.f3 1 = .seq (.seq (zqr Try.f3 11) (.cond (.tmp 61) .skip (.exit 2))) (.seq (.block 3 (.seq (zqr Try.f3 13) (.seq (.seq (zqr Try.f3 14) (.cond (.tmp 85) (.exit 3) .skip)) (.seq (zqr Try.f3 15) (.seq (.seq (zqr Try.f3 16) (.cond (.tmp 91) (.seq (zqr Try.f3 17) .ret) .skip)) (zqr Try.f3 18)))))) (zqr Try.f3 12)) := by kernel_rfl
theorem lo_l0 : zqc Try.f3 0 = .seq (.seq (zqr Try.f3 7) (.cond (.tmp 53) .skip (.exit 0))) (.seq (.block 1 (.seq (zqr Try.f3 9) (.seq (.seq (zqr Try.f3 10) (.block 2 (.loop (zqc Try.f3 1)))) (.seq (zqr Try.f3 19) (.cond (.tmp 98) (.seq (zqr Try.f3 20) .ret) .skip))))) (zqr Try.f3 8)) := by kernel_rfl
theorem lo_body : Try.f3.body = some (.seq (zqr Try.f3 0) (.seq (zqr Try.f3 1) (.seq (zqr Try.f3 2) (.seq (.seq (zqr Try.f3 3) (.cond (.tmp 49) (.seq (zqr Try.f3 4) .ret) .skip)) (.seq (zqr Try.f3 5) (.seq (.seq (zqr Try.f3 6) (.block 0 (.loop (zqc Try.f3 0)))) (.seq (zqr Try.f3 21) .ret))))))) := by kernel_rfl
theorem countP_zero {α : Type} {p : α → Bool} {l : List α} : l.countP p = 0 ↔ ∀ a ∈ l, p a = false := by
 rw [List.countP_eq_zero]
 exact ⟨fun h a ha => by simpa using h a ha, fun h a ha => by simp [h a ha]⟩
section
variable (m : List Int) (t : List Rw)
theorem need_ready (y n : Int) (L : Lp) (hy : okY L) (hn : (0 :: m).getD y.toNat default = n) : (needN (0 :: m) ⟨y, n⟩ L = 0 ↔ readyV m L = true) := by
 have gt : ∀ q : Idd, 1 ≤ q.y → (gtI (0 :: m) q = false ↔ q.n < gtM m q) := by
  intro q hq
  unfold gtI gtD gtM
  rw [show q.y.toNat = (q.y - 1).toNat + 1 by omega, List.getD_cons_succ]
  simp
 have e : needN (0 :: m) ⟨y, n⟩ L = L.th.countP (gtI (0 :: m)) + L.pa.countP (gtP (0 :: m)) := by
  unfold needN
  rw [hn, if_neg (by simp), Nat.zero_add]
 rw [e, show (L.th.countP (gtI (0 :: m)) + L.pa.countP (gtP (0 :: m)) = 0 ↔ L.th.countP (gtI (0 :: m)) = 0 ∧ L.pa.countP (gtP (0 :: m)) = 0) by omega, countP_zero, countP_zero]
 unfold readyV
 rw [List.all_eq_true]
 constructor
 ·rintro ⟨h1, h2⟩ p hp
  rw [decide_eq_true_eq]
  refine (gt p (hy p hp).1).1 ?_
  rcases List.mem_append.1 hp with hp | hp
  ·exact h1 p hp
  ·obtain ⟨q, hq, rfl⟩ := List.mem_map.1 hp
   exact h2 q hq
 ·intro h
  refine ⟨fun p hp => ?_, fun q hq => ?_⟩
  ·have hm : p ∈ zqz L := List.mem_append_left _ hp
   exact (gt p (hy p hm).1).2 (of_decide_eq_true (h p hm))
  ·have hm : (⟨q.y, q.n⟩ : Idd) ∈ zqz L := List.mem_append_right _ (List.mem_map.2 ⟨q, hq, rfl⟩)
   exact (gt _ (hy _ hm).1).2 (of_decide_eq_true (h _ hm))
variable (l : List Idd) (i : Nat) (hL : OkL t) (hM : OkM m t) (h6 : t.length = 6)
abbrev loE (d : List Int) (i : Nat) : Env := [(3, tsl none t), (5, isl (some l.length) l), (7, .box (d.map itI)), (8, it i)]
include hL hM h6
theorem lo14 (j : Nat) (hj : j < 6) : Tri Try.prog (cxN 100 0) (zqr Try.f3 14) (loE t l (0 :: m) i ++ [(9, bb false), (10, it (j + 1 : Nat)), (11, .box [ub (j + 1 : Nat), it (m.getD j default)])]) .normal (loE t l (0 :: m) i ++ [(9, bb false), (10, it (j + 1 : Nat)), (11, .box [ub (j + 1 : Nat), it (m.getD j default)]), (85, bb (!candV m t j))]) := by
 have hw : IntKind.wrap IntKind.i64 (((j + 1 : Nat) : Int) - 1) = (j : Int) := by rw [wrap_i (by omega) (by omega)]; omega
 have hr : t.getD j default ∈ t := row_mem m t hL hM (by omega)
 have hrow := hL.row _ hr
 obtain ⟨l0, l1⟩ := hM.le j (by omega)
 have hcd : candV m t j = (!(m.getD j default == (((t.getD j default).l.length : Nat) : Int)) && readyV m ((t.getD j default).l.getD (m.getD j default).toNat default)) := rfl
 obtain ⟨a0, a1, a2, a3, a4, a5, rfl⟩ : ∃ a0 a1 a2 a3 a4 a5, m = [a0, a1, a2, a3, a4, a5] := by
  match m, hM.len with
  | [a0, a1, a2, a3, a4, a5], _ => exact ⟨a0, a1, a2, a3, a4, a5, rfl⟩
 generalize hn : List.getD [a0, a1, a2, a3, a4, a5] j default = n at *
 have g0 : decide ((0 : Int) ≤ IntKind.wrap IntKind.i64 (((j + 1 : Nat) : Int) - 1) ∧ IntKind.wrap IntKind.i64 (((j + 1 : Nat) : Int) - 1) < ((List.length (List.map Rw.enc t) : Nat) : Int)) = true := by
  rw [hw, List.length_map]; exact decide_eq_true ⟨by omega, by omega⟩
 have g1 : List.getD (List.map Rw.enc t) (Int.toNat (IntKind.wrap IntKind.i64 (((j + 1 : Nat) : Int) - 1))) AV.bad = Rw.enc (List.getD t (Int.toNat (IntKind.wrap IntKind.i64 (((j + 1 : Nat) : Int) - 1))) default) := by
  rw [hw]; exact getD_rw (by simp only [Int.toNat_natCast]; omega)
 by_cases he : n = (((t.getD j default).l.length : Nat) : Int)
 ·have hc : candV [a0, a1, a2, a3, a4, a5] t j = false := by rw [hcd, he]; simp
  rw [hc]
  exact lo14n_0 t l 0 a0 a1 a2 a3 a4 a5 i ((j + 1 : Nat) : Int) ((j + 1 : Nat) : Int) n g0 g1 (by rw [hw, List.length_map]; simp only [Int.toNat_natCast]; rw [he]; simp)
 ·have hm2 : (t.getD j default).l.getD n.toNat default ∈ (t.getD j default).l := mem_getD (by omega)
  have hy := hL.yy _ hr _ hm2
  obtain ⟨k1, k2⟩ := hL.th _ hr _ hm2
  have e1 : (((j + 1 : Nat) : Int) - 1).toNat = j := by omega
  have ea : atV t ((j + 1 : Nat) : Int) n = (t.getD j default).l.getD n.toNat default := by unfold atV; rw [e1]
  have hN := lneeds_c none t ⟨((j + 1 : Nat) : Int), n⟩ [0, a0, a1, a2, a3, a4, a5] rfl (by show (1 : Int) ≤ ((j + 1 : Nat) : Int); omega) (by show ((j + 1 : Nat) : Int) ≤ _; omega) (by show ((j + 1 : Nat) : Int) ≤ _; omega) l0 (by show n < _; rw [e1]; omega) (by rw [ea]; exact k1) (by rw [ea]; exact k2) (by rw [ea]; exact fun q hq => ⟨by have := (hy q (List.mem_append_left _ hq)).1; omega, (hy q (List.mem_append_left _ hq)).2⟩) (by rw [ea]; exact fun q hq => ⟨by have := (hy ⟨q.y, q.n⟩ (List.mem_append_right _ (List.mem_map.2 ⟨q, hq, rfl⟩))).1; simp only at this; omega, (hy ⟨q.y, q.n⟩ (List.mem_append_right _ (List.mem_map.2 ⟨q, hq, rfl⟩))).2⟩)
  rw [ea] at hN
  have hq := lo14_1 t l 0 a0 a1 a2 a3 a4 a5 i ((j + 1 : Nat) : Int) ((j + 1 : Nat) : Int) n _ hN g0 g1 (by rw [hw, List.length_map]; simp only [Int.toNat_natCast]; rw [beq_eq_false_iff_ne]; exact he)
  have hv : decide ((0 : Int) < ((needN [0, a0, a1, a2, a3, a4, a5] ⟨((j + 1 : Nat) : Int), n⟩ ((t.getD j default).l.getD n.toNat default) : Nat) : Int)) = !candV [a0, a1, a2, a3, a4, a5] t j := by
   have hnr := need_ready [a0, a1, a2, a3, a4, a5] ((j + 1 : Nat) : Int) n _ hy (by rw [show (((j + 1 : Nat) : Int)).toNat = j + 1 by omega, List.getD_cons_succ]; exact hn)
   rw [hcd, show (n == (((t.getD j default).l.length : Nat) : Int)) = false by rw [beq_eq_false_iff_ne]; exact he, Bool.not_false, Bool.true_and]
   cases hb : readyV [a0, a1, a2, a3, a4, a5] ((t.getD j default).l.getD n.toNat default) with
   | true => rw [hnr.2 hb]; rfl
   | false =>
    rw [Bool.not_false, decide_eq_true_eq]
    have : needN [0, a0, a1, a2, a3, a4, a5] ⟨((j + 1 : Nat) : Int), n⟩ ((t.getD j default).l.getD n.toNat default) ≠ 0 := fun h0 => by rw [hnr.1 h0] at hb; cases hb
    omega
  rw [hv] at hq
  exact hq
end
section
variable (m : List Int) (t : List Rw) (l : List Idd) (i : Nat) (hL : OkL t) (hM : OkM m t) (h6 : t.length = 6)
theorem loI_end (d : List Int) (y : Int) (b : Bool) (h : 6 < y ∨ b = true) : Tri Try.prog (cxN 100 0) (zqc Try.f3 1) (loE t l d i ++ [(9, bb b), (10, it y)]) (.exit 2) (loE t l d i ++ [(9, bb b)]) := by
 rw [lo_l1]
 have h1 : Tri Try.prog (cxN 100 0) (zqr Try.f3 11) (loE t l d i ++ [(9, bb b), (10, it y)]) .normal (loE t l d i ++ [(9, bb b), (10, it y), (61, bb false)]) := by
  by_cases hy : y ≤ 6
  ·have hb : b = true := h.resolve_left (by omega)
   subst hb
   exact lo11_0 t l d i y true (decide_eq_true hy)
  ·exact lo11_1 t l d i y b (decide_eq_false hy)
 exact .seqX (.seq h1 (.cond (b := false) rfl (.after (kp [3, 5, 7, 8, 9]) .exit))) (by simp)
theorem lo11t (d : List Int) (y : Int) (h : y ≤ 6) : Tri Try.prog (cxN 100 0) (.seq (zqr Try.f3 11) (.cond (.tmp 61) .skip (.exit 2))) (loE t l d i ++ [(9, bb false), (10, it y)]) .normal (loE t l d i ++ [(9, bb false), (10, it y)]) :=
 .seq (lo11_0 t l d i y false (decide_eq_true h)) (.cond (b := true) rfl (.after (kp [3, 5, 7, 8, 9, 10]) .skip))
include hM in
theorem lo13t (j : Nat) (hj : j < 6) : Tri Try.prog (cxN 100 0) (zqr Try.f3 13) (loE t l (0 :: m) i ++ [(9, bb false), (10, it (j + 1 : Nat))]) .normal (loE t l (0 :: m) i ++ [(9, bb false), (10, it (j + 1 : Nat)), (11, .box [ub (j + 1 : Nat), it (m.getD j default)])]) := by
 have hd : (0 :: m).length = 7 := by rw [List.length_cons, hM.len]
 have hy : ((j + 1 : Nat) : Int) < 7 := by omega
 have h := lo13_0 t l (0 :: m) i ((j + 1 : Nat) : Int) hd (decide_eq_true ⟨by omega, hy, by decide⟩) (decide_eq_true ⟨rfl, by rw [List.length_map, hd]; show _ * 1 < 7; omega⟩) (getD_it (by rw [hd]; omega))
 rw [wrap_u (by omega) (by omega), show Int.toNat ((j + 1 : Nat) : Int) * 1 = j + 1 by omega, List.getD_cons_succ] at h
 exact h
include hL hM h6
theorem loI_no (j : Nat) (hj : j < 6) (hc : candV m t j = false) : Tri Try.prog (cxN 100 0) (zqc Try.f3 1) (loE t l (0 :: m) i ++ [(9, bb false), (10, it (j + 1 : Nat))]) .normal (loE t l (0 :: m) i ++ [(9, bb false), (10, it (j + 2 : Nat))]) := by
 rw [lo_l1]
 have h14 := lo14 m t l i hL hM h6 j hj
 rw [hc] at h14
 have h12 := lo12_0 t l (0 :: m) i ((j + 1 : Nat) : Int) false
 rw [up64 (by omega)] at h12
 refine .seq (lo11t t l i _ _ (by omega)) (.seq (.block (ex := .exit 3) (.seq (lo13t m t l i hM j hj) (.seqX (.seq h14 (.cond (b := true) rfl (.after (kp [3, 5, 7, 8, 9, 10]) .exit))) (by simp))) (.inl ⟨rfl, rfl⟩)) h12)
theorem loI_yes (j : Nat) (hj : j < 6) (hc : candV m t j = true) (hi : i < l.length) (hli : l.getD i default = ⟨((j + 1 : Nat) : Int), m.getD j default⟩) : Tri Try.prog (cxN 100 0) (zqc Try.f3 1) (loE t l (0 :: m) i ++ [(9, bb false), (10, it (j + 1 : Nat))]) .normal (loE t l (0 :: bump m j) i ++ [(9, bb true), (10, it (j + 2 : Nat))]) := by
 rw [lo_l1]
 have hrow := hL.row _ (row_mem m t hL hM (by omega : j < t.length))
 obtain ⟨m0, m1⟩ := hM.le j (by omega)
 have hd : (0 :: m).length = 7 := by rw [List.length_cons, hM.len]
 have h14 := lo14 m t l i hL hM h6 j hj
 rw [hc] at h14
 have h12 := lo12_0 t l (0 :: bump m j) i ((j + 1 : Nat) : Int) true
 rw [up64 (by omega)] at h12
 have h15 := lo15_0 t l (0 :: m) i ((j + 1 : Nat) : Int) ((j + 1 : Nat) : Int) (m.getD j default)
 have h16 := lo16_0 t l (0 :: m) i ((j + 1 : Nat) : Int) ((j + 1 : Nat) : Int) (m.getD j default) (decide_eq_true (by rw [List.length_map]; omega)) (getD_id (by omega))
 rw [Int.toNat_natCast, hli, show (!(((j + 1 : Nat) : Int) == ((j + 1 : Nat) : Int) && m.getD j default == m.getD j default)) = false by simp] at h16
 have h18 := lo18_0 t l (0 :: m) i ((j + 1 : Nat) : Int) hd (decide_eq_true ⟨by omega, show ((j + 1 : Nat) : Int) < 7 by omega, by decide⟩) (decide_eq_true ⟨rfl, by rw [List.length_map, hd]; show _ * 1 < 7; omega⟩) (getD_it (by rw [hd]; omega))
 rw [show Int.toNat ((j + 1 : Nat) : Int) * 1 = j + 1 by omega, List.getD_cons_succ, wrap_i (by omega) (by omega)] at h18
 have eb : List.take (j + 1) (List.map itI (0 :: m)) ++ [AV.atom (Value.int IntKind.i64 (m.getD j default + 1))] ++ List.drop (j + 1 + 1) (List.map itI (0 :: m)) = (0 :: bump m j).map itI := by
  unfold bump
  rw [List.map_cons, List.map_cons, List.map_append, List.map_append, List.map_take, List.map_drop]; rfl
 rw [eb] at h18
 refine .seq (lo11t t l i _ _ (by omega)) (.seq (.block (ex := .normal) (.seq (lo13t m t l i hM j hj) (.seq (.seq h14 (.cond (b := false) rfl (.after (kp [3, 5, 7, 8, 9, 10, 11]) .skip))) (.seq h15 (.seq (.seq h16 (.cond (b := false) rfl (.after (kp [3, 5, 7, 8, 9, 10]) .skip))) h18)))) (.inr ⟨by simp, rfl⟩)) h12)
theorem loI_rnd : ∀ (k j i0 : Nat), j + k = 6 → leastF m t k j = some i0 → i < l.length → l.getD i default = ⟨((i0 + 1 : Nat) : Int), m.getD i0 default⟩ → Rnd Try.prog (cxN 100 0) (zqc Try.f3 1) (k + 1) (loE t l (0 :: m) i ++ [(9, bb false), (10, it (j + 1 : Nat))]) (.exit 2) (loE t l (0 :: bump m i0) i ++ [(9, bb true)])
 | 0, j, i0, _, h, _, _ => by simp [leastF] at h
 | k + 1, j, i0, hk, h, hi, hli => by
  rw [leastF] at h
  by_cases hc : candV m t j = true
  ·rw [if_pos hc] at h
   injection h with h; subst h
   exact .step (loI_yes m t l i hL hM h6 j (by omega) hc hi hli) (.exit (loI_end t l i (0 :: bump m j) _ true (.inr rfl)) (by simp))
  ·rw [if_neg hc] at h
   exact .step (loI_no m t l i hL hM h6 j (by omega) (by simpa using hc)) (loI_rnd k (j + 1) i0 (by omega) h hi hli)
end
section
variable (m : List Int) (t : List Rw) (l : List Idd) (i : Nat) (hL : OkL t) (hM : OkM m t) (h6 : t.length = 6)
theorem loO_end (d : List Int) (h : l.length ≤ i) : Tri Try.prog (cxN 100 0) (zqc Try.f3 0) (loE t l d i) (.exit 0) [(3, tsl none t)] := by
 rw [lo_l0]
 have h7 := lo7_0 t l d i
 rw [show decide ((i : Int) < ((List.map Idd.enc l).length : Nat)) = false by rw [decide_eq_false]; rw [List.length_map]; omega] at h7
 exact .seqX (.seq h7 (.cond (b := false) rfl (.after (kp [3]) .exit))) (by simp)
include hL hM h6
theorem loO_step (i0 : Nat) (h : leastV m t = some i0) (hi : i < l.length) (hl : l.length < 2 ^ 60) (hli : l.getD i default = ⟨((i0 + 1 : Nat) : Int), m.getD i0 default⟩) : Tri Try.prog (cxN 100 0) (zqc Try.f3 0) (loE t l (0 :: m) i) .normal (loE t l (0 :: bump m i0) (i + 1)) := by
 rw [lo_l0]
 have h7 := lo7_0 t l (0 :: m) i
 rw [show decide ((i : Int) < ((List.map Idd.enc l).length : Nat)) = true by rw [decide_eq_true]; rw [List.length_map]; omega] at h7
 have h8 := lo8_0 t l (0 :: bump m i0) i
 rw [up64 (by omega)] at h8
 have hI := (loI_rnd m t l i hL hM h6 6 0 i0 (by omega) (by rw [leastV, h6] at h; exact h) hi hli).loop
 have h19 := lo19_0 t l (0 :: bump m i0) i true
 refine .seq (.seq h7 (.cond (b := true) rfl (.after (kp [3, 5, 7, 8]) .skip))) (.seq (.block (ex := .normal) (.seq (lo9_0 t l (0 :: m) i) (.seq (.seq (lo10_0 t l (0 :: m) i) (.block (ex := .exit 2) hI (.inl ⟨rfl, rfl⟩))) (.seq h19 (.cond (b := false) rfl (.after (kp [3, 5, 7, 8]) .skip))))) (.inr ⟨by simp, rfl⟩)) h8)
end
theorem loO_rnd (t : List Rw) (l : List Idd) (hL : OkL t) (h6 : t.length = 6) (hl : l.length < 2 ^ 60) : ∀ (f : Nat) (m : List Int) (i : Nat), OkM m t → l.drop i = firstF t f m → Rnd Try.prog (cxN 100 0) (zqc Try.f3 0) (f + 1) (loE t l (0 :: m) i) (.exit 0) [(3, tsl none t)]
 | 0, m, i, hM, h => .exit (loO_end t l i _ (List.drop_eq_nil_iff.1 h)) (by simp)
 | f + 1, m, i, hM, h => by
  rw [firstF] at h
  cases hv : leastV m t with
  | none =>
   rw [hv] at h
   exact .exit (loO_end t l i _ (List.drop_eq_nil_iff.1 h)) (by simp)
  | some i0 =>
   rw [hv] at h
   simp only at h
   have hi : i < l.length := by
    by_cases hi : i < l.length
    ·exact hi
    ·rw [List.drop_eq_nil_of_le (by omega)] at h; cases h
   rw [drop_cons l hi default] at h
   injection h with h1 h2
   exact .step (loO_step m t l i hL hM h6 i0 hv hi hl h1) (loO_rnd t l hL h6 hl f _ _ (hM.bump hL hv) h2)
theorem len_step {α : Type} : ∀ (m : List (List α)) (k : Nat) (r : α), k < m.length → ((m.set k (m.getD k default ++ [r])).map List.length).sum = (m.map List.length).sum + 1
 | [], k, r, h => by simp at h
 | a :: m, 0, r, h => by simp; omega
 | a :: m, k + 1, r, h => by
  have := len_step m k r (by simpa using h)
  simp only [List.set_cons_succ, List.map_cons, List.sum_cons, List.getD_cons_succ]
  omega
theorem cnt_tb (m : List (List Lp)) : cntV (tb m) = (m.map List.length).sum := by
 unfold cntV tb
 rw [List.map_map]; rfl
theorem cnt_fold : ∀ (x : List Lx) (S : OfS), S.m.length = 6 → (S.m.map List.length).sum = S.md.length → ((x.foldl ofStep S).m.map List.length).sum = (x.foldl ofStep S).md.length ∧ (x.foldl ofStep S).md.length = S.md.length + x.length
 | [], S, h6, h => ⟨h, rfl⟩
 | L :: x, S, h6, h => by
  have h1 : (ofStep S L).m.length = 6 := by unfold ofStep; rw [List.length_set]; exact h6
  have h2 : (ofStep S L).md.length = S.md.length + 1 := by unfold ofStep; rw [List.length_append]; rfl
  have h3 : ((ofStep S L).m.map List.length).sum = (ofStep S L).md.length := by
   rw [h2, ← h]; exact len_step S.m _ _ (by rw [h6]; exact Nat.mod_lt _ (by omega))
  obtain ⟨k1, k2⟩ := cnt_fold x (ofStep S L) h1 h3
  exact ⟨k1, by rw [List.foldl_cons, k2, h2, List.length_cons]; omega⟩
theorem cnt_of (x : List Lx) : cntV (tb (ofS x).m) = (ofS x).md.length ∧ (ofS x).md.length ≤ 60 := by
 obtain ⟨h1, h2⟩ := cnt_fold (x.take 60) S0 rfl rfl
 refine ⟨by rw [cnt_tb]; exact h1, ?_⟩
 show (List.foldl ofStep S0 (x.take 60)).md.length ≤ 60
 rw [h2, List.length_take]
 show 0 + _ ≤ 60
 omega
theorem mem_sum {α : Type} : ∀ {m : List (List α)} {r : List α}, r ∈ m → r.length ≤ (m.map List.length).sum
 | a :: m, r, h => by
  rw [List.map_cons, List.sum_cons]
  rcases List.mem_cons.1 h with rfl | h
  ·omega
  ·have := mem_sum h; omega
theorem row_cnt {m : List (List Lp)} {r : List Lp} (h : r ∈ m) : r.length ≤ cntV (tb m) := by
 rw [cnt_tb]; exact mem_sum h
theorem law_order (c : Option Nat) (x : List Lx) (hx : x.length < 2 ^ 63) (hX : ∀ L ∈ x, OkX L) : PureC Try.prog 3 [xsl c x] (bb true) := by
 have hS := valid_of x hX
 obtain ⟨hcm, hc60⟩ := cnt_of x
 have hof : HOf c x (ofS x).m (ofS x).md := of_c c x hx hX
 generalize ofS x = S at *
 have hrow : ∀ r ∈ S.m, r.length < 2 ^ 60 := fun r hr => by have := row_cnt hr; omega
 have ht6 : (tb S.m).length = 6 := by rw [tb_len, hS.m6]
 have hrow' : ∀ r ∈ tb S.m, r.l.length < 2 ^ 60 := fun r hr => by
  obtain ⟨q, hq, rfl⟩ := List.mem_map.1 hr
  exact hrow q hq
 have hOT := hS.okT
 have hL := hS.okL hrow
 have hch := hS.check hrow (by omega)
 have hfl : (firstV (tb S.m)).length = cntV (tb S.m) := first_len hL hS.ok
 have hm : ∀ r ∈ S.m, ∀ L ∈ r, L.ct = none ∧ L.cp = none := fun r hr L hL' => ⟨(hS.fine r hr L hL').ct, (hS.fine r hr L hL').cp⟩
 have htw := hOT.tw (by omega) (by omega) hrow'
 have hor : HOr (tb S.m) (firstV (tb S.m)) := by
  have h := order_c none (tb S.m) (twV (tb S.m)) (by omega) (by omega) hrow' hOT htw
  unfold orderT at h
  rw [if_pos (show checkV (tb S.m) (twV (tb S.m)) = 0 from hch)] at h
  unfold HOr
  rw [hfl]; exact h
 have hck : HCk (tb S.m) := by
  have h := chk_c none (tb S.m) (by omega) (by omega) hrow' hOT
  rw [hch] at h; exact h
 have hcn : HCn (tb S.m) ((cntV (tb S.m) : Nat) : Int) := count_0 none (tb S.m) (by omega) (by omega)
 have h3 := lo3_2 (tb S.m) S.md (firstV (tb S.m)) _ hck hcn (by rw [List.length_map, List.length_map, hfl, hcm]; simp) (by rw [List.length_map]; simp)
 rw [List.length_map, hcm, show ((S.md.length : Int) != (S.md.length : Int)) = false by simp] at h3
 have hl := (loO_rnd (tb S.m) (firstV (tb S.m)) hL ht6 (by omega) (cntV (tb S.m) + 1) m0 0 (okM0 _) (by rw [List.drop_zero]; rfl)).loop
 have h5 : Tri Try.prog (cxN 100 0) (zqr Try.f3 5) [(3, tsl none (tb S.m)), (5, isl (some (firstV (tb S.m)).length) (firstV (tb S.m)))] .normal [(3, tsl none (tb S.m)), (5, isl (some (firstV (tb S.m)).length) (firstV (tb S.m))), (7, .box ((0 :: m0).map itI))] := lo5_0 _ _
 refine pureT ((base 100 0).ok zqb.1 zqb.2) Try.func3 rfl (by show 1 ≤ 100; omega) rfl lo_body rfl (ex := .ret) (env' := [(2, bb true)]) ?_ (by kernel_rfl)
 refine .seq (lo0_0 c x) (.seq (lo1_1 c x S.m S.md hof hm) (.seq (lo2_1 (tb S.m) S.md _ hor) (.seq (.seq h3 (.cond (b := false) rfl (.after (kp [3, 5]) .skip))) (.seq h5 (.seq (.seq (lo6_0 _ _ (0 :: m0)) (.block (ex := .exit 0) hl (.inl ⟨rfl, rfl⟩))) (.seq (lo21_0 _) .ret))))))
theorem F2.cons' {α β : Type} {R : α → β → Prop} {x : α} {l : List α} {m : List β} (h : F2 R (x :: l) m) : ∃ y m', m = y :: m' ∧ R x y ∧ F2 R l m' := by
 cases h with
 | cons h t => exact ⟨_, _, rfl, h, t⟩
theorem F2.nil' {α β : Type} {R : α → β → Prop} {m : List β} (h : F2 R [] m) : m = [] := by cases h; rfl
section
variable {P : Program} {t : TypeId} {ys : List AV}
theorem sh_int (m : Nat) {k : IntKind} (hu : P.underlying t = some (.int k)) (h : Shape P (m + 1) t ys) : ∃ i, ys = [.atom (.int k i)] ∧ (Lit.int k i).wf = true := by
 unfold Shape at h; rw [hu] at h; exact h
theorem sh_bool (m : Nat) (hu : P.underlying t = some .bool) (h : Shape P (m + 1) t ys) : ∃ b, ys = [.atom (.bool b)] := by
 unfold Shape at h; rw [hu] at h; exact h
theorem sh_slice (m : Nat) {e : TypeId} (hu : P.underlying t = some (.slice e)) (h : Shape P (m + 1) t ys) : ∃ xs, ys = [.sl .any e none xs] ∧ xs.length ≤ maxLen ∧ ∀ x ∈ xs, ∃ cs, x = elOf P e cs ∧ cs.length = P.cellsOf e ∧ Shape P m e cs := by
 unfold Shape at h; rw [hu] at h; exact h
theorem sh_struct (m : Nat) {fs : Array Field} (hu : P.underlying t = some (.struct fs)) (h : Shape P (m + 1) t ys) : ∃ yss : List (List AV), ys = yss.flatten ∧ F2 (fun f cs => Shape P m f.type cs) fs.toList yss := by
 unfold Shape at h; rw [hu] at h; exact h
end
theorem choose_map {α : Type} (f : α → AV) (Q : α → Prop) : ∀ xs : List AV, (∀ x ∈ xs, ∃ a, x = f a ∧ Q a) → ∃ l : List α, xs = l.map f ∧ ∀ a ∈ l, Q a
 | [], _ => ⟨[], rfl, by simp⟩
 | x :: xs, h => by
  obtain ⟨a, rfl, ha⟩ := h x (by simp)
  obtain ⟨l, rfl, hl⟩ := choose_map f Q xs fun y hy => h y (by simp [hy])
  exact ⟨a :: l, rfl, by
   intro b hb
   rcases List.mem_cons.1 hb with rfl | hb
   ·exact ha
   ·exact hl b hb⟩
def U8 (x : Int) : Prop := 0 ≤ x ∧ x ≤ 255
theorem u8_wf {i : Int} (h : (Lit.int .u8 i).wf = true) : U8 i := by
 simp only [Lit.wf, Bool.and_eq_true, decide_eq_true_eq] at h
 exact h
def Arg (P : Program) (t : TypeId) (x : AV) : Prop := ∃ ys, x = elOf P t ys ∧ Shape P 8 t ys ∧ ys.length = P.cellsOf t
theorem args1 {P : Program} {s : TypeId} {xs : List AV} (h : F2 (Arg P) [s] xs) : ∃ x, xs = [x] ∧ Arg P s x := by
 obtain ⟨x, _, rfl, h1, h⟩ := F2.cons' h
 obtain rfl := F2.nil' h
 exact ⟨x, rfl, h1⟩
theorem el_no {P : Program} {t : TypeId} (h : aggT P t = false) (x : AV) : elOf P t [x] = x := by unfold elOf; rw [if_neg (Bool.eq_false_iff.1 h)]; rfl
structure Ty5 (P : Program) : Prop where
 u3 : P.underlying 3 = some (.int .i64)
 u4 : P.underlying 4 = some .bool
 u5 : P.underlying 5 = some (.int .u8)
 u65 : P.underlying 65 = some (.slice 5)
 u23 : P.underlying 23 = some (.slice 67)
 u67 : ∃ a b c d e : Field, P.underlying 67 = some (.struct #[a, b, c, d, e]) ∧ a.type = 5 ∧ b.type = 4 ∧ c.type = 4 ∧ d.type = 65 ∧ e.type = 65
 a67 : aggT P 67 = true
 a5 : aggT P 5 = false
 a23 : aggT P 23 = false
theorem tyP5 : Ty5 Try.prog := ⟨Try.underlying3, Try.underlying4, Try.underlying5, Try.underlying65, Try.underlying23, ⟨_, _, _, _, _, Try.underlying67, rfl, rfl, rfl, rfl, rfl⟩, by kernel_rfl, by kernel_rfl, by kernel_rfl⟩
section
variable {P : Program} {m : Nat}
theorem u8_of (T : Ty5 P) {ys : List AV} (h : Shape P (m + 2) 65 ys) : ∃ l : List Int, ys = [u8l none l] ∧ (∀ p ∈ l, U8 p) ∧ l.length ≤ maxLen := by
 obtain ⟨xs, rfl, hl, hx⟩ := sh_slice (m + 1) T.u65 h
 obtain ⟨a, rfl, ha⟩ := choose_map ubE U8 xs fun x hx' => by
  obtain ⟨cs, rfl, _, hc⟩ := hx x hx'
  obtain ⟨i, rfl, w⟩ := sh_int m T.u5 hc
  exact ⟨i, el_no T.a5 _, u8_wf w⟩
 exact ⟨a, rfl, ha, by simpa using hl⟩
theorem lx_of (T : Ty5 P) {cs : List AV} (h : Shape P (m + 3) 67 cs) : ∃ L : Lx, .agg cs = Lx.enc L ∧ OkX L := by
 obtain ⟨fa, fb, fc, fd, fe, hu, ta, tb, tc, td, te⟩ := T.u67
 obtain ⟨yss, rfl, hf⟩ := sh_struct (m + 2) hu h
 obtain ⟨c1, _, rfl, h1, hf⟩ := F2.cons' hf
 obtain ⟨c2, _, rfl, h2, hf⟩ := F2.cons' hf
 obtain ⟨c3, _, rfl, h3, hf⟩ := F2.cons' hf
 obtain ⟨c4, _, rfl, h4, hf⟩ := F2.cons' hf
 obtain ⟨c5, _, rfl, h5, hf⟩ := F2.cons' hf
 obtain rfl := F2.nil' hf
 rw [ta] at h1; rw [tb] at h2; rw [tc] at h3; rw [td] at h4; rw [te] at h5
 obtain ⟨y, rfl, w1⟩ := sh_int (m + 1) T.u5 h1
 obtain ⟨b, rfl⟩ := sh_bool (m + 1) T.u4 h2
 obtain ⟨w, rfl⟩ := sh_bool (m + 1) T.u4 h3
 obtain ⟨th, rfl, t1, t2⟩ := u8_of T h4
 obtain ⟨pa, rfl, p1, p2⟩ := u8_of T h5
 have hy := u8_wf w1
 exact ⟨⟨y, b, w, none, th, none, pa⟩, rfl, hy.1, hy.2, t1, p1, Nat.lt_of_le_of_lt t2 (by decide), Nat.lt_of_le_of_lt p2 (by decide)⟩
theorem arg23 (T : Ty5 P) {x : AV} (h : Arg P 23 x) : ∃ l : List Lx, x = xsl none l ∧ l.length < 2 ^ 63 ∧ ∀ L ∈ l, OkX L := by
 obtain ⟨ys, rfl, hs, _⟩ := h
 obtain ⟨xs, rfl, hl, hx⟩ := sh_slice 7 T.u23 hs
 obtain ⟨a, rfl, ha⟩ := choose_map Lx.enc OkX xs fun x hx' => by
  obtain ⟨cs, rfl, _, hc⟩ := hx x hx'
  obtain ⟨L, hL, ok⟩ := lx_of (m := 4) T hc
  exact ⟨L, by unfold elOf; rw [if_pos T.a67]; exact hL, ok⟩
 exact ⟨a, el_no T.a23 _, Nat.lt_of_le_of_lt (by simpa using hl) (by decide), ha⟩
end
end Tst
end

section
open Go Go.Lf Go.Proofs Tst
namespace Go.Proofs.Ytpjlfgacjbkbbaa.loopsOrder
theorem LoopsOrder_pure (xs : List AV) (h : F2 (fun t x => ∃ ys, x = elOf Try.prog t ys ∧ Shape Try.prog 8 t ys ∧ ys.length = Try.prog.cellsOf t) Try.f3.params.toList xs) : PureC Try.prog 3 xs (.atom (.bool true)) := by
 rw [Try.params3] at h
 obtain ⟨x, rfl, h1⟩ := args1 (P := Try.prog) h
 obtain ⟨l, rfl, hl, hX⟩ := arg23 tyP5 h1
 exact law_order none l hl hX
end Go.Proofs.Ytpjlfgacjbkbbaa.loopsOrder
end
