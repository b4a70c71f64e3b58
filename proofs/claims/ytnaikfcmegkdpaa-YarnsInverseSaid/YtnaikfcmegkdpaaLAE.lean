/- Part 5 of the evaluator and of the contracts that the claim uses. -/
import Derived.Test.YtnaikfcmegkdpaaLAA
import Derived.Test.YtnaikfcmegkdpaaLAB
import Derived.Test.YtnaikfcmegkdpaaLAC
import Derived.Test.YtnaikfcmegkdpaaLAD
set_option linter.unusedVariables false
set_option linter.unusedSimpArgs false
set_option linter.constructorNameAsVariable false

section
open Go Go.Lf Go.Proofs
namespace Tst
theorem lcan_eq {p q : Ps} (hp : 0 ≤ p.d) (hq : 0 ≤ q.d) : lcan p q = can p q := by
  obtain ⟨y, n, f, d⟩ := p
  obtain ⟨y', n', f', d'⟩ := q
  simp only at hp hq
  rw [Bool.eq_iff_iff]
  simp only [lcan, can, turnP, Bool.and_eq_true, beq_iff_eq, decide_eq_true_eq, bne_iff_ne, ne_eq, Ps.mk.injEq]
  constructor
  · rintro ⟨⟨⟨⟨⟨rfl, rfl⟩, rfl⟩, h1⟩, h2⟩, h3⟩
    refine ⟨⟨rfl, rfl, rfl, ?_⟩, rfl, rfl, rfl, ?_⟩ <;> split <;> omega
  · rintro ⟨⟨rfl, rfl, rfl, h1⟩, _, _, _, h2⟩
    split at h1 <;> split at h2 <;> refine ⟨⟨⟨⟨⟨rfl, rfl⟩, rfl⟩, ?_⟩, ?_⟩, ?_⟩ <;> omega

theorem split_at (b : List Ps) (i : Nat) (h : i + 1 < b.length) : b = b.take i ++ b.getD i default :: b.getD (i + 1) default :: b.drop (i + 2) := by
  have e1 : b.drop i = b.getD i default :: b.drop (i + 1) := by
    rw [List.drop_eq_getElem_cons (by omega)]; simp [List.getD_eq_getElem?_getD, show i < b.length by omega]
  have e2 : b.drop (i + 1) = b.getD (i + 1) default :: b.drop (i + 2) := by
    rw [List.drop_eq_getElem_cons h]; simp [List.getD_eq_getElem?_getD, h]
  rw [← e2, ← e1, List.take_append_drop]

theorem nf_cut (b : List Ps) (i : Nat) (h : i + 1 < b.length) (hc : can (b.getD i default) (b.getD (i + 1) default) = true) : nf (b.take i ++ b.drop (i + 2)) = nf b := by
  conv => rhs; rw [split_at b i h]
  exact (nf_step _ _ hc).symm

theorem mem_wf {b : List Ps} (h : ∀ p ∈ b, 0 ≤ p.d) {i : Nat} (hi : i < b.length) : 0 ≤ (b.getD i default).d := by
  refine h _ ?_
  simp only [List.getD_eq_getElem?_getD, List.getElem?_eq_getElem hi, Option.getD_some]
  exact List.getElem_mem hi

theorem lredu_rnd (M : Nat) : ∀ (n : Nat) (b : List Ps) (i : Nat) (c : Option Nat), (∀ p ∈ b, 0 ≤ p.d) → b.length ≤ 4294967296 → (∀ j, j + 1 ≤ i → j + 1 < b.length → can (b.getD j default) (b.getD (j + 1) default) = false) →
    i ≤ b.length → b.length + 2 ≤ M → b.length * M + (b.length - i) ≤ n → Rnd Try.prog (cxN 41 0) (loopBody Try.f18 0) (n + 1) [(3, ow c b), (4, it i)] (.exit 0) [(3, ow none (nf b))] := by
  intro n
  induction n with
  | zero =>
    intro b i c hwf hb hirr hil hM hn
    have hb0 : b = [] := by
      cases b with
      | nil => rfl
      | cons p b => simp only [List.length_cons, Nat.add_mul] at hn; omega
    subst hb0
    have hi0 : i = 0 := by simpa using hil
    subst hi0
    refine Rnd.weak [(3, .forget), (4, .keep)] (Rnd.exit (Tri.after [(3, .keep)] (lredu_2 [] 0 (by decide))) (by simp))
  | succ n ih =>
    intro b i c hwf hb hirr hil hM hn
    refine Rnd.weak [(3, .forget), (4, .keep)] ?_
    have hw1 : IntKind.i64.wrap ((i : Int) + 1) = (i : Int) + 1 := wrap_id (by omega) (by omega)
    have hw2 : IntKind.i64.wrap ((i : Int) + 2) = (i : Int) + 2 := wrap_id (by omega) (by omega)
    by_cases hlt : i + 1 < b.length
    · have t1 : ((i : Int) + 1).toNat = i + 1 := by omega
      have t2 : ((i : Int) + 2).toNat = i + 2 := by omega
      have hl := lcan_eq (mem_wf hwf (show i < b.length by omega)) (mem_wf hwf hlt)
      cases hc : can (b.getD i default) (b.getD (i + 1) default) with
      | false =>
        have h1 := lredu_0 b i (by rw [hw1]; simp; omega) (by simp; omega) (by simp; omega) (getD_enc (by simp; omega)) (by rw [hw1]; simp; omega) (by rw [hw1, t1]; simp; omega) (by rw [hw1, t1]; exact getD_enc hlt) (by rw [hw1, t1]; simp only [Int.toNat_natCast, hl, hc]; rfl)
        rw [hw1] at h1
        refine Rnd.step h1 (ih b (i + 1) none hwf hb ?_ (by omega) hM (by omega))
        intro j hj hj2
        by_cases hji : j + 1 ≤ i
        · exact hirr j hji hj2
        · have : j = i := by omega
          subst this; exact hc
      | true =>
        have h1 := lredu_1 b i (by rw [hw1]; simp; omega) (by simp; omega) (by simp; omega) (getD_enc (by simp; omega)) (by rw [hw1]; simp; omega) (by rw [hw1, t1]; simp; omega) (by rw [hw1, t1]; exact getD_enc hlt) (by rw [hw1, t1]; simp only [Int.toNat_natCast, hl, hc]; rfl)
          rfl (by simp) (by simp; omega) (by simp; omega) (by simp only [decide_eq_true_eq, ← List.map_take, ← List.map_drop]; exact ⟨trivial, all_plain _, all_four _⟩) (by simp; omega) (by simp only [← List.map_take, ← List.map_drop, List.map_append, List.map_nil])
          (by rw [hw2]; simp; omega) (by rw [hw2, t2]; simp; omega) (by rw [hw2, t2]; simp; omega) (by simp only [decide_eq_true_eq, ← List.map_take, ← List.map_drop]; exact ⟨trivial, all_plain _, all_four _⟩) (by rw [hw2, t2]; simp; omega) (by simp only [← List.map_take, ← List.map_drop, List.map_append, List.map_nil])
        have e1 : ([] ++ List.take ((i : Int).toNat - 0) (List.drop 0 b) ++ List.take ((b.map Ps.enc).length - (IntKind.i64.wrap ((i : Int) + 2)).toNat) (List.drop (IntKind.i64.wrap ((i : Int) + 2)).toNat b)) = b.take i ++ b.drop (i + 2) := by
          rw [hw2, t2]
          simp only [Int.toNat_natCast, Nat.sub_zero, List.drop_zero, List.nil_append, List.length_map]
          congr 1
          exact List.take_of_length_le (by simp)
        rw [e1] at h1
        have hlen : (b.take i ++ b.drop (i + 2)).length + 2 = b.length := by simp; omega
        have h2 := fun c => ih (b.take i ++ b.drop (i + 2)) 0 c (fun p hp => by
          rcases List.mem_append.1 hp with h | h
          · exact hwf p (List.mem_of_mem_take h)
          · exact hwf p (List.mem_of_mem_drop h)) (by omega) (fun j hj _ => by omega) (by omega) (by omega) (by
            have e3 : b.length * M = (b.take i ++ b.drop (i + 2)).length * M + 2 * M := by rw [← hlen, Nat.add_mul]
            omega)
        simp only [nf_cut b i hlt hc] at h2
        exact Rnd.step h1 (h2 _)
    · have hn2 : nf b = b := nf_id (irr_of _ b rfl fun j hj => hirr j (by omega) hj)
      rw [hn2]
      exact Rnd.exit (Tri.after [(3, .keep)] (lredu_2 b i (by rw [hw1]; simp; omega))) (by simp)
theorem lredu_loop (b : List Ps) (c : Option Nat) (hwf : ∀ p ∈ b, 0 ≤ p.d) (hb : b.length ≤ 4294967296) : Tri Try.prog (cxN 41 0) (.loop (loopBody Try.f18 0)) [(3, ow c b), (4, it 0)] (.exit 0) [(3, ow none (nf b))] :=
  Rnd.loop (lredu_rnd (b.length + 2) _ b 0 c hwf hb (fun j hj _ => by omega) (by omega) (Nat.le_refl _) (Nat.le_refl _))

theorem lback_rnd (M : Nat) : ∀ (n : Nat) (b : List Ps) (i : Int) (c : Option Nat), (∀ p ∈ b, 0 ≤ p.d) → b.length ≤ 4294967296 → (∀ j : Nat, i < j → j + 1 < b.length → can (b.getD j default) (b.getD (j + 1) default) = false) →
    -2 ≤ i → i + 1 < b.length → b.length + 2 ≤ M → b.length * M + (i + 2).toNat ≤ n → Rnd Try.prog (cxN 40 0) (loopBody Try.f20 0) (n + 1) [(3, ow c b), (4, it i)] (.exit 0) [(3, ow none (nf b))] := by
  intro n
  induction n with
  | zero =>
    intro b i c hwf hb hirr hil hiu hM hn
    have hb0 : b = [] := by
      cases b with
      | nil => rfl
      | cons p b => simp only [List.length_cons, Nat.add_mul] at hn; omega
    subst hb0
    have hi0 : i = -2 := by omega
    subst hi0
    exact Rnd.weak [(3, .forget), (4, .keep)] (Rnd.exit (Tri.after [(3, .keep)] (lback_2 [] (-2) (by decide))) (by simp))
  | succ n ih =>
    intro b i c hwf hb hirr hil hiu hM hn
    refine Rnd.weak [(3, .forget), (4, .keep)] ?_
    by_cases hi0 : 0 ≤ i
    · obtain ⟨i, rfl⟩ : ∃ k : Nat, i = k := ⟨i.toNat, by omega⟩
      have hw1 : IntKind.i64.wrap ((i : Int) + 1) = (i : Int) + 1 := wrap_id (by omega) (by omega)
      have hw2 : IntKind.i64.wrap ((i : Int) + 2) = (i : Int) + 2 := wrap_id (by omega) (by omega)
      have hw0 : IntKind.i64.wrap ((i : Int) - 1) = (i : Int) - 1 := wrap_id (by omega) (by omega)
      have hlt : i + 1 < b.length := by omega
      have t1 : ((i : Int) + 1).toNat = i + 1 := by omega
      have t2 : ((i : Int) + 2).toNat = i + 2 := by omega
      have hl := lcan_eq (mem_wf hwf (show i < b.length by omega)) (mem_wf hwf hlt)
      cases hc : can (b.getD i default) (b.getD (i + 1) default) with
      | false =>
        have h1 := lback_0 b i (by simp) (by simp; omega) (by simp; omega) (getD_enc (by simp; omega)) (by rw [hw1]; simp; omega) (by rw [hw1, t1]; simp; omega) (by rw [hw1, t1]; exact getD_enc hlt) (by rw [hw1, t1]; simp only [Int.toNat_natCast, hl, hc]; rfl)
        rw [hw0] at h1
        refine Rnd.step h1 (ih b ((i : Int) - 1) none hwf hb ?_ (by omega) (by omega) hM (by omega))
        intro j hj hj2
        by_cases hji : (i : Int) < j
        · exact hirr j hji hj2
        · have : j = i := by omega
          subst this; exact hc
      | true =>
        have h1 := lback_1 b i (by simp) (by simp; omega) (by simp; omega) (getD_enc (by simp; omega)) (by rw [hw1]; simp; omega) (by rw [hw1, t1]; simp; omega) (by rw [hw1, t1]; exact getD_enc hlt) (by rw [hw1, t1]; simp only [Int.toNat_natCast, hl, hc]; rfl)
          rfl (by simp; omega) (by simp; omega) (by simp only [decide_eq_true_eq, ← List.map_take, ← List.map_drop]; exact ⟨trivial, all_plain _, all_four _⟩) (by simp; omega) (by simp only [← List.map_take, ← List.map_drop, List.map_append, List.map_nil])
          (by rw [hw2]; simp; omega) (by rw [hw2, t2]; simp; omega) (by rw [hw2, t2]; simp; omega) (by simp only [decide_eq_true_eq, ← List.map_take, ← List.map_drop]; exact ⟨trivial, all_plain _, all_four _⟩) (by rw [hw2, t2]; simp; omega) (by simp only [← List.map_take, ← List.map_drop, List.map_append, List.map_nil])
        have e1 : ([] ++ List.take ((i : Int).toNat - 0) (List.drop 0 b) ++ List.take ((b.map Ps.enc).length - (IntKind.i64.wrap ((i : Int) + 2)).toNat) (List.drop (IntKind.i64.wrap ((i : Int) + 2)).toNat b)) = b.take i ++ b.drop (i + 2) := by
          rw [hw2, t2]
          simp only [Int.toNat_natCast, Nat.sub_zero, List.drop_zero, List.nil_append, List.length_map]
          congr 1
          exact List.take_of_length_le (by simp)
        rw [e1] at h1
        have hlen : (b.take i ++ b.drop (i + 2)).length + 2 = b.length := by simp; omega
        have hw3 : IntKind.i64.wrap ((((b.take i ++ b.drop (i + 2)).map Ps.enc).length : Int) - 2) = ((b.take i ++ b.drop (i + 2)).length : Int) - 2 := by
          rw [List.length_map]; exact wrap_id (by omega) (by omega)
        rw [hw3] at h1
        have h2 := fun c => ih (b.take i ++ b.drop (i + 2)) (((b.take i ++ b.drop (i + 2)).length : Int) - 2) c (fun p hp => by
          rcases List.mem_append.1 hp with h | h
          · exact hwf p (List.mem_of_mem_take h)
          · exact hwf p (List.mem_of_mem_drop h)) (by omega) (fun j hj _ => by omega) (by omega) (by omega) (by omega) (by
            have e3 : b.length * M = (b.take i ++ b.drop (i + 2)).length * M + 2 * M := by rw [← hlen, Nat.add_mul]
            omega)
        simp only [nf_cut b i hlt hc] at h2
        exact Rnd.step h1 (h2 _)
    · have hn2 : nf b = b := nf_id (irr_of _ b rfl fun j hj => hirr j (by omega) hj)
      rw [hn2]
      exact Rnd.exit (Tri.after [(3, .keep)] (lback_2 b i (by simpa using hi0))) (by simp)
theorem lback_loop (b : List Ps) (c : Option Nat) (hwf : ∀ p ∈ b, 0 ≤ p.d) (hb : b.length ≤ 4294967296) : Tri Try.prog (cxN 40 0) (.loop (loopBody Try.f20 0)) [(3, ow c b), (4, it (IntKind.i64.wrap (((b.map Ps.enc).length : Int) - 2)))] (.exit 0) [(3, ow none (nf b))] := by
  have hw3 : IntKind.i64.wrap (((b.map Ps.enc).length : Int) - 2) = (b.length : Int) - 2 := by
    rw [List.length_map]; exact wrap_id (by omega) (by omega)
  rw [hw3]
  exact Rnd.loop (lback_rnd (b.length + 2) _ b _ c hwf hb (fun j hj _ => by omega) (by omega) (by omega) (Nat.le_refl _) (Nat.le_refl _))
end Tst
end

section
open Go Go.Lf Go.Proofs
namespace Tst
theorem cancel_c (p q : Ps) : PureC Try.prog 43 [p.enc, q.enc] (.atom (.bool (can p q))) := by
  have e1 := ps_beq (turnP p) q
  have e2 := ps_beq (turnP q) p
  cases h : (turnP p == q) with
  | true =>
    have := cancel_0 p q (by rw [e1, h])
    rw [e2] at this
    have hc : can p q = (turnP q == p) := by simp [can, h]
    rw [hc]; exact this
  | false =>
    have := cancel_1 p q (by rw [e1, h])
    have hc : can p q = false := by simp [can, h]
    rw [hc]; exact this
end Tst
end

section
open Go Go.Lf Go.Proofs
namespace Tst
theorem lred_0 (ca : Option Nat) (l st : List Ps) (n : Nat) (i : Int) (g0 : decide (i < (↑(List.length l) : Int)) = true) (g1 : decide ((0 : Int) ≤ i ∧ i < (↑(List.length (List.map Ps.enc l)) : Int)) = true) (g2 : List.getD (List.map Ps.enc l) (Int.toNat i) AV.bad = Ps.enc (List.getD l (Int.toNat i) default)) (g3 : decide ((0 : Int) ≤ IntKind.wrap IntKind.i64 ((↑(List.length (List.map Ps.enc st)) : Int) - (1 : Int))) = true) (g4 : decide ((0 : Int) ≤ IntKind.wrap IntKind.i64 ((↑(List.length (List.map Ps.enc st)) : Int) - (1 : Int)) ∧ IntKind.wrap IntKind.i64 ((↑(List.length (List.map Ps.enc st)) : Int) - (1 : Int)) < (↑(List.length (List.map Ps.enc st)) : Int)) = true) (g5 : decide (Int.toNat (IntKind.wrap IntKind.i64 ((↑(List.length (List.map Ps.enc st)) : Int) - (1 : Int))) < List.length (List.map Ps.enc st)) = true) (g6 : List.getD (List.map Ps.enc st) (Int.toNat (IntKind.wrap IntKind.i64 ((↑(List.length (List.map Ps.enc st)) : Int) - (1 : Int)))) AV.bad = Ps.enc (List.getD st (Int.toNat (IntKind.wrap IntKind.i64 ((↑(List.length (List.map Ps.enc st)) : Int) - (1 : Int)))) default)) (g7 : can (List.getD st (Int.toNat (IntKind.wrap IntKind.i64 ((↑(List.length (List.map Ps.enc st)) : Int) - (1 : Int)))) default) (List.getD l (Int.toNat i) default) = true) (g8 : decide (Int.toNat (IntKind.wrap IntKind.i64 ((↑(List.length (List.map Ps.enc st)) : Int) - (1 : Int))) ≤ Int.toNat (↑(List.length (List.map Ps.enc l)) : Int) ∧ Int.toNat (↑(List.length (List.map Ps.enc l)) : Int) ≤ n) = true) (g9 : decide ((0 : Nat) ≤ Int.toNat (IntKind.wrap IntKind.i64 ((↑(List.length (List.map Ps.enc st)) : Int) - (1 : Int))) ∧ Int.toNat (IntKind.wrap IntKind.i64 ((↑(List.length (List.map Ps.enc st)) : Int) - (1 : Int))) ≤ List.length (List.map Ps.enc st)) = true) (g10 : decide (Int.toNat (IntKind.wrap IntKind.i64 ((↑(List.length (List.map Ps.enc st)) : Int) - (1 : Int))) - (0 : Nat) ≤ List.length (List.map Ps.enc st) ∧ ((3 : Nat) < Cx.N { T := Cx.T (cxN (41 : Nat) (0 : Nat)), K := Cx.K (cxN (41 : Nat) (0 : Nat)), KM := Cx.KM (cxN (41 : Nat) (0 : Nat)), eqT := Cx.eqT (cxN (41 : Nat) (0 : Nat)), N := Cx.N (cxN (41 : Nat) (0 : Nat)), lo := Cx.lo (cxN (41 : Nat) (0 : Nat)), dr := false } ∧ Cx.lo { T := Cx.T (cxN (41 : Nat) (0 : Nat)), K := Cx.K (cxN (41 : Nat) (0 : Nat)), KM := Cx.KM (cxN (41 : Nat) (0 : Nat)), eqT := Cx.eqT (cxN (41 : Nat) (0 : Nat)), N := Cx.N (cxN (41 : Nat) (0 : Nat)), lo := Cx.lo (cxN (41 : Nat) (0 : Nat)), dr := false } ≤ (3 : Nat)) ∧ (Option.map (fun x => x - (0 : Nat)) (some (Int.toNat (↑(List.length (List.map Ps.enc l)) : Int))) = none ∨ Option.map (fun x => x - (0 : Nat)) (some (Int.toNat (↑(List.length (List.map Ps.enc l)) : Int))) = some n)) = true) : Tri Try.prog (cxN 41 0) (loopBody Try.f17 0) ([(0, sl ca l), (3, ow (some n) st), (10, sl ca l), (11, it l.length), (12, it i)] ) (Ex.normal) ([(nat_lit 0, AV.sl Mode.any (nat_lit 33) ca (List.map Ps.enc l)), (nat_lit 3, AV.sl Mode.own (nat_lit 33) (some n) (List.take (Int.toNat (IntKind.wrap IntKind.i64 ((↑(List.length (List.map Ps.enc st)) : Int) - (1 : Int))) - (0 : Nat)) (List.map Ps.enc st))), (nat_lit 10, AV.sl Mode.any (nat_lit 33) ca (List.map Ps.enc l)), (nat_lit 11, AV.atom (Value.int IntKind.i64 (↑(List.length l) : Int))), (nat_lit 12, AV.atom (Value.int IntKind.i64 (IntKind.wrap IntKind.i64 (i + (1 : Int)))))]) :=
  evA_ok (H := h17) (ans := [Ans.c, Ans.b true, Ans.b true, Ans.r (Ps.enc (List.getD l (Int.toNat i) default)), Ans.c, Ans.c, Ans.c, Ans.c, Ans.c, Ans.c, Ans.c, Ans.c, Ans.c, Ans.c, Ans.c, Ans.b true, Ans.c, Ans.b true, Ans.c, Ans.b true, Ans.b true, Ans.c, Ans.b true, Ans.b true, Ans.r (Ps.enc (List.getD st (Int.toNat (IntKind.wrap IntKind.i64 ((↑(List.length (List.map Ps.enc st)) : Int) - (1 : Int)))) default)), Ans.c, Ans.b true, Ans.c, Ans.b true, Ans.r (AV.atom (Value.bool (can (List.getD st (Int.toNat (IntKind.wrap IntKind.i64 ((↑(List.length (List.map Ps.enc st)) : Int) - (1 : Int)))) default) (List.getD l (Int.toNat i) default)))), Ans.c, Ans.c, Ans.b true, Ans.c, Ans.b true, Ans.c, Ans.c, Ans.c, Ans.c, Ans.b true, Ans.c, Ans.b true, Ans.b true, Ans.c, Ans.b true, Ans.c, Ans.c]) (ps := [decide (i < (↑(List.length l) : Int)) = true, decide ((0 : Int) ≤ i ∧ i < (↑(List.length (List.map Ps.enc l)) : Int)) = true, List.getD (List.map Ps.enc l) (Int.toNat i) AV.bad = Ps.enc (List.getD l (Int.toNat i) default), decide ((0 : Int) ≤ IntKind.wrap IntKind.i64 ((↑(List.length (List.map Ps.enc st)) : Int) - (1 : Int))) = true, decide ((0 : Int) ≤ IntKind.wrap IntKind.i64 ((↑(List.length (List.map Ps.enc st)) : Int) - (1 : Int))) = true, decide ((0 : Int) ≤ IntKind.wrap IntKind.i64 ((↑(List.length (List.map Ps.enc st)) : Int) - (1 : Int))) = true, decide ((0 : Int) ≤ IntKind.wrap IntKind.i64 ((↑(List.length (List.map Ps.enc st)) : Int) - (1 : Int)) ∧ IntKind.wrap IntKind.i64 ((↑(List.length (List.map Ps.enc st)) : Int) - (1 : Int)) < (↑(List.length (List.map Ps.enc st)) : Int)) = true, decide ((0 : Int) ≤ IntKind.wrap IntKind.i64 ((↑(List.length (List.map Ps.enc st)) : Int) - (1 : Int))) = true, decide (Int.toNat (IntKind.wrap IntKind.i64 ((↑(List.length (List.map Ps.enc st)) : Int) - (1 : Int))) < List.length (List.map Ps.enc st)) = true, List.getD (List.map Ps.enc st) (Int.toNat (IntKind.wrap IntKind.i64 ((↑(List.length (List.map Ps.enc st)) : Int) - (1 : Int)))) AV.bad = Ps.enc (List.getD st (Int.toNat (IntKind.wrap IntKind.i64 ((↑(List.length (List.map Ps.enc st)) : Int) - (1 : Int)))) default), decide ((0 : Int) ≤ IntKind.wrap IntKind.i64 ((↑(List.length (List.map Ps.enc st)) : Int) - (1 : Int))) = true, decide ((0 : Int) ≤ IntKind.wrap IntKind.i64 ((↑(List.length (List.map Ps.enc st)) : Int) - (1 : Int))) = true, PureC Try.prog (nat_lit 43) [AV.agg [AV.atom (Value.int IntKind.u8 (Ps.y (List.getD st (Int.toNat (IntKind.wrap IntKind.i64 ((↑(List.length (List.map Ps.enc st)) : Int) - (1 : Int)))) default))), AV.atom (Value.int IntKind.i64 (Ps.n (List.getD st (Int.toNat (IntKind.wrap IntKind.i64 ((↑(List.length (List.map Ps.enc st)) : Int) - (1 : Int)))) default))), AV.atom (Value.bool (Ps.f (List.getD st (Int.toNat (IntKind.wrap IntKind.i64 ((↑(List.length (List.map Ps.enc st)) : Int) - (1 : Int)))) default))), AV.atom (Value.int IntKind.u8 (Ps.d (List.getD st (Int.toNat (IntKind.wrap IntKind.i64 ((↑(List.length (List.map Ps.enc st)) : Int) - (1 : Int)))) default)))], AV.agg [AV.atom (Value.int IntKind.u8 (Ps.y (List.getD l (Int.toNat i) default))), AV.atom (Value.int IntKind.i64 (Ps.n (List.getD l (Int.toNat i) default))), AV.atom (Value.bool (Ps.f (List.getD l (Int.toNat i) default))), AV.atom (Value.int IntKind.u8 (Ps.d (List.getD l (Int.toNat i) default)))]] (AV.atom (Value.bool (can (List.getD st (Int.toNat (IntKind.wrap IntKind.i64 ((↑(List.length (List.map Ps.enc st)) : Int) - (1 : Int)))) default) (List.getD l (Int.toNat i) default)))), decide ((0 : Int) ≤ IntKind.wrap IntKind.i64 ((↑(List.length (List.map Ps.enc st)) : Int) - (1 : Int))) = true, can (List.getD st (Int.toNat (IntKind.wrap IntKind.i64 ((↑(List.length (List.map Ps.enc st)) : Int) - (1 : Int)))) default) (List.getD l (Int.toNat i) default) = true, decide ((0 : Int) ≤ IntKind.wrap IntKind.i64 ((↑(List.length (List.map Ps.enc st)) : Int) - (1 : Int))) = true, decide (Int.toNat (IntKind.wrap IntKind.i64 ((↑(List.length (List.map Ps.enc st)) : Int) - (1 : Int))) ≤ Int.toNat (↑(List.length (List.map Ps.enc l)) : Int) ∧ Int.toNat (↑(List.length (List.map Ps.enc l)) : Int) ≤ n) = true, decide ((0 : Nat) ≤ Int.toNat (IntKind.wrap IntKind.i64 ((↑(List.length (List.map Ps.enc st)) : Int) - (1 : Int))) ∧ Int.toNat (IntKind.wrap IntKind.i64 ((↑(List.length (List.map Ps.enc st)) : Int) - (1 : Int))) ≤ List.length (List.map Ps.enc st)) = true, decide (Int.toNat (IntKind.wrap IntKind.i64 ((↑(List.length (List.map Ps.enc st)) : Int) - (1 : Int))) - (0 : Nat) ≤ List.length (List.map Ps.enc st) ∧ ((3 : Nat) < Cx.N { T := Cx.T (cxN (41 : Nat) (0 : Nat)), K := Cx.K (cxN (41 : Nat) (0 : Nat)), KM := Cx.KM (cxN (41 : Nat) (0 : Nat)), eqT := Cx.eqT (cxN (41 : Nat) (0 : Nat)), N := Cx.N (cxN (41 : Nat) (0 : Nat)), lo := Cx.lo (cxN (41 : Nat) (0 : Nat)), dr := false } ∧ Cx.lo { T := Cx.T (cxN (41 : Nat) (0 : Nat)), K := Cx.K (cxN (41 : Nat) (0 : Nat)), KM := Cx.KM (cxN (41 : Nat) (0 : Nat)), eqT := Cx.eqT (cxN (41 : Nat) (0 : Nat)), N := Cx.N (cxN (41 : Nat) (0 : Nat)), lo := Cx.lo (cxN (41 : Nat) (0 : Nat)), dr := false } ≤ (3 : Nat)) ∧ (Option.map (fun x => x - (0 : Nat)) (some (Int.toNat (↑(List.length (List.map Ps.enc l)) : Int))) = none ∨ Option.map (fun x => x - (0 : Nat)) (some (Int.toNat (↑(List.length (List.map Ps.enc l)) : Int))) = some n)) = true]) (ans' := []) (base 41 0) cxA_K.1 cxA_K.2 _ (by kernel_rfl)  (allp g0 (allp g1 (allp g2 (allp g3 (allp g3 (allp g3 (allp g4 (allp g3 (allp g5 (allp g6 (allp g3 (allp g3 (allp (by first | (apply cancel_c <;> (first | assumption | rfl | (simp at *; done) | (simp at *; omega)))) (allp g3 (allp g7 (allp g3 (allp g8 (allp g9 (allp g10 allp_nil)))))))))))))))))))
theorem lred_1 (ca : Option Nat) (l st : List Ps) (n : Nat) (i : Int) (g0 : decide (i < (↑(List.length l) : Int)) = true) (g1 : decide ((0 : Int) ≤ i ∧ i < (↑(List.length (List.map Ps.enc l)) : Int)) = true) (g2 : List.getD (List.map Ps.enc l) (Int.toNat i) AV.bad = Ps.enc (List.getD l (Int.toNat i) default)) (g3 : decide ((0 : Int) ≤ IntKind.wrap IntKind.i64 ((↑(List.length (List.map Ps.enc st)) : Int) - (1 : Int))) = true) (g4 : decide ((0 : Int) ≤ IntKind.wrap IntKind.i64 ((↑(List.length (List.map Ps.enc st)) : Int) - (1 : Int)) ∧ IntKind.wrap IntKind.i64 ((↑(List.length (List.map Ps.enc st)) : Int) - (1 : Int)) < (↑(List.length (List.map Ps.enc st)) : Int)) = true) (g5 : decide (Int.toNat (IntKind.wrap IntKind.i64 ((↑(List.length (List.map Ps.enc st)) : Int) - (1 : Int))) < List.length (List.map Ps.enc st)) = true) (g6 : List.getD (List.map Ps.enc st) (Int.toNat (IntKind.wrap IntKind.i64 ((↑(List.length (List.map Ps.enc st)) : Int) - (1 : Int)))) AV.bad = Ps.enc (List.getD st (Int.toNat (IntKind.wrap IntKind.i64 ((↑(List.length (List.map Ps.enc st)) : Int) - (1 : Int)))) default)) (g7 : can (List.getD st (Int.toNat (IntKind.wrap IntKind.i64 ((↑(List.length (List.map Ps.enc st)) : Int) - (1 : Int)))) default) (List.getD l (Int.toNat i) default) = false) (g8 : AV.sl Mode.own (nat_lit 33) (some (nat_lit 1)) [AV.agg [AV.atom (Value.int IntKind.u8 (Ps.y (List.getD l (Int.toNat i) default))), AV.atom (Value.int IntKind.i64 (Ps.n (List.getD l (Int.toNat i) default))), AV.atom (Value.bool (Ps.f (List.getD l (Int.toNat i) default))), AV.atom (Value.int IntKind.u8 (Ps.d (List.getD l (Int.toNat i) default)))]] = AV.sl Mode.own (nat_lit 33) (some (1 : Nat)) (List.map Ps.enc [{ y := Ps.y (List.getD l (Int.toNat i) default), n := Ps.n (List.getD l (Int.toNat i) default), f := Ps.f (List.getD l (Int.toNat i) default), d := Ps.d (List.getD l (Int.toNat i) default) }])) (g9 : decide (List.length (List.map Ps.enc st) + List.length (List.map Ps.enc [{ y := Ps.y (List.getD l (Int.toNat i) default), n := Ps.n (List.getD l (Int.toNat i) default), f := Ps.f (List.getD l (Int.toNat i) default), d := Ps.d (List.getD l (Int.toNat i) default) }]) ≤ (4294967296 : Nat)) = true) (g10 : AV.sl Mode.own (nat_lit 33) (if List.length (List.map Ps.enc st) + List.length (List.map Ps.enc [{ y := Ps.y (List.getD l (Int.toNat i) default), n := Ps.n (List.getD l (Int.toNat i) default), f := Ps.f (List.getD l (Int.toNat i) default), d := Ps.d (List.getD l (Int.toNat i) default) }]) ≤ n then some n else none) (List.map Ps.enc st ++ List.map Ps.enc [{ y := Ps.y (List.getD l (Int.toNat i) default), n := Ps.n (List.getD l (Int.toNat i) default), f := Ps.f (List.getD l (Int.toNat i) default), d := Ps.d (List.getD l (Int.toNat i) default) }]) = AV.sl Mode.own (nat_lit 33) (some n) (List.map Ps.enc (st ++ [{ y := Ps.y (List.getD l (Int.toNat i) default), n := Ps.n (List.getD l (Int.toNat i) default), f := Ps.f (List.getD l (Int.toNat i) default), d := Ps.d (List.getD l (Int.toNat i) default) }]))) : Tri Try.prog (cxN 41 0) (loopBody Try.f17 0) ([(0, sl ca l), (3, ow (some n) st), (10, sl ca l), (11, it l.length), (12, it i)] ) (Ex.normal) ([(nat_lit 0, AV.sl Mode.any (nat_lit 33) ca (List.map Ps.enc l)), (nat_lit 3, AV.sl Mode.own (nat_lit 33) (some n) (List.map Ps.enc (st ++ [{ y := Ps.y (List.getD l (Int.toNat i) default), n := Ps.n (List.getD l (Int.toNat i) default), f := Ps.f (List.getD l (Int.toNat i) default), d := Ps.d (List.getD l (Int.toNat i) default) }]))), (nat_lit 10, AV.sl Mode.any (nat_lit 33) ca (List.map Ps.enc l)), (nat_lit 11, AV.atom (Value.int IntKind.i64 (↑(List.length l) : Int))), (nat_lit 12, AV.atom (Value.int IntKind.i64 (IntKind.wrap IntKind.i64 (i + (1 : Int)))))]) :=
  evA_ok (H := h17) (ans := [Ans.c, Ans.b true, Ans.b true, Ans.r (Ps.enc (List.getD l (Int.toNat i) default)), Ans.c, Ans.c, Ans.c, Ans.c, Ans.c, Ans.c, Ans.c, Ans.c, Ans.c, Ans.c, Ans.c, Ans.b true, Ans.c, Ans.b true, Ans.c, Ans.b true, Ans.b true, Ans.c, Ans.b true, Ans.b true, Ans.r (Ps.enc (List.getD st (Int.toNat (IntKind.wrap IntKind.i64 ((↑(List.length (List.map Ps.enc st)) : Int) - (1 : Int)))) default)), Ans.c, Ans.b true, Ans.c, Ans.b true, Ans.r (AV.atom (Value.bool (can (List.getD st (Int.toNat (IntKind.wrap IntKind.i64 ((↑(List.length (List.map Ps.enc st)) : Int) - (1 : Int)))) default) (List.getD l (Int.toNat i) default)))), Ans.c, Ans.c, Ans.b true, Ans.c, Ans.b false, Ans.c, Ans.c, Ans.r (AV.sl Mode.own (nat_lit 33) (some (1 : Nat)) (List.map Ps.enc [{ y := Ps.y (List.getD l (Int.toNat i) default), n := Ps.n (List.getD l (Int.toNat i) default), f := Ps.f (List.getD l (Int.toNat i) default), d := Ps.d (List.getD l (Int.toNat i) default) }])), Ans.c, Ans.b true, Ans.r (AV.sl Mode.own (nat_lit 33) (some n) (List.map Ps.enc (st ++ [{ y := Ps.y (List.getD l (Int.toNat i) default), n := Ps.n (List.getD l (Int.toNat i) default), f := Ps.f (List.getD l (Int.toNat i) default), d := Ps.d (List.getD l (Int.toNat i) default) }]))), Ans.c, Ans.c, Ans.c]) (ps := [decide (i < (↑(List.length l) : Int)) = true, decide ((0 : Int) ≤ i ∧ i < (↑(List.length (List.map Ps.enc l)) : Int)) = true, List.getD (List.map Ps.enc l) (Int.toNat i) AV.bad = Ps.enc (List.getD l (Int.toNat i) default), decide ((0 : Int) ≤ IntKind.wrap IntKind.i64 ((↑(List.length (List.map Ps.enc st)) : Int) - (1 : Int))) = true, decide ((0 : Int) ≤ IntKind.wrap IntKind.i64 ((↑(List.length (List.map Ps.enc st)) : Int) - (1 : Int))) = true, decide ((0 : Int) ≤ IntKind.wrap IntKind.i64 ((↑(List.length (List.map Ps.enc st)) : Int) - (1 : Int))) = true, decide ((0 : Int) ≤ IntKind.wrap IntKind.i64 ((↑(List.length (List.map Ps.enc st)) : Int) - (1 : Int)) ∧ IntKind.wrap IntKind.i64 ((↑(List.length (List.map Ps.enc st)) : Int) - (1 : Int)) < (↑(List.length (List.map Ps.enc st)) : Int)) = true, decide ((0 : Int) ≤ IntKind.wrap IntKind.i64 ((↑(List.length (List.map Ps.enc st)) : Int) - (1 : Int))) = true, decide (Int.toNat (IntKind.wrap IntKind.i64 ((↑(List.length (List.map Ps.enc st)) : Int) - (1 : Int))) < List.length (List.map Ps.enc st)) = true, List.getD (List.map Ps.enc st) (Int.toNat (IntKind.wrap IntKind.i64 ((↑(List.length (List.map Ps.enc st)) : Int) - (1 : Int)))) AV.bad = Ps.enc (List.getD st (Int.toNat (IntKind.wrap IntKind.i64 ((↑(List.length (List.map Ps.enc st)) : Int) - (1 : Int)))) default), decide ((0 : Int) ≤ IntKind.wrap IntKind.i64 ((↑(List.length (List.map Ps.enc st)) : Int) - (1 : Int))) = true, decide ((0 : Int) ≤ IntKind.wrap IntKind.i64 ((↑(List.length (List.map Ps.enc st)) : Int) - (1 : Int))) = true, PureC Try.prog (nat_lit 43) [AV.agg [AV.atom (Value.int IntKind.u8 (Ps.y (List.getD st (Int.toNat (IntKind.wrap IntKind.i64 ((↑(List.length (List.map Ps.enc st)) : Int) - (1 : Int)))) default))), AV.atom (Value.int IntKind.i64 (Ps.n (List.getD st (Int.toNat (IntKind.wrap IntKind.i64 ((↑(List.length (List.map Ps.enc st)) : Int) - (1 : Int)))) default))), AV.atom (Value.bool (Ps.f (List.getD st (Int.toNat (IntKind.wrap IntKind.i64 ((↑(List.length (List.map Ps.enc st)) : Int) - (1 : Int)))) default))), AV.atom (Value.int IntKind.u8 (Ps.d (List.getD st (Int.toNat (IntKind.wrap IntKind.i64 ((↑(List.length (List.map Ps.enc st)) : Int) - (1 : Int)))) default)))], AV.agg [AV.atom (Value.int IntKind.u8 (Ps.y (List.getD l (Int.toNat i) default))), AV.atom (Value.int IntKind.i64 (Ps.n (List.getD l (Int.toNat i) default))), AV.atom (Value.bool (Ps.f (List.getD l (Int.toNat i) default))), AV.atom (Value.int IntKind.u8 (Ps.d (List.getD l (Int.toNat i) default)))]] (AV.atom (Value.bool (can (List.getD st (Int.toNat (IntKind.wrap IntKind.i64 ((↑(List.length (List.map Ps.enc st)) : Int) - (1 : Int)))) default) (List.getD l (Int.toNat i) default)))), decide ((0 : Int) ≤ IntKind.wrap IntKind.i64 ((↑(List.length (List.map Ps.enc st)) : Int) - (1 : Int))) = true, can (List.getD st (Int.toNat (IntKind.wrap IntKind.i64 ((↑(List.length (List.map Ps.enc st)) : Int) - (1 : Int)))) default) (List.getD l (Int.toNat i) default) = false, AV.sl Mode.own (nat_lit 33) (some (nat_lit 1)) [AV.agg [AV.atom (Value.int IntKind.u8 (Ps.y (List.getD l (Int.toNat i) default))), AV.atom (Value.int IntKind.i64 (Ps.n (List.getD l (Int.toNat i) default))), AV.atom (Value.bool (Ps.f (List.getD l (Int.toNat i) default))), AV.atom (Value.int IntKind.u8 (Ps.d (List.getD l (Int.toNat i) default)))]] = AV.sl Mode.own (nat_lit 33) (some (1 : Nat)) (List.map Ps.enc [{ y := Ps.y (List.getD l (Int.toNat i) default), n := Ps.n (List.getD l (Int.toNat i) default), f := Ps.f (List.getD l (Int.toNat i) default), d := Ps.d (List.getD l (Int.toNat i) default) }]), decide (List.length (List.map Ps.enc st) + List.length (List.map Ps.enc [{ y := Ps.y (List.getD l (Int.toNat i) default), n := Ps.n (List.getD l (Int.toNat i) default), f := Ps.f (List.getD l (Int.toNat i) default), d := Ps.d (List.getD l (Int.toNat i) default) }]) ≤ (4294967296 : Nat)) = true, AV.sl Mode.own (nat_lit 33) (if List.length (List.map Ps.enc st) + List.length (List.map Ps.enc [{ y := Ps.y (List.getD l (Int.toNat i) default), n := Ps.n (List.getD l (Int.toNat i) default), f := Ps.f (List.getD l (Int.toNat i) default), d := Ps.d (List.getD l (Int.toNat i) default) }]) ≤ n then some n else none) (List.map Ps.enc st ++ List.map Ps.enc [{ y := Ps.y (List.getD l (Int.toNat i) default), n := Ps.n (List.getD l (Int.toNat i) default), f := Ps.f (List.getD l (Int.toNat i) default), d := Ps.d (List.getD l (Int.toNat i) default) }]) = AV.sl Mode.own (nat_lit 33) (some n) (List.map Ps.enc (st ++ [{ y := Ps.y (List.getD l (Int.toNat i) default), n := Ps.n (List.getD l (Int.toNat i) default), f := Ps.f (List.getD l (Int.toNat i) default), d := Ps.d (List.getD l (Int.toNat i) default) }]))]) (ans' := []) (base 41 0) cxA_K.1 cxA_K.2 _ (by kernel_rfl)  (allp g0 (allp g1 (allp g2 (allp g3 (allp g3 (allp g3 (allp g4 (allp g3 (allp g5 (allp g6 (allp g3 (allp g3 (allp (by first | (apply cancel_c <;> (first | assumption | rfl | (simp at *; done) | (simp at *; omega)))) (allp g3 (allp g7 (allp g8 (allp g9 (allp g10 allp_nil))))))))))))))))))
theorem lred_2 (ca : Option Nat) (l st : List Ps) (n : Nat) (i : Int) (g0 : decide (i < (↑(List.length l) : Int)) = true) (g1 : decide ((0 : Int) ≤ i ∧ i < (↑(List.length (List.map Ps.enc l)) : Int)) = true) (g2 : List.getD (List.map Ps.enc l) (Int.toNat i) AV.bad = Ps.enc (List.getD l (Int.toNat i) default)) (g3 : decide ((0 : Int) ≤ IntKind.wrap IntKind.i64 ((↑(List.length (List.map Ps.enc st)) : Int) - (1 : Int))) = false) (g4 : AV.sl Mode.own (nat_lit 33) (some (nat_lit 1)) [AV.agg [AV.atom (Value.int IntKind.u8 (Ps.y (List.getD l (Int.toNat i) default))), AV.atom (Value.int IntKind.i64 (Ps.n (List.getD l (Int.toNat i) default))), AV.atom (Value.bool (Ps.f (List.getD l (Int.toNat i) default))), AV.atom (Value.int IntKind.u8 (Ps.d (List.getD l (Int.toNat i) default)))]] = AV.sl Mode.own (nat_lit 33) (some (1 : Nat)) (List.map Ps.enc [{ y := Ps.y (List.getD l (Int.toNat i) default), n := Ps.n (List.getD l (Int.toNat i) default), f := Ps.f (List.getD l (Int.toNat i) default), d := Ps.d (List.getD l (Int.toNat i) default) }])) (g5 : decide (List.length (List.map Ps.enc st) + List.length (List.map Ps.enc [{ y := Ps.y (List.getD l (Int.toNat i) default), n := Ps.n (List.getD l (Int.toNat i) default), f := Ps.f (List.getD l (Int.toNat i) default), d := Ps.d (List.getD l (Int.toNat i) default) }]) ≤ (4294967296 : Nat)) = true) (g6 : AV.sl Mode.own (nat_lit 33) (if List.length (List.map Ps.enc st) + List.length (List.map Ps.enc [{ y := Ps.y (List.getD l (Int.toNat i) default), n := Ps.n (List.getD l (Int.toNat i) default), f := Ps.f (List.getD l (Int.toNat i) default), d := Ps.d (List.getD l (Int.toNat i) default) }]) ≤ n then some n else none) (List.map Ps.enc st ++ List.map Ps.enc [{ y := Ps.y (List.getD l (Int.toNat i) default), n := Ps.n (List.getD l (Int.toNat i) default), f := Ps.f (List.getD l (Int.toNat i) default), d := Ps.d (List.getD l (Int.toNat i) default) }]) = AV.sl Mode.own (nat_lit 33) (some n) (List.map Ps.enc (st ++ [{ y := Ps.y (List.getD l (Int.toNat i) default), n := Ps.n (List.getD l (Int.toNat i) default), f := Ps.f (List.getD l (Int.toNat i) default), d := Ps.d (List.getD l (Int.toNat i) default) }]))) : Tri Try.prog (cxN 41 0) (loopBody Try.f17 0) ([(0, sl ca l), (3, ow (some n) st), (10, sl ca l), (11, it l.length), (12, it i)] ) (Ex.normal) ([(nat_lit 0, AV.sl Mode.any (nat_lit 33) ca (List.map Ps.enc l)), (nat_lit 3, AV.sl Mode.own (nat_lit 33) (some n) (List.map Ps.enc (st ++ [{ y := Ps.y (List.getD l (Int.toNat i) default), n := Ps.n (List.getD l (Int.toNat i) default), f := Ps.f (List.getD l (Int.toNat i) default), d := Ps.d (List.getD l (Int.toNat i) default) }]))), (nat_lit 10, AV.sl Mode.any (nat_lit 33) ca (List.map Ps.enc l)), (nat_lit 11, AV.atom (Value.int IntKind.i64 (↑(List.length l) : Int))), (nat_lit 12, AV.atom (Value.int IntKind.i64 (IntKind.wrap IntKind.i64 (i + (1 : Int)))))]) :=
  evA_ok (H := h17) (ans := [Ans.c, Ans.b true, Ans.b true, Ans.r (Ps.enc (List.getD l (Int.toNat i) default)), Ans.c, Ans.c, Ans.c, Ans.c, Ans.c, Ans.c, Ans.c, Ans.c, Ans.c, Ans.c, Ans.c, Ans.b false, Ans.b false, Ans.b false, Ans.b false, Ans.b false, Ans.b false, Ans.b false, Ans.c, Ans.c, Ans.c, Ans.c, Ans.r (AV.sl Mode.own (nat_lit 33) (some (1 : Nat)) (List.map Ps.enc [{ y := Ps.y (List.getD l (Int.toNat i) default), n := Ps.n (List.getD l (Int.toNat i) default), f := Ps.f (List.getD l (Int.toNat i) default), d := Ps.d (List.getD l (Int.toNat i) default) }])), Ans.c, Ans.b true, Ans.r (AV.sl Mode.own (nat_lit 33) (some n) (List.map Ps.enc (st ++ [{ y := Ps.y (List.getD l (Int.toNat i) default), n := Ps.n (List.getD l (Int.toNat i) default), f := Ps.f (List.getD l (Int.toNat i) default), d := Ps.d (List.getD l (Int.toNat i) default) }]))), Ans.c, Ans.c, Ans.c]) (ps := [decide (i < (↑(List.length l) : Int)) = true, decide ((0 : Int) ≤ i ∧ i < (↑(List.length (List.map Ps.enc l)) : Int)) = true, List.getD (List.map Ps.enc l) (Int.toNat i) AV.bad = Ps.enc (List.getD l (Int.toNat i) default), decide ((0 : Int) ≤ IntKind.wrap IntKind.i64 ((↑(List.length (List.map Ps.enc st)) : Int) - (1 : Int))) = false, decide ((0 : Int) ≤ IntKind.wrap IntKind.i64 ((↑(List.length (List.map Ps.enc st)) : Int) - (1 : Int))) = false, decide ((0 : Int) ≤ IntKind.wrap IntKind.i64 ((↑(List.length (List.map Ps.enc st)) : Int) - (1 : Int))) = false, decide ((0 : Int) ≤ IntKind.wrap IntKind.i64 ((↑(List.length (List.map Ps.enc st)) : Int) - (1 : Int))) = false, decide ((0 : Int) ≤ IntKind.wrap IntKind.i64 ((↑(List.length (List.map Ps.enc st)) : Int) - (1 : Int))) = false, decide ((0 : Int) ≤ IntKind.wrap IntKind.i64 ((↑(List.length (List.map Ps.enc st)) : Int) - (1 : Int))) = false, decide ((0 : Int) ≤ IntKind.wrap IntKind.i64 ((↑(List.length (List.map Ps.enc st)) : Int) - (1 : Int))) = false, AV.sl Mode.own (nat_lit 33) (some (nat_lit 1)) [AV.agg [AV.atom (Value.int IntKind.u8 (Ps.y (List.getD l (Int.toNat i) default))), AV.atom (Value.int IntKind.i64 (Ps.n (List.getD l (Int.toNat i) default))), AV.atom (Value.bool (Ps.f (List.getD l (Int.toNat i) default))), AV.atom (Value.int IntKind.u8 (Ps.d (List.getD l (Int.toNat i) default)))]] = AV.sl Mode.own (nat_lit 33) (some (1 : Nat)) (List.map Ps.enc [{ y := Ps.y (List.getD l (Int.toNat i) default), n := Ps.n (List.getD l (Int.toNat i) default), f := Ps.f (List.getD l (Int.toNat i) default), d := Ps.d (List.getD l (Int.toNat i) default) }]), decide (List.length (List.map Ps.enc st) + List.length (List.map Ps.enc [{ y := Ps.y (List.getD l (Int.toNat i) default), n := Ps.n (List.getD l (Int.toNat i) default), f := Ps.f (List.getD l (Int.toNat i) default), d := Ps.d (List.getD l (Int.toNat i) default) }]) ≤ (4294967296 : Nat)) = true, AV.sl Mode.own (nat_lit 33) (if List.length (List.map Ps.enc st) + List.length (List.map Ps.enc [{ y := Ps.y (List.getD l (Int.toNat i) default), n := Ps.n (List.getD l (Int.toNat i) default), f := Ps.f (List.getD l (Int.toNat i) default), d := Ps.d (List.getD l (Int.toNat i) default) }]) ≤ n then some n else none) (List.map Ps.enc st ++ List.map Ps.enc [{ y := Ps.y (List.getD l (Int.toNat i) default), n := Ps.n (List.getD l (Int.toNat i) default), f := Ps.f (List.getD l (Int.toNat i) default), d := Ps.d (List.getD l (Int.toNat i) default) }]) = AV.sl Mode.own (nat_lit 33) (some n) (List.map Ps.enc (st ++ [{ y := Ps.y (List.getD l (Int.toNat i) default), n := Ps.n (List.getD l (Int.toNat i) default), f := Ps.f (List.getD l (Int.toNat i) default), d := Ps.d (List.getD l (Int.toNat i) default) }]))]) (ans' := []) (base 41 0) cxA_K.1 cxA_K.2 _ (by kernel_rfl)  (allp g0 (allp g1 (allp g2 (allp g3 (allp g3 (allp g3 (allp g3 (allp g3 (allp g3 (allp g3 (allp g4 (allp g5 (allp g6 allp_nil)))))))))))))
theorem lred_3 (ca : Option Nat) (l st : List Ps) (n : Nat) (i : Int) (g0 : decide (i < (↑(List.length l) : Int)) = false) : Tri Try.prog (cxN 41 0) (loopBody Try.f17 0) ([(0, sl ca l), (3, ow (some n) st), (10, sl ca l), (11, it l.length), (12, it i)] ) (Ex.exit (nat_lit 0)) ([(nat_lit 0, AV.sl Mode.any (nat_lit 33) ca (List.map Ps.enc l)), (nat_lit 3, AV.sl Mode.own (nat_lit 33) (some n) (List.map Ps.enc st)), (nat_lit 10, AV.sl Mode.any (nat_lit 33) ca (List.map Ps.enc l)), (nat_lit 11, AV.atom (Value.int IntKind.i64 (↑(List.length l) : Int))), (nat_lit 12, AV.atom (Value.int IntKind.i64 i)), (nat_lit 13, AV.atom (Value.bool (decide (i < (↑(List.length l) : Int)))))]) :=
  evA_ok (H := h17) (ans := [Ans.c, Ans.b false]) (ps := [decide (i < (↑(List.length l) : Int)) = false]) (ans' := []) (base 41 0) cxA_K.1 cxA_K.2 _ (by kernel_rfl)  (allp g0 allp_nil)


theorem lrdd_0 (ca : Option Nat) (l : List Ps) (i : Int) (g0 : decide (i < (↑(List.length (List.map Ps.enc l)) : Int)) = true) (g1 : decide ((0 : Int) ≤ IntKind.wrap IntKind.i64 (i - (1 : Int)) ∧ IntKind.wrap IntKind.i64 (i - (1 : Int)) < (↑(List.length (List.map Ps.enc l)) : Int)) = true) (g2 : List.getD (List.map Ps.enc l) (Int.toNat (IntKind.wrap IntKind.i64 (i - (1 : Int)))) AV.bad = Ps.enc (List.getD l (Int.toNat (IntKind.wrap IntKind.i64 (i - (1 : Int)))) default)) (g3 : decide ((0 : Int) ≤ i ∧ i < (↑(List.length (List.map Ps.enc l)) : Int)) = true) (g4 : List.getD (List.map Ps.enc l) (Int.toNat i) AV.bad = Ps.enc (List.getD l (Int.toNat i) default)) (g5 : can (List.getD l (Int.toNat (IntKind.wrap IntKind.i64 (i - (1 : Int)))) default) (List.getD l (Int.toNat i) default) = true) : Tri Try.prog (cxN 20 0) (loopBody Try.f67 0) ([(0, sl ca l), (3, it i)] ) (Ex.ret) ([(nat_lit 2, AV.atom (Value.bool false))]) :=
  evA_ok (H := h67) (ans := [Ans.c, Ans.c, Ans.c, Ans.c, Ans.b true, Ans.c, Ans.c, Ans.c, Ans.b true, Ans.r (Ps.enc (List.getD l (Int.toNat (IntKind.wrap IntKind.i64 (i - (1 : Int)))) default)), Ans.c, Ans.c, Ans.c, Ans.c, Ans.b true, Ans.r (Ps.enc (List.getD l (Int.toNat i) default)), Ans.c, Ans.c, Ans.r (AV.atom (Value.bool (can (List.getD l (Int.toNat (IntKind.wrap IntKind.i64 (i - (1 : Int)))) default) (List.getD l (Int.toNat i) default)))), Ans.c, Ans.c, Ans.b true, Ans.c]) (ps := [decide (i < (↑(List.length (List.map Ps.enc l)) : Int)) = true, decide ((0 : Int) ≤ IntKind.wrap IntKind.i64 (i - (1 : Int)) ∧ IntKind.wrap IntKind.i64 (i - (1 : Int)) < (↑(List.length (List.map Ps.enc l)) : Int)) = true, List.getD (List.map Ps.enc l) (Int.toNat (IntKind.wrap IntKind.i64 (i - (1 : Int)))) AV.bad = Ps.enc (List.getD l (Int.toNat (IntKind.wrap IntKind.i64 (i - (1 : Int)))) default), decide ((0 : Int) ≤ i ∧ i < (↑(List.length (List.map Ps.enc l)) : Int)) = true, List.getD (List.map Ps.enc l) (Int.toNat i) AV.bad = Ps.enc (List.getD l (Int.toNat i) default), PureC Try.prog (nat_lit 43) [AV.agg [AV.atom (Value.int IntKind.u8 (Ps.y (List.getD l (Int.toNat (IntKind.wrap IntKind.i64 (i - (1 : Int)))) default))), AV.atom (Value.int IntKind.i64 (Ps.n (List.getD l (Int.toNat (IntKind.wrap IntKind.i64 (i - (1 : Int)))) default))), AV.atom (Value.bool (Ps.f (List.getD l (Int.toNat (IntKind.wrap IntKind.i64 (i - (1 : Int)))) default))), AV.atom (Value.int IntKind.u8 (Ps.d (List.getD l (Int.toNat (IntKind.wrap IntKind.i64 (i - (1 : Int)))) default)))], AV.agg [AV.atom (Value.int IntKind.u8 (Ps.y (List.getD l (Int.toNat i) default))), AV.atom (Value.int IntKind.i64 (Ps.n (List.getD l (Int.toNat i) default))), AV.atom (Value.bool (Ps.f (List.getD l (Int.toNat i) default))), AV.atom (Value.int IntKind.u8 (Ps.d (List.getD l (Int.toNat i) default)))]] (AV.atom (Value.bool (can (List.getD l (Int.toNat (IntKind.wrap IntKind.i64 (i - (1 : Int)))) default) (List.getD l (Int.toNat i) default)))), can (List.getD l (Int.toNat (IntKind.wrap IntKind.i64 (i - (1 : Int)))) default) (List.getD l (Int.toNat i) default) = true]) (ans' := []) (base 20 0) cxA_K.1 cxA_K.2 _ (by kernel_rfl)  (allp g0 (allp g1 (allp g2 (allp g3 (allp g4 (allp (by first | (apply cancel_c <;> (first | assumption | rfl | (simp at *; done) | (simp at *; omega)))) (allp g5 allp_nil)))))))
theorem lrdd_1 (ca : Option Nat) (l : List Ps) (i : Int) (g0 : decide (i < (↑(List.length (List.map Ps.enc l)) : Int)) = true) (g1 : decide ((0 : Int) ≤ IntKind.wrap IntKind.i64 (i - (1 : Int)) ∧ IntKind.wrap IntKind.i64 (i - (1 : Int)) < (↑(List.length (List.map Ps.enc l)) : Int)) = true) (g2 : List.getD (List.map Ps.enc l) (Int.toNat (IntKind.wrap IntKind.i64 (i - (1 : Int)))) AV.bad = Ps.enc (List.getD l (Int.toNat (IntKind.wrap IntKind.i64 (i - (1 : Int)))) default)) (g3 : decide ((0 : Int) ≤ i ∧ i < (↑(List.length (List.map Ps.enc l)) : Int)) = true) (g4 : List.getD (List.map Ps.enc l) (Int.toNat i) AV.bad = Ps.enc (List.getD l (Int.toNat i) default)) (g5 : can (List.getD l (Int.toNat (IntKind.wrap IntKind.i64 (i - (1 : Int)))) default) (List.getD l (Int.toNat i) default) = false) : Tri Try.prog (cxN 20 0) (loopBody Try.f67 0) ([(0, sl ca l), (3, it i)] ) (Ex.normal) ([(nat_lit 0, AV.sl Mode.any (nat_lit 33) ca (List.map Ps.enc l)), (nat_lit 3, AV.atom (Value.int IntKind.i64 (IntKind.wrap IntKind.i64 (i + (1 : Int)))))]) :=
  evA_ok (H := h67) (ans := [Ans.c, Ans.c, Ans.c, Ans.c, Ans.b true, Ans.c, Ans.c, Ans.c, Ans.b true, Ans.r (Ps.enc (List.getD l (Int.toNat (IntKind.wrap IntKind.i64 (i - (1 : Int)))) default)), Ans.c, Ans.c, Ans.c, Ans.c, Ans.b true, Ans.r (Ps.enc (List.getD l (Int.toNat i) default)), Ans.c, Ans.c, Ans.r (AV.atom (Value.bool (can (List.getD l (Int.toNat (IntKind.wrap IntKind.i64 (i - (1 : Int)))) default) (List.getD l (Int.toNat i) default)))), Ans.c, Ans.c, Ans.b false, Ans.c, Ans.c, Ans.c]) (ps := [decide (i < (↑(List.length (List.map Ps.enc l)) : Int)) = true, decide ((0 : Int) ≤ IntKind.wrap IntKind.i64 (i - (1 : Int)) ∧ IntKind.wrap IntKind.i64 (i - (1 : Int)) < (↑(List.length (List.map Ps.enc l)) : Int)) = true, List.getD (List.map Ps.enc l) (Int.toNat (IntKind.wrap IntKind.i64 (i - (1 : Int)))) AV.bad = Ps.enc (List.getD l (Int.toNat (IntKind.wrap IntKind.i64 (i - (1 : Int)))) default), decide ((0 : Int) ≤ i ∧ i < (↑(List.length (List.map Ps.enc l)) : Int)) = true, List.getD (List.map Ps.enc l) (Int.toNat i) AV.bad = Ps.enc (List.getD l (Int.toNat i) default), PureC Try.prog (nat_lit 43) [AV.agg [AV.atom (Value.int IntKind.u8 (Ps.y (List.getD l (Int.toNat (IntKind.wrap IntKind.i64 (i - (1 : Int)))) default))), AV.atom (Value.int IntKind.i64 (Ps.n (List.getD l (Int.toNat (IntKind.wrap IntKind.i64 (i - (1 : Int)))) default))), AV.atom (Value.bool (Ps.f (List.getD l (Int.toNat (IntKind.wrap IntKind.i64 (i - (1 : Int)))) default))), AV.atom (Value.int IntKind.u8 (Ps.d (List.getD l (Int.toNat (IntKind.wrap IntKind.i64 (i - (1 : Int)))) default)))], AV.agg [AV.atom (Value.int IntKind.u8 (Ps.y (List.getD l (Int.toNat i) default))), AV.atom (Value.int IntKind.i64 (Ps.n (List.getD l (Int.toNat i) default))), AV.atom (Value.bool (Ps.f (List.getD l (Int.toNat i) default))), AV.atom (Value.int IntKind.u8 (Ps.d (List.getD l (Int.toNat i) default)))]] (AV.atom (Value.bool (can (List.getD l (Int.toNat (IntKind.wrap IntKind.i64 (i - (1 : Int)))) default) (List.getD l (Int.toNat i) default)))), can (List.getD l (Int.toNat (IntKind.wrap IntKind.i64 (i - (1 : Int)))) default) (List.getD l (Int.toNat i) default) = false]) (ans' := []) (base 20 0) cxA_K.1 cxA_K.2 _ (by kernel_rfl)  (allp g0 (allp g1 (allp g2 (allp g3 (allp g4 (allp (by first | (apply cancel_c <;> (first | assumption | rfl | (simp at *; done) | (simp at *; omega)))) (allp g5 allp_nil)))))))
theorem lrdd_2 (ca : Option Nat) (l : List Ps) (i : Int) (g0 : decide (i < (↑(List.length (List.map Ps.enc l)) : Int)) = false) : Tri Try.prog (cxN 20 0) (loopBody Try.f67 0) ([(0, sl ca l), (3, it i)] ) (Ex.exit (nat_lit 0)) ([(nat_lit 0, AV.sl Mode.any (nat_lit 33) ca (List.map Ps.enc l)), (nat_lit 3, AV.atom (Value.int IntKind.i64 i)), (nat_lit 7, AV.atom (Value.bool (decide (i < (↑(List.length (List.map Ps.enc l)) : Int)))))]) :=
  evA_ok (H := h67) (ans := [Ans.c, Ans.c, Ans.c, Ans.c, Ans.b false]) (ps := [decide (i < (↑(List.length (List.map Ps.enc l)) : Int)) = false]) (ans' := []) (base 20 0) cxA_K.1 cxA_K.2 _ (by kernel_rfl)  (allp g0 allp_nil)


theorem of_0 (ca : Option Nat) (a : List Int) (h : a.length ≤ 4294967296) : PureC Try.prog 16 [pl ca a]  (AV.sl Mode.own (nat_lit 33) none (List.map Ps.enc (List.map ofP a))) :=
  funA_ok (H := h16) (n := 36) (ans := [Ans.c, Ans.c, Ans.c, Ans.lp (Ex.exit (nat_lit 0)) [(nat_lit 0, AV.sl Mode.any (nat_lit 89) ca (List.map u8 a)), (nat_lit 3, AV.sl Mode.own (nat_lit 33) none (List.map Ps.enc (List.map ofP a))), (nat_lit 4, AV.atom (Value.int IntKind.i64 (↑(List.length a) : Int))), (nat_lit 9, AV.atom (Value.bool (decide ((↑(List.length a) : Int) < (↑(List.length (List.map u8 a)) : Int)))))], Ans.c, Ans.c]) (ps := [Tri Try.prog (cxN (36 : Nat) (0 : Nat)) (Code.loop (loopBody Try.f16 (0 : Nat))) [(nat_lit 0, AV.sl Mode.any (nat_lit 89) ca (List.map u8 a)), (nat_lit 3, AV.atom (Value.slice none (nat_lit 0) (nat_lit 0))), (nat_lit 4, AV.atom (Value.int IntKind.i64 (0 : Int)))] (Ex.exit (nat_lit 0)) [(nat_lit 0, AV.sl Mode.any (nat_lit 89) ca (List.map u8 a)), (nat_lit 3, AV.sl Mode.own (nat_lit 33) none (List.map Ps.enc (List.map ofP a))), (nat_lit 4, AV.atom (Value.int IntKind.i64 (↑(List.length a) : Int))), (nat_lit 9, AV.atom (Value.bool (decide ((↑(List.length a) : Int) < (↑(List.length (List.map u8 a)) : Int)))))]]) (base 36 0) Try.func16 rfl (by simp) rfl (by kernel_rfl)  (allp (by first | (apply of_loop <;> (first | assumption | rfl | (simp at *; done) | (simp at *; omega)))) allp_nil)


theorem flredu_0 (ca : Option Nat) (b : List Ps) (hwf : ∀ p ∈ b, 0 ≤ p.d) (hb : b.length ≤ 4294967296) (g0 : AV.sl Mode.own (nat_lit 33) (some (nat_lit 0)) [] = AV.sl Mode.own (nat_lit 33) (some (0 : Nat)) (List.map Ps.enc [])) (g1 : decide ((23 : Nat) = (23 : Nat) ∧ (List.all (List.map Ps.enc b) fun y => List.all (AV.ecells y) plainA) = true ∧ (List.all (List.map Ps.enc b) fun y => decide (List.length (AV.ecells y) = List.length (TInfo.zero { zero := [Value.int IntKind.u8 (0 : Int), Value.int IntKind.i64 (0 : Int), Value.bool false, Value.int IntKind.u8 (0 : Int)], bytes := (24 : Nat), agg := true, kind := TK.struct [((0 : Nat), (2 : Nat)), ((2 : Nat), (1 : Nat)), ((3 : Nat), (1 : Nat))] }))) = true) = true) (g2 : decide (nat_lit 33 = (33 : TypeId) ∧ List.length (List.map Ps.enc []) + List.length (List.map Ps.enc b) ≤ (4294967296 : Nat) ∧ Oper.dst { dst := some (7 : Nat), op := Op.call { callee := Callee.builtin Builtin.append, args := #[Operand.tmp (5 : Nat), Operand.tmp (6 : Nat)], argTypes := #[(23 : Nat), (23 : Nat)] }, type := (23 : Nat), pos := "law.go:65", after := #[{ on := (0 : Nat), ground := Ground.data }, { on := (1 : Nat), ground := Ground.data }], guard := none } ≠ some (5 : Nat)) = true) (g3 : AV.sl Mode.own (nat_lit 33) (if List.length (List.map Ps.enc []) + List.length (List.map Ps.enc b) ≤ (0 : Nat) then some (0 : Nat) else none) (List.map Ps.enc [] ++ List.map Ps.enc b) = AV.sl Mode.own (nat_lit 33) (if List.length (List.map Ps.enc []) + List.length (List.map Ps.enc b) ≤ (0 : Nat) then some (0 : Nat) else none) (List.map Ps.enc ([] ++ b))) (g4 : decide ((0 : Int) ≤ (0 : Int) ∧ (0 : Int) ≤ (↑(List.length (List.map Ps.enc (nf ([] ++ b)))) : Int) ∧ (↑(List.length (List.map Ps.enc (nf ([] ++ b)))) : Int) ≤ (4294967296 : Int) ∧ TInfo.bytes { zero := [Value.int IntKind.u8 (0 : Int), Value.int IntKind.i64 (0 : Int), Value.bool false, Value.int IntKind.u8 (0 : Int)], bytes := (24 : Nat), agg := true, kind := TK.struct [((0 : Nat), (2 : Nat)), ((2 : Nat), (1 : Nat)), ((3 : Nat), (1 : Nat))] } ≤ (4096 : Nat) ∧ (0 : Nat) < List.length (TInfo.zero { zero := [Value.int IntKind.u8 (0 : Int), Value.int IntKind.i64 (0 : Int), Value.bool false, Value.int IntKind.u8 (0 : Int)], bytes := (24 : Nat), agg := true, kind := TK.struct [((0 : Nat), (2 : Nat)), ((2 : Nat), (1 : Nat)), ((3 : Nat), (1 : Nat))] })) = true) (g5 : AV.sl Mode.own (nat_lit 33) (some (Int.toNat (↑(List.length (List.map Ps.enc (nf ([] ++ b)))) : Int))) [] = AV.sl Mode.own (nat_lit 33) (some (Int.toNat (↑(List.length (List.map Ps.enc (nf ([] ++ b)))) : Int))) (List.map Ps.enc (List.replicate (Int.toNat (0 : Int)) { y := (0 : Int), n := (0 : Int), f := false, d := (0 : Int) }))) (g6 : decide ((23 : Nat) = (23 : Nat) ∧ (List.all (List.map Ps.enc (nf ([] ++ b))) fun y => List.all (AV.ecells y) plainA) = true ∧ (List.all (List.map Ps.enc (nf ([] ++ b))) fun y => decide (List.length (AV.ecells y) = List.length (TInfo.zero { zero := [Value.int IntKind.u8 (0 : Int), Value.int IntKind.i64 (0 : Int), Value.bool false, Value.int IntKind.u8 (0 : Int)], bytes := (24 : Nat), agg := true, kind := TK.struct [((0 : Nat), (2 : Nat)), ((2 : Nat), (1 : Nat)), ((3 : Nat), (1 : Nat))] }))) = true) = true) (g7 : decide (nat_lit 33 = (33 : TypeId) ∧ List.length (List.map Ps.enc (List.replicate (Int.toNat (0 : Int)) { y := (0 : Int), n := (0 : Int), f := false, d := (0 : Int) })) + List.length (List.map Ps.enc (nf ([] ++ b))) ≤ (4294967296 : Nat) ∧ Oper.dst { dst := some (40 : Nat), op := Op.call { callee := Callee.builtin Builtin.append, args := #[Operand.tmp (38 : Nat), Operand.tmp (39 : Nat)], argTypes := #[(23 : Nat), (23 : Nat)] }, type := (23 : Nat), pos := "law.go:74", after := #[{ on := (2 : Nat), ground := Ground.data }, { on := (3 : Nat), ground := Ground.data }], guard := none } ≠ some (38 : Nat)) = true) (g8 : AV.sl Mode.own (nat_lit 33) (if List.length (List.map Ps.enc (List.replicate (Int.toNat (0 : Int)) { y := (0 : Int), n := (0 : Int), f := false, d := (0 : Int) })) + List.length (List.map Ps.enc (nf ([] ++ b))) ≤ Int.toNat (↑(List.length (List.map Ps.enc (nf ([] ++ b)))) : Int) then some (Int.toNat (↑(List.length (List.map Ps.enc (nf ([] ++ b)))) : Int)) else none) (List.map Ps.enc (List.replicate (Int.toNat (0 : Int)) { y := (0 : Int), n := (0 : Int), f := false, d := (0 : Int) }) ++ List.map Ps.enc (nf ([] ++ b))) = AV.sl Mode.own (nat_lit 33) (some (Int.toNat (↑(List.length (List.map Ps.enc (nf ([] ++ b)))) : Int))) (List.map Ps.enc (List.replicate (Int.toNat (0 : Int)) { y := (0 : Int), n := (0 : Int), f := false, d := (0 : Int) } ++ nf ([] ++ b)))) : PureC Try.prog 18 [sl ca b]  (AV.sl Mode.own (nat_lit 33) (some (Int.toNat (↑(List.length (List.map Ps.enc (nf ([] ++ b)))) : Int))) (List.map Ps.enc (List.replicate (Int.toNat (0 : Int)) { y := (0 : Int), n := (0 : Int), f := false, d := (0 : Int) } ++ nf ([] ++ b)))) :=
  funA_ok (H := h18) (n := 41) (ans := [Ans.c, Ans.r (AV.sl Mode.own (nat_lit 33) (some (0 : Nat)) (List.map Ps.enc [])), Ans.c, Ans.b true, Ans.b true, Ans.r (AV.sl Mode.own (nat_lit 33) (if List.length (List.map Ps.enc []) + List.length (List.map Ps.enc b) ≤ (0 : Nat) then some (0 : Nat) else none) (List.map Ps.enc ([] ++ b))), Ans.c, Ans.c, Ans.lp (Ex.exit (nat_lit 0)) [(nat_lit 3, AV.sl Mode.own (nat_lit 33) none (List.map Ps.enc (nf ([] ++ b))))], Ans.c, Ans.c, Ans.b true, Ans.r (AV.sl Mode.own (nat_lit 33) (some (Int.toNat (↑(List.length (List.map Ps.enc (nf ([] ++ b)))) : Int))) (List.map Ps.enc (List.replicate (Int.toNat (0 : Int)) { y := (0 : Int), n := (0 : Int), f := false, d := (0 : Int) }))), Ans.c, Ans.b true, Ans.b true, Ans.r (AV.sl Mode.own (nat_lit 33) (some (Int.toNat (↑(List.length (List.map Ps.enc (nf ([] ++ b)))) : Int))) (List.map Ps.enc (List.replicate (Int.toNat (0 : Int)) { y := (0 : Int), n := (0 : Int), f := false, d := (0 : Int) } ++ nf ([] ++ b)))), Ans.c]) (ps := [AV.sl Mode.own (nat_lit 33) (some (nat_lit 0)) [] = AV.sl Mode.own (nat_lit 33) (some (0 : Nat)) (List.map Ps.enc []), decide ((23 : Nat) = (23 : Nat) ∧ (List.all (List.map Ps.enc b) fun y => List.all (AV.ecells y) plainA) = true ∧ (List.all (List.map Ps.enc b) fun y => decide (List.length (AV.ecells y) = List.length (TInfo.zero { zero := [Value.int IntKind.u8 (0 : Int), Value.int IntKind.i64 (0 : Int), Value.bool false, Value.int IntKind.u8 (0 : Int)], bytes := (24 : Nat), agg := true, kind := TK.struct [((0 : Nat), (2 : Nat)), ((2 : Nat), (1 : Nat)), ((3 : Nat), (1 : Nat))] }))) = true) = true, decide (nat_lit 33 = (33 : TypeId) ∧ List.length (List.map Ps.enc []) + List.length (List.map Ps.enc b) ≤ (4294967296 : Nat) ∧ Oper.dst { dst := some (7 : Nat), op := Op.call { callee := Callee.builtin Builtin.append, args := #[Operand.tmp (5 : Nat), Operand.tmp (6 : Nat)], argTypes := #[(23 : Nat), (23 : Nat)] }, type := (23 : Nat), pos := "law.go:65", after := #[{ on := (0 : Nat), ground := Ground.data }, { on := (1 : Nat), ground := Ground.data }], guard := none } ≠ some (5 : Nat)) = true, AV.sl Mode.own (nat_lit 33) (if List.length (List.map Ps.enc []) + List.length (List.map Ps.enc b) ≤ (0 : Nat) then some (0 : Nat) else none) (List.map Ps.enc [] ++ List.map Ps.enc b) = AV.sl Mode.own (nat_lit 33) (if List.length (List.map Ps.enc []) + List.length (List.map Ps.enc b) ≤ (0 : Nat) then some (0 : Nat) else none) (List.map Ps.enc ([] ++ b)), Tri Try.prog (cxN (41 : Nat) (0 : Nat)) (Code.loop (loopBody Try.f18 (0 : Nat))) [(nat_lit 3, AV.sl Mode.own (nat_lit 33) (if List.length (List.map Ps.enc []) + List.length (List.map Ps.enc b) ≤ (0 : Nat) then some (0 : Nat) else none) (List.map Ps.enc ([] ++ b))), (nat_lit 4, AV.atom (Value.int IntKind.i64 (0 : Int)))] (Ex.exit (nat_lit 0)) [(nat_lit 3, AV.sl Mode.own (nat_lit 33) none (List.map Ps.enc (nf ([] ++ b))))], decide ((0 : Int) ≤ (0 : Int) ∧ (0 : Int) ≤ (↑(List.length (List.map Ps.enc (nf ([] ++ b)))) : Int) ∧ (↑(List.length (List.map Ps.enc (nf ([] ++ b)))) : Int) ≤ (4294967296 : Int) ∧ TInfo.bytes { zero := [Value.int IntKind.u8 (0 : Int), Value.int IntKind.i64 (0 : Int), Value.bool false, Value.int IntKind.u8 (0 : Int)], bytes := (24 : Nat), agg := true, kind := TK.struct [((0 : Nat), (2 : Nat)), ((2 : Nat), (1 : Nat)), ((3 : Nat), (1 : Nat))] } ≤ (4096 : Nat) ∧ (0 : Nat) < List.length (TInfo.zero { zero := [Value.int IntKind.u8 (0 : Int), Value.int IntKind.i64 (0 : Int), Value.bool false, Value.int IntKind.u8 (0 : Int)], bytes := (24 : Nat), agg := true, kind := TK.struct [((0 : Nat), (2 : Nat)), ((2 : Nat), (1 : Nat)), ((3 : Nat), (1 : Nat))] })) = true, AV.sl Mode.own (nat_lit 33) (some (Int.toNat (↑(List.length (List.map Ps.enc (nf ([] ++ b)))) : Int))) [] = AV.sl Mode.own (nat_lit 33) (some (Int.toNat (↑(List.length (List.map Ps.enc (nf ([] ++ b)))) : Int))) (List.map Ps.enc (List.replicate (Int.toNat (0 : Int)) { y := (0 : Int), n := (0 : Int), f := false, d := (0 : Int) })), decide ((23 : Nat) = (23 : Nat) ∧ (List.all (List.map Ps.enc (nf ([] ++ b))) fun y => List.all (AV.ecells y) plainA) = true ∧ (List.all (List.map Ps.enc (nf ([] ++ b))) fun y => decide (List.length (AV.ecells y) = List.length (TInfo.zero { zero := [Value.int IntKind.u8 (0 : Int), Value.int IntKind.i64 (0 : Int), Value.bool false, Value.int IntKind.u8 (0 : Int)], bytes := (24 : Nat), agg := true, kind := TK.struct [((0 : Nat), (2 : Nat)), ((2 : Nat), (1 : Nat)), ((3 : Nat), (1 : Nat))] }))) = true) = true, decide (nat_lit 33 = (33 : TypeId) ∧ List.length (List.map Ps.enc (List.replicate (Int.toNat (0 : Int)) { y := (0 : Int), n := (0 : Int), f := false, d := (0 : Int) })) + List.length (List.map Ps.enc (nf ([] ++ b))) ≤ (4294967296 : Nat) ∧ Oper.dst { dst := some (40 : Nat), op := Op.call { callee := Callee.builtin Builtin.append, args := #[Operand.tmp (38 : Nat), Operand.tmp (39 : Nat)], argTypes := #[(23 : Nat), (23 : Nat)] }, type := (23 : Nat), pos := "law.go:74", after := #[{ on := (2 : Nat), ground := Ground.data }, { on := (3 : Nat), ground := Ground.data }], guard := none } ≠ some (38 : Nat)) = true, AV.sl Mode.own (nat_lit 33) (if List.length (List.map Ps.enc (List.replicate (Int.toNat (0 : Int)) { y := (0 : Int), n := (0 : Int), f := false, d := (0 : Int) })) + List.length (List.map Ps.enc (nf ([] ++ b))) ≤ Int.toNat (↑(List.length (List.map Ps.enc (nf ([] ++ b)))) : Int) then some (Int.toNat (↑(List.length (List.map Ps.enc (nf ([] ++ b)))) : Int)) else none) (List.map Ps.enc (List.replicate (Int.toNat (0 : Int)) { y := (0 : Int), n := (0 : Int), f := false, d := (0 : Int) }) ++ List.map Ps.enc (nf ([] ++ b))) = AV.sl Mode.own (nat_lit 33) (some (Int.toNat (↑(List.length (List.map Ps.enc (nf ([] ++ b)))) : Int))) (List.map Ps.enc (List.replicate (Int.toNat (0 : Int)) { y := (0 : Int), n := (0 : Int), f := false, d := (0 : Int) } ++ nf ([] ++ b)))]) (base 41 0) Try.func18 rfl (by simp) rfl (by kernel_rfl)  (allp g0 (allp g1 (allp g2 (allp g3 (allp (by first | (apply lredu_loop <;> (first | assumption | rfl | (simp at *; done) | (simp at *; omega)))) (allp g4 (allp g5 (allp g6 (allp g7 (allp g8 allp_nil))))))))))


theorem flback_0 (ca : Option Nat) (b : List Ps) (hwf : ∀ p ∈ b, 0 ≤ p.d) (hb : b.length ≤ 4294967296) (g0 : AV.sl Mode.own (nat_lit 33) (some (nat_lit 0)) [] = AV.sl Mode.own (nat_lit 33) (some (0 : Nat)) (List.map Ps.enc [])) (g1 : decide ((23 : Nat) = (23 : Nat) ∧ (List.all (List.map Ps.enc b) fun y => List.all (AV.ecells y) plainA) = true ∧ (List.all (List.map Ps.enc b) fun y => decide (List.length (AV.ecells y) = List.length (TInfo.zero { zero := [Value.int IntKind.u8 (0 : Int), Value.int IntKind.i64 (0 : Int), Value.bool false, Value.int IntKind.u8 (0 : Int)], bytes := (24 : Nat), agg := true, kind := TK.struct [((0 : Nat), (2 : Nat)), ((2 : Nat), (1 : Nat)), ((3 : Nat), (1 : Nat))] }))) = true) = true) (g2 : decide (nat_lit 33 = (33 : TypeId) ∧ List.length (List.map Ps.enc []) + List.length (List.map Ps.enc b) ≤ (4294967296 : Nat) ∧ Oper.dst { dst := some (7 : Nat), op := Op.call { callee := Callee.builtin Builtin.append, args := #[Operand.tmp (5 : Nat), Operand.tmp (6 : Nat)], argTypes := #[(23 : Nat), (23 : Nat)] }, type := (23 : Nat), pos := "law.go:79", after := #[{ on := (0 : Nat), ground := Ground.data }, { on := (1 : Nat), ground := Ground.data }], guard := none } ≠ some (5 : Nat)) = true) (g3 : AV.sl Mode.own (nat_lit 33) (if List.length (List.map Ps.enc []) + List.length (List.map Ps.enc b) ≤ (0 : Nat) then some (0 : Nat) else none) (List.map Ps.enc [] ++ List.map Ps.enc b) = AV.sl Mode.own (nat_lit 33) (if List.length (List.map Ps.enc []) + List.length (List.map Ps.enc b) ≤ (0 : Nat) then some (0 : Nat) else none) (List.map Ps.enc ([] ++ b))) : PureC Try.prog 20 [sl ca b]  (AV.sl Mode.own (nat_lit 33) none (List.map Ps.enc (nf ([] ++ b)))) :=
  funA_ok (H := h20) (n := 40) (ans := [Ans.c, Ans.r (AV.sl Mode.own (nat_lit 33) (some (0 : Nat)) (List.map Ps.enc [])), Ans.c, Ans.b true, Ans.b true, Ans.r (AV.sl Mode.own (nat_lit 33) (if List.length (List.map Ps.enc []) + List.length (List.map Ps.enc b) ≤ (0 : Nat) then some (0 : Nat) else none) (List.map Ps.enc ([] ++ b))), Ans.c, Ans.c, Ans.c, Ans.c, Ans.c, Ans.lp (Ex.exit (nat_lit 0)) [(nat_lit 3, AV.sl Mode.own (nat_lit 33) none (List.map Ps.enc (nf ([] ++ b))))], Ans.c, Ans.c]) (ps := [AV.sl Mode.own (nat_lit 33) (some (nat_lit 0)) [] = AV.sl Mode.own (nat_lit 33) (some (0 : Nat)) (List.map Ps.enc []), decide ((23 : Nat) = (23 : Nat) ∧ (List.all (List.map Ps.enc b) fun y => List.all (AV.ecells y) plainA) = true ∧ (List.all (List.map Ps.enc b) fun y => decide (List.length (AV.ecells y) = List.length (TInfo.zero { zero := [Value.int IntKind.u8 (0 : Int), Value.int IntKind.i64 (0 : Int), Value.bool false, Value.int IntKind.u8 (0 : Int)], bytes := (24 : Nat), agg := true, kind := TK.struct [((0 : Nat), (2 : Nat)), ((2 : Nat), (1 : Nat)), ((3 : Nat), (1 : Nat))] }))) = true) = true, decide (nat_lit 33 = (33 : TypeId) ∧ List.length (List.map Ps.enc []) + List.length (List.map Ps.enc b) ≤ (4294967296 : Nat) ∧ Oper.dst { dst := some (7 : Nat), op := Op.call { callee := Callee.builtin Builtin.append, args := #[Operand.tmp (5 : Nat), Operand.tmp (6 : Nat)], argTypes := #[(23 : Nat), (23 : Nat)] }, type := (23 : Nat), pos := "law.go:79", after := #[{ on := (0 : Nat), ground := Ground.data }, { on := (1 : Nat), ground := Ground.data }], guard := none } ≠ some (5 : Nat)) = true, AV.sl Mode.own (nat_lit 33) (if List.length (List.map Ps.enc []) + List.length (List.map Ps.enc b) ≤ (0 : Nat) then some (0 : Nat) else none) (List.map Ps.enc [] ++ List.map Ps.enc b) = AV.sl Mode.own (nat_lit 33) (if List.length (List.map Ps.enc []) + List.length (List.map Ps.enc b) ≤ (0 : Nat) then some (0 : Nat) else none) (List.map Ps.enc ([] ++ b)), Tri Try.prog (cxN (40 : Nat) (0 : Nat)) (Code.loop (loopBody Try.f20 (0 : Nat))) [(nat_lit 3, AV.sl Mode.own (nat_lit 33) (if List.length (List.map Ps.enc []) + List.length (List.map Ps.enc b) ≤ (0 : Nat) then some (0 : Nat) else none) (List.map Ps.enc ([] ++ b))), (nat_lit 4, AV.atom (Value.int IntKind.i64 (IntKind.wrap IntKind.i64 ((↑(List.length (List.map Ps.enc ([] ++ b))) : Int) - (2 : Int)))))] (Ex.exit (nat_lit 0)) [(nat_lit 3, AV.sl Mode.own (nat_lit 33) none (List.map Ps.enc (nf ([] ++ b))))]]) (base 40 0) Try.func20 rfl (by simp) rfl (by kernel_rfl)  (allp g0 (allp g1 (allp g2 (allp g3 (allp (by first | (apply lback_loop <;> (first | assumption | rfl | (simp at *; done) | (simp at *; omega)))) allp_nil)))))


theorem valT_0 (ca : Option Nat) (a : List Ps) (hA : a.length < 2 ^ 62) (h : a.all validP = true) : PureC Try.prog 49 [sl ca a]  (AV.atom (Value.bool true)) :=
  funA_ok (H := h49) (n := 22) (ans := [Ans.c, Ans.c, Ans.c, Ans.c, Ans.lp (Ex.exit (nat_lit 0)) [(nat_lit 5, AV.sl Mode.any (nat_lit 33) ca (List.map Ps.enc a)), (nat_lit 6, AV.atom (Value.int IntKind.i64 (↑(List.length a) : Int))), (nat_lit 7, AV.atom (Value.int IntKind.i64 (↑(List.length a) : Int))), (nat_lit 8, AV.atom (Value.bool (decide ((↑(List.length a) : Int) < (↑(List.length a) : Int)))))], Ans.c]) (ps := [Tri Try.prog (cxN (22 : Nat) (0 : Nat)) (Code.loop (loopBody Try.f49 (0 : Nat))) [(nat_lit 5, AV.sl Mode.any (nat_lit 33) ca (List.map Ps.enc a)), (nat_lit 6, AV.atom (Value.int IntKind.i64 (↑(List.length (List.map Ps.enc a)) : Int))), (nat_lit 7, AV.atom (Value.int IntKind.i64 (0 : Int)))] (Ex.exit (nat_lit 0)) [(nat_lit 5, AV.sl Mode.any (nat_lit 33) ca (List.map Ps.enc a)), (nat_lit 6, AV.atom (Value.int IntKind.i64 (↑(List.length a) : Int))), (nat_lit 7, AV.atom (Value.int IntKind.i64 (↑(List.length a) : Int))), (nat_lit 8, AV.atom (Value.bool (decide ((↑(List.length a) : Int) < (↑(List.length a) : Int)))))]]) (base 22 0) Try.func49 rfl (by simp) rfl (by kernel_rfl)  (allp (by first | (apply valid_loop_t <;> (first | assumption | rfl | (simp at *; done) | (simp at *; omega)))) allp_nil)


theorem valF_0 (ca : Option Nat) (a : List Ps) (hA : a.length < 2 ^ 62) (h : a.all validP = false) : PureC Try.prog 49 [sl ca a]  (AV.atom (Value.bool false)) :=
  funA_ok (H := h49) (n := 22) (ans := [Ans.c, Ans.c, Ans.c, Ans.c, Ans.lp Ex.ret [(nat_lit 2, AV.atom (Value.bool false))]]) (ps := [Tri Try.prog (cxN (22 : Nat) (0 : Nat)) (Code.loop (loopBody Try.f49 (0 : Nat))) [(nat_lit 5, AV.sl Mode.any (nat_lit 33) ca (List.map Ps.enc a)), (nat_lit 6, AV.atom (Value.int IntKind.i64 (↑(List.length (List.map Ps.enc a)) : Int))), (nat_lit 7, AV.atom (Value.int IntKind.i64 (0 : Int)))] Ex.ret [(nat_lit 2, AV.atom (Value.bool false))]]) (base 22 0) Try.func49 rfl (by simp) rfl (by kernel_rfl)  (allp (by first | (apply valid_loop_f <;> (first | assumption | rfl | (simp at *; done) | (simp at *; omega)))) allp_nil)


end Tst
end

section
open Go Go.Lf Go.Proofs
namespace Tst
theorem push_len (st : List Ps) (p : Ps) : (push st p).length ≤ st.length + 1 := by
  cases st with
  | nil => simp [push]
  | cons q st =>
    show (if can q p = true then st else p :: q :: st).length ≤ _
    split <;> simp <;> omega
theorem fold_len : ∀ (l st : List Ps), (l.foldl push st).length ≤ st.length + l.length
  | [], st => by simp
  | p :: l, st => by
    have h1 := fold_len l (push st p)
    have h2 := push_len st p
    simp only [List.foldl_cons, List.length_cons]
    omega
theorem nf_len (l : List Ps) : (nf l).length ≤ l.length := by
  unfold nf; rw [List.length_reverse]; simpa using fold_len l []
theorem all_noAny (k : Nat) (l : List Ps) : (l.map Ps.enc).all (noAny (k + 2)) = true := by
  simp [List.all_eq_true, Ps.enc, noAny]
theorem of_c (ca : Option Nat) (a : List Int) (h : a.length ≤ 4294967296) : PureC Try.prog 16 [pl ca a] (ow none (a.map ofP)) := of_0 ca a h
theorem lredu_c (ca : Option Nat) (b : List Ps) (hwf : ∀ p ∈ b, 0 ≤ p.d) (hb : b.length ≤ 4294967296) : PureC Try.prog 18 [sl ca b] (ow (some (nf b).length) (nf b)) := by
  have hn := nf_len b
  have := flredu_0 ca b hwf hb rfl (by simp only [decide_eq_true_eq]; exact ⟨trivial, all_plain _, all_four _⟩) (by simp; omega) (by simp) (by simp; omega) rfl
    (by simp only [decide_eq_true_eq]; exact ⟨trivial, all_plain _, all_four _⟩) (by simp; omega) (by simp)
  simpa [ow] using this
theorem lback_c (ca : Option Nat) (b : List Ps) (hwf : ∀ p ∈ b, 0 ≤ p.d) (hb : b.length ≤ 4294967296) : PureC Try.prog 20 [sl ca b] (ow none (nf b)) := by
  have hn := nf_len b
  have := flback_0 ca b hwf hb rfl (by simp only [decide_eq_true_eq]; exact ⟨trivial, all_plain _, all_four _⟩) (by simp; omega) (by simp)
  simpa [ow] using this
theorem valid_c (ca : Option Nat) (a : List Ps) (hA : a.length < 2 ^ 62) : PureC Try.prog 49 [sl ca a] (.atom (.bool (a.all validP))) := by
  cases h : a.all validP with
  | true => exact valT_0 ca a hA h
  | false => exact valF_0 ca a hA h

/-! Reduce -/
theorem red_rnd (ca : Option Nat) (l : List Ps) (hl : l.length ≤ 4294967296) : ∀ (k i : Nat) (st : List Ps), i + k = l.length → st.length ≤ i →
    Rnd Try.prog (cxN 41 0) (loopBody Try.f17 0) (k + 1) [(0, sl ca l), (3, ow (some l.length) st.reverse), (10, sl ca l), (11, it l.length), (12, it i)] (.exit 0) [(3, ow (some l.length) ((l.drop i).foldl push st).reverse)] := by
  intro k
  induction k with
  | zero =>
    intro i st hi hst
    have hi' : i = l.length := by omega
    subst hi'
    rw [List.drop_length]
    exact Rnd.exit (Tri.after [(3, .keep)] (lred_3 ca l st.reverse l.length l.length (by simp))) (by simp)
  | succ k ih =>
    intro i st hi hst
    have hlt : i < l.length := by omega
    have e : l.drop i = l.getD i default :: l.drop (i + 1) := by
      rw [List.drop_eq_getElem_cons hlt]; simp [List.getD_eq_getElem?_getD, hlt]
    rw [e, List.foldl_cons]
    have hw : IntKind.i64.wrap ((i : Int) + 1) = (i : Int) + 1 := wrap_id (by omega) (by omega)
    have hlast : IntKind.i64.wrap (((st.reverse.map Ps.enc).length : Int) - 1) = (st.length : Int) - 1 := by
      rw [List.length_map, List.length_reverse]; exact wrap_id (by omega) (by omega)
    have eta : (⟨(l.getD i default).y, (l.getD i default).n, (l.getD i default).f, (l.getD i default).d⟩ : Ps) = l.getD i default := rfl
    cases st with
    | nil =>
      have h1 := lred_2 ca l [] l.length i (by simpa using hlt) (by simpa using hlt) (getD_enc hlt) (by decide) rfl (by simp) (by
        rw [if_pos (by simp; omega), List.map_append])
      rw [hw] at h1
      exact Rnd.step h1 (ih (i + 1) [l.getD i default] (by omega) (by simp))
    | cons q st =>
      have hs1 : ((((q :: st).length : Nat) : Int) - 1) = ((st.length : Nat) : Int) := by simp
      rw [hs1] at hlast
      have hgd : (q :: st).reverse.getD st.length default = q := by simp [List.getD_eq_getElem?_getD]
      by_cases hc : can q (l.getD i default) = true
      · have h1 := lred_0 ca l (q :: st).reverse l.length i (by simpa using hlt) (by simpa using hlt) (getD_enc hlt) (by rw [hlast]; simp) (by rw [hlast]; simp; omega) (by rw [hlast]; simp) (by rw [hlast]; exact getD_enc (by simp)) (by rw [hlast, Int.toNat_natCast, hgd]; exact hc)
          (by rw [hlast]; simp at hst ⊢; omega) (by rw [hlast]; simp) (by rw [hlast]; simp [cxN, cxA])
        rw [hw, hlast] at h1
        have e3 : List.take ((st.length : Int).toNat - 0) (List.map Ps.enc (q :: st).reverse) = List.map Ps.enc st.reverse := by
          rw [← List.map_take]; congr 1; simp
        rw [e3] at h1
        have hp : push (q :: st) (l.getD i default) = st := by simp only [push, hc, if_true]
        rw [hp]
        exact Rnd.step h1 (ih (i + 1) st (by omega) (by simp at hst; omega))
      · have hc' : can q (l.getD i default) = false := by simpa using hc
        have h1 := lred_1 ca l (q :: st).reverse l.length i (by simpa using hlt) (by simpa using hlt) (getD_enc hlt) (by rw [hlast]; simp) (by rw [hlast]; simp; omega) (by rw [hlast]; simp) (by rw [hlast]; exact getD_enc (by simp)) (by rw [hlast, Int.toNat_natCast, hgd]; exact hc')
          rfl (by simp at hst ⊢; omega) (by rw [if_pos (by simp at hst ⊢; omega), List.map_append])
        rw [hw] at h1
        have hp : push (q :: st) (l.getD i default) = l.getD i default :: q :: st := by simp only [push, hc', Bool.false_eq_true, if_false]
        rw [hp]
        have h2 := ih (i + 1) (l.getD i default :: q :: st) (by omega) (by simp at hst ⊢; omega)
        rw [List.reverse_cons] at h2
        exact Rnd.step h1 h2
theorem red_loop (ca : Option Nat) (l : List Ps) (hl : l.length ≤ 4294967296) : Tri Try.prog (cxN 41 0) (.loop (loopBody Try.f17 0)) [(0, sl ca l), (3, ow (some ((l.map Ps.enc).length : Int).toNat) []), (10, sl ca l), (11, it ((l.map Ps.enc).length : Nat)), (12, it 0)] (.exit 0) [(3, ow (some l.length) (nf l))] := by
  have := Rnd.loop (red_rnd ca l hl l.length 0 [] (by omega) (by simp))
  simpa [nf, ow] using this

/-! reduced -/
def irrB : List Ps → Bool
  | p :: q :: l => !can p q && irrB (q :: l)
  | _ => true
theorem rdd_rnd (ca : Option Nat) (l : List Ps) (hA : l.length < 2 ^ 62) : ∀ (k i : Nat), i + k = l.length → 1 ≤ i →
    Rnd Try.prog (cxN 20 0) (loopBody Try.f67 0) (k + 1) [(0, sl ca l), (3, it i)] (if irrB (l.drop (i - 1)) = true then .exit 0 else .ret) (if irrB (l.drop (i - 1)) = true then [] else [(2, .atom (.bool false))]) := by
  intro k
  induction k with
  | zero =>
    intro i hi h1
    have hi' : i = l.length := by omega
    subst hi'
    have hl1 : (l.drop (l.length - 1)).length = 1 := by simp; omega
    obtain ⟨p, hp⟩ := List.length_eq_one_iff.1 hl1
    rw [hp]
    have hirr : irrB [p] = true := rfl
    rw [hirr, if_pos rfl, if_pos rfl]
    exact Rnd.exit (Tri.after [] (lrdd_2 ca l l.length (by simp))) (by simp)
  | succ k ih =>
    intro i hi h1
    have hlt : i < l.length := by omega
    have hw : IntKind.i64.wrap ((i : Int) + 1) = (i : Int) + 1 := wrap_id (by omega) (by omega)
    have hw1 : IntKind.i64.wrap ((i : Int) - 1) = (i : Int) - 1 := wrap_id (by omega) (by omega)
    have t1 : ((i : Int) - 1).toNat = i - 1 := by omega
    have e1 : l.drop (i - 1) = l.getD (i - 1) default :: l.drop i := by
      rw [List.drop_eq_getElem_cons (by omega)]; simp [List.getD_eq_getElem?_getD, show i - 1 < l.length by omega, show i - 1 + 1 = i by omega]
    have e2 : l.drop i = l.getD i default :: l.drop (i + 1) := by
      rw [List.drop_eq_getElem_cons hlt]; simp [List.getD_eq_getElem?_getD, hlt]
    have hb : irrB (l.drop (i - 1)) = (!can (l.getD (i - 1) default) (l.getD i default) && irrB (l.drop i)) := by
      rw [e1, e2]; rfl
    rw [hb]
    have G := fun (c : Bool) (hc : can (l.getD (i - 1) default) (l.getD i default) = c) =>
      show can (l.getD (IntKind.i64.wrap ((i : Int) - 1)).toNat default) (l.getD ((i : Nat) : Int).toNat default) = c by rw [hw1, t1, Int.toNat_natCast]; exact hc
    cases hc : can (l.getD (i - 1) default) (l.getD i default) with
    | true =>
      have h0 := lrdd_0 ca l i (by simpa using hlt) (by rw [hw1]; simp; omega) (by rw [hw1, t1]; exact getD_enc (by omega)) (by simpa using hlt) (getD_enc hlt) (G _ hc)
      exact Rnd.exit h0 (by simp)
    | false =>
      have h0 := lrdd_1 ca l i (by simpa using hlt) (by rw [hw1]; simp; omega) (by rw [hw1, t1]; exact getD_enc (by omega)) (by simpa using hlt) (getD_enc hlt) (G _ hc)
      rw [hw] at h0
      have h2 := ih (i + 1) (by omega) (by omega)
      rw [Nat.add_sub_cancel] at h2
      exact Rnd.step h0 h2
end Tst
end

section
open Go Go.Lf Go.Proofs
namespace Tst
theorem red_0 (ca : Option Nat) (l : List Ps) (hl : l.length ≤ 4294967296) (hn : (nf l).length ≤ 4294967296) (g0 : decide ((0 : Int) ≤ (0 : Int) ∧ (0 : Int) ≤ (↑(List.length (List.map Ps.enc l)) : Int) ∧ (↑(List.length (List.map Ps.enc l)) : Int) ≤ (4294967296 : Int) ∧ TInfo.bytes { zero := [Value.int IntKind.u8 (0 : Int), Value.int IntKind.i64 (0 : Int), Value.bool false, Value.int IntKind.u8 (0 : Int)], bytes := (24 : Nat), agg := true, kind := TK.struct [((0 : Nat), (2 : Nat)), ((2 : Nat), (1 : Nat)), ((3 : Nat), (1 : Nat))] } ≤ (4096 : Nat) ∧ (0 : Nat) < List.length (TInfo.zero { zero := [Value.int IntKind.u8 (0 : Int), Value.int IntKind.i64 (0 : Int), Value.bool false, Value.int IntKind.u8 (0 : Int)], bytes := (24 : Nat), agg := true, kind := TK.struct [((0 : Nat), (2 : Nat)), ((2 : Nat), (1 : Nat)), ((3 : Nat), (1 : Nat))] })) = true) (g1 : AV.sl Mode.own (nat_lit 33) (some (Int.toNat (↑(List.length (List.map Ps.enc l)) : Int))) [] = AV.sl Mode.own (nat_lit 33) (some (Int.toNat (↑(List.length (List.map Ps.enc l)) : Int))) (List.map Ps.enc (List.replicate (Int.toNat (0 : Int)) { y := (0 : Int), n := (0 : Int), f := false, d := (0 : Int) }))) (g2 : decide ((true || false) = true → noAny (12 : Nat) (AV.sl Mode.own (nat_lit 33) (some (List.length (nf l))) (List.map Ps.enc (nf l))) = true) = true) : PureC Try.prog 17 [sl ca l]  (AV.sl Mode.own (nat_lit 33) (some (List.length (nf l))) (List.map Ps.enc (nf l))) :=
  funA_ok (H := h17) (n := 41) (ans := [Ans.c, Ans.c, Ans.c, Ans.b true, Ans.r (AV.sl Mode.own (nat_lit 33) (some (Int.toNat (↑(List.length (List.map Ps.enc l)) : Int))) (List.map Ps.enc (List.replicate (Int.toNat (0 : Int)) { y := (0 : Int), n := (0 : Int), f := false, d := (0 : Int) }))), Ans.c, Ans.c, Ans.c, Ans.c, Ans.lp (Ex.exit (nat_lit 0)) [(nat_lit 3, AV.sl Mode.own (nat_lit 33) (some (List.length l)) (List.map Ps.enc (nf l)))], Ans.c, Ans.r (AV.sl Mode.any (nat_lit 33) (some (List.length l)) (List.map Ps.enc (nf l))), Ans.r (AV.sl Mode.own (nat_lit 33) (some (List.length (nf l))) (List.map Ps.enc (nf l))), Ans.b true, Ans.c, Ans.c]) (ps := [decide ((0 : Int) ≤ (0 : Int) ∧ (0 : Int) ≤ (↑(List.length (List.map Ps.enc l)) : Int) ∧ (↑(List.length (List.map Ps.enc l)) : Int) ≤ (4294967296 : Int) ∧ TInfo.bytes { zero := [Value.int IntKind.u8 (0 : Int), Value.int IntKind.i64 (0 : Int), Value.bool false, Value.int IntKind.u8 (0 : Int)], bytes := (24 : Nat), agg := true, kind := TK.struct [((0 : Nat), (2 : Nat)), ((2 : Nat), (1 : Nat)), ((3 : Nat), (1 : Nat))] } ≤ (4096 : Nat) ∧ (0 : Nat) < List.length (TInfo.zero { zero := [Value.int IntKind.u8 (0 : Int), Value.int IntKind.i64 (0 : Int), Value.bool false, Value.int IntKind.u8 (0 : Int)], bytes := (24 : Nat), agg := true, kind := TK.struct [((0 : Nat), (2 : Nat)), ((2 : Nat), (1 : Nat)), ((3 : Nat), (1 : Nat))] })) = true, AV.sl Mode.own (nat_lit 33) (some (Int.toNat (↑(List.length (List.map Ps.enc l)) : Int))) [] = AV.sl Mode.own (nat_lit 33) (some (Int.toNat (↑(List.length (List.map Ps.enc l)) : Int))) (List.map Ps.enc (List.replicate (Int.toNat (0 : Int)) { y := (0 : Int), n := (0 : Int), f := false, d := (0 : Int) })), Tri Try.prog (cxN (41 : Nat) (0 : Nat)) (Code.loop (loopBody Try.f17 (0 : Nat))) [(nat_lit 0, AV.sl Mode.any (nat_lit 33) ca (List.map Ps.enc l)), (nat_lit 3, AV.sl Mode.own (nat_lit 33) (some (Int.toNat (↑(List.length (List.map Ps.enc l)) : Int))) []), (nat_lit 10, AV.sl Mode.any (nat_lit 33) ca (List.map Ps.enc l)), (nat_lit 11, AV.atom (Value.int IntKind.i64 (↑(List.length (List.map Ps.enc l)) : Int))), (nat_lit 12, AV.atom (Value.int IntKind.i64 (0 : Int)))] (Ex.exit (nat_lit 0)) [(nat_lit 3, AV.sl Mode.own (nat_lit 33) (some (List.length l)) (List.map Ps.enc (nf l)))], view (AV.sl Mode.own (nat_lit 33) (some (List.length l)) (List.map Ps.enc (nf l))) = AV.sl Mode.any (nat_lit 33) (some (List.length l)) (List.map Ps.enc (nf l)), PureC Try.prog (nat_lit 44) [AV.sl Mode.any (nat_lit 33) (some (List.length l)) (List.map Ps.enc (nf l))] (AV.sl Mode.own (nat_lit 33) (some (List.length (nf l))) (List.map Ps.enc (nf l))), decide ((true || false) = true → noAny (12 : Nat) (AV.sl Mode.own (nat_lit 33) (some (List.length (nf l))) (List.map Ps.enc (nf l))) = true) = true]) (base 41 0) Try.func17 rfl (by simp) rfl (by kernel_rfl)  (allp g0 (allp g1 (allp (by first | (apply red_loop <;> (first | assumption | rfl | (simp at *; done) | (simp at *; omega))) | (apply fresh_c <;> (first | assumption | rfl | (simp at *; done) | (simp at *; omega)))) (allp (by first | exact view_ps _ _ _ | exact view_u8 _ _ _ | rfl) (allp (by first | (apply red_loop <;> (first | assumption | rfl | (simp at *; done) | (simp at *; omega))) | (apply fresh_c <;> (first | assumption | rfl | (simp at *; done) | (simp at *; omega)))) (allp g2 allp_nil))))))


theorem yrl_0 (c : Option Nat) (l : List Ps) (i : Int) (g0 : decide (IntKind.wrap IntKind.i64 (i + (1 : Int)) < (↑(List.length (List.map Ps.enc l)) : Int)) = true) (g1 : decide ((0 : Int) ≤ i ∧ i < (↑(List.length (List.map Ps.enc l)) : Int)) = true) (g2 : decide (Int.toNat i < List.length (List.map Ps.enc l)) = true) (g3 : List.getD (List.map Ps.enc l) (Int.toNat i) AV.bad = Ps.enc (List.getD l (Int.toNat i) default)) (g4 : decide ((0 : Int) ≤ IntKind.wrap IntKind.i64 (i + (1 : Int)) ∧ IntKind.wrap IntKind.i64 (i + (1 : Int)) < (↑(List.length (List.map Ps.enc l)) : Int)) = true) (g5 : decide (Int.toNat (IntKind.wrap IntKind.i64 (i + (1 : Int))) < List.length (List.map Ps.enc l)) = true) (g6 : List.getD (List.map Ps.enc l) (Int.toNat (IntKind.wrap IntKind.i64 (i + (1 : Int)))) AV.bad = Ps.enc (List.getD l (Int.toNat (IntKind.wrap IntKind.i64 (i + (1 : Int)))) default)) (g7 : ((if lcan (List.getD l (Int.toNat i) default) (List.getD l (Int.toNat (IntKind.wrap IntKind.i64 (i + (1 : Int)))) default) = true then (1 : Int) else (0 : Int)) == (1 : Int)) = true) : Tri Try.prog (cxN 77 0) (loopBody Try.f3 0) ([(7, ow c l), (9, it i)] ) (Ex.ret) ([(nat_lit 4, AV.atom (Value.bool false))]) :=
  evA_ok (H := h3) (ans := [Ans.c, Ans.c, Ans.c, Ans.c, Ans.c, Ans.b true, Ans.c, Ans.c, Ans.b true, Ans.c, Ans.b true, Ans.r (Ps.enc (List.getD l (Int.toNat i) default)), Ans.c, Ans.c, Ans.c, Ans.c, Ans.b true, Ans.c, Ans.b true, Ans.r (Ps.enc (List.getD l (Int.toNat (IntKind.wrap IntKind.i64 (i + (1 : Int)))) default)), Ans.c, Ans.r (AV.atom (Value.int IntKind.i64 (if lcan (List.getD l (Int.toNat i) default) (List.getD l (Int.toNat (IntKind.wrap IntKind.i64 (i + (1 : Int)))) default) = true then (1 : Int) else (0 : Int)))), Ans.c, Ans.c, Ans.c, Ans.b true, Ans.c]) (ps := [decide (IntKind.wrap IntKind.i64 (i + (1 : Int)) < (↑(List.length (List.map Ps.enc l)) : Int)) = true, decide ((0 : Int) ≤ i ∧ i < (↑(List.length (List.map Ps.enc l)) : Int)) = true, decide (Int.toNat i < List.length (List.map Ps.enc l)) = true, List.getD (List.map Ps.enc l) (Int.toNat i) AV.bad = Ps.enc (List.getD l (Int.toNat i) default), decide ((0 : Int) ≤ IntKind.wrap IntKind.i64 (i + (1 : Int)) ∧ IntKind.wrap IntKind.i64 (i + (1 : Int)) < (↑(List.length (List.map Ps.enc l)) : Int)) = true, decide (Int.toNat (IntKind.wrap IntKind.i64 (i + (1 : Int))) < List.length (List.map Ps.enc l)) = true, List.getD (List.map Ps.enc l) (Int.toNat (IntKind.wrap IntKind.i64 (i + (1 : Int)))) AV.bad = Ps.enc (List.getD l (Int.toNat (IntKind.wrap IntKind.i64 (i + (1 : Int)))) default), PureC Try.prog (nat_lit 21) [AV.agg [AV.atom (Value.int IntKind.u8 (Ps.y (List.getD l (Int.toNat i) default))), AV.atom (Value.int IntKind.i64 (Ps.n (List.getD l (Int.toNat i) default))), AV.atom (Value.bool (Ps.f (List.getD l (Int.toNat i) default))), AV.atom (Value.int IntKind.u8 (Ps.d (List.getD l (Int.toNat i) default)))], AV.agg [AV.atom (Value.int IntKind.u8 (Ps.y (List.getD l (Int.toNat (IntKind.wrap IntKind.i64 (i + (1 : Int)))) default))), AV.atom (Value.int IntKind.i64 (Ps.n (List.getD l (Int.toNat (IntKind.wrap IntKind.i64 (i + (1 : Int)))) default))), AV.atom (Value.bool (Ps.f (List.getD l (Int.toNat (IntKind.wrap IntKind.i64 (i + (1 : Int)))) default))), AV.atom (Value.int IntKind.u8 (Ps.d (List.getD l (Int.toNat (IntKind.wrap IntKind.i64 (i + (1 : Int)))) default)))]] (AV.atom (Value.int IntKind.i64 (if lcan (List.getD l (Int.toNat i) default) (List.getD l (Int.toNat (IntKind.wrap IntKind.i64 (i + (1 : Int)))) default) = true then (1 : Int) else (0 : Int)))), ((if lcan (List.getD l (Int.toNat i) default) (List.getD l (Int.toNat (IntKind.wrap IntKind.i64 (i + (1 : Int)))) default) = true then (1 : Int) else (0 : Int)) == (1 : Int)) = true]) (ans' := []) (base 77 0) cxA_K.1 cxA_K.2 _ (by kernel_rfl)  (allp g0 (allp g1 (allp g2 (allp g3 (allp g4 (allp g5 (allp g6 (allp (by first | (apply lcancel_c <;> (first | assumption | rfl | (simp at *; done) | (simp at *; omega)))) (allp g7 allp_nil)))))))))
theorem yrl_1 (c : Option Nat) (l : List Ps) (i : Int) (g0 : decide (IntKind.wrap IntKind.i64 (i + (1 : Int)) < (↑(List.length (List.map Ps.enc l)) : Int)) = true) (g1 : decide ((0 : Int) ≤ i ∧ i < (↑(List.length (List.map Ps.enc l)) : Int)) = true) (g2 : decide (Int.toNat i < List.length (List.map Ps.enc l)) = true) (g3 : List.getD (List.map Ps.enc l) (Int.toNat i) AV.bad = Ps.enc (List.getD l (Int.toNat i) default)) (g4 : decide ((0 : Int) ≤ IntKind.wrap IntKind.i64 (i + (1 : Int)) ∧ IntKind.wrap IntKind.i64 (i + (1 : Int)) < (↑(List.length (List.map Ps.enc l)) : Int)) = true) (g5 : decide (Int.toNat (IntKind.wrap IntKind.i64 (i + (1 : Int))) < List.length (List.map Ps.enc l)) = true) (g6 : List.getD (List.map Ps.enc l) (Int.toNat (IntKind.wrap IntKind.i64 (i + (1 : Int)))) AV.bad = Ps.enc (List.getD l (Int.toNat (IntKind.wrap IntKind.i64 (i + (1 : Int)))) default)) (g7 : ((if lcan (List.getD l (Int.toNat i) default) (List.getD l (Int.toNat (IntKind.wrap IntKind.i64 (i + (1 : Int)))) default) = true then (1 : Int) else (0 : Int)) == (1 : Int)) = false) : Tri Try.prog (cxN 77 0) (loopBody Try.f3 0) ([(7, ow c l), (9, it i)] ) (Ex.normal) ([(nat_lit 7, AV.sl Mode.own (nat_lit 33) c (List.map Ps.enc l)), (nat_lit 9, AV.atom (Value.int IntKind.i64 (IntKind.wrap IntKind.i64 (i + (1 : Int)))))]) :=
  evA_ok (H := h3) (ans := [Ans.c, Ans.c, Ans.c, Ans.c, Ans.c, Ans.b true, Ans.c, Ans.c, Ans.b true, Ans.c, Ans.b true, Ans.r (Ps.enc (List.getD l (Int.toNat i) default)), Ans.c, Ans.c, Ans.c, Ans.c, Ans.b true, Ans.c, Ans.b true, Ans.r (Ps.enc (List.getD l (Int.toNat (IntKind.wrap IntKind.i64 (i + (1 : Int)))) default)), Ans.c, Ans.r (AV.atom (Value.int IntKind.i64 (if lcan (List.getD l (Int.toNat i) default) (List.getD l (Int.toNat (IntKind.wrap IntKind.i64 (i + (1 : Int)))) default) = true then (1 : Int) else (0 : Int)))), Ans.c, Ans.c, Ans.c, Ans.b false, Ans.c, Ans.c, Ans.c]) (ps := [decide (IntKind.wrap IntKind.i64 (i + (1 : Int)) < (↑(List.length (List.map Ps.enc l)) : Int)) = true, decide ((0 : Int) ≤ i ∧ i < (↑(List.length (List.map Ps.enc l)) : Int)) = true, decide (Int.toNat i < List.length (List.map Ps.enc l)) = true, List.getD (List.map Ps.enc l) (Int.toNat i) AV.bad = Ps.enc (List.getD l (Int.toNat i) default), decide ((0 : Int) ≤ IntKind.wrap IntKind.i64 (i + (1 : Int)) ∧ IntKind.wrap IntKind.i64 (i + (1 : Int)) < (↑(List.length (List.map Ps.enc l)) : Int)) = true, decide (Int.toNat (IntKind.wrap IntKind.i64 (i + (1 : Int))) < List.length (List.map Ps.enc l)) = true, List.getD (List.map Ps.enc l) (Int.toNat (IntKind.wrap IntKind.i64 (i + (1 : Int)))) AV.bad = Ps.enc (List.getD l (Int.toNat (IntKind.wrap IntKind.i64 (i + (1 : Int)))) default), PureC Try.prog (nat_lit 21) [AV.agg [AV.atom (Value.int IntKind.u8 (Ps.y (List.getD l (Int.toNat i) default))), AV.atom (Value.int IntKind.i64 (Ps.n (List.getD l (Int.toNat i) default))), AV.atom (Value.bool (Ps.f (List.getD l (Int.toNat i) default))), AV.atom (Value.int IntKind.u8 (Ps.d (List.getD l (Int.toNat i) default)))], AV.agg [AV.atom (Value.int IntKind.u8 (Ps.y (List.getD l (Int.toNat (IntKind.wrap IntKind.i64 (i + (1 : Int)))) default))), AV.atom (Value.int IntKind.i64 (Ps.n (List.getD l (Int.toNat (IntKind.wrap IntKind.i64 (i + (1 : Int)))) default))), AV.atom (Value.bool (Ps.f (List.getD l (Int.toNat (IntKind.wrap IntKind.i64 (i + (1 : Int)))) default))), AV.atom (Value.int IntKind.u8 (Ps.d (List.getD l (Int.toNat (IntKind.wrap IntKind.i64 (i + (1 : Int)))) default)))]] (AV.atom (Value.int IntKind.i64 (if lcan (List.getD l (Int.toNat i) default) (List.getD l (Int.toNat (IntKind.wrap IntKind.i64 (i + (1 : Int)))) default) = true then (1 : Int) else (0 : Int)))), ((if lcan (List.getD l (Int.toNat i) default) (List.getD l (Int.toNat (IntKind.wrap IntKind.i64 (i + (1 : Int)))) default) = true then (1 : Int) else (0 : Int)) == (1 : Int)) = false]) (ans' := []) (base 77 0) cxA_K.1 cxA_K.2 _ (by kernel_rfl)  (allp g0 (allp g1 (allp g2 (allp g3 (allp g4 (allp g5 (allp g6 (allp (by first | (apply lcancel_c <;> (first | assumption | rfl | (simp at *; done) | (simp at *; omega)))) (allp g7 allp_nil)))))))))
theorem yrl_2 (c : Option Nat) (l : List Ps) (i : Int) (g0 : decide (IntKind.wrap IntKind.i64 (i + (1 : Int)) < (↑(List.length (List.map Ps.enc l)) : Int)) = false) : Tri Try.prog (cxN 77 0) (loopBody Try.f3 0) ([(7, ow c l), (9, it i)] ) (Ex.exit (nat_lit 0)) ([(nat_lit 7, AV.sl Mode.own (nat_lit 33) c (List.map Ps.enc l)), (nat_lit 9, AV.atom (Value.int IntKind.i64 i)), (nat_lit 55, AV.atom (Value.bool (decide (IntKind.wrap IntKind.i64 (i + (1 : Int)) < (↑(List.length (List.map Ps.enc l)) : Int)))))]) :=
  evA_ok (H := h3) (ans := [Ans.c, Ans.c, Ans.c, Ans.c, Ans.c, Ans.b false]) (ps := [decide (IntKind.wrap IntKind.i64 (i + (1 : Int)) < (↑(List.length (List.map Ps.enc l)) : Int)) = false]) (ans' := []) (base 77 0) cxA_K.1 cxA_K.2 _ (by kernel_rfl)  (allp g0 allp_nil)


end Tst
end

section
open Go Go.Lf Go.Proofs
namespace Tst
theorem e3 : tab0.run 8 15 [] = some (.atom (.bool true)) := by kernel_rfl
theorem lives_ok : PureC Try.prog 15 [] (.atom (.bool true)) := (Tab.ok tab0_ok 8).1 _ _ _ e3
end Tst
end

section
open Go Go.Lf Go.Proofs
namespace Tst
theorem red_c (ca : Option Nat) (l : List Ps) (hl : l.length ≤ 4294967296) : PureC Try.prog 17 [sl ca l] (ow (some (nf l).length) (nf l)) := by
  have hn : (nf l).length ≤ 4294967296 := Nat.le_trans (nf_len l) hl
  have := red_0 ca l hl hn (by simp; omega) rfl (by simp only [decide_eq_true_eq]; intro _; exact all_noAny _ _)
  simpa [ow] using this
theorem same1 (ca : Nat) (cb : Option Nat) (a b : List Ps) (h1 : ca = a.length) (h2 : a = b) (hA : a.length < 2 ^ 62) : PureC Try.prog 19 [sl (some ca) a, sl cb b] (it 1) := by
  have := same_c ca cb a b hA
  rw [if_pos ⟨h2, h1⟩] at this
  exact this
theorem irrR_get : ∀ (st : List Ps), IrrR st → ∀ i, i + 1 < st.length → can (st.getD (i + 1) default) (st.getD i default) = false
  | [], _, i, hi => by simp at hi
  | [p], _, i, hi => by simp at hi
  | p :: q :: st, h, 0, _ => h.1
  | p :: q :: st, h, i + 1, hi => irrR_get (q :: st) h.2 i (by simpa using hi)
theorem getD_rev (l : List Ps) (i : Nat) (hi : i < l.length) : l.reverse.getD i default = l.getD (l.length - 1 - i) default := by
  rw [List.getD_eq_getElem?_getD, List.getD_eq_getElem?_getD, List.getElem?_reverse hi]
theorem irr_can (l : List Ps) (h : IrrR l.reverse) (i : Nat) (hi : i + 1 < l.length) : can (l.getD i default) (l.getD (i + 1) default) = false := by
  have h1 := irrR_get _ h (l.length - 2 - i) (by rw [List.length_reverse]; omega)
  rw [getD_rev _ _ (by omega), getD_rev _ _ (by omega)] at h1
  rw [show l.length - 1 - (l.length - 2 - i + 1) = i by omega, show l.length - 1 - (l.length - 2 - i) = i + 1 by omega] at h1
  exact h1
theorem nf_can (l : List Ps) (i : Nat) (hi : i + 1 < (nf l).length) : can ((nf l).getD i default) ((nf l).getD (i + 1) default) = false :=
  irr_can (nf l) (irr_nf l) i hi
theorem push_mem {st : List Ps} {p q : Ps} (h : q ∈ push st p) : q ∈ st ∨ q = p := by
  cases st with
  | nil => simp [push] at h; exact .inr h
  | cons t st =>
    have h : q ∈ (if can t p = true then st else p :: t :: st) := h
    split at h
    · exact .inl (by simp [h])
    · simp at h; simp; rcases h with h | h | h <;> simp [h]
theorem fold_mem : ∀ (l st : List Ps) {q : Ps}, q ∈ l.foldl push st → q ∈ st ∨ q ∈ l
  | [], st, q, h => .inl h
  | p :: l, st, q, h => by
    rcases fold_mem l (push st p) h with h | h
    · rcases push_mem h with h | h
      · exact .inl h
      · exact .inr (by simp [h])
    · exact .inr (by simp [h])
theorem nf_mem {l : List Ps} {q : Ps} (h : q ∈ nf l) : q ∈ l := by
  unfold nf at h
  rw [List.mem_reverse] at h
  rcases fold_mem l [] h with h | h
  · simp at h
  · exact h
theorem wf_nf {l : List Ps} (h : ∀ p ∈ l, 0 ≤ p.d) : ∀ p ∈ nf l, 0 ≤ p.d := fun p hp => h p (nf_mem hp)
theorem yr_rnd (c : Option Nat) (l : List Ps) (hA : l.length < 2 ^ 62) (hl : ∀ i, i + 1 < l.length → lcan (l.getD i default) (l.getD (i + 1) default) = false) : ∀ (k i : Nat), i + k = l.length →
    Rnd Try.prog (cxN 77 0) (loopBody Try.f3 0) (k + 1) [(7, ow c l), (9, it i)] (.exit 0) [(7, ow c l)] := by
  intro k
  induction k with
  | zero =>
    intro i hi
    have hw : IntKind.i64.wrap ((i : Int) + 1) = (i : Int) + 1 := wrap_id (by omega) (by omega)
    exact Rnd.exit (Tri.after [(7, .keep)] (yrl_2 c l i (by rw [hw]; simp; omega))) (by simp)
  | succ k ih =>
    intro i hi
    have hw : IntKind.i64.wrap ((i : Int) + 1) = (i : Int) + 1 := wrap_id (by omega) (by omega)
    have t1 : ((i : Int) + 1).toNat = i + 1 := by omega
    by_cases hlt : i + 1 < l.length
    · have h1 := yrl_1 c l i (by rw [hw]; simp; omega) (by simp; omega) (by simp; omega) (getD_enc (by omega)) (by rw [hw]; simp; omega) (by rw [hw]; simp; omega) (by rw [hw, t1]; exact getD_enc (by omega))
        (by rw [hw, t1, Int.toNat_natCast, hl i hlt]; rfl)
      rw [hw] at h1
      exact Rnd.step h1 (ih (i + 1) (by omega))
    · exact Rnd.exit (Tri.after [(7, .keep)] (yrl_2 c l i (by rw [hw]; simp; omega))) (by simp)
theorem yr_loop (c : Option Nat) (l : List Ps) (hA : l.length < 2 ^ 62) (hl : ∀ i, i + 1 < l.length → lcan (l.getD i default) (l.getD (i + 1) default) = false) :
    Tri Try.prog (cxN 77 0) (.loop (loopBody Try.f3 0)) [(7, ow c l), (9, it 0)] (.exit 0) [(7, ow c l)] := Rnd.loop (yr_rnd c l hA hl l.length 0 (by omega))
theorem lcan_nf {l : List Ps} (hwf : ∀ p ∈ l, 0 ≤ p.d) (i : Nat) (hi : i + 1 < (nf l).length) : lcan ((nf l).getD i default) ((nf l).getD (i + 1) default) = false := by
  rw [lcan_eq (mem_wf (wf_nf hwf) (by omega)) (mem_wf (wf_nf hwf) (by omega))]
  exact nf_can l i hi
end Tst
end

section
open Go Go.Lf Go.Proofs
namespace Tst
theorem set_ps (c : Option Nat) (b : List Ps) (i : Nat) (p : Ps) : AV.sl .own 33 c ((b.map Ps.enc).set i (setE ((b.map Ps.enc).getD i .bad) 0 [.atom (.int .u8 p.y), .atom (.int .i64 p.n), .atom (.bool p.f), .atom (.int .u8 p.d)])) = .sl .own 33 c ((b.set i p).map Ps.enc) := by
  by_cases hi : i < b.length
  · rw [getD_enc hi, List.map_set]; rfl
  · rw [List.set_eq_of_length_le (by simp; omega), List.set_eq_of_length_le (by omega)]
theorem getD_set {b : List Ps} {i t : Nat} {p : Ps} (hi : i < b.length) : (b.set i p).getD t default = if t = i then p else b.getD t default := by
  simp only [List.getD_eq_getElem?_getD, List.getElem?_set]
  by_cases h : i = t
  · subst h; simp [hi]
  · simp [h, show ¬ t = i from fun e => h e.symm]
theorem ext_getD {a b : List Ps} (hl : a.length = b.length) (h : ∀ t, t < a.length → a.getD t default = b.getD t default) : a = b := by
  apply List.ext_getElem hl
  intro t h1 h2
  have := h t h1
  simpa [List.getD_eq_getElem?_getD, h1, h2] using this
theorem rev_rnd (cb : Option Nat) (l : List Ps) (hA : l.length < 2 ^ 62) : ∀ (k i : Nat) (b : List Ps), b.length = l.length → l.length ≤ i + k → 2 * i ≤ l.length + 1 →
    (∀ t, t < l.length → b.getD t default = if t < i ∨ l.length - 1 - i < t then l.getD (l.length - 1 - t) default else l.getD t default) →
    Rnd Try.prog (cxN 28 1) (loopBody Try.f45 0) (k + 1) [(0, ow cb b), (2, it i), (3, it ((l.length : Int) - 1 - i))] (.exit 0) [(0, ow cb l.reverse)] := by
  intro k
  have fin : ∀ (k i : Nat) (b : List Ps), b.length = l.length → l.length ≤ 2 * i + 1 → 2 * i ≤ l.length + 1 →
    (∀ t, t < l.length → b.getD t default = if t < i ∨ l.length - 1 - i < t then l.getD (l.length - 1 - t) default else l.getD t default) →
    Rnd Try.prog (cxN 28 1) (loopBody Try.f45 0) (k + 1) [(0, ow cb b), (2, it i), (3, it ((l.length : Int) - 1 - i))] (.exit 0) [(0, ow cb l.reverse)] := by
    intro k i b hb h1 h2 hp
    have e : b = l.reverse := by
      apply ext_getD (by simpa using hb)
      intro t ht
      rw [hb] at ht
      rw [getD_rev _ _ ht, hp t ht]
      split
      · rfl
      · rename_i hn
        have : l.length - 1 - t = t := by omega
        rw [this]
    subst e
    exact Rnd.exit (Tri.after [(0, .keep)] (lrev_2 cb l.reverse i _ (by simp; omega))) (by simp)
  induction k with
  | zero =>
    intro i b hb hk h2 hp
    exact fin 0 i b hb (by omega) h2 hp
  | succ k ih =>
    intro i b hb hk h2 hp
    by_cases hlt : 2 * i + 1 < l.length
    · have hw : IntKind.i64.wrap ((i : Int) + 1) = ((i + 1 : Nat) : Int) := by rw [wrap_id (by omega) (by omega)]; simp
      have hw2 : IntKind.i64.wrap ((l.length : Int) - 1 - i - 1) = (l.length : Int) - 1 - (i + 1 : Nat) := by rw [wrap_id (by omega) (by omega)]; omega
      have tj : ((l.length : Int) - 1 - i).toNat = l.length - 1 - i := by omega
      have h1 := lrev_0 cb b i ((l.length : Int) - 1 - i) (by simp; omega) (by simp; omega) (by simp; omega) (getD_enc (by omega)) (by simp; omega) (by simp; omega) (getD_enc (by simp; omega))
        (set_ps _ _ _ _) (all_atom _) (by simp; omega) (by simp; omega) (getD_enc (by simp; omega)) (set_ps _ _ _ _) (all_atom _)
      rw [hw, hw2, tj, Int.toNat_natCast] at h1
      exact Rnd.step h1 (ih (i + 1) _ (by simpa using hb) (by omega) (by omega) fun t ht => by
        rw [getD_set (by simp; omega), getD_set (by omega)]
        have ei := hp i (by omega)
        have ej := hp (l.length - 1 - i) (by omega)
        have et := hp t ht
        rw [if_neg (by omega)] at ei ej
        by_cases c1 : t = l.length - 1 - i
        · subst c1
          rw [if_pos rfl, if_pos (by omega)]
          show b.getD i default = _
          rw [ei]; congr 1; omega
        · rw [if_neg c1]
          by_cases c2 : t = i
          · subst c2
            rw [if_pos rfl, if_pos (by omega)]
            show b.getD _ default = _
            rw [ej]
          · rw [if_neg c2, et]
            by_cases c3 : t < i ∨ l.length - 1 - i < t
            · rw [if_pos c3, if_pos (by omega)]
            · rw [if_neg c3, if_neg (by omega)])
    · exact fin (k + 1) i b hb (by omega) h2 hp
theorem rev_loop (cb : Option Nat) (l : List Ps) (hA : l.length < 2 ^ 62) : Tri Try.prog (cxN 28 1) (.loop (loopBody Try.f45 0)) [(0, ow cb l), (2, it 0), (3, it (IntKind.i64.wrap (((l.map Ps.enc).length : Int) - 1)))] (.exit 0) [(0, ow cb l.reverse)] := by
  have := Rnd.loop (rev_rnd cb l hA l.length 0 l rfl (by omega) (by omega) fun t ht => by rw [if_neg (by omega)])
  rw [List.length_map, wrap_id (by omega) (by omega)]
  simpa using this
def bodyOf (fn : Func) : Code := match fn.body with | some c => c | none => .skip
end Tst
end

section
open Go Go.Lf Go.Proofs
namespace Tst
theorem brev_0 (cb : Option Nat) (l : List Ps) (hA : l.length < 2 ^ 62) : Tri Try.prog (cxN 28 1) (bodyOf Try.f45) ([(0, ow cb l)] ) (Ex.normal) ([(nat_lit 0, AV.sl Mode.own (nat_lit 33) cb (List.map Ps.enc (List.reverse l)))]) :=
  evA_ok (H := h45) (ans := [Ans.c, Ans.c, Ans.c, Ans.c, Ans.c, Ans.lp (Ex.exit (nat_lit 0)) [(nat_lit 0, AV.sl Mode.own (nat_lit 33) cb (List.map Ps.enc (List.reverse l)))]]) (ps := [Tri Try.prog (cxN (28 : Nat) (1 : Nat)) (Code.loop (loopBody Try.f45 (0 : Nat))) [(nat_lit 0, AV.sl Mode.own (nat_lit 33) cb (List.map Ps.enc l)), (nat_lit 2, AV.atom (Value.int IntKind.i64 (0 : Int))), (nat_lit 3, AV.atom (Value.int IntKind.i64 (IntKind.wrap IntKind.i64 ((↑(List.length (List.map Ps.enc l)) : Int) - (1 : Int)))))] (Ex.exit (nat_lit 0)) [(nat_lit 0, AV.sl Mode.own (nat_lit 33) cb (List.map Ps.enc (List.reverse l)))]]) (ans' := []) (base 28 1) cxA_K.1 cxA_K.2 _ (by kernel_rfl)  (allp (by first | (apply rev_loop <;> (first | assumption | rfl | (simp at *; done) | (simp at *; omega)))) allp_nil)


end Tst
end

section
open Go Go.Lf Go.Proofs
namespace Tst
theorem rev_m (cb : Option Nat) (l : List Ps) (hA : l.length < 2 ^ 62) : MutC Try.prog 45 (ow cb l) (ow cb l.reverse) := by
  refine mutT (c := bodyOf Try.f45) Try.func45 rfl (by decide) rfl ?_ rfl ⟨rfl, rfl⟩ (.inl rfl) (brev_0 cb l hA) rfl
  intro y hy
  have := (List.all_eq_true.1 (all_atom l.reverse)) y hy
  cases y <;> first | exact ⟨_, rfl⟩ | cases this
theorem inv_rnd (cb : Option Nat) (l : List Ps) (hA : l.length < 2 ^ 62) : ∀ (k i : Nat) (b : List Ps), b.length = l.length → i + k = l.length →
    b = (l.take i).map turnP ++ l.drop i →
    Rnd Try.prog (cxN 24 0) (loopBody Try.f22 0) (k + 1) [(3, ow cb b), (10, it b.length), (11, it i)] (.exit 0) [(3, ow cb (l.map turnP))] := by
  intro k
  induction k with
  | zero =>
    intro i b hb hi e
    have : b = l.map turnP := by rw [e, List.take_of_length_le (by omega), List.drop_of_length_le (by omega), List.append_nil]
    subst this
    exact Rnd.exit (Tri.after [(3, .keep)] (linv_1 cb _ i (by simp; omega))) (by simp)
  | succ k ih =>
    intro i b hb hi e
    have hlt : i < l.length := by omega
    have hw : IntKind.i64.wrap ((i : Int) + 1) = ((i + 1 : Nat) : Int) := by rw [wrap_id (by omega) (by omega)]; simp
    have h1 := linv_0 cb b i (by simp; omega) (by simp; omega) (by simp; omega) (getD_enc (by simp; omega)) (set_ps _ _ _ _)
    rw [hw, Int.toNat_natCast] at h1
    have hbl : ((b.set i (turnP (b.getD i default))).length : Int) = (b.length : Int) := by simp
    have h2 := ih (i + 1) (b.set i (turnP (b.getD i default))) (by simpa using hb) (by omega) (by
      have hg : b.getD i default = l.getD i default := by
        rw [e, List.getD_eq_getElem?_getD, List.getD_eq_getElem?_getD, List.getElem?_append_right (by simp; omega)]
        simp; congr 2; omega
      rw [hg, e, List.set_append_right _ _ (by simp; omega)]
      rw [List.take_succ_eq_append_getElem hlt, List.map_append, List.append_assoc]
      congr 1
      have hd : l.drop i = l[i] :: l.drop (i + 1) := List.drop_eq_getElem_cons hlt
      have hgi : l.getD i default = l[i] := by simp [List.getD_eq_getElem?_getD, hlt]
      rw [show i - ((l.take i).map turnP).length = 0 by simp; omega, hgi, hd]
      rfl)
    rw [hbl] at h2
    exact Rnd.step h1 h2
theorem inv_loop (cb : Option Nat) (l : List Ps) (hA : l.length < 2 ^ 62) : Tri Try.prog (cxN 24 0) (.loop (loopBody Try.f22 0)) [(3, ow cb l), (10, it ((l.map Ps.enc).length : Nat)), (11, it 0)] (.exit 0) [(3, ow cb (l.map turnP))] := by
  have := Rnd.loop (inv_rnd cb l hA l.length 0 l rfl (by omega) (by simp))
  simpa using this
end Tst
end

section
open Go Go.Lf Go.Proofs
namespace Tst
theorem inv_0 (ca : Option Nat) (l : List Ps) (hl : l.length ≤ 4294967296) (hA : l.reverse.length < 2 ^ 62) (hB : l.length < 2 ^ 62) (g0 : some (List.length l) = some (List.length l)) : PureC Try.prog 22 [sl ca l]  (AV.sl Mode.own (nat_lit 33) (some (List.length l)) (List.map Ps.enc (List.map turnP (List.reverse l)))) :=
  funA_ok (H := h22) (n := 24) (ans := [Ans.c, Ans.c, Ans.r (AV.sl Mode.any (nat_lit 33) ca (List.map Ps.enc l)), Ans.r (AV.sl Mode.own (nat_lit 33) (some (List.length l)) (List.map Ps.enc l)), Ans.c, Ans.c, Ans.c, Ans.c, Ans.r (AV.sl Mode.own (nat_lit 33) (some (List.length l)) (List.map Ps.enc (List.reverse l))), Ans.c, Ans.c, Ans.c, Ans.c, Ans.lp (Ex.exit (nat_lit 0)) [(nat_lit 3, AV.sl Mode.own (nat_lit 33) (some (List.length l)) (List.map Ps.enc (List.map turnP (List.reverse l))))], Ans.c, Ans.c]) (ps := [view (AV.sl Mode.any (nat_lit 33) ca (List.map Ps.enc l)) = AV.sl Mode.any (nat_lit 33) ca (List.map Ps.enc l), PureC Try.prog (nat_lit 44) [AV.sl Mode.any (nat_lit 33) ca (List.map Ps.enc l)] (AV.sl Mode.own (nat_lit 33) (some (List.length l)) (List.map Ps.enc l)), some (List.length l) = some (List.length l), MutC Try.prog (nat_lit 45) (AV.sl Mode.own (nat_lit 33) (some (List.length l)) (List.map Ps.enc l)) (AV.sl Mode.own (nat_lit 33) (some (List.length l)) (List.map Ps.enc (List.reverse l))), Tri Try.prog (cxN (24 : Nat) (0 : Nat)) (Code.loop (loopBody Try.f22 (0 : Nat))) [(nat_lit 3, AV.sl Mode.own (nat_lit 33) (some (List.length l)) (List.map Ps.enc (List.reverse l))), (nat_lit 10, AV.atom (Value.int IntKind.i64 (↑(List.length (List.map Ps.enc (List.reverse l))) : Int))), (nat_lit 11, AV.atom (Value.int IntKind.i64 (0 : Int)))] (Ex.exit (nat_lit 0)) [(nat_lit 3, AV.sl Mode.own (nat_lit 33) (some (List.length l)) (List.map Ps.enc (List.map turnP (List.reverse l))))]]) (base 24 0) Try.func22 rfl (by simp) rfl (by kernel_rfl)  (allp (by first | exact view_ps _ _ _ | exact view_u8 _ _ _ | rfl) (allp (by first | (apply fresh_c <;> (first | assumption | rfl | (simp at *; done) | (simp at *; omega))) | (apply rev_m <;> (first | assumption | rfl | (simp at *; done) | (simp at *; omega))) | (apply inv_loop <;> (first | assumption | rfl | (simp at *; done) | (simp at *; omega)))) (allp g0 (allp (by first | (apply fresh_c <;> (first | assumption | rfl | (simp at *; done) | (simp at *; omega))) | (apply rev_m <;> (first | assumption | rfl | (simp at *; done) | (simp at *; omega))) | (apply inv_loop <;> (first | assumption | rfl | (simp at *; done) | (simp at *; omega)))) (allp (by first | (apply fresh_c <;> (first | assumption | rfl | (simp at *; done) | (simp at *; omega))) | (apply rev_m <;> (first | assumption | rfl | (simp at *; done) | (simp at *; omega))) | (apply inv_loop <;> (first | assumption | rfl | (simp at *; done) | (simp at *; omega)))) allp_nil)))))


end Tst
end

section
open Go Go.Lf Go.Proofs
namespace Tst
theorem inv_c (ca : Option Nat) (l : List Ps) (hl : l.length ≤ 4294967296) : PureC Try.prog 22 [sl ca l] (ow (some l.length) (l.reverse.map turnP)) :=
  inv_0 ca l hl (by simp; omega) (by omega) rfl
theorem inv_nf (A : List Ps) (h : ∀ p ∈ A, turnP (turnP p) = p) : nf (A ++ A.reverse.map turnP) = [] := by
  have key : ∀ (n : Nat) (A : List Ps), A.length = n → (∀ p ∈ A, turnP (turnP p) = p) → nf (A ++ A.reverse.map turnP) = [] := by
    intro n
    induction n with
    | zero =>
      intro A hn _
      have : A = [] := List.length_eq_zero_iff.1 hn
      subst this; rfl
    | succ n ih =>
      intro A hn hA
      have hne : A ≠ [] := by intro e; subst e; simp at hn
      obtain ⟨B, p, rfl⟩ : ∃ B p, A = B ++ [p] := ⟨A.dropLast, A.getLast hne, (List.dropLast_concat_getLast hne).symm⟩
      have hp := hA p (by simp)
      have hc : can p (turnP p) = true := by simp [can, hp]
      have e : (B ++ [p]) ++ (B ++ [p]).reverse.map turnP = B ++ p :: turnP p :: B.reverse.map turnP := by simp
      rw [e, nf_step _ _ hc]
      exact ih B (by simpa using hn) fun q hq => hA q (by simp [hq])
  exact key A.length A rfl h
theorem inv_inv (A : List Ps) (h : ∀ p ∈ A, turnP (turnP p) = p) : (A.reverse.map turnP).reverse.map turnP = A := by
  rw [← List.map_reverse, List.reverse_reverse, List.map_map]
  exact (List.map_congr_left (g := id) fun p hp => h p hp).trans (List.map_id A)
theorem yil_0 (ca cj : Option Nat) (r j : List Ps) (k : Int) (g0 : decide (k < (↑(List.length (List.map Ps.enc r)) : Int)) = true) (g1 : decide ((0 : Int) ≤ IntKind.wrap IntKind.i64 (IntKind.wrap IntKind.i64 ((↑(List.length (List.map Ps.enc r)) : Int) - (1 : Int)) - k) ∧ IntKind.wrap IntKind.i64 (IntKind.wrap IntKind.i64 ((↑(List.length (List.map Ps.enc r)) : Int) - (1 : Int)) - k) < (↑(List.length (List.map Ps.enc r)) : Int)) = true) (g2 : List.getD (List.map Ps.enc r) (Int.toNat (IntKind.wrap IntKind.i64 (IntKind.wrap IntKind.i64 ((↑(List.length (List.map Ps.enc r)) : Int) - (1 : Int)) - k))) AV.bad = Ps.enc (List.getD r (Int.toNat (IntKind.wrap IntKind.i64 (IntKind.wrap IntKind.i64 ((↑(List.length (List.map Ps.enc r)) : Int) - (1 : Int)) - k))) default)) (g3 : (Ps.d (List.getD r (Int.toNat (IntKind.wrap IntKind.i64 (IntKind.wrap IntKind.i64 ((↑(List.length (List.map Ps.enc r)) : Int) - (1 : Int)) - k))) default) == (1 : Int)) = true) (g4 : decide ((0 : Int) ≤ k ∧ k < (↑(List.length (List.map Ps.enc j)) : Int)) = true) (g5 : decide (Int.toNat k < List.length (List.map Ps.enc j)) = true) (g6 : List.getD (List.map Ps.enc j) (Int.toNat k) AV.bad = Ps.enc (List.getD j (Int.toNat k) default)) (g7 : (!(Ps.y (List.getD j (Int.toNat k) default) == Ps.y (List.getD r (Int.toNat (IntKind.wrap IntKind.i64 (IntKind.wrap IntKind.i64 ((↑(List.length (List.map Ps.enc r)) : Int) - (1 : Int)) - k))) default) && Ps.n (List.getD j (Int.toNat k) default) == Ps.n (List.getD r (Int.toNat (IntKind.wrap IntKind.i64 (IntKind.wrap IntKind.i64 ((↑(List.length (List.map Ps.enc r)) : Int) - (1 : Int)) - k))) default) && Ps.f (List.getD j (Int.toNat k) default) == Ps.f (List.getD r (Int.toNat (IntKind.wrap IntKind.i64 (IntKind.wrap IntKind.i64 ((↑(List.length (List.map Ps.enc r)) : Int) - (1 : Int)) - k))) default) && Ps.d (List.getD j (Int.toNat k) default) == (0 : Int))) = true) : Tri Try.prog (cxN 108 0) (loopBody Try.f4 0) ([(2, sl ca r), (12, ow cj j), (13, it k)] ) (Ex.ret) ([(nat_lit 6, AV.atom (Value.bool false))]) :=
  evA_ok (H := h4) (ans := [Ans.c, Ans.c, Ans.c, Ans.c, Ans.b true, Ans.c, Ans.c, Ans.c, Ans.c, Ans.c, Ans.c, Ans.b true, Ans.r (Ps.enc (List.getD r (Int.toNat (IntKind.wrap IntKind.i64 (IntKind.wrap IntKind.i64 ((↑(List.length (List.map Ps.enc r)) : Int) - (1 : Int)) - k))) default)), Ans.c, Ans.c, Ans.c, Ans.c, Ans.c, Ans.c, Ans.c, Ans.b true, Ans.c, Ans.c, Ans.c, Ans.c, Ans.b true, Ans.c, Ans.b true, Ans.r (Ps.enc (List.getD j (Int.toNat k) default)), Ans.c, Ans.c, Ans.c, Ans.b true, Ans.c]) (ps := [decide (k < (↑(List.length (List.map Ps.enc r)) : Int)) = true, decide ((0 : Int) ≤ IntKind.wrap IntKind.i64 (IntKind.wrap IntKind.i64 ((↑(List.length (List.map Ps.enc r)) : Int) - (1 : Int)) - k) ∧ IntKind.wrap IntKind.i64 (IntKind.wrap IntKind.i64 ((↑(List.length (List.map Ps.enc r)) : Int) - (1 : Int)) - k) < (↑(List.length (List.map Ps.enc r)) : Int)) = true, List.getD (List.map Ps.enc r) (Int.toNat (IntKind.wrap IntKind.i64 (IntKind.wrap IntKind.i64 ((↑(List.length (List.map Ps.enc r)) : Int) - (1 : Int)) - k))) AV.bad = Ps.enc (List.getD r (Int.toNat (IntKind.wrap IntKind.i64 (IntKind.wrap IntKind.i64 ((↑(List.length (List.map Ps.enc r)) : Int) - (1 : Int)) - k))) default), (Ps.d (List.getD r (Int.toNat (IntKind.wrap IntKind.i64 (IntKind.wrap IntKind.i64 ((↑(List.length (List.map Ps.enc r)) : Int) - (1 : Int)) - k))) default) == (1 : Int)) = true, decide ((0 : Int) ≤ k ∧ k < (↑(List.length (List.map Ps.enc j)) : Int)) = true, decide (Int.toNat k < List.length (List.map Ps.enc j)) = true, List.getD (List.map Ps.enc j) (Int.toNat k) AV.bad = Ps.enc (List.getD j (Int.toNat k) default), (!(Ps.y (List.getD j (Int.toNat k) default) == Ps.y (List.getD r (Int.toNat (IntKind.wrap IntKind.i64 (IntKind.wrap IntKind.i64 ((↑(List.length (List.map Ps.enc r)) : Int) - (1 : Int)) - k))) default) && Ps.n (List.getD j (Int.toNat k) default) == Ps.n (List.getD r (Int.toNat (IntKind.wrap IntKind.i64 (IntKind.wrap IntKind.i64 ((↑(List.length (List.map Ps.enc r)) : Int) - (1 : Int)) - k))) default) && Ps.f (List.getD j (Int.toNat k) default) == Ps.f (List.getD r (Int.toNat (IntKind.wrap IntKind.i64 (IntKind.wrap IntKind.i64 ((↑(List.length (List.map Ps.enc r)) : Int) - (1 : Int)) - k))) default) && Ps.d (List.getD j (Int.toNat k) default) == (0 : Int))) = true]) (ans' := []) (base 108 0) cxA_K.1 cxA_K.2 _ (by kernel_rfl)  (allp g0 (allp g1 (allp g2 (allp g3 (allp g4 (allp g5 (allp g6 (allp g7 allp_nil))))))))
theorem yil_1 (ca cj : Option Nat) (r j : List Ps) (k : Int) (g0 : decide (k < (↑(List.length (List.map Ps.enc r)) : Int)) = true) (g1 : decide ((0 : Int) ≤ IntKind.wrap IntKind.i64 (IntKind.wrap IntKind.i64 ((↑(List.length (List.map Ps.enc r)) : Int) - (1 : Int)) - k) ∧ IntKind.wrap IntKind.i64 (IntKind.wrap IntKind.i64 ((↑(List.length (List.map Ps.enc r)) : Int) - (1 : Int)) - k) < (↑(List.length (List.map Ps.enc r)) : Int)) = true) (g2 : List.getD (List.map Ps.enc r) (Int.toNat (IntKind.wrap IntKind.i64 (IntKind.wrap IntKind.i64 ((↑(List.length (List.map Ps.enc r)) : Int) - (1 : Int)) - k))) AV.bad = Ps.enc (List.getD r (Int.toNat (IntKind.wrap IntKind.i64 (IntKind.wrap IntKind.i64 ((↑(List.length (List.map Ps.enc r)) : Int) - (1 : Int)) - k))) default)) (g3 : (Ps.d (List.getD r (Int.toNat (IntKind.wrap IntKind.i64 (IntKind.wrap IntKind.i64 ((↑(List.length (List.map Ps.enc r)) : Int) - (1 : Int)) - k))) default) == (1 : Int)) = true) (g4 : decide ((0 : Int) ≤ k ∧ k < (↑(List.length (List.map Ps.enc j)) : Int)) = true) (g5 : decide (Int.toNat k < List.length (List.map Ps.enc j)) = true) (g6 : List.getD (List.map Ps.enc j) (Int.toNat k) AV.bad = Ps.enc (List.getD j (Int.toNat k) default)) (g7 : (!(Ps.y (List.getD j (Int.toNat k) default) == Ps.y (List.getD r (Int.toNat (IntKind.wrap IntKind.i64 (IntKind.wrap IntKind.i64 ((↑(List.length (List.map Ps.enc r)) : Int) - (1 : Int)) - k))) default) && Ps.n (List.getD j (Int.toNat k) default) == Ps.n (List.getD r (Int.toNat (IntKind.wrap IntKind.i64 (IntKind.wrap IntKind.i64 ((↑(List.length (List.map Ps.enc r)) : Int) - (1 : Int)) - k))) default) && Ps.f (List.getD j (Int.toNat k) default) == Ps.f (List.getD r (Int.toNat (IntKind.wrap IntKind.i64 (IntKind.wrap IntKind.i64 ((↑(List.length (List.map Ps.enc r)) : Int) - (1 : Int)) - k))) default) && Ps.d (List.getD j (Int.toNat k) default) == (0 : Int))) = false) : Tri Try.prog (cxN 108 0) (loopBody Try.f4 0) ([(2, sl ca r), (12, ow cj j), (13, it k)] ) (Ex.normal) ([(nat_lit 2, AV.sl Mode.any (nat_lit 33) ca (List.map Ps.enc r)), (nat_lit 12, AV.sl Mode.own (nat_lit 33) cj (List.map Ps.enc j)), (nat_lit 13, AV.atom (Value.int IntKind.i64 (IntKind.wrap IntKind.i64 (k + (1 : Int)))))]) :=
  evA_ok (H := h4) (ans := [Ans.c, Ans.c, Ans.c, Ans.c, Ans.b true, Ans.c, Ans.c, Ans.c, Ans.c, Ans.c, Ans.c, Ans.b true, Ans.r (Ps.enc (List.getD r (Int.toNat (IntKind.wrap IntKind.i64 (IntKind.wrap IntKind.i64 ((↑(List.length (List.map Ps.enc r)) : Int) - (1 : Int)) - k))) default)), Ans.c, Ans.c, Ans.c, Ans.c, Ans.c, Ans.c, Ans.c, Ans.b true, Ans.c, Ans.c, Ans.c, Ans.c, Ans.b true, Ans.c, Ans.b true, Ans.r (Ps.enc (List.getD j (Int.toNat k) default)), Ans.c, Ans.c, Ans.c, Ans.b false, Ans.c, Ans.c, Ans.c]) (ps := [decide (k < (↑(List.length (List.map Ps.enc r)) : Int)) = true, decide ((0 : Int) ≤ IntKind.wrap IntKind.i64 (IntKind.wrap IntKind.i64 ((↑(List.length (List.map Ps.enc r)) : Int) - (1 : Int)) - k) ∧ IntKind.wrap IntKind.i64 (IntKind.wrap IntKind.i64 ((↑(List.length (List.map Ps.enc r)) : Int) - (1 : Int)) - k) < (↑(List.length (List.map Ps.enc r)) : Int)) = true, List.getD (List.map Ps.enc r) (Int.toNat (IntKind.wrap IntKind.i64 (IntKind.wrap IntKind.i64 ((↑(List.length (List.map Ps.enc r)) : Int) - (1 : Int)) - k))) AV.bad = Ps.enc (List.getD r (Int.toNat (IntKind.wrap IntKind.i64 (IntKind.wrap IntKind.i64 ((↑(List.length (List.map Ps.enc r)) : Int) - (1 : Int)) - k))) default), (Ps.d (List.getD r (Int.toNat (IntKind.wrap IntKind.i64 (IntKind.wrap IntKind.i64 ((↑(List.length (List.map Ps.enc r)) : Int) - (1 : Int)) - k))) default) == (1 : Int)) = true, decide ((0 : Int) ≤ k ∧ k < (↑(List.length (List.map Ps.enc j)) : Int)) = true, decide (Int.toNat k < List.length (List.map Ps.enc j)) = true, List.getD (List.map Ps.enc j) (Int.toNat k) AV.bad = Ps.enc (List.getD j (Int.toNat k) default), (!(Ps.y (List.getD j (Int.toNat k) default) == Ps.y (List.getD r (Int.toNat (IntKind.wrap IntKind.i64 (IntKind.wrap IntKind.i64 ((↑(List.length (List.map Ps.enc r)) : Int) - (1 : Int)) - k))) default) && Ps.n (List.getD j (Int.toNat k) default) == Ps.n (List.getD r (Int.toNat (IntKind.wrap IntKind.i64 (IntKind.wrap IntKind.i64 ((↑(List.length (List.map Ps.enc r)) : Int) - (1 : Int)) - k))) default) && Ps.f (List.getD j (Int.toNat k) default) == Ps.f (List.getD r (Int.toNat (IntKind.wrap IntKind.i64 (IntKind.wrap IntKind.i64 ((↑(List.length (List.map Ps.enc r)) : Int) - (1 : Int)) - k))) default) && Ps.d (List.getD j (Int.toNat k) default) == (0 : Int))) = false]) (ans' := []) (base 108 0) cxA_K.1 cxA_K.2 _ (by kernel_rfl)  (allp g0 (allp g1 (allp g2 (allp g3 (allp g4 (allp g5 (allp g6 (allp g7 allp_nil))))))))
theorem yil_2 (ca cj : Option Nat) (r j : List Ps) (k : Int) (g0 : decide (k < (↑(List.length (List.map Ps.enc r)) : Int)) = true) (g1 : decide ((0 : Int) ≤ IntKind.wrap IntKind.i64 (IntKind.wrap IntKind.i64 ((↑(List.length (List.map Ps.enc r)) : Int) - (1 : Int)) - k) ∧ IntKind.wrap IntKind.i64 (IntKind.wrap IntKind.i64 ((↑(List.length (List.map Ps.enc r)) : Int) - (1 : Int)) - k) < (↑(List.length (List.map Ps.enc r)) : Int)) = true) (g2 : List.getD (List.map Ps.enc r) (Int.toNat (IntKind.wrap IntKind.i64 (IntKind.wrap IntKind.i64 ((↑(List.length (List.map Ps.enc r)) : Int) - (1 : Int)) - k))) AV.bad = Ps.enc (List.getD r (Int.toNat (IntKind.wrap IntKind.i64 (IntKind.wrap IntKind.i64 ((↑(List.length (List.map Ps.enc r)) : Int) - (1 : Int)) - k))) default)) (g3 : (Ps.d (List.getD r (Int.toNat (IntKind.wrap IntKind.i64 (IntKind.wrap IntKind.i64 ((↑(List.length (List.map Ps.enc r)) : Int) - (1 : Int)) - k))) default) == (1 : Int)) = false) (g4 : decide ((0 : Int) ≤ k ∧ k < (↑(List.length (List.map Ps.enc j)) : Int)) = true) (g5 : decide (Int.toNat k < List.length (List.map Ps.enc j)) = true) (g6 : List.getD (List.map Ps.enc j) (Int.toNat k) AV.bad = Ps.enc (List.getD j (Int.toNat k) default)) (g7 : (!(Ps.y (List.getD j (Int.toNat k) default) == Ps.y (List.getD r (Int.toNat (IntKind.wrap IntKind.i64 (IntKind.wrap IntKind.i64 ((↑(List.length (List.map Ps.enc r)) : Int) - (1 : Int)) - k))) default) && Ps.n (List.getD j (Int.toNat k) default) == Ps.n (List.getD r (Int.toNat (IntKind.wrap IntKind.i64 (IntKind.wrap IntKind.i64 ((↑(List.length (List.map Ps.enc r)) : Int) - (1 : Int)) - k))) default) && Ps.f (List.getD j (Int.toNat k) default) == Ps.f (List.getD r (Int.toNat (IntKind.wrap IntKind.i64 (IntKind.wrap IntKind.i64 ((↑(List.length (List.map Ps.enc r)) : Int) - (1 : Int)) - k))) default) && Ps.d (List.getD j (Int.toNat k) default) == (1 : Int))) = true) : Tri Try.prog (cxN 108 0) (loopBody Try.f4 0) ([(2, sl ca r), (12, ow cj j), (13, it k)] ) (Ex.ret) ([(nat_lit 6, AV.atom (Value.bool false))]) :=
  evA_ok (H := h4) (ans := [Ans.c, Ans.c, Ans.c, Ans.c, Ans.b true, Ans.c, Ans.c, Ans.c, Ans.c, Ans.c, Ans.c, Ans.b true, Ans.r (Ps.enc (List.getD r (Int.toNat (IntKind.wrap IntKind.i64 (IntKind.wrap IntKind.i64 ((↑(List.length (List.map Ps.enc r)) : Int) - (1 : Int)) - k))) default)), Ans.c, Ans.c, Ans.c, Ans.c, Ans.c, Ans.c, Ans.c, Ans.b false, Ans.c, Ans.c, Ans.c, Ans.c, Ans.b true, Ans.c, Ans.b true, Ans.r (Ps.enc (List.getD j (Int.toNat k) default)), Ans.c, Ans.c, Ans.c, Ans.b true, Ans.c]) (ps := [decide (k < (↑(List.length (List.map Ps.enc r)) : Int)) = true, decide ((0 : Int) ≤ IntKind.wrap IntKind.i64 (IntKind.wrap IntKind.i64 ((↑(List.length (List.map Ps.enc r)) : Int) - (1 : Int)) - k) ∧ IntKind.wrap IntKind.i64 (IntKind.wrap IntKind.i64 ((↑(List.length (List.map Ps.enc r)) : Int) - (1 : Int)) - k) < (↑(List.length (List.map Ps.enc r)) : Int)) = true, List.getD (List.map Ps.enc r) (Int.toNat (IntKind.wrap IntKind.i64 (IntKind.wrap IntKind.i64 ((↑(List.length (List.map Ps.enc r)) : Int) - (1 : Int)) - k))) AV.bad = Ps.enc (List.getD r (Int.toNat (IntKind.wrap IntKind.i64 (IntKind.wrap IntKind.i64 ((↑(List.length (List.map Ps.enc r)) : Int) - (1 : Int)) - k))) default), (Ps.d (List.getD r (Int.toNat (IntKind.wrap IntKind.i64 (IntKind.wrap IntKind.i64 ((↑(List.length (List.map Ps.enc r)) : Int) - (1 : Int)) - k))) default) == (1 : Int)) = false, decide ((0 : Int) ≤ k ∧ k < (↑(List.length (List.map Ps.enc j)) : Int)) = true, decide (Int.toNat k < List.length (List.map Ps.enc j)) = true, List.getD (List.map Ps.enc j) (Int.toNat k) AV.bad = Ps.enc (List.getD j (Int.toNat k) default), (!(Ps.y (List.getD j (Int.toNat k) default) == Ps.y (List.getD r (Int.toNat (IntKind.wrap IntKind.i64 (IntKind.wrap IntKind.i64 ((↑(List.length (List.map Ps.enc r)) : Int) - (1 : Int)) - k))) default) && Ps.n (List.getD j (Int.toNat k) default) == Ps.n (List.getD r (Int.toNat (IntKind.wrap IntKind.i64 (IntKind.wrap IntKind.i64 ((↑(List.length (List.map Ps.enc r)) : Int) - (1 : Int)) - k))) default) && Ps.f (List.getD j (Int.toNat k) default) == Ps.f (List.getD r (Int.toNat (IntKind.wrap IntKind.i64 (IntKind.wrap IntKind.i64 ((↑(List.length (List.map Ps.enc r)) : Int) - (1 : Int)) - k))) default) && Ps.d (List.getD j (Int.toNat k) default) == (1 : Int))) = true]) (ans' := []) (base 108 0) cxA_K.1 cxA_K.2 _ (by kernel_rfl)  (allp g0 (allp g1 (allp g2 (allp g3 (allp g4 (allp g5 (allp g6 (allp g7 allp_nil))))))))
theorem yil_3 (ca cj : Option Nat) (r j : List Ps) (k : Int) (g0 : decide (k < (↑(List.length (List.map Ps.enc r)) : Int)) = true) (g1 : decide ((0 : Int) ≤ IntKind.wrap IntKind.i64 (IntKind.wrap IntKind.i64 ((↑(List.length (List.map Ps.enc r)) : Int) - (1 : Int)) - k) ∧ IntKind.wrap IntKind.i64 (IntKind.wrap IntKind.i64 ((↑(List.length (List.map Ps.enc r)) : Int) - (1 : Int)) - k) < (↑(List.length (List.map Ps.enc r)) : Int)) = true) (g2 : List.getD (List.map Ps.enc r) (Int.toNat (IntKind.wrap IntKind.i64 (IntKind.wrap IntKind.i64 ((↑(List.length (List.map Ps.enc r)) : Int) - (1 : Int)) - k))) AV.bad = Ps.enc (List.getD r (Int.toNat (IntKind.wrap IntKind.i64 (IntKind.wrap IntKind.i64 ((↑(List.length (List.map Ps.enc r)) : Int) - (1 : Int)) - k))) default)) (g3 : (Ps.d (List.getD r (Int.toNat (IntKind.wrap IntKind.i64 (IntKind.wrap IntKind.i64 ((↑(List.length (List.map Ps.enc r)) : Int) - (1 : Int)) - k))) default) == (1 : Int)) = false) (g4 : decide ((0 : Int) ≤ k ∧ k < (↑(List.length (List.map Ps.enc j)) : Int)) = true) (g5 : decide (Int.toNat k < List.length (List.map Ps.enc j)) = true) (g6 : List.getD (List.map Ps.enc j) (Int.toNat k) AV.bad = Ps.enc (List.getD j (Int.toNat k) default)) (g7 : (!(Ps.y (List.getD j (Int.toNat k) default) == Ps.y (List.getD r (Int.toNat (IntKind.wrap IntKind.i64 (IntKind.wrap IntKind.i64 ((↑(List.length (List.map Ps.enc r)) : Int) - (1 : Int)) - k))) default) && Ps.n (List.getD j (Int.toNat k) default) == Ps.n (List.getD r (Int.toNat (IntKind.wrap IntKind.i64 (IntKind.wrap IntKind.i64 ((↑(List.length (List.map Ps.enc r)) : Int) - (1 : Int)) - k))) default) && Ps.f (List.getD j (Int.toNat k) default) == Ps.f (List.getD r (Int.toNat (IntKind.wrap IntKind.i64 (IntKind.wrap IntKind.i64 ((↑(List.length (List.map Ps.enc r)) : Int) - (1 : Int)) - k))) default) && Ps.d (List.getD j (Int.toNat k) default) == (1 : Int))) = false) : Tri Try.prog (cxN 108 0) (loopBody Try.f4 0) ([(2, sl ca r), (12, ow cj j), (13, it k)] ) (Ex.normal) ([(nat_lit 2, AV.sl Mode.any (nat_lit 33) ca (List.map Ps.enc r)), (nat_lit 12, AV.sl Mode.own (nat_lit 33) cj (List.map Ps.enc j)), (nat_lit 13, AV.atom (Value.int IntKind.i64 (IntKind.wrap IntKind.i64 (k + (1 : Int)))))]) :=
  evA_ok (H := h4) (ans := [Ans.c, Ans.c, Ans.c, Ans.c, Ans.b true, Ans.c, Ans.c, Ans.c, Ans.c, Ans.c, Ans.c, Ans.b true, Ans.r (Ps.enc (List.getD r (Int.toNat (IntKind.wrap IntKind.i64 (IntKind.wrap IntKind.i64 ((↑(List.length (List.map Ps.enc r)) : Int) - (1 : Int)) - k))) default)), Ans.c, Ans.c, Ans.c, Ans.c, Ans.c, Ans.c, Ans.c, Ans.b false, Ans.c, Ans.c, Ans.c, Ans.c, Ans.b true, Ans.c, Ans.b true, Ans.r (Ps.enc (List.getD j (Int.toNat k) default)), Ans.c, Ans.c, Ans.c, Ans.b false, Ans.c, Ans.c, Ans.c]) (ps := [decide (k < (↑(List.length (List.map Ps.enc r)) : Int)) = true, decide ((0 : Int) ≤ IntKind.wrap IntKind.i64 (IntKind.wrap IntKind.i64 ((↑(List.length (List.map Ps.enc r)) : Int) - (1 : Int)) - k) ∧ IntKind.wrap IntKind.i64 (IntKind.wrap IntKind.i64 ((↑(List.length (List.map Ps.enc r)) : Int) - (1 : Int)) - k) < (↑(List.length (List.map Ps.enc r)) : Int)) = true, List.getD (List.map Ps.enc r) (Int.toNat (IntKind.wrap IntKind.i64 (IntKind.wrap IntKind.i64 ((↑(List.length (List.map Ps.enc r)) : Int) - (1 : Int)) - k))) AV.bad = Ps.enc (List.getD r (Int.toNat (IntKind.wrap IntKind.i64 (IntKind.wrap IntKind.i64 ((↑(List.length (List.map Ps.enc r)) : Int) - (1 : Int)) - k))) default), (Ps.d (List.getD r (Int.toNat (IntKind.wrap IntKind.i64 (IntKind.wrap IntKind.i64 ((↑(List.length (List.map Ps.enc r)) : Int) - (1 : Int)) - k))) default) == (1 : Int)) = false, decide ((0 : Int) ≤ k ∧ k < (↑(List.length (List.map Ps.enc j)) : Int)) = true, decide (Int.toNat k < List.length (List.map Ps.enc j)) = true, List.getD (List.map Ps.enc j) (Int.toNat k) AV.bad = Ps.enc (List.getD j (Int.toNat k) default), (!(Ps.y (List.getD j (Int.toNat k) default) == Ps.y (List.getD r (Int.toNat (IntKind.wrap IntKind.i64 (IntKind.wrap IntKind.i64 ((↑(List.length (List.map Ps.enc r)) : Int) - (1 : Int)) - k))) default) && Ps.n (List.getD j (Int.toNat k) default) == Ps.n (List.getD r (Int.toNat (IntKind.wrap IntKind.i64 (IntKind.wrap IntKind.i64 ((↑(List.length (List.map Ps.enc r)) : Int) - (1 : Int)) - k))) default) && Ps.f (List.getD j (Int.toNat k) default) == Ps.f (List.getD r (Int.toNat (IntKind.wrap IntKind.i64 (IntKind.wrap IntKind.i64 ((↑(List.length (List.map Ps.enc r)) : Int) - (1 : Int)) - k))) default) && Ps.d (List.getD j (Int.toNat k) default) == (1 : Int))) = false]) (ans' := []) (base 108 0) cxA_K.1 cxA_K.2 _ (by kernel_rfl)  (allp g0 (allp g1 (allp g2 (allp g3 (allp g4 (allp g5 (allp g6 (allp g7 allp_nil))))))))
theorem yil_4 (ca cj : Option Nat) (r j : List Ps) (k : Int) (g0 : decide (k < (↑(List.length (List.map Ps.enc r)) : Int)) = false) : Tri Try.prog (cxN 108 0) (loopBody Try.f4 0) ([(2, sl ca r), (12, ow cj j), (13, it k)] ) (Ex.exit (nat_lit 0)) ([(nat_lit 2, AV.sl Mode.any (nat_lit 33) ca (List.map Ps.enc r)), (nat_lit 12, AV.sl Mode.own (nat_lit 33) cj (List.map Ps.enc j)), (nat_lit 13, AV.atom (Value.int IntKind.i64 k)), (nat_lit 85, AV.atom (Value.bool (decide (k < (↑(List.length (List.map Ps.enc r)) : Int)))))]) :=
  evA_ok (H := h4) (ans := [Ans.c, Ans.c, Ans.c, Ans.c, Ans.b false]) (ps := [decide (k < (↑(List.length (List.map Ps.enc r)) : Int)) = false]) (ans' := []) (base 108 0) cxA_K.1 cxA_K.2 _ (by kernel_rfl)  (allp g0 allp_nil)


end Tst
end

section
open Go Go.Lf Go.Proofs
namespace Tst
theorem yi_rnd (ca cj : Option Nat) (r : List Ps) (hA : r.length < 2 ^ 62) : ∀ (k i : Nat), i + k = r.length →
    Rnd Try.prog (cxN 108 0) (loopBody Try.f4 0) (k + 1) [(2, sl ca r), (12, ow cj (r.reverse.map turnP)), (13, it i)] (.exit 0) [] := by
  intro k
  induction k with
  | zero =>
    intro i hi
    exact Rnd.exit (Tri.after [] (yil_4 ca cj r _ i (by simp; omega))) (by simp)
  | succ k ih =>
    intro i hi
    have hlt : i < r.length := by omega
    have hw : IntKind.i64.wrap ((i : Int) + 1) = ((i + 1 : Nat) : Int) := by rw [wrap_id (by omega) (by omega)]; simp
    have hw2 : IntKind.i64.wrap (IntKind.i64.wrap (((r.map Ps.enc).length : Int) - 1) - (i : Int)) = ((r.length - 1 - i : Nat) : Int) := by
      rw [List.length_map, wrap_id (n := (r.length : Int) - 1) (by omega) (by omega), wrap_id (by omega) (by omega)]; omega
    have hj : (r.reverse.map turnP).getD i default = turnP (r.getD (r.length - 1 - i) default) := by
      rw [List.getD_eq_getElem?_getD, List.getD_eq_getElem?_getD, List.getElem?_map, List.getElem?_reverse hlt]
      rw [List.getElem?_eq_getElem (by omega)]
      rfl
    by_cases hd : (r.getD (r.length - 1 - i) default).d = 1
    · have h1 := yil_1 ca cj r (r.reverse.map turnP) i (by simp; omega) (by rw [hw2]; simp; omega) (by rw [hw2]; exact getD_enc (by simp; omega)) (by rw [hw2, Int.toNat_natCast, hd]; rfl)
        (by simp; omega) (by simp; omega) (getD_enc (by simp; omega)) (by rw [hw2, Int.toNat_natCast, Int.toNat_natCast, hj]; clear hj; generalize r.getD (r.length - 1 - i) default = p at hd ⊢; simp [turnP, hd])
      rw [hw] at h1
      exact Rnd.step h1 (ih (i + 1) (by omega))
    · have h1 := yil_3 ca cj r (r.reverse.map turnP) i (by simp; omega) (by rw [hw2]; simp; omega) (by rw [hw2]; exact getD_enc (by simp; omega)) (by rw [hw2, Int.toNat_natCast]; simpa using hd)
        (by simp; omega) (by simp; omega) (getD_enc (by simp; omega)) (by rw [hw2, Int.toNat_natCast, Int.toNat_natCast, hj]; clear hj; generalize r.getD (r.length - 1 - i) default = p at hd ⊢; simp [turnP, hd])
      rw [hw] at h1
      exact Rnd.step h1 (ih (i + 1) (by omega))
theorem yi_loop (ca cj : Option Nat) (r : List Ps) (hA : r.length < 2 ^ 62) : Tri Try.prog (cxN 108 0) (.loop (loopBody Try.f4 0)) [(2, sl ca r), (12, ow cj (r.reverse.map turnP)), (13, it 0)] (.exit 0) [] := Rnd.loop (yi_rnd ca cj r hA r.length 0 (by omega))
theorem red0 (ca : Option Nat) (A : List Ps) (hA : ∀ p ∈ A, turnP (turnP p) = p) (hl : A.length ≤ 1000) : PureC Try.prog 17 [sl ca (([] ++ A) ++ A.reverse.map turnP)] (ow (some 0) []) := by
  have := red_c ca (([] ++ A) ++ A.reverse.map turnP) (by simp; omega)
  rw [List.nil_append, inv_nf A hA] at this
  exact this
end Tst
end
