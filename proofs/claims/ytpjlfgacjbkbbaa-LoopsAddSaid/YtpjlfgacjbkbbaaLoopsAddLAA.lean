/- Part 1 of the evaluator and of the contracts that the claim uses. -/
import Derived.Laws.OwnMore
import Derived.Laws.MakeOwn
import Derived.Below
import Derived.Orders
import Derived.WalkKit
import Derived.WalkSpells
import Derived.WalkLawsBesides
set_option linter.unusedVariables false
set_option linter.unusedSimpArgs false
set_option linter.constructorNameAsVariable false
set_option linter.unusedSectionVars false
open Go.IntKind (i64 u8)
namespace Go
abbrev zla := @List.length_map.{0,0}
abbrev zlb := @decide_eq_true
abbrev zlc := @decide_eq_false
abbrev zld := @List.getD_eq_getElem?_getD.{0}
abbrev zle := @List.getElem?_eq_getElem.{0}
abbrev zlf := @Int.toNat_natCast
abbrev zlg := @List.length_append.{0}
abbrev zlh := @List.length_take.{0}
abbrev zli := @List.eq_nil_of_length_eq_zero.{0}
abbrev zlj := @Array.getElem?_eq_some_iff.{0}
abbrev zlk := @List.getElem?_eq_some_iff.{0}
abbrev zll := @Array.getD_eq_getD_getElem?.{0}
abbrev zlm := @List.take_of_length_le.{0}
abbrev zln := @List.drop_eq_nil_of_le.{0}
abbrev zlo := @Bool.and_eq_true
abbrev zlp := @List.append_assoc.{0}
abbrev zlq := @List.map_append.{0,0}
abbrev zlr := @Array.length_toList.{0}
abbrev zls := @List.all_eq_true.{0}
abbrev zlt := @Nat.eq_zero_or_pos
abbrev zlu := @List.getElem_mem.{0}
abbrev zlv := @List.mem_singleton.{0}
abbrev zlw := @List.length_replicate.{0}
abbrev zlx := @List.length_set.{0}
abbrev zly := @Nat.le_refl
end Go

section
namespace Go.Lf
open Go Go.RowKit
abbrev Own := Nat → Nat
def Zero (O : Own) : Prop := ∀ b, O b = 0
def ind (g : Option Nat) : Own := fun b => if g = some b then 1 else 0
abbrev Path := List (Nat × Nat)
structure Frm where
 b : Nat → Prop
 lo : Nat
 ts : Array Value
inductive Mode where
 | own | fresh | any
 deriving DecidableEq
inductive AV where
 | atom (v : Value)
 | bad
 | agg (cs : List AV)
 | tup (cs : List AV)
 | sl (m : Mode) (e : TypeId) (cap : Option Nat) (xs : List AV)
 | box (cs : List AV)
 | al (r : Nat) (p : Path) (rng : Option (Nat × Nat × Option Nat))
 | adr (r : Nat) (p : Path) (i c : Nat)
 | cp (r : Nat)
 | vadr (cs : List AV) (c : Nat)
 | fn (f : FuncId) (cs : List AV)
 | mp (g : Nat) (E : List (Value × Value))
instance : Inhabited AV := ⟨.bad⟩
def isD : Obj → Bool
 | .cells .. => true
 | .map .. => true
 | _ => false
def AV.ecells : AV → List AV
 | .agg cs => cs
 | x => [x]
def flat (xs : List AV) : List AV := xs.flatMap AV.ecells
def Uni (sz : Nat) (xs : List AV) : Prop := ∀ x ∈ xs, x.ecells.length = sz
section
variable {R R' : Value → AV → Own → Prop}
inductive Rc (R : Value → AV → Own → Prop) : List Value → List AV → Own → Prop
 | nil {O : Own} : Zero O → Rc R [] [] O
 | cons {v : Value} {x : AV} {vs : List Value} {xs : List AV} {O1 O2 O : Own} : R v x O1 → Rc R vs xs O2 → (∀ b, O b = O1 b + O2 b) → Rc R (v :: vs) (x :: xs) O
theorem Rc.length {vs : List Value} {xs : List AV} {O : Own} (h : Rc R vs xs O) : vs.length = xs.length := by
 induction h with
 | nil _ => rfl
 | cons _ _ _ ih => simp [ih]
theorem Rc.mono {vs : List Value} {xs : List AV} {O : Own} (h : Rc R vs xs O) (hR : ∀ v x O1, (∀ b, O1 b ≤ O b) → R v x O1 → R' v x O1) : Rc R' vs xs O := by
 induction h with
 | nil hz => exact .nil hz
 | cons h1 _ hO ih =>
  exact .cons (hR _ _ _ (fun b => by have := hO b; omega) h1) (ih fun v x O1 hle hr => hR v x O1 (fun b => by have := hle b; have := hO b; omega) hr) hO
theorem Rc.cast {vs : List Value} {xs : List AV} {O O' : Own} (h : Rc R vs xs O) (hO : ∀ b, O' b = O b) : Rc R vs xs O' := by
 have : O' = O := funext hO
 rw [this]; exact h
theorem Rc.app {vs us : List Value} {xs ys : List AV} {O1 O2 O : Own} (h1 : Rc R vs xs O1) (h2 : Rc R us ys O2) (hO : ∀ b, O b = O1 b + O2 b) : Rc R (vs ++ us) (xs ++ ys) O := by
 induction h1 generalizing O with
 | nil hz => exact h2.cast fun b => by have := hO b; have := hz b; omega
 | @cons v x vs xs P1 P2 P3 hr _ hP ih =>
  refine .cons hr (ih (O := fun b => P2 b + O2 b) (fun b => rfl)) fun b => by have := hO b; have := hP b; omega
theorem Rc.split {xs ys : List AV} : ∀ {vs : List Value} {O : Own}, Rc R vs (xs ++ ys) O →
  ∃ O1 O2, Rc R (vs.take xs.length) xs O1 ∧ Rc R (vs.drop xs.length) ys O2 ∧ ∀ b, O b = O1 b + O2 b := by
 induction xs with
 | nil => intro vs O h; exact ⟨fun _ => 0, O, by simpa using Rc.nil (fun _ => rfl), by simpa using h, fun b => by simp⟩
 | cons x xs ih =>
  intro vs O h
  cases h with
  | @cons v _ vs _ P1 P2 _ hr ht hO =>
   obtain ⟨O1, O2, h1, h2, h3⟩ := ih ht
   refine ⟨fun b => P1 b + O1 b, O2, ?_, ?_, fun b => by have := hO b; have := h3 b; simp only; omega⟩
   ·simp only [List.length_cons, List.take_succ_cons]
    exact .cons hr h1 fun b => rfl
   ·simpa using h2
theorem Rc.get {vs : List Value} {xs : List AV} {O : Own} (h : Rc R vs xs O) : ∀ {k : Nat} {x : AV}, xs[k]? = some x → ∃ v O1, vs[k]? = some v ∧ R v x O1 ∧ ∀ b, O1 b ≤ O b := by
 induction h with
 | nil _ => intro k x hx; simp at hx
 | @cons v x vs xs P1 P2 P3 hr _ hO ih =>
  intro k y hy
  cases k with
  | zero =>
   simp at hy; subst hy
   exact ⟨v, P1, by simp, hr, fun b => by have := hO b; omega⟩
  | succ k =>
   simp at hy
   obtain ⟨u, O1, h1, h2, h3⟩ := ih hy
   exact ⟨u, O1, by simpa using h1, h2, fun b => by have := h3 b; have := hO b; omega⟩
theorem Rc.atoms {vs : List Value} {O : Own} (hR : ∀ v, R v (.atom v) (fun _ => 0)) (hO : Zero O) : Rc R vs (vs.map AV.atom) O := by
 induction vs with
 | nil => exact .nil hO
 | cons v vs ih => exact .cons (hR v) ih fun b => by have := hO b; simp [this]
end
def ycs : Option Nat → Value → Prop
 | some c, .slice _ _ k => k = c
 | some _, _ => False
 | none, _ => True
def Shs (P : Program) (B0 : Nat) (w : World) (S : Nat → Prop) (R : Value → AV → Own → Prop) (m : Mode) (e : TypeId) (cap : Option Nat) (xs : List AV) (v : Value) (O : Own) : Prop :=
 ∃ A k, v = .slice A xs.length k ∧ xs.length ≤ k ∧ k ≤ maxLen ∧ ycs cap v ∧ Uni (P.cellsOf e) xs ∧ Zero O ∧
  (xs ≠ [] → ∃ g off C T fr, A = some ⟨g, off, none⟩ ∧ S g ∧ (m = .fresh → B0 ≤ g) ∧ w.heap[g]? = some (.cells C T fr) ∧ off + (flat xs).length ≤ C.size ∧
   Rc R ((C.toList.drop off).take (flat xs).length) (flat xs) O)
def Rv (P : Program) (B0 : Nat) (w : World) (S : Nat → Prop) : Nat → Value → AV → Own → Prop
 | 0, _, _, _ => False
 | n + 1, v, x, O => match x with
  | .atom u => v = u ∧ Zero O
  | .bad => Zero O
  | .agg cs => ∃ vs, v = .agg vs ∧ Rc (Rv P B0 w S n) vs.toList cs O
  | .tup cs => ∃ vs, v = .tuple vs ∧ Rc (Rv P B0 w S n) vs.toList cs O
  | .sl .own e cap xs => ∃ vs O', w.ownsRow B0 e (P.cellsOf e) v xs.length vs ∧ ycs cap v ∧ Uni (P.cellsOf e) xs ∧ Rc (Rv P B0 w S n) vs (flat xs) O' ∧ ∀ b, O b = O' b + ind v.ownBlock b
  | .sl .fresh e cap xs => Shs P B0 w S (Rv P B0 w S n) .fresh e cap xs v O
  | .sl .any e cap xs => Shs P B0 w S (Rv P B0 w S n) .any e cap xs v O
  | .box cs => ∃ g C T O', v = .pointer (some ⟨g, 0, none⟩) ∧ B0 ≤ g ∧ w.heap[g]? = some (.cells C T (0, 0)) ∧ Rc (Rv P B0 w S n) C.toList cs O' ∧ ∀ b, O b = O' b + ind (some g) b
  | .vadr cs c => ∃ g o C T fr, v = .pointer (some ⟨g, o, none⟩) ∧ S g ∧ w.heap[g]? = some (.cells C T fr) ∧ c ≤ o ∧ o - c + cs.length ≤ C.size ∧ Zero O ∧
    Rc (Rv P B0 w S n) ((C.toList.drop (o - c)).take cs.length) cs O
  | .fn f cs => ∃ vs, v = .func (.func f) #[] vs ∧ Zero O ∧ Rc (Rv P B0 w S n) vs.toList cs O
  | .mp g E => B0 ≤ g ∧ (∃ es clock, w.heap[g]? = some (.map es clock) ∧ es.toList.map (fun e => (e.key, e.val)) = E ∧ es.toList.map (·.born) = List.range clock) ∧ ∀ b, O b = ind (some g) b
  | .al .. => False
  | .adr .. => False
  | .cp _ => False
section
variable {P : Program} {B0 : Nat} {w w' : World} {S S' : Nat → Prop}
theorem Rv.cast {n : Nat} {v : Value} {x : AV} {O O' : Own} (h : Rv P B0 w S n v x O) (hO : ∀ b, O' b = O b) : Rv P B0 w S n v x O' := by
 have : O' = O := funext hO
 rw [this]; exact h
theorem Rv.frameC (hS : ∀ b, S b → S' b) (hw : ∀ b C T fr, S b → w.heap[b]? = some (.cells C T fr) → w'.heap[b]? = w.heap[b]?) : ∀ (n : Nat) (v : Value) (x : AV) (O : Own),
  (∀ b o, 0 < O b → w.heap[b]? = some o → isD o = true → w'.heap[b]? = w.heap[b]?) → Rv P B0 w S n v x O → Rv P B0 w' S' n v x O := by
 intro n
 induction n with
 | zero => intro v x O _ h; exact h
 | succ n ih =>
  intro v x O hO h
  have hc : ∀ {vs : List Value} {xs : List AV} {O1 : Own}, (∀ b o, 0 < O1 b → w.heap[b]? = some o → isD o = true → w'.heap[b]? = w.heap[b]?) → Rc (Rv P B0 w S n) vs xs O1 → Rc (Rv P B0 w' S' n) vs xs O1 := by
   intro vs xs O1 h1 hr
   exact hr.mono fun v x O2 hle hr => ih v x O2 (fun b o hb hg hd => h1 b o (by have := hle b; omega) hg hd) hr
  cases x with
  | atom u => exact h
  | bad => exact h
  | agg cs => obtain ⟨vs, rfl, hr⟩ := h; exact ⟨vs, rfl, hc hO hr⟩
  | tup cs => obtain ⟨vs, rfl, hr⟩ := h; exact ⟨vs, rfl, hc hO hr⟩
  | sl m e cap xs =>
   cases m with
   | own =>
    obtain ⟨vs, O', ho, hcap, hu, hr, hOO⟩ := h
    refine ⟨vs, O', ?_, hcap, hu, hc (fun b o hb hg hd => hO b o (by have := hOO b; omega) hg hd) hr, hOO⟩
    refine ⟨ho.1, ?_⟩
    rcases ho.2 with hn | ⟨g, k, cur, rfl, hb, hg, rest⟩
    ·exact .inl hn
    ·refine .inr ⟨g, k, cur, rfl, hb, ?_, rest⟩
     rw [hO g _ (by have := hOO g; simp [ind, Value.ownBlock] at this; omega) hg rfl]; exact hg
   | fresh =>
    obtain ⟨A, k, rfl, hk, hm, hcap, hu, hz, hx⟩ := h
    refine ⟨A, k, rfl, hk, hm, hcap, hu, hz, fun hne => ?_⟩
    obtain ⟨g, off, C, T, fr, rfl, hs, hf, hg, hsz, hr⟩ := hx hne
    exact ⟨g, off, C, T, fr, rfl, hS g hs, hf, by rw [hw g _ _ _ hs hg]; exact hg, hsz, hc hO hr⟩
   | any =>
    obtain ⟨A, k, rfl, hk, hm, hcap, hu, hz, hx⟩ := h
    refine ⟨A, k, rfl, hk, hm, hcap, hu, hz, fun hne => ?_⟩
    obtain ⟨g, off, C, T, fr, rfl, hs, hf, hg, hsz, hr⟩ := hx hne
    exact ⟨g, off, C, T, fr, rfl, hS g hs, hf, by rw [hw g _ _ _ hs hg]; exact hg, hsz, hc hO hr⟩
  | box cs =>
   obtain ⟨g, C, T, O', rfl, hb, hg, hr, hOO⟩ := h
   refine ⟨g, C, T, O', rfl, hb, ?_, hc (fun b o hb hg hd => hO b o (by have := hOO b; omega) hg hd) hr, hOO⟩
   rw [hO g _ (by have := hOO g; simp [ind] at this; omega) hg rfl]; exact hg
  | vadr cs c =>
   obtain ⟨g, o, C, T, fr, rfl, hs, hg, h1, h2, hz, hr⟩ := h
   exact ⟨g, o, C, T, fr, rfl, hS g hs, by rw [hw g _ _ _ hs hg]; exact hg, h1, h2, hz, hc hO hr⟩
  | fn f cs => obtain ⟨vs, hv, hz, hr⟩ := h; exact ⟨vs, hv, hz, hc hO hr⟩
  | mp g E =>
   obtain ⟨h1, ⟨es, clock, h2, h3⟩, h4⟩ := h
   exact ⟨h1, ⟨es, clock, by rw [hO g _ (by have := h4 g; simp [ind] at this; omega) h2 rfl]; exact h2, h3⟩, h4⟩
  | al r p rng => exact h
  | adr r p i c => exact h
  | cp r => exact h
theorem Rv.frame (hS : ∀ b, S b → S' b) (hw : ∀ b, S b → w'.heap[b]? = w.heap[b]?) (n : Nat) (v : Value) (x : AV) (O : Own)
  (hO : ∀ b, 0 < O b → w'.heap[b]? = w.heap[b]?) (h : Rv P B0 w S n v x O) : Rv P B0 w' S' n v x O :=
 Rv.frameC hS (fun b _ _ _ hb _ => hw b hb) n v x O (fun b _ hb _ _ => hO b hb) h
theorem Rv.up : ∀ (n : Nat) (v : Value) (x : AV) (O : Own), Rv P B0 w S n v x O → Rv P B0 w S (n + 1) v x O := by
 intro n
 induction n with
 | zero => intro v x O h; exact h.elim
 | succ n ih =>
  intro v x O h
  have hc : ∀ {vs : List Value} {xs : List AV} {O1 : Own}, Rc (Rv P B0 w S n) vs xs O1 → Rc (Rv P B0 w S (n + 1)) vs xs O1 := by
   intro vs xs O1 hr
   exact hr.mono fun v x O2 _ hr => ih v x O2 hr
  cases x with
  | atom u => exact h
  | bad => exact h
  | agg cs => obtain ⟨vs, rfl, hr⟩ := h; exact ⟨vs, rfl, hc hr⟩
  | tup cs => obtain ⟨vs, rfl, hr⟩ := h; exact ⟨vs, rfl, hc hr⟩
  | sl m e cap xs =>
   cases m with
   | own => obtain ⟨vs, O', ho, hcap, hu, hr, hOO⟩ := h; exact ⟨vs, O', ho, hcap, hu, hc hr, hOO⟩
   | fresh =>
    obtain ⟨A, k, rfl, hk, hm, hcap, hu, hz, hx⟩ := h
    refine ⟨A, k, rfl, hk, hm, hcap, hu, hz, fun hne => ?_⟩
    obtain ⟨g, off, C, T, fr, rfl, hs, hf, hg, hsz, hr⟩ := hx hne
    exact ⟨g, off, C, T, fr, rfl, hs, hf, hg, hsz, hc hr⟩
   | any =>
    obtain ⟨A, k, rfl, hk, hm, hcap, hu, hz, hx⟩ := h
    refine ⟨A, k, rfl, hk, hm, hcap, hu, hz, fun hne => ?_⟩
    obtain ⟨g, off, C, T, fr, rfl, hs, hf, hg, hsz, hr⟩ := hx hne
    exact ⟨g, off, C, T, fr, rfl, hs, hf, hg, hsz, hc hr⟩
  | box cs => obtain ⟨g, C, T, O', rfl, hb, hg, hr, hOO⟩ := h; exact ⟨g, C, T, O', rfl, hb, hg, hc hr, hOO⟩
  | vadr cs c => obtain ⟨g, o, C, T, fr, rfl, hs, hg, h1, h2, hz, hr⟩ := h; exact ⟨g, o, C, T, fr, rfl, hs, hg, h1, h2, hz, hc hr⟩
  | fn f cs => obtain ⟨vs, hv, hz, hr⟩ := h; exact ⟨vs, hv, hz, hc hr⟩
  | mp g E => exact h
  | al r p rng => exact h
  | adr r p i c => exact h
  | cp r => exact h
theorem Rv.le {n m : Nat} {v : Value} {x : AV} {O : Own} (h : Rv P B0 w S n v x O) (hnm : n ≤ m) : Rv P B0 w S m v x O := by
 induction hnm with
 | refl => exact h
 | step _ ih => exact Rv.up _ _ _ _ ih
theorem Rc.le {n m : Nat} {vs : List Value} {xs : List AV} {O : Own} (h : Rc (Rv P B0 w S n) vs xs O) (hnm : n ≤ m) : Rc (Rv P B0 w S m) vs xs O :=
 h.mono fun _ _ _ _ hr => hr.le hnm
theorem Rc.frame {n : Nat} {vs : List Value} {xs : List AV} {O : Own} (hS : ∀ b, S b → S' b) (hw : ∀ b, S b → w'.heap[b]? = w.heap[b]?) (hO : ∀ b, 0 < O b → w'.heap[b]? = w.heap[b]?)
  (h : Rc (Rv P B0 w S n) vs xs O) : Rc (Rv P B0 w' S' n) vs xs O :=
 h.mono fun v x O1 hle hr => Rv.frame hS hw n v x O1 (fun b hb => hO b (by have := hle b; omega)) hr
theorem Rc.bound {R : Value → AV → Own → Prop} {q : Nat → Prop} {vs : List Value} {xs : List AV} {O : Own} (h : Rc R vs xs O) (hR : ∀ v x O1, R v x O1 → ∀ b, 0 < O1 b → q b) : ∀ b, 0 < O b → q b := by
 induction h with
 | nil hz => intro b hb; have := hz b; omega
 | @cons v x vs xs P1 P2 P3 hr _ hO ih =>
  intro b hb
  by_cases h1 : 0 < P1 b
  ·exact hR _ _ _ hr b h1
  ·exact ih b (by have := hO b; omega)
theorem Rv.owned : ∀ (n : Nat) (v : Value) (x : AV) (O : Own), Rv P B0 w S n v x O → ∀ b, 0 < O b → B0 ≤ b ∧ b < w.heap.size := by
 intro n
 induction n with
 | zero => intro v x O h; exact h.elim
 | succ n ih =>
  intro v x O h b hb
  have lt : ∀ {g : Nat} {o : Obj}, w.heap[g]? = some o → g < w.heap.size := fun hg => (zlj.1 hg).1
  cases x with
  | atom u => have := h.2 b; omega
  | bad => have := h b; omega
  | agg cs => obtain ⟨vs, rfl, hr⟩ := h; exact hr.bound (fun v x O1 hr => ih v x O1 hr) b hb
  | tup cs => obtain ⟨vs, rfl, hr⟩ := h; exact hr.bound (fun v x O1 hr => ih v x O1 hr) b hb
  | sl m e cap xs =>
   cases m with
   | own =>
    obtain ⟨vs, O', ho, hcap, hu, hr, hOO⟩ := h
    by_cases h1 : 0 < O' b
    ·exact hr.bound (fun v x O1 hr => ih v x O1 hr) b h1
    ·have h2 := hOO b
     have h3 : v.ownBlock = some b := by
      unfold ind at h2
      by_cases h4 : v.ownBlock = some b
      ·exact h4
      ·rw [if_neg h4] at h2; omega
     exact ho.lt b h3
   | fresh => obtain ⟨A, k, rfl, hk, hm, hcap, hu, hz, hx⟩ := h; have := hz b; omega
   | any => obtain ⟨A, k, rfl, hk, hm, hcap, hu, hz, hx⟩ := h; have := hz b; omega
  | box cs =>
   obtain ⟨g, C, T, O', rfl, hb0, hg, hr, hOO⟩ := h
   by_cases h1 : 0 < O' b
   ·exact hr.bound (fun v x O1 hr => ih v x O1 hr) b h1
   ·have h2 := hOO b
    unfold ind at h2
    by_cases h4 : (some g : Option Nat) = some b
    ·injection h4 with h4; subst h4; exact ⟨hb0, lt hg⟩
    ·rw [if_neg h4] at h2; omega
  | vadr cs c => obtain ⟨g, o, C, T, fr, rfl, hs, hg, h1, h2, hz, hr⟩ := h; have := hz b; omega
  | fn f cs => obtain ⟨vs, hv, hz, hr⟩ := h; have := hz b; omega
  | mp g E =>
   obtain ⟨h1, ⟨es, clock, h2, h3⟩, h4⟩ := h
   have h5 := h4 b
   unfold ind at h5
   by_cases h6 : (some g : Option Nat) = some b
   ·injection h6 with h6; subst h6; exact ⟨h1, lt h2⟩
   ·rw [if_neg h6] at h5; omega
  | al r p rng => exact h.elim
  | adr r p i c => exact h.elim
  | cp r => exact h.elim
end
end Go.Lf
end

section
namespace Go.Lf
open Go Go.RowKit
theorem ya4 (x : AV) (xs : List AV) : flat (x :: xs) = x.ecells ++ flat xs := by simp [flat]
theorem zrk (xs ys : List AV) : flat (xs ++ ys) = flat xs ++ flat ys := by simp [flat]
theorem zqn {sz : Nat} {xs : List AV} (h : Uni sz xs) : (flat xs).length = xs.length * sz := by
 induction xs with
 | nil => simp [flat]
 | cons x xs ih =>
  rw [ya4, zlg, ih (fun y hy => h y (by simp [hy])), h x (by simp), List.length_cons, Nat.add_mul]
  omega
theorem Uni.take {sz : Nat} {xs : List AV} (h : Uni sz xs) (k : Nat) : Uni sz (xs.take k) := fun x hx => h x (List.mem_of_mem_take hx)
theorem Uni.drop {sz : Nat} {xs : List AV} (h : Uni sz xs) (k : Nat) : Uni sz (xs.drop k) := fun x hx => h x (List.mem_of_mem_drop hx)
theorem Uni.append {sz : Nat} {xs ys : List AV} (h : Uni sz xs) (h' : Uni sz ys) : Uni sz (xs ++ ys) := by
 intro x hx
 rcases List.mem_append.1 hx with hx | hx
 ·exact h x hx
 ·exact h' x hx
def One (x : AV) : Prop := x.ecells = [x]
def mapE (g : AV → AV) : AV → AV
 | .agg cs => .agg (cs.map g)
 | x => g x
def remode (f : Mode → Mode) : Nat → AV → AV
 | 0, .agg cs => .agg (cs.map fun _ => .bad)
 | 0, _ => .bad
 | _ + 1, .atom v => .atom v
 | k + 1, .agg cs => .agg (cs.map (remode f k))
 | k + 1, .tup cs => .tup (cs.map (remode f k))
 | k + 1, .sl m e c xs => .sl (f m) e c (xs.map (mapE (remode f k)))
 | k + 1, .vadr cs c => .vadr (cs.map (remode f k)) c
 | k + 1, .fn g cs => .fn g (cs.map (remode f k))
 | _ + 1, _ => .bad
theorem ygv (f : Mode → Mode) (k : Nat) (x : AV) (h : ∀ cs, x ≠ .agg cs) : (remode f k x).ecells = [remode f k x] := by
 cases k <;> cases x <;> first | rfl | exact absurd rfl (h _)
theorem ye3 (f : Mode → Mode) (k : Nat) (x : AV) : (mapE (remode f k) x).ecells = x.ecells.map (remode f k) := by
 cases x <;> first | rfl | (simp only [mapE, AV.ecells, List.map_cons, List.map_nil]; exact ygv f k _ (by intro cs h; cases h))
theorem yav (f : Mode → Mode) (k : Nat) (xs : List AV) : flat (xs.map (mapE (remode f k))) = (flat xs).map (remode f k) := by
 induction xs with
 | nil => rfl
 | cons x xs ih => rw [List.map_cons, ya4, ya4, zlq, ih, ye3]
theorem Uni.mapE {sz : Nat} {xs : List AV} (f : Mode → Mode) (k : Nat) (h : Uni sz xs) : Uni sz (xs.map (Lf.mapE (remode f k))) := by
 intro y hy
 obtain ⟨x, hx, rfl⟩ := List.mem_map.1 hy
 rw [ye3, zla]; exact h x hx
section
variable {P : Program} {B0 : Nat} {w w' : World} {S S' : Nat → Prop}
theorem Rc.map {R R' : Value → AV → Own → Prop} {g : AV → AV} {vs : List Value} {xs : List AV} {O : Own} (h : Rc R vs xs O) (hR : ∀ v x O1, (∀ b, O1 b ≤ O b) → R v x O1 → R' v (g x) (fun _ => 0)) : Rc R' vs (xs.map g) (fun _ => 0) := by
 induction h with
 | nil _ => exact .nil fun _ => rfl
 | cons h1 _ hO ih =>
  exact .cons (hR _ _ _ (fun b => by have := hO b; omega) h1) (ih fun v x O1 hle hr => hR v x O1 (fun b => by have := hle b; have := hO b; omega) hr) fun b => rfl
theorem Rv.remode (f : Mode → Mode) (hf1 : ∀ m, f m ≠ .own) (hf2 : ∀ m, f m = .fresh → m ≠ .any) (hS : ∀ b, S b → S' b) : ∀ (n k : Nat) (v : Value) (x : AV) (O : Own),
  (∀ b, 0 < O b → S' b) → Rv P B0 w S n v x O → Rv P B0 w S' n v (Lf.remode f k x) (fun _ => 0) := by
 intro n
 induction n with
 | zero => intro k v x O _ h; exact h.elim
 | succ n ih =>
  intro k v x O hO h
  have hc : ∀ (k : Nat) {vs : List Value} {xs : List AV} {O1 : Own}, (∀ b, O1 b ≤ O b) → Rc (Rv P B0 w S n) vs xs O1 → Rc (Rv P B0 w S' n) vs (xs.map (Lf.remode f k)) (fun _ => 0) := by
   intro k vs xs O1 h1 hr
   exact hr.map fun v x O2 hle hr => ih k v x O2 (fun b hb => hO b (by have := hle b; have := h1 b; omega)) hr
  have hbad : ∀ {vs : List Value} {xs : List AV} {O1 : Own}, Rc (Rv P B0 w S n) vs xs O1 → Rc (Rv P B0 w S' n) vs (xs.map fun _ => AV.bad) (fun _ => 0) := by
   intro vs xs O1 hr
   refine hr.map fun v x O2 hle hr => ?_
   cases n with
   | zero => exact hr.elim
   | succ n => exact fun _ => rfl
  have hshared : ∀ {e : TypeId} {cap : Option Nat} {xs : List AV} {m m' : Mode} {k : Nat}, (m' = .fresh → m = .fresh) →
    Shs P B0 w S (Rv P B0 w S n) m e cap xs v O → Shs P B0 w S' (Rv P B0 w S' n) m' e cap (xs.map (mapE (Lf.remode f k))) v (fun _ => 0) := by
   intro e cap xs m m' k hmm ⟨A, c, hv, hk, hml, hcap, hu, hz, hx⟩
   refine ⟨A, c, by simpa using hv, by simpa using hk, hml, hcap, hu.mapE f k, fun _ => rfl, fun hne => ?_⟩
   obtain ⟨g, off, C, T, fr, rfl, hs, hfr, hg, hsz, hr⟩ := hx (by intro e; apply hne; simp [e])
   refine ⟨g, off, C, T, fr, rfl, hS g hs, fun e => hfr (hmm e), hg, by rw [yav, zla]; exact hsz, ?_⟩
   rw [yav, zla]; exact hc k (fun _ => zly _) hr
  have hown : ∀ {e : TypeId} {cap : Option Nat} {xs : List AV} {m' : Mode} {k : Nat},
    Rv P B0 w S (n + 1) v (.sl .own e cap xs) O → Shs P B0 w S' (Rv P B0 w S' n) m' e cap (xs.map (mapE (Lf.remode f k))) v (fun _ => 0) := by
   intro e cap xs m' k ⟨vs, O', ho, hcap, hu, hr, hOO⟩
   have hlen := zqn hu
   rcases ho.2 with ⟨rfl, hn⟩ | ⟨g, c, cur, rfl, hb, hg, hnc, hm, hcs, htake⟩
   ·have hx : xs = [] := zli hn
    subst hx
    exact ⟨none, 0, rfl, zly _, Nat.zero_le _, hcap, hu.mapE f k, fun _ => rfl, fun hne => absurd rfl hne⟩
   ·refine ⟨some ⟨g, 0, none⟩, c, by simp, by simpa using hnc, hm, hcap, hu.mapE f k, fun _ => rfl, fun _ => ⟨g, 0, cur, e, (0, 0), rfl, ?_, fun _ => hb, hg, ?_, ?_⟩⟩
    ·exact hO g (by have := hOO g; simp [ind, Value.ownBlock] at this; omega)
    ·rw [yav, zla, hlen, hcs]
     have := Nat.mul_le_mul_right (P.cellsOf e) hnc; omega
    ·rw [yav, zla, hlen, List.drop_zero, htake]
     exact hc k (fun b => by have := hOO b; omega) hr
  cases k with
  | zero =>
   cases x with
   | agg cs => obtain ⟨vs, rfl, hr⟩ := h; exact ⟨vs, rfl, hbad hr⟩
   | al r p rng => exact h.elim
   | adr r p i c => exact h.elim
   | cp r => exact h.elim
   | _ => exact fun _ => rfl
  | succ k =>
   cases x with
   | atom u => exact ⟨h.1, fun _ => rfl⟩
   | bad => exact fun _ => rfl
   | agg cs => obtain ⟨vs, rfl, hr⟩ := h; exact ⟨vs, rfl, hc k (fun _ => zly _) hr⟩
   | tup cs => obtain ⟨vs, rfl, hr⟩ := h; exact ⟨vs, rfl, hc k (fun _ => zly _) hr⟩
   | sl m e cap xs =>
    show Rv P B0 w S' (n + 1) v (.sl (f m) e cap (xs.map (mapE (Lf.remode f k)))) (fun _ => 0)
    have h1 := hf1 m
    have h2 := hf2 m
    cases m with
    | own => cases hm : f .own <;> first | exact absurd hm h1 | exact hown h
    | fresh => cases hm : f .fresh <;> first | exact absurd hm h1 | exact hshared (fun _ => rfl) h
    | any => cases hm : f .any <;> first | exact absurd hm h1 | exact absurd rfl (h2 hm) | exact hshared (fun e => by cases e) h
   | box cs => exact fun _ => rfl
   | vadr cs c =>
    obtain ⟨g, o, C, T, fr, rfl, hs, hg, h1, h2, hz, hr⟩ := h
    exact ⟨g, o, C, T, fr, rfl, hS g hs, hg, h1, by simpa using h2, fun _ => rfl, by simpa using hc k (fun _ => zly _) hr⟩
   | fn g cs =>
    obtain ⟨vs, hv, hz, hr⟩ := h
    exact ⟨vs, hv, fun _ => rfl, hc k (fun _ => zly _) hr⟩
   | mp g E => exact fun _ => rfl
   | al r p rng => exact h.elim
   | adr r p i c => exact h.elim
   | cp r => exact h.elim
end
end Go.Lf
end

section
namespace Go.Lf
open Go Go.RowKit
def fl : AV → List AV
 | .sl _ _ _ xs => flat xs
 | .box cs => cs
 | .tup cs => cs
 | _ => []
def fo (P : Program) : AV → Nat → Nat → Nat
 | .sl _ e _ _, i, c => i * P.cellsOf e + c
 | _, _, c => c
def seg : AV → Nat → Nat → Nat → Option (List AV)
 | .sl .own _ _ xs, i, c, n => match xs[i]? with
  | some el => if c + n ≤ el.ecells.length then some ((el.ecells.drop c).take n) else none
  | none => none
 | .box cs, i, c, n => if i = 0 ∧ c + n ≤ cs.length then some ((cs.drop c).take n) else none
 | .tup cs, i, c, n => if i = 0 ∧ c + n ≤ cs.length then some ((cs.drop c).take n) else none
 | _, _, _, _ => none
def setE : AV → Nat → List AV → AV
 | .agg cs, c, ms => .agg (cs.take c ++ ms ++ cs.drop (c + ms.length))
 | x, _, ms => ms.headD x
def putSeg : AV → Nat → Nat → List AV → AV
 | .sl m e cap xs, i, c, ms => .sl m e cap (xs.set i (setE (xs.getD i .bad) c ms))
 | .box cs, _, c, ms => .box (cs.take c ++ ms ++ cs.drop (c + ms.length))
 | .tup cs, _, c, ms => .tup (cs.take c ++ ms ++ cs.drop (c + ms.length))
 | x, _, _, _ => x
def Like : AV → AV → Prop
 | .sl m e cap xs, .sl m' e' cap' xs' => m = m' ∧ e = e' ∧ cap = cap' ∧ xs.length = xs'.length
 | .box cs, .box cs' => cs.length = cs'.length
 | .tup cs, .tup cs' => cs.length = cs'.length
 | _, _ => False
def yq5 (P : Program) : AV → Prop
 | .sl _ e _ xs => Uni (P.cellsOf e) xs
 | _ => True
theorem ybg {α : Type} (l : List α) (c n : Nat) : l = l.take c ++ (l.drop c).take n ++ l.drop (c + n) := by
 rw [zlp, ← List.drop_drop, List.take_append_drop, List.take_append_drop]
theorem yjb {α : Type} (l : List α) (i : Nat) (x : α) (h : l[i]? = some x) : l = l.take i ++ x :: l.drop (i + 1) := by
 obtain ⟨hi, rfl⟩ := zlk.1 h
 rw [← List.drop_eq_getElem_cons hi, List.take_append_drop]
theorem yji {el : AV} {c k : Nat} {ms' : List AV} (hk : 0 < k) (hc : c + k ≤ el.ecells.length) (hl : ms'.length = k) (h1 : ∀ y ∈ ms', One y) :
  (setE el c ms').ecells = el.ecells.take c ++ ms' ++ el.ecells.drop (c + k) := by
 have key : ∀ x : AV, x.ecells = [x] → c + k ≤ 1 → (ms'.headD x).ecells = [x].take c ++ ms' ++ [x].drop (c + k) := by
  intro x hx hck
  have hc0 : c = 0 := by omega
  have hk1 : k = 1 := by omega
  subst hc0 hk1
  match ms', hl with
  | [y], _ =>
   have hy : y.ecells = [y] := h1 y (by simp)
   simpa using hy
 cases el with
 | agg cs => subst hl; rfl
 | _ => exact key _ rfl (by simpa [AV.ecells] using hc)
theorem yml {P : Program} {x : AV} {i c k : Nat} {ms : List AV} (hu : yq5 P x) (hk : 0 < k) (h : seg x i c k = some ms) :
  ∃ A B, fl x = A ++ ms ++ B ∧ A.length = fo P x i c ∧ ms.length = k ∧
   ∀ ms', ms'.length = k → (∀ y ∈ ms', One y) → fl (putSeg x i c ms') = A ++ ms' ++ B ∧ Like x (putSeg x i c ms') ∧ yq5 P (putSeg x i c ms') := by
 have flatcase : ∀ cs : List AV, i = 0 ∧ c + k ≤ cs.length → (cs.drop c).take k = ms → cs = cs.take c ++ ms ++ cs.drop (c + k) ∧ (cs.take c).length = c ∧ ms.length = k ∧
   ∀ ms', ms'.length = k → (cs.take c ++ ms' ++ cs.drop (c + ms'.length)) = cs.take c ++ ms' ++ cs.drop (c + k) ∧ cs.length = (cs.take c ++ ms' ++ cs.drop (c + ms'.length)).length := by
  intro cs ⟨_, hck⟩ hms
  subst hms
  refine ⟨ybg cs c k, by simp; omega, by simp; omega, fun ms' hl => ⟨by rw [hl], by simp [hl]; omega⟩⟩
 cases x with
 | sl m e cap xs =>
  cases m with
  | own =>
   simp only [seg] at h
   cases hx : xs[i]? with
   | none => simp [hx] at h
   | some el =>
    simp only [hx] at h
    by_cases hck : c + k ≤ el.ecells.length
    ·rw [if_pos hck] at h
     injection h with h
     obtain ⟨hi, he⟩ := zlk.1 hx
     have hxs := yjb xs i el hx
     have hget : xs.getD i .bad = el := by simp [List.getD, hx]
     have hui : Uni (P.cellsOf e) (xs.take i) := Uni.take hu i
     refine ⟨flat (xs.take i) ++ el.ecells.take c, el.ecells.drop (c + k) ++ flat (xs.drop (i + 1)), ?_, ?_, ?_, ?_⟩
     ·show flat xs = _
      conv => lhs; rw [hxs]
      rw [zrk, ya4]
      conv => lhs; rw [ybg el.ecells c k, h]
      simp
     ·simp only [zlg, zqn hui, zlh, fo]
      rw [Nat.min_eq_left (by omega), Nat.min_eq_left (by omega)]
     ·rw [← h]; simp; omega
     ·intro ms' hl h1
      have hse := yji hk hck hl h1
      refine ⟨?_, ⟨rfl, rfl, rfl, by simp⟩, ?_⟩
      ·show flat (xs.set i (setE (xs.getD i .bad) c ms')) = _
       rw [hget, List.set_eq_take_append_cons_drop, if_pos hi, zrk, ya4, hse]
       simp
      ·show Uni _ (xs.set i (setE (xs.getD i .bad) c ms'))
       intro y hy
       rw [hget] at hy
       rcases List.mem_or_eq_of_mem_set hy with hy | hy
       ·exact hu y hy
       ·subst hy
        rw [hse]
        have := hu el (List.mem_of_getElem? hx)
        simp [hl]; omega
    ·rw [if_neg hck] at h; cases h
  | fresh => simp [seg] at h
  | any => simp [seg] at h
 | box cs =>
  simp only [seg] at h
  by_cases hc : i = 0 ∧ c + k ≤ cs.length
  ·rw [if_pos hc] at h
   injection h with h
   obtain ⟨e1, e2, e3, e4⟩ := flatcase cs hc h
   exact ⟨cs.take c, cs.drop (c + k), e1, e2, e3, fun ms' hl _ => ⟨(e4 ms' hl).1, (e4 ms' hl).2, trivial⟩⟩
  ·rw [if_neg hc] at h; cases h
 | tup cs =>
  simp only [seg] at h
  by_cases hc : i = 0 ∧ c + k ≤ cs.length
  ·rw [if_pos hc] at h
   injection h with h
   obtain ⟨e1, e2, e3, e4⟩ := flatcase cs hc h
   exact ⟨cs.take c, cs.drop (c + k), e1, e2, e3, fun ms' hl _ => ⟨(e4 ms' hl).1, (e4 ms' hl).2, trivial⟩⟩
  ·rw [if_neg hc] at h; cases h
 | _ => simp [seg] at h
def yab : AV → Bool
 | .sl .own _ _ _ => true
 | .box _ => true
 | _ => false
def HeadOf (v : Value) (g : Nat) : Prop := (∃ l k, v = .slice (some ⟨g, 0, none⟩) l k) ∨ v = .pointer (some ⟨g, 0, none⟩)
section
variable {P : Program} {B0 : Nat} {w w' : World} {S S' : Nat → Prop}
theorem Rv.block {n : Nat} {v : Value} {x : AV} {O : Own} (ho : yab x = true) (hne : fl x ≠ []) (h : Rv P B0 w S (n + 1) v x O) :
  ∃ g C T O', HeadOf v g ∧ B0 ≤ g ∧ w.heap[g]? = some (.cells C T (0, 0)) ∧ (fl x).length ≤ C.size ∧ Rc (Rv P B0 w S n) (C.toList.take (fl x).length) (fl x) O' ∧
   (∀ b, O b = O' b + ind (some g) b) ∧ yq5 P x ∧
   ∀ (n : Nat) (w' : World) (S' : Nat → Prop) (x' : AV) (C' : Array Value) (O'' : Own), Like x x' → yq5 P x' → w'.heap[g]? = some (.cells C' T (0, 0)) → C'.size = C.size →
    Rc (Rv P B0 w' S' n) (C'.toList.take (fl x').length) (fl x') O'' → Rv P B0 w' S' (n + 1) v x' (fun b => O'' b + ind (some g) b) := by
 cases x with
 | sl m e cap xs =>
  cases m with
  | own =>
   obtain ⟨vs, O', hr, hcap, hu, hrc, hOO⟩ := h
   have hlen := zqn hu
   rcases hr.2 with ⟨rfl, hn⟩ | ⟨g, c, cur, rfl, hb, hg, hnc, hm, hcs, htake⟩
   ·have hx : xs = [] := zli hn
    subst hx; exact absurd rfl hne
   ·refine ⟨g, cur, e, O', .inl ⟨_, _, rfl⟩, hb, hg, ?_, ?_, hOO, hu, ?_⟩
    ·show (flat xs).length ≤ _
     rw [hlen, hcs]; exact Nat.mul_le_mul_right _ hnc
    ·show Rc _ (cur.toList.take (flat xs).length) (flat xs) O'
     rw [hlen, htake]; exact hrc
    ·intro n w' S' x' C' O'' hl hu' hg' hsz hr'
     cases x' with
     | sl m' e' cap' xs' =>
      obtain ⟨rfl, rfl, rfl, hll⟩ := hl
      have hlen' := zqn (sz := P.cellsOf e) (xs := xs') hu'
      have hr'' : Rc (Rv P B0 w' S' n) (C'.toList.take (flat xs').length) (flat xs') O'' := hr'
      refine ⟨C'.toList.take (xs'.length * P.cellsOf e), O'', ⟨?_, .inr ⟨g, c, C', by rw [hll], hb, hg', by omega, hm, by rw [hsz, hcs], rfl⟩⟩, hcap, hu', by rw [← hlen']; exact hr'', fun b => rfl⟩
      have := Nat.mul_le_mul_right (P.cellsOf e) (show xs'.length ≤ c by omega)
      simp only [zlh, zlr]
      omega
     | _ => exact hl.elim
  | fresh => simp [yab] at ho
  | any => simp [yab] at ho
 | box cs =>
  obtain ⟨g, C, T, O', rfl, hb, hg, hr, hOO⟩ := h
  have hl := hr.length
  have hl' : C.size = cs.length := by simpa using hl
  refine ⟨g, C, T, O', .inr rfl, hb, hg, by show cs.length ≤ _; omega, ?_, hOO, trivial, ?_⟩
  ·show Rc _ (C.toList.take cs.length) cs O'
   rw [← hl, List.take_length]; exact hr
  ·intro n w' S' x' C' O'' hlk _ hg' hsz hr'
   cases x' with
   | box cs' =>
    have hlk' : cs.length = cs'.length := hlk
    have hr'' : Rc (Rv P B0 w' S' n) (C'.toList.take cs'.length) cs' O'' := hr'
    refine ⟨g, C', T, O'', rfl, hb, hg', ?_, fun b => rfl⟩
    rw [show cs'.length = C'.toList.length by simp; omega, List.take_length] at hr''
    exact hr''
   | _ => exact hlk.elim
 | _ => simp [yab] at ho
theorem Rc.split3 {R : Value → AV → Own → Prop} {A M B : List AV} {vs : List Value} {O : Own} (h : Rc R vs (A ++ M ++ B) O) :
  ∃ O1 O2 O3, Rc R (vs.take A.length) A O1 ∧ Rc R ((vs.drop A.length).take M.length) M O2 ∧ Rc R (vs.drop (A.length + M.length)) B O3 ∧ ∀ b, O b = O1 b + O2 b + O3 b := by
 rw [zlp] at h
 obtain ⟨O1, O', h1, h', hO⟩ := h.split
 obtain ⟨O2, O3, h2, h3, hO'⟩ := h'.split
 refine ⟨O1, O2, O3, h1, h2, by rw [List.drop_drop] at h3; exact h3, fun b => by have := hO b; have := hO' b; omega⟩
theorem Rv.stretch {n : Nat} {v : Value} {x : AV} {O : Own} {i c k : Nat} {ms : List AV} (ho : yab x = true) (hk : 0 < k) (hs : seg x i c k = some ms) (h1 : ∀ b, O b ≤ 1)
  (h : Rv P B0 w S (n + 1) v x O) :
  ∃ (g : Nat) (C : Array Value) (T : TypeId) (Om Oq : Own), HeadOf v g ∧ B0 ≤ g ∧ w.heap[g]? = some (.cells C T (0, 0)) ∧ fo P x i c + k ≤ C.size ∧ ms.length = k ∧ Rc (Rv P B0 w S n) ((C.toList.drop (fo P x i c)).take k) ms Om ∧
   (∀ b, O b = Om b + Oq b) ∧ 0 < Oq g ∧
   ∀ (q : Nat) (w' : World) (S' : Nat → Prop) (C' : Array Value) (vs' : List Value) (ms' : List AV) (Om' : Own), n ≤ q → w'.heap[g]? = some (.cells C' T (0, 0)) →
    C'.toList = C.toList.take (fo P x i c) ++ vs' ++ C.toList.drop (fo P x i c + k) → ms'.length = k → (∀ y ∈ ms', One y) → Rc (Rv P B0 w' S' q) vs' ms' Om' →
    (∀ b, S b → S' b) → (∀ b, S b → w'.heap[b]? = w.heap[b]?) → (∀ b, 0 < Oq b → b ≠ g → w'.heap[b]? = w.heap[b]?) →
    Rv P B0 w' S' (q + 1) v (putSeg x i c ms') (fun b => Om' b + Oq b) := by
 have hne : fl x ≠ [] := by
  intro e
  cases x with
  | sl m ee cap xs =>
   cases m with
   | own =>
    cases hx : xs[i]? with
    | none => simp [seg, hx] at hs
    | some el =>
     have hxs := yjb xs i el hx
     have e' : flat xs = [] := e
     rw [hxs, zrk, ya4] at e'
     simp only [List.append_eq_nil_iff] at e'
     simp only [seg, hx, e'.2.1] at hs
     rw [if_neg (by simp; omega)] at hs
     cases hs
   | fresh => simp [yab] at ho
   | any => simp [yab] at ho
  | box cs =>
   have e' : cs = [] := e
   subst e'
   simp only [seg] at hs
   rw [if_neg (by simp; omega)] at hs
   cases hs
  | _ => simp [yab] at ho
 obtain ⟨g, C, T, O', hh, hb, hg, hsz, hr, hOO, hu, back⟩ := Rv.block ho hne h
 obtain ⟨A, B, hfl, hA, hm, put⟩ := yml hu hk hs
 have hr0 := hr
 rw [hfl] at hr0
 obtain ⟨O1, O2, O3, r1, r2, r3, hO3⟩ := hr0.split3
 have hlen : (fl x).length = A.length + k + B.length := by rw [hfl]; simp only [zlg, hm]
 have hg0 : O' g = 0 := by have := h1 g; have := hOO g; simp [ind] at this; omega
 have take1 : (C.toList.take (A ++ ms ++ B).length).take A.length = C.toList.take A.length := by rw [List.take_take, Nat.min_eq_left (by simp)]
 have take2 : ((C.toList.take (A ++ ms ++ B).length).drop A.length).take ms.length = (C.toList.drop A.length).take k := by
  rw [List.drop_take, List.take_take, Nat.min_eq_left (by simp), hm]
 have take3 : (C.toList.take (A ++ ms ++ B).length).drop (A.length + ms.length) = (C.toList.drop (A.length + k)).take B.length := by
  rw [List.drop_take, hm, show (A ++ ms ++ B).length - (A.length + k) = B.length by simp only [zlg, hm]; omega]
 rw [take1] at r1; rw [take2] at r2; rw [take3] at r3
 refine ⟨g, C, T, O2, fun b => O1 b + O3 b + ind (some g) b, hh, hb, hg, by rw [← hA]; omega, hm, by rw [← hA]; exact r2, fun b => by have := hOO b; have := hO3 b; show O b = O2 b + (O1 b + O3 b + ind (some g) b); omega, by simp [ind], ?_⟩
 intro q w' S' C' vs' ms' Om' hnq hg' hC' hl' h1' hr' hS hw hO
 obtain ⟨hfl', hlike, hu'⟩ := put ms' hl' h1'
 have hvl : vs'.length = k := by rw [hr'.length, hl']
 have hne' : ∀ {b : Nat} {q : Own}, (∀ c, q c ≤ O' c) → 0 < q b → b ≠ g := by
  intro b q hq hb e
  subst e
  have := hq b; rw [hg0] at this; omega
 have f1 : Rc (Rv P B0 w' S' q) (C.toList.take A.length) A O1 := Rc.le (n := n) (hnm := hnq) <| r1.frame hS hw fun b hb => hO b (by show 0 < O1 b + O3 b + _; omega) (hne' (q := O1) (fun c => by have := hO3 c; omega) hb)
 have f3 : Rc (Rv P B0 w' S' q) ((C.toList.drop (A.length + k)).take B.length) B O3 := Rc.le (n := n) (hnm := hnq) <| r3.frame hS hw fun b hb => hO b (by show 0 < O1 b + O3 b + _; omega) (hne' (q := O3) (fun c => by have := hO3 c; omega) hb)
 have hCs : C'.size = C.size := by
  have := congrArg List.length hC'
  simp only [zlg, zlh, List.length_drop, zlr, hvl, ← hA] at this
  omega
 have hfin : Rc (Rv P B0 w' S' q) (C'.toList.take (fl (putSeg x i c ms')).length) (fl (putSeg x i c ms')) (fun b => O1 b + Om' b + O3 b) := by
  have e : C'.toList.take (fl (putSeg x i c ms')).length = C.toList.take A.length ++ vs' ++ (C.toList.drop (A.length + k)).take B.length := by
   rw [hC', hfl', ← hA]
   have hA' : (C.toList.take A.length).length = A.length := by simp; omega
   rw [List.take_append, zlm (by simp [hvl, hl', hA'])]
   congr 1
   congr 1
   simp only [zlg, hA', hvl, hl']
   omega
  rw [e, hfl']
  exact (f1.app hr' (O := fun b => O1 b + Om' b) fun b => rfl).app f3 fun b => rfl
 exact (back q w' S' _ C' _ hlike hu' hg' hCs hfin).cast fun b => by simp only; omega
end
end Go.Lf
end

section
namespace Go.Lf
open Go Go.RowKit
def getC : AV → Path → Option AV
 | x, [] => some x
 | x, (i, c) :: p => match seg x i c 1 with
  | some (y :: _) => getC y p
  | _ => none
def setC : AV → Path → AV → AV
 | _, [], y => y
 | x, (i, c) :: p, y => match seg x i c 1 with
  | some (z :: _) => putSeg x i c [setC z p y]
  | _ => x
def ya8 (P : Program) (w : World) (x : AV) (i c : Nat) : Value → Option Value
 | .slice (some a) _ _ => w.cell? ⟨a.block, a.off + fo P x i c, none⟩
 | .pointer (some a) => w.cell? ⟨a.block, a.off + fo P x i c, none⟩
 | .tuple vs => vs[c]?
 | _ => none
def LV (P : Program) (w : World) : Value → AV → Path → Option Value
 | v, _, [] => some v
 | v, x, (i, c) :: p => match seg x i c 1, ya8 P w x i c v with
  | some (y :: _), some u => LV P w u y p
  | _, _ => none
theorem One.putSeg {x : AV} (h : One x) (i c : Nat) (ms : List AV) : One (Lf.putSeg x i c ms) := by
 cases x <;> first | rfl | exact h
theorem One.setC {y y' : AV} (h : One y) (h' : One y') (p : Path) : One (Lf.setC y p y') := by
 cases p with
 | nil => exact h'
 | cons ic p =>
  obtain ⟨i, c⟩ := ic
  unfold Lf.setC
  split
  ·exact h.putSeg i c _
  ·exact h
theorem HeadOf.child {P : Program} {w : World} {v : Value} {g : Nat} (h : HeadOf v g) (x : AV) (i c : Nat) : ya8 P w x i c v = w.cell? ⟨g, fo P x i c, none⟩ := by
 rcases h with ⟨l, k, rfl⟩ | rfl <;> simp [ya8]
section
variable {P : Program} {B0 : Nat} {w : World} {S : Nat → Prop}
theorem Rv.pos {n : Nat} {v : Value} {x : AV} {O : Own} (h : Rv P B0 w S n v x O) : ∃ m, n = m + 1 := by
 cases n with
 | zero => exact h.elim
 | succ m => exact ⟨m, rfl⟩
theorem Rc.one {R : Value → AV → Own → Prop} {vs : List Value} {x : AV} {O : Own} (h : Rc R vs [x] O) : ∃ v, vs = [v] ∧ R v x O := by
 cases h with
 | @cons v _ vs _ O1 O2 _ hr ht hO =>
  cases ht with
  | nil hz =>
   refine ⟨v, rfl, ?_⟩
   have : O = O1 := funext fun b => by have := hO b; have := hz b; omega
   rw [this]; exact hr
def yjl : AV → Bool
 | .agg _ => false
 | _ => true
theorem yfu {x : AV} (h : yjl x = true) : One x := by cases x <;> first | rfl | simp [yjl] at h
theorem yqh : ∀ (p : Path) (n : Nat) (v : Value) (x y : AV) (O : Own), Rv P B0 w S n v x O → (∀ b, O b ≤ 1) → getC x p = some y →
  ∃ (m : Nat) (u : Value) (Oy Oq : Own), m ≤ n ∧ Rv P B0 w S m u y Oy ∧ LV P w v x p = some u ∧ (∀ b, O b = Oy b + Oq b) ∧
   ∀ (q : Nat) (w' : World) (S' : Nat → Prop) (y' : AV) (Oy' : Own), Rv P B0 w' S' q u y' Oy' → (p ≠ [] → One y → One y') → (∀ b, S b → S' b) → (∀ b, S b → w'.heap[b]? = w.heap[b]?) →
    (∀ b, 0 < Oq b → w'.heap[b]? = w.heap[b]?) → (p ≠ [] → One y) → Rv P B0 w' S' (n + q) v (setC x p y') (fun b => Oy' b + Oq b) := by
 intro p
 induction p with
 | nil =>
  intro n v x y O h _ hg
  injection hg with hg
  subst hg
  exact ⟨n, v, O, fun _ => 0, zly _, h, rfl, fun b => rfl, fun q w' S' y' Oy' h' _ _ _ _ _ => (h'.le (Nat.le_add_left q n)).cast fun b => rfl⟩
 | cons ic p ih =>
  obtain ⟨i, c⟩ := ic
  intro n v x y O h h1 hg
  obtain ⟨n, rfl⟩ := h.pos
  unfold getC at hg
  cases hs : seg x i c 1 with
  | none => rw [hs] at hg; cases hg
  | some ms =>
   rw [hs] at hg
   match ms, hs, hg with
   | [], hs, hg => cases hg
   | z :: rest, hs, hg =>
    by_cases ho : yab x = true
    ·obtain ⟨g, C, T, Om, Oq, hh, hb, hgg, hsz, hlen, hr, hO, hpos, back⟩ := Rv.stretch ho (by omega) hs h1 h
     have hrest : rest = [] := zli (by simpa using hlen)
     subst hrest
     obtain ⟨u, hu, hz⟩ := hr.one
     have hcell : w.cell? ⟨g, fo P x i c, none⟩ = some u := by
      rw [cell_of_row w g _ C T (0, 0) hgg]
      have := congrArg (fun l : List Value => l[0]?) hu
      simp only [List.getElem?_take, List.getElem?_drop] at this
      simpa using this
     obtain ⟨m, u', Oy, Oq', hm, hy, hlv, hOm, wand⟩ := ih n u z y Om hz (fun b => by have := hO b; have := h1 b; omega) hg
     refine ⟨m, u', Oy, fun b => Oq' b + Oq b, by omega, hy, ?_, fun b => by have := hO b; have := hOm b; show O b = Oy b + (Oq' b + Oq b); omega, ?_⟩
     ·unfold LV
      rw [hs, hh.child, hcell]
      exact hlv
     ·intro d w' S' y' Oy' h' hone hS hw hq hy1
      have hk := wand d w' S' y' Oy' h' (fun hp => hone (by simp)) hS hw (fun b hb => hq b (by show 0 < Oq' b + Oq b; omega)) (fun hp => hy1 (by simp))
      have hz1 : yjl z = true ∨ p = [] := by
       cases p with
       | nil => exact .inr rfl
       | cons jd p =>
        left
        obtain ⟨j, d⟩ := jd
        unfold getC at hg
        cases z with
        | agg cs => simp [seg] at hg
        | _ => rfl
      have hone' : One (setC z p y') := by
       rcases hz1 with hz1 | hz1
       ·exact (yfu hz1).setC (hone (by simp) (hy1 (by simp))) p
       ·subst hz1; exact hone (by simp) (hy1 (by simp))
      have hgg' : w'.heap[g]? = some (.cells C T (0, 0)) := by
       rw [hq g (by show 0 < Oq' g + Oq g; omega)]; exact hgg
      have := back (n + d) w' S' C [u] [setC z p y'] (fun b => Oy' b + Oq' b) (Nat.le_add_right n d) hgg' ?_ rfl (fun q hq' => by simp at hq'; subst hq'; exact hone')
       (.cons hk (.nil (O := fun _ => 0) fun _ => rfl) fun b => rfl) hS hw (fun b hb _ => hq b (by show 0 < Oq' b + Oq b; omega))
      ·unfold setC
       rw [hs]
       rw [Nat.add_right_comm n 1 d]
       exact this.cast fun b => by simp only; omega
      ·rw [← hu]; exact ybg _ _ _
    ·cases x with
     | tup cs =>
      obtain ⟨vs, rfl, hr⟩ := h
      simp only [seg] at hs
      by_cases hc : i = 0 ∧ c + 1 ≤ cs.length
      ·rw [if_pos hc] at hs
       injection hs with hs'
       obtain ⟨rfl, hc⟩ := hc
       have hrest : rest = [] := by
        have := congrArg List.length hs'
        simp at this
        exact zli (by omega)
       subst hrest
       have hcs := ybg cs c 1
       rw [hs'] at hcs
       have hr0 := hr
       rw [hcs] at hr0
       obtain ⟨O1, O2, O3, r1, r2, r3, hO3⟩ := hr0.split3
       have hAl : (cs.take c).length = c := by simp; omega
       rw [hAl] at r1 r2 r3
       obtain ⟨u, hu, hz⟩ := r2.one
       have hvs : vs.toList = vs.toList.take c ++ [u] ++ vs.toList.drop (c + 1) := by
        have := ybg vs.toList c 1
        rw [show (vs.toList.drop c).take 1 = [u] from hu] at this
        exact this
       have hlt : c < vs.size := by have := hr.length; simp at this; omega
       have hcell : vs[c]? = some u := by
        have e : vs[c]? = vs.toList[c]? := by simp
        rw [e, hvs]
        have : (vs.toList.take c).length = c := by simp; omega
        rw [zlp, List.getElem?_append_right (by omega)]
        simp [this]
       obtain ⟨m, u', Oy, Oq', hm, hy, hlv, hOm, wand⟩ := ih n u z y O2 hz (fun b => by have := hO3 b; have := h1 b; omega) hg
       have hseg : seg (.tup cs) 0 c 1 = some [z] := by show (if 0 = 0 ∧ c + 1 ≤ cs.length then some ((cs.drop c).take 1) else none) = _; rw [if_pos ⟨rfl, hc⟩, hs']
       refine ⟨m, u', Oy, fun b => Oq' b + (O1 b + O3 b), by omega, hy, ?_, fun b => by have := hO3 b; have := hOm b; show O b = Oy b + (Oq' b + (O1 b + O3 b)); omega, ?_⟩
       ·unfold LV
        rw [hseg]
        simp only [ya8, hcell]
        exact hlv
       ·intro d w' S' y' Oy' h' hone hS hw hq hy1
        have hk := wand d w' S' y' Oy' h' (fun hp => hone (by simp)) hS hw (fun b hb => hq b (by show 0 < Oq' b + (O1 b + O3 b); omega)) (fun hp => hy1 (by simp))
        have f1 := (r1.frame hS hw (fun b hb => hq b (by show 0 < Oq' b + (O1 b + O3 b); omega))).le (Nat.le_add_right n d)
        have f3 := (r3.frame hS hw (fun b hb => hq b (by show 0 < Oq' b + (O1 b + O3 b); omega))).le (Nat.le_add_right n d)
        unfold setC
        rw [hseg]
        rw [Nat.add_right_comm n 1 d]
        refine ⟨vs, rfl, ?_⟩
        rw [hvs]
        refine ((f1.app (.cons hk (.nil (O := fun _ => 0) fun _ => rfl) fun b => rfl) (O := fun b => O1 b + (Oy' b + Oq' b)) fun b => by omega).app f3 fun b => ?_)
        have := hO3 b; simp only; omega
      ·rw [if_neg hc] at hs; cases hs
     | sl m e cap xs => cases m <;> simp [seg, yab] at hs ho
     | _ => simp [seg, yab] at hs ho
end
end Go.Lf
end

section
namespace Go.Lf
open Go Go.RowKit
abbrev Env := List (Nat × AV)
def lk : Env → Nat → Option AV
 | [], _ => none
 | (k, x) :: e, t => if k = t then some x else lk e t
def zqf : AV → Option Nat
 | .al r _ _ => some r
 | .adr r _ _ _ => some r
 | .cp r => some r
 | _ => none
def ydy : AV → Bool
 | .al _ p _ => p.isEmpty
 | .adr _ p _ _ => p.isEmpty
 | .cp _ => false
 | _ => true
def zqu : AV → Bool
 | .sl .. => true
 | .box _ => true
 | .tup _ => true
 | .bad => true
 | _ => false
def ybi (r : Nat) (keep : Bool) (x : AV) : AV :=
 if zqf x = some r ∧ ¬ (keep = true ∧ ydy x = true) then .bad else x
def kill (r : Nat) (keep : Bool) (env : Env) : Env := env.map fun tx => (tx.1, ybi r keep tx.2)
theorem ya2 (r : Nat) (keep : Bool) (env : Env) (t : Nat) : lk (kill r keep env) t = (lk env t).map (ybi r keep) := by
 induction env with
 | nil => rfl
 | cons kx env ih =>
  obtain ⟨k, x⟩ := kx
  simp only [kill, List.map_cons, lk]
  by_cases h : k = t
  ·simp [h]
  ·rw [if_neg h, if_neg h]; exact ih
def yb7 : Value → Option Addr
 | .slice (some a) _ _ => some a
 | .pointer (some a) => some a
 | _ => none
def subOk (P : Program) (e : TypeId) (rng : Option (Nat × Nat × Option Nat)) (u v : Value) : Prop :=
 match rng with
 | none => v = u
 | some (lo, n, k') => ∃ A l k A' c, u = .slice A l k ∧ v = .slice A' n c ∧ lo + n ≤ l ∧ n ≤ c ∧ lo + c ≤ k ∧ (match k' with | none => lo + c = k | some c0 => c = c0) ∧ (n ≠ 0 → A' = A.map (·.add (lo * P.cellsOf e))) ∧ (lo = 0 → A' = A)
def Al (P : Program) (env : Env) (tmps : Array Value) (w : World) (v : Value) : AV → Prop
 | .al r p rng => ∀ xr, lk env r = some xr → ∀ m e cap xs, getC xr p = some (.sl m e cap xs) → (p = [] ∨ m = .own) → ∃ vr u, tmps[r]? = some vr ∧ LV P w vr xr p = some u ∧ subOk P e rng u v
 | .adr r p i c => ∀ xr, lk env r = some xr → ∀ y, getC xr p = some y → yab y = true → ∃ vr u a, tmps[r]? = some vr ∧ LV P w vr xr p = some u ∧ yb7 u = some a ∧ v = .pointer (some ⟨a.block, a.off + fo P y i c, none⟩)
 | .cp r => ∀ cs, lk env r = some (.box cs) → (∃ p y, p ≠ [] ∧ getC (.box cs) p = some y ∧ yab y = true) → ∃ vr vs, tmps[r]? = some vr ∧ v = .agg vs ∧ vs.size = cs.length ∧ ∀ c u, vs[c]? = some u → LV P w vr (.box cs) [(0, c)] = some u
 | _ => True
def Sv (P : Program) (B0 : Nat) (env : Env) (tmps : Array Value) (w : World) (S : Nat → Prop) (n : Nat) (v : Value) (x : AV) (O : Own) : Prop :=
 (zqf x ≠ none ∧ Al P env tmps w v x ∧ Zero O) ∨ Rv P B0 w S n v x O
structure St (P : Program) (F : Frm) (B0 : Nat) (w0 : World) (n : Nat) (env : Env) (tmps : Array Value) (w : World) (S : Nat → Prop) (Os : Nat → Own) : Prop where
 below : Below B0 w0 w
 b0 : B0 ≤ w.heap.size
 sLt : ∀ b, S b → b < w.heap.size
 excl : ∀ b t, S b → Os t b = 0
 one : ∀ t b, Os t b ≤ 1
 dis : ∀ t t' b, t ≠ t' → Os t b = 0 ∨ Os t' b = 0
 rel : ∀ t x, lk env t = some x → ∃ v, tmps[t]? = some v ∧ Sv P B0 env tmps w S n v x (Os t)
 abs : ∀ t, lk env t = none → Zero (Os t)
 leaf : ∀ t x r, lk env t = some x → zqf x = some r → ∃ y, lk env r = some y ∧ zqu y = true
 keep : ∀ b, F.b b → S b ∧ w.heap[b]? = w0.heap[b]?
 pin : ∀ t, t < F.lo → tmps[t]? = F.ts[t]?
section
variable {P : Program} {F : Frm} {B0 : Nat} {w0 w w' : World} {S S' : Nat → Prop}
theorem Rv.noLeaf {n : Nat} {v : Value} {x : AV} {O : Own} (h : Rv P B0 w S n v x O) : zqf x = none := by
 obtain ⟨m, rfl⟩ := h.pos
 cases x <;> first | rfl | exact h.elim
theorem yq7 : ∀ (p : Path) (n : Nat) (v : Value) (x : AV) (O : Own) (u : Value), Rv P B0 w S n v x O → (∀ b, O b ≤ 1) → (∀ b, 0 < O b → w'.heap[b]? = w.heap[b]?) →
  LV P w v x p = some u → LV P w' v x p = some u := by
 intro p
 induction p with
 | nil => intro n v x O u _ _ _ h; exact h
 | cons ic p ih =>
  obtain ⟨i, c⟩ := ic
  intro n v x O u h h1 hO hl
  obtain ⟨n, rfl⟩ := h.pos
  unfold LV at hl ⊢
  cases hs : seg x i c 1 with
  | none => rw [hs] at hl; simp at hl
  | some ms =>
   rw [hs] at hl
   match ms, hs, hl with
   | [], hs, hl => simp at hl
   | z :: rest, hs, hl =>
    by_cases ho : yab x = true
    ·obtain ⟨g, C, T, Om, Oq, hh, hb, hgg, hsz, hlen, hr, hOO, hpos, back⟩ := Rv.stretch ho (by omega) hs h1 h
     have hrest : rest = [] := zli (by simpa using hlen)
     subst hrest
     obtain ⟨u1, hu1, hz⟩ := hr.one
     have hg' : w'.heap[g]? = w.heap[g]? := hO g (by have := hOO g; omega)
     have e : ∀ (W : World), W.heap[g]? = w.heap[g]? → ya8 P W x i c v = some u1 := by
      intro W hW
      rw [hh.child, cell_of_row W g _ C T (0, 0) (by rw [hW]; exact hgg)]
      have := congrArg (fun l : List Value => l[0]?) hu1
      simp only [List.getElem?_take, List.getElem?_drop] at this
      simpa using this
     rw [e w rfl] at hl
     rw [e w' hg']
     exact ih n u1 z Om u hz (fun b => by have := hOO b; have := h1 b; omega) (fun b hb => hO b (by have := hOO b; omega)) hl
    ·cases x with
     | tup cs =>
      obtain ⟨vs, rfl, hr⟩ := h
      simp only [ya8] at hl ⊢
      cases hc : vs[c]? with
      | none => rw [hc] at hl; simp at hl
      | some u1 =>
       rw [hc] at hl
       simp only [seg] at hs
       by_cases hcc : i = 0 ∧ c + 1 ≤ cs.length
       ·rw [if_pos hcc] at hs
        injection hs with hs'
        have hz : cs[c]? = some z := by
         have := congrArg (fun l : List AV => l[0]?) hs'
         simp only [List.getElem?_take, List.getElem?_drop] at this
         simpa using this
        obtain ⟨u2, O1, h2, h3, h4⟩ := hr.get hz
        have : u2 = u1 := by
         have e : vs.toList[c]? = vs[c]? := by simp
         rw [e, hc] at h2
         injection h2 with h2; exact h2.symm
        subst this
        exact ih n u2 z O1 u h3 (fun b => by have := h4 b; have := h1 b; omega) (fun b hb => hO b (by have := h4 b; omega)) hl
       ·rw [if_neg hcc] at hs; cases hs
     | sl m e cap xs => cases m <;> simp [seg, yab] at hs ho
     | _ => simp [seg, yab] at hs ho
theorem Al.keep {env env' : Env} {tmps tmps' : Array Value} {v : Value} {x : AV} {r : Nat} (h : Al P env tmps w v x) (hr : zqf x = some r) (he : lk env' r = lk env r) (ht : tmps'[r]? = tmps[r]?)
  (hl : ∀ xr vr p u, lk env r = some xr → tmps[r]? = some vr → LV P w vr xr p = some u → LV P w' vr xr p = some u) : Al P env' tmps' w' v x := by
 cases x with
 | al r' p rng =>
  injection hr with hr; subst hr
  intro xr hx m e cap xs hg hpm
  rw [he] at hx
  obtain ⟨vr, u, h1, h2, h3⟩ := h xr hx m e cap xs hg hpm
  exact ⟨vr, u, by rw [ht]; exact h1, hl xr vr p u hx h1 h2, h3⟩
 | adr r' p i c =>
  injection hr with hr; subst hr
  intro xr hx y hg ho
  rw [he] at hx
  obtain ⟨vr, u, a, h1, h2, h3⟩ := h xr hx y hg ho
  exact ⟨vr, u, a, by rw [ht]; exact h1, hl xr vr p u hx h1 h2, h3⟩
 | cp r' =>
  injection hr with hr; subst hr
  intro cs hx hc
  rw [he] at hx
  obtain ⟨vr, vs, h1, h2, h3, h4⟩ := h cs hx hc
  exact ⟨vr, vs, by rw [ht]; exact h1, h2, h3, fun c u hu => hl _ vr _ u hx h1 (h4 c u hu)⟩
 | _ => cases hr
theorem St.set {n n' : Nat} {env : Env} {tmps : Array Value} {Os : Nat → Own} (h : St P F B0 w0 n env tmps w S Os) (hnn : n ≤ n') (d : Nat) {v : Value} (hd : d < tmps.size ∧ (F.lo ≤ d ∨ tmps[d]? = some v)) {x : AV} {O : Own}
  (hB : Below B0 w w') (hS : ∀ b, S b → S' b) (hSl : ∀ b, S' b → b < w'.heap.size) (hSO : ∀ b t, t ≠ d → S' b → Os t b = 0) (hSd : ∀ b, S' b → O b = 0)
  (hag : ∀ b, (S b ∨ ∃ t, t ≠ d ∧ 0 < Os t b) → w'.heap[b]? = w.heap[b]?)
  (h1 : ∀ b, O b ≤ 1) (hOd : ∀ b t, t ≠ d → 0 < O b → Os t b = 0)
  (hx : (∃ r, zqf x = some r ∧ r ≠ d ∧ Al P env tmps w v x ∧ Zero O ∧ ∃ y, lk env r = some y ∧ zqu y = true) ∨ Rv P B0 w' S' n' v x O)
  (hA : ∀ t y u, t ≠ d → lk env t = some y → zqf y = some d → tmps[t]? = some u → Al P env tmps w u y → zqu x = true ∧ Al P ((d, x) :: env) (tmps.setIfInBounds d v) w' u y) :
  St P F B0 w0 n' ((d, x) :: env) (tmps.setIfInBounds d v) w' S' (fun t => if t = d then O else Os t) := by
 have hlk0 : ∀ t, t ≠ d → lk ((d, x) :: env) t = lk env t := fun t ht => by simp [lk, Ne.symm ht]
 have htmp : ∀ t, t ≠ d → (tmps.setIfInBounds d v)[t]? = tmps[t]? := fun t ht => by rw [Array.getElem?_setIfInBounds_ne (Ne.symm ht)]
 have hlv : ∀ r, r ≠ d → ∀ xr vr p u, lk env r = some xr → tmps[r]? = some vr → LV P w vr xr p = some u → LV P w' vr xr p = some u := by
  intro r hr xr vr p u hx1 hv1 hl
  obtain ⟨vr', hv2, hs⟩ := h.rel r xr hx1
  rw [hv1] at hv2; injection hv2 with hv2; subst hv2
  rcases hs with ⟨hlf, _, _⟩ | hs
  ·cases p with
   | nil => exact hl
   | cons ic p =>
    exfalso
    obtain ⟨i, c⟩ := ic
    unfold LV at hl
    cases xr <;> simp [zqf] at hlf <;> simp [seg] at hl
  ·exact yq7 p n vr xr (Os r) u hs (h.one r) (fun b hb => hag b (.inr ⟨r, hr, hb⟩)) hl
 refine ⟨h.below.trans hB, Nat.le_trans h.b0 hB.size, hSl, ?_, ?_, ?_, ?_, ?_, ?_, fun b hb => ⟨hS b (h.keep b hb).1, (hag b (.inl (h.keep b hb).1)).trans (h.keep b hb).2⟩, fun t ht => by
  by_cases htd : t = d
  ·subst htd
   rcases hd.2 with h2 | h2
   ·omega
   ·rw [← h.pin t ht, h2, Array.getElem?_setIfInBounds_self, if_pos hd.1]
  ·rw [htmp t htd]; exact h.pin t ht⟩
 ·intro b t hb
  by_cases ht : t = d
  ·simp [ht, hSd b hb]
  ·simp [ht, hSO b t ht hb]
 ·intro t b
  by_cases ht : t = d
  ·simp [ht, h1 b]
  ·simp [ht, h.one t b]
 ·intro t t' b hne
  by_cases ht : t = d
  ·by_cases ht' : t' = d
   ·exact absurd (ht.trans ht'.symm) hne
   ·simp only [ht, if_true, ht', if_false]
    by_cases hb : 0 < O b
    ·exact .inr (hOd b t' ht' hb)
    ·exact .inl (by omega)
  ·by_cases ht' : t' = d
   ·simp only [ht, if_false, ht', if_true]
    by_cases hb : 0 < O b
    ·exact .inl (hOd b t ht hb)
    ·exact .inr (by omega)
   ·simp only [ht, if_false, ht']; exact h.dis t t' b hne
 ·intro t y hy
  by_cases ht : t = d
  ·subst ht
   have : x = y := by simpa [lk] using hy
   subst this
   refine ⟨v, by simp [hd.1], ?_⟩
   simp only [if_true]
   rcases hx with ⟨r, hr, hrd, ha, hz, _⟩ | hx
   ·exact .inl ⟨by simp [hr], ha.keep hr (hlk0 r hrd) (htmp r hrd) (hlv r hrd), hz⟩
   ·exact .inr hx
  ·rw [hlk0 t ht] at hy
   obtain ⟨u, hu, hs⟩ := h.rel t y hy
   refine ⟨u, by rw [htmp t ht]; exact hu, ?_⟩
   simp only [ht, if_false]
   rcases hs with ⟨hlf, ha, hz⟩ | hs
   ·refine .inl ⟨hlf, ?_, hz⟩
    cases hr : zqf y with
    | none => exact absurd hr hlf
    | some r =>
     by_cases hrd : r = d
     ·subst hrd; exact (hA t y u ht hy hr hu ha).2
     ·exact ha.keep hr (hlk0 r hrd) (htmp r hrd) (hlv r hrd)
   ·exact .inr ((Rv.frame hS (fun b hb => hag b (.inl hb)) n u y (Os t) (fun b hb => hag b (.inr ⟨t, ht, hb⟩)) hs).le hnn)
 ·intro t ht b
  by_cases htd : t = d
  ·subst htd; simp [lk] at ht
  ·rw [hlk0 t htd] at ht
   simp only [htd, if_false]; exact h.abs t ht b
 ·intro t y r hy hr
  by_cases htd : t = d
  ·subst htd
   have : x = y := by simpa [lk] using hy
   subst this
   rcases hx with ⟨r', hr', hrd, _, _, hy'⟩ | hx
   ·rw [hr] at hr'; injection hr' with hr'; subst hr'
    rw [hlk0 r hrd]; exact hy'
   ·rw [hx.noLeaf] at hr; cases hr
  ·rw [hlk0 t htd] at hy
   obtain ⟨z, hz, hzr⟩ := h.leaf t y r hy hr
   by_cases hrd : r = d
   ·subst hrd
    obtain ⟨u, hu, hs⟩ := h.rel t y hy
    refine ⟨x, by simp [lk], ?_⟩
    rcases hs with ⟨_, ha, _⟩ | hs
    ·exact (hA t y u htd hy hr hu ha).1
    ·rw [hs.noLeaf] at hr; cases hr
   ·exact ⟨z, by rw [hlk0 r hrd]; exact hz, hzr⟩
theorem St.kill {n : Nat} {env : Env} {tmps : Array Value} {Os : Nat → Own} (h : St P F B0 w0 n env tmps w S Os) (hn : 0 < n) (r : Nat) (keep : Bool) : St P F B0 w0 n (Lf.kill r keep env) tmps w S Os := by
 have hroot : ∀ y, zqf y = none → ybi r keep y = y := by
  intro y hy; simp [ybi, hy]
 have hlk : ∀ t y, lk env t = some y → zqf y = none → lk (Lf.kill r keep env) t = some y := by
  intro t y hy hl; rw [ya2, hy, Option.map_some, hroot y hl]
 have hrl : ∀ y, zqu y = true → zqf y = none := by intro y hy; cases y <;> first | rfl | simp [zqu] at hy
 refine ⟨h.below, h.b0, h.sLt, h.excl, h.one, h.dis, ?_, ?_, ?_, h.keep, h.pin⟩
 ·intro t x hx
  rw [ya2] at hx
  cases hy : lk env t with
  | none => rw [hy] at hx; cases hx
  | some y =>
   rw [hy] at hx
   injection hx with hx
   obtain ⟨v, hv, hs⟩ := h.rel t y hy
   refine ⟨v, hv, ?_⟩
   rcases hs with ⟨hlf, ha, hz⟩ | hs
   ·unfold ybi at hx
    split at hx
    ·subst hx
     obtain ⟨m, rfl⟩ : ∃ m, n = m + 1 := ⟨n - 1, by omega⟩
     exact .inr hz
    ·subst hx
     refine .inl ⟨hlf, ?_, hz⟩
     cases hr : zqf y with
     | none => exact absurd hr hlf
     | some q =>
      obtain ⟨z, hz1, hz2⟩ := h.leaf t y q hy hr
      exact ha.keep hr ((hlk q z hz1 (hrl z hz2)).trans hz1.symm) rfl (fun _ _ _ _ _ _ h => h)
   ·rw [hroot y hs.noLeaf] at hx; subst hx; exact .inr hs
 ·intro t ht
  rw [ya2] at ht
  cases hy : lk env t with
  | none => exact h.abs t hy
  | some y => rw [hy] at ht; cases ht
 ·intro t x q hx hq
  rw [ya2] at hx
  cases hy : lk env t with
  | none => rw [hy] at hx; cases hx
  | some y =>
   rw [hy] at hx
   injection hx with hx
   unfold ybi at hx
   split at hx
   ·subst hx; cases hq
   ·subst hx
    obtain ⟨z, hz1, hz2⟩ := h.leaf t y q hy hq
    exact ⟨z, hlk q z hz1 (hrl z hz2), hz2⟩
end
end Go.Lf
end

section
namespace Go.Lf
open Go Go.RowKit
def hdAV : AV → AV
 | .sl .own _ _ _ => .sl .own 0 none []
 | .box _ => .box []
 | x => x
inductive RP (α : Type) where
 | ret (a : α)
 | fail
 | read (t : Nat) (k : Option AV → RP α)
 | head (t : Nat) (k : Option AV → RP α)
 | br (b : Bool) (p q : RP α)
 | el (x : AV) (k : AV → RP α)
def RP.run {α : Type} (env : Env) : RP α → Option (List Nat × α)
 | .ret a => some ([], a)
 | .fail => none
 | .read t k => match (k (lk env t)).run env with
  | some (l, a) => some (2 * t :: l, a)
  | none => none
 | .head t k => match (k ((lk env t).map hdAV)).run env with
  | some (l, a) => some ((2 * t + 1) :: l, a)
  | none => none
 | .br b p q => if b = true then p.run env else q.run env
 | .el x k => (k x).run env
def gd {α : Type} (c : Prop) [Decidable c] (p : RP α) : RP α := .br (decide c) p .fail
structure Eff where
 ws : List (Nat × AV)
 kl : List (Nat × Bool)
def kills : List (Nat × Bool) → Env → Env
 | [], env => env
 | (r, k) :: l, env => kills l (kill r k env)
def zqi (e : Eff) (env : Env) : Env := e.ws ++ kills e.kl env
inductive TK where
 | plain | bool
 | map (k e : TypeId)
 | int (k : IntKind)
 | slice (e : TypeId)
 | struct (fs : List (Nat × Nat))
 | array (n : Nat) (e : TypeId)
 | str
 deriving DecidableEq
structure TInfo where
 zero : List Value
 bytes : Nat
 agg : Bool
 kind : TK
abbrev yft := List (Nat × TInfo)
def tyF : yft → Nat → Option TInfo
 | [], _ => none
 | (k, i) :: T, t => if k = t then some i else tyF T t
structure Cx where
 T : yft
 K : FuncId → List AV → Option AV
 KM : FuncId → AV → Option AV
 eqT : TypeId → List Value → List Value → Option Bool
 N : Nat
 lo : Nat
 dr : Bool
def zqt : AV → Bool
 | .atom v => v.oneCell'
 | .sl .own _ _ _ => false
 | .sl .. => true
 | _ => false
def zqx : Mode → Mode
 | .own => .fresh
 | m => m
def share (x : AV) : AV := remode zqx 12 x
def view (x : AV) : AV := remode (fun _ => .any) 12 x
def valP {α : Type} (x : Operand) (k : AV → Option Nat → RP α) : RP α :=
 match x with
 | .tmp t => .read t fun o => match o with
  | some y => k y (some t)
  | none => .fail
 | .const v => k (.atom v) none
 | .global g => k (.atom (.pointer (some ⟨g, 0, none⟩))) none
 | .func f => k (.atom (.func (.func f) #[] #[])) none
def outP (cx : Cx) (d : Option Nat) (x : AV) (ws : List (Nat × AV)) (kl : List (Nat × Bool)) : RP Eff :=
 match d with
 | none => .fail
 | some d => .el x fun x =>
  if (d < cx.N ∧ cx.lo ≤ d) ∧ zqf x ≠ some d then
   .read d fun old => match old with
    | some y => if zqu y then .ret ⟨(d, x) :: ws, (d, false) :: kl⟩ else .ret ⟨(d, x) :: ws, kl⟩
    | none => .ret ⟨(d, x) :: ws, kl⟩
  else .fail
def ycd (s : Option Nat) : AV → Option AV
 | .sl .own _ _ _ => s.map fun s => .al s [] none
 | .box _ => s.map fun s => .adr s [] 0 0
 | .tup _ => none
 | .bad => none
 | .mp _ _ => none
 | .agg cs => if cs.all zqt then some (.agg cs) else none
 | x => some x
def segP {α : Type} (y : AV) (i c n : Nat) (k : List AV → RP α) : RP α :=
 match y with
 | .sl .own _ _ xs => gd (i < xs.length) (.el (xs.getD i .bad) fun el => if c + n ≤ el.ecells.length then k ((el.ecells.drop c).take n) else .fail)
 | .box cs => if n = 1 then gd (i = 0 ∧ c < cs.length) (.el (cs.getD c .bad) fun el => k [el]) else match seg (.box cs) i c n with
  | some ms => k ms
  | none => .fail
 | y => match seg y i c n with
  | some ms => k ms
  | none => .fail
def getP {α : Type} : AV → Path → (AV → RP α) → RP α
 | x, [], k => k x
 | x, (i, c) :: p, k => segP x i c 1 fun ms => match ms with
  | y :: _ => getP y p k
  | [] => .fail
def setP {α : Type} : AV → Path → AV → (AV → RP α) → RP α
 | _, [], y, k => k y
 | x, (i, c) :: p, y, k => segP x i c 1 fun ms => match ms with
  | z :: _ => setP z p y fun q => k (putSeg x i c [q])
  | [] => .fail
def ymw {α : Type} (r : Nat) (p : Path) (k : AV → RP α) : RP α :=
 .read r fun xr => match xr with
  | some xr => getP xr p fun y => if yab y then k y else .fail
  | none => .fail
def yg0 (cx : Cx) (d : Option Nat) (x : Operand) : RP Eff :=
 valP x fun y s => match y, s with
  | .tup cs, some s => if d = some s then .fail else outP cx d (.tup cs) [(s, .bad)] []
  | y, s => match ycd s y with
   | some z => outP cx d z [] []
   | none => .fail
def ym0 (cx : Cx) (d : Option Nat) (x : Operand) : RP Eff :=
 match x with
 | .tmp s => .head s fun h => match h with
  | some (.sl .own _ _ _) => outP cx d (.al s [] none) [] []
  | some (.box _) => outP cx d (.adr s [] 0 0) [] []
  | _ => yg0 cx d (.tmp s)
 | x => yg0 cx d x
def yyy : AV → Bool
 | .atom _ => true
 | _ => false
def yau (lo : Nat) (cap : Option Nat) : Option Nat → Option Nat
 | none => cap.map (· - lo)
 | some c => some c
def ybw (x : AV) (rng : Option (Nat × Nat × Option Nat)) : Option AV :=
 match x, rng with
 | .sl m e cap xs, none => some (.sl m e cap xs)
 | .sl m e cap xs, some (lo, n, k) => if lo + n ≤ xs.length then some (.sl m e (yau lo cap k) ((xs.drop lo).take n)) else none
 | _, _ => none
def yj6 (cx : Cx) (d : Option Nat) (x : Operand) : RP Eff :=
 valP x fun y s => match y, s, d with
  | .sl .own e cap xs, some s, some d => if s = d then .fail else outP cx (some d) (.sl .own e cap xs) [(s, .bad)] []
  | .al r [] (some (0, n, k)), _, some d =>
   if r = d then
    .read d fun old => match old with
     | some (.sl .own e cap xs) => gd (n ≤ xs.length ∧ (d < cx.N ∧ cx.lo ≤ d) ∧ (k = none ∨ k = cap)) (.ret ⟨[(d, .sl .own e cap (xs.take n))], [(d, false)]⟩)
     | _ => .fail
   else outP cx (some d) (.al r [] (some (0, n, k))) [] []
  | y, s, d => match ycd s y with
   | some z => outP cx d z [] []
   | none => .fail
def yrk (cx : Cx) (d : Option Nat) (c a b : Operand) : RP Eff :=
 valP c fun c _ => match c with
  | .atom (.bool t) => .br t
   (valP a fun y _ => match y with
    | .atom v => outP cx d (.atom v) [] []
    | _ => .fail)
   (valP b fun y _ => match y with
    | .atom v => outP cx d (.atom v) [] []
    | _ => .fail)
  | _ => .fail
def yjh (op : BinOp) (boolT : Bool) : Value → Value → Option Value
 | .int k a, .int k' b =>
  if k = k' then match op with
   | .add => some (.int k (k.wrap (a + b)))
   | .sub => some (.int k (k.wrap (a - b)))
   | .mul => some (.int k (k.wrap (a * b)))
   | .quo => if b = 0 then none else some (.int k (k.wrap (a.tdiv b)))
   | .rem => if b = 0 then none else some (.int k (a.tmod b))
   | .eql => some (.bool (a == b))
   | .neq => some (.bool (a != b))
   | .lss => some (.bool (decide (a < b)))
   | .leq => some (.bool (decide (a ≤ b)))
   | .gtr => some (.bool (decide (b < a)))
   | .geq => some (.bool (decide (b ≤ a)))
   | _ => none
  else none
 | .bool a, .bool b => if boolT then match op with
   | .eql => some (.bool (a == b))
   | .neq => some (.bool (a != b))
   | _ => none
  else none
 | .string a, .string b => match op with
  | .eql => some (.bool (a.toList == b.toList))
  | .neq => some (.bool (!(a.toList == b.toList)))
  | .add => if a.size + b.size ≤ 1000000000000 then some (.string (a ++ b)) else none
  | _ => none
 | _, _ => none
def atoms : List AV → Option (List Value)
 | [] => some []
 | .atom v :: l => (atoms l).map (v :: ·)
 | _ => none
def yo1 : BinOp → Value → Value → Option (ByteArray × ByteArray)
 | .add, .string a, .string b => some (a, b)
 | _, _, _ => none
def yfi : List AV → Option (List Int)
 | [] => some []
 | .atom (.int .u8 n) :: l => (yfi l).map (n :: ·)
 | _ => none
def yb9 (ns : List Int) : ByteArray := ns.foldl (fun r n => r.push (UInt8.ofNat n.toNat)) ByteArray.empty
def ywu (cx : Cx) (d : Option Nat) (op : BinOp) (t : TypeId) (x y : Operand) : RP Eff :=
 valP x fun a _ => valP y fun b _ => match a, b with
  | .atom u, .atom v => match yo1 op u v with
   | some (s1, s2) => gd (s1.size + s2.size ≤ 1000000000000) (outP cx d (.atom (.string (s1 ++ s2))) [] [])
   | none => match yjh op (match tyF cx.T t with | some i => decide (i.kind = .bool) | none => false) u v with
    | some r => outP cx d (.atom r) [] []
    | none => .fail
  | .agg cs, .agg ds => match atoms cs, atoms ds with
   | some us, some vs => match cx.eqT t us vs, op with
    | some r, .eql => outP cx d (.atom (.bool r)) [] []
    | some r, .neq => outP cx d (.atom (.bool (!r))) [] []
    | _, _ => .fail
   | _, _ => .fail
  | _, _ => .fail
def evUn : UnOp → Value → Option Value
 | .not, .bool b => some (.bool !b)
 | .neg, .int k n => some (.int k (k.wrap (0 - n)))
 | _, _ => none
def opUn (cx : Cx) (d : Option Nat) (op : UnOp) (x : Operand) : RP Eff :=
 valP x fun a _ => match a with
  | .atom v => match evUn op v with
   | some r => outP cx d (.atom r) [] []
   | none => .fail
  | _ => .fail
def yi9 (cx : Cx) (d : Option Nat) (e : TypeId) : RP Eff :=
 match tyF cx.T e with
 | some i => outP cx d (.box (i.zero.map AV.atom)) [] []
 | none => .fail
def ywt (cx : Cx) (d : Option Nat) (x : Operand) : RP Eff :=
 valP x fun a _ => match a with
  | .agg cs => if cs.all zqt then outP cx d (.box cs) [] [] else .fail
  | y => if zqt y then outP cx d (.box [y]) [] [] else .fail
def grab {α : Type} (x : Operand) (k : AV → List (Nat × AV) → List (Nat × Bool) → RP α) : RP α :=
 valP x fun y s => match y, s with
  | .sl .own e cap xs, some s => .el (share (.sl .own e cap xs)) fun q => k q [(s, q)] []
  | .al r p rng, _ => .read r fun xr => match xr with
   | some xr => getP xr p fun z => match z with
     | .sl .own .. => .el (share z) fun sz => match ybw sz rng with
      | some q => setP xr p sz fun x2 => k q [(r, x2)] (if p.isEmpty then [] else [(r, true)])
      | none => .fail
     | .sl .fresh .. | .sl .any .. => if p = [] then match ybw z rng with
      | some q => k q [] []
      | none => .fail
      else .fail
     | _ => .fail
   | none => .fail
  | .agg cs, _ => if cs.all zqt then k (.agg cs) [] [] else .fail
  | y, _ => if zqt y then k y [] [] else .fail
def yn0 {α : Type} : List Operand → (List AV → List (Nat × AV) → List (Nat × Bool) → RP α) → RP α
 | [], k => k [] [] []
 | x :: xs, k => grab x fun y ws kl => yn0 xs fun ys ws' kl' =>
  if ws.isEmpty then k (y :: ys) ws' kl' else if ws'.isEmpty then k (y :: ys) ws kl else .fail
def yob (place : Nat → Option (Nat × Nat)) : List AV → List (Nat × AV) → Option (List AV)
 | cells, [] => some cells
 | cells, (i, y) :: rest => match place i with
  | some (off, size) => if y.ecells.length = size ∧ off + size ≤ cells.length then yob place (cells.take off ++ y.ecells ++ cells.drop (off + size)) rest else none
  | none => none
def yi6 (cx : Cx) (d : Option Nat) (t : TypeId) (parts : List (Nat × Operand)) : RP Eff :=
 match tyF cx.T t with
 | some i => match i.kind with
  | .struct fs => yn0 (parts.map (·.2)) fun ys ws kl => match yob (fun k => fs[k]?) (i.zero.map AV.atom) ((parts.map (·.1)).zip ys) with
   | some cs => outP cx d (.agg cs) ws kl
   | none => .fail
  | .array _ e => match tyF cx.T e with
   | some j => yn0 (parts.map (·.2)) fun ys ws kl => match yob (fun k => some (k * j.zero.length, j.zero.length)) (i.zero.map AV.atom) ((parts.map (·.1)).zip ys) with
    | some cs => outP cx d (.agg cs) ws kl
    | none => .fail
   | none => .fail
  | _ => .fail
 | none => .fail
def yce (cx : Cx) (d : Option Nat) (t : TypeId) (len : Nat) (parts : List (Nat × Operand)) : RP Eff :=
 match tyF cx.T t with
 | some i => match i.kind with
  | .slice e => match tyF cx.T e with
   | some j => if parts.map (·.1) = List.range len ∧ len * j.zero.length ≤ 16777216 ∧ 0 < j.zero.length then
     yn0 (parts.map (·.2)) fun ys ws kl => if ys.all fun y => y.ecells.length = j.zero.length then outP cx d (.sl .own e (some len) ys) ws kl else .fail
    else .fail
   | none => .fail
  | _ => .fail
 | none => .fail
def loadAt (cx : Cx) (d : Option Nat) (agg : Bool) (r : Nat) (p : Path) (i c : Nat) (ms : List AV) : RP Eff :=
 if agg then
  if ms.all zqt then outP cx d (.agg ms) [] [] else .fail
 else match ms with
  | [m] => match m with
   | .sl .own .. => outP cx d (.al r (p ++ [(i, c)]) none) [] []
   | m => if zqt m then outP cx d m [] [] else .fail
  | _ => .fail
def ym2 (cx : Cx) (d : Option Nat) (t : TypeId) (x : Operand) : RP Eff :=
 match tyF cx.T t with
 | some ti =>
  if 0 < ti.zero.length then
   valP x fun a s => match a, s with
    | .adr r p i c, _ => ymw r p fun y => segP y i c ti.zero.length fun ms => loadAt cx d ti.agg r p i c ms
    | .box cs, some r =>
     if ti.agg = true ∧ cs.length = ti.zero.length ∧ cs.all zqt = false ∧ cs.all (fun m => zqt m || yab m) = true then (if cx.dr = true then outP cx d (.cp r) [] [] else outP cx d (.agg (cs.map share)) [(r, .box (cs.map share))] [(r, true)])
     else match seg (.box cs) 0 0 ti.zero.length with
     | some ms => loadAt cx d ti.agg r [] 0 0 ms
     | none => .fail
    | .vadr cs c, _ => if c + ti.zero.length ≤ cs.length then
      (if ((cs.drop c).take ti.zero.length).all zqt then
       (if ti.agg then outP cx d (.agg ((cs.drop c).take ti.zero.length)) [] []
       else match (cs.drop c).take ti.zero.length with
        | [m] => outP cx d m [] []
        | _ => .fail)
      else .fail)
     else .fail
    | _, _ => .fail
  else .fail
 | none => .fail
def yd2 : AV → Bool
 | .atom _ => true
 | .sl .own .. => false
 | .sl .. => true
 | _ => false
def yzm {α : Type} (dr : Bool) (x : AV) (k : Bool → RP α) : RP α :=
 if dr = true then match x with
  | .box cs => .br (cs.all yd2) (k true) (k false)
  | .sl .own _ _ xs => .br ((flat xs).all yd2) (k true) (k false)
  | _ => k false
 else k false
def storeAt (dr : Bool) (r : Nat) (p : Path) (i c n : Nat) (xr : AV) (ms : List AV) (ws : List (Nat × AV)) (kl : List (Nat × Bool)) : RP Eff :=
 getP xr p fun y => if yab y ∧ ms.length = n then segP y i c n fun _ => setP xr p (putSeg y i c ms) fun q => .el q fun x => yzm dr x fun b => .ret ⟨(r, x) :: ws, if b = true then kl else (r, true) :: kl⟩
  else .fail
def AV.mOwn : AV → Bool
 | .sl .own .. => true
 | _ => false
def ygq (dr : Bool) (t : TInfo) (r : Nat) (p : Path) (i c : Nat) (xr : AV) (x : Operand) : RP Eff :=
 valP x fun y s => match y, s with
  | .sl .own e cap xs, some s => if s = r then .fail else storeAt dr r p i c t.zero.length xr [.sl .own e cap xs] [(s, .bad)] []
  | .al r' p' rng, _ => if r' = r then .fail
   else .read r' fun xr' => match xr' with
    | some xr' => getP xr' p' fun z => match z with
     | .sl .own e cap xs => match ybw (share (.sl .own e cap xs)) rng with
      | some q => setP xr' p' (share (.sl .own e cap xs)) fun x2 => storeAt dr r p i c t.zero.length xr [q] [(r', x2)] (if p'.isEmpty then [] else [(r', true)])
      | none => .fail
     | .sl .fresh e cap xs => if p' ≠ [] then .fail else match ybw (.sl .fresh e cap xs) rng with
      | some q => storeAt dr r p i c t.zero.length xr [q] [] []
      | none => .fail
     | _ => .fail
    | none => .fail
  | .agg cs, s => if cs.all zqt then storeAt dr r p i c t.zero.length xr cs [] [] else match s with
   | some s => if s = r then .fail else if cs.all (fun m => zqt m || m.mOwn) then storeAt dr r p i c t.zero.length xr cs [(s, .bad)] [] else .fail
   | none => .fail
  | y, _ => if zqt y then storeAt dr r p i c t.zero.length xr [y] [] [] else .fail
def yi1 (cx : Cx) (d : Option Nat) (t : TypeId) (a x : Operand) : RP Eff :=
 match tyF cx.T t, d with
 | some ti, none =>
  if 0 < ti.zero.length then
   valP a fun b s => match b, s with
    | .adr r p i c, _ => .read r fun xr => match xr with
     | some xr => ygq cx.dr ti r p i c xr x
     | none => .fail
    | .box cs, some r => ygq cx.dr ti r [] 0 0 (.box cs) x
    | _, _ => .fail
  else .fail
 | _, _ => .fail
def subP {α : Type} (z : AV) (rng : Option (Nat × Nat × Option Nat)) (k : AV → RP α) : RP α :=
 match z, rng with
 | .sl m e cap xs, none => k (.sl m e cap xs)
 | .sl m e cap xs, some (lo, n, c) => gd (lo + n ≤ xs.length) (k (.sl m e (yau lo cap c) ((xs.drop lo).take n)))
 | _, _ => .fail
def yed {α : Type} (y : AV) (k : AV → RP α) : RP α :=
 match y with
 | .al r p rng => .read r fun xr => match xr with
  | some xr => getP xr p fun z => if p = [] ∨ z.mOwn = true then subP z rng k else .fail
  | none => .fail
 | .sl m e cap xs => k (.sl m e cap xs)
 | .atom (.slice none 0 0) => k (.sl .any 0 (some 0) [])
 | _ => .fail
def ym6 (cx : Cx) (d : Option Nat) (src dst : TypeId) (x : Operand) : RP Eff :=
 match tyF cx.T src, tyF cx.T dst with
 | some i, some j => match j.kind with
  | .int k => valP x fun a _ => match a with
   | .atom (.int _ n) => outP cx d (.atom (.int k (k.wrap n))) [] []
   | _ => .fail
  | .str => match i.kind with
   | .slice e => if (match tyF cx.T e with | some ie => decide (ie.kind = .int .u8) | none => false) = true then
     valP x fun y _ => yed y fun z => match z with
      | .sl _ _ _ xs => match yfi xs with
       | some ns => outP cx d (.atom (.string (yb9 ns))) [] []
       | none => .fail
      | _ => .fail
    else .fail
   | _ => .fail
  | _ => .fail
 | _, _ => .fail
def elTy (cx : Cx) : TK → Bool
 | .slice e => (tyF cx.T e).isSome
 | _ => true
def yc2 (cx : Cx) (d : Option Nat) (t : TypeId) (x ix : Operand) : RP Eff :=
 match tyF cx.T t with
 | some ti => if elTy cx ti.kind then valP ix fun n _ => match n with
  | .atom (.int _ n) => valP x fun y s => match ti.kind, y, s with
   | .slice e, .sl .own e' _ xs, some s => gd (0 ≤ n ∧ n < xs.length) (if e' = e then outP cx d (.adr s [] n.toNat 0) [] [] else .fail)
   | .slice e, .al r p rng, _ => .read r fun xr => match xr with
    | some xr => getP xr p fun z => match z with
     | .sl .own e' _ xs => if e' = e then match rng with
      | none => gd (0 ≤ n ∧ n < xs.length) (outP cx d (.adr r p n.toNat 0) [] [])
      | some (lo, m, _) => gd (0 ≤ n ∧ n < m ∧ lo + m ≤ xs.length) (outP cx d (.adr r p (lo + n.toNat) 0) [] [])
      else .fail
     | _ => .fail
    | none => .fail
   | .slice e, .sl .fresh e' _ xs, _ | .slice e, .sl .any e' _ xs, _ => gd (0 ≤ n ∧ n < xs.length) (if e' = e then .el (xs.getD n.toNat .bad) fun el => outP cx d (.vadr el.ecells 0) [] [] else .fail)
   | .array m e, .box _, some s => match tyF cx.T e with
    | some j => gd (0 ≤ n ∧ n < m ∧ 0 < j.zero.length) (outP cx d (.adr s [] 0 (n.toNat * j.zero.length)) [] [])
    | none => .fail
   | .array m e, .adr r p i c, _ => match tyF cx.T e with
    | some j => ymw r p fun _ => gd (0 ≤ n ∧ n < m ∧ 0 < j.zero.length) (outP cx d (.adr r p i (c + n.toNat * j.zero.length)) [] [])
    | none => .fail
   | .array m e, .vadr cs c, _ => match tyF cx.T e with
    | some j => gd (0 ≤ n ∧ n < m ∧ 0 < j.zero.length ∧ c + n.toNat * j.zero.length ≤ cs.length) (outP cx d (.vadr cs (c + n.toNat * j.zero.length)) [] [])
    | none => .fail
   | _, _, _ => .fail
  | _ => .fail
  else .fail
 | none => .fail
def yc3 (cx : Cx) (d : Option Nat) (t : TypeId) (x : Operand) (f : Nat) : RP Eff :=
 match tyF cx.T t with
 | some ti => match ti.kind with
  | .struct fs => match fs[f]? with
   | some (off, size) => if 0 < size then
     valP x fun y s => match y, s with
      | .box _, some s => outP cx d (.adr s [] 0 off) [] []
      | .adr r p i c, _ => ymw r p fun _ => outP cx d (.adr r p i (c + off)) [] []
      | .vadr cs c, _ => if c + off ≤ cs.length then outP cx d (.vadr cs (c + off)) [] [] else .fail
      | _, _ => .fail
    else .fail
   | none => .fail
  | _ => .fail
 | none => .fail
def ya6 (j : TInfo) : AV := if j.agg then .agg (j.zero.map AV.atom) else (j.zero.map AV.atom).headD .bad
def yc1 (cx : Cx) (d : Option Nat) (t : TypeId) (l c : Operand) : RP Eff :=
 match tyF cx.T t with
 | some ti => match ti.kind with
  | .slice e => match tyF cx.T e with
   | some j => valP l fun a _ => valP c fun b _ => match a, b with
    | .atom (.int _ n), .atom (.int _ k) =>
     gd (0 ≤ n ∧ n ≤ k ∧ k ≤ 4294967296 ∧ j.bytes ≤ 4096 ∧ 0 < j.zero.length)
      (outP cx d (.sl .own e (some k.toNat) (List.replicate n.toNat (ya6 j))) [] [])
    | _, _ => .fail
   | none => .fail
  | _ => .fail
 | none => .fail
def yip {α : Type} (x : Option Operand) (dflt : Nat) (k : Nat → RP α) : RP α :=
 match x with
 | none => k dflt
 | some x => valP x fun a _ => match a with
  | .atom (.int _ n) => gd (0 ≤ n) (k n.toNat)
  | _ => .fail
def maxP {α : Type} (hi mx : Option Operand) (cap : Option Nat) (h : Nat) (k : Option Nat → RP α) : RP α :=
 match mx with
 | none => k none
 | some mx => if hi.isSome then yip (some mx) 0 fun c => match cap with
   | some cap => gd (h ≤ c ∧ c ≤ cap) (k (some c))
   | none => .fail
  else .fail
def yi3 (cx : Cx) (d : Option Nat) (t : TypeId) (x : Operand) (lo hi mx : Option Operand) : RP Eff :=
 match tyF cx.T t with
 | some ti => match ti.kind with
  | .slice et => if (tyF cx.T et).isSome then valP x fun y s => yed y fun z => match z with
   | .sl m e cap xs => if e = et ∨ yyy y = true then
     yip lo 0 fun l => yip hi xs.length fun h => maxP hi mx cap h fun mc =>
     gd (l ≤ h ∧ h ≤ xs.length) <|
      match y, s with
      | .sl .own .., some s => outP cx d (.al s [] (some (l, h - l, mc.map (· - l)))) [] []
      | .al r p none, _ => outP cx d (.al r p (some (l, h - l, mc.map (· - l)))) [] []
      | .al r p (some (lo', _, k')), _ => outP cx d (.al r p (some (lo' + l, h - l, yau l k' (mc.map (· - l))))) [] []
      | .sl .fresh .., _ | .sl .any .., _ => outP cx d (.sl m e (yau l cap (mc.map (· - l))) ((xs.drop l).take (h - l))) [] []
      | .atom _, _ => outP cx d (.atom (.slice none 0 0)) [] []
      | _, _ => .fail
    else .fail
   | _ => .fail
   else .fail
  | _ => .fail
 | none => .fail
def ys7 (cx : Cx) (d : Option Nat) (t : TypeId) (x : Operand) : RP Eff :=
 match tyF cx.T t with
 | some ti => match ti.kind with
  | .str => valP x fun y _ => match y with
   | .atom (.string s) => outP cx d (.atom (.int .i64 s.size)) [] []
   | _ => .fail
  | .slice _ => valP x fun y _ => yed y fun z => match z with
   | .sl _ _ _ xs => outP cx d (.atom (.int .i64 xs.length)) [] []
   | _ => .fail
  | _ => .fail
 | none => .fail
def ys8 (cx : Cx) (d : Option Nat) (t : TypeId) (x : Operand) : RP Eff :=
 match tyF cx.T t with
 | some ti => match ti.kind with
  | .slice _ => valP x fun y _ => yed y fun z => match z with
   | .sl _ _ (some c) _ => outP cx d (.atom (.int .i64 c)) [] []
   | _ => .fail
  | _ => .fail
 | none => .fail
def yeq (cx : Cx) (d : Option Nat) (e : TypeId) (y : AV) (s : Option Nat) (ys : List AV) : RP Eff :=
 let res (cap : Option Nat) (xs : List AV) : AV := .sl .own e (match cap with | some c => if xs.length + ys.length ≤ c then some c else none | none => none) (xs ++ ys)
 match y, s with
 | .atom (.slice none 0 0), _ => gd (ys.length ≤ 4294967296) (outP cx d (res (some 0) []) [] [])
 | .sl .own e' cap xs, some s =>
  gd (e' = e ∧ xs.length + ys.length ≤ 4294967296 ∧ d ≠ some s) (outP cx d (res cap xs) [(s, .bad)] [])
 | .al r p rng, _ => .read r fun xr => match xr with
  | some xr => getP xr p fun z => match z with
   | .sl .own e' cap xs =>
    if e' = e ∧ d ≠ some r then match rng with
     | none => setP xr p .bad fun x2 => gd (xs.length + ys.length ≤ 4294967296) (outP cx d (res cap xs) [(r, x2)] (if p.isEmpty then [] else [(r, true)]))
     | some (0, n, k) => setP xr p .bad fun x2 => gd (n + ys.length ≤ 4294967296 ∧ n ≤ xs.length ∧ (k = none ∨ k = cap)) (outP cx d (res cap (xs.take n)) [(r, x2)] (if p.isEmpty then [] else [(r, true)]))
     | _ => .fail
    else .fail
   | .sl .fresh e' (some c) xs => match ybw (.sl .fresh e' (some c) xs) rng with
    | some (.sl _ _ (some c) xs) => if p = [] then gd (e' = e ∧ c < xs.length + ys.length ∧ xs.length + ys.length ≤ 4294967296) (outP cx d (.sl .own e none (xs ++ ys)) [] []) else .fail
    | _ => .fail
   | _ => .fail
  | none => .fail
 | .sl .fresh e' (some c) xs, _ | .sl .any e' (some c) xs, _ => gd (e' = e ∧ c < xs.length + ys.length ∧ xs.length + ys.length ≤ 4294967296) (outP cx d (.sl .own e none (xs ++ ys)) [] [])
 | _, _ => .fail
def yg2 (cx : Cx) (d : Option Nat) (t u : TypeId) (x y : Operand) : RP Eff :=
 match tyF cx.T t with
 | some ti => match ti.kind with
  | .slice e => match tyF cx.T e with
   | some j => if j.bytes ≤ 4096 ∧ 0 < j.zero.length then
     valP y fun b _ => match b with
      | .atom (.int _ n) => if (match tyF cx.T u with | some iu => (match iu.kind with | .int _ => true | _ => false) | none => false) = true then gd (0 ≤ n ∧ n ≤ 4294967296) (valP x fun a s => yeq cx d e a s (List.replicate n.toNat (ya6 j))) else .fail
      | b => yed b fun z => match z with
       | .sl _ _ _ ys => gd (u = t ∧ (ys.all fun y => y.ecells.all zqt) ∧ (ys.all fun y => y.ecells.length = j.zero.length)) (valP x fun a s => yeq cx d e a s ys)
       | _ => .fail
    else .fail
   | none => .fail
  | _ => .fail
 | none => .fail
def ownP {α : Type} (a : AV) (s : Option Nat) (k : Nat → TypeId → Option Nat → List AV → RP α) : RP α :=
 match a, s with
 | .al r [] none, _ => .read r fun xr => match xr with
  | some (.sl .own e cap xs) => k r e cap xs
  | _ => .fail
 | .sl .own e cap xs, some r => k r e cap xs
 | _, _ => .fail
def ym4 (cx : Cx) (d : Option Nat) (t : TypeId) (x y : Operand) : RP Eff :=
 match tyF cx.T t with
 | some ti => match ti.kind with
  | .slice e => match tyF cx.T e with
   | some j => if 0 < j.zero.length then valP y fun b _ => yed b fun z => match z with
     | .sl _ _ _ ys => gd ((ys.all fun y => y.ecells.all zqt) ∧ (ys.all fun y => y.ecells.length = j.zero.length))
       (valP x fun a s => ownP a s fun r e' cap xs => gd (e' = e ∧ (xs.all fun x => x.ecells.all zqt))
        (.el (.sl .own e cap (ys.take xs.length ++ xs.drop ys.length)) fun x => outP cx d (.atom (.int .i64 (min ys.length xs.length : Nat))) [(r, x)] [(r, true)]))
     | _ => .fail
    else .fail
   | none => .fail
  | _ => .fail
 | none => .fail
def opMM (cx : Cx) (d : Option Nat) (mx : Bool) (x y : Operand) : RP Eff :=
 valP x fun a _ => valP y fun b _ => match a, b with
  | .atom (.int k m), .atom (.int _ n) => outP cx d (.atom (.int k (if mx = true then (if m < n then n else m) else (if n < m then n else m)))) [] []
  | _, _ => .fail
def yi4 (cx : Cx) (d : Option Nat) (t : TypeId) (x ix : Operand) : RP Eff :=
 match tyF cx.T t with
 | some ti => match ti.kind with
  | .array len e => match tyF cx.T e with
   | some j => if 0 < j.zero.length then valP x fun a _ => match a with
     | .agg cs => if cs.all zqt = true then valP ix fun b _ => match b with
       | .atom (.int _ n) => gd (0 ≤ n ∧ n < len ∧ cs.length = len * j.zero.length)
         (if j.agg = true then .el (.agg ((cs.drop (n.toNat * j.zero.length)).take j.zero.length)) fun x => outP cx d x [] [] else .el (cs.getD (n.toNat * j.zero.length) .bad) fun x => outP cx d x [] [])
       | _ => .fail
      else .fail
     | _ => .fail
    else .fail
   | none => .fail
  | _ => .fail
 | none => .fail
def yi5 (cx : Cx) (d : Option Nat) (f : FuncId) (x : Operand) : RP Eff :=
 valP x fun a s => ownP a s fun r e cap xs => match cx.KM f (.sl .own e cap xs) with
  | some (.sl .own e' cap' ys) => if e' = e ∧ cap' = cap then outP cx d (.tup []) [(r, .sl .own e cap ys)] [(r, true)] else .fail
  | _ => .fail
def ys6 (cx : Cx) (d : Option Nat) (x : Operand) : RP Eff :=
 valP x fun y _ => match y with
  | .adr r p i c => ymw r p fun _ => outP cx d (.adr r p i c) [] []
  | _ => .fail
def yh2 (cx : Cx) (d : Option Nat) (x : Operand) (ix : Nat) : RP Eff :=
 valP x fun y s => match y, s with
  | .tup cs, some s => match cs[ix]? with
   | some (.sl .own ..) => outP cx d (.al s [(0, ix)] none) [] []
   | some (.agg ms) => if ms.all zqt then outP cx d (.agg ms) [] [] else .fail
   | some m => if zqt m then outP cx d m [] [] else .fail
   | none => .fail
  | _, _ => .fail
def argP {α : Type} (x : Operand) (k : AV → Bool → RP α) : RP α :=
 valP x fun y _ => match y with
  | .atom v => k (.atom v) false
  | .agg cs => if cs.all zqt then k (view (.agg cs)) false else .fail
  | .sl .own e cap xs => .el (view (.sl .own e cap xs)) fun z => k z true
  | .sl m e cap xs => .el (view (.sl m e cap xs)) fun z => k z false
  | .fn f cs => .el (view (.fn f cs)) fun z => k z false
  | .cp r => .read r fun xr => match xr with
   | some (.box cs) => if cs.any yab = true ∧ cs.all (fun m => zqt m || yab m) = true then .el (view (.agg cs)) fun z => k z true else .fail
   | _ => .fail
  | y => yed y fun z => .el (view z) fun z => k z true
def yjn {α : Type} : List Operand → (List AV → Bool → RP α) → RP α
 | [], k => k [] false
 | x :: xs, k => argP x fun y b => yjn xs fun ys b' => k (y :: ys) (b || b')
def yag : Nat → AV → Bool
 | 0, _ => false
 | _ + 1, .atom _ => true
 | k + 1, .agg cs => cs.all (yag k)
 | k + 1, .tup cs => cs.all (yag k)
 | k + 1, .sl m _ _ xs => (match m with | .any => false | _ => true) && xs.all (yag k)
 | _ + 1, _ => false
def yln (x : AV) : AV := x
def fnOf : AV → Option FuncId
 | .atom (.func (.func f) pre caps) => if pre.size = 0 ∧ caps.size = 0 then some f else none
 | _ => none
theorem yn6 {y : AV} {f : FuncId} (h : fnOf y = some f) : y = .atom (.func (.func f) #[] #[]) := by
 unfold fnOf at h
 split at h
 ·split at h
  ·rename_i hc
   injection h with h; subst h
   rw [Array.eq_empty_of_size_eq_zero hc.1, Array.eq_empty_of_size_eq_zero hc.2]
  ·cases h
 ·cases h
def yez (cx : Cx) (d : Option Nat) (f : FuncId) (args : List Operand) : RP Eff :=
 yjn args fun ys b => match cx.K f ys with
  | some r => gd (b = true → yag 12 r = true) (outP cx d (yln r) [] [])
  | none => .fail
def yuw {α : Type} : List Operand → (List AV → RP α) → RP α
 | [], k => k []
 | x :: xs, k => valP x fun y _ => match y with
  | .vadr cs c => yuw xs fun ys => k (.vadr cs c :: ys)
  | _ => .fail
def ydv (cx : Cx) (d : Option Nat) (g : Fn) (first caps : List Operand) : RP Eff :=
 match g, first with
 | .func f, [] => yuw caps fun cs => outP cx d (.fn f cs) [] []
 | _, _ => .fail
def ygz (cx : Cx) (d : Option Nat) (t : TypeId) (x : Operand) : RP Eff :=
 match tyF cx.T t with
 | some ti => match ti.kind with
  | .array n e => match tyF cx.T e with
   | some j => if j.zero.length = 1 ∧ n ≤ 4294967296 then valP x fun y _ => match y with
     | .vadr cs c => gd (cs.all zqt = true ∧ c + n ≤ cs.length) (.el (.sl .any e (some n) ((cs.drop c).take n)) fun x => outP cx d x [] [])
     | _ => .fail
    else .fail
   | none => .fail
  | _ => .fail
 | none => .fail
def isArr (cx : Cx) (t : TypeId) : Bool :=
 match tyF cx.T t with
 | some ti => match ti.kind with
  | .array _ _ => true
  | _ => false
 | none => false
def opP (cx : Cx) (o : Oper) : RP Eff :=
 match o.op with
 | .move x => ym0 cx o.dst x
 | .assign x => yj6 cx o.dst x
 | .pick c a b => yrk cx o.dst c a b
 | .alloc e => yi9 cx o.dst e
 | .box _ x => ywt cx o.dst x
 | .build t ps => yi6 cx o.dst t ps.toList
 | .buildSlice t n ps => yce cx o.dst t n ps.toList
 | .load t x => ym2 cx o.dst t x
 | .store t a x => yi1 cx o.dst t a x
 | .binOp op t x y _ => ywu cx o.dst op t x y
 | .unOp op _ x => opUn cx o.dst op x
 | .convert s t x => ym6 cx o.dst s t x
 | .makeSlice t l c => yc1 cx o.dst t l c
 | .slice t x lo hi mx => if isArr cx t = true then (match lo, hi, mx with | none, none, none => ygz cx o.dst t x | _, _, _ => .fail) else yi3 cx o.dst t x lo hi mx
 | .fieldAddr t x f => yc3 cx o.dst t x f
 | .indexAddr t x ix => yc2 cx o.dst t x ix
 | .extract x ix => yh2 cx o.dst x ix
 | .nilCheck x => ys6 cx o.dst x
 | .index t x ix => yi4 cx o.dst t x ix
 | .makeFunc g first caps => ydv cx o.dst g first.toList caps.toList
 | .call c => match c.callee with
  | .builtin .len => match c.args.toList, c.argTypes.toList with
   | [x], [t] => ys7 cx o.dst t x
   | _, _ => .fail
  | .builtin .cap => match c.args.toList, c.argTypes.toList with
   | [x], [t] => ys8 cx o.dst t x
   | _, _ => .fail
  | .builtin .append => match c.args.toList, c.argTypes.toList with
   | [x, y], [t, u] => yg2 cx o.dst t u x y
   | _, _ => .fail
  | .builtin .copy => match c.args.toList, c.argTypes.toList with
   | [x, y], [t, _] => ym4 cx o.dst t x y
   | _, _ => .fail
  | .builtin .max => match c.args.toList, c.argTypes.toList with
   | [x, y], [_, _] => opMM cx o.dst true x y
   | _, _ => .fail
  | .builtin .min => match c.args.toList, c.argTypes.toList with
   | [x, y], [_, _] => opMM cx o.dst false x y
   | _, _ => .fail
  | .value (.func f) => match cx.KM f .bad, c.args.toList with
   | some _, [x] => yi5 cx o.dst f x
   | some _, _ => .fail
   | none, args => yez cx o.dst f args
  | .value (.tmp g) => .read g fun y => match y.bind fnOf with
   | some f => (match cx.KM f .bad with
    | some _ => .fail
    | none => yez cx o.dst f c.args.toList)
   | none => .fail
  | _ => .fail
 | _ => .fail
end Go.Lf
end

section
namespace Go.Lf
open Go Go.RowKit
inductive Wk where
 | keep
 | forget
 | nilTo (e : TypeId)
def weaken : Wk → AV → AV
 | .keep, x => x
 | .forget, .sl m e _ xs => .sl m e none xs
 | .nilTo e, .atom (.slice none 0 0) => .sl .own e none []
 | .nilTo _, .sl m e _ xs => .sl m e none xs
 | _, x => x
structure Hints where
 live : Nat → List Nat
 loop : Nat → List (Nat × Wk)
def keepE (ks : List (Nat × Wk)) (env : Env) : Env :=
 ks.filterMap fun k => (lk env k.1).map fun x => (k.1, match zqf x with
  | some r => if ks.any fun q => q.1 == r then x else .bad
  | none => weaken k.2 x)
structure Log where
 reads : List Nat
 writes : List Nat
 cw : List Nat
 all : Bool
def yfy : AV → AV → Bool
 | .sl .own _ _ _, .sl .own _ _ _ => true
 | .box _, .box _ => true
 | _, _ => false
def yda (env : Env) (q : Nat × AV) : Bool := match lk env q.1 with
 | some x => yfy x q.2
 | none => false
def yaw (env : Env) (l : List Nat) (e : Eff) : Log := ⟨l, (e.ws.filter fun q => !yda env q).map (·.1), (e.ws.filter (yda env)).map (·.1), !e.kl.isEmpty⟩
def yme (cx : Cx) (o : Oper) : RP Eff := match o.dst with
 | some _ => outP cx o.dst (.atom undef) [] []
 | none => .ret ⟨[], []⟩
def ybk (cx : Cx) (ops : Array Oper) (o : Oper) : RP Eff :=
 match o.guard with
 | none => opP cx o
 | some (j, want) => match (ops[j]?).bind (·.dst) with
  | some g => .read g fun x => match x with
   | some (.atom (.bool b)) => .br (bif want then b else !b) (opP cx o) (yme cx o)
   | some (.atom (.tuple _)) => yme cx o
   | _ => .fail
  | none => .fail
def ydq (cx : Cx) (ops : Array Oper) : List Oper → Env → Option (List Log × Env)
 | [], env => some ([], env)
 | o :: l, env => match (ybk cx ops o).run env with
  | some (rs, e) => match ydq cx ops l (zqi e env) with
   | some (ls, env') => some (yaw env rs e :: ls, env')
   | none => none
  | none => none
def ybc (ops : List Oper) : List (List Nat) :=
 ops.foldl (fun acc o => acc ++ [o.after.toList.foldl (fun l e => match e.ground with
  | .textOnly _ => l
  | .gcOnly _ => l
  | _ => e.on :: (acc.getD e.on [] ++ l)) []]) []
def yin (a b : Log) : Bool :=
 a.all || b.all || a.writes.any (fun t => b.reads.contains (2 * t) || b.reads.contains (2 * t + 1) || b.writes.contains t || b.cw.contains t) || a.cw.any (fun t => b.reads.contains (2 * t) || b.writes.contains t || b.cw.contains t) ||
  b.writes.any (fun t => a.reads.contains (2 * t) || a.reads.contains (2 * t + 1)) || b.cw.any fun t => a.reads.contains (2 * t)
def yhh (bs : List (List Nat)) (ls : List Log) : Bool :=
 (List.range ls.length).all fun i => (List.range i).all fun j => (bs.getD i []).contains j || !yin (ls.getD i ⟨[], [], [], true⟩) (ls.getD j ⟨[], [], [], true⟩)
def ycq (ops : List Oper) : List Nat :=
 ops.foldl (fun acc o => acc ++ [o.after.toList.foldl (fun m e => match e.ground with
  | .textOnly _ => m
  | .gcOnly _ => m
  | _ => (1 <<< e.on) ||| (acc.getD e.on 0 ||| m)) 0]) []
def ycr (bs : List Nat) (ls : List Log) : Bool :=
 (List.range ls.length).all fun i => (List.range i).all fun j => (bs.getD i 0).testBit j || !yin (ls.getD i ⟨[], [], [], true⟩) (ls.getD j ⟨[], [], [], true⟩)
theorem yec : ∀ (ops : List Oper) (acc : List (List Nat)) (accB : List Nat), acc.length = accB.length → (∀ i j, (accB.getD i 0).testBit j = (acc.getD i []).contains j) →
  (∀ i j, ((ops.foldl (fun acc o => acc ++ [o.after.toList.foldl (fun m e => match e.ground with
  | .textOnly _ => m
  | .gcOnly _ => m
  | _ => (1 <<< e.on) ||| (acc.getD e.on 0 ||| m)) 0]) accB).getD i 0).testBit j = ((ops.foldl (fun acc o => acc ++ [o.after.toList.foldl (fun l e => match e.ground with
  | .textOnly _ => l
  | .gcOnly _ => l
  | _ => e.on :: (acc.getD e.on [] ++ l)) []]) acc).getD i []).contains j)
 | [], acc, accB, hl, h, i, j => h i j
 | o :: ops, acc, accB, hl, h, i, j => by
  simp only [List.foldl_cons]
  refine yec ops _ _ (by simp [hl]) (fun i j => ?_) i j
  have inner : ∀ (es : List Edge) (m : Nat) (l : List Nat), (∀ j, m.testBit j = l.contains j) → ∀ j, (es.foldl (fun m e => match e.ground with
    | .textOnly _ => m
    | .gcOnly _ => m
    | _ => (1 <<< e.on) ||| (accB.getD e.on 0 ||| m)) m).testBit j = (es.foldl (fun l e => match e.ground with
    | .textOnly _ => l
    | .gcOnly _ => l
    | _ => e.on :: (acc.getD e.on [] ++ l)) l).contains j := by
   intro es
   induction es with
   | nil => intro m l hm j; exact hm j
   | cons e es ih =>
    intro m l hm j
    simp only [List.foldl_cons]
    refine ih _ _ (fun j => ?_) j
    have step : ((1 <<< e.on) ||| (accB.getD e.on 0 ||| m)).testBit j = (e.on :: (acc.getD e.on [] ++ l)).contains j := by
     rw [Nat.testBit_or, Nat.testBit_or, h, hm, Nat.testBit_shiftLeft]
     have e0 : (1 : Nat).testBit (j - e.on) = decide (j - e.on = 0) := by
      cases hq : j - e.on with
      | zero => rfl
      | succ q => simp [Nat.testBit_succ]
     rw [e0]
     simp only [List.contains_eq_mem, List.mem_cons, List.mem_append]
     by_cases hj : j = e.on
     ·subst hj; simp
     ·have : ¬ (j ≥ e.on ∧ j - e.on = 0) := by omega
      simp only [hj, false_or, Bool.decide_or]
      cases h1 : decide (j ≥ e.on) <;> cases h2 : decide (j - e.on = 0) <;> simp_all
    split <;> first | exact hm j | exact step
  have gd : ∀ {α : Type} (l : List α) (x d : α), (l ++ [x]).getD i d = if i < l.length then l.getD i d else if i = l.length then x else d := by
   intro α l x d
   rw [zld, zld, List.getElem?_append]
   by_cases hi : i < l.length
   ·rw [if_pos hi, if_pos hi]
   ·rw [if_neg hi, if_neg hi]
    by_cases he : i = l.length
    ·subst he; simp
    ·rw [if_neg he]
     have : i - l.length ≠ 0 := by omega
     cases hk : i - l.length with
     | zero => omega
     | succ k => simp
  rw [gd, gd, hl]
  split
  ·exact h i j
  ·split
   ·exact inner o.after.toList 0 [] (fun j => by simp) j
   ·simp
theorem yfl (ops : List Oper) (ls : List Log) : ycr (ycq ops) ls = yhh (ybc ops) ls := by
 have h : ∀ i j, ((ycq ops).getD i 0).testBit j = ((ybc ops).getD i []).contains j := yec ops [] [] rfl (fun i j => by simp)
 unfold ycr yhh
 simp only [h]
def yd3 (ops : List Oper) : Bool :=
 ops.zipIdx.all fun oi => oi.1.after.toList.all fun e => match e.ground with
  | .textOnly _ => true
  | .gcOnly _ => true
  | _ => decide (e.on < oi.2)
def ybm (cx : Cx) (ops : Array Oper) (draw : Bool) (env : Env) : Option Env :=
 match ydq { cx with dr := draw } ops ops.toList env with
 | some (ls, env') => if draw then (if ycr (ycq ops.toList) ls && yd3 ops.toList then some env' else none) else some env'
 | none => none
inductive Ex where
 | normal
 | exit (id : Nat)
 | ret
def ypg (r : Option (Ex × Env)) (k : Env → Option (Ex × Env)) : Option (Ex × Env) :=
 match r with
 | some (.normal, env) => k env
 | r => r
def yky (id : Nat) (r : Option (Ex × Env)) : Option (Ex × Env) :=
 match r with
 | some (.exit id', env) => if id' = id then some (.normal, env) else some (.exit id', env)
 | r => r
def iter (nrm : Env → Env) (f : Env → Option (Ex × Env)) : Nat → Env → Option (Ex × Env)
 | 0, _ => none
 | n + 1, env => ypg (f (nrm env)) (iter nrm f n)
def ybv : Code → Nat
 | .region id _ _ => id
 | .seq a _ => ybv a
 | .block _ a => ybv a
 | .loop a => ybv a
 | .scope a => ybv a
 | _ => 0
def evC (cx : Cx) (H : Hints) (fuel : Nat) : Code → Env → Option (Ex × Env)
 | .skip, env => some (.normal, env)
 | .label _, env => some (.normal, env)
 | .region id ops draw, env => (ybm cx ops draw env).map fun env => (.normal, keepE ((H.live id).map fun t => (t, .keep)) env)
 | .seq a b, env => ypg (evC cx H fuel a env) (evC cx H fuel b)
 | .cond (.tmp t) x y, env => match lk env t with
  | some (.atom (.bool b)) => if b = true then evC cx H fuel x env else evC cx H fuel y env
  | _ => none
 | .block id c, env => yky id (evC cx H fuel c env)
 | .loop c, env => iter (keepE (H.loop (ybv c))) (evC cx H fuel c) fuel env
 | .exit id, env => some (.exit id, env)
 | .ret, env => some (.ret, env)
 | _, _ => none
def yl8 (cx : Cx) (env : Env) : ResultVar → Option (AV × Env)
 | .tmp t => match lk env t with
  | some (.al r p rng) => match lk env r with
   | some xr => match getC xr p with
    | some z => if p = [] ∨ z.mOwn = true then (match rng, z with
     | none, .sl m e cap xs => some (.sl m e cap xs, (r, .bad) :: env)
     | some (0, n, none), .sl .own e cap xs => if n ≤ xs.length then some (.sl .own e cap (xs.take n), (r, .bad) :: env) else none
     | some rng, .sl m e cap xs => match ybw (share (.sl m e cap xs)) (some rng) with
      | some q => some (q, (r, .bad) :: env)
      | none => none
     | _, _ => none) else none
    | none => none
   | none => none
  | some (.atom v) => some (.atom v, env)
  | some (.fn f cs) => some (.fn f cs, env)
  | some (.sl m e cap xs) => some (.sl m e cap xs, (t, .bad) :: env)
  | some (.agg cs) => if cs.all zqt then some (.agg cs, env) else none
  | _ => none
 | .cell t ty => match lk env t, tyF cx.T ty with
  | some (.box cs), some ti => if cs.length = ti.zero.length ∧ cs.all (fun m => zqt m || yab m) then
    (if ti.agg then some (.agg cs, (t, .bad) :: env) else match cs with
     | [m] => some (m, (t, .bad) :: env)
     | _ => none)
   else none
  | _, _ => none
def ydu (cx : Cx) : List ResultVar → Env → Option (List AV)
 | [], _ => some []
 | r :: rs, env => match yl8 cx env r with
  | some (x, env') => match ydu cx rs env' with
   | some xs => some (x :: xs)
   | none => none
  | none => none
def tupR : List AV → AV
 | [x] => x
 | xs => .tup xs
def finE (cx : Cx) (rs : List ResultVar) (r : Option (Ex × Env)) : Option AV :=
 match r with
 | some (.normal, env) => (ydu cx rs env).map tupR
 | some (.ret, env) => (ydu cx rs env).map tupR
 | _ => none
@[irreducible] def br {α : Type} (b : Bool) (x y : α) : α := if b = true then x else y
theorem yu2 {α : Type} (b : Bool) (x y : α) : br b x y = if b = true then x else y := by unfold br; rfl
def RP.runK {α β : Type} (env : Env) : RP α → (List Nat → α → Option β) → Option β
 | .ret a, k => k [] a
 | .fail, _ => none
 | .read t p, k => (p (lk env t)).runK env fun l a => k (2 * t :: l) a
 | .head t p, k => (p ((lk env t).map hdAV)).runK env fun l a => k ((2 * t + 1) :: l) a
 | .br b p q, k => Lf.br b (p.runK env k) (q.runK env k)
 | .el x p, k => (p x).runK env k
def yf9 {β : Type} (cx : Cx) (ops : Array Oper) : List Oper → Env → (List Log → Env → Option β) → Option β
 | [], env, k => k [] env
 | o :: l, env, k => (ybk cx ops o).runK env fun rs e => yf9 cx ops l (zqi e env) fun ls env' => k (yaw env rs e :: ls) env'
def ydo {β : Type} (cx : Cx) (ops : Array Oper) (draw : Bool) (env : Env) (k : Env → Option β) : Option β :=
 yf9 { cx with dr := draw } ops ops.toList env fun ls env' => if draw then (if ycr (ycq ops.toList) ls && yd3 ops.toList then k env' else none) else k env'
def yia {β : Type} (nrm : Env → Env) (f : Env → (Ex → Env → Option β) → Option β) : Nat → Env → (Ex → Env → Option β) → Option β
 | 0, _, _ => none
 | n + 1, env, k => f (nrm env) fun ex env' => match ex with
  | .normal => yia nrm f n env' k
  | ex => k ex env'
def evK {β : Type} (cx : Cx) (H : Hints) (fuel : Nat) : Code → Env → (Ex → Env → Option β) → Option β
 | .skip, env, k => k .normal env
 | .label _, env, k => k .normal env
 | .region id ops draw, env, k => ydo cx ops draw env fun env' => k .normal (keepE ((H.live id).map fun t => (t, .keep)) env')
 | .seq a b, env, k => evK cx H fuel a env fun ex env' => match ex with
  | .normal => evK cx H fuel b env' k
  | ex => k ex env'
 | .cond (.tmp t) x y, env, k => match lk env t with
  | some (.atom (.bool b)) => br b (evK cx H fuel x env k) (evK cx H fuel y env k)
  | _ => none
 | .block id c, env, k => evK cx H fuel c env fun ex env' => match ex with
  | .exit id' => if id' = id then k .normal env' else k (.exit id') env'
  | ex => k ex env'
 | .loop c, env, k => yia (keepE (H.loop (ybv c))) (evK cx H fuel c) fuel env k
 | .exit id, env, k => k (.exit id) env
 | .ret, env, k => k .ret env
 | _, _, _ => none
def yc8 (args : List AV) : Env := (List.range args.length).zip args
def yok (cx : Cx) (H : Hints) (fuel : Nat) (fn : Func) (args : List AV) : Option AV :=
 match fn.body with
 | some c => if fn.ntmps = cx.N then finE cx fn.results.toList (evC cx H fuel c (yc8 args)) else none
 | none => none
def finK (cx : Cx) (rs : List ResultVar) (ex : Ex) (env : Env) : Option AV :=
 match ex with
 | .normal => (ydu cx rs env).map tupR
 | .ret => (ydu cx rs env).map tupR
 | _ => none
def yoh (cx : Cx) (H : Hints) (fuel : Nat) (fn : Func) (args : List AV) : Option AV :=
 match fn.body with
 | some c => if fn.ntmps = cx.N then evK cx H fuel c (yc8 args) (finK cx fn.results.toList) else none
 | none => none
theorem RP.runK_eq {α β : Type} (env : Env) (p : RP α) : ∀ k : List Nat → α → Option β, p.runK env k = (p.run env).bind fun la => k la.1 la.2 := by
 induction p with
 | ret a => intro k; rfl
 | fail => intro k; rfl
 | read t p ih =>
  intro k
  show (p (lk env t)).runK env _ = _
  rw [ih]
  show _ = Option.bind (match (p (lk env t)).run env with | some (l, a) => some (2 * t :: l, a) | none => none) _
  cases (p (lk env t)).run env <;> rfl
 | head t p ih =>
  intro k
  show (p ((lk env t).map hdAV)).runK env _ = _
  rw [ih]
  show _ = Option.bind (match (p ((lk env t).map hdAV)).run env with | some (l, a) => some ((2 * t + 1) :: l, a) | none => none) _
  cases (p ((lk env t).map hdAV)).run env <;> rfl
 | br b p q ihp ihq =>
  intro k
  show Lf.br b _ _ = Option.bind (if b = true then _ else _) _
  rw [yu2, ihp, ihq]
  split <;> rfl
 | el x p ih =>
  intro k
  exact ih x k
theorem yod {β : Type} (cx : Cx) (ops : Array Oper) (l : List Oper) : ∀ (env : Env) (k : List Log → Env → Option β), yf9 cx ops l env k = (ydq cx ops l env).bind fun la => k la.1 la.2 := by
 induction l with
 | nil => intro env k; rfl
 | cons o l ih =>
  intro env k
  simp only [yf9, ydq, RP.runK_eq]
  cases (ybk cx ops o).run env with
  | none => rfl
  | some re =>
   obtain ⟨rs, e⟩ := re
   simp only [Option.bind_some, ih]
   cases ydq cx ops l (zqi e env) <;> rfl
theorem yik {β : Type} (cx : Cx) (ops : Array Oper) (draw : Bool) (env : Env) (k : Env → Option β) : ydo cx ops draw env k = (ybm cx ops draw env).bind k := by
 unfold ydo ybm
 rw [yod]
 cases ydq { cx with dr := draw } ops ops.toList env with
 | none => rfl
 | some la =>
  obtain ⟨ls, env'⟩ := la
  simp only [Option.bind_some]
  split
  ·split <;> rfl
  ·rfl
theorem yp8 {β : Type} (nrm : Env → Env) (f : Env → (Ex → Env → Option β) → Option β) (g : Env → Option (Ex × Env)) (hf : ∀ env k, f env k = (g env).bind fun xe => k xe.1 xe.2) :
  ∀ (n : Nat) (env : Env) (k : Ex → Env → Option β), yia nrm f n env k = (iter nrm g n env).bind fun xe => k xe.1 xe.2 := by
 intro n
 induction n with
 | zero => intro env k; rfl
 | succ n ih =>
  intro env k
  simp only [yia, iter, hf]
  cases g (nrm env) with
  | none => rfl
  | some xe =>
   obtain ⟨ex, e⟩ := xe
   cases ex <;> simp [ypg, ih]
theorem yr1 {β : Type} (cx : Cx) (H : Hints) (fuel : Nat) (c : Code) : ∀ (env : Env) (k : Ex → Env → Option β), evK cx H fuel c env k = (evC cx H fuel c env).bind fun xe => k xe.1 xe.2 := by
 induction c with
 | region id ops draw =>
  intro env k
  simp only [evK, evC, yik]
  cases ybm cx ops draw env <;> rfl
 | seq a b iha ihb =>
  intro env k
  simp only [evK, evC, iha]
  cases evC cx H fuel a env with
  | none => rfl
  | some xe =>
   obtain ⟨ex, e⟩ := xe
   cases ex <;> simp [ypg, ihb]
 | cond o x y ihx ihy =>
  intro env k
  cases o with
  | tmp t =>
   simp only [evK, evC]
   split
   ·rw [yu2, ihx, ihy]
    split <;> rfl
   ·rfl
  | _ => rfl
 | block id c ih =>
  intro env k
  simp only [evK, evC, ih]
  cases evC cx H fuel c env with
  | none => rfl
  | some xe =>
   obtain ⟨ex, e⟩ := xe
   cases ex with
   | exit id' => by_cases h : id' = id <;> simp [yky, h]
   | _ => simp [yky]
 | loop c ih =>
  intro env k
  simp only [evK, evC]
  exact yp8 _ _ _ ih fuel env k
 | _ => intro env k; rfl
theorem yog (cx : Cx) (H : Hints) (fuel : Nat) (fn : Func) (args : List AV) : yoh cx H fuel fn args = yok cx H fuel fn args := by
 unfold yoh yok
 split
 ·split
  ·rw [yr1]
   cases evC cx H fuel _ (yc8 args) with
   | none => rfl
   | some xe =>
    obtain ⟨ex, e⟩ := xe
    cases ex <;> rfl
  ·rfl
 ·rfl
end Go.Lf
end

section
namespace Go.Lf
open Go Go.RowKit
def zrm (d : Nat) (env : Env) : Prop := ∀ t y, lk env t = some y → zqf y ≠ some d
def topOnly (r : Nat) (env : Env) : Prop := ∀ t y, lk env t = some y → zqf y = some r → ydy y = true
def free (env : Env) (d : Nat) : Prop := ∀ y, lk env d = some y → zqu y = false
theorem ydi {kl : List (Nat × Bool)} : ∀ {env : Env} {t : Nat} {y : AV}, lk (kills kl env) t = some y → ∃ y0, lk env t = some y0 ∧ (y = y0 ∨ y = .bad) := by
 induction kl with
 | nil => intro env t y h; exact ⟨y, h, .inl rfl⟩
 | cons rk kl ih =>
  obtain ⟨r, k⟩ := rk
  intro env t y h
  obtain ⟨y1, h1, h2⟩ := ih h
  rw [ya2] at h1
  cases h0 : lk env t with
  | none => rw [h0] at h1; cases h1
  | some y0 =>
   rw [h0] at h1
   injection h1 with h1
   refine ⟨y0, rfl, ?_⟩
   unfold ybi at h1
   split at h1
   ·rcases h2 with h2 | h2
    ·exact .inr (h2.trans h1.symm)
    ·exact .inr h2
   ·rcases h2 with h2 | h2
    ·exact .inl (h2.trans h1.symm)
    ·exact .inr h2
theorem yal {kl : List (Nat × Bool)} : ∀ {env : Env} {t : Nat} {y : AV}, lk env t = some y → zqf y = none → lk (kills kl env) t = some y := by
 induction kl with
 | nil => intro env t y h _; exact h
 | cons rk kl ih =>
  obtain ⟨r, k⟩ := rk
  intro env t y h hl
  exact ih (by rw [ya2, h]; simp [ybi, hl]) hl
theorem zrm.kills {d : Nat} {env : Env} (h : zrm d env) (kl : List (Nat × Bool)) : zrm d (Lf.kills kl env) := by
 intro t y hy
 obtain ⟨y0, h0, h1⟩ := ydi hy
 rcases h1 with rfl | rfl
 ·exact h t _ h0
 ·simp [zqf]
theorem zrm.killed (d : Nat) (env : Env) : zrm d (kill d false env) := by
 intro t y hy
 rw [ya2] at hy
 cases h0 : lk env t with
 | none => rw [h0] at hy; cases hy
 | some y0 =>
  rw [h0] at hy
  injection hy with hy
  subst hy
  unfold ybi
  split
  ·simp [zqf]
  ·rename_i hn
   intro e
   exact hn ⟨e, by simp⟩
theorem zrm.of_mem {d : Nat} : ∀ {kl : List (Nat × Bool)} {env : Env}, (d, false) ∈ kl → zrm d (Lf.kills kl env)
 | rk :: kl, env, h => by
  obtain ⟨r, k⟩ := rk
  cases h with
  | head => exact (zrm.killed d env).kills kl
  | tail _ h => exact zrm.of_mem (kl := kl) (env := kill r k env) h
theorem topOnly.kills {d : Nat} {env : Env} (h : topOnly d env) (kl : List (Nat × Bool)) : topOnly d (Lf.kills kl env) := by
 intro t y hy hr
 obtain ⟨y0, h0, h1⟩ := ydi hy
 rcases h1 with rfl | rfl
 ·exact h t _ h0 hr
 ·rfl
theorem topOnly.killed (d : Nat) (env : Env) : topOnly d (kill d true env) := by
 intro t y hy hr
 rw [ya2] at hy
 cases h0 : lk env t with
 | none => rw [h0] at hy; cases hy
 | some y0 =>
  rw [h0] at hy
  injection hy with hy
  subst hy
  unfold ybi at hr ⊢
  split
  ·rfl
  ·rename_i hn
   rw [if_neg hn] at hr
   cases ht : ydy y0 with
   | true => rfl
   | false => exact absurd ⟨hr, by simp [ht]⟩ hn
theorem topOnly.of_mem {d : Nat} : ∀ {kl : List (Nat × Bool)} {env : Env}, (d, true) ∈ kl → topOnly d (Lf.kills kl env)
 | rk :: kl, env, h => by
  obtain ⟨r, k⟩ := rk
  cases h with
  | head => exact (topOnly.killed d env).kills kl
  | tail _ h => exact topOnly.of_mem (kl := kl) (env := kill r k env) h
theorem zrm.topOnly {d : Nat} {env : Env} (h : zrm d env) : topOnly d env := fun t y hy hr => absurd hr (h t y hy)
theorem zrm.cons {d t : Nat} {x : AV} {env : Env} (h : zrm d env) (hx : zqf x ≠ some d) : zrm d ((t, x) :: env) := by
 intro s y hy
 simp only [lk] at hy
 split at hy
 ·injection hy with hy; subst hy; exact hx
 ·exact h s y hy
section
variable {P : Program} {F : Frm} {B0 : Nat} {w0 w w' : World} {S S' : Nat → Prop} {n n' : Nat} {env : Env} {tmps : Array Value} {Os : Nat → Own}
theorem St.kills (h : St P F B0 w0 n env tmps w S Os) (hn : 0 < n) (kl : List (Nat × Bool)) : St P F B0 w0 n (Lf.kills kl env) tmps w S Os := by
 induction kl generalizing env with
 | nil => exact h
 | cons rk kl ih => exact ih (h.kill hn rk.1 rk.2)
theorem St.up (h : St P F B0 w0 n env tmps w S Os) (hnn : n ≤ n') : St P F B0 w0 n' env tmps w S Os :=
 ⟨h.below, h.b0, h.sLt, h.excl, h.one, h.dis, fun t x hx => by
  obtain ⟨v, hv, hs⟩ := h.rel t x hx
  refine ⟨v, hv, ?_⟩
  rcases hs with hs | hs
  ·exact .inl hs
  ·exact .inr (hs.le hnn), h.abs, h.leaf, h.keep, h.pin⟩
theorem St.noRoot_of_free (h : St P F B0 w0 n env tmps w S Os) {d : Nat} (hf : free env d) : zrm d env := by
 intro t y hy hr
 obtain ⟨z, hz, hzr⟩ := h.leaf t y d hy hr
 rw [hf z hz] at hzr; cases hzr
def Gives (P : Program) (B0 : Nat) (env : Env) (tmps : Array Value) (w w' : World) (S' : Nat → Prop) (n' : Nat) (d : Nat) (v : Value) (x : AV) (O : Own) : Prop :=
 (∃ r, zqf x = some r ∧ r ≠ d ∧ Al P env tmps w v x ∧ Zero O ∧ ∃ y, lk env r = some y ∧ zqu y = true) ∨ Rv P B0 w' S' n' v x O
theorem Gives.kills {d : Nat} {v : Value} {x : AV} {O : Own} (kl : List (Nat × Bool)) (h : Gives P B0 env tmps w w' S' n' d v x O) : Gives P B0 (Lf.kills kl env) tmps w w' S' n' d v x O := by
 rcases h with ⟨r, hr, hrd, ha, hz, y, hy, hyr⟩ | h
 ·have hyl : zqf y = none := by cases y <;> first | rfl | simp [zqu] at hyr
  have hy' := yal (kl := kl) hy hyl
  exact .inl ⟨r, hr, hrd, ha.keep hr (hy'.trans hy.symm) rfl (fun _ _ _ _ _ _ h => h), hz, y, hy', hyr⟩
 ·exact .inr h
theorem St.put (h : St P F B0 w0 n env tmps w S Os) (hnn : n ≤ n') {d : Nat} (hd : d < tmps.size ∧ F.lo ≤ d) (hr : zrm d env) {v : Value} {x : AV} {O : Own}
  (hB : Below B0 w w') (hS : ∀ b, S b → S' b) (hSl : ∀ b, S' b → b < w'.heap.size) (hSO : ∀ b t, t ≠ d → S' b → Os t b = 0) (hSd : ∀ b, S' b → O b = 0)
  (hag : ∀ b, (S b ∨ ∃ t, t ≠ d ∧ 0 < Os t b) → w'.heap[b]? = w.heap[b]?)
  (h1 : ∀ b, O b ≤ 1) (hOd : ∀ b t, t ≠ d → 0 < O b → Os t b = 0) (hx : Gives P B0 env tmps w w' S' n' d v x O) :
  St P F B0 w0 n' ((d, x) :: env) (tmps.setIfInBounds d v) w' S' (fun t => if t = d then O else Os t) :=
 h.set hnn d ⟨hd.1, .inl hd.2⟩ hB hS hSl hSO hSd hag h1 hOd hx fun t y _ _ hy hyr => absurd hyr (hr t y hy)
theorem St.put0 (h : St P F B0 w0 n env tmps w S Os) (hnn : n ≤ n') {d : Nat} (hd : d < tmps.size ∧ F.lo ≤ d) (hr : zrm d env) {v : Value} {x : AV}
  (hx : Gives P B0 env tmps w w S n' d v x (fun _ => 0)) :
  St P F B0 w0 n' ((d, x) :: env) (tmps.setIfInBounds d v) w S (fun t => if t = d then (fun _ => 0) else Os t) :=
 h.put hnn hd hr (Below.refl _ _) (fun _ h => h) h.sLt (fun b t _ hb => h.excl b t hb) (fun _ _ => rfl) (fun _ _ => rfl) (fun _ => Nat.zero_le _) (fun b t _ hb => by omega) hx
theorem ya0 {α : Type} (a : Array α) (i : Nat) (v : α) (h : a[i]? = some v) : a.setIfInBounds i v = a := by
 apply Array.ext_getElem?
 intro j
 by_cases hj : i = j
 ·subst hj
  have hlt := (zlj.1 h).1
  rw [Array.getElem?_setIfInBounds_self, if_pos hlt, h]
 ·rw [Array.getElem?_setIfInBounds_ne hj]
theorem St.turn (h : St P F B0 w0 n env tmps w S Os) (hnn : n ≤ n') {r : Nat} {v : Value} {x x' : AV} {O : Own} (hv : tmps[r]? = some v) (hxr : lk env r = some x)
  (hB : Below B0 w w') (hS : ∀ b, S b → S' b) (hSl : ∀ b, S' b → b < w'.heap.size) (hSO : ∀ b t, t ≠ r → S' b → Os t b = 0) (hSd : ∀ b, S' b → O b = 0)
  (hag : ∀ b, (S b ∨ ∃ t, t ≠ r ∧ 0 < Os t b) → w'.heap[b]? = w.heap[b]?)
  (h1 : ∀ b, O b ≤ 1) (hOd : ∀ b t, t ≠ r → 0 < O b → Os t b = 0) (hx : Rv P B0 w' S' n' v x' O) (hroot : zqu x' = true)
  (htop : topOnly r env ∨ ∀ p, p ≠ [] → ∀ y, getC x' p = some y → yab y = false)
  (hsl : ∀ m e cap xs, x' = .sl m e cap xs → ∃ m0 cap0 xs0, x = .sl m0 e cap0 xs0)
  (how : yab x' = true → yab x = true ∧ ∀ i c, fo P x' i c = fo P x i c) :
  St P F B0 w0 n' ((r, x') :: env) tmps w' S' (fun t => if t = r then O else Os t) := by
 have hd : r < tmps.size := (zlj.1 hv).1
 have key := h.set hnn r (v := v) ⟨hd, .inr hv⟩ (x := x') (O := O) hB hS hSl hSO hSd hag h1 hOd (.inr hx) ?_
 ·rwa [ya0 tmps r v hv] at key
 ·intro t y u ht hy hyr hu ha
  refine ⟨hroot, ?_⟩
  rw [ya0 tmps r v hv]
  have hp : ∀ p, (ydy y = true → p = []) → (topOnly r env ∨ ∀ p, p ≠ [] → ∀ y, getC x' p = some y → yab y = false) → p = [] ∨ ∀ y, getC x' p = some y → yab y = false := by
   intro p hpt hh
   rcases hh with hh | hh
   ·exact .inl (hpt (hh t y hy hyr))
   ·by_cases hp0 : p = []
    ·exact .inl hp0
    ·exact .inr (hh p hp0)
  cases y with
  | al r' p rng =>
   injection hyr with hyr; subst hyr
   intro xr hxr' m e cap xs hg hpm
   have : xr = x' := by simp [lk] at hxr'; exact hxr'.symm
   subst this
   rcases hp p (by simp [ydy]) htop with hp0 | hp0
   ·subst hp0
    injection hg with hg
    obtain ⟨m0, cap0, xs0, hx0⟩ := hsl m e cap xs hg
    obtain ⟨vr, u', h1, h2, h3⟩ := ha x hxr m0 e cap0 xs0 (by rw [hx0]; rfl) (.inl rfl)
    exact ⟨vr, u', h1, h2, h3⟩
   ·have hv := hp0 _ hg
    rcases hpm with hpm | hpm
    ·subst hpm
     injection hg with hg
     obtain ⟨m0, cap0, xs0, hx0⟩ := hsl m e cap xs hg
     obtain ⟨vr, u', h1, h2, h3⟩ := ha x hxr m0 e cap0 xs0 (by rw [hx0]; rfl) (.inl rfl)
     exact ⟨vr, u', h1, h2, h3⟩
    ·subst hpm; cases hv
  | adr r' p i c =>
   injection hyr with hyr; subst hyr
   intro xr hxr' z hg ho
   have : xr = x' := by simp [lk] at hxr'; exact hxr'.symm
   subst this
   rcases hp p (by simp [ydy]) htop with hp0 | hp0
   ·subst hp0
    injection hg with hg
    subst hg
    obtain ⟨ho0, hfo⟩ := how ho
    obtain ⟨vr, u', a, h1, h2, h3, h4⟩ := ha x hxr x rfl ho0
    exact ⟨vr, u', a, h1, h2, h3, by rw [hfo]; exact h4⟩
   ·have hv := hp0 _ hg; rw [ho] at hv; cases hv
  | cp r' =>
   injection hyr with hyr; subst hyr
   intro cs hxr' ⟨p, z, hpn, hg, ho⟩
   have : .box cs = x' := by simp [lk] at hxr'; exact hxr'.symm
   subst this
   exfalso
   rcases htop with hh | hh
   ·have := hh t _ hy rfl
    cases this
   ·have := hh p hpn z hg
    rw [ho] at this; cases this
  | _ => cases hyr
end
end Go.Lf
end

section
namespace Go.Lf
open Go Go.RowKit
def yyv (P : Program) : TK → TypeDesc → Prop
 | .plain, _ => True
 | .bool, d => d = .bool
 | .map k e, d => d = .map k e
 | .int k, d => d = .int k
 | .str, d => d = .string
 | .slice e, d => d = .slice e
 | .array m e, d => d = .array m e
 | .struct fs, d => ∃ f : Array Field, d = .struct f ∧ f.toList.map (fun x => (x.offset, P.cellsOf x.type)) = fs ∧ f.toList.mapM (fun x => (P.info? x.type).map fun i => (x.offset, i.size)) = some fs
structure TyOk (P : Program) (t : TypeId) (i : TInfo) : Prop where
 ex : ∃ (j : TypeInfo) (z : Value) (d : TypeDesc), P.info? t = some j ∧ j.zero = some z ∧ z.cells.toList = i.zero ∧ j.size = i.zero.length ∧ j.bytes = i.bytes ∧
  P.underlying t = some d ∧ (match d with | .struct _ => true | .array _ _ => true | _ => false) = i.agg ∧ (i.agg = true → z = .agg i.zero.toArray) ∧ yyv P i.kind d
 one : i.zero.all Value.oneCell' = true
 sing : i.agg = false → i.zero.length = 1
theorem TyOk.cells {P : Program} {t : TypeId} {i : TInfo} (h : TyOk P t i) : P.cellsOf t = i.zero.length := by
 obtain ⟨j, z, d, h1, h2, h3, h4, _⟩ := h.ex
 simp [Program.cellsOf, h1, h4]
def PureC (P : Program) (f : FuncId) (xs : List AV) (r : AV) : Prop :=
 (∀ (args : Array Value) (w : World), (callFunc f args).run P w = .ok (.enter f args) w) ∧
 ∀ (w : World) (S : Nat → Prop) (args : List Value) (n : Nat), (∀ b, S b → b < w.heap.size) → Rc (Rv P w.heap.size w S n) args xs (fun _ => 0) →
  Calls P f args.toArray w fun e w' => ∃ v n' S' O, e = .returned v ∧ Below w.heap.size w w' ∧ Rv P w.heap.size w' S' n' v r O ∧ (∀ b, O b ≤ 1) ∧
   (∀ b, S' b → (S b ∨ w.heap.size ≤ b) ∧ b < w'.heap.size) ∧ (∀ b, S' b → O b = 0) ∧ (∀ b, S b → S' b)
def MutC (P : Program) (f : FuncId) (x r : AV) : Prop :=
 (∀ (args : Array Value) (w : World), (callFunc f args).run P w = .ok (.enter f args) w) ∧
 ∀ (B0 : Nat) (w : World) (S : Nat → Prop) (v : Value) (n : Nat) (O : Own), B0 ≤ w.heap.size → (∀ b, S b → b < w.heap.size ∧ O b = 0) → (∀ b, O b ≤ 1) → Rv P B0 w S n v x O →
  Calls P f #[v] w fun e w' => ∃ n' O', e = .returned (.tuple #[]) ∧ Below B0 w w' ∧ (∀ b, b < w.heap.size → O b = 0 → w'.heap[b]? = w.heap[b]?) ∧ Rv P B0 w' S n' v r O' ∧ (∀ b, O' b ≤ 1) ∧
   (∀ b, 0 < O' b → 0 < O b ∨ w.heap.size ≤ b)
structure CxOk (P : Program) (cx : Cx) : Prop where
 ty : ∀ t i, tyF cx.T t = some i → TyOk P t i
 eq : ∀ t us vs r, cx.eqT t us vs = some r → ∀ (w : World) (x y : Operand),
  (do eqGuard .eql t x y (.agg us.toArray) (.agg vs.toArray); binOp .eql t (.agg us.toArray) (.agg vs.toArray) : Sem Value).run P w = .ok (.bool r) w ∧
  (do eqGuard .neq t x y (.agg us.toArray) (.agg vs.toArray); binOp .neq t (.agg us.toArray) (.agg vs.toArray) : Sem Value).run P w = .ok (.bool (!r)) w
 K : ∀ f xs r, cx.K f xs = some r → PureC P f xs r
 KM : ∀ f x r, cx.KM f x = some r → x ≠ .bad → MutC P f x r
 mixed : P.follows .mixedOrders = true
def Grow (B0 : Nat) (S S' : Nat → Prop) : Prop := (∀ b, S b → S' b) ∧ ∀ b, S' b → S b ∨ B0 ≤ b
theorem Grow.refl (B0 : Nat) (S : Nat → Prop) : Grow B0 S S := ⟨fun _ h => h, fun _ h => .inl h⟩
theorem Grow.trans {B0 : Nat} {S S' S2 : Nat → Prop} (h : Grow B0 S S') (h' : Grow B0 S' S2) : Grow B0 S S2 :=
 ⟨fun b hb => h'.1 b (h.1 b hb), fun b hb => (h'.2 b hb).elim (h.2 b) .inr⟩
def Post (P : Program) (F : Frm) (B0 : Nat) (w0 : World) (S : Nat → Prop) (cx : Cx) (env : Env) (eff : Eff) (a : Act) (a' : Act) (w' : World) : Prop :=
 a'.defers = a.defers ∧ (a'.tmps.size = cx.N ∧ F.lo = cx.lo) ∧ ∃ n' S' Os', 0 < n' ∧ Grow B0 S S' ∧ St P F B0 w0 n' (zqi eff env) a'.tmps w' S' Os'
def Vl (env : Env) (x : Operand) (y : AV) (s : Option Nat) : Prop :=
 match x with
 | .tmp t => lk env t = some y ∧ s = some t
 | .const v => y = .atom v ∧ s = none
 | .global g => y = .atom (.pointer (some ⟨g, 0, none⟩)) ∧ s = none
 | .func f => y = .atom (.func (.func f) #[] #[]) ∧ s = none
theorem zqm {α : Type} {env : Env} {x : Operand} {k : AV → Option Nat → RP α} {l : List Nat} {e : α} (h : (valP x k).run env = some (l, e)) :
  ∃ y s l', Vl env x y s ∧ (k y s).run env = some (l', e) := by
 cases x with
 | tmp t =>
  simp only [valP, RP.run] at h
  cases hl : lk env t with
  | none => rw [hl] at h; simp [RP.run] at h
  | some y =>
   rw [hl] at h
   simp only at h
   cases hk : (k y (some t)).run env with
   | none => rw [hk] at h; cases h
   | some la =>
    obtain ⟨l', e'⟩ := la
    rw [hk] at h
    injection h with h; injection h with h1 h2; subst h2
    exact ⟨y, some t, l', ⟨hl, rfl⟩, hk⟩
 | const v => exact ⟨_, _, l, ⟨rfl, rfl⟩, h⟩
 | global g => exact ⟨_, _, l, ⟨rfl, rfl⟩, h⟩
 | func f => exact ⟨_, _, l, ⟨rfl, rfl⟩, h⟩
theorem yan {α : Type} {env : Env} {t : Nat} {k : Option AV → RP α} {l : List Nat} {e : α} (h : (RP.read t k).run env = some (l, e)) :
  ∃ l', (k (lk env t)).run env = some (l', e) := by
 simp only [RP.run] at h
 cases hk : (k (lk env t)).run env with
 | none => rw [hk] at h; cases h
 | some la =>
  obtain ⟨l', e'⟩ := la
  rw [hk] at h
  injection h with h; injection h with h1 h2; subst h2
  exact ⟨l', rfl⟩
theorem yqc {α : Type} {env : Env} {t : Nat} {k : Option AV → RP α} {l : List Nat} {e : α} (h : (RP.head t k).run env = some (l, e)) :
  ∃ l', (k ((lk env t).map hdAV)).run env = some (l', e) := by
 simp only [RP.run] at h
 cases hk : (k ((lk env t).map hdAV)).run env with
 | none => rw [hk] at h; cases h
 | some la =>
  obtain ⟨l', e'⟩ := la
  rw [hk] at h
  injection h with h; injection h with h1 h2; subst h2
  exact ⟨l', rfl⟩
theorem zqd {α : Type} {env : Env} {l : List Nat} {e : α} (h : (RP.fail : RP α).run env = some (l, e)) : False := by simp [RP.run] at h
theorem yao {cx : Cx} {d : Option Nat} {x : AV} {ws : List (Nat × AV)} {kl : List (Nat × Bool)} {env : Env} {l : List Nat} {eff : Eff} (h : (outP cx d x ws kl).run env = some (l, eff)) :
  ∃ t, d = some t ∧ (t < cx.N ∧ cx.lo ≤ t) ∧ zqf x ≠ some t ∧ eff.ws = (t, x) :: ws ∧ ((eff.kl = kl ∧ free env t) ∨ eff.kl = (t, false) :: kl) := by
 cases d with
 | none => exact (zqd h).elim
 | some t =>
  simp only [outP] at h
  rw [RP.run] at h
  by_cases hc : (t < cx.N ∧ cx.lo ≤ t) ∧ zqf x ≠ some t
  ·rw [if_pos hc] at h
   obtain ⟨l', h⟩ := yan h
   refine ⟨t, rfl, hc.1, hc.2, ?_⟩
   cases hl : lk env t with
   | none =>
    rw [hl] at h
    injection h with h; injection h with h1 h2; subst h2
    exact ⟨rfl, .inl ⟨rfl, fun y hy => by rw [hl] at hy; cases hy⟩⟩
   | some y =>
    rw [hl] at h
    simp only at h
    by_cases hr : zqu y = true
    ·rw [if_pos hr] at h
     injection h with h; injection h with h1 h2; subst h2
     exact ⟨rfl, .inr rfl⟩
    ·rw [if_neg hr] at h
     injection h with h; injection h with h1 h2; subst h2
     exact ⟨rfl, .inl ⟨rfl, fun z hz => by rw [hl] at hz; injection hz with hz; subst hz; simpa using hr⟩⟩
  ·rw [if_neg hc] at h; exact (zqd h).elim
theorem yae {α : Type} {env : Env} {c : Prop} [Decidable c] {p : RP α} {l : List Nat} {e : α} (h : (gd c p).run env = some (l, e)) : c ∧ p.run env = some (l, e) := by
 unfold gd at h
 simp only [RP.run, decide_eq_true_eq] at h
 by_cases hc : c
 ·rw [if_pos hc] at h; exact ⟨hc, h⟩
 ·rw [if_neg hc] at h; cases h
theorem yeg {α : Type} {env : Env} {y : AV} {i c n : Nat} {k : List AV → RP α} {l : List Nat} {e : α} (h : (segP y i c n k).run env = some (l, e)) : ∃ ms, seg y i c n = some ms ∧ (k ms).run env = some (l, e) := by
 unfold segP at h
 split at h
 ·rename_i e' cap xs
  obtain ⟨hi, h⟩ := yae h
  simp only [RP.run] at h
  have hx : xs[i]? = some (xs.getD i .bad) := by rw [zld, zle hi, Option.getD_some]
  by_cases hc : c + n ≤ (xs.getD i .bad).ecells.length
  ·rw [if_pos hc] at h
   refine ⟨_, ?_, h⟩
   simp only [seg, hx]
   rw [if_pos hc]
  ·rw [if_neg hc] at h; cases h
 ·rename_i cs
  by_cases h1 : n = 1
  ·rw [if_pos h1] at h
   obtain ⟨⟨hi, hc⟩, h⟩ := yae h
   simp only [RP.run] at h
   refine ⟨_, ?_, h⟩
   subst h1 hi
   simp only [seg]
   rw [if_pos ⟨trivial, by omega⟩, List.drop_eq_getElem_cons hc, List.take_succ_cons, List.take_zero, zld, zle hc]
   rfl
  ·rw [if_neg h1] at h
   cases hs : seg (.box cs) i c n with
   | none => rw [hs] at h; cases h
   | some ms => rw [hs] at h; exact ⟨ms, rfl, h⟩
 ·cases hs : seg y i c n with
  | none => rw [hs] at h; cases h
  | some ms => rw [hs] at h; exact ⟨ms, rfl, h⟩
theorem ybu {α : Type} {env : Env} {l : List Nat} {e : α} : ∀ {x : AV} {p : Path} {k : AV → RP α}, (getP x p k).run env = some (l, e) → ∃ z, getC x p = some z ∧ (k z).run env = some (l, e)
 | x, [], k, h => ⟨x, rfl, h⟩
 | x, (i, c) :: p, k, h => by
  obtain ⟨ms, hs, h⟩ := yeg h
  match ms, hs, h with
  | [], _, h => cases h
  | y :: ms, hs, h =>
   obtain ⟨z, hz, h⟩ := ybu (x := y) (p := p) h
   exact ⟨z, by unfold getC; rw [hs]; exact hz, h⟩
theorem ycl {α : Type} {env : Env} {l : List Nat} {e : α} : ∀ {x : AV} {p : Path} {y : AV} {k : AV → RP α}, (setP x p y k).run env = some (l, e) → (k (setC x p y)).run env = some (l, e)
 | x, [], y, k, h => h
 | x, (i, c) :: p, y, k, h => by
  obtain ⟨ms, hs, h⟩ := yeg h
  match ms, hs, h with
  | [], _, h => cases h
  | z :: ms, hs, h =>
   have h := ycl (x := z) (p := p) h
   have e : setC x ((i, c) :: p) y = putSeg x i c [setC z p y] := by
    conv => lhs; unfold setC
    rw [hs]
   rw [e]; exact h
theorem ypj {α : Type} {env : Env} {z : AV} {rng : Option (Nat × Nat × Option Nat)} {k : AV → RP α} {l : List Nat} {e : α} (h : (subP z rng k).run env = some (l, e)) : ∃ q, ybw z rng = some q ∧ (k q).run env = some (l, e) := by
 unfold subP at h
 split at h
 ·exact ⟨_, rfl, h⟩
 ·obtain ⟨hc, h⟩ := yae h
  refine ⟨_, ?_, h⟩
  simp only [ybw]
  rw [if_pos hc]
 ·cases h
theorem zqq {α : Type} {env : Env} {c : Prop} [Decidable c] {p : RP α} {l : List Nat} {e : α} (h : (if c then p else .fail : RP α).run env = some (l, e)) : c ∧ p.run env = some (l, e) := by
 by_cases hc : c
 ·rw [if_pos hc] at h; exact ⟨hc, h⟩
 ·rw [if_neg hc] at h; exact (zqd h).elim
section
variable {P : Program} {F : Frm} {B0 : Nat} {w0 w w' : World} {S S' : Nat → Prop} {n n' : Nat} {env : Env} {a : Act} {Os : Nat → Own} {cx : Cx} {o : Oper} {Q : Exit → Act → World → Prop} {eff : Eff} {l : List Nat}
theorem ybz {v : Value} {K : Act → World → Prop} (h : (execOp a.eval o).run P w = .ok (.value v) w') (hK : K (a.put o.dst v) w') : o.wp P a w K Q := by
 unfold Oper.wp; rw [h]; exact hK
theorem ygh {K : Act → World → Prop} (h : (execOp a.eval o).run P w = .ok .skip w') (hK : K (a.put o.dst undef) w') : o.wp P a w K Q := by
 unfold Oper.wp; rw [h]; exact hK
theorem Vl.ev (hst : St P F B0 w0 n env a.tmps w S Os) (hn : 0 < n) {x : Operand} {y : AV} {s : Option Nat} (h : Vl env x y s) :
  ∃ O, Sv P B0 env a.tmps w S n (a.eval x) y O ∧ (∀ t, s = some t → O = Os t ∧ a.tmps[t]? = some (a.eval x) ∧ lk env t = some y) ∧ (s = none → Zero O ∧ y = .atom (a.eval x)) := by
 obtain ⟨m, rfl⟩ : ∃ m, n = m + 1 := ⟨n - 1, by omega⟩
 cases x with
 | tmp t =>
  obtain ⟨hl, rfl⟩ := h
  obtain ⟨v, hv, hs⟩ := hst.rel t y hl
  have he : a.eval (.tmp t) = v := by simp [Act.eval, zll, hv]
  refine ⟨Os t, by rw [he]; exact hs, ?_, fun h => by cases h⟩
  intro t' ht
  injection ht with ht; subst ht
  exact ⟨rfl, by rw [he]; exact hv, hl⟩
 | const v => obtain ⟨rfl, rfl⟩ := h; exact ⟨fun _ => 0, .inr ⟨rfl, fun _ => rfl⟩, (fun t ht => by cases ht), (fun _ => ⟨fun _ => rfl, rfl⟩)⟩
 | global g => obtain ⟨rfl, rfl⟩ := h; exact ⟨fun _ => 0, .inr ⟨rfl, fun _ => rfl⟩, (fun t ht => by cases ht), (fun _ => ⟨fun _ => rfl, rfl⟩)⟩
 | func f => obtain ⟨rfl, rfl⟩ := h; exact ⟨fun _ => 0, .inr ⟨rfl, fun _ => rfl⟩, (fun t ht => by cases ht), (fun _ => ⟨fun _ => rfl, rfl⟩)⟩
theorem Vl.atom (hst : St P F B0 w0 n env a.tmps w S Os) (hn : 0 < n) {x : Operand} {u : Value} {s : Option Nat} (h : Vl env x (.atom u) s) : a.eval x = u := by
 obtain ⟨m, rfl⟩ : ∃ m, n = m + 1 := ⟨n - 1, by omega⟩
 obtain ⟨O, hs, _⟩ := h.ev hst hn
 rcases hs with ⟨hl, _⟩ | hs
 ·exact absurd rfl hl
 ·exact hs.1
def Gz (P : Program) (B0 : Nat) (env : Env) (tmps : Array Value) (w : World) (S : Nat → Prop) (n : Nat) (v : Value) (x : AV) : Prop :=
 (Al P env tmps w v x ∧ ∃ r y, zqf x = some r ∧ lk env r = some y ∧ zqu y = true) ∨ Rv P B0 w S n v x (fun _ => 0)
theorem Gz.gives {tmps : Array Value} {v : Value} {x : AV} {d : Nat} (h : Gz P B0 env tmps w S n v x) (hd : zqf x ≠ some d) : Gives P B0 env tmps w w S n d v x (fun _ => 0) := by
 rcases h with ⟨ha, r, y, hr, hy, hyr⟩ | h
 ·exact .inl ⟨r, hr, fun e => hd (by rw [hr, e]), ha, fun _ => rfl, y, hy, hyr⟩
 ·exact .inr h
theorem St.readied (hst : St P F B0 w0 n env a.tmps w S Os) (hn : 0 < n) {t : Nat} {kl : List (Nat × Bool)} (h : (eff.kl = kl ∧ free env t) ∨ eff.kl = (t, false) :: kl) :
  St P F B0 w0 n (Lf.kills eff.kl env) a.tmps w S Os ∧ zrm t (Lf.kills eff.kl env) := by
 refine ⟨hst.kills hn _, ?_⟩
 rcases h with ⟨h, hf⟩ | h
 ·exact (hst.noRoot_of_free hf).kills _
 ·exact zrm.of_mem (by rw [h]; simp)
theorem fin0 (hst : St P F B0 w0 n env a.tmps w S Os) (hn : 0 < n) (hN : (a.tmps.size = cx.N ∧ F.lo = cx.lo)) {x : AV} {v : Value} (hout : (outP cx o.dst x [] []).run env = some (l, eff))
  (hrun : (execOp a.eval o).run P w = .ok (.value v) w) (hx : Gz P B0 env a.tmps w S n v x) : o.wp P a w (Post P F B0 w0 S cx env eff a) Q := by
 obtain ⟨t, hd, htN, hlr, hws, hkl⟩ := yao hout
 obtain ⟨h1, hnr⟩ := hst.readied hn hkl
 refine ybz hrun ?_
 rw [hd]
 have key := h1.put0 (zly _) (by omega) hnr ((hx.gives hlr).kills eff.kl)
 exact ⟨rfl, by simpa [Act.put] using hN, n, S, _, hn, .refl _ _, by unfold zqi; rw [hws]; exact key⟩
theorem yzo (hst : St P F B0 w0 n env a.tmps w S Os) (hn : 0 < n) (hnn : n ≤ n') (hN : (a.tmps.size = cx.N ∧ F.lo = cx.lo)) {x : AV} {v : Value} {O : Own} (hout : (outP cx o.dst x [] []).run env = some (l, eff))
  (hrun : (execOp a.eval o).run P w = .ok (.value v) w') (hB : Below w.heap.size w w') (hS : ∀ b, S b → S' b) (hSl : ∀ b, S' b → b < w'.heap.size) (hSn : ∀ b, S' b → S b ∨ w.heap.size ≤ b)
  (hSd : ∀ b, S' b → O b = 0) (h1 : ∀ b, O b ≤ 1) (hO : ∀ b, 0 < O b → w.heap.size ≤ b) (hx : Rv P B0 w' S' n' v x O) : o.wp P a w (Post P F B0 w0 S cx env eff a) Q := by
 obtain ⟨t, hd, htN, hlr, hws, hkl⟩ := yao hout
 obtain ⟨hs1, hnr⟩ := hst.readied hn hkl
 refine ybz hrun ?_
 rw [hd]
 have hlt : ∀ s b, 0 < Os s b → b < w.heap.size := by
  intro s b hb
  cases hls : lk env s with
  | none => have := hst.abs s hls b; omega
  | some y =>
   obtain ⟨u, hu, hss⟩ := hst.rel s y hls
   rcases hss with ⟨_, _, hz⟩ | hss
   ·have := hz b; omega
   ·exact (Rv.owned n u y _ hss b hb).2
 have key := hs1.put (x := x) (v := v) (O := O) hnn (d := t) (by omega) hnr (hB.mono hst.b0) hS hSl ?_ hSd ?_ h1 ?_ (.inr hx)
 ·exact ⟨rfl, by simpa [Act.put] using hN, n', S', _, by omega, ⟨hS, fun b hb => (hSn b hb).imp id fun h => Nat.le_trans hst.b0 h⟩, by unfold zqi; rw [hws]; exact key⟩
 ·intro b s hst' hb
  rcases hSn b hb with h | h
  ·exact hst.excl b s h
  ·have := hlt s b; omega
 ·intro b hb
  refine hB.block b ?_
  rcases hb with hb | ⟨s, _, hb⟩
  ·exact hst.sLt b hb
  ·exact hlt s b hb
 ·intro b s _ hb
  have := hO b hb
  have := hlt s b; omega
theorem yar (hst : St P F B0 w0 n env a.tmps w S Os) (hn : 0 < n) (hN : (a.tmps.size = cx.N ∧ F.lo = cx.lo)) {v : Value} (hout : (outP cx o.dst (.atom v) [] []).run env = some (l, eff))
  (hrun : (execOp a.eval o).run P w = .ok (.value v) w) : o.wp P a w (Post P F B0 w0 S cx env eff a) Q := by
 obtain ⟨m, rfl⟩ : ∃ m, n = m + 1 := ⟨n - 1, by omega⟩
 exact fin0 hst hn hN hout hrun (.inr ⟨rfl, fun _ => rfl⟩)
end
end Go.Lf
end

section
namespace Go.Lf
open Go Go.RowKit
section
variable {P : Program} {F : Frm} {B0 : Nat} {w0 w w' : World} {S S' : Nat → Prop} {n n' : Nat} {env : Env} {a : Act} {Os : Nat → Own} {cx : Cx} {o : Oper} {Q : Exit → Act → World → Prop} {eff : Eff} {l : List Nat}
theorem St.lt (hst : St P F B0 w0 n env a.tmps w S Os) : ∀ s b, 0 < Os s b → B0 ≤ b ∧ b < w.heap.size := by
 intro s b hb
 cases hls : lk env s with
 | none => have := hst.abs s hls b; omega
 | some y =>
  obtain ⟨u, hu, hss⟩ := hst.rel s y hls
  rcases hss with ⟨_, _, hz⟩ | hss
  ·have := hz b; omega
  ·exact Rv.owned n u y _ hss b hb
theorem St.bad (h : St P F B0 w0 n env a.tmps w S Os) (hn : 0 < n) {r : Nat} {x : AV} (hxr : lk env r = some x) :
  St P F B0 w0 n ((r, .bad) :: env) a.tmps w S (fun t => if t = r then (fun _ => 0) else Os t) := by
 obtain ⟨m, rfl⟩ : ∃ m, n = m + 1 := ⟨n - 1, by omega⟩
 obtain ⟨v, hv, _⟩ := h.rel r x hxr
 refine h.turn (zly _) hv hxr (Below.refl _ _) (fun _ h => h) h.sLt (fun b t _ hb => h.excl b t hb) (fun _ _ => rfl) (fun _ _ => rfl) (fun _ => Nat.zero_le _) (fun b t _ hb => by omega) (fun _ => rfl) rfl ?_ ?_ ?_
 ·right
  intro p hp
  cases p with
  | nil => exact absurd rfl hp
  | cons ic p => obtain ⟨i, c⟩ := ic; simp [getC, seg]
 ·intro m e cap xs h; cases h
 ·intro h; cases h
theorem yoa (hst : St P F B0 w0 n env a.tmps w S Os) (hn : 0 < n) (hN : (a.tmps.size = cx.N ∧ F.lo = cx.lo)) {s : Nat} {x : AV} {v : Value} (hs : lk env s = some x) (hx : Rv P B0 w S n v x (Os s))
  (hout : (outP cx o.dst x [(s, .bad)] []).run env = some (l, eff)) (hne : o.dst ≠ some s) (hrun : (execOp a.eval o).run P w = .ok (.value v) w) : o.wp P a w (Post P F B0 w0 S cx env eff a) Q := by
 obtain ⟨t, hd, htN, hlr, hws, hkl⟩ := yao hout
 obtain ⟨h1, hnr⟩ := hst.readied hn hkl
 have hs' := yal (kl := eff.kl) hs hx.noLeaf
 have h2 := h1.bad hn hs'
 have hts : t ≠ s := fun e => hne (by rw [hd, e])
 refine ybz hrun ?_
 rw [hd]
 have key := h2.put (x := x) (v := v) (O := Os s) (zly _) (d := t) (by omega) (hnr.cons (by simp [zqf])) (Below.refl _ _) (fun _ h => h) h2.sLt (fun b t' _ hb => h2.excl b t' hb) (fun b hb => hst.excl b s hb)
  (fun _ _ => rfl) (hst.one s) ?_ (.inr hx)
 ·exact ⟨rfl, by simpa [Act.put] using hN, n, S, _, hn, .refl _ _, by unfold zqi; rw [hws]; exact key⟩
 ·intro b q hq hb
  by_cases hqs : q = s
  ·simp [hqs]
  ·simp only [hqs, if_false]
   rcases hst.dis s q b (Ne.symm hqs) with h | h
   ·omega
   ·exact h
theorem Sv.rv {v : Value} {x : AV} {O : Own} {tmps : Array Value} (h : Sv P B0 env tmps w S n v x O) (hx : zqf x = none) : Rv P B0 w S n v x O := by
 rcases h with ⟨h, _⟩ | h
 ·exact absurd hx h
 ·exact h
theorem zqp {v : Value} {x : AV} {O : Own} (h : Rv P B0 w S n v x O) (hp : zqt x = true) : Zero O := by
 obtain ⟨m, rfl⟩ := h.pos
 cases x with
 | atom u => exact h.2
 | sl m e cap xs =>
  cases m with
  | own => simp [zqt] at hp
  | fresh => obtain ⟨A, k, _, _, _, _, _, hz, _⟩ := h; exact hz
  | any => obtain ⟨A, k, _, _, _, _, _, hz, _⟩ := h; exact hz
 | _ => simp [zqt] at hp
theorem Rc.zero {R : Value → AV → Own → Prop} {vs : List Value} {xs : List AV} {O : Own} (h : Rc R vs xs O) (hz : ∀ v x O1, x ∈ xs → R v x O1 → Zero O1) : Zero O := by
 induction h with
 | nil hzz => exact hzz
 | @cons v x vs xs P1 P2 P3 hr _ hO ih =>
  intro b
  have h1 := hz v x P1 (by simp) hr b
  have h2 := ih (fun v x O1 hx hr => hz v x O1 (by simp [hx]) hr) b
  have := hO b; omega
theorem zrg {vs : List Value} {cs : List AV} {O : Own} (h : Rc (Rv P B0 w S n) vs cs O) (hp : cs.all zqt = true) : Zero O :=
 h.zero fun _ x _ hx hr => zqp hr (zls.1 hp x hx)
theorem ygw (hst : St P F B0 w0 n env a.tmps w S Os) (hn : 0 < n) {x : Operand} {y z : AV} {s : Option Nat} (hv : Vl env x y s) (hr : ycd s y = some z) : Gz P B0 env a.tmps w S n (a.eval x) z := by
 obtain ⟨O, hs, hsl, hno⟩ := hv.ev hst hn
 have plain : zqf y = none → (Rv P B0 w S n (a.eval x) y O → Zero O) → Rv P B0 w S n (a.eval x) y (fun _ => 0) := by
  intro h1 h2
  have := hs.rv h1
  exact this.cast fun b => by rw [h2 this b]
 cases y with
 | sl m e cap xs =>
  cases m with
  | own =>
   cases s with
   | none => simp [ycd] at hr
   | some t =>
    obtain ⟨hO, htm, hlk⟩ := hsl t rfl
    simp only [ycd, Option.map_some] at hr
    injection hr with hr; subst hr
    refine .inl ⟨?_, t, _, rfl, hlk, rfl⟩
    intro xr hxr m e' cap' xs' hg
    rw [hlk] at hxr; injection hxr with hxr; subst hxr
    exact fun _ => ⟨_, _, htm, rfl, rfl⟩
  | fresh => injection hr with hr; subst hr; exact .inr (plain rfl fun h => zqp h rfl)
  | any => injection hr with hr; subst hr; exact .inr (plain rfl fun h => zqp h rfl)
 | box cs =>
  cases s with
  | none => simp [ycd] at hr
  | some t =>
   obtain ⟨hO, htm, hlk⟩ := hsl t rfl
   simp only [ycd, Option.map_some] at hr
   injection hr with hr; subst hr
   refine .inl ⟨?_, t, _, rfl, hlk, rfl⟩
   intro xr hxr z hg ho
   rw [hlk] at hxr; injection hxr with hxr; subst hxr
   injection hg with hg; subst hg
   have hb := hs.rv rfl
   obtain ⟨k, rfl⟩ := hb.pos
   obtain ⟨g, C, T, O', hvv, _⟩ := hb
   exact ⟨_, _, ⟨g, 0, none⟩, htm, rfl, by rw [hvv]; rfl, by rw [hvv]; rfl⟩
 | tup cs => simp [ycd] at hr
 | bad => simp [ycd] at hr
 | mp g E => simp [ycd] at hr
 | al r p rng =>
  injection hr with hr; subst hr
  rcases hs with ⟨_, ha, _⟩ | hs
  ·cases s with
   | none => have := (hno rfl).2; cases this
   | some t =>
    obtain ⟨hO, htm, hlk⟩ := hsl t rfl
    obtain ⟨q, hq, hqr⟩ := hst.leaf t _ r hlk rfl
    exact .inl ⟨ha, r, q, rfl, hq, hqr⟩
  ·have := hs.noLeaf; cases this
 | adr r p i c =>
  injection hr with hr; subst hr
  rcases hs with ⟨_, ha, _⟩ | hs
  ·cases s with
   | none => have := (hno rfl).2; cases this
   | some t =>
    obtain ⟨hO, htm, hlk⟩ := hsl t rfl
    obtain ⟨q, hq, hqr⟩ := hst.leaf t _ r hlk rfl
    exact .inl ⟨ha, r, q, rfl, hq, hqr⟩
  ·have := hs.noLeaf; cases this
 | cp r =>
  injection hr with hr; subst hr
  rcases hs with ⟨_, ha, _⟩ | hs
  ·cases s with
   | none => have := (hno rfl).2; cases this
   | some t =>
    obtain ⟨hO, htm, hlk⟩ := hsl t rfl
    obtain ⟨q, hq, hqr⟩ := hst.leaf t _ r hlk rfl
    exact .inl ⟨ha, r, q, rfl, hq, hqr⟩
  ·have := hs.noLeaf; cases this
 | atom u =>
  injection hr with hr; subst hr
  refine .inr (plain rfl fun h => ?_)
  obtain ⟨m, rfl⟩ := h.pos
  exact h.2
 | agg cs =>
  simp only [ycd] at hr
  by_cases hp : cs.all zqt = true
  ·rw [if_pos hp] at hr
   injection hr with hr; subst hr
   refine .inr (plain rfl fun h => ?_)
   obtain ⟨m, rfl⟩ := h.pos
   obtain ⟨vs, _, hrc⟩ := h
   exact zrg hrc hp
  ·rw [if_neg hp] at hr; cases hr
 | vadr cs c =>
  injection hr with hr; subst hr
  refine .inr (plain rfl fun h => ?_)
  obtain ⟨m, rfl⟩ := h.pos
  obtain ⟨g, o, C, T, fr, _, _, _, _, _, hz, _⟩ := h
  exact hz
 | fn f cs =>
  injection hr with hr; subst hr
  refine .inr (plain rfl fun h => ?_)
  obtain ⟨m, rfl⟩ := h.pos
  obtain ⟨vs, _, hz, _⟩ := h
  exact hz
end
end Go.Lf
end

section
namespace Go.Lf
open Go Go.RowKit
section
variable {P : Program} {F : Frm} {B0 : Nat} {w0 w w' : World} {S S' : Nat → Prop} {n n' : Nat} {env : Env} {a : Act} {Os : Nat → Own} {cx : Cx} {o : Oper} {Q : Exit → Act → World → Prop} {eff : Eff} {l : List Nat}
theorem yb1 (hst : St P F B0 w0 n env a.tmps w S Os) (hn : 0 < n) (hN : (a.tmps.size = cx.N ∧ F.lo = cx.lo)) {x : Operand} (ho : o.op = .move x) (h : (yg0 cx o.dst x).run env = some (l, eff)) : o.wp P a w (Post P F B0 w0 S cx env eff a) Q := by
 have hrun : (execOp a.eval o).run P w = .ok (.value (a.eval x)) w := by simp [execOp, ho]
 obtain ⟨y, s, l', hv, hk⟩ := zqm h
 have gen : (match ycd s y with | some z => outP cx o.dst z [] [] | none => .fail : RP Eff).run env = some (l', eff) → o.wp P a w (Post P F B0 w0 S cx env eff a) Q := by
  intro hg
  cases hr : ycd s y with
  | none => rw [hr] at hg; exact (zqd hg).elim
  | some z => rw [hr] at hg; exact fin0 hst hn hN hg hrun (ygw hst hn hv hr)
 cases y with
 | tup cs =>
  cases s with
  | none => exact gen hk
  | some t =>
   obtain ⟨O, hs, hsl, _⟩ := hv.ev hst hn
   obtain ⟨rfl, htm, hlk⟩ := hsl t rfl
   by_cases hd : o.dst = some t
   ·simp only [hd, if_true] at hk; exact (zqd hk).elim
   ·simp only [hd, if_false] at hk
    exact yoa hst hn hN hlk (hs.rv rfl) hk hd hrun
 | _ => exact gen hk
theorem ymz (hst : St P F B0 w0 n env a.tmps w S Os) (hn : 0 < n) (hN : (a.tmps.size = cx.N ∧ F.lo = cx.lo)) {x : Operand} (ho : o.op = .move x) (h : (ym0 cx o.dst x).run env = some (l, eff)) : o.wp P a w (Post P F B0 w0 S cx env eff a) Q := by
 unfold ym0 at h
 split at h
 ·rename_i s
  obtain ⟨l', h⟩ := yqc h
  have own : ∀ {y z : AV}, lk env s = some y → (∀ o, yg0 cx o (.tmp s) = .read s fun q => match q with | some y => (match y, some s with | .tup cs, some s => if o = some s then .fail else outP cx o (.tup cs) [(s, .bad)] [] | y, s => match ycd s y with | some z => outP cx o z [] [] | none => .fail) | none => .fail) →
    (match y, some s with | .tup cs, some s => if o.dst = some s then .fail else outP cx o.dst (.tup cs) [(s, .bad)] [] | y, s => match ycd s y with | some z => outP cx o.dst z [] [] | none => .fail) = outP cx o.dst z [] [] →
    (outP cx o.dst z [] []).run env = some (l', eff) → o.wp P a w (Post P F B0 w0 S cx env eff a) Q := by
   intro y z hy hdef hz hr
   refine yb1 hst hn hN ho (l := 2 * s :: l') ?_
   rw [hdef]
   simp only [RP.run, hy]
   rw [hz, hr]
  cases hl : lk env s with
  | none =>
   rw [hl] at h
   exact yb1 hst hn hN ho h
  | some y =>
   rw [hl] at h
   cases y with
   | sl m e cap xs =>
    cases m with
    | own => exact own hl (fun _ => rfl) rfl h
    | _ => exact yb1 hst hn hN ho h
   | box cs => exact own hl (fun _ => rfl) rfl h
   | _ => exact yb1 hst hn hN ho h
 ·exact yb1 hst hn hN ho h
theorem ymy (hst : St P F B0 w0 n env a.tmps w S Os) (hn : 0 < n) (hN : (a.tmps.size = cx.N ∧ F.lo = cx.lo)) {c x y : Operand} (ho : o.op = .pick c x y) (h : (yrk cx o.dst c x y).run env = some (l, eff)) : o.wp P a w (Post P F B0 w0 S cx env eff a) Q := by
 obtain ⟨u, s, l', hv, hk⟩ := zqm h
 cases u with
 | atom u =>
  cases u with
  | bool t =>
   have hc := hv.atom hst hn
   have arm : ∀ {z : Operand} {l' : List Nat}, (valP z fun y _ => match y with | .atom v => outP cx o.dst (.atom v) [] [] | _ => .fail : RP Eff).run env = some (l', eff) →
     ∃ v l'', a.eval z = v ∧ (outP cx o.dst (.atom v) [] []).run env = some (l'', eff) := by
    intro z l' hz
    obtain ⟨q, s', l'', hv', hk'⟩ := zqm hz
    cases q with
    | atom v => exact ⟨v, l'', hv'.atom hst hn, hk'⟩
    | _ => exact (zqd hk').elim
   simp only [RP.run] at hk
   cases t with
   | true =>
    obtain ⟨v, l'', he, hout⟩ := arm hk
    exact yar hst hn hN hout (by simp [execOp, ho, hc, he, asBool])
   | false =>
    obtain ⟨v, l'', he, hout⟩ := arm hk
    exact yar hst hn hN hout (by simp [execOp, ho, hc, he, asBool])
  | _ => exact (zqd hk).elim
 | _ => exact (zqd hk).elim
theorem yqo {op : BinOp} {bt : Bool} {u v r : Value} {t : TypeId} {x y : Operand} (hbt : bt = true → P.underlying t = some .bool) (h : yjh op bt u v = some r) :
  (do eqGuard op t x y u v; binOp op t u v : Sem Value).run P w = .ok r w := by
 cases u with
 | int k p =>
  cases v with
  | int k' q =>
   simp only [yjh] at h
   by_cases hk : k = k'
   ·subst hk
    simp only [if_true] at h
    cases op with
    | quo =>
     by_cases hq : q = 0
     ·simp [hq] at h
     ·simp only [hq, if_false] at h; injection h with h; subst h; simp [go_sem, Op.intDiv, hq]
    | rem =>
     by_cases hq : q = 0
     ·simp [hq] at h
     ·simp only [hq, if_false] at h; injection h with h; subst h; simp [go_sem, Op.intDiv, hq]
    | add => injection h with h; subst h; simp [go_sem, Op.intArith]
    | sub => injection h with h; subst h; simp [go_sem, Op.intArith]
    | mul => injection h with h; subst h; simp [go_sem, Op.intArith]
    | eql => injection h with h; subst h; simp [go_sem]
    | neq => injection h with h; subst h; simp [go_sem]
    | lss => injection h with h; subst h; simp [go_sem]
    | leq => injection h with h; subst h; simp [go_sem]
    | gtr => injection h with h; subst h; simp [go_sem]
    | geq => injection h with h; subst h; simp [go_sem]
    | _ => cases h
   ·rw [if_neg hk] at h; cases h
  | _ => cases h
 | bool p =>
  cases v with
  | bool q =>
   simp only [yjh] at h
   by_cases hb : bt = true
   ·have ht := hbt hb
    rw [if_pos hb] at h
    cases op with
    | eql =>
     injection h with h; subst h
     have e : binOp .eql t (.bool p) (.bool q) = (do pure (.bool (← Op.equalIn (9999 + 1) t (.bool p) (.bool q)))) := rfl
     rw [eqGuard_at_bool, e]
     simp only [Sem.run_bind, Sem.run_pure, Result.andThen_ok, run_equalIn_bool' w 9999 t p q ht]
    | neq =>
     injection h with h; subst h
     have e : binOp .neq t (.bool p) (.bool q) = (do pure (.bool (!(← Op.equalIn (9999 + 1) t (.bool p) (.bool q))))) := rfl
     rw [eqGuard_at_bool, e]
     simp only [Sem.run_bind, Sem.run_pure, Result.andThen_ok, run_equalIn_bool' w 9999 t p q ht]
     rfl
    | _ => cases h
   ·rw [if_neg hb] at h; cases h
  | _ => cases h
 | string p =>
  cases v with
  | string q =>
   cases op with
   | eql => injection h with h; subst h; simp [eqGuard_at_string, binOp, Op.stringOp]
   | neq => injection h with h; subst h; simp [eqGuard_at_string, binOp, Op.stringOp]
   | add =>
    simp only [yjh] at h
    by_cases hs : p.size + q.size ≤ 1000000000000
    ·rw [if_pos hs] at h; injection h with h; subst h
     have : ¬ ((p.size : Int) + (q.size : Int) > 9223372036854775807) := by omega
     simp [eqGuard_at_string, binOp, Op.stringOp, this]
    ·rw [if_neg hs] at h; cases h
   | _ => cases h
  | _ => cases h
 | _ => cases v <;> cases h
theorem ykz : ∀ {cs : List AV} {us : List Value}, atoms cs = some us → cs = us.map AV.atom
 | [], us, h => by injection h with h; subst h; rfl
 | c :: cs, us, h => by
  cases c with
  | atom v =>
   simp only [atoms] at h
   cases hc : atoms cs with
   | none => rw [hc] at h; cases h
   | some vs =>
    rw [hc] at h; injection h with h; subst h
    rw [ykz hc]; rfl
  | _ => cases h
theorem Rc.of_atoms {n : Nat} {us : List Value} : ∀ {vs : List Value} {O : Own}, Rc (Rv P B0 w S n) vs (us.map AV.atom) O → vs = us := by
 induction us with
 | nil => intro vs O h; cases h; rfl
 | cons u us ih =>
  intro vs O h
  cases h with
  | cons h1 h2 _ =>
   obtain ⟨m, rfl⟩ := h1.pos
   rw [h1.1, ih h2]
theorem Vl.agg (hst : St P F B0 w0 n env a.tmps w S Os) (hn : 0 < n) {x : Operand} {us : List Value} {cs : List AV} {s : Option Nat} (h : Vl env x (.agg cs) s) (hu : atoms cs = some us) : a.eval x = .agg us.toArray := by
 obtain ⟨O, hs, _⟩ := h.ev hst hn
 have hr := hs.rv rfl
 obtain ⟨m, rfl⟩ := hr.pos
 obtain ⟨vs, hv, hrc⟩ := hr
 rw [ykz hu] at hrc
 rw [hv, ← hrc.of_atoms]
theorem yp0 (hcx : CxOk P cx) (hst : St P F B0 w0 n env a.tmps w S Os) (hn : 0 < n) (hN : (a.tmps.size = cx.N ∧ F.lo = cx.lo)) {op : BinOp} {t u : TypeId} {x y : Operand} (ho : o.op = .binOp op t x y u) (h : (ywu cx o.dst op t x y).run env = some (l, eff)) : o.wp P a w (Post P F B0 w0 S cx env eff a) Q := by
 obtain ⟨p, s, l1, hv1, h1⟩ := zqm h
 obtain ⟨q, s', l2, hv2, h2⟩ := zqm h1
 cases p with
 | atom p =>
  cases q with
  | atom q =>
   simp only at h2
   have main : ∀ {l3 : List Nat} (r : Value), yjh op (match tyF cx.T t with | some i => decide (i.kind = .bool) | none => false) p q = some r → (outP cx o.dst (.atom r) [] []).run env = some (l3, eff) → o.wp P a w (Post P F B0 w0 S cx env eff a) Q := by
    intro l3 r hr h2
    refine yar hst hn hN h2 ?_
    rw [execOp, ho]
    have := yqo (P := P) (w := w) (t := t) (x := x) (y := y) (bt := match tyF cx.T t with | some i => decide (i.kind = .bool) | none => false) ?_ hr
    ·simp only [hv1.atom hst hn, hv2.atom hst hn]
     simp only [Sem.run_bind, this, Result.andThen_ok, Sem.run_pure]
    ·intro hb
     cases ht : tyF cx.T t with
     | none => rw [ht] at hb; cases hb
     | some i =>
      rw [ht] at hb
      simp only [decide_eq_true_eq] at hb
      obtain ⟨j, z, d, _, _, _, _, _, hd, _, _, hk⟩ := (hcx.ty t i ht).ex
      rw [hb] at hk
      have hk' : d = .bool := hk
      rw [hd, hk']
   cases hs2 : yo1 op p q with
   | some st =>
    obtain ⟨s1, s2⟩ := st
    rw [hs2] at h2; simp only at h2
    obtain ⟨hb, h3⟩ := yae h2
    refine main _ ?_ h3
    unfold yo1 at hs2
    split at hs2
    ·injection hs2 with hs2; injection hs2 with e1 e2; subst e1 e2; simp only [yjh]; rw [if_pos hb]
    ·cases hs2
   | none =>
    rw [hs2] at h2; simp only at h2
    split at h2
    ·rename_i r hr; exact main r hr h2
    ·exact (zqd h2).elim
  | _ => exact (zqd h2).elim
 | agg cs =>
  cases q with
  | agg ds =>
   simp only at h2
   cases hc : atoms cs with
   | none => rw [hc] at h2; exact (zqd h2).elim
   | some us =>
    cases hd : atoms ds with
    | none => rw [hc, hd] at h2; exact (zqd h2).elim
    | some vs =>
     rw [hc, hd] at h2
     simp only at h2
     cases hr : cx.eqT t us vs with
     | none => rw [hr] at h2; exact (zqd h2).elim
     | some r =>
      rw [hr] at h2
      obtain ⟨e1, e2⟩ := hcx.eq t us vs r hr w x y
      cases op with
      | eql =>
       refine yar hst hn hN h2 ?_
       rw [execOp, ho]
       simp only [hv1.agg hst hn hc, hv2.agg hst hn hd]
       simp only [Sem.run_bind, e1, Result.andThen_ok, Sem.run_pure]
      | neq =>
       refine yar hst hn hN h2 ?_
       rw [execOp, ho]
       simp only [hv1.agg hst hn hc, hv2.agg hst hn hd]
       simp only [Sem.run_bind, e2, Result.andThen_ok, Sem.run_pure]
      | _ => exact (zqd h2).elim
  | _ => exact (zqd h2).elim
 | _ => exact (zqd h2).elim
theorem ys5 (hst : St P F B0 w0 n env a.tmps w S Os) (hn : 0 < n) (hN : (a.tmps.size = cx.N ∧ F.lo = cx.lo)) {op : UnOp} {t : TypeId} {x : Operand} (ho : o.op = .unOp op t x) (h : (opUn cx o.dst op x).run env = some (l, eff)) : o.wp P a w (Post P F B0 w0 S cx env eff a) Q := by
 obtain ⟨p, s, l1, hv1, h1⟩ := zqm h
 cases p with
 | atom p =>
  simp only at h1
  cases hr : evUn op p with
  | none => rw [hr] at h1; exact (zqd h1).elim
  | some r =>
   rw [hr] at h1
   refine yar hst hn hN h1 ?_
   rw [execOp, ho]
   simp only [hv1.atom hst hn]
   cases op <;> cases p <;> first | (injection hr with hr; subst hr; simp [Op.unary, Op.intArith]) | cases hr
 | _ => exact (zqd h1).elim
end
end Go.Lf
end

section
namespace Go.Lf
open Go Go.RowKit
section
variable {P : Program} {F : Frm} {B0 : Nat} {w0 w w' : World} {S S' : Nat → Prop} {n n' : Nat} {env : Env} {a : Act} {Os : Nat → Own} {cx : Cx} {o : Oper} {Q : Exit → Act → World → Prop} {eff : Eff} {l : List Nat}
theorem yn7 {sz : Nat} {xs : List AV} (h : Uni sz xs) (k : Nat) (hk : k ≤ xs.length) : (flat xs).take (k * sz) = flat (xs.take k) := by
 conv => lhs; rw [← List.take_append_drop k xs, zrk]
 have : (flat (xs.take k)).length = k * sz := by rw [zqn (h.take k), zlh, Nat.min_eq_left hk]
 rw [List.take_append, ← this, List.take_length, Nat.sub_self, List.take_zero, List.append_nil]
theorem Rv.front {m : Nat} {v : Value} {e : TypeId} {cap : Option Nat} {xs : List AV} {O : Own} (h : Rv P B0 w S (m + 1) v (.sl .own e cap xs) O) {A : Option Addr} {len k : Nat} (hv : v = .slice A len k) (c : Nat) (hc : c ≤ xs.length) :
  ∃ O1, Rv P B0 w S (m + 1) (.slice A c k) (.sl .own e cap (xs.take c)) O1 ∧ ∀ b, O1 b ≤ O b := by
 obtain ⟨vs, O', ho, hcap, hu, hr, hOO⟩ := h
 subst hv
 have hfl := yn7 hu c hc
 have hr0 := hr
 rw [← List.take_append_drop (c * P.cellsOf e) (flat xs)] at hr0
 obtain ⟨O1, O2, r1, _, h3⟩ := hr0.split
 have hlen : ((flat xs).take (c * P.cellsOf e)).length = c * P.cellsOf e := by
  rw [hfl, zqn (hu.take c), zlh, Nat.min_eq_left hc]
 rw [hlen, hfl] at r1
 refine ⟨fun b => O1 b + ind (Value.ownBlock (.slice A c k)) b, ⟨vs.take (c * P.cellsOf e), O1, ?_, ?_, hu.take c, r1, fun b => rfl⟩, ?_⟩
 ·have hcl : (xs.take c).length = c := by rw [zlh, Nat.min_eq_left hc]
  rw [hcl]
  have hmul := Nat.mul_le_mul_right (P.cellsOf e) hc
  refine ⟨by rw [zlh, ho.1]; exact Nat.min_eq_left hmul, ?_⟩
  rcases ho.2 with ⟨e1, e2⟩ | ⟨g, c', cur, e1, hb, hg, hnc, hm, hcs, ht⟩
  ·injection e1 with e1 e3 e4; subst e1 e4
   have : c = 0 := by omega
   subst this; exact .inl ⟨rfl, rfl⟩
  ·injection e1 with e1 e3 e4; subst e1 e4
   refine .inr ⟨g, k, cur, rfl, hb, hg, by omega, hm, hcs, ?_⟩
   rw [← ht, List.take_take, Nat.min_eq_left hmul]
 ·cases cap <;> exact hcap
 ·intro b
  have e1 : Value.ownBlock (.slice A c k) = Value.ownBlock (.slice A len k) := by cases A <;> rfl
  have := hOO b; have := h3 b
  simp only [e1]; omega
theorem yi7 (hst : St P F B0 w0 n env a.tmps w S Os) (hn : 0 < n) (hN : (a.tmps.size = cx.N ∧ F.lo = cx.lo)) {x : Operand} (ho : o.op = .assign x) (h : (yj6 cx o.dst x).run env = some (l, eff)) : o.wp P a w (Post P F B0 w0 S cx env eff a) Q := by
 have hrun : (execOp a.eval o).run P w = .ok (.value (a.eval x)) w := by simp [execOp, ho]
 obtain ⟨y, s, l', hv, hk⟩ := zqm h
 have gen : (match ycd s y with | some z => outP cx o.dst z [] [] | none => .fail : RP Eff).run env = some (l', eff) → o.wp P a w (Post P F B0 w0 S cx env eff a) Q := by
  intro hg
  cases hr : ycd s y with
  | none => rw [hr] at hg; exact (zqd hg).elim
  | some z => rw [hr] at hg; exact fin0 hst hn hN hg hrun (ygw hst hn hv hr)
 split at hk
 ·rename_i e cap xs t d hyd
  obtain ⟨O, hs, hsl, _⟩ := hv.ev hst hn
  obtain ⟨rfl, htm, hlk⟩ := hsl t rfl
  by_cases hd : t = d
  ·rw [if_pos hd] at hk; exact (zqd hk).elim
  ·rw [if_neg hd] at hk
   rw [← hyd] at hk
   exact yoa hst hn hN hlk (hs.rv rfl) hk (by rw [hyd]; intro e; injection e with e; exact hd e.symm) hrun
 ·rename_i r c k d hyd
  by_cases hrd : r = d
  ·subst hrd
   rw [if_pos rfl] at hk
   obtain ⟨l2, hk⟩ := yan hk
   split at hk
   ·rename_i e cap xs hlk
    obtain ⟨⟨hc, hdN, hkc⟩, hk⟩ := yae hk
    injection hk with hk; injection hk with h1 h2
    have hws : eff.ws = [(r, .sl .own e cap (xs.take c))] := by rw [← h2]
    have hkl : eff.kl = [(r, false)] := by rw [← h2]
    obtain ⟨O, hs, hsl, hno⟩ := hv.ev hst hn
    rcases hs with ⟨_, ha, _⟩ | hs
    ·obtain ⟨vr, u, hvr, hlv, A, len, kk, A', c', hu, hv', hle, hcc, hkk, hk3, _, hA⟩ := ha _ hlk _ _ _ _ rfl (.inl rfl)
     injection hlv with hlv; subst hlv
     obtain ⟨v0, hv0, hs0⟩ := hst.rel r _ hlk
     rw [hvr] at hv0; injection hv0 with hv0; subst hv0
     obtain ⟨m, rfl⟩ : ∃ m, n = m + 1 := ⟨n - 1, by omega⟩
     have hr0 := hs0.rv rfl
     have hkk' : c' = kk := by
      rcases hkc with e1 | e1
      ·subst e1; simp only at hk3; omega
      ·cases k with
       | none => simp only at hk3; omega
       | some c0 =>
        simp only at hk3
        subst e1
        obtain ⟨_, _, _, hcap, _⟩ := hr0
        rw [hu] at hcap
        simp only [ycs] at hcap
        omega
     obtain ⟨O1, hf, hO1⟩ := hr0.front hu c hc
     have hst1 := hst.kills hn eff.kl
     have hnr : zrm r (kills eff.kl env) := zrm.of_mem (by rw [hkl]; simp)
     refine ybz hrun ?_
     have key := hst1.put (x := .sl .own e cap (xs.take c)) (v := a.eval x) (O := O1) (zly _) (d := r) (by omega) hnr (Below.refl _ _) (fun _ h => h) hst.sLt (fun b t _ hb => hst.excl b t hb)
      (fun b hb => by have := hst.excl b r hb; have := hO1 b; omega) (fun _ _ => rfl) (fun b => by have := hst.one r b; have := hO1 b; omega) ?_ ?_
     ·rw [hyd]
      exact ⟨rfl, by simpa [Act.put] using hN, m + 1, S, _, hn, .refl _ _, by unfold zqi; rw [hws]; exact key⟩
     ·intro b t ht hb
      rcases hst.dis r t b (Ne.symm ht) with h | h
      ·have := hO1 b; omega
      ·exact h
     ·refine .inr ?_
      rw [hv', hA rfl, hkk']
      exact hf
    ·have := hs.noLeaf; cases this
   ·exact (zqd hk).elim
  ·rw [if_neg hrd] at hk
   rw [← hyd] at hk
   exact gen hk
 ·exact gen hk
theorem ybj {v : Value} (h : v.oneCell' = true) : v.cells = #[v] := by cases v <;> first | rfl | simp [Value.oneCell'] at h
theorem yu3 {cs : Array Value} {e : TypeId} {xs : List AV} (hB : B0 ≤ w.heap.size) (h : Rc (Rv P B0 w S n) cs.toList xs (fun _ => 0)) (hS : ∀ b, S b → b < w.heap.size) :
  Rv P B0 (w.alloc (.cells cs e)) S (n + 1) (.pointer (some ⟨w.heap.size, 0, none⟩)) (.box xs) (ind (some w.heap.size)) := by
 refine ⟨w.heap.size, cs, e, fun _ => 0, rfl, hB, heap_alloc_new w _, h.frame (fun _ h => h) (fun b hb => Below.heap_alloc w _ b (hS b hb)) (fun b hb => by omega), fun b => by simp⟩
theorem yen (hst : St P F B0 w0 n env a.tmps w S Os) (hn : 0 < n) (hN : (a.tmps.size = cx.N ∧ F.lo = cx.lo)) {x : AV} {v : Value} {ob : Obj} (hout : (outP cx o.dst x [] []).run env = some (l, eff))
  (hrun : (execOp a.eval o).run P w = .ok (.value v) (w.alloc ob)) (hx : Rv P B0 (w.alloc ob) S (n + 1) v x (ind (some w.heap.size))) : o.wp P a w (Post P F B0 w0 S cx env eff a) Q := by
 refine yzo hst hn (Nat.le_succ n) hN hout hrun ((Below.refl _ _).alloc (zly _) _) (fun _ h => h) (fun b hb => ?_) (fun b hb => .inl hb) (fun b hb => ?_) (fun b => ?_) (fun b hb => ?_) hx
 ·have := hst.sLt b hb; simp; omega
 ·have := hst.sLt b hb
  unfold ind; rw [if_neg (by intro e; injection e with e; omega)]
 ·unfold ind; split <;> omega
 ·unfold ind at hb
  split at hb
  ·rename_i e; injection e with e; omega
  ·omega
theorem ylm (hcx : CxOk P cx) (hst : St P F B0 w0 n env a.tmps w S Os) (hn : 0 < n) (hN : (a.tmps.size = cx.N ∧ F.lo = cx.lo)) {e : TypeId} (ho : o.op = .alloc e) (h : (yi9 cx o.dst e).run env = some (l, eff)) : o.wp P a w (Post P F B0 w0 S cx env eff a) Q := by
 unfold yi9 at h
 cases ht : tyF cx.T e with
 | none => rw [ht] at h; exact (zqd h).elim
 | some i =>
  rw [ht] at h
  obtain ⟨j, z, d, h1, h2, h3, _⟩ := (hcx.ty e i ht).ex
  refine yen hst hn hN h (v := .pointer (some ⟨w.heap.size, 0, none⟩)) (ob := .cells z.cells e) ?_ (yu3 hst.b0 ?_ hst.sLt)
  ·rw [execOp, ho]
   simp [Instr.alloc, zeroValue, typeInfo, h1, h2, newVar, newRow]
  ·rw [h3]
   obtain ⟨m, rfl⟩ : ∃ m, n = m + 1 := ⟨n - 1, by omega⟩
   exact Rc.atoms (fun v => ⟨rfl, fun _ => rfl⟩) fun _ => rfl
theorem ypz (hst : St P F B0 w0 n env a.tmps w S Os) (hn : 0 < n) (hN : (a.tmps.size = cx.N ∧ F.lo = cx.lo)) {e : TypeId} {x : Operand} (ho : o.op = .box e x) (h : (ywt cx o.dst x).run env = some (l, eff)) : o.wp P a w (Post P F B0 w0 S cx env eff a) Q := by
 obtain ⟨y, s, l', hv, hk⟩ := zqm h
 obtain ⟨O, hs, _, _⟩ := hv.ev hst hn
 have run : ∀ v : Value, a.eval x = v → (execOp a.eval o).run P w = .ok (.value (.pointer (some ⟨w.heap.size, 0, none⟩))) (w.alloc (.cells v.cells e)) := by
  intro v hvv
  rw [execOp, ho]
  simp [Instr.box, newVar, newRow, hvv]
 have one : zqt y = true → (outP cx o.dst (.box [y]) [] []).run env = some (l', eff) → o.wp P a w (Post P F B0 w0 S cx env eff a) Q := by
  intro hp hout
  have hr := hs.rv (by cases y <;> first | rfl | simp [zqt] at hp)
  have hz := zqp hr hp
  have hc : (a.eval x).cells = #[a.eval x] := by
   obtain ⟨m, rfl⟩ := hr.pos
   cases y with
   | atom u => exact ybj (by rw [hr.1]; exact hp)
   | sl mm ee cap xs =>
    cases mm with
    | own => simp [zqt] at hp
    | fresh => obtain ⟨A, k, hv, _⟩ := hr; rw [hv]; rfl
    | any => obtain ⟨A, k, hv, _⟩ := hr; rw [hv]; rfl
   | _ => simp [zqt] at hp
  refine yen hst hn hN hout (run _ rfl) (yu3 hst.b0 ?_ hst.sLt)
  rw [hc]
  exact .cons (hr.cast fun b => (hz b).symm) (.nil fun _ => rfl) fun b => rfl
 cases y with
 | agg cs =>
  obtain ⟨hp, hk⟩ := zqq hk
  have hr := hs.rv rfl
  obtain ⟨m, rfl⟩ := hr.pos
  obtain ⟨vs, hvv, hrc⟩ := hr
  have hz := zrg hrc hp
  refine yen hst hn hN hk (run _ hvv) (yu3 hst.b0 ?_ hst.sLt)
  exact (hrc.cast fun b => (hz b).symm).le (Nat.le_succ m)
 | _ =>
  obtain ⟨hp, hk⟩ := zqq hk
  exact one hp hk
end
end Go.Lf
end

section
namespace Go.Lf
open Go Go.RowKit
def NodeAt (P : Program) (B0 : Nat) (w : World) (S : Nat → Prop) (n : Nat) (Os : Nat → Own) (v : Value) (e : TypeId) (cap : Option Nat) (xs : List AV) : Prop :=
 ∃ A k, v = .slice A xs.length k ∧ xs.length ≤ k ∧ k ≤ maxLen ∧ ycs cap v ∧ Uni (P.cellsOf e) xs ∧
  (xs ≠ [] → ∃ g off C T fr O1, A = some ⟨g, off, none⟩ ∧ w.heap[g]? = some (.cells C T fr) ∧ off + (flat xs).length ≤ C.size ∧
   Rc (Rv P B0 w S n) ((C.toList.drop off).take (flat xs).length) (flat xs) O1 ∧ (S g ∨ ∃ t, 0 < Os t g) ∧ ∀ b, 0 < O1 b → ∃ t, 0 < Os t b)
theorem zrh (g off d : Nat) : (⟨g, off, none⟩ : Addr).add d = ⟨g, off + d, none⟩ := by
 unfold Addr.add; split <;> simp_all
section
variable {P : Program} {F : Frm} {B0 : Nat} {w0 w w' : World} {S S' : Nat → Prop} {n n' : Nat} {env : Env} {a : Act} {Os : Nat → Own} {cx : Cx} {o : Oper} {Q : Exit → Act → World → Prop} {eff : Eff} {l : List Nat}
theorem ymd {m : Nat} {v : Value} {mm : Mode} {e : TypeId} {cap : Option Nat} {xs : List AV} {O : Own} (h : Rv P B0 w S m v (.sl mm e cap xs) O) (hm : m ≤ n) (hO : ∀ b, 0 < O b → ∃ t, 0 < Os t b) : NodeAt P B0 w S n Os v e cap xs := by
 obtain ⟨q, rfl⟩ := h.pos
 have shs : ∀ {mm : Mode}, Shs P B0 w S (Rv P B0 w S q) mm e cap xs v O → NodeAt P B0 w S n Os v e cap xs := by
  intro mm ⟨A, k, hv, hk, hml, hcap, hu, hz, hx⟩
  refine ⟨A, k, hv, hk, hml, hcap, hu, fun hne => ?_⟩
  obtain ⟨g, off, C, T, fr, hA, hs, _, hg, hsz, hr⟩ := hx hne
  exact ⟨g, off, C, T, fr, O, hA, hg, hsz, hr.le (by omega), .inl hs, hO⟩
 cases mm with
 | own =>
  obtain ⟨vs, O', ho, hcap, hu, hr, hOO⟩ := h
  rcases ho.2 with ⟨rfl, hl⟩ | ⟨g, c, cur, rfl, hb, hg, hnc, hml, hcs, ht⟩
  ·have : xs = [] := zli hl
   subst this
   exact ⟨none, 0, rfl, zly _, Nat.zero_le _, hcap, hu, fun h => absurd rfl h⟩
  ·refine ⟨some ⟨g, 0, none⟩, c, rfl, hnc, hml, hcap, hu, fun hne => ⟨g, 0, cur, e, (0, 0), O', rfl, hg, ?_, ?_, .inr ?_, fun b hb => hO b (by have := hOO b; omega)⟩⟩
   ·rw [zqn hu, hcs]; have := Nat.mul_le_mul_right (P.cellsOf e) hnc; omega
   ·rw [zqn hu, List.drop_zero, ht]; exact hr.le (by omega)
   ·exact hO g (by have := hOO g; simp [ind, Value.ownBlock] at this; omega)
 | fresh => exact shs h
 | any => exact shs h
theorem ykl {sz : Nat} {xs : List AV} (h : Uni sz xs) (lo k : Nat) (hk : lo + k ≤ xs.length) :
  ∃ X Y, flat xs = X ++ flat ((xs.drop lo).take k) ++ Y ∧ X.length = lo * sz ∧ (flat ((xs.drop lo).take k)).length = k * sz := by
 refine ⟨flat (xs.take lo), flat (xs.drop (lo + k)), ?_, ?_, ?_⟩
 ·rw [← zrk, ← zrk]; congr 1; exact ybg xs lo k
 ·rw [zqn (h.take lo), zlh, Nat.min_eq_left (by omega)]
 ·rw [zqn ((h.drop lo).take k), zlh, List.length_drop, Nat.min_eq_left (by omega)]
theorem NodeAt.sub {u v : Value} {e : TypeId} {cap : Option Nat} {xs : List AV} {lo c : Nat} {k : Option Nat} (h : NodeAt P B0 w S n Os u e cap xs) (hs : subOk P e (some (lo, c, k)) u v) (hlc : lo + c ≤ xs.length) :
  NodeAt P B0 w S n Os v e (yau lo cap k) ((xs.drop lo).take c) := by
 obtain ⟨A, kk, rfl, hk, hml, hcap, hu, hx⟩ := h
 obtain ⟨A0, l0, k0, A', c', e1, rfl, hle, hcc, hkk, hk3, hA1, hA2⟩ := hs
 injection e1 with e1 e2 e3; subst e1 e2 e3
 have hlen : ((xs.drop lo).take c).length = c := by simp; omega
 refine ⟨A', c', by rw [hlen], by rw [hlen]; exact hcc, by omega, ?_, (hu.drop lo).take c, fun hne => ?_⟩
 ·cases k with
  | some c0 => simp only at hk3; simp [yau, ycs, hk3]
  | none =>
   cases cap with
   | none => trivial
   | some c0 => simp only [ycs] at hcap; simp only at hk3; simp only [yau, Option.map_some, ycs]; omega
 ·have hc0 : c ≠ 0 := by intro e; subst e; simp at hne
  have hxne : xs ≠ [] := by intro e; subst e; simp at hne
  obtain ⟨g, off, C, T, fr, O1, rfl, hg, hsz, hr, hS, hO⟩ := hx hxne
  obtain ⟨X, Y, hfl, hX, hM⟩ := ykl hu lo c hlc
  have hr0 := hr
  rw [hfl] at hr0
  obtain ⟨P1, P2, P3, _, r2, _, hP⟩ := hr0.split3
  have hlenf : (flat xs).length = lo * P.cellsOf e + c * P.cellsOf e + Y.length := by rw [hfl]; simp only [zlg, hX, hM]
  refine ⟨g, off + lo * P.cellsOf e, C, T, fr, P2, by rw [hA1 hc0, Option.map_some, zrh], hg, by rw [hM]; omega, ?_, hS, fun b hb => hO b (by have := hP b; omega)⟩
  rw [hX, hM] at r2
  rw [hM]
  have e : (((C.toList.drop off).take (X ++ flat ((xs.drop lo).take c) ++ Y).length).drop (lo * P.cellsOf e)).take (c * P.cellsOf e) = (C.toList.drop (off + lo * P.cellsOf e)).take (c * P.cellsOf e) := by
   rw [List.drop_take, List.take_take, List.drop_drop, Nat.min_eq_left (by simp only [zlg, hX, hM]; omega)]
  rw [e] at r2
  exact r2
theorem yaz {x q : AV} {rng : Option (Nat × Nat × Option Nat)} (h : ybw x rng = some q) :
  (∃ m e cap xs, x = .sl m e cap xs ∧ rng = none ∧ q = .sl m e cap xs) ∨
  (∃ m e cap xs lo c k, x = .sl m e cap xs ∧ rng = some (lo, c, k) ∧ lo + c ≤ xs.length ∧ q = .sl m e (yau lo cap k) ((xs.drop lo).take c)) := by
 cases x with
 | sl m e cap xs =>
  cases rng with
  | none => injection h with h; exact .inl ⟨m, e, cap, xs, rfl, rfl, h.symm⟩
  | some lck =>
   obtain ⟨lo, c, k⟩ := lck
   simp only [ybw] at h
   by_cases hl : lo + c ≤ xs.length
   ·rw [if_pos hl] at h; injection h with h; exact .inr ⟨m, e, cap, xs, lo, c, k, rfl, rfl, hl, h.symm⟩
   ·rw [if_neg hl] at h; cases h
 | _ => simp [ybw] at h
theorem St.at (hst : St P F B0 w0 n env a.tmps w S Os) {r : Nat} {p : Path} {xr y : AV} (hr : lk env r = some xr) (hrt : zqu xr = true) (hg : getC xr p = some y) :
  ∃ (vr : Value) (m : Nat) (u : Value) (Oy Oq : Own), a.tmps[r]? = some vr ∧ Rv P B0 w S n vr xr (Os r) ∧ m ≤ n ∧ Rv P B0 w S m u y Oy ∧ LV P w vr xr p = some u ∧ (∀ b, Os r b = Oy b + Oq b) := by
 obtain ⟨vr, hv, hs⟩ := hst.rel r xr hr
 have hrv := hs.rv (by cases xr <;> first | rfl | simp [zqu] at hrt)
 obtain ⟨m, u, Oy, Oq, hm, hy, hlv, hO, _⟩ := yqh p n vr xr y (Os r) hrv (hst.one r) hg
 exact ⟨vr, m, u, Oy, Oq, hv, hrv, hm, hy, hlv, hO⟩
def yvf (env : Env) (y z : AV) : Prop :=
 match y with
 | .sl m e cap xs => z = .sl m e cap xs
 | .al r p rng => ∃ xr z0, lk env r = some xr ∧ getC xr p = some z0 ∧ ybw z0 rng = some z
 | .atom u => z = .sl .any 0 (some 0) [] ∧ u = .slice none 0 0
 | _ => False
theorem yb3 {α : Type} (hst : St P F B0 w0 n env a.tmps w S Os) (hn : 0 < n) {x : Operand} {y : AV} {s : Option Nat} (hv : Vl env x y s) {k : AV → RP α} {l : List Nat} {r : α} (h : (yed y k).run env = some (l, r)) :
  ∃ m e cap xs l', (k (.sl m e cap xs)).run env = some (l', r) ∧ NodeAt P B0 w S n Os (a.eval x) e cap xs ∧ yvf env y (.sl m e cap xs) := by
 obtain ⟨O, hs, hsl, hno⟩ := hv.ev hst hn
 have hO : ∀ b, 0 < O b → ∃ t, 0 < Os t b := by
  intro b hb
  cases s with
  | none => have := (hno rfl).1 b; omega
  | some t => obtain ⟨rfl, _⟩ := hsl t rfl; exact ⟨t, hb⟩
 cases y with
 | al rr p rng =>
  obtain ⟨l1, h⟩ := yan h
  cases hr : lk env rr with
  | none => rw [hr] at h; exact (zqd h).elim
  | some xr =>
   rw [hr] at h
   simp only at h
   obtain ⟨z, hg, h⟩ := ybu h
   ·obtain ⟨hpm, h⟩ := zqq h
    obtain ⟨q, hq, h⟩ := ypj h
    ·have hpm' : ∀ {mm : Mode} {e : TypeId} {cap : Option Nat} {xs : List AV}, z = .sl mm e cap xs → p = [] ∨ mm = .own := by
      intro mm e cap xs hz
      rcases hpm with h | h
      ·exact .inl h
      ·subst hz; cases mm <;> first | exact .inr rfl | cases h
     rcases hs with ⟨_, ha, _⟩ | hs
     ·cases s with
      | none => have := (hno rfl).2; cases this
      | some t =>
       obtain ⟨_, _, hlk⟩ := hsl t rfl
       obtain ⟨xr', hxr', hrt⟩ := hst.leaf t _ rr hlk rfl
       rw [hr] at hxr'; injection hxr' with hxr'; subst hxr'
       obtain ⟨vr, m, u, Oy, Oq, hvr, hrv, hm, hy, hlv, hOO⟩ := hst.at hr hrt hg
       rcases yaz hq with ⟨mm, e, cap, xs, rfl, rfl, rfl⟩ | ⟨mm, e, cap, xs, lo, c, kk, rfl, rfl, hlc, rfl⟩
       ·obtain ⟨vr', u', h1, h2, h3⟩ := ha xr hr _ _ _ _ hg (hpm' rfl)
        rw [hvr] at h1; injection h1 with h1; subst h1
        rw [hlv] at h2; injection h2 with h2; subst h2
        refine ⟨mm, e, cap, xs, l1, h, ?_, xr, _, hr, hg, hq⟩
        rw [show a.eval x = u from h3]
        exact ymd hy hm fun b hb => ⟨rr, by have := hOO b; omega⟩
       ·obtain ⟨vr', u', h1, h2, h3⟩ := ha xr hr _ _ _ _ hg (hpm' rfl)
        rw [hvr] at h1; injection h1 with h1; subst h1
        rw [hlv] at h2; injection h2 with h2; subst h2
        have hnode : NodeAt P B0 w S n Os u e cap xs := ymd hy hm fun b hb => ⟨rr, by have := hOO b; omega⟩
        exact ⟨mm, e, _, _, l1, h, hnode.sub h3 hlc, xr, _, hr, hg, hq⟩
     ·have := hs.noLeaf; cases this
 | sl mm e cap xs => exact ⟨mm, e, cap, xs, l, h, ymd (hs.rv rfl) (zly _) hO, rfl⟩
 | atom u =>
  have he := hv.atom hst hn
  simp only [yed] at h
  split at h
  ·rename_i e; cases e
  ·rename_i e; cases e
  ·rename_i e
   injection e with e
   refine ⟨.any, 0, some 0, [], l, h, ?_, rfl, e⟩
   rw [he, e]
   exact ⟨none, 0, rfl, zly _, Nat.zero_le _, rfl, fun x hx => by simp at hx, fun h => absurd rfl h⟩
  ·exact (zqd h).elim
 | _ => exact (zqd h).elim
theorem ypx (hcx : CxOk P cx) (hst : St P F B0 w0 n env a.tmps w S Os) (hn : 0 < n) (hN : (a.tmps.size = cx.N ∧ F.lo = cx.lo)) {t : TypeId} {x : Operand} (ho : o.op = .call { callee := .builtin .len, args := #[x], argTypes := #[t] }) (h : (ys7 cx o.dst t x).run env = some (l, eff)) : o.wp P a w (Post P F B0 w0 S cx env eff a) Q := by
 unfold ys7 at h
 cases ht : tyF cx.T t with
 | none => rw [ht] at h; exact (zqd h).elim
 | some ti =>
  rw [ht] at h
  obtain ⟨_, _, d, _, _, _, _, _, hd, _, _, hk⟩ := (hcx.ty t ti ht).ex
  simp only at h
  split at h
  ·rename_i hkk
   rw [hkk] at hk
   have hk' : d = .string := hk
   rw [hk'] at hd
   obtain ⟨y, s, l', hv, h1⟩ := zqm h
   split at h1
   ·rename_i q
    refine yar hst hn hN h1 ?_
    rw [execOp, ho]
    simp [resolve, invoke, builtin, Builtin.len_, run_underlying hd, hv.atom hst hn, goInt]
   ·exact (zqd h1).elim
  ·rename_i e hkk
   rw [hkk] at hk
   have hk' : d = .slice e := hk
   rw [hk'] at hd
   obtain ⟨y, s, l', hv, h1⟩ := zqm h
   obtain ⟨m, e', cap, xs, l2, h2, ⟨A, k, hvv, _⟩, _⟩ := yb3 hst hn hv h1
   refine yar hst hn hN h2 ?_
   rw [execOp, ho]
   simp [resolve, invoke, builtin, Builtin.len_, run_underlying hd, hvv, goInt]
  ·exact (zqd h).elim
theorem ypy (hcx : CxOk P cx) (hst : St P F B0 w0 n env a.tmps w S Os) (hn : 0 < n) (hN : (a.tmps.size = cx.N ∧ F.lo = cx.lo)) {t : TypeId} {x : Operand} (ho : o.op = .call { callee := .builtin .cap, args := #[x], argTypes := #[t] }) (h : (ys8 cx o.dst t x).run env = some (l, eff)) : o.wp P a w (Post P F B0 w0 S cx env eff a) Q := by
 unfold ys8 at h
 cases ht : tyF cx.T t with
 | none => rw [ht] at h; exact (zqd h).elim
 | some ti =>
  rw [ht] at h
  obtain ⟨_, _, d, _, _, _, _, _, hd, _, _, hk⟩ := (hcx.ty t ti ht).ex
  simp only at h
  split at h
  ·rename_i e hkk
   rw [hkk] at hk
   have hk' : d = .slice e := hk
   rw [hk'] at hd
   obtain ⟨y, s, l', hv, h1⟩ := zqm h
   obtain ⟨m, e', cap, xs, l2, h2, ⟨A, k, hvv, _, _, hcap, _⟩, _⟩ := yb3 hst hn hv h1
   cases cap with
   | none => exact (zqd h2).elim
   | some c =>
    refine yar hst hn hN h2 ?_
    rw [execOp, ho]
    rw [hvv] at hcap
    have hcap' : k = c := hcap
    simp [resolve, invoke, builtin, Builtin.cap_, run_underlying hd, hvv, goInt, hcap']
  ·exact (zqd h).elim
end
end Go.Lf
end

section
namespace Go.Lf
open Go Go.RowKit
section
variable {P : Program} {F : Frm} {B0 : Nat} {w0 w w' : World} {S S' : Nat → Prop} {n n' : Nat} {env : Env} {a : Act} {Os : Nat → Own} {cx : Cx} {o : Oper} {Q : Exit → Act → World → Prop} {eff : Eff} {l : List Nat}
theorem yrz (P : Program) (y : AV) (i c d : Nat) : fo P y i (c + d) = fo P y i c + d := by cases y <;> simp [fo, Nat.add_assoc]
theorem ydg {α : Type} {env : Env} {r : Nat} {p : Path} {k : AV → RP α} {l : List Nat} {e : α} (h : (ymw r p k).run env = some (l, e)) :
  ∃ xr y l', lk env r = some xr ∧ getC xr p = some y ∧ yab y = true ∧ (k y).run env = some (l', e) := by
 obtain ⟨l', h⟩ := yan h
 cases hr : lk env r with
 | none => rw [hr] at h; exact (zqd h).elim
 | some xr =>
  rw [hr] at h
  simp only at h
  obtain ⟨y, hg, h⟩ := ybu h
  obtain ⟨ho, h⟩ := zqq h
  exact ⟨xr, y, l', rfl, hg, ho, h⟩
theorem Vl.adr (hst : St P F B0 w0 n env a.tmps w S Os) (hn : 0 < n) {x : Operand} {r : Nat} {p : Path} {i c : Nat} {s : Option Nat} (h : Vl env x (.adr r p i c) s) :
  Al P env a.tmps w (a.eval x) (.adr r p i c) ∧ ∃ z, lk env r = some z ∧ zqu z = true := by
 obtain ⟨O, hs, hsl, hno⟩ := h.ev hst hn
 rcases hs with ⟨_, ha, _⟩ | hs
 ·cases s with
  | none => have := (hno rfl).2; cases this
  | some t => obtain ⟨_, _, hlk⟩ := hsl t rfl; exact ⟨ha, hst.leaf t _ r hlk rfl⟩
 ·have := hs.noLeaf; cases this
theorem Vl.cp (hst : St P F B0 w0 n env a.tmps w S Os) (hn : 0 < n) {x : Operand} {r : Nat} {s : Option Nat} (h : Vl env x (.cp r) s) :
  Al P env a.tmps w (a.eval x) (.cp r) ∧ ∃ z, lk env r = some z ∧ zqu z = true := by
 obtain ⟨O, hs, hsl, hno⟩ := h.ev hst hn
 rcases hs with ⟨_, ha, _⟩ | hs
 ·cases s with
  | none => have := (hno rfl).2; cases this
  | some t => obtain ⟨_, _, hlk⟩ := hsl t rfl; exact ⟨ha, hst.leaf t _ r hlk rfl⟩
 ·have := hs.noLeaf; cases this
theorem Vl.al (hst : St P F B0 w0 n env a.tmps w S Os) (hn : 0 < n) {x : Operand} {r : Nat} {p : Path} {rng : Option (Nat × Nat × Option Nat)} {s : Option Nat} (h : Vl env x (.al r p rng) s) :
  Al P env a.tmps w (a.eval x) (.al r p rng) ∧ ∃ z, lk env r = some z ∧ zqu z = true := by
 obtain ⟨O, hs, hsl, hno⟩ := h.ev hst hn
 rcases hs with ⟨_, ha, _⟩ | hs
 ·cases s with
  | none => have := (hno rfl).2; cases this
  | some t => obtain ⟨_, _, hlk⟩ := hsl t rfl; exact ⟨ha, hst.leaf t _ r hlk rfl⟩
 ·have := hs.noLeaf; cases this
theorem Vl.rv (hst : St P F B0 w0 n env a.tmps w S Os) (hn : 0 < n) {x : Operand} {y : AV} {s : Nat} (h : Vl env x y (some s)) (hy : zqf y = none) :
  Rv P B0 w S n (a.eval x) y (Os s) ∧ a.tmps[s]? = some (a.eval x) ∧ lk env s = some y := by
 obtain ⟨O, hs, hsl, _⟩ := h.ev hst hn
 obtain ⟨rfl, h1, h2⟩ := hsl s rfl
 exact ⟨hs.rv hy, h1, h2⟩
theorem Vl.plain (hst : St P F B0 w0 n env a.tmps w S Os) (hn : 0 < n) {x : Operand} {y : AV} {s : Option Nat} (h : Vl env x y s) (hy : zqf y = none) (hz : ∀ O, Rv P B0 w S n (a.eval x) y O → Zero O) :
  Rv P B0 w S n (a.eval x) y (fun _ => 0) := by
 obtain ⟨O, hs, _, _⟩ := h.ev hst hn
 have := hs.rv hy
 exact this.cast fun b => (hz O this b).symm
theorem yh1 (hst : St P F B0 w0 n env a.tmps w S Os) (hn : 0 < n) (hN : (a.tmps.size = cx.N ∧ F.lo = cx.lo)) {x : Operand} {ix : Nat} (ho : o.op = .extract x ix) (h : (yh2 cx o.dst x ix).run env = some (l, eff)) : o.wp P a w (Post P F B0 w0 S cx env eff a) Q := by
 obtain ⟨y, s, l', hv, hk⟩ := zqm h
 split at hk
 ·rename_i cs t
  obtain ⟨hr, htm, hlk⟩ := hv.rv hst hn rfl
  have hr0 := hr
  obtain ⟨m, rfl⟩ := hr.pos
  obtain ⟨vs, hvv, hrc⟩ := hr
  have comp : ∀ {z : AV}, cs[ix]? = some z → ∃ v O1, vs[ix]? = some v ∧ Rv P B0 w S m v z O1 ∧ (execOp a.eval o).run P w = .ok (.value v) w := by
   intro z hz
   obtain ⟨v, O1, h1, h2, _⟩ := hrc.get hz
   have h1' : vs[ix]? = some v := by simpa using h1
   refine ⟨v, O1, h1', h2, ?_⟩
   rw [execOp, ho]
   simp [Instr.extract, hvv, h1']
  split at hk
  ·rename_i e cap xs hz
   obtain ⟨v, O1, h1, h2, hrun⟩ := comp hz
   refine fin0 hst hn hN hk hrun (.inl ⟨?_, t, _, rfl, hlk, rfl⟩)
   intro xr hxr m' e' cap' xs' hg
   rw [hlk] at hxr; injection hxr with hxr; subst hxr
   refine fun _ => ⟨_, v, htm, ?_, rfl⟩
   have hlt := (zlk.1 hz).1
   have hsg : seg (.tup cs) 0 ix 1 = some ((cs.drop ix).take 1) := by simp only [seg]; rw [if_pos ⟨trivial, by omega⟩]
   have hd : (cs.drop ix).take 1 = [.sl .own e cap xs] := by
    obtain ⟨hi, he⟩ := zlk.1 hz
    rw [List.drop_eq_getElem_cons hi, he]; rfl
   unfold LV
   rw [hsg, hd, hvv]
   simp only [ya8, h1]
   rfl
  ·rename_i ms hz
   obtain ⟨hp, hk⟩ := zqq hk
   obtain ⟨v, O1, h1, h2, hrun⟩ := comp hz
   refine fin0 hst hn hN hk hrun (.inr ?_)
   refine (h2.le (Nat.le_succ m)).cast fun b => ?_
   obtain ⟨q, rfl⟩ := h2.pos
   obtain ⟨us, _, hrc2⟩ := h2
   exact (zrg hrc2 hp b).symm
  ·rename_i z _ _ hz
   obtain ⟨hp, hk⟩ := zqq hk
   obtain ⟨v, O1, h1, h2, hrun⟩ := comp hz
   exact fin0 hst hn hN hk hrun (.inr ((h2.le (Nat.le_succ m)).cast fun b => (zqp h2 hp b).symm))
  ·exact (zqd hk).elim
 ·exact (zqd hk).elim
theorem yiy {t : TypeId} {f : Nat} {fs : Array Field} {off size : Nat} (hu : P.underlying t = some (.struct fs)) (hf : (fs.toList.map (fun x => (x.offset, P.cellsOf x.type)))[f]? = some (off, size)) (hs : 0 < size) (ad : Addr) :
  (Instr.fieldAt t (.pointer (some ad)) f).run P w = .ok (.pointer (some (ad.add off))) w := by
 rw [List.getElem?_map] at hf
 cases hq : fs.toList[f]? with
 | none => rw [hq] at hf; cases hf
 | some fd =>
  rw [hq] at hf
  simp only [Option.map_some, Option.some.injEq, Prod.mk.injEq] at hf
  obtain ⟨rfl, rfl⟩ := hf
  have hq' : fs[f]? = some fd := by simpa using hq
  cases hi : P.info? fd.type with
  | none => simp [Program.cellsOf, hi] at hs
  | some j =>
   have hj : j.size ≠ 0 := by simp [Program.cellsOf, hi] at hs; omega
   simp [Instr.fieldAt, run_underlying hu, hq', Instr.sureAddr, fieldPlace, sizeOf, typeInfo, hi, hj]
theorem yfp (hcx : CxOk P cx) (hst : St P F B0 w0 n env a.tmps w S Os) (hn : 0 < n) (hN : (a.tmps.size = cx.N ∧ F.lo = cx.lo)) {t : TypeId} {x : Operand} {f : Nat} (ho : o.op = .fieldAddr t x f) (h : (yc3 cx o.dst t x f).run env = some (l, eff)) : o.wp P a w (Post P F B0 w0 S cx env eff a) Q := by
 unfold yc3 at h
 cases ht : tyF cx.T t with
 | none => rw [ht] at h; exact (zqd h).elim
 | some ti =>
  rw [ht] at h
  obtain ⟨_, _, d, _, _, _, _, _, hd, _, _, hk⟩ := (hcx.ty t ti ht).ex
  simp only at h
  split at h
  ·rename_i fs hkk
   rw [hkk] at hk
   obtain ⟨fa, hda, hfs, _⟩ := hk
   rw [hda] at hd
   split at h
   ·rename_i off size hf
    obtain ⟨hsz, h⟩ := zqq h
    rw [← hfs] at hf
    obtain ⟨y, s, l', hv, h1⟩ := zqm h
    have run : ∀ ad, a.eval x = .pointer (some ad) → (execOp a.eval o).run P w = .ok (.value (.pointer (some (ad.add off)))) w := by
     intro ad had
     rw [execOp, ho]
     simp only [had, Sem.run_bind, yiy hd hf hsz ad, Result.andThen_ok, Sem.run_pure]
    split at h1
    ·rename_i cs q
     obtain ⟨hr, htm, hlk⟩ := hv.rv hst hn rfl
     obtain ⟨m, rfl⟩ := hr.pos
     obtain ⟨g, C, T, O', hvv, _⟩ := hr
     refine fin0 hst hn hN h1 (run _ hvv) (.inl ⟨?_, q, _, rfl, hlk, rfl⟩)
     intro xr hxr z hg ho'
     rw [hlk] at hxr; injection hxr with hxr; subst hxr
     injection hg with hg; subst hg
     exact ⟨_, _, ⟨g, 0, none⟩, htm, rfl, by rw [hvv]; rfl, by rw [zrh]; rfl⟩
    ·rename_i r p i c
     obtain ⟨ha, z, hz, hzr⟩ := hv.adr hst hn
     obtain ⟨xr, y, l2, hxr, hy, hyo, h2⟩ := ydg h1
     rw [hz] at hxr; injection hxr with hxr; subst hxr
     obtain ⟨vr, u, ad, e1, e2, e3, e4⟩ := ha z hz y hy hyo
     refine fin0 hst hn hN h2 (run _ e4) (.inl ⟨?_, r, z, rfl, hz, hzr⟩)
     intro xr hxr y' hg ho'
     rw [hz] at hxr; injection hxr with hxr; subst hxr
     rw [hy] at hg; injection hg with hg; subst hg
     exact ⟨vr, u, ad, e1, e2, e3, by rw [zrh, yrz, Nat.add_assoc]⟩
    ·rename_i cs c
     obtain ⟨hc, h1⟩ := zqq h1
     have hr := hv.plain hst hn rfl (fun O h => by obtain ⟨m, rfl⟩ := h.pos; obtain ⟨_, _, _, _, _, _, _, _, _, _, hz, _⟩ := h; exact hz)
     obtain ⟨m, rfl⟩ := hr.pos
     obtain ⟨g, q, C, T, fr, hvv, hS, hg, h2, h3, hz, hrc⟩ := hr
     refine fin0 hst hn hN h1 (run _ hvv) (.inr ?_)
     rw [zrh]
     refine ⟨g, q + off, C, T, fr, rfl, hS, hg, by omega, ?_, hz, ?_⟩
     ·rw [show q + off - (c + off) = q - c by omega]; exact h3
     ·rw [show q + off - (c + off) = q - c by omega]; exact hrc
    ·exact (zqd h1).elim
   ·exact (zqd h).elim
  ·exact (zqd h).elim
end
end Go.Lf
end
