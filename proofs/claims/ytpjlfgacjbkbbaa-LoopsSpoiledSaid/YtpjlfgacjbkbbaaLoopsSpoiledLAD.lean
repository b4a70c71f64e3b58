/- Part 4 of the evaluator and of the contracts that the claim uses. -/
import Derived.Deep.Slices
import Derived.DeepKeys2
import Derived.ChangeArms
import Derived.OpenShut
import Derived.WideShapes
import Derived.Carry
import Derived.Laws.Cover2
import Derived.Test.YtpjlfgacjbkbbaaLoopsSpoiledLAA
import Derived.Test.YtpjlfgacjbkbbaaLoopsSpoiledLAB
import Derived.Test.YtpjlfgacjbkbbaaLoopsSpoiledLAC
set_option linter.unusedVariables false
set_option linter.unusedSimpArgs false
set_option linter.constructorNameAsVariable false
set_option linter.unusedSectionVars false
open Go.IntKind (i64 u8)

section
namespace Go.Lf
open Go Go.RowKit Go.ChangeShapes Go.WideShapes Go.Deep
def aggT (P : Program) (t : TypeId) : Bool := match P.underlying t with
 | some d => yir d
 | none => false
def elOf (P : Program) (e : TypeId) (cs : List AV) : AV := if aggT P e = true then .agg cs else cs.headD .bad
def Sup (P : Program) : Nat → TypeId → Bool
 | 0, _ => false
 | m + 1, t => match P.underlying t with
  | some .bool | some (.int _) | some .string => P.cellsOf t == 1
  | some (.slice e) => P.cellsOf t == 1 && decide (0 < P.cellsOf e) && (aggT P e || P.cellsOf e == 1) && Sup P m e
  | some (.array n e) => P.cellsOf t == n * P.cellsOf e && Sup P m e
  | some (.struct fs) => P.runs 0 fs.toList == some (P.cellsOf t) && fs.toList.all fun f => Sup P m f.type
  | _ => false
def ya0 (P : Program) : Nat → TypeId → List AV → Prop
 | 0, _, _ => False
 | m + 1, t, ys => match P.underlying t with
  | some .bool => ∃ b, ys = [.atom (.bool b)]
  | some (.int k) => ∃ i, ys = [.atom (.int k i)] ∧ (Lit.int k i).wf = true
  | some .string => ∃ s, ys = [.atom (.string s)] ∧ s.size ≤ maxLen
  | some (.slice e) => ∃ xs, ys = [.sl .any e none xs] ∧ xs.length ≤ maxLen ∧ ∀ x ∈ xs, ∃ cs, x = elOf P e cs ∧ cs.length = P.cellsOf e ∧ ya0 P m e cs
  | some (.array n e) => ∃ yss : List (List AV), ys = yss.flatten ∧ yss.length = n ∧ ∀ cs ∈ yss, ya0 P m e cs
  | some (.struct fs) => ∃ yss : List (List AV), ys = yss.flatten ∧ F2 (fun f cs => ya0 P m f.type cs) fs.toList yss
  | _ => False
section
variable {H : Type} {enc : TypeId × Value → H} {P : Program} {w : World} {base B0 : Nat} {spare : Nat → Bool} {held : Bool} {S : Nat → Prop}
theorem Rc.flatten {R : Value → AV → Own → Prop} : ∀ {css : List (List Value)} {yss : List (List AV)}, F2 (fun cs ys => Rc R cs ys (fun _ => 0)) css yss → Rc R css.flatten yss.flatten (fun _ => 0)
 | [], [], _ => .nil fun _ => rfl
 | _ :: _, _ :: _, .cons h t => h.app (Rc.flatten t) fun _ => rfl
theorem F2.ofFn {α β γ : Type} {R : β → γ → Prop} (f : α → β) : ∀ (l : List α), (∀ x ∈ l, ∃ y, R (f x) y) → ∃ ys, F2 R (l.map f) ys
 | [], _ => ⟨[], .nil⟩
 | x :: l, h => by
  obtain ⟨y, hy⟩ := h x (by simp)
  obtain ⟨ys, hys⟩ := F2.ofFn f l fun z hz => h z (by simp [hz])
  exact ⟨y :: ys, .cons hy hys⟩
theorem F2.len {α β : Type} {R : α → β → Prop} : ∀ {l : List α} {m : List β}, F2 R l m → l.length = m.length
 | [], [], _ => rfl
 | _ :: _, _ :: _, .cons _ t => by simp [F2.len t]
theorem F2.imp {α β : Type} {R R' : α → β → Prop} (h : ∀ a b, R a b → R' a b) : ∀ {l : List α} {m : List β}, F2 R l m → F2 R' l m
 | [], [], _ => .nil
 | _ :: _, _ :: _, .cons hr t => .cons (h _ _ hr) (F2.imp h t)
theorem F2.unmap {α β γ : Type} {R : β → γ → Prop} {f : α → β} : ∀ {l : List α} {m : List γ}, F2 R (l.map f) m → F2 (fun a c => R (f a) c) l m
 | [], [], _ => .nil
 | _ :: _, _ :: _, .cons hr t => .cons hr (F2.unmap t)
theorem F2.mem_right {α β : Type} {R : α → β → Prop} : ∀ {l : List α} {m : List β}, F2 R l m → ∀ b ∈ m, ∃ a ∈ l, R a b
 | [], [], _, b, hb => by simp at hb
 | a :: _, _ :: _, .cons hr t, b, hb => by
  rcases List.mem_cons.1 hb with rfl | hb
  ·exact ⟨a, by simp, hr⟩
  ·obtain ⟨a', ha, h⟩ := F2.mem_right t b hb
   exact ⟨a', by simp [ha], h⟩
theorem yip {a : Addr} {n : Nat} {cs : List Value} (h : w.cells? base a n = some cs) (hn : 0 < n) : a.spot = none ∧ ∃ C T fr, w.heap[a.block]? = some (.cells C T fr) ∧ a.off + n ≤ C.size ∧ cs = (C.toList.drop a.off).take n := by
 obtain ⟨_, hl, hc⟩ := World.cells?_some h
 have hs : ∀ i, (a.add i).spot.isSome = true → a.spot.isSome = true ∨ True := fun _ _ => .inr trivial
 have key : ∀ i, i < n → ∃ v, w.cell? (a.add i) = some v := fun i hi => ⟨cs[i]'(by omega), by rw [hc i hi]; exact zle (by omega)⟩
 obtain ⟨v0, h0⟩ := key 0 hn
 have hsp : a.spot = none := by
  cases hq : a.spot with
  | none => rfl
  | some q =>
   exfalso
   unfold World.cell? at h0
   split at h0
   ·rw [if_pos (by simp [Addr.add, hq])] at h0
    cases h0
   ·cases h0
 have hadd : ∀ i, a.add i = ⟨a.block, a.off + i, none⟩ := fun i => by
  obtain ⟨b, o, s⟩ := a
  simp only at hsp
  subst hsp
  exact zrh b o i
 refine ⟨hsp, ?_⟩
 rw [hadd] at h0
 cases hb : w.heap[a.block]? with
 | none => simp [World.cell?, hb] at h0
 | some ob =>
  cases ob with
  | cells C T fr =>
   have cell : ∀ i, w.cell? (a.add i) = C[a.off + i]? := fun i => by rw [hadd]; simp [World.cell?, hb]
   refine ⟨C, T, fr, rfl, ?_, ?_⟩
   ·obtain ⟨v, hv⟩ := key (n - 1) (by omega)
    rw [cell] at hv
    have := (zlj.1 hv).1
    omega
   ·apply List.ext_getElem?
    intro i
    rw [List.getElem?_take]
    split
    ·rename_i hi
     rw [← hc i hi, cell, List.getElem?_drop]
     simp
    ·rename_i hi
     exact List.getElem?_eq_none (by omega)
  | _ => simp [World.cell?, hb] at h0
theorem ylx {e : TypeId} {cs : List AV} (h : aggT P e = true ∨ cs.length = 1) (h1 : aggT P e = false → ∀ c ∈ cs, c.ecells = [c]) : (elOf P e cs).ecells = cs := by
 unfold elOf
 cases ha : aggT P e with
 | true => rfl
 | false =>
  rcases h with h | h
  ·rw [ha] at h; cases h
  ·obtain ⟨c, rfl⟩ := List.length_eq_one_iff.1 h
   simpa using h1 ha c (by simp)
theorem ymo : ∀ {m : Nat} {t : TypeId} {ys : List AV}, aggT P t = false → ya0 P m t ys → ∀ c ∈ ys, c.ecells = [c] := by
 intro m t ys ha h c hc
 cases m with
 | zero => exact h.elim
 | succ m =>
  unfold ya0 at h
  unfold aggT at ha
  split at h
  ·obtain ⟨b, rfl⟩ := h; simp at hc; subst hc; rfl
  ·obtain ⟨i, rfl, _⟩ := h; simp at hc; subst hc; rfl
  ·obtain ⟨s, rfl, _⟩ := h; simp at hc; subst hc; rfl
  ·obtain ⟨xs, rfl, _⟩ := h; simp at hc; subst hc; rfl
  ·rename_i hu; rw [hu] at ha; simp [yir] at ha
  ·rename_i hu; rw [hu] at ha; simp [yir] at ha
  ·exact h.elim
theorem ymd (hS : ∀ b, b < w.heap.size → S b) : ∀ (m : Nat) (t : TypeId) (cs : List Value) (fuel : Nat) (x : DataW H × List MemPlace), Sup P m t = true → DataW.trod enc P w base spare held fuel t cs = some x →
  ∃ ys, ya0 P m t ys ∧ Rc (Rv P B0 w S m) cs ys (fun _ => 0) ∧ cs.length = P.cellsOf t := by
 intro m
 induction m with
 | zero => intro t cs fuel x hs; cases hs
 | succ m ih =>
  intro t cs fuel x hs h
  unfold Sup at hs
  unfold ya0
  have one : ∀ {v : Value}, Rc (Rv P B0 w S (m + 1)) [v] [.atom v] (fun _ => 0) := fun {v} => .cons ⟨rfl, fun _ => rfl⟩ (.nil (O := fun _ => 0) fun _ => rfl) fun _ => rfl
  split at hs
  ·rename_i hu
   obtain ⟨b, rfl, _⟩ := DataW.trod_bool hu h
   exact ⟨_, ⟨b, rfl⟩, one, by simp at hs; simp [hs]⟩
  ·rename_i k hu
   obtain ⟨i, rfl, _, hw⟩ := DataW.trod_int hu h
   exact ⟨_, ⟨i, rfl, hw⟩, one, by simp at hs; simp [hs]⟩
  ·rename_i hu
   obtain ⟨s, rfl, _, hw⟩ := DataW.trod_string hu h
   exact ⟨_, ⟨s, rfl, hw⟩, one, by simp at hs; simp [hs]⟩
  ·rename_i e hu
   simp only [zlo, decide_eq_true_eq, Bool.or_eq_true, beq_iff_eq] at hs
   obtain ⟨⟨⟨ht1, hpos⟩, hag⟩, hse⟩ := hs
   obtain ⟨m, rfl⟩ : ∃ q, m = q + 1 := by cases m with | zero => cases hse | succ q => exact ⟨q, rfl⟩
   rcases open_slice hu h with ⟨rfl, _⟩ | ⟨a, len, cap, m', n, D, Pl, rfl, hb, hle, hcm, hmm, _, hi⟩
   ·refine ⟨_, ⟨[], rfl, Nat.zero_le _, by simp⟩, .cons ?_ (.nil (O := fun _ => 0) fun _ => rfl) fun _ => rfl, by simp [ht1]⟩
    exact ⟨none, 0, rfl, zly _, Nat.zero_le _, trivial, fun x hx => by simp at hx, fun _ => rfl, fun h => absurd rfl h⟩
   ·have hlm : len ≤ m' := by rw [hmm]; split <;> omega
    by_cases hl0 : len = 0
    ·subst hl0
     refine ⟨_, ⟨[], rfl, Nat.zero_le _, by simp⟩, .cons ?_ (.nil (O := fun _ => 0) fun _ => rfl) fun _ => rfl, by simp [ht1]⟩
     exact ⟨some a, cap, rfl, by simp, hcm, trivial, fun x hx => by simp at hx, fun _ => rfl, fun h => absurd rfl h⟩
    ·obtain ⟨cs0, hc0, _⟩ := hi 0 (by omega)
     obtain ⟨hsp, C, T, fr, hg, _, _⟩ := yip hc0 hpos
     have ha : a = ⟨a.block, a.off, none⟩ := by
      obtain ⟨b, o, s⟩ := a
      have : s = none := by simpa [Addr.add] using hsp
      subst this; rfl
     have hg' : w.heap[a.block]? = some (.cells C T fr) := by rw [ha] at hg; simpa [zrh] using hg
     have each : ∀ i, i < len → a.off + i * P.cellsOf e + P.cellsOf e ≤ C.size ∧ ∃ ys, ya0 P (m + 1) e ys ∧ Rc (Rv P B0 w S (m + 1)) ((C.toList.drop (a.off + i * P.cellsOf e)).take (P.cellsOf e)) ys (fun _ => 0) ∧ ys.length = P.cellsOf e := by
      intro i hil
      obtain ⟨cs', hc', ht'⟩ := hi i (by omega)
      obtain ⟨_, C', T', fr', hg2, hfit, hcs⟩ := yip hc' hpos
      rw [ha, zrh] at hg2 hfit hcs
      simp only at hg2 hfit hcs
      rw [hg'] at hg2
      injection hg2 with hg2; injection hg2 with e1 e2 e3
      subst e1
      obtain ⟨ys, h1, h2, h3⟩ := ih e cs' n _ hse ht'
      rw [hcs] at h2
      exact ⟨hfit, ys, h1, h2, by rw [← h2.length, ← hcs, h3]⟩
     obtain ⟨yss, hys⟩ := F2.ofFn (R := fun cs ys => ya0 P (m + 1) e ys ∧ Rc (Rv P B0 w S (m + 1)) cs ys (fun _ => 0) ∧ ys.length = P.cellsOf e) (fun i => (C.toList.drop (a.off + i * P.cellsOf e)).take (P.cellsOf e)) (List.range len) fun i hi' => (each i (by simpa using hi')).2
     have hyl : yss.length = len := by have := hys.len; simpa using this.symm
     have hel : ∀ ys ∈ yss, (elOf P e ys).ecells = ys ∧ ya0 P (m + 1) e ys ∧ ys.length = P.cellsOf e := by
      intro ys hm
      obtain ⟨_, _, h1, _, h3⟩ := hys.mem_right ys hm
      exact ⟨ylx (hag.imp id fun h => by omega) (fun hf => ymo hf h1), h1, h3⟩
     have hfl : flat (yss.map (elOf P e)) = yss.flatten := by
      clear hys hyl
      induction yss with
      | nil => rfl
      | cons y yss ih2 =>
       have e1 := (hel y (by simp)).1
       simp only [List.map_cons, List.flatten_cons]
       rw [← ih2 fun z hz => hel z (by simp [hz])]
       simp only [flat, List.flatMap_cons, e1]
     have hfit : a.off + len * P.cellsOf e ≤ C.size := by
      have := (each (len - 1) (by omega)).1
      have e2 : (len - 1) * P.cellsOf e + P.cellsOf e = len * P.cellsOf e := by
       rw [← Nat.succ_mul]; congr 1; omega
      omega
     have huni : Uni (P.cellsOf e) (yss.map (elOf P e)) := by
      intro x hx
      obtain ⟨ys, hy, rfl⟩ := List.mem_map.1 hx
      rw [(hel ys hy).1]; exact (hel ys hy).2.2
     have hflen : (flat (yss.map (elOf P e))).length = len * P.cellsOf e := by rw [zqn huni, zla, hyl]
     have hchunks : ((List.range len).map fun i => (C.toList.drop (a.off + i * P.cellsOf e)).take (P.cellsOf e)).flatten = (C.toList.drop a.off).take (len * P.cellsOf e) := by
      rw [← chunks_flatten (P.cellsOf e) len ((C.toList.drop a.off).take (len * P.cellsOf e)) (by rw [zlh, List.length_drop, zlr]; exact Nat.min_eq_left (by omega))]
      congr 1
      apply List.map_congr_left
      intro i hi'
      have hil : i < len := by simpa using hi'
      have e3 : i * P.cellsOf e + P.cellsOf e ≤ len * P.cellsOf e := by rw [← Nat.succ_mul]; exact Nat.mul_le_mul_right _ hil
      rw [List.drop_take, List.take_take, List.drop_drop, Nat.min_eq_left (by omega)]
     refine ⟨_, ⟨yss.map (elOf P e), rfl, by rw [zla, hyl]; omega, ?_⟩, .cons ?_ (.nil (O := fun _ => 0) fun _ => rfl) fun _ => rfl, by simp [ht1]⟩
     ·intro x hx
      obtain ⟨ys, hy, rfl⟩ := List.mem_map.1 hx
      exact ⟨ys, rfl, (hel ys hy).2.2, (hel ys hy).2.1⟩
     ·refine ⟨some a, cap, by rw [zla, hyl], by rw [zla, hyl]; exact hle, hcm, trivial, huni, fun _ => rfl, fun _ => ⟨a.block, a.off, C, T, fr, by rw [← ha], hS _ (zlj.1 hg').1, (fun h => by cases h), hg', by rw [hflen]; exact hfit, ?_⟩⟩
      rw [hflen, hfl, ← hchunks]
      exact Rc.flatten (hys.imp fun _ _ h => h.2.1)
  ·rename_i n e hu
   simp only [zlo, beq_iff_eq] at hs
   obtain ⟨hc, hse⟩ := hs
   obtain ⟨xs, n', _, _, hl, hlen, hf⟩ := DataW.trod_array hu h
   obtain ⟨yss, hys⟩ := F2.ofFn (R := fun cs ys => ya0 P m e ys ∧ Rc (Rv P B0 w S m) cs ys (fun _ => 0)) (fun i => (cs.drop (i * P.cellsOf e)).take (P.cellsOf e)) (List.range n) fun i hi' => by
    have hin : i < n := by simpa using hi'
    have := hf i hin
    obtain ⟨ys, h1, h2, _⟩ := ih e _ n' _ hse (this.trans (zle (by omega)))
    exact ⟨ys, h1, h2⟩
   have hyl : yss.length = n := by have := hys.len; simpa using this.symm
   refine ⟨yss.flatten, ⟨yss, rfl, hyl, fun ys hm => by obtain ⟨_, _, h1, _⟩ := hys.mem_right ys hm; exact h1⟩, ?_, hl⟩
   have e1 := chunks_flatten (P.cellsOf e) n cs (by rw [hl, hc])
   have e2 := Rc.flatten (hys.imp fun _ _ h => h.2)
   rw [e1] at e2
   exact e2.le (Nat.le_succ m)
  ·rename_i fs hu
   simp only [zlo, beq_iff_eq, zls] at hs
   obtain ⟨hrun, hall⟩ := hs
   obtain ⟨xs, n', _, _, hl, hlen, hf⟩ := DataW.trod_struct hu h
   obtain ⟨yss, hys⟩ := F2.ofFn (R := fun (fc : Field × List Value) ys => ya0 P m fc.1.type ys ∧ Rc (Rv P B0 w S m) fc.2 ys (fun _ => 0)) (fun f => (f, (cs.drop f.offset).take (P.cellsOf f.type))) fs.toList fun f hfm => by
    obtain ⟨i, hi⟩ := List.getElem?_of_mem hfm
    have hi' : fs[i]? = some f := by simpa using hi
    have hil : i < xs.length := by rw [hlen]; exact (zlj.1 hi').1
    obtain ⟨ys, h1, h2, _⟩ := ih f.type _ n' _ (hall f hfm) ((hf i f hi').trans (zle hil))
    exact ⟨ys, h1, h2⟩
   have hys1 := F2.unmap hys
   refine ⟨yss.flatten, ⟨yss, rfl, hys1.imp fun _ _ h => h.1⟩, ?_, hl⟩
   have e1 := fields_flatten (P := P) cs fs.toList 0 _ hrun hl
   have e2 : F2 (fun c ys => Rc (Rv P B0 w S m) c ys (fun _ => 0)) (fs.toList.map fun f => (cs.drop f.offset).take (P.cellsOf f.type)) yss := by
    clear e1 hlen hf hrun hall hys
    generalize fs.toList = l at hys1
    induction hys1 with
    | nil => exact .nil
    | cons h t ih2 => exact .cons h.2 ih2
   have e3 := Rc.flatten e2
   rw [e1, List.drop_zero] at e3
   exact e3.le (Nat.le_succ m)
  ·cases hs
end
end Go.Lf
end

section
namespace Go.Lf
open Go Go.RowKit Go.ChangeShapes Go.WideShapes Go.Deep
section
variable {H : Type} {enc : TypeId × Value → H} {P : Program} {w w' : World}
theorem yh6 {t e : TypeId} {n : Nat} {r : Reach} {base : Nat} {v : Value} (ht : P.underlying t = some (.array n e)) (h : Value.okWide P w r base t v) : ∃ cs, v = .agg cs ∧ cs.size = P.cellsOf t := by
 unfold Value.okWide at h
 rw [ht] at h
 obtain ⟨cs, h1, h2, _⟩ := h
 exact ⟨cs, h1, h2⟩
theorem yrd {S : Nat → Prop} (hS : ∀ b, b < w.heap.size → S b) {B0 m : Nat} {t : TypeId} {v : Value} {d : DataW H} {p : List MemPlace} {base : Nat} {spare : Nat → Bool} {held : Bool} {r : Reach} {b0 : Nat} (hs : Sup P m t = true)
  (hv : Value.okWide P w r b0 t v) (h : DataW.Trod enc P w base spare held t v d p) : ∃ ys, ya0 P m t ys ∧ ys.length = P.cellsOf t ∧ Rv P B0 w S (m + 1) v (elOf P t ys) (fun _ => 0) := by
 obtain ⟨fuel, hf⟩ := h
 obtain ⟨ys, h1, h2, h3⟩ := ymd (B0 := B0) hS m t _ fuel _ hs hf
 refine ⟨ys, h1, by rw [← h2.length, h3], ?_⟩
 cases m with
 | zero => cases hs
 | succ m =>
  unfold elOf
  have scalar : aggT P t = false → v.cells.toList = [v] → Rv P B0 w S (m + 1 + 1) v (if aggT P t = true then .agg ys else ys.headD .bad) (fun _ => 0) := by
   intro ha hc
   rw [hc] at h2
   rw [if_neg (by rw [ha]; simp)]
   obtain ⟨y, rfl⟩ : ∃ y, ys = [y] := by
    have := h2.length
    exact List.length_eq_one_iff.1 this.symm
   cases h2 with
   | cons hr ht hO =>
    cases ht with
    | nil hz => exact (hr.cast fun b => by have h1 : (0 : Nat) = _ := hO b; have := hz b; omega).le (Nat.le_succ _)
  unfold Sup at hs
  unfold aggT at scalar ⊢
  split at hs
  ·rename_i hu; obtain ⟨b, rfl⟩ := okWide_bool hu hv; exact scalar (by rw [hu]; rfl) rfl
  ·rename_i hu; obtain ⟨b, rfl⟩ := okWide_int hu hv; exact scalar (by rw [hu]; rfl) rfl
  ·rename_i hu; obtain ⟨b, rfl⟩ := okWide_string hu hv; exact scalar (by rw [hu]; rfl) rfl
  ·rename_i hu; obtain ⟨a, l, c, rfl⟩ := okWide_slice hu hv; exact scalar (by rw [hu]; rfl) rfl
  ·rename_i hu
   obtain ⟨cs, rfl, _⟩ := yh6 hu hv
   rw [hu]
   exact ⟨cs, rfl, h2⟩
  ·rename_i hu
   obtain ⟨cs, rfl, _⟩ := okWide_struct hu hv
   rw [hu]
   exact ⟨cs, rfl, h2⟩
  ·cases hs
theorem args_trees {S : Nat → Prop} (hS : ∀ b, b < w.heap.size → S b) {B0 m : Nat} {base : Nat} {spare : Nat → Bool} {held : Bool} {r : Reach} {b0 : Nat} : ∀ (ts : List TypeId) (vs : List Value) (ds : List (DataW H)) (p : List MemPlace),
  (ts.all fun t => Sup P m t) = true → (∀ (j : Nat) t v, ts[j]? = some t → vs[j]? = some v → Value.okWide P w r b0 t v) → DataW.TrodAll enc P w base spare held ts vs ds p →
  ∃ xs, F2 (fun t x => ∃ ys, x = elOf P t ys ∧ ya0 P m t ys ∧ ys.length = P.cellsOf t) ts xs ∧ Rc (Rv P B0 w S (m + 1)) vs xs (fun _ => 0)
 | [], [], [], _, _, _, _ => ⟨[], .nil, .nil fun _ => rfl⟩
 | t :: ts, v :: vs, d :: ds, p, hs, hv, h => by
  obtain ⟨p1, q1, h1, h2, _⟩ := h
  simp only [List.all_cons, zlo] at hs
  obtain ⟨ys, g1, g2, g3⟩ := yrd (B0 := B0) hS hs.1 (hv 0 t v rfl rfl) h1
  obtain ⟨xs, g4, g5⟩ := args_trees hS ts vs ds q1 hs.2 (fun j t v a b => hv (j + 1) t v (by simpa using a) (by simpa using b)) h2
  exact ⟨elOf P t ys :: xs, .cons ⟨ys, rfl, g1, g2⟩ g4, .cons g3 g5 fun _ => rfl⟩
 | [], _ :: _, _, _, _, _, h => h.elim
 | [], [], _ :: _, _, _, _, h => h.elim
 | _ :: _, [], _, _, _, _, h => h.elim
 | _ :: _, _ :: _, [], _, _, _, h => h.elim
theorem args_stay (hl : laidOutB P = true) {W W' : World} (hb : Below W.heap.size W W') : ∀ (ts : List TypeId) (vs : List Value) (ds : List (DataW H)) (p : List MemPlace),
  (ts.all fun t => P.readableRec t && decide (t < P.types.size)) = true → DataW.TrodAll enc P W 0 (fun _ => true) true ts vs ds p → (∀ x ∈ p, x.block < W.heap.size) →
  DataW.TrodAll enc P W' 0 (fun b => decide (b < W.heap.size)) true ts vs ds p
 | [], [], [], _, _, h, _ => h
 | t :: ts, v :: vs, d :: ds, p, hr, h, hlt => by
  obtain ⟨p1, q1, h1, h2, rfl⟩ := h
  simp only [List.all_cons, zlo, decide_eq_true_eq] at hr
  exact ⟨p1, q1, Below.trod hl hr.1.1 hr.1.2 h1 hb (fun x hx => hlt x (by simp [hx])), args_stay hl hb ts vs ds q1 hr.2 h2 (fun x hx => hlt x (by simp [hx])), rfl⟩
 | [], _ :: _, _, _, _, h, _ => h.elim
 | [], [], _ :: _, _, _, h, _ => h.elim
 | _ :: _, [], _, _, _, h, _ => h.elim
 | _ :: _, _ :: _, [], _, _, h, _ => h.elim
theorem law_call {P : Program} {F : FuncId} {args : Array Value} {xs : List AV} {W : World} {n : Nat} (h : PureC P F xs (.atom (.bool true))) (hrc : Rc (Rv P W.heap.size W (fun b => b < W.heap.size) n) args.toList xs (fun _ => 0)) :
  Calls P F args W fun e W' => e = .returned (.bool true) ∧ Below W.heap.size W W' := by
 have := h.2 W (fun b => b < W.heap.size) args.toList n (fun _ h => h) hrc
 rw [Array.toArray_toList] at this
 refine this.mono ?_
 rintro e W' ⟨v, n', S', O, rfl, hB, hrv, _⟩
 obtain ⟨q, rfl⟩ := hrv.pos
 obtain ⟨rfl, _⟩ := hrv
 exact ⟨rfl, hB⟩
end
end Go.Lf
end
