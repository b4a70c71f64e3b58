/- Part 2 of the evaluator and of the contracts that the claim uses. -/
import Derived.Great.BuildSlice
import Derived.Lib.AppendZeros
import Derived.Laws.Small
import Derived.Test.YtpjlfgacjbkbbaaLoopsAddLAA
set_option linter.unusedVariables false
set_option linter.unusedSimpArgs false
set_option linter.constructorNameAsVariable false
set_option linter.unusedSectionVars false
open Go.IntKind (i64 u8)

section
namespace Go.Lf
open Go Go.RowKit
section
variable {P : Program} {F : Frm} {B0 : Nat} {w0 w w' : World} {S S' : Nat → Prop} {n n' : Nat} {env : Env} {a : Act} {Os : Nat → Own} {cx : Cx} {o : Oper} {Q : Exit → Act → World → Prop} {eff : Eff} {l : List Nat}
theorem CxOk.info (hcx : CxOk P cx) {e : TypeId} {j : TInfo} (h : tyF cx.T e = some j) : ∃ ti, P.info? e = some ti ∧ ti.size = j.zero.length ∧ P.cellsOf e = j.zero.length := by
 obtain ⟨ti, z, d, h1, _, _, h4, _⟩ := (hcx.ty e j h).ex
 exact ⟨ti, h1, h4, (hcx.ty e j h).cells⟩
theorem ybd {t e : TypeId} {ti : TypeInfo} (hu : P.underlying t = some (.slice e)) (hi : P.info? e = some ti) {ad : Addr} {len k : Nat} {kk : IntKind} {m : Int} (h0 : 0 ≤ m) (h1 : m < len) :
  (Instr.indexAt t (.slice (some ad) len k) (.int kk m)).run P w = .ok (.pointer (some (ad.add (m.toNat * ti.size)))) w := by
 simp [Instr.indexAt, asIntOf, run_underlying hu, sizeOf, typeInfo, hi, h0, h1]
theorem ybx {t e : TypeId} {ti : TypeInfo} {len : Nat} (hu : P.underlying t = some (.array len e)) (hi : P.info? e = some ti) {ad : Addr} {kk : IntKind} {m : Int} (h0 : 0 ≤ m) (h1 : m < len) :
  (Instr.indexAt t (.pointer (some ad)) (.int kk m)).run P w = .ok (.pointer (some (ad.add (m.toNat * ti.size)))) w := by
 simp [Instr.indexAt, asIntOf, run_underlying hu, sizeOf, typeInfo, hi, h0, h1, Instr.sureAddr]
theorem Rv.ownHead {m : Nat} {v : Value} {e : TypeId} {cap : Option Nat} {xs : List AV} {O : Own} (h : Rv P B0 w S m v (.sl .own e cap xs) O) (hne : xs ≠ []) : ∃ g k, v = .slice (some ⟨g, 0, none⟩) xs.length k := by
 obtain ⟨q, rfl⟩ := h.pos
 obtain ⟨vs, O', ho, _⟩ := h
 rcases ho.2 with ⟨rfl, hl⟩ | ⟨g, c, cur, rfl, _⟩
 ·exact absurd (zli hl) hne
 ·exact ⟨g, c, rfl⟩
theorem yd9 {xs : List AV} {m : Int} (h0 : 0 ≤ m) (h : m < xs.length) : xs ≠ [] := by
 intro e; subst e; simp at h; omega
theorem ywj {q : Nat} {mm : Mode} {v : Value} {e : TypeId} {cap : Option Nat} {xs : List AV} {O : Own} (h : Shs P B0 w S (Rv P B0 w S q) mm e cap xs v O) {i : Nat} (hi : i < xs.length) :
  ∃ ad k, v = .slice (some ad) xs.length k ∧ Rv P B0 w S (q + 1) (.pointer (some (ad.add (i * P.cellsOf e)))) (.vadr (xs.getD i .bad).ecells 0) (fun _ => 0) := by
 obtain ⟨A, k, hv, hk, hml, hcap, hu, hz, hx⟩ := h
 obtain ⟨g, off, C, T, fr, rfl, hs, _, hg, hsz, hr⟩ := hx (by intro e; subst e; simp at hi)
 refine ⟨⟨g, off, none⟩, k, hv, ?_⟩
 rw [zrh]
 have hget : xs[i]? = some xs[i] := zle hi
 have hgd : xs.getD i .bad = xs[i] := by simp [List.getD, hget]
 have hxs := yjb xs i xs[i] hget
 have hfl : flat xs = flat (xs.take i) ++ xs[i].ecells ++ flat (xs.drop (i + 1)) := by
  conv => lhs; rw [hxs]
  rw [zrk, ya4, zlp]
 have hX : (flat (xs.take i)).length = i * P.cellsOf e := by rw [zqn (hu.take i), zlh, Nat.min_eq_left (by omega)]
 have hr0 := hr
 rw [hfl] at hr0
 obtain ⟨P1, P2, P3, _, r2, _, hP⟩ := hr0.split3
 have hlen : (flat xs).length = i * P.cellsOf e + xs[i].ecells.length + (flat (xs.drop (i + 1))).length := by rw [hfl]; simp only [zlg, hX]
 rw [hX] at r2
 rw [hgd]
 refine ⟨g, off + i * P.cellsOf e, C, T, fr, rfl, hs, hg, Nat.zero_le _, by omega, fun _ => rfl, ?_⟩
 have e2 : (((C.toList.drop off).take (flat (xs.take i) ++ xs[i].ecells ++ flat (xs.drop (i + 1))).length).drop (i * P.cellsOf e)).take xs[i].ecells.length = (C.toList.drop (off + i * P.cellsOf e - 0)).take xs[i].ecells.length := by
  rw [List.drop_take, List.take_take, List.drop_drop, Nat.min_eq_left (by simp only [zlg, hX]; omega), Nat.sub_zero]
 rw [e2] at r2
 exact r2.cast fun b => by have := hP b; have := hz b; omega
theorem yfo (hcx : CxOk P cx) (hst : St P F B0 w0 n env a.tmps w S Os) (hn : 0 < n) (hN : (a.tmps.size = cx.N ∧ F.lo = cx.lo)) {t : TypeId} {x ix : Operand} (ho : o.op = .indexAddr t x ix) (h : (yc2 cx o.dst t x ix).run env = some (l, eff)) : o.wp P a w (Post P F B0 w0 S cx env eff a) Q := by
 unfold yc2 at h
 cases ht : tyF cx.T t with
 | none => rw [ht] at h; exact (zqd h).elim
 | some ti =>
  rw [ht] at h
  obtain ⟨_, _, d, _, _, _, _, _, hd, _, _, hk⟩ := (hcx.ty t ti ht).ex
  obtain ⟨hel, h⟩ := zqq h
  obtain ⟨q, _, l1, hvi, h⟩ := zqm h
  split at h
  ·rename_i kk m
   have hix := hvi.atom hst hn
   obtain ⟨y, s, l2, hv, h⟩ := zqm h
   have run : ∀ v, (Instr.indexAt t (a.eval x) (.int kk m)).run P w = .ok v w → (execOp a.eval o).run P w = .ok (.value v) w := by
    intro v hvv
    rw [execOp, ho]
    simp only [hix, Sem.run_bind, hvv, Result.andThen_ok, Sem.run_pure]
   have slc : ∀ {e : TypeId}, ti.kind = .slice e → ∃ j tj, tyF cx.T e = some j ∧ P.underlying t = some (.slice e) ∧ P.info? e = some tj ∧ tj.size = P.cellsOf e := by
    intro e hke
    rw [hke] at hk hel
    have hk' : d = .slice e := hk
    cases hj : tyF cx.T e with
    | none => simp [elTy, hj] at hel
    | some j =>
     obtain ⟨tj, h1, h2, h3⟩ := hcx.info hj
     exact ⟨j, tj, rfl, by rw [hd, hk'], h1, by rw [h2, h3]⟩
   have arr : ∀ {c : Nat} {e : TypeId} {j : TInfo}, ti.kind = .array c e → tyF cx.T e = some j → ∃ tj, P.underlying t = some (.array c e) ∧ P.info? e = some tj ∧ tj.size = j.zero.length := by
    intro c e j hke hj
    rw [hke] at hk
    have hk' : d = .array c e := hk
    obtain ⟨tj, h1, h2, h3⟩ := hcx.info hj
    exact ⟨tj, by rw [hd, hk'], h1, h2⟩
   have shd : ∀ {mm : Mode} {e : TypeId} {cap : Option Nat} {xs : List AV} {q : Nat}, ti.kind = .slice e → Shs P B0 w S (Rv P B0 w S q) mm e cap xs (a.eval x) (fun _ => 0) → q + 1 ≤ n → 0 ≤ m → m < xs.length →
     (outP cx o.dst (.vadr (xs.getD m.toNat .bad).ecells 0) [] []).run env = some (l2, eff) → o.wp P a w (Post P F B0 w0 S cx env eff a) Q := by
    intro mm e cap xs q hke hsh hq h0 h1 hout
    obtain ⟨j, tj, _, hu, hi, hsz⟩ := slc hke
    obtain ⟨ad, k, hv', hr⟩ := ywj hsh (i := m.toNat) (by omega)
    refine fin0 hst hn hN hout (run _ (by rw [hv']; exact ybd hu hi h0 h1)) (.inr ?_)
    rw [hsz]; exact hr.le hq
   split at h
   ·rename_i e e' cap xs q hke
    obtain ⟨⟨h0, h1⟩, h2⟩ := yae h
    clear h
    obtain ⟨hee, h⟩ := zqq h2
    clear h2
    subst hee
    obtain ⟨j, tj, _, hu, hi, hsz⟩ := slc hke
    obtain ⟨hr, htm, hlk⟩ := hv.rv hst hn rfl
    obtain ⟨g, k, hvv⟩ := hr.ownHead (yd9 h0 h1)
    refine fin0 hst hn hN h (run _ (by rw [hvv]; exact ybd hu hi h0 h1)) (.inl ⟨?_, q, _, rfl, hlk, rfl⟩)
    intro xr hxr z hg ho'
    rw [hlk] at hxr; injection hxr with hxr; subst hxr
    injection hg with hg; subst hg
    refine ⟨_, _, ⟨g, 0, none⟩, htm, rfl, by rw [hvv]; rfl, ?_⟩
    rw [zrh, hsz]; rfl
   ·rename_i e r p rng hke
    obtain ⟨l3, h⟩ := yan h
    obtain ⟨ha, z, hz, hzr⟩ := hv.al hst hn
    rw [hz] at h
    simp only at h
    obtain ⟨zz, hg, h⟩ := ybu h
    split at h
    ·rename_i e' cap xs
     obtain ⟨hee, h2⟩ := zqq h
     clear h
     subst hee
     obtain ⟨j, tj, _, hu, hi, hsz⟩ := slc hke
     obtain ⟨vr, m', u, Oy, Oq, hvr, hrv, hm, hy, hlv, hOO⟩ := hst.at hz hzr hg
     obtain ⟨vr', u', e1, e2, e3⟩ := ha z hz _ _ _ _ hg (.inr rfl)
     rw [hvr] at e1; injection e1 with e1; subst e1
     rw [hlv] at e2; injection e2 with e2; subst e2
     cases rng with
     | none =>
      simp only at h2
      obtain ⟨⟨h0, h1⟩, h⟩ := yae h2
      have e3' : a.eval x = u := e3
      obtain ⟨g, k, hvv⟩ := hy.ownHead (yd9 h0 h1)
      refine fin0 hst hn hN h (run _ (by rw [e3', hvv]; exact ybd hu hi h0 h1)) (.inl ⟨?_, r, z, rfl, hz, hzr⟩)
      intro xr hxr y' hg' ho'
      rw [hz] at hxr; injection hxr with hxr; subst hxr
      rw [hg] at hg'; injection hg' with hg'; subst hg'
      refine ⟨vr, u, ⟨g, 0, none⟩, hvr, hlv, by rw [hvv]; rfl, ?_⟩
      rw [zrh, hsz]; rfl
     | some lck =>
      obtain ⟨lo, c, k⟩ := lck
      simp only at h2
      obtain ⟨⟨h0, h1, h5⟩, h⟩ := yae h2
      have hne : xs ≠ [] := by intro e; subst e; simp at h5; omega
      obtain ⟨g, kq, hvv⟩ := hy.ownHead hne
      obtain ⟨A, ll, k0, A', c', e4, e5, hle, hcc, hkk, hk3, hA1, _⟩ := e3
      rw [hvv] at e4; injection e4 with e4 e6 e7
      have hA' := hA1 (by intro e; subst e; omega)
      rw [← e4, Option.map_some, zrh] at hA'
      refine fin0 hst hn hN h (run _ (by rw [e5, hA']; exact ybd hu hi h0 h1)) (.inl ⟨?_, r, z, rfl, hz, hzr⟩)
      intro xr hxr y' hg' ho'
      rw [hz] at hxr; injection hxr with hxr; subst hxr
      rw [hg] at hg'; injection hg' with hg'; subst hg'
      refine ⟨vr, u, ⟨g, 0, none⟩, hvr, hlv, by rw [hvv]; rfl, ?_⟩
      rw [zrh, hsz]
      simp only [fo, Nat.zero_add, Nat.add_mul, Nat.add_zero]
    ·exact (zqd h).elim
   ·rename_i e e' cap xs hke
    obtain ⟨⟨h0, h1⟩, h2⟩ := yae h
    clear h
    obtain ⟨hee, h⟩ := zqq h2
    clear h2
    subst hee
    have hr := hv.plain hst hn rfl (fun O h => zqp h rfl)
    obtain ⟨q, rfl⟩ := hr.pos
    exact shd hke hr (zly _) h0 h1 h
   ·rename_i e e' cap xs hke
    obtain ⟨⟨h0, h1⟩, h2⟩ := yae h
    clear h
    obtain ⟨hee, h⟩ := zqq h2
    clear h2
    subst hee
    have hr := hv.plain hst hn rfl (fun O h => zqp h rfl)
    obtain ⟨q, rfl⟩ := hr.pos
    exact shd hke hr (zly _) h0 h1 h
   ·rename_i c e cs q hke
    split at h
    ·rename_i j hj
     obtain ⟨⟨h0, h1, h2⟩, h⟩ := yae h
     obtain ⟨tj, hu, hi, hsz⟩ := arr hke hj
     obtain ⟨hr, htm, hlk⟩ := hv.rv hst hn rfl
     obtain ⟨q', rfl⟩ := hr.pos
     obtain ⟨g, C, T, O', hvv, _⟩ := hr
     refine fin0 hst hn hN h (run _ (by rw [hvv]; exact ybx hu hi h0 h1)) (.inl ⟨?_, q, _, rfl, hlk, rfl⟩)
     intro xr hxr z hg ho'
     rw [hlk] at hxr; injection hxr with hxr; subst hxr
     injection hg with hg; subst hg
     refine ⟨_, _, ⟨g, 0, none⟩, htm, rfl, by rw [hvv]; rfl, ?_⟩
     rw [zrh, hsz]; rfl
    ·exact (zqd h).elim
   ·rename_i c e r p i cc hke
    split at h
    ·rename_i j hj
     obtain ⟨ha, z, hz, hzr⟩ := hv.adr hst hn
     obtain ⟨xr, y, l3, hxr, hy, hyo, h⟩ := ydg h
     rw [hz] at hxr; injection hxr with hxr; subst hxr
     obtain ⟨⟨h0, h1, h2⟩, h⟩ := yae h
     obtain ⟨tj, hu, hi, hsz⟩ := arr hke hj
     obtain ⟨vr, u, ad, e1, e2, e3, e4⟩ := ha z hz y hy hyo
     refine fin0 hst hn hN h (run _ (by rw [e4]; exact ybx hu hi h0 h1)) (.inl ⟨?_, r, z, rfl, hz, hzr⟩)
     intro xr hxr y' hg ho'
     rw [hz] at hxr; injection hxr with hxr; subst hxr
     rw [hy] at hg; injection hg with hg; subst hg
     exact ⟨vr, u, ad, e1, e2, e3, by rw [zrh, yrz, hsz, Nat.add_assoc]⟩
    ·exact (zqd h).elim
   ·rename_i c e cs cc hke
    split at h
    ·rename_i j hj
     obtain ⟨⟨h0, h1, h2, h3⟩, h⟩ := yae h
     obtain ⟨tj, hu, hi, hsz⟩ := arr hke hj
     have hr := hv.plain hst hn rfl (fun O h => by obtain ⟨m, rfl⟩ := h.pos; obtain ⟨_, _, _, _, _, _, _, _, _, _, hz, _⟩ := h; exact hz)
     obtain ⟨m, rfl⟩ := hr.pos
     obtain ⟨g, q, C, T, fr, hvv, hS, hg, h4, h5, hz, hrc⟩ := hr
     refine fin0 hst hn hN h (run _ (by rw [hvv]; exact ybx hu hi h0 h1)) (.inr ?_)
     rw [zrh, hsz]
     refine ⟨g, _, C, T, fr, rfl, hS, hg, by omega, ?_, hz, ?_⟩
     ·rw [Nat.add_sub_add_right]; exact h5
     ·rw [Nat.add_sub_add_right]; exact hrc
    ·exact (zqd h).elim
   ·exact (zqd h).elim
  ·exact (zqd h).elim
end
end Go.Lf
end

section
namespace Go.Lf
open Go Go.RowKit
section
variable {P : Program} {F : Frm} {B0 : Nat} {w0 w w' : World} {S S' : Nat → Prop} {n n' : Nat} {env : Env} {a : Act} {tmps : Array Value} {Os : Nat → Own} {cx : Cx} {o : Oper} {Q : Exit → Act → World → Prop} {eff : Eff} {l : List Nat}
theorem yqi {env1 : Env} {Os1 : Nat → Own} {n1 : Nat} {S1 : Nat → Prop} (hgr : Grow B0 S S1) (hst : St P F B0 w0 n1 env1 a.tmps w S1 Os1) (hn : 0 < n1) (hnn : n1 ≤ n') (hN : (a.tmps.size = cx.N ∧ F.lo = cx.lo)) {t : Nat} (hd : o.dst = some t) (htN : t < cx.N ∧ cx.lo ≤ t) (hnr : zrm t env1)
  {x : AV} {v : Value} {O : Own} (heff : zqi eff env = (t, x) :: env1) (hrun : (execOp a.eval o).run P w = .ok (.value v) w') (hB : Below w.heap.size w w') (h1 : ∀ b, O b ≤ 1) (hO : ∀ b, 0 < O b → w.heap.size ≤ b)
  (hx : Rv P B0 w' S1 n' v x O) : o.wp P a w (Post P F B0 w0 S cx env eff a) Q := by
 refine ybz hrun ?_
 rw [hd]
 have hsz := hB.size
 have key := hst.put (x := x) (v := v) (O := O) (S' := S1) hnn (d := t) (by omega) hnr (hB.mono hst.b0) (fun _ h => h) (fun b hb => by have := hst.sLt b hb; omega) (fun b s _ hb => hst.excl b s hb)
  (fun b hb => by
   have h2 := hst.sLt b hb
   rcases zlt (O b) with h | h
   ·exact h
   ·have := hO b h; omega) (fun b hb => hB.block b (by
   rcases hb with hb | ⟨s, _, hb⟩
   ·exact hst.sLt b hb
   ·exact (hst.lt s b hb).2)) h1 (fun b s _ hb => by
   have h2 := hO b hb
   rcases zlt (Os1 s b) with h | h
   ·exact h
   ·have := (hst.lt s b h).2; omega) (.inr hx)
 exact ⟨rfl, by simpa [Act.put] using hN, n', S1, _, by omega, hgr, by rw [heff]; exact key⟩
theorem St.shareBox (hst : St P F B0 w0 n env tmps w S Os) {r : Nat} {cs : List AV} (hr : lk env r = some (.box cs)) (htop : topOnly r env) :
  ∃ n1 S' Os' g C T, tmps[r]? = some (.pointer (some ⟨g, 0, none⟩)) ∧ w.heap[g]? = some (.cells C T (0, 0)) ∧ St P F B0 w0 (n1 + 1) ((r, .box (cs.map share)) :: env) tmps w S' Os' ∧ (∀ b, S b → S' b) ∧
   (∀ b, S' b → S b ∨ 0 < Os r b) ∧ Rc (Rv P B0 w S' n1) C.toList (cs.map share) (fun _ => 0) := by
 obtain ⟨vr, hv, hsv⟩ := hst.rel r _ hr
 have hrv := hsv.rv rfl
 obtain ⟨m, rfl⟩ := hrv.pos
 obtain ⟨g, C, T, O', rfl, hB, hg, hrc, hO⟩ := hrv
 have hone := hst.one r
 have hO1 : ∀ b, 0 < O' b → ind (some g) b = 0 ∧ 0 < Os r b := fun b hb => by have := hO b; have := hone b; omega
 have hrc' : Rc (Rv P B0 w (fun b => S b ∨ 0 < O' b) m) C.toList (cs.map share) (fun _ => 0) :=
  hrc.map fun v x O2 hle hr => Rv.remode (S' := fun b => S b ∨ 0 < O' b) zqx (fun m => by cases m <;> simp [zqx]) (fun m h => by cases m <;> simp [zqx] at h ⊢) (fun b hb => .inl hb) m 12 v x O2 (fun b hb => .inr (by have := hle b; omega)) hr
 refine ⟨m, fun b => S b ∨ 0 < O' b, _, g, C, T, hv, hg, hst.turn (O := ind (some g)) (zly _) hv hr (Below.refl _ _) (fun b hb => .inl hb) ?_ ?_ ?_ (fun _ _ => rfl) ?_ ?_ ⟨g, C, T, fun _ => 0, rfl, hB, hg, hrc', fun b => by simp⟩ rfl (.inl htop) (by intro _ _ _ _ h; cases h) (fun _ => ⟨rfl, fun _ _ => rfl⟩), fun b hb => .inl hb, ?_, hrc'⟩
 ·intro b hb
  rcases hb with hb | hb
  ·exact hst.sLt b hb
  ·exact (St.lt (a := { tmps := tmps, defers := [] }) hst r b (hO1 b hb).2).2
 ·intro b t ht hb
  rcases hb with hb | hb
  ·exact hst.excl b t hb
  ·have := (hO1 b hb).2
   rcases hst.dis r t b (Ne.symm ht) with h | h <;> omega
 ·intro b hb
  rcases hb with hb | hb
  ·have := hst.excl b r hb; have := hO b; omega
  ·exact (hO1 b hb).1
 ·intro b; have := hO b; have := hone b; omega
 ·intro b t ht hb
  have := hO b
  rcases hst.dis r t b (Ne.symm ht) with h | h
  ·omega
  ·exact h
 ·intro b hb
  rcases hb with hb | hb
  ·exact .inl hb
  ·exact .inr (hO1 b hb).2
end
end Go.Lf
end

section
namespace Go.Lf
open Go Go.RowKit
theorem yis {P : Program} {w : World} : ∀ (p q : Path) (v : Value) (x y : AV) (u : Value), getC x p = some y → LV P w v x p = some u → LV P w v x (p ++ q) = LV P w u y q
 | [], q, v, x, y, u, h1, h2 => by injection h1 with h1; injection h2 with h2; subst h1 h2; rfl
 | (i, c) :: p, q, v, x, y, u, h1, h2 => by
  simp only [List.cons_append]
  conv => lhs; unfold LV
  unfold LV at h2
  unfold getC at h1
  cases hs : seg x i c 1 with
  | none => rw [hs] at h1; cases h1
  | some ms =>
   rw [hs] at h1 h2
   match ms, h1, h2 with
   | [], h1, h2 => cases h1
   | z :: rest, h1, h2 =>
    cases hc : ya8 P w x i c v with
    | none => rw [hc] at h2; cases h2
    | some u1 =>
     rw [hc] at h2
     exact yis p q u1 z y u h1 h2
theorem HeadOf.addr {v : Value} {g : Nat} (h : HeadOf v g) : yb7 v = some ⟨g, 0, none⟩ := by
 rcases h with ⟨l, k, rfl⟩ | rfl <;> rfl
section
variable {P : Program} {F : Frm} {B0 : Nat} {w0 w w' : World} {S S' : Nat → Prop} {n n' : Nat} {env : Env} {a : Act} {Os : Nat → Own} {cx : Cx} {o : Oper} {Q : Exit → Act → World → Prop} {eff : Eff} {l : List Nat}
theorem yba (hcx : CxOk P cx) {t : TypeId} {ti : TInfo} (ht : tyF cx.T t = some ti) {g off : Nat} {C : Array Value} {T : TypeId} {fr : Nat × Nat} (hg : w.heap[g]? = some (.cells C T fr)) (hsz : off + ti.zero.length ≤ C.size) :
  (ti.agg = true → (Instr.loadAt t (.pointer (some ⟨g, off, none⟩))).run P w = .ok (.agg ((C.toList.drop off).take ti.zero.length).toArray) w) ∧
  (ti.agg = false → ∀ u, (C.toList.drop off).take 1 = [u] → (Instr.loadAt t (.pointer (some ⟨g, off, none⟩))).run P w = .ok u w) := by
 obtain ⟨tj, z, d, h1, _, _, h4, _, hd, hag, _, _⟩ := (hcx.ty t ti ht).ex
 have hcell : ∀ j v, ((C.toList.drop off).take ti.zero.length)[j]? = some v → w.cell? ((⟨g, off, none⟩ : Addr).add j) = some v := by
  intro j v hj
  rw [zrh, cell_of_row w g _ C T fr hg]
  rw [List.getElem?_take] at hj
  split at hj
  ·rw [List.getElem?_drop] at hj; simpa using hj
  ·cases hj
 have hl : ((C.toList.drop off).take ti.zero.length).length = ti.zero.length := by simp; omega
 have hrun := run_loadCells_list (P := P) w ⟨g, off, none⟩ _ hcell
 rw [hl] at hrun
 constructor
 ·intro ha
  rw [ha] at hag
  cases d <;> simp at hag <;> simp [Instr.loadAt, Instr.sureAddr, loadVar, isAgg, run_underlying hd, sizeOf, typeInfo, h1, h4, hrun]
 ·intro ha u hu
  rw [ha] at hag
  have hc : w.cell? ⟨g, off, none⟩ = some u := by
   rw [cell_of_row w g _ C T fr hg]
   have := congrArg (fun l : List Value => l[0]?) hu
   simp only [List.getElem?_take, List.getElem?_drop] at this
   simpa using this
  cases d <;> simp at hag <;> simp [Instr.loadAt, Instr.sureAddr, loadVar, isAgg, run_underlying hd, hc]
theorem yh8 (hcx : CxOk P cx) (hst : St P F B0 w0 n env a.tmps w S Os) (hn : 0 < n) (hN : (a.tmps.size = cx.N ∧ F.lo = cx.lo)) {t : TypeId} {ti : TInfo} (ht : tyF cx.T t = some ti) (hpos : 0 < ti.zero.length) {x : Operand} (ho : o.op = .load t x)
  {r : Nat} {p : Path} {i c : Nat} {xr y : AV} {ms : List AV} (hr : lk env r = some xr) (hrt : zqu xr = true) (hg : getC xr p = some y) (hyo : yab y = true) (hs : seg y i c ti.zero.length = some ms)
  (hx : ∀ vr u ad, a.tmps[r]? = some vr → LV P w vr xr p = some u → yb7 u = some ad → a.eval x = .pointer (some ⟨ad.block, ad.off + fo P y i c, none⟩))
  (h : (loadAt cx o.dst ti.agg r p i c ms).run env = some (l, eff)) : o.wp P a w (Post P F B0 w0 S cx env eff a) Q := by
 obtain ⟨vr, m, u, Oy, Oq, hvr, hrv, hm, hy, hlv, hOO⟩ := hst.at hr hrt hg
 obtain ⟨m, rfl⟩ := hy.pos
 obtain ⟨g, C, T, Om, Oz, hh, hb, hgg, hsz, hlen, hrc, hO, _, _⟩ := Rv.stretch hyo hpos hs (fun b => by have := hOO b; have := hst.one r b; omega) hy
 have hptr := hx vr u _ hvr hlv hh.addr
 simp only [Nat.zero_add] at hptr
 obtain ⟨run1, run2⟩ := yba hcx ht hgg hsz
 have run : ∀ v, (Instr.loadAt t (a.eval x)).run P w = .ok v w → (execOp a.eval o).run P w = .ok (.value v) w := by
  intro v hv
  rw [execOp, ho]
  simp only [Sem.run_bind, hv, Result.andThen_ok, Sem.run_pure]
 unfold loadAt at h
 by_cases hag : ti.agg = true
 ·rw [if_pos hag] at h
  obtain ⟨hp, h⟩ := zqq h
  refine fin0 hst hn hN h (run _ (by rw [hptr]; exact run1 hag)) (.inr ?_)
  refine Rv.le (n := m + 1) ⟨_, rfl, ?_⟩ hm
  exact hrc.cast fun b => (zrg hrc hp b).symm
 ·rw [if_neg hag] at h
  split at h
  ·rename_i z
   have h1 : ti.zero.length = 1 := by simpa using hlen.symm
   rw [h1] at hrc hs
   obtain ⟨v, hv, hz⟩ := hrc.one
   have hrun := run v (by rw [hptr]; exact run2 (by simpa using hag) v hv)
   split at h
   ·rename_i e cap xs
    refine fin0 hst hn hN h hrun (.inl ⟨?_, r, xr, rfl, hr, hrt⟩)
    intro xr' hxr m' e' cap' xs' hg'
    rw [hr] at hxr; injection hxr with hxr; subst hxr
    refine fun _ => ⟨vr, v, hvr, ?_, rfl⟩
    rw [yis p _ vr xr y u hg hlv]
    unfold LV
    rw [hs, hh.child, cell_of_row w g _ C T (0, 0) hgg]
    have : C[fo P y i c]? = some v := by
     have := congrArg (fun l : List Value => l[0]?) hv
     simp only [List.getElem?_take, List.getElem?_drop] at this
     simpa using this
    simp only [this]
    rfl
   ·obtain ⟨hp, h⟩ := zqq h
    exact fin0 hst hn hN h hrun (.inr ((hz.le (by omega)).cast fun b => (zqp hz hp b).symm))
  ·exact (zqd h).elim
theorem ym1 (hcx : CxOk P cx) (hst : St P F B0 w0 n env a.tmps w S Os) (hn : 0 < n) (hN : (a.tmps.size = cx.N ∧ F.lo = cx.lo)) {t : TypeId} {x : Operand} (ho : o.op = .load t x) (h : (ym2 cx o.dst t x).run env = some (l, eff)) : o.wp P a w (Post P F B0 w0 S cx env eff a) Q := by
 unfold ym2 at h
 cases ht : tyF cx.T t with
 | none => rw [ht] at h; exact (zqd h).elim
 | some ti =>
  rw [ht] at h
  obtain ⟨hpos, h⟩ := zqq h
  obtain ⟨y, s, l1, hv, h⟩ := zqm h
  split at h
  ·rename_i r p i c
   obtain ⟨ha, z, hz, hzr⟩ := hv.adr hst hn
   obtain ⟨xr, y, l3, hxr, hy, hyo, h⟩ := ydg h
   rw [hz] at hxr; injection hxr with hxr; subst hxr
   obtain ⟨ms, hs, h⟩ := yeg h
   ·refine yh8 hcx hst hn hN ht hpos ho hz hzr hy hyo hs ?_ h
    intro vr u ad e1 e2 e3
    obtain ⟨vr', u', ad', f1, f2, f3, f4⟩ := ha z hz y hy hyo
    rw [e1] at f1; injection f1 with f1; subst f1
    rw [e2] at f2; injection f2 with f2; subst f2
    rw [e3] at f3; injection f3 with f3; subst f3
    exact f4
  ·rename_i cs r
   obtain ⟨hr, htm, hlk⟩ := hv.rv hst hn rfl
   split at h
   ·rename_i hc
    obtain ⟨hag, hlen, _, _⟩ := hc
    split at h
    ·have hr0 := hr
     obtain ⟨q, rfl⟩ := hr.pos
     obtain ⟨g, C, T, O', hvv, hB, hg, hrc, _⟩ := hr
     have hCl : C.toList.length = cs.length := hrc.length
     obtain ⟨run1, _⟩ := yba (off := 0) hcx ht hg (by simp at hCl ⊢; omega)
     refine fin0 hst hn hN h (v := .agg ((C.toList.drop 0).take ti.zero.length).toArray) ?_ (.inl ⟨?_, r, .box cs, rfl, hlk, rfl⟩)
     ·rw [execOp, ho]
      simp only [Sem.run_bind, hvv, run1 hag, Result.andThen_ok, Sem.run_pure]
     ·intro cs' hx _
      rw [hlk] at hx; injection hx with hx; injection hx with hx; subst hx
      refine ⟨_, _, htm, rfl, by simp at hCl ⊢; omega, fun c u hu => ?_⟩
      rw [List.drop_zero, zlm (by omega)] at hu
      have hu' : C[c]? = some u := by simpa using hu
      have hc : c < cs.length := by
       have := (zlj.mp hu').1
       simp at hCl; omega
      have hsg : ∃ y ys, seg (.box cs) 0 c 1 = some (y :: ys) := by
       show ∃ y ys, (if 0 = 0 ∧ c + 1 ≤ cs.length then some ((cs.drop c).take 1) else none) = some (y :: ys)
       rw [if_pos ⟨rfl, by omega⟩]
       exact ⟨cs[c], [], by rw [List.drop_eq_getElem_cons hc, List.take_succ_cons, List.take_zero]⟩
      obtain ⟨y, ys, hsg⟩ := hsg
      rw [hvv]
      unfold LV
      rw [hsg]
      have : ya8 P w (.box cs) 0 c (.pointer (some ⟨g, 0, none⟩)) = some u := by
       show w.cell? ⟨g, 0 + fo P (.box cs) 0 c, none⟩ = some u
       rw [cell_of_row w g _ C T (0, 0) hg]
       simp [fo, hu']
      rw [this]
      rfl
    obtain ⟨tt, hdd, htN, hlr, hws, hkl⟩ := yao h
    obtain ⟨hst0, hnr0⟩ := hst.readied hn hkl
    have hmem : (r, true) ∈ eff.kl := by
     rcases hkl with ⟨h, _⟩ | h
     ·rw [h]; simp
     ·rw [h]; simp
    obtain ⟨n1, S1, Os1, g, C, T, hv1, hg, hst1, hS1, hS2, hrc⟩ := hst0.shareBox (yal (kl := eff.kl) hlk rfl) (topOnly.of_mem hmem)
    rw [htm] at hv1; injection hv1 with hv1
    have hCl : C.toList.length = cs.length := by rw [hrc.length, zla]
    obtain ⟨run1, _⟩ := yba (off := 0) hcx ht hg (by simp at hCl ⊢; omega)
    refine yqi (n' := n1 + 1) (v := .agg ((C.toList.drop 0).take ti.zero.length).toArray) (x := .agg (cs.map share)) (O := fun _ => 0) (w' := w) ⟨hS1, fun b hb => (hS2 b hb).imp id fun h => (hst0.lt _ b h).1⟩ hst1 (by omega) (zly _) hN hdd htN (hnr0.cons (by simp [zqf])) (by unfold zqi; rw [hws]; rfl) ?_ (Below.refl _ _) (fun _ => Nat.zero_le _) (fun b hb => by omega) ⟨_, rfl, ?_⟩
    ·rw [execOp, ho]
     simp only [Sem.run_bind, hv1, run1 hag, Result.andThen_ok, Sem.run_pure]
    ·rw [List.drop_zero, zlm (by omega)]
     exact hrc
   split at h
   ·rename_i ms hs
    refine yh8 hcx hst hn hN ht hpos ho hlk rfl rfl rfl hs ?_ h
    intro vr u ad e1 e2 e3
    rw [htm] at e1; injection e1 with e1; subst e1
    injection e2 with e2; subst e2
    obtain ⟨q, rfl⟩ := hr.pos
    obtain ⟨g, C, T, O', hvv, _⟩ := hr
    rw [hvv] at e3 ⊢
    injection e3 with e3; subst e3
    rfl
   ·exact (zqd h).elim
  ·rename_i cs c
   obtain ⟨hc, h⟩ := zqq h
   obtain ⟨hp, h⟩ := zqq h
   have hr := hv.plain hst hn rfl (fun O h => by obtain ⟨m, rfl⟩ := h.pos; obtain ⟨_, _, _, _, _, _, _, _, _, _, hz, _⟩ := h; exact hz)
   obtain ⟨m, rfl⟩ := hr.pos
   obtain ⟨g, q, C, T, fr, hvv, hS, hg, h4, h5, hz, hrc⟩ := hr
   have hsz : q + ti.zero.length ≤ C.size := by omega
   obtain ⟨run1, run2⟩ := yba hcx ht hg hsz
   have run : ∀ v, (Instr.loadAt t (a.eval x)).run P w = .ok v w → (execOp a.eval o).run P w = .ok (.value v) w := by
    intro v hv
    rw [execOp, ho]
    simp only [Sem.run_bind, hv, Result.andThen_ok, Sem.run_pure]
   have hcs := ybg cs c ti.zero.length
   have hrc0 := hrc
   rw [hcs] at hrc0
   obtain ⟨O1, O2, O3, _, r2, _, hO⟩ := hrc0.split3
   have hcl : (cs.take c).length = c := by simp; omega
   have hml : ((cs.drop c).take ti.zero.length).length = ti.zero.length := by simp; omega
   rw [hcl, hml] at r2
   have e2 : (((C.toList.drop (q - c)).take (cs.take c ++ (cs.drop c).take ti.zero.length ++ cs.drop (c + ti.zero.length)).length).drop c).take ti.zero.length = (C.toList.drop q).take ti.zero.length := by
    rw [← hcs, List.drop_take, List.take_take, List.drop_drop, Nat.min_eq_left (by omega), Nat.sub_add_cancel h4]
   rw [e2] at r2
   split at h
   ·rename_i hag
    refine fin0 hst hn hN h (run _ (by rw [hvv]; exact run1 hag)) (.inr ⟨_, rfl, ?_⟩)
    exact r2.cast fun b => (zrg r2 hp b).symm
   ·rename_i hag
    split at h
    ·rename_i z hz1
     have h1 : ti.zero.length = 1 := by rw [hz1] at hml; simpa using hml.symm
     rw [hz1] at r2 hp
     obtain ⟨v, hv1, hzz⟩ := r2.one
     have hp' : zqt z = true := by simpa using hp
     rw [h1] at hv1
     exact fin0 hst hn hN h (run v (by rw [hvv]; exact run2 (by simpa using hag) v hv1)) (.inr ((hzz.le (Nat.le_succ m)).cast fun b => (zqp hzz hp' b).symm))
    ·exact (zqd h).elim
  ·exact (zqd h).elim
theorem ypu (hst : St P F B0 w0 n env a.tmps w S Os) (hn : 0 < n) (hN : (a.tmps.size = cx.N ∧ F.lo = cx.lo)) {x : Operand} (ho : o.op = .nilCheck x) (h : (ys6 cx o.dst x).run env = some (l, eff)) : o.wp P a w (Post P F B0 w0 S cx env eff a) Q := by
 unfold ys6 at h
 obtain ⟨y, s, l1, hv, h⟩ := zqm h
 split at h
 ·obtain ⟨ha, z, hz, hzr⟩ := hv.adr hst hn
  obtain ⟨xr, y', l2, hxr, hy, hyo, h⟩ := ydg h
  rw [hz] at hxr; injection hxr with hxr; subst hxr
  obtain ⟨vr, u, ad, f1, f2, f3, f4⟩ := ha z hz y' hy hyo
  have hrun : (execOp a.eval o).run P w = .ok (.value (a.eval x)) w := by rw [execOp, ho]; simp [f4]
  exact fin0 hst hn hN h hrun (ygw hst hn hv rfl)
 ·exact (zqd h).elim
end
end Go.Lf
end

section
namespace Go.Lf
open Go Go.RowKit
def zre : AV → AV → Prop
 | .sl m e cap _, .sl m' e' cap' _ => m = m' ∧ e = e' ∧ cap = cap'
 | .box _, .box _ => True
 | .tup _, .tup _ => True
 | _, _ => False
theorem zre.putSeg {x : AV} (h : zqu x = true) (hb : x ≠ .bad) (i c : Nat) (ms : List AV) : zre x (putSeg x i c ms) := by
 cases x <;> first | exact ⟨rfl, rfl, rfl⟩ | trivial | exact absurd rfl hb | simp [zqu] at h
theorem zre.setC {x y q : AV} {p : Path} (hg : getC x p = some y) (h : zqu x = true) (hb : x ≠ .bad) (hy : zre y q) : zre x (setC x p q) := by
 cases p with
 | nil => injection hg with hg; subst hg; exact hy
 | cons ic p =>
  obtain ⟨i, c⟩ := ic
  unfold getC at hg
  unfold Lf.setC
  cases hs : seg x i c 1 with
  | none => rw [hs] at hg; cases hg
  | some ms =>
   match ms with
   | [] => rw [hs] at hg; cases hg
   | z :: rest => exact zre.putSeg h hb i c _
theorem zre.ne {x y : AV} {p : Path} (hg : getC x p = some y) (hy : y ≠ .bad) : x ≠ .bad := by
 rintro rfl
 cases p with
 | nil => injection hg with hg; exact hy hg.symm
 | cons ic p => obtain ⟨i, c⟩ := ic; simp [getC, seg] at hg
theorem yg6 {y : AV} (h : yab y = true) : zqu y = true := by
 cases y with
 | sl m e cap xs => rfl
 | box cs => rfl
 | _ => simp [yab] at h
section
variable {P : Program} {F : Frm} {B0 : Nat} {w0 w w' : World} {S S' : Nat → Prop} {n n' : Nat} {env : Env} {a : Act} {tmps : Array Value} {Os : Nat → Own} {cx : Cx} {o : Oper} {Q : Exit → Act → World → Prop} {eff : Eff} {l : List Nat}
theorem zre.like {x x' : AV} (h : zre x x') : zqu x' = true ∧ (∀ m e cap xs, x' = .sl m e cap xs → ∃ m0 cap0 xs0, x = .sl m0 e cap0 xs0) ∧ (yab x' = true → yab x = true ∧ ∀ i c, fo P x' i c = fo P x i c) := by
 cases x with
 | sl m e cap xs =>
  cases x' with
  | sl m' e' cap' xs' =>
   obtain ⟨rfl, rfl, rfl⟩ := h
   refine ⟨rfl, ?_, ?_⟩
   ·intro m2 e2 cap2 xs2 e3; injection e3 with e4 e5 e6 e7; subst e4 e5 e6; exact ⟨_, _, _, rfl⟩
   ·intro ho
    cases m with
    | own => exact ⟨rfl, fun _ _ => rfl⟩
    | _ => simp [yab] at ho
  | _ => exact h.elim
 | box cs =>
  cases x' with
  | box cs' => exact ⟨rfl, (fun _ _ _ _ h => by cases h), (fun _ => ⟨rfl, fun _ _ => rfl⟩)⟩
  | _ => exact h.elim
 | tup cs =>
  cases x' with
  | tup cs' => exact ⟨rfl, (fun _ _ _ _ h => by cases h), (fun h => by simp [yab] at h)⟩
  | _ => exact h.elim
 | _ => exact h.elim
theorem yib {y : AV} (h : yab y = true) : One y := by
 cases y with
 | sl m e cap xs => rfl
 | box cs => rfl
 | _ => simp [yab] at h
theorem Below.setRow' {g : Nat} (hg : B0 ≤ g) (C : Array Value) : Below B0 w (w.setRow g C) :=
 ⟨rfl, rfl, rfl, by simp, fun k hk => setRow_other w g k C (by omega)⟩
theorem St.write (hst : St P F B0 w0 n env tmps w S Os) {r : Nat} {p : Path} {xr y : AV} {i c k : Nat} {old : List AV} (hr : lk env r = some xr) (hrt : zqu xr = true) (hg : getC xr p = some y) (ho : yab y = true)
  (hs : seg y i c k = some old) (hk : 0 < k) {vs' : List Value} {ms' : List AV} {O' : Own} (hl' : ms'.length = k) (h1' : ∀ q ∈ ms', One q) (hrc : Rc (Rv P B0 w S n) vs' ms' O') (hO1 : ∀ b, O' b ≤ 1)
  (hdis : ∀ b, 0 < O' b → (∀ t, Os t b = 0)) (hdS : ∀ b, S b → O' b = 0) (htop : topOnly r env ∨ ∀ q, q ≠ [] → ∀ z, getC (setC xr p (putSeg y i c ms')) q = some z → yab z = false) :
  ∃ (n' : Nat) (g : Nat) (C : Array Value) (T : TypeId) (vr u : Value) (O2 : Own), n ≤ n' ∧ tmps[r]? = some vr ∧ LV P w vr xr p = some u ∧ HeadOf u g ∧ w.heap[g]? = some (.cells C T (0, 0)) ∧ fo P y i c + k ≤ C.size ∧ vs'.length = k ∧
   St P F B0 w0 n' ((r, setC xr p (putSeg y i c ms')) :: env) tmps (w.setRow g (C.toList.take (fo P y i c) ++ vs' ++ C.toList.drop (fo P y i c + k)).toArray) S (fun t => if t = r then O2 else Os t) := by
 obtain ⟨vr, hv, hsv⟩ := hst.rel r xr hr
 have hrv := hsv.rv (by cases xr <;> first | rfl | simp [zqu] at hrt)
 obtain ⟨m, u, Oy, Oq, hm, hy, hlv, hO, wand⟩ := yqh p n vr xr y (Os r) hrv (hst.one r) hg
 obtain ⟨m, rfl⟩ := hy.pos
 obtain ⟨g, C, T, Om, Oz, hh, hb, hgg, hsz, hlen, _, hOO, hgz, back⟩ := Rv.stretch ho hk hs (fun b => by have := hO b; have := hst.one r b; omega) hy
 have hvl : vs'.length = k := by rw [hrc.length, hl']
 have hgr : 0 < Os r g := by have := hO g; have := hOO g; omega
 have hgS : ¬ S g := fun h => by have := hst.excl g r h; omega
 have hother : ∀ b, b ≠ g → (w.setRow g (C.toList.take (fo P y i c) ++ vs' ++ C.toList.drop (fo P y i c + k)).toArray).heap[b]? = w.heap[b]? := fun b hne => setRow_other w g b _ hne
 have hnew : (w.setRow g (C.toList.take (fo P y i c) ++ vs' ++ C.toList.drop (fo P y i c + k)).toArray).heap[g]? = some (.cells (C.toList.take (fo P y i c) ++ vs' ++ C.toList.drop (fo P y i c + k)).toArray T (0, 0)) := setRow_heap w g C _ T _ hgg
 have hSne : ∀ b, S b → b ≠ g := fun b hb e => hgS (e ▸ hb)
 have hrc' : Rc (Rv P B0 (w.setRow g (C.toList.take (fo P y i c) ++ vs' ++ C.toList.drop (fo P y i c + k)).toArray) S n) vs' ms' O' :=
  hrc.frame (fun _ h => h) (fun b hb => hother b (hSne b hb)) fun b hb' => hother b (fun e => by subst e; have := hdis b hb' r; omega)
 have hput := back n _ S _ vs' ms' O' (by omega) hnew rfl hl' h1' hrc' (fun _ h => h) (fun b hb => hother b (hSne b hb)) (fun b _ hne => hother b hne)
 have hOqg : Oq g = 0 := by have := hst.one r g; have := hO g; have := hOO g; omega
 have hroot := wand (n + 1) _ S _ _ hput (fun _ _ => (yib ho).putSeg i c ms') (fun _ h => h) (fun b hb => hother b (hSne b hb)) (fun b hb => hother b (fun e => by subst e; omega)) (fun _ => yib ho)
 have hyb : y ≠ .bad := by rintro rfl; simp [yab] at ho
 have hsh := zre.setC hg hrt (zre.ne hg hyb) (zre.putSeg (yg6 ho) hyb i c ms')
 obtain ⟨like1, like2, like3⟩ := zre.like (P := P) hsh
 refine ⟨n + (n + 1), g, C, T, vr, u, (fun b => O' b + Oz b + Oq b), by omega, hv, hlv, hh, hgg, hsz, hvl, ?_⟩
 have hOz : ∀ b, Oz b + Oq b ≤ Os r b := fun b => by have := hO b; have := hOO b; omega
 refine hst.turn (by omega) hv hr (Below.setRow' hb _) (fun _ h => h) (fun b hb => by have := hst.sLt b hb; simp; omega) (fun b t _ hb => hst.excl b t hb) (fun b hb => ?_) (fun b hb => hother b ?_) (fun b => ?_) (fun b t ht hb => ?_) hroot like1 htop like2 like3
 ·have := hst.excl b r hb; have := hdS b hb; have := hOz b; omega
 ·rcases hb with hb | ⟨t, ht, hb⟩
  ·exact hSne b hb
  ·rintro rfl
   rcases hst.dis r t b (Ne.symm ht) with h | h <;> omega
 ·have := hOz b; have := hst.one r b; have := hO1 b
  by_cases hb : 0 < O' b
  ·have := hdis b hb r; omega
  ·omega
 ·by_cases hb' : 0 < O' b
  ·exact hdis b hb' t
  ·have : 0 < Os r b := by have := hOz b; omega
   rcases hst.dis r t b (Ne.symm ht) with h | h
   ·omega
   ·exact h
end
end Go.Lf
end

section
namespace Go.Lf
open Go Go.RowKit
section
variable {P : Program} {F : Frm} {B0 : Nat} {w0 w w' : World} {S S' : Nat → Prop} {n n' : Nat} {env : Env} {a : Act} {tmps : Array Value} {Os : Nat → Own} {cx : Cx} {o : Oper} {Q : Exit → Act → World → Prop} {eff : Eff} {l : List Nat}
theorem Rv.oneCell {v : Value} {x : AV} {O : Own} (h : Rv P B0 w S n v x O) (hp : zqt x = true ∨ ∃ e cap xs, x = .sl .own e cap xs) : v.oneCell' = true := by
 obtain ⟨m, rfl⟩ := h.pos
 cases x with
 | atom u =>
  rcases hp with hp | ⟨_, _, _, hp⟩
  ·rw [h.1]; exact hp
  ·cases hp
 | sl mm e cap xs =>
  cases mm with
  | own =>
   obtain ⟨vs, O', ho, _⟩ := h
   rcases ho.2 with ⟨rfl, _⟩ | ⟨g, c, cur, rfl, _⟩ <;> rfl
  | fresh => obtain ⟨A, k, rfl, _⟩ := h; rfl
  | any => obtain ⟨A, k, rfl, _⟩ := h; rfl
 | _ =>
  rcases hp with hp | ⟨_, _, _, hp⟩
  ·simp [zqt] at hp
  ·cases hp
theorem yb0 {x : AV} (h : zqt x = true) : One x := by cases x <;> first | rfl | simp [zqt] at h
theorem ydn (hcx : CxOk P cx) {t : TypeId} {ti : TInfo} (ht : tyF cx.T t = some ti) (hpos : 0 < ti.zero.length) {ad x : Operand} (ho : o.op = .store t ad x) (hd : o.dst = none)
  {env1 : Env} {Os1 : Nat → Own} {n1 : Nat} {S0 : Nat → Prop} (hgr : Grow B0 S0 S) (hst : St P F B0 w0 n1 env1 a.tmps w S Os1) (hn : 0 < n1) (hN : (a.tmps.size = cx.N ∧ F.lo = cx.lo))
  {r : Nat} {p : Path} {i c : Nat} {xr y : AV} {old : List AV} (hr : lk env1 r = some xr) (hrt : zqu xr = true) (hg : getC xr p = some y) (hyo : yab y = true) (hs : seg y i c ti.zero.length = some old)
  {vs' : List Value} {ms' : List AV} {O' : Own} (htop : topOnly r env1 ∨ ∀ q, q ≠ [] → ∀ z, getC (setC xr p (putSeg y i c ms')) q = some z → yab z = false) (hl' : ms'.length = ti.zero.length) (h1' : ∀ q ∈ ms', One q) (hrc : Rc (Rv P B0 w S n1) vs' ms' O') (hO1 : ∀ b, O' b ≤ 1)
  (hdis : ∀ b, 0 < O' b → (∀ t, Os1 t b = 0)) (hdS : ∀ b, S b → O' b = 0) (hcells : (a.eval x).cells.toList = vs') (hone : ∀ v ∈ vs', v.oneCell' = true)
  (hptr : ∀ vr u q, a.tmps[r]? = some vr → LV P w vr xr p = some u → yb7 u = some q → a.eval ad = .pointer (some ⟨q.block, q.off + fo P y i c, none⟩))
  (heff : zqi eff env = (r, setC xr p (putSeg y i c ms')) :: env1) : o.wp P a w (Post P F B0 w0 S0 cx env eff a) Q := by
 obtain ⟨n2, g, C, T, vr, u, O2, hn2, hvr, hlv, hh, hgg, hsz, hvl, hst2⟩ := hst.write hr hrt hg hyo hs hpos hl' h1' hrc hO1 hdis hdS htop
 have hp := hptr vr u _ hvr hlv hh.addr
 simp only [Nat.zero_add] at hp
 obtain ⟨tj, z, d, h1, _, _, h4, _⟩ := (hcx.ty t ti ht).ex
 have hst3 := run_storeCells_at P g (fo P y i c) T vs' 0 C w hgg (by rw [hvl]; omega) hone
 simp only [Nat.add_zero, hvl] at hst3
 have hsz2 : (a.eval x).cells.size = ti.zero.length := by rw [← zlr, hcells, hvl]
 have hrun : (execOp a.eval o).run P w = .ok .skip (w.setRow g (C.toList.take (fo P y i c) ++ vs' ++ C.toList.drop (fo P y i c + ti.zero.length)).toArray) := by
  rw [execOp, ho]
  simp [Instr.storeAt, Instr.sureAddr, hp, storeVar, sizeOf, typeInfo, h1, h4, hsz2, hcells, hst3]
 refine ygh hrun ?_
 rw [hd]
 exact ⟨rfl, hN, n2, S, _, by omega, hgr, by rw [heff]; exact hst2⟩
theorem yo0 {r : Nat} {p : Path} {i c : Nat} {xr y : AV} {v : Value} (ha : Al P env a.tmps w v (.adr r p i c)) (hr : lk env r = some xr) (hg : getC xr p = some y) (hyo : yab y = true) :
  ∀ vr u q, a.tmps[r]? = some vr → LV P w vr xr p = some u → yb7 u = some q → v = .pointer (some ⟨q.block, q.off + fo P y i c, none⟩) := by
 intro vr u q e1 e2 e3
 obtain ⟨vr', u', q', f1, f2, f3, f4⟩ := ha xr hr y hg hyo
 rw [e1] at f1; injection f1 with f1; subst f1
 rw [e2] at f2; injection f2 with f2; subst f2
 rw [e3] at f3; injection f3 with f3; subst f3
 exact f4
theorem yf7 {x : AV} (h : match x with | .box cs => cs.all yd2 = true | .sl .own _ _ xs => (flat xs).all yd2 = true | _ => False) : ∀ q, q ≠ [] → ∀ z, getC x q = some z → yab z = false := by
 intro q hq z hz
 cases q with
 | nil => exact absurd rfl hq
 | cons ic q =>
  obtain ⟨i, c⟩ := ic
  unfold getC at hz
  have key : ∀ ms, seg x i c 1 = some ms → ∀ m ∈ ms, yd2 m = true := by
   intro ms hs m hm
   have atom : ∀ (l : List AV), l.all yd2 = true → m ∈ l → yd2 m = true := fun l hl hml => zls.1 hl m hml
   cases x with
   | box cs =>
    simp only [seg] at hs
    split at hs
    ·injection hs with hs; subst hs
     exact atom cs h (List.mem_of_mem_drop (List.mem_of_mem_take hm))
    ·cases hs
   | sl mm e cap xs =>
    cases mm with
    | own =>
     simp only [seg] at hs
     split at hs
     ·rename_i el hel
      split at hs
      ·injection hs with hs; subst hs
       refine atom (flat xs) h ?_
       exact List.mem_flatMap.2 ⟨el, List.mem_of_getElem? hel, List.mem_of_mem_drop (List.mem_of_mem_take hm)⟩
      ·cases hs
     ·cases hs
    | _ => exact h.elim
   | _ => exact h.elim
  cases hs : seg x i c 1 with
  | none => rw [hs] at hz; cases hz
  | some ms =>
   rw [hs] at hz
   match ms, hs, hz with
   | [], hs, hz => cases hz
   | m :: rest, hs, hz =>
    have hm := key _ hs m (by simp)
    cases q with
    | nil =>
     injection hz with hz; subst hz
     cases m with
     | sl mm _ _ _ => cases mm with
      | own => cases hm
      | _ => rfl
     | _ => first | rfl | cases hm
    | cons ic q =>
     obtain ⟨i', c'⟩ := ic
     cases m with
     | sl mm _ _ _ => cases mm with
      | own => cases hm
      | _ => simp [getC, seg] at hz
     | atom v => simp [getC, seg] at hz
     | _ => cases hm
theorem ybn {dr : Bool} {r : Nat} {p : Path} {i c k : Nat} {xr : AV} {ms : List AV} {ws : List (Nat × AV)} {kl : List (Nat × Bool)} (h : (storeAt dr r p i c k xr ms ws kl).run env = some (l, eff)) :
  ∃ y old, getC xr p = some y ∧ yab y = true ∧ ms.length = k ∧ seg y i c k = some old ∧ eff.ws = (r, setC xr p (putSeg y i c ms)) :: ws ∧ (eff.kl = (r, true) :: kl ∨ (eff.kl = kl ∧ ∀ q, q ≠ [] → ∀ z, getC (setC xr p (putSeg y i c ms)) q = some z → yab z = false)) := by
 unfold storeAt at h
 obtain ⟨y, hg, h⟩ := ybu h
 ·obtain ⟨⟨ho, hl⟩, h⟩ := zqq h
  obtain ⟨old, hs, h⟩ := yeg h
  ·refine ⟨y, old, by first | exact hg | rfl, ho, hl, by first | exact hs | rfl, ?_⟩
   replace h := ycl h
   rw [RP.run] at h
   unfold yzm at h
   split at h
   ·split at h
    ·rename_i cs hx
     simp only [RP.run] at h
     split at h
     ·rename_i ha
      injection h with h; injection h with _ h
      subst h
      exact ⟨rfl, .inr ⟨rfl, by rw [hx]; exact yf7 (x := .box cs) ha⟩⟩
     ·injection h with h; injection h with _ h
      subst h
      exact ⟨rfl, .inl rfl⟩
    ·rename_i e cap xs hx
     simp only [RP.run] at h
     split at h
     ·rename_i ha
      injection h with h; injection h with _ h
      subst h
      exact ⟨rfl, .inr ⟨rfl, by rw [hx]; exact yf7 (x := .sl .own e cap xs) ha⟩⟩
     ·injection h with h; injection h with _ h
      subst h
      exact ⟨rfl, .inl rfl⟩
    ·injection h with h; injection h with _ h
     subst h
     exact ⟨rfl, .inl rfl⟩
   ·injection h with h; injection h with _ h
    subst h
    exact ⟨rfl, .inl rfl⟩
theorem St.shareAt (hst : St P F B0 w0 n env tmps w S Os) {r : Nat} {p : Path} {xr : AV} {e : TypeId} {cap : Option Nat} {xs : List AV} (hr : lk env r = some xr) (hrt : zqu xr = true) (hg : getC xr p = some (.sl .own e cap xs)) (htop : p = [] ∨ topOnly r env) :
  ∃ n' S' Os' vr u m, n ≤ n' ∧ St P F B0 w0 n' ((r, setC xr p (share (.sl .own e cap xs))) :: env) tmps w S' Os' ∧ (∀ b, S b → S' b) ∧ tmps[r]? = some vr ∧ LV P w vr xr p = some u ∧ m ≤ n ∧
   Rv P B0 w S' m u (share (.sl .own e cap xs)) (fun _ => 0) ∧ (∀ t b, Os' t b ≤ Os t b) ∧ (∀ b, S' b → S b ∨ 0 < Os r b) := by
 obtain ⟨vr, hv, hsv⟩ := hst.rel r xr hr
 have hrv := hsv.rv (by cases xr <;> first | rfl | simp [zqu] at hrt)
 obtain ⟨m, u, Oy, Oq, hm, hy, hlv, hO, wand⟩ := yqh p n vr xr _ (Os r) hrv (hst.one r) hg
 have hsh := Rv.remode (S' := fun b => S b ∨ 0 < Oy b) zqx (fun m => by cases m <;> simp [zqx]) (fun m h => by cases m <;> simp [zqx] at h ⊢) (fun b hb => .inl hb) m 12 u _ Oy (fun b hb => .inr hb) hy
 have hroot := wand m w (fun b => S b ∨ 0 < Oy b) _ _ hsh (fun _ _ => rfl) (fun b hb => .inl hb) (fun _ _ => rfl) (fun _ _ => rfl) (fun _ => rfl)
 have hlike : zqu (setC xr p (share (.sl .own e cap xs))) = true ∧ (∀ m e' cap' xs', setC xr p (share (.sl .own e cap xs)) = .sl m e' cap' xs' → ∃ m0 cap0 xs0, xr = .sl m0 e' cap0 xs0) ∧
   (yab (setC xr p (share (.sl .own e cap xs))) = true → yab xr = true ∧ ∀ i c, fo P (setC xr p (share (.sl .own e cap xs))) i c = fo P xr i c) ∧ (topOnly r env ∨ ∀ q, q ≠ [] → getC (setC xr p (share (.sl .own e cap xs))) q = none) := by
  cases p with
  | nil =>
   injection hg with hg; subst hg
   refine ⟨rfl, ?_, ?_, .inr ?_⟩
   ·intro m' e' cap' xs' h
    injection h with h1 h2 h3 h4; subst h2
    exact ⟨_, _, _, rfl⟩
   ·intro h; cases h
   ·intro q hq
    cases q with
    | nil => exact absurd rfl hq
    | cons ic q => obtain ⟨i, c⟩ := ic; rfl
  | cons ic p =>
   obtain ⟨i, c⟩ := ic
   have hne : xr ≠ .bad := zre.ne hg (by simp)
   have hsm : zre xr (setC xr ((i, c) :: p) (share (.sl .own e cap xs))) := by
    unfold getC at hg
    unfold setC
    cases hs : seg xr i c 1 with
    | none => rw [hs] at hg; cases hg
    | some ms =>
     match ms with
     | [] => rw [hs] at hg; cases hg
     | z :: rest => exact zre.putSeg hrt hne i c _
   obtain ⟨l1, l2, l3⟩ := zre.like (P := P) hsm
   exact ⟨l1, l2, l3, .inl (htop.resolve_left (by simp))⟩
 obtain ⟨k1, k2, k3, k4⟩ := hlike
 have hOy : ∀ b, 0 < Oy b → Oq b = 0 ∧ 0 < Os r b := fun b hb => by have := hO b; have := hst.one r b; omega
 refine ⟨n + m, _, _, vr, u, m, Nat.le_add_right n m, hst.turn (O := Oq) (Nat.le_add_right n m) hv hr (Below.refl _ _) (fun b hb => .inl hb) ?_ ?_ ?_ (fun _ _ => rfl) ?_ ?_ (hroot.cast fun b => by simp) k1 (k4.imp id fun h p hp y hy => by rw [h p hp] at hy; cases hy) k2 k3, fun b hb => .inl hb, hv, hlv, hm, hsh, ?_, ?_⟩
 ·intro b hb
  rcases hb with hb | hb
  ·exact hst.sLt b hb
  ·exact (Rv.owned m u _ Oy hy b hb).2
 ·intro b t ht hb
  rcases hb with hb | hb
  ·exact hst.excl b t hb
  ·have := (hOy b hb).2
   rcases hst.dis r t b (Ne.symm ht) with h | h <;> omega
 ·intro b hb
  rcases hb with hb | hb
  ·have := hst.excl b r hb; have := hO b; omega
  ·exact (hOy b hb).1
 ·intro b; have := hO b; have := hst.one r b; omega
 ·intro b t ht hb
  have := hO b
  rcases hst.dis r t b (Ne.symm ht) with h | h
  ·omega
  ·exact h
 ·intro t b
  by_cases ht : t = r
  ·subst ht; have := hO b; simp; omega
  ·simp [ht]
 ·intro b hb
  rcases hb with hb | hb
  ·exact .inl hb
  ·exact .inr (hOy b hb).2
theorem Rv.subSh {m : Nat} {u v : Value} {mm : Mode} (hmm : mm ≠ .own) {e : TypeId} {cap : Option Nat} {xs : List AV} {O : Own} (h : Rv P B0 w S (m + 1) u (.sl mm e cap xs) O) {rng : Option (Nat × Nat × Option Nat)} {q : AV} (hq : ybw (.sl mm e cap xs) rng = some q)
  (hs : subOk P e rng u v) : Rv P B0 w S (m + 1) v q (fun _ => 0) := by
 have sh : ∀ {cap' : Option Nat} {ys : List AV} {v : Value}, (Shs P B0 w S (Rv P B0 w S m) mm e cap' ys v (fun _ => 0)) → Rv P B0 w S (m + 1) v (.sl mm e cap' ys) (fun _ => 0) := by
  intro cap' ys v h
  cases mm with
  | own => exact absurd rfl hmm
  | fresh => exact h
  | any => exact h
 have h' : Shs P B0 w S (Rv P B0 w S m) mm e cap xs u O := by
  cases mm with
  | own => exact absurd rfl hmm
  | fresh => exact h
  | any => exact h
 obtain ⟨A, kk, rfl, hk, hml, hcap, hu, hz, hx⟩ := h'
 rcases yaz hq with ⟨mm', e', cap', xs', e1, rfl, rfl⟩ | ⟨mm', e', cap', xs', lo, c, k, e1, rfl, hlc, rfl⟩
 ·injection e1 with e1 e2 e3 e4; subst e1 e2 e3 e4
  have hv : v = .slice A xs.length kk := hs
  subst hv
  refine sh ⟨A, kk, rfl, hk, hml, hcap, hu, fun _ => rfl, fun hne => ?_⟩
  obtain ⟨g, off, C, T, fr, h1, h2, h3, h4, h5, h6⟩ := hx hne
  exact ⟨g, off, C, T, fr, h1, h2, h3, h4, h5, h6.cast fun b => (hz b).symm⟩
 ·injection e1 with e1 e2 e3 e4; subst e1 e2 e3 e4
  obtain ⟨A0, l0, k0, A', c', e1, rfl, hle, hcc, hkk, hk3, hA1, hA2⟩ := hs
  injection e1 with e1 e2 e3; subst e1 e2 e3
  have hlen : ((xs.drop lo).take c).length = c := by simp; omega
  refine sh ⟨A', c', by rw [hlen], by rw [hlen]; exact hcc, by omega, ?_, (hu.drop lo).take c, fun _ => rfl, fun hne => ?_⟩
  ·cases k with
   | some c0 => simp only at hk3; simp [yau, ycs, hk3]
   | none =>
    cases cap with
    | none => trivial
    | some c0 => simp only [ycs] at hcap; simp only at hk3; simp only [yau, Option.map_some, ycs]; omega
  ·have hc0 : c ≠ 0 := by intro e; subst e; simp at hne
   have hxne : xs ≠ [] := by intro e; subst e; simp at hne
   obtain ⟨g, off, C, T, fr, rfl, hS, hf, hg, hsz, hr⟩ := hx hxne
   obtain ⟨X, Y, hfl, hX, hM⟩ := ykl hu lo c hlc
   have hr0 := hr
   rw [hfl] at hr0
   obtain ⟨P1, P2, P3, _, r2, _, hP⟩ := hr0.split3
   have hlenf : (flat xs).length = lo * P.cellsOf e + c * P.cellsOf e + Y.length := by rw [hfl]; simp only [zlg, hX, hM]
   refine ⟨g, off + lo * P.cellsOf e, C, T, fr, by rw [hA1 hc0, Option.map_some, zrh], hS, hf, hg, by rw [hM]; omega, ?_⟩
   rw [hX, hM] at r2
   rw [hM]
   have e : (((C.toList.drop off).take (X ++ flat ((xs.drop lo).take c) ++ Y).length).drop (lo * P.cellsOf e)).take (c * P.cellsOf e) = (C.toList.drop (off + lo * P.cellsOf e)).take (c * P.cellsOf e) := by
    rw [List.drop_take, List.take_take, List.drop_drop, Nat.min_eq_left (by simp only [zlg, hX, hM]; omega)]
   rw [e] at r2
   exact r2.cast fun b => by have := hP b; have := hz b; omega
end
end Go.Lf
end

section
namespace Go.Lf
open Go Go.RowKit
theorem topOnly.cons {d t : Nat} {x : AV} {env : Env} (h : topOnly d env) (hx : zqf x ≠ some d) : topOnly d ((t, x) :: env) := by
 intro s y hy hr
 simp only [lk] at hy
 split at hy
 ·injection hy with hy; subst hy; exact absurd hr hx
 ·exact h s y hy hr
theorem yb6 {x q : AV} {p : Path} (hx : zqf x = none) (hq : zqf q = none) : zqf (setC x p q) = none := by
 cases p with
 | nil => exact hq
 | cons ic p =>
  obtain ⟨i, c⟩ := ic
  unfold setC
  split
  ·cases x <;> first | rfl | simp [zqf] at hx
  ·exact hx
section
variable {P : Program} {F : Frm} {B0 : Nat} {w0 w w' : World} {S S' : Nat → Prop} {n n' : Nat} {env : Env} {a : Act} {tmps : Array Value} {Os : Nat → Own} {cx : Cx} {o : Oper} {Q : Exit → Act → World → Prop} {eff : Eff} {l : List Nat}
theorem yhq {r : Nat} {kl : List (Nat × Bool)} {env : Env} {eff : Eff} {C : Prop} (h : eff.kl = (r, true) :: kl ∨ (eff.kl = kl ∧ C)) : topOnly r (kills eff.kl env) ∨ C := by
 rcases h with h | ⟨_, h⟩
 ·exact .inl (topOnly.of_mem (by rw [h]; simp))
 ·exact .inr h
theorem yew {dr : Bool} (hcx : CxOk P cx) (hst : St P F B0 w0 n env a.tmps w S Os) (hn : 0 < n) (hN : (a.tmps.size = cx.N ∧ F.lo = cx.lo)) {t : TypeId} {ti : TInfo} (ht : tyF cx.T t = some ti) (hpos : 0 < ti.zero.length) {ad x : Operand} (ho : o.op = .store t ad x) (hd : o.dst = none)
  {r : Nat} {p : Path} {i c : Nat} {xr : AV} (hr : lk env r = some xr) (hrt : zqu xr = true)
  (hptr : ∀ y, getC xr p = some y → yab y = true → ∀ vr u q, a.tmps[r]? = some vr → LV P w vr xr p = some u → yb7 u = some q → a.eval ad = .pointer (some ⟨q.block, q.off + fo P y i c, none⟩))
  (h : (ygq dr ti r p i c xr x).run env = some (l, eff)) : o.wp P a w (Post P F B0 w0 S cx env eff a) Q := by
 obtain ⟨y, s, l1, hv, h⟩ := zqm h
 have hxl : zqf xr = none := by cases xr <;> first | rfl | simp [zqu] at hrt
 have plainOne : ∀ {z : AV} {l1 : List Nat}, zqt z = true → Rv P B0 w S n (a.eval x) z (fun _ => 0) → (storeAt dr r p i c ti.zero.length xr [z] [] []).run env = some (l1, eff) → o.wp P a w (Post P F B0 w0 S cx env eff a) Q := by
  intro z l1 hp hz h
  obtain ⟨y0, old, hg, hyo, hl, hs, hws, hkl⟩ := ybn h
  have hone := hz.oneCell (.inl hp)
  refine ydn hcx ht hpos ho hd (.refl _ _) (hst.kills hn eff.kl) hn hN (yal hr hxl) hrt hg hyo hs (yhq hkl) (vs' := [a.eval x]) (O' := fun _ => 0) hl ?_ (.cons hz (.nil (O := fun _ => 0) fun _ => rfl) fun _ => rfl)
   (fun _ => Nat.zero_le _) (fun b hb => by omega) (fun _ _ => rfl) (by rw [ybj hone]) ?_ (hptr y0 hg hyo) (by unfold zqi; rw [hws]; rfl)
  ·intro q hq; simp at hq; subst hq; exact yb0 hp
  ·intro v hv'; simp at hv'; subst hv'; exact hone
 split at h
 ·rename_i e cap xs s'
  obtain ⟨hsv, htm, hlk⟩ := hv.rv hst hn rfl
  by_cases hsr : s' = r
  ·rw [if_pos hsr] at h; exact (zqd h).elim
  ·rw [if_neg hsr] at h
   obtain ⟨y0, old, hg, hyo, hl, hs, hws, hkl⟩ := ybn h
   have hst1 := (hst.kills hn eff.kl).bad hn (yal (kl := eff.kl) hlk rfl)
   have hone := hsv.oneCell (.inr ⟨e, cap, xs, rfl⟩)
   have hrlk : lk ((s', .bad) :: kills eff.kl env) r = some xr := by simp [lk, hsr]; exact yal hr hxl
   refine ydn hcx ht hpos ho hd (.refl _ _) hst1 hn hN hrlk hrt hg hyo hs ((yhq hkl).imp (fun h => h.cons (by simp [zqf])) id) (vs' := [a.eval x]) (O' := Os s') hl ?_ (.cons hsv (.nil (O := fun _ => 0) fun _ => rfl) fun _ => rfl)
    (hst.one s') ?_ (fun b hb => hst.excl b s' hb) (by rw [ybj hone]) ?_ (hptr y0 hg hyo) (by unfold zqi; rw [hws]; rfl)
   ·intro q hq; simp at hq; subst hq; rfl
   ·intro b hb t'
    by_cases hts : t' = s'
    ·simp [hts]
    ·simp only [hts, if_false]
     rcases hst.dis s' t' b (Ne.symm hts) with h | h
     ·omega
     ·exact h
   ·intro v hv'; simp at hv'; subst hv'; exact hone
 ·rename_i r' p' rng
  obtain ⟨ha, z, hz, hzr⟩ := hv.al hst hn
  by_cases hrr : r' = r
  ·rw [if_pos hrr] at h; exact (zqd h).elim
  ·rw [if_neg hrr] at h
   obtain ⟨l2, h⟩ := yan h
   rw [hz] at h
   simp only at h
   have hzl : zqf z = none := by cases z <;> first | rfl | simp [zqu] at hzr
   obtain ⟨zz, hg', h⟩ := ybu h
   split at h
   ·rename_i e cap xs
    cases hq : ybw (share (.sl .own e cap xs)) rng with
    | none => rw [hq] at h; exact (zqd h).elim
    | some q =>
     rw [hq] at h
     replace h := ycl h
     obtain ⟨y0, old, hg, hyo, hl, hs, hws, hkl⟩ := ybn h
     have hst0 := hst.kills hn eff.kl
     have hz0 := yal (kl := eff.kl) hz hzl
     have htop' : p' = [] ∨ topOnly r' (kills eff.kl env) := by
      cases p' with
      | nil => exact .inl rfl
      | cons ic p' => exact .inr (topOnly.of_mem (by rcases hkl with h | ⟨h, _⟩ <;> rw [h] <;> simp))
     obtain ⟨n1, S1, Os1, vr, u, m, hn1, hst1, hS1, hvr, hlv, hm, hsh, _, hSn⟩ := hst0.shareAt hz0 hzr hg' htop'
     obtain ⟨vr', u', e1, e2, e3⟩ := ha z hz _ _ _ _ hg' (.inr rfl)
     rw [hvr] at e1; injection e1 with e1; subst e1
     rw [hlv] at e2; injection e2 with e2; subst e2
     obtain ⟨m, rfl⟩ := hsh.pos
     have hq' := Rv.subSh (by decide) hsh hq e3
     have hone : (a.eval x).oneCell' = true ∧ One q := by
      rcases yaz hq with ⟨_, _, _, _, _, _, rfl⟩ | ⟨_, _, _, _, _, _, _, e4, _, _, rfl⟩
      ·rename_i e4 _
       exact ⟨hq'.oneCell (.inl (by injection e4 with e4; subst e4; rfl)), rfl⟩
      ·exact ⟨hq'.oneCell (.inl (by injection e4 with e4; subst e4; rfl)), rfl⟩
     have hrlk : lk ((r', setC z p' (share (.sl .own e cap xs))) :: kills eff.kl env) r = some xr := by simp [lk, hrr]; exact yal hr hxl
     refine ydn hcx ht hpos ho hd ⟨hS1, fun b hb => (hSn b hb).imp id fun h => (hst0.lt _ b h).1⟩ hst1 (by omega) hN hrlk hrt hg hyo hs ((yhq hkl).imp (fun h => h.cons (by rw [yb6 hzl rfl]; simp)) id) (vs' := [a.eval x]) (O' := fun _ => 0) hl ?_
      (.cons (hq'.le (by omega)) (.nil (O := fun _ => 0) fun _ => rfl) fun _ => rfl) (fun _ => Nat.zero_le _) (fun b hb => by omega) (fun _ _ => rfl) (by rw [ybj hone.1]) ?_ (hptr y0 hg hyo) (by unfold zqi; rw [hws]; rfl)
     ·intro q' hq'; simp at hq'; subst hq'; exact hone.2
     ·intro v hv'; simp at hv'; subst hv'; exact hone.1
   ·rename_i e cap xs
    by_cases hp0 : p' ≠ []
    ·rw [if_pos hp0] at h; exact (zqd h).elim
    rw [if_neg hp0] at h
    cases hq : ybw (.sl .fresh e cap xs) rng with
    | none => rw [hq] at h; exact (zqd h).elim
    | some q =>
     rw [hq] at h
     obtain ⟨vr, m, u, Oy, Oq, hvr, hrv, hm, hy, hlv, hOO⟩ := hst.at hz hzr hg'
     obtain ⟨vr', u', e1, e2, e3⟩ := ha z hz _ _ _ _ hg' (.inl (Classical.not_not.1 hp0))
     rw [hvr] at e1; injection e1 with e1; subst e1
     rw [hlv] at e2; injection e2 with e2; subst e2
     obtain ⟨m, rfl⟩ := hy.pos
     have hq' := Rv.subSh (by decide) hy hq e3
     refine plainOne ?_ (hq'.le hm) h
     rcases yaz hq with ⟨_, _, _, _, e4, _, rfl⟩ | ⟨_, _, _, _, _, _, _, e4, _, _, rfl⟩
     ·injection e4 with e4; subst e4; rfl
     ·injection e4 with e4; subst e4; rfl
   ·exact (zqd h).elim
 ·rename_i s0 cs
  by_cases hp' : ¬ cs.all zqt = true
  ·rw [if_neg hp'] at h
   split at h
   ·rename_i s'
    obtain ⟨hsv, htm, hlk⟩ := hv.rv hst hn rfl
    by_cases hsr : s' = r
    ·rw [if_pos hsr] at h; exact (zqd h).elim
    ·rw [if_neg hsr] at h
     obtain ⟨hp2, h⟩ := zqq h
     obtain ⟨y0, old, hg, hyo, hl, hs, hws, hkl⟩ := ybn h
     have hst1 := (hst.kills hn eff.kl).bad hn (yal (kl := eff.kl) hlk rfl)
     have hrlk : lk ((s', .bad) :: kills eff.kl env) r = some xr := by simp [lk, hsr]; exact yal hr hxl
     obtain ⟨m, rfl⟩ := hsv.pos
     obtain ⟨vs, hvv, hrc⟩ := hsv
     have hpm : ∀ q ∈ cs, zqt q = true ∨ ∃ e cap xs, q = .sl .own e cap xs := by
      intro q hq
      have := zls.1 hp2 q hq
      rcases Bool.or_eq_true_iff.1 this with h | h
      ·exact .inl h
      ·refine .inr ?_
       cases q with
       | sl m e cap xs => cases m with
        | own => exact ⟨e, cap, xs, rfl⟩
        | _ => cases h
       | _ => cases h
     refine ydn hcx ht hpos ho hd (.refl _ _) hst1 hn hN hrlk hrt hg hyo hs ((yhq hkl).imp (fun h => h.cons (by simp [zqf])) id) (vs' := vs.toList) (O' := Os s') hl ?_ (hrc.le (Nat.le_succ m))
      (hst.one s') ?_ (fun b hb => hst.excl b s' hb) (by rw [hvv]; rfl) ?_ (hptr y0 hg hyo) (by unfold zqi; rw [hws]; rfl)
     ·intro q hq
      rcases hpm q hq with h | ⟨e, cap, xs, rfl⟩
      ·exact yb0 h
      ·rfl
     ·intro b hb t'
      by_cases hts : t' = s'
      ·simp [hts]
      ·simp only [hts, if_false]
       rcases hst.dis s' t' b (Ne.symm hts) with h | h
       ·omega
       ·exact h
     ·intro v hv'
      obtain ⟨j, hj⟩ := List.getElem?_of_mem hv'
      have hjl : j < cs.length := by rw [← hrc.length]; exact (zlk.1 hj).1
      obtain ⟨v2, O2, g1, g2, _⟩ := hrc.get (zle hjl)
      rw [hj] at g1; injection g1 with g1; subst g1
      exact g2.oneCell (hpm _ (zlu hjl))
   ·exact (zqd h).elim
  have hp : cs.all zqt = true := Classical.not_not.1 hp'
  rw [if_pos hp] at h
  obtain ⟨y0, old, hg, hyo, hl, hs, hws, hkl⟩ := ybn h
  have hz := hv.plain hst hn rfl (fun O h => by obtain ⟨m, rfl⟩ := h.pos; obtain ⟨_, _, hrc⟩ := h; exact zrg hrc hp)
  obtain ⟨m, rfl⟩ := hz.pos
  obtain ⟨vs, hvv, hrc⟩ := hz
  refine ydn hcx ht hpos ho hd (.refl _ _) (hst.kills hn eff.kl) hn hN (yal hr hxl) hrt hg hyo hs (yhq hkl) (vs' := vs.toList) (O' := fun _ => 0) hl ?_ (hrc.le (Nat.le_succ m))
   (fun _ => Nat.zero_le _) (fun b hb => by omega) (fun _ _ => rfl) (by rw [hvv]; rfl) ?_ (hptr y0 hg hyo) (by unfold zqi; rw [hws]; rfl)
  ·intro q hq; exact yb0 (zls.1 hp q hq)
  ·intro v hv'
   obtain ⟨j, hj⟩ := List.getElem?_of_mem hv'
   have hjl : j < cs.length := by rw [← hrc.length]; exact (zlk.1 hj).1
   obtain ⟨v2, O2, g1, g2, _⟩ := hrc.get (zle hjl)
   rw [hj] at g1; injection g1 with g1; subst g1
   exact g2.oneCell (.inl (zls.1 hp _ (zlu hjl)))
 ·rename_i z hz1 hz2 hz3
  obtain ⟨hp, h⟩ := zqq h
  exact plainOne hp (hv.plain hst hn (by cases y <;> first | rfl | simp [zqt] at hp) (fun O h => zqp h hp)) h
theorem ylg (hcx : CxOk P cx) (hst : St P F B0 w0 n env a.tmps w S Os) (hn : 0 < n) (hN : (a.tmps.size = cx.N ∧ F.lo = cx.lo)) {t : TypeId} {ad x : Operand} (ho : o.op = .store t ad x) (h : (yi1 cx o.dst t ad x).run env = some (l, eff)) : o.wp P a w (Post P F B0 w0 S cx env eff a) Q := by
 unfold yi1 at h
 cases ht : tyF cx.T t with
 | none => rw [ht] at h; exact (zqd h).elim
 | some ti =>
  cases hd : o.dst with
  | some d => rw [ht, hd] at h; exact (zqd h).elim
  | none =>
   rw [ht, hd] at h
   obtain ⟨hpos, h⟩ := zqq h
   obtain ⟨y, s, l1, hv, h⟩ := zqm h
   split at h
   ·rename_i r p i c
    obtain ⟨l2, h⟩ := yan h
    obtain ⟨ha, z, hz, hzr⟩ := hv.adr hst hn
    rw [hz] at h
    exact yew hcx hst hn hN ht hpos ho hd hz hzr (fun y hg hyo => yo0 ha hz hg hyo) h
   ·rename_i cs r
    obtain ⟨hr, htm, hlk⟩ := hv.rv hst hn rfl
    refine yew hcx hst hn hN ht hpos ho hd hlk rfl ?_ h
    intro y hg hyo vr u q e1 e2 e3
    injection hg with hg; subst hg
    rw [htm] at e1; injection e1 with e1; subst e1
    injection e2 with e2; subst e2
    obtain ⟨m, rfl⟩ := hr.pos
    obtain ⟨g, C, T, O', hvv, _⟩ := hr
    rw [hvv] at e3 ⊢
    injection e3 with e3; subst e3
    rfl
   ·exact (zqd h).elim
end
end Go.Lf
end

section
namespace Go.Lf
open Go Go.RowKit
theorem yhy {α : Type} (f : Nat → α) (sz : Nat) (hs : 0 < sz) : ∀ m : Nat, (List.range (m * sz)).map (fun q => f (q % sz)) = (List.replicate m ((List.range sz).map f)).flatten
 | 0 => by simp
 | m + 1 => by
  rw [Nat.add_mul, Nat.one_mul, List.range_add, zlq, yhy f sz hs m, List.replicate_succ', List.flatten_append, List.map_map]
  congr 1
  simp only [List.flatten_cons, List.flatten_nil, List.append_nil]
  apply List.map_congr_left
  intro q hq
  have := List.mem_range.1 hq
  simp only [Function.comp_apply]
  rw [Nat.mul_add_mod_self_right, Nat.mod_eq_of_lt this]
theorem ycx (z : Array Value) (m k : Nat) (hm : m ≤ k) (hz : 0 < z.size) : (madeCells z (k * z.size)).toList.take (m * z.size) = (List.replicate m z.toList).flatten := by
 have h1 : (madeCells z (k * z.size)).toList = (List.range (k * z.size)).map (fun q => z[q % z.size]!) := by simp [madeCells]
 have h2 : (List.range (k * z.size)).take (m * z.size) = List.range (m * z.size) := by
  rw [List.take_range, Nat.min_eq_left (Nat.mul_le_mul_right _ hm)]
 rw [h1, ← List.map_take, h2, yhy (fun q => z[q]!) z.size hz]
 congr 2
 apply List.ext_getElem?
 intro i
 by_cases hi : i < z.size
 ·simp [hi]
 ·simp [hi]
theorem yd6 {P : Program} {e : TypeId} {j : TInfo} (h : TyOk P e j) : (ya6 j).ecells = j.zero.map AV.atom := by
 unfold ya6
 cases ha : j.agg with
 | true => rfl
 | false =>
  have h1 := h.sing ha
  match hz : j.zero, h1 with
  | [v], _ => rfl
theorem yfs (m : Nat) (x : AV) : flat (List.replicate m x) = (List.replicate m x.ecells).flatten := by
 induction m with
 | zero => rfl
 | succ m ih => rw [List.replicate_succ, ya4, ih, List.replicate_succ, List.flatten_cons]
section
variable {P : Program} {F : Frm} {B0 : Nat} {w0 w w' : World} {S S' : Nat → Prop} {n n' : Nat} {env : Env} {a : Act} {tmps : Array Value} {Os : Nat → Own} {cx : Cx} {o : Oper} {Q : Exit → Act → World → Prop} {eff : Eff} {l : List Nat}
theorem yf5 {e : TypeId} {j : TInfo} (h : TyOk P e j) (m : Nat) : flat (List.replicate m (ya6 j)) = (List.replicate m j.zero).flatten.map AV.atom := by
 rw [yfs, yd6 h]
 induction m with
 | zero => rfl
 | succ m ih => rw [List.replicate_succ, List.flatten_cons, ih, List.replicate_succ, List.flatten_cons, zlq]
theorem yho {e : TypeId} {j : TInfo} (h : TyOk P e j) (m : Nat) : Uni (P.cellsOf e) (List.replicate m (ya6 j)) := by
 intro x hx
 rw [List.eq_of_mem_replicate hx, yd6 h, zla, h.cells]
theorem yfn (hcx : CxOk P cx) (hst : St P F B0 w0 n env a.tmps w S Os) (hn : 0 < n) (hN : (a.tmps.size = cx.N ∧ F.lo = cx.lo)) {t : TypeId} {x y : Operand} (ho : o.op = .makeSlice t x y) (h : (yc1 cx o.dst t x y).run env = some (l, eff)) : o.wp P a w (Post P F B0 w0 S cx env eff a) Q := by
 unfold yc1 at h
 cases ht : tyF cx.T t with
 | none => rw [ht] at h; exact (zqd h).elim
 | some ti =>
  rw [ht] at h
  obtain ⟨_, _, d, _, _, _, _, _, hd, _, _, hk⟩ := (hcx.ty t ti ht).ex
  simp only at h
  split at h
  ·rename_i e hkk
   rw [hkk] at hk
   have hk' : d = .slice e := hk
   rw [hk'] at hd
   cases hj : tyF cx.T e with
   | none => rw [hj] at h; exact (zqd h).elim
   | some j =>
    rw [hj] at h
    have hty := hcx.ty e j hj
    obtain ⟨tj, z, _, h1, h2, h3, h4, h5, _⟩ := hty.ex
    obtain ⟨p, s, l1, hv1, hA⟩ := zqm h
    obtain ⟨q, s', l2, hv2, hB⟩ := zqm hA
    clear h hA
    split at hB
    ·rename_i k1 m k2 c
     obtain ⟨⟨g1, g2, g3, g4, g5⟩, h⟩ := yae hB
     have hcl := hty.cells
     have hzs : z.cells.size = j.zero.length := by rw [← zlr, h3]
     have hrun := run_make (P := P) w t e tj z hd h1 h2 k1 k2 m c g1 g2 (by
      rw [h5]
      have : (j.bytes : Int) ≤ 4096 := by omega
      have hb : (j.bytes : Int) * c ≤ 4096 * 4294967296 := Int.mul_le_mul this g3 (by omega) (by omega)
      omega) (by omega)
     refine yen hst hn hN h (v := .slice (some ⟨w.heap.size, 0, none⟩) m.toNat c.toNat) (ob := .cells (madeCells z.cells (c.toNat * tj.size)) e) ?_ ?_
     ·rw [execOp, ho]
      simp only [hv1.atom hst hn, hv2.atom hst hn, Sem.run_bind, hrun, Result.andThen_ok, Sem.run_pure]
     ·refine ⟨(madeCells z.cells (c.toNat * tj.size)).toList.take (m.toNat * P.cellsOf e), fun _ => 0, ?_, rfl, yho hty _, ?_, fun b => by simp [Value.ownBlock]⟩
      ·have hmc : m.toNat ≤ c.toNat := by omega
       have hmul := Nat.mul_le_mul_right (P.cellsOf e) hmc
       have hts : tj.size = P.cellsOf e := by rw [h4, hcl]
       rw [zlw]
       refine ⟨?_, .inr ⟨w.heap.size, c.toNat, _, rfl, hst.b0, heap_alloc_new w _, hmc, ?_, by rw [size_madeCells, hts], rfl⟩⟩
       ·rw [zlh, zlr, size_madeCells, hts]; omega
       ·simp only [maxLen]; omega
      ·rw [yf5 hty]
       have : (madeCells z.cells (c.toNat * tj.size)).toList.take (m.toNat * P.cellsOf e) = (List.replicate m.toNat j.zero).flatten := by
        rw [h4, hcl, ← hzs, ycx _ _ _ (by omega) (by omega), h3]
       rw [this]
       obtain ⟨n, rfl⟩ : ∃ k, n = k + 1 := ⟨n - 1, by omega⟩
       exact Rc.atoms (fun v => ⟨rfl, fun _ => rfl⟩) fun _ => rfl
    ·exact (zqd hB).elim
  ·exact (zqd h).elim
theorem yd5 {α : Type} (hst : St P F B0 w0 n env a.tmps w S Os) (hn : 0 < n) {x : Option Operand} {dflt : Nat} {k : Nat → RP α} {l : List Nat} {e : α} (h : (yip x dflt k).run env = some (l, e)) :
  ∃ q l', (k q).run env = some (l', e) ∧ ((x = none ∧ q = dflt) ∨ ∃ op kk m, x = some op ∧ a.eval op = .int kk m ∧ 0 ≤ m ∧ q = m.toNat) := by
 cases x with
 | none => exact ⟨dflt, l, h, .inl ⟨rfl, rfl⟩⟩
 | some op =>
  simp only [yip] at h
  obtain ⟨y, s, l', hv, h⟩ := zqm h
  split at h
  ·rename_i kk m
   obtain ⟨h0, h⟩ := yae h
   exact ⟨_, l', h, .inr ⟨op, kk, m, rfl, hv.atom hst hn, h0, rfl⟩⟩
  ·exact (zqd h).elim
theorem yp4 {α : Type} (hst : St P F B0 w0 n env a.tmps w S Os) (hn : 0 < n) {hi mx : Option Operand} {cap : Option Nat} {h : Nat} {k : Option Nat → RP α} {l : List Nat} {e : α} (hr : (maxP hi mx cap h k).run env = some (l, e)) :
  ∃ mc l', (k mc).run env = some (l', e) ∧ ((mx = none ∧ mc = none) ∨ ∃ op kk m c0, mx = some op ∧ hi.isSome = true ∧ a.eval op = .int kk m ∧ 0 ≤ m ∧ mc = some m.toNat ∧ cap = some c0 ∧ h ≤ m.toNat ∧ m.toNat ≤ c0) := by
 cases mx with
 | none => exact ⟨none, l, hr, .inl ⟨rfl, rfl⟩⟩
 | some op =>
  obtain ⟨hs, h1⟩ := zqq hr
  obtain ⟨q, l', h2, hq⟩ := yd5 hst hn h1
  cases cap with
  | none => exact (zqd h2).elim
  | some c0 =>
   obtain ⟨⟨h3, h4⟩, h5⟩ := yae h2
   rcases hq with ⟨h6, _⟩ | ⟨op', kk, m, h6, h7, h8, h9⟩
   ·cases h6
   ·injection h6 with h6; subst h6 h9
    exact ⟨_, l', h5, .inr ⟨op, kk, m, c0, rfl, hs, h7, h8, rfl, rfl, h3, h4⟩⟩
theorem subOk.comp {e : TypeId} {u v v' : Value} {lo c l0 c0 : Nat} {k k0 : Option Nat} (h1 : subOk P e (some (lo, c, k)) u v) (h2 : subOk P e (some (l0, c0, k0)) v v') (mc : Option Nat) (hk0 : k0 = mc.map (· - l0)) :
  subOk P e (some (lo + l0, c0, yau l0 k (mc.map (· - l0)))) u v' := by
 obtain ⟨A, ll, kk, A', cc, rfl, rfl, a1, a2, a3, a4, a5, a6⟩ := h1
 obtain ⟨A1, l1, k1, A2, c2, e1, rfl, b1, b2, b3, b4, b5, b6⟩ := h2
 injection e1 with e1 e2 e3; subst e1 e2 e3
 refine ⟨A, ll, kk, A2, c2, rfl, rfl, by omega, b2, by omega, ?_, ?_, ?_⟩
 ·subst hk0
  cases mc with
  | some m => simpa [yau] using b4
  | none =>
   simp only [Option.map_none] at b4
   cases k with
   | none => simp only at a4 b4; simp only [yau, Option.map_none]; omega
   | some k' => simp only at a4 b4; simp only [yau, Option.map_none, Option.map_some]; omega
 ·intro hne
  rw [b5 hne, a5 (by omega), Option.map_map]
  congr 1
  funext q
  simp only [Function.comp_apply, Nat.add_mul]
  unfold Addr.add
  by_cases h1 : lo * P.cellsOf e = 0 <;> by_cases h2 : l0 * P.cellsOf e = 0 <;> simp [h1, h2, Nat.add_assoc]
 ·intro h0
  rw [b6 (by omega), a6 (by omega)]
theorem ylh (hcx : CxOk P cx) (hst : St P F B0 w0 n env a.tmps w S Os) (hn : 0 < n) (hN : (a.tmps.size = cx.N ∧ F.lo = cx.lo)) {t : TypeId} {x : Operand} {lo hi mx : Option Operand} (ho : o.op = .slice t x lo hi mx) (h : (yi3 cx o.dst t x lo hi mx).run env = some (l, eff)) : o.wp P a w (Post P F B0 w0 S cx env eff a) Q := by
 unfold yi3 at h
 cases ht : tyF cx.T t with
 | none => rw [ht] at h; exact (zqd h).elim
 | some ti =>
  rw [ht] at h
  obtain ⟨_, _, d, _, _, _, _, _, hd, _, _, hk⟩ := (hcx.ty t ti ht).ex
  simp only at h
  split at h
  ·rename_i et hkk
   rw [hkk] at hk
   have hk' : d = .slice et := hk
   rw [hk'] at hd
   obtain ⟨hsome, h⟩ := zqq h
   cases hj : tyF cx.T et with
   | none => rw [hj] at hsome; cases hsome
   | some j =>
    obtain ⟨tj, hi1, hi2, hi3⟩ := hcx.info hj
    obtain ⟨y, s, l1, hv, hA⟩ := zqm h
    obtain ⟨m, e, cap, xs, l2, hB, hna, hsrc⟩ := yb3 hst hn hv hA
    clear hA
    obtain ⟨het, hC⟩ := zqq hB
    obtain ⟨lq, l3, hD, hlo⟩ := yd5 hst hn hC
    obtain ⟨hq, l4, hE, hhi⟩ := yd5 hst hn hD
    obtain ⟨mc, l5, hF, hmx⟩ := yp4 hst hn hE
    obtain ⟨⟨hlh, hhx⟩, hG⟩ := yae hF
    clear hB hC hD hE hF
    obtain ⟨A, k, hav, hk1, hml, hcap, hu, hx⟩ := hna
    have hmm : ∃ mm, (mc = none ∧ mm = k ∨ mc = some mm) ∧ hq ≤ mm ∧ mm ≤ k := by
     rcases hmx with ⟨_, rfl⟩ | ⟨op, kk, q, c0, _, _, _, _, rfl, rfl, h1, h2⟩
     ·exact ⟨k, .inl ⟨rfl, rfl⟩, by omega, zly _⟩
     ·rw [hav] at hcap
      have : k = c0 := hcap
      exact ⟨q.toNat, .inr rfl, h1, by omega⟩
    obtain ⟨mm, hmc, hqm, hmk⟩ := hmm
    have hrun : (execOp a.eval o).run P w = .ok (.value (.slice (if mm = lq then A else A.map (·.add (lq * tj.size))) (hq - lq) (mm - lq))) w := by
     have hb : ∀ {kk : IntKind} {q : Int} {y : Nat} {code : BoundsCode}, 0 ≤ q → q.toNat ≤ y → (Instr.sliceBound (.int kk q) y code).run P w = .ok q.toNat w := by
      intro kk q y code h0 h1
      have : q ≤ y := by omega
      simp [Instr.sliceBound, asIntOf, h0, this]
     have hbs : (Instr.sliceBounds true xs.length k (lo.map a.eval) (hi.map a.eval) (mx.map a.eval)).run P w = .ok (lq, hq, mm) w := by
      rcases hmx with ⟨rfl, rfl⟩ | ⟨op, kk, q, c0, rfl, his, hev, h0, rfl, hc0, h1, h2⟩
      ·have hm' : mm = k := by
        rcases hmc with ⟨_, h⟩ | h
        ·exact h
        ·cases h
       subst hm'
       rcases hhi with ⟨rfl, rfl⟩ | ⟨op2, k2, q2, rfl, hev2, h02, rfl⟩ <;> rcases hlo with ⟨rfl, rfl⟩ | ⟨op1, k1, q1, rfl, hev1, h01, rfl⟩
       ·simp [Instr.sliceBounds]
       ·simp [Instr.sliceBounds, hev1, hb h01 hlh]
       ·simp [Instr.sliceBounds, hev2, hb h02 (show q2.toNat ≤ mm by omega)]
       ·simp [Instr.sliceBounds, hev2, hev1, hb h02 (show q2.toNat ≤ mm by omega), hb h01 hlh]
      ·have hm' : mm = q.toNat := by
        rcases hmc with ⟨h, _⟩ | h
        ·cases h
        ·injection h with h; exact h.symm
       subst hm'
       rcases hhi with ⟨rfl, rfl⟩ | ⟨op2, k2, q2, rfl, hev2, h02, rfl⟩
       ·cases his
       ·rcases hlo with ⟨rfl, rfl⟩ | ⟨op1, k1, q1, rfl, hev1, h01, rfl⟩
        ·simp [Instr.sliceBounds, hev, hev2, hb h0 hmk, hb h02 hqm]
        ·simp [Instr.sliceBounds, hev, hev2, hev1, hb h0 hmk, hb h02 hqm, hb h01 hlh]
     rw [execOp, ho]
     simp only [hav]
     simp [Instr.sliceAt, run_underlying hd, Instr.slice, hbs, sizeOf, typeInfo, hi1]
    -- the cut, as a part
    have hsub : et = e ∨ xs = [] → subOk P e (some (lq, hq - lq, mc.map (· - lq))) (a.eval x) (.slice (if mm = lq then A else A.map (·.add (lq * tj.size))) (hq - lq) (mm - lq)) := by
     intro hee
     refine ⟨A, xs.length, k, _, _, hav, rfl, by omega, by omega, by omega, ?_, fun hne => ?_, fun h0 => ?_⟩
     ·rcases hmc with ⟨rfl, rfl⟩ | rfl
      ·simp only [Option.map_none]; omega
      ·simp only [Option.map_some]
     ·rw [if_neg (by omega)]
      rcases hee with rfl | rfl
      ·rw [hi2, hi3]
      ·simp at hhx; omega
     ·subst h0
      split
      ·rfl
      ·simp only [Nat.zero_mul]
       cases A <;> simp [Addr.add]
    have shd : ∀ {l6 : List Nat} {O : Own}, m ≠ .own → (et = e ∨ xs = []) → Rv P B0 w S n (a.eval x) (.sl m e cap xs) O → (outP cx o.dst (.sl m e (yau lq cap (mc.map (· - lq))) ((xs.drop lq).take (hq - lq))) [] []).run env = some (l6, eff) → o.wp P a w (Post P F B0 w0 S cx env eff a) Q := by
     intro l6 O hm hee hr hout
     obtain ⟨q, rfl⟩ := hr.pos
     refine fin0 hst hn hN hout hrun (.inr (Rv.subSh hm hr ?_ (hsub hee)))
     simp only [ybw]
     rw [if_pos (by omega)]
    split at hG
    ·rename_i e' cap' xs' q
     obtain ⟨hr, htm, hlk⟩ := hv.rv hst hn rfl
     have hz : AV.sl m e cap xs = .sl .own e' cap' xs' := hsrc
     injection hz with z1 z2 z3 z4; subst z1 z2 z3 z4
     have hee : et = e := by rcases het with h | h; exact h.symm; cases h
     refine fin0 hst hn hN hG hrun (.inl ⟨?_, q, _, rfl, hlk, rfl⟩)
     intro xr hxr m' e2 cap2 xs2 hg
     rw [hlk] at hxr; injection hxr with hxr; subst hxr
     injection hg with hg; injection hg with _ hg2 _ _; subst hg2
     exact fun _ => ⟨_, _, htm, rfl, hsub (.inl hee)⟩
    ·rename_i r p
     obtain ⟨xr, z0, hxr, hg, hq1⟩ := hsrc
     have hz0 : z0 = .sl m e cap xs := by
      rcases yaz hq1 with ⟨m1, e1, c1, x1, rfl, _, h2⟩ | ⟨_, _, _, _, _, _, _, _, h1, _⟩
      ·exact h2.symm
      ·cases h1
     subst hz0
     have hee : et = e := by rcases het with h | h; exact h.symm; cases h
     obtain ⟨ha, z, hz, hzr⟩ := hv.al hst hn
     rw [hz] at hxr; injection hxr with hxr; subst hxr
     refine fin0 hst hn hN hG hrun (.inl ⟨?_, r, z, rfl, hz, hzr⟩)
     intro xr hxr m' e2 cap2 xs2 hg'
     rw [hz] at hxr; injection hxr with hxr; subst hxr
     rw [hg] at hg'; injection hg' with hg'; injection hg' with hg0 hg2 _ _; subst hg0 hg2; intro hpm
     obtain ⟨vr, u, h1, h2, h3⟩ := ha z hz _ _ _ _ hg hpm
     have h3' : a.eval x = u := h3
     exact ⟨vr, u, h1, h2, by rw [← h3']; exact hsub (.inl hee)⟩
    ·rename_i r p lo' c' k'
     obtain ⟨xr, z0, hxr, hg, hq1⟩ := hsrc
     obtain ⟨ha, z, hz, hzr⟩ := hv.al hst hn
     rw [hz] at hxr; injection hxr with hxr; subst hxr
     rcases yaz hq1 with ⟨_, _, _, _, _, h1, _⟩ | ⟨m1, e1, cap1, xs1, lo1, c1, k1, rfl, h1, hl1, h2⟩
     ·cases h1
     ·injection h1 with h1; injection h1 with h1 h3; injection h3 with h3 h4; subst h1 h3 h4
      injection h2 with h2 h5 h6 h7; subst h2 h5
      have hee : et = e := by rcases het with h | h; exact h.symm; cases h
      refine fin0 hst hn hN hG hrun (.inl ⟨?_, r, z, rfl, hz, hzr⟩)
      intro xr hxr m' e2 cap2 xs2 hg'
      rw [hz] at hxr; injection hxr with hxr; subst hxr
      rw [hg] at hg'; injection hg' with hg'; injection hg' with hg0 hg2 _ _; subst hg0 hg2; intro hpm
      obtain ⟨vr, u, h8, h9, h10⟩ := ha z hz _ _ _ _ hg hpm
      exact ⟨vr, u, h8, h9, h10.comp (hsub (.inl hee)) mc rfl⟩
    ·rename_i e' cap' xs'
     have hz : AV.sl m e cap xs = .sl .fresh e' cap' xs' := hsrc
     injection hz with z1 z2 z3 z4; subst z1 z2 z3 z4
     have hee : et = e := by rcases het with h | h; exact h.symm; cases h
     exact shd (by decide) (.inl hee) (hv.plain hst hn rfl fun O h => zqp h rfl) hG
    ·rename_i e' cap' xs'
     have hz : AV.sl m e cap xs = .sl .any e' cap' xs' := hsrc
     injection hz with z1 z2 z3 z4; subst z1 z2 z3 z4
     have hee : et = e := by rcases het with h | h; exact h.symm; cases h
     exact shd (by decide) (.inl hee) (hv.plain hst hn rfl fun O h => zqp h rfl) hG
    ·rename_i u
     obtain ⟨hz, hu0⟩ := hsrc
     injection hz with z1 z2 z3 z4; subst z1 z2 z3 z4
     obtain ⟨n, rfl⟩ : ∃ q, n = q + 1 := ⟨n - 1, by omega⟩
     have he := hv.atom hst hn
     rw [hu0] at he
     rw [he] at hav
     injection hav with hA hL hK
     subst hA
     have hr0 : (.slice (if mm = lq then (none : Option Addr) else (none : Option Addr).map (·.add (lq * tj.size))) (hq - lq) (mm - lq) : Value) = .slice none 0 0 := by
      have e1 : hq - lq = 0 := by simp at hhx; omega
      have e2 : mm - lq = 0 := by omega
      rw [e1, e2]
      split <;> rfl
     rw [hr0] at hrun
     exact fin0 hst hn hN hG hrun (.inr ⟨rfl, fun _ => rfl⟩)
    ·exact (zqd hG).elim
  ·exact (zqd h).elim
end
end Go.Lf
end

section
namespace Go.Lf
open Go Go.RowKit
theorem yif (off : Nat) : ∀ (l : List Value) (k : Nat) (cells : Array Value), off + k + l.length ≤ cells.size →
  ((l.zipIdx k).foldl (fun cs cj => cs.setIfInBounds (off + cj.2) cj.1) cells).toList = cells.toList.take (off + k) ++ l ++ cells.toList.drop (off + k + l.length)
 | [], k, cells, _ => by simp
 | v :: l, k, cells, h => by
  simp only [List.zipIdx_cons, List.foldl_cons]
  rw [yif off l (k + 1) _ (by simp at h ⊢; omega)]
  have e := list_seg_step cells.toList (off + k) v l (by simp at h ⊢; omega)
  simpa [Array.toList_setIfInBounds, Nat.add_assoc] using e
inductive F2 {α β : Type} (R : α → β → Prop) : List α → List β → Prop
 | nil : F2 R [] []
 | cons {x : α} {y : β} {xs : List α} {ys : List β} : R x y → F2 R xs ys → F2 R (x :: xs) (y :: ys)
theorem F2.length {α β : Type} {R : α → β → Prop} {xs : List α} {ys : List β} (h : F2 R xs ys) : xs.length = ys.length := by
 induction h with
 | nil => rfl
 | cons _ _ ih => simp [ih]
theorem F2.mono {α β : Type} {R R' : α → β → Prop} {xs : List α} {ys : List β} (h : F2 R xs ys) (hR : ∀ x y, R x y → R' x y) : F2 R' xs ys := by
 induction h with
 | nil => exact .nil
 | cons h1 _ ih => exact .cons (hR _ _ h1) ih
def Good (y : AV) : Prop := y.ecells.all zqt = true
section
variable {P : Program} {F : Frm} {B0 : Nat} {w0 w w' : World} {S S' : Nat → Prop} {n n' : Nat} {env : Env} {a : Act} {tmps : Array Value} {Os : Nat → Own} {cx : Cx} {o : Oper} {Q : Exit → Act → World → Prop} {eff : Eff} {l : List Nat}
theorem Good.cells {v : Value} {y : AV} (hg : Good y) (h : Rv P B0 w S n v y (fun _ => 0)) : Rc (Rv P B0 w S n) v.cells.toList y.ecells (fun _ => 0) := by
 have key : zqt y = true → y.ecells = [y] → Rc (Rv P B0 w S n) v.cells.toList y.ecells (fun _ => 0) := by
  intro hp he
  rw [ybj (h.oneCell (.inl hp)), he]
  exact .cons h (.nil (O := fun _ => 0) fun _ => rfl) fun _ => rfl
 cases y with
 | agg cs =>
  obtain ⟨m, rfl⟩ := h.pos
  obtain ⟨vs, rfl, hr⟩ := h
  exact hr.le (Nat.le_succ m)
 | atom u => exact key (by simpa [Good, AV.ecells] using hg) rfl
 | sl m e cap xs => exact key (by simpa [Good, AV.ecells] using hg) rfl
 | _ => simp [Good, AV.ecells, zqt] at hg
theorem yjf (place : Nat → Option (Nat × Nat)) : ∀ (ps : List (Nat × Value)) (ys : List (Nat × AV)) (cells : Array Value) (ac ac' : List AV),
  F2 (fun p q => p.1 = q.1 ∧ Rc (Rv P B0 w S n) p.2.cells.toList q.2.ecells (fun _ => 0)) ps ys → Rc (Rv P B0 w S n) cells.toList ac (fun _ => 0) → yob place ac ys = some ac' →
  ∃ cells', Instr.fill place cells ps = some cells' ∧ Rc (Rv P B0 w S n) cells'.toList ac' (fun _ => 0)
 | [], [], cells, ac, ac', _, hc, h => by
  injection h with h; subst h
  exact ⟨cells, rfl, hc⟩
 | [], _ :: _, _, _, _, hf, _, _ => by cases hf
 | _ :: _, [], _, _, _, hf, _, _ => by cases hf
 | (i, v) :: ps, (j, y) :: ys, cells, ac, ac', hf, hc, h => by
  obtain ⟨h1, h2⟩ : i = j ∧ Rc (Rv P B0 w S n) v.cells.toList y.ecells (fun _ => 0) := by cases hf with | cons h _ => exact h
  have h3 : F2 (fun (p : Nat × Value) (q : Nat × AV) => p.1 = q.1 ∧ Rc (Rv P B0 w S n) p.2.cells.toList q.2.ecells (fun _ => 0)) ps ys := by cases hf with | cons _ h => exact h
  subst h1
  simp only [yob] at h
  cases hp : place i with
  | none => rw [hp] at h; cases h
  | some os =>
   obtain ⟨off, size⟩ := os
   rw [hp] at h
   simp only at h
   by_cases hcd : y.ecells.length = size ∧ off + size ≤ ac.length
   ·rw [if_pos hcd] at h
    obtain ⟨hl, hle⟩ := hcd
    have hvl : v.cells.size = size := by rw [← zlr, h2.length, hl]
    have hcl : cells.size = ac.length := by rw [← zlr, hc.length]
    have hfold := yif off v.cells.toList 0 cells (by simp; omega)
    simp only [Nat.add_zero, zlr, hvl] at hfold
    have hfold' : (v.cells.zipIdx.foldl (fun cs (c, j) => cs.setIfInBounds (off + j) c) cells).toList = cells.toList.take off ++ v.cells.toList ++ cells.toList.drop (off + size) := by
     rw [← hfold, ← Array.foldl_toList]; simp
    have hnew : Rc (Rv P B0 w S n) (v.cells.zipIdx.foldl (fun cs (c, j) => cs.setIfInBounds (off + j) c) cells).toList (ac.take off ++ y.ecells ++ ac.drop (off + size)) (fun _ => 0) := by
     rw [hfold']
     have hm := ybg ac off size
     have hc0 := hc
     rw [hm] at hc0
     obtain ⟨O1, O2, O3, r1, _, r3, hO⟩ := hc0.split3
     have hA : (ac.take off).length = off := by simp; omega
     have hM : ((ac.drop off).take size).length = size := by simp; omega
     rw [hA] at r1; rw [hA, hM] at r3
     exact ((r1.app h2 (O := O1) fun b => by simp).app r3 fun b => by have := hO b; omega)
    obtain ⟨cells', e1, e2⟩ := yjf place ps ys _ _ ac' h3 hnew h
    refine ⟨cells', ?_, e2⟩
    simp only [Instr.fill, hp]
    rw [if_neg (by simp [hvl]; omega)]
    exact e1
   ·rw [if_neg hcd] at h; cases h
structure Shr where
 r : Nat
 p : Path
 xr : AV
 e : TypeId
 cap : Option Nat
 xs : List AV
def Shr.node (q : Shr) : AV := .sl .own q.e q.cap q.xs
def wsOf : Option Shr → List (Nat × AV)
 | none => []
 | some q => [(q.r, setC q.xr q.p (share q.node))]
def klOf : Option Shr → List (Nat × Bool)
 | none => []
 | some q => if q.p.isEmpty then [] else [(q.r, true)]
def Sharing (env : Env) : Option Shr → Prop
 | none => True
 | some q => lk env q.r = some q.xr ∧ zqu q.xr = true ∧ getC q.xr q.p = some q.node
def yc9 (P : Program) (B0 : Nat) (w : World) (S : Nat → Prop) (n : Nat) (tmps : Array Value) (sh : Option Shr) (v : Value) (y : AV) : Prop :=
 (Good y ∧ Rv P B0 w S n v y (fun _ => 0)) ∨
 ∃ q rng, sh = some q ∧ ybw (share q.node) rng = some y ∧ ∀ vr u, tmps[q.r]? = some vr → LV P w vr q.xr q.p = some u → subOk P q.e rng u v
theorem yg7 {mm : Mode} (h : mm ≠ .own) (e : TypeId) (c : Option Nat) (ys : List AV) : Good (.sl mm e c ys) := by
 cases mm <;> first | exact absurd rfl h | rfl
theorem yt4 {α : Type} (hst : St P F B0 w0 n env a.tmps w S Os) (hn : 0 < n) {x : Operand} {k : AV → List (Nat × AV) → List (Nat × Bool) → RP α} {l : List Nat} {r : α} (h : (grab x k).run env = some (l, r)) :
  ∃ y sh l', (k y (wsOf sh) (klOf sh)).run env = some (l', r) ∧ Sharing env sh ∧ yc9 P B0 w S n a.tmps sh (a.eval x) y := by
 obtain ⟨y, s, l1, hv, h1⟩ := zqm h
 clear h
 have good : zqt y = true → (k y [] []).run env = some (l1, r) → ∃ y sh l', (k y (wsOf sh) (klOf sh)).run env = some (l', r) ∧ Sharing env sh ∧ yc9 P B0 w S n a.tmps sh (a.eval x) y := by
  intro hp h
  have hz := hv.plain hst hn (by cases y <;> first | rfl | simp [zqt] at hp) (fun O h => zqp h hp)
  refine ⟨y, none, l1, h, trivial, .inl ⟨?_, hz⟩⟩
  show y.ecells.all zqt = true
  rw [yb0 hp]; simp [hp]
 cases y with
 | sl mm e cap xs =>
  cases mm with
  | own =>
   cases s with
   | none => exact (zqd h1).elim
   | some t =>
    obtain ⟨hr, htm, hlk⟩ := hv.rv hst hn rfl
    refine ⟨_, some ⟨t, [], _, e, cap, xs⟩, l1, h1, ⟨hlk, rfl, rfl⟩, .inr ⟨_, none, rfl, rfl, ?_⟩⟩
    intro vr u e1 e2
    rw [htm] at e1; injection e1 with e1; subst e1
    injection e2 with e2
  | fresh => obtain ⟨hp, h2⟩ := zqq h1; exact good hp h2
  | any => obtain ⟨hp, h2⟩ := zqq h1; exact good hp h2
 | al rr p rng =>
  obtain ⟨l2, h2⟩ := yan h1
  clear h1 good
  obtain ⟨ha, z, hz, hzr⟩ := hv.al hst hn
  rw [hz] at h2
  simp only at h2
  obtain ⟨q, hg, h2⟩ := ybu h2
  ·skip
   have cp : ∀ {mm : Mode} {e : TypeId} {cap : Option Nat} {xs : List AV} {q0 : AV}, p = [] → mm ≠ .own → getC z p = some (.sl mm e cap xs) → ybw (.sl mm e cap xs) rng = some q0 → (k q0 [] []).run env = some (l2, r) →
     ∃ y sh l', (k y (wsOf sh) (klOf sh)).run env = some (l', r) ∧ Sharing env sh ∧ yc9 P B0 w S n a.tmps sh (a.eval x) y := by
    intro mm e cap xs q0 hp0 hmm hg hq h
    obtain ⟨vr, m, u, Oy, Oq, hvr, hrv, hm, hy, hlv, hOO⟩ := hst.at hz hzr hg
    obtain ⟨vr', u', e1, e2, e3⟩ := ha z hz _ _ _ _ hg (.inl hp0)
    rw [hvr] at e1; injection e1 with e1; subst e1
    rw [hlv] at e2; injection e2 with e2; subst e2
    obtain ⟨m, rfl⟩ := hy.pos
    have hq' := Rv.subSh hmm hy hq e3
    refine ⟨q0, none, l2, h, trivial, .inl ⟨?_, hq'.le hm⟩⟩
    rcases yaz hq with ⟨_, _, _, _, e4, _, rfl⟩ | ⟨_, _, _, _, _, _, _, e4, _, _, rfl⟩
    ·injection e4 with e4 e5; subst e4 e5; exact yg7 hmm _ _ _
    ·injection e4 with e4 e5; subst e4 e5; exact yg7 hmm _ _ _
   cases q with
   | sl mm e cap xs =>
    cases mm with
    | own =>
     simp only [RP.run] at h2
     cases hq : ybw (share (.sl .own e cap xs)) rng with
     | none => rw [hq] at h2; exact (zqd h2).elim
     | some q0 =>
      rw [hq] at h2
      replace h2 := ycl h2
      refine ⟨q0, some ⟨rr, p, z, e, cap, xs⟩, l2, h2, ⟨hz, hzr, hg⟩, .inr ⟨_, rng, rfl, hq, ?_⟩⟩
      intro vr u h3 h4
      obtain ⟨vr', u', e1, e2, e3⟩ := ha z hz _ _ _ _ hg (.inr rfl)
      rw [h3] at e1; injection e1 with e1; subst e1
      rw [h4] at e2; injection e2 with e2; subst e2
      exact e3
    | fresh =>
     simp only at h2
     obtain ⟨hp0, h2⟩ := zqq h2
     cases hq : ybw (.sl .fresh e cap xs) rng with
     | none => rw [hq] at h2; exact (zqd h2).elim
     | some q0 => rw [hq] at h2; exact cp hp0 (by decide) hg hq h2
    | any =>
     simp only at h2
     obtain ⟨hp0, h2⟩ := zqq h2
     cases hq : ybw (.sl .any e cap xs) rng with
     | none => rw [hq] at h2; exact (zqd h2).elim
     | some q0 => rw [hq] at h2; exact cp hp0 (by decide) hg hq h2
   | _ => exact (zqd h2).elim
 | agg cs =>
  obtain ⟨hp, h2⟩ := zqq h1
  have hz := hv.plain hst hn rfl (fun O h => by obtain ⟨m, rfl⟩ := h.pos; obtain ⟨_, _, hrc⟩ := h; exact zrg hrc hp)
  exact ⟨_, none, l1, h2, trivial, .inl ⟨hp, hz⟩⟩
 | atom u => obtain ⟨hp, h2⟩ := zqq h1; exact good hp h2
 | _ => obtain ⟨hp, h2⟩ := zqq h1; simp [zqt] at hp
theorem yel {α : Type} (hst : St P F B0 w0 n env a.tmps w S Os) (hn : 0 < n) : ∀ {xs : List Operand} {k : List AV → List (Nat × AV) → List (Nat × Bool) → RP α} {l : List Nat} {r : α}, (yn0 xs k).run env = some (l, r) →
  ∃ ys sh l', (k ys (wsOf sh) (klOf sh)).run env = some (l', r) ∧ Sharing env sh ∧ F2 (fun x y => yc9 P B0 w S n a.tmps sh (a.eval x) y) xs ys
 | [], k, l, r, h => ⟨[], none, l, h, trivial, .nil⟩
 | x :: xs, k, l, r, h => by
  obtain ⟨y, sh, l1, h1, s1, g1⟩ := yt4 hst hn h
  obtain ⟨ys, sh', l2, h2, s2, g2⟩ := yel hst hn h1
  have emp : ∀ {sh' : Option Shr} {v : Value} {y : AV}, yc9 P B0 w S n a.tmps none v y → yc9 P B0 w S n a.tmps sh' v y := by
   intro sh' v y hg
   rcases hg with hg | ⟨_, _, h, _⟩
   ·exact .inl hg
   ·cases h
  cases sh with
  | none => exact ⟨_, sh', l2, h2, s2, .cons (emp g1) g2⟩
  | some q =>
   cases sh' with
   | none => exact ⟨_, some q, l2, h2, s1, .cons g1 (g2.mono fun _ _ hg => emp hg)⟩
   | some q' => exact (zqd h2).elim
theorem Sharing.done (hst : St P F B0 w0 n env a.tmps w S Os) (hn : 0 < n) {sh : Option Shr} {kl' : List (Nat × Bool)} (hs : Sharing env sh) (hkl : ∀ q ∈ klOf sh, q ∈ kl') :
  ∃ n' S' Os', n ≤ n' ∧ St P F B0 w0 n' (wsOf sh ++ kills kl' env) a.tmps w S' Os' ∧ Grow B0 S S' ∧ (∀ t b, Os' t b ≤ Os t b) ∧
   (∀ d, zrm d (kills kl' env) → zrm d (wsOf sh ++ kills kl' env)) ∧
   ∀ v y, yc9 P B0 w S n a.tmps sh v y → Good y ∧ Rv P B0 w S' n' v y (fun _ => 0) := by
 have hst0 := hst.kills hn kl'
 cases sh with
 | none =>
  refine ⟨n, S, Os, zly _, hst0, .refl _ _, fun _ _ => zly _, fun d h => h, fun v y hg => ?_⟩
  rcases hg with hg | ⟨_, _, h, _⟩
  ·exact hg
  ·cases h
 | some q =>
  obtain ⟨hr, hrt, hg⟩ := hs
  have hxl : zqf q.xr = none := by cases hx : q.xr <;> first | rfl | simp [hx, zqu] at hrt
  have hr0 := yal (kl := kl') hr hxl
  have htop : q.p = [] ∨ topOnly q.r (kills kl' env) := by
   cases hp : q.p with
   | nil => exact .inl rfl
   | cons ic p => exact .inr (topOnly.of_mem (hkl _ (by simp [klOf, hp])))
  obtain ⟨n1, S1, Os1, vr, u, m, hn1, hst1, hS1, hvr, hlv, hm, hsh, hOs, hSn⟩ := hst0.shareAt hr0 hrt hg htop
  refine ⟨n1, S1, Os1, hn1, hst1, ⟨hS1, fun b hb => (hSn b hb).imp id fun h => (hst0.lt _ b h).1⟩, hOs, fun d hd => hd.cons (by rw [yb6 hxl rfl]; simp), fun v y hgr => ?_⟩
  rcases hgr with ⟨h1, h2⟩ | ⟨q2, rng, h3, h8, h9⟩
  ·exact ⟨h1, (Rv.frame hS1 (fun _ _ => rfl) n v y _ (fun b hb => rfl) h2).le hn1⟩
  ·injection h3 with h3; subst h3
   obtain ⟨m, rfl⟩ := hsh.pos
   have h10 := h9 vr u hvr hlv
   have hq' := Rv.subSh (by decide) hsh h8 h10
   refine ⟨?_, hq'.le (by omega)⟩
   rcases yaz h8 with ⟨_, _, _, _, e4, _, rfl⟩ | ⟨_, _, _, _, _, _, _, e4, _, _, rfl⟩
   ·injection e4 with e4 e5; subst e4 e5; exact yg7 (by decide) _ _ _
   ·injection e4 with e4 e5; subst e4 e5; exact yg7 (by decide) _ _ _
end
end Go.Lf
end

section
namespace Go.Lf
open Go Go.RowKit
section
variable {P : Program} {F : Frm} {B0 : Nat} {w0 w w' : World} {S S' : Nat → Prop} {n n' : Nat} {env : Env} {a : Act} {tmps : Array Value} {Os : Nat → Own} {cx : Cx} {o : Oper} {Q : Exit → Act → World → Prop} {eff : Eff} {l : List Nat}
theorem F2.eval {R : Operand → AV → Prop} {R' : Value → AV → Prop} : ∀ {xs : List (Nat × Operand)} {ys : List AV}, F2 R (xs.map (·.2)) ys → (∀ x y, R x y → R' (a.eval x) y) →
  F2 (fun (p : Nat × Value) (q : Nat × AV) => p.1 = q.1 ∧ R' p.2 q.2) (xs.map fun p => (p.1, a.eval p.2)) ((xs.map (·.1)).zip ys)
 | [], _, h, _ => by cases h; exact .nil
 | (i, x) :: xs, [], h, _ => by cases h
 | (i, x) :: xs, y :: ys, h, hR => by
  have h1 : R x y := by cases h with | cons h _ => exact h
  have h2 : F2 R (xs.map (·.2)) ys := by cases h with | cons _ h => exact h
  exact .cons ⟨rfl, hR _ _ h1⟩ (F2.eval h2 hR)
theorem yll (hcx : CxOk P cx) (hst : St P F B0 w0 n env a.tmps w S Os) (hn : 0 < n) (hN : (a.tmps.size = cx.N ∧ F.lo = cx.lo)) {t : TypeId} {parts : Array (Nat × Operand)} (ho : o.op = .build t parts)
  (h : (yi6 cx o.dst t parts.toList).run env = some (l, eff)) : o.wp P a w (Post P F B0 w0 S cx env eff a) Q := by
 unfold yi6 at h
 cases ht : tyF cx.T t with
 | none => rw [ht] at h; exact (zqd h).elim
 | some ti =>
  rw [ht] at h
  obtain ⟨j, z, d, h1, h2, h3, h4, h5, hd, hag, hagz, hk⟩ := (hcx.ty t ti ht).ex
  simp only at h
  split at h
  ·rename_i fs hkk
   rw [hkk] at hk
   obtain ⟨f, rfl, _, hm⟩ := hk
   obtain ⟨ys, sh, l1, hA, hs, hf⟩ := yel hst hn h
   split at hA
   ·rename_i cs hcs
    obtain ⟨tt, hdd, htN, hlr, hws, hkl⟩ := yao hA
    have hkm : ∀ q ∈ klOf sh, q ∈ eff.kl := by
     rcases hkl with ⟨h, _⟩ | h
     ·rw [h]; exact fun _ h => h
     ·rw [h]; exact fun _ h => List.mem_cons_of_mem _ h
    obtain ⟨_, hnr0⟩ := hst.readied hn hkl
    obtain ⟨n1, S1, Os1, hnn, hst1, hgr, _, hnr, hall⟩ := hs.done hst hn hkm
    have hfill := yjf (P := P) (B0 := B0) (w := w) (S := S1) (n := n1) (fun k => fs[k]?) _ _ z.cells _ _ ((hf.eval (a := a) (R' := fun v y => Rc (Rv P B0 w S1 n1) v.cells.toList y.ecells (fun _ => 0)) fun x y hg => (hall _ _ hg).1.cells (hall _ _ hg).2))
     (by
      rw [h3]
      obtain ⟨m, rfl⟩ : ∃ k, n1 = k + 1 := ⟨n1 - 1, by omega⟩
      exact Rc.atoms (fun v => ⟨rfl, fun _ => rfl⟩) fun _ => rfl) hcs
    obtain ⟨cells', hfl, hrc⟩ := hfill
    refine yqi (n' := n1 + 1) (v := .agg cells') (x := .agg cs) (O := fun _ => 0) hgr hst1 (by omega) (Nat.le_succ _) hN hdd htN (hnr tt hnr0) (by unfold zqi; rw [hws]; rfl) ?_ (Below.refl _ _) (fun _ => Nat.zero_le _) (fun b hb => by omega) ⟨cells', rfl, hrc⟩
    have hb : P.built t (parts.map fun (i, x) => (i, a.eval x)).toList = some cells' := by
     simp only [Program.built, h1, hd, h2, hm]
     rw [← hfl]
     simp
    rw [execOp, ho]
    simp only [Sem.run_bind, run_build w t _ _ hb, Result.andThen_ok, Sem.run_pure]
   ·exact (zqd hA).elim
  ·rename_i len et hkk
   rw [hkk] at hk
   have hk' : d = .array len et := hk
   rw [hk'] at hd
   split at h
   ·rename_i e he
    obtain ⟨tj, hi1, hi2, hi3⟩ := hcx.info he
    obtain ⟨ys, sh, l1, hA, hs, hf⟩ := yel hst hn h
    split at hA
    ·rename_i cs hcs
     obtain ⟨tt, hdd, htN, hlr, hws, hkl⟩ := yao hA
     have hkm : ∀ q ∈ klOf sh, q ∈ eff.kl := by
      rcases hkl with ⟨h, _⟩ | h
      ·rw [h]; exact fun _ h => h
      ·rw [h]; exact fun _ h => List.mem_cons_of_mem _ h
     obtain ⟨_, hnr0⟩ := hst.readied hn hkl
     obtain ⟨n1, S1, Os1, hnn, hst1, hgr, _, hnr, hall⟩ := hs.done hst hn hkm
     have hfill := yjf (P := P) (B0 := B0) (w := w) (S := S1) (n := n1) (fun k => some (k * e.zero.length, e.zero.length)) _ _ z.cells _ _ ((hf.eval (a := a) (R' := fun v y => Rc (Rv P B0 w S1 n1) v.cells.toList y.ecells (fun _ => 0)) fun x y hg => (hall _ _ hg).1.cells (hall _ _ hg).2))
      (by
       rw [h3]
       obtain ⟨m, rfl⟩ : ∃ k, n1 = k + 1 := ⟨n1 - 1, by omega⟩
       exact Rc.atoms (fun v => ⟨rfl, fun _ => rfl⟩) fun _ => rfl) hcs
     obtain ⟨cells', hfl, hrc⟩ := hfill
     refine yqi (n' := n1 + 1) (v := .agg cells') (x := .agg cs) (O := fun _ => 0) hgr hst1 (by omega) (Nat.le_succ _) hN hdd htN (hnr tt hnr0) (by unfold zqi; rw [hws]; rfl) ?_ (Below.refl _ _) (fun _ => Nat.zero_le _) (fun b hb => by omega) ⟨cells', rfl, hrc⟩
     have hb : P.built t (parts.map fun (i, x) => (i, a.eval x)).toList = some cells' := by
      simp only [Program.built, h1, hd, h2, hi1, hi2]
      rw [← hfl]
      simp
     rw [execOp, ho]
     simp only [Sem.run_bind, run_build w t _ _ hb, Result.andThen_ok, Sem.run_pure]
    ·exact (zqd hA).elim
   ·exact (zqd h).elim
  ·exact (zqd h).elim
theorem yhk {α : Type} (f : Nat × Operand → α) : ∀ (ps : List (Nat × Operand)) (k : Nat), ps.map (·.1) = List.range' k ps.length → ps.map (fun p => (p.1, f p)) = ((ps.map f).zipIdx k).map fun x => (x.2, x.1)
 | [], _, _ => rfl
 | p :: ps, k, h => by
  simp only [List.map_cons, List.length_cons, List.range'_succ, List.cons.injEq] at h
  simp only [List.map_cons, List.zipIdx_cons]
  rw [yhk f ps (k + 1) h.2, h.1]
theorem F2.flat {vs : List Value} {ys : List AV} (h : F2 (fun v y => Rc (Rv P B0 w S n) v.cells.toList y.ecells (fun _ => 0)) vs ys) : Rc (Rv P B0 w S n) (vs.flatMap fun v => v.cells.toList) (flat ys) (fun _ => 0) := by
 induction h with
 | nil => exact .nil (O := fun _ => 0) fun _ => rfl
 | cons h1 _ ih => exact h1.app ih fun b => by simp
theorem F2.vals {R : Operand → AV → Prop} {R' : Value → AV → Prop} {xs : List Operand} {ys : List AV} (h : F2 R xs ys) (hR : ∀ x y, R x y → R' (a.eval x) y) : F2 R' (xs.map a.eval) ys := by
 induction h with
 | nil => exact .nil
 | cons h1 _ ih => exact .cons (hR _ _ h1) ih
theorem F2.sizes {vs : List Value} {ys : List AV} (h : F2 (fun v y => Rc (Rv P B0 w S n) v.cells.toList y.ecells (fun _ => 0)) vs ys) {s : Nat} (hs : ∀ y ∈ ys, y.ecells.length = s) : ∀ v ∈ vs, v.cells.size = s := by
 induction h with
 | nil => simp
 | cons h1 _ ih =>
  intro v hv
  rcases List.mem_cons.1 hv with rfl | hv
  ·rw [← zlr, h1.length]; exact hs _ List.mem_cons_self
  ·exact ih (fun y hy => hs y (List.mem_cons_of_mem _ hy)) v hv
theorem ye0 (hcx : CxOk P cx) (hst : St P F B0 w0 n env a.tmps w S Os) (hn : 0 < n) (hN : (a.tmps.size = cx.N ∧ F.lo = cx.lo)) {t : TypeId} {len : Nat} {parts : Array (Nat × Operand)} (ho : o.op = .buildSlice t len parts)
  (h : (yce cx o.dst t len parts.toList).run env = some (l, eff)) : o.wp P a w (Post P F B0 w0 S cx env eff a) Q := by
 unfold yce at h
 cases ht : tyF cx.T t with
 | none => rw [ht] at h; exact (zqd h).elim
 | some ti =>
  rw [ht] at h
  obtain ⟨_, _, d, _, _, _, _, _, hd, _, _, hk⟩ := (hcx.ty t ti ht).ex
  simp only at h
  split at h
  ·rename_i e hkk
   rw [hkk] at hk
   have hk' : d = .slice e := hk
   rw [hk'] at hd
   cases hj : tyF cx.T e with
   | none => rw [hj] at h; exact (zqd h).elim
   | some j =>
    rw [hj] at h
    have hty := hcx.ty e j hj
    obtain ⟨tj, z, _, h1, h2, h3, h4, h5, _⟩ := hty.ex
    obtain ⟨⟨hr, hsm, hpos⟩, hA0⟩ := zqq h
    clear h
    obtain ⟨ys, sh, l1, hA, hs, hf⟩ := yel hst hn hA0
    obtain ⟨hall0, hB⟩ := zqq hA
    have hys : ∀ y ∈ ys, y.ecells.length = j.zero.length := by simpa using hall0
    obtain ⟨tt, hdd, htN, hlr, hws, hkl⟩ := yao hB
    have hkm : ∀ q ∈ klOf sh, q ∈ eff.kl := by
     rcases hkl with ⟨h, _⟩ | h
     ·rw [h]; exact fun _ h => h
     ·rw [h]; exact fun _ h => List.mem_cons_of_mem _ h
    obtain ⟨_, hnr0⟩ := hst.readied hn hkl
    obtain ⟨n1, S1, Os1, hnn, hst1, hgr, _, hnr, hall⟩ := hs.done hst hn hkm
    have hlen : parts.toList.length = len := by have := congrArg List.length hr; simpa using this
    have hylen : ys.length = len := by rw [← hf.length]; simpa using hlen
    have hfv := hf.vals (a := a) (R' := fun v y => Rc (Rv P B0 w S1 n1) v.cells.toList y.ecells (fun _ => 0)) fun x y hg => (hall _ _ hg).1.cells (hall _ _ hg).2
    have hsz := hfv.sizes hys
    have hcl := hty.cells
    have hts : tj.size = j.zero.length := h4
    have hcells := hfv.flat
    have hvl : ((parts.toList.map (·.2)).map a.eval).length = len := by simpa using hlen
    have hwhole := Great.fill_whole (s := tj.size) (by omega) ((parts.toList.map (·.2)).map a.eval) ((Array.range (len * tj.size)).map (z.cells[· % z.cells.size]!)) (by rw [hts]; exact hsz) (by simp only [hvl]; simp)
    have hparts : (parts.map fun (i, x) => (i, a.eval x)).toList = (((parts.toList.map (·.2)).map a.eval).zipIdx 0).map fun x => (x.2, x.1) := by
     have := yhk (fun p => a.eval p.2) parts.toList 0 (by rw [hr, hlen, List.range_eq_range'])
     rw [Array.toList_map, List.map_map]
     exact this
    have hrun : (Instr.buildSlice t len (parts.map fun (i, x) => (i, a.eval x))).run P w = .ok (.slice (some ⟨w.heap.size, 0, none⟩) len len) (w.alloc (.cells (((parts.toList.map (·.2)).map a.eval).flatMap fun v => v.cells.toList).toArray e)) := by
     by_cases h0 : len = 0
     ·subst h0
      rw [← hparts] at hwhole
      have hp0 : parts.toList = [] := List.length_eq_zero_iff.1 hlen
      have hp1 : parts = #[] := by rw [← Array.toArray_toList (xs := parts), hp0]
      subst hp1
      simp [Instr.buildSlice, run_underlying hd, sizeOf, typeInfo, h1, Instr.fill, newRow]
      congr 2; exact Array.eq_empty_of_size_eq_zero (by simp)
     ·have : 0 < len * tj.size := Nat.mul_pos (by omega) (by omega)
      refine run_buildSlice w t e len _ _ tj z hd h1 h2 (by rw [hts]; omega) (by omega) ?_
      rw [hparts]; exact hwhole
    have hflen : (((parts.toList.map (·.2)).map a.eval).flatMap fun v => v.cells.toList).length = len * P.cellsOf e := by
     rw [hcells.length, hcl, ← hylen]
     exact zqn hys
    refine yqi (n' := n1 + 1) (v := .slice (some ⟨w.heap.size, 0, none⟩) len len) (x := .sl .own e (some len) ys) (O := ind (some w.heap.size)) hgr hst1 (by omega) (Nat.le_succ _) hN hdd htN (hnr tt hnr0) (by unfold zqi; rw [hws]; rfl)
     (w' := w.alloc (.cells (((parts.toList.map (·.2)).map a.eval).flatMap fun v => v.cells.toList).toArray e)) ?_ ((Below.refl _ _).alloc (zly _) _) (fun b => by unfold ind; split <;> omega) (fun b hb => ?_) ?_
    ·rw [execOp, ho]
     simp only [Sem.run_bind, hrun, Result.andThen_ok, Sem.run_pure]
    ·unfold ind at hb
     split at hb
     ·rename_i e; injection e with e; omega
     ·omega
    ·refine ⟨((parts.toList.map (·.2)).map a.eval).flatMap fun v => v.cells.toList, fun _ => 0, ?_, rfl, by rw [hcl]; exact hys, ?_, fun b => by simp [Value.ownBlock]⟩
     ·rw [hylen]
      refine ⟨hflen, .inr ⟨w.heap.size, len, _, rfl, hst.b0, heap_alloc_new w _, zly _, ?_, by rw [List.size_toArray]; exact hflen, by rw [← hflen]; exact List.take_length⟩⟩
      simp only [maxLen]
      have : len * 1 ≤ len * j.zero.length := Nat.mul_le_mul_left _ hpos
      omega
     ·exact hcells.frame (fun _ h => h) (fun b hb => by
       have := hst1.sLt b hb
       exact ((Below.refl w.heap.size w).alloc (zly _) _).block b this) fun b hb => absurd hb (by simp)
  ·exact (zqd h).elim
end
end Go.Lf
end

section
namespace Go.Lf
open Go Go.RowKit
section
variable {P : Program} {F : Frm}
inductive Src (P : Program) (w : World) (e : TypeId) (size : Nat) (z : Value) (u : TypeId) (x : Value) (m : Nat) (news : List Value) : Prop
 | some (hu : P.underlying u = some (.slice e)) (a : Addr) (c : Nat) (hx : x = .slice (some a) m c) (hl : news.length = m * size) (hc : ∀ j v, news[j]? = some v → w.cell? (a.add j) = some v)
 | none (hu : P.underlying u = some (.slice e)) (c : Nat) (hx : x = .slice none 0 c) (hm : m = 0) (hn : news = [])
 | zeros (kn k : IntKind) (hu : P.underlying u = some (.int kn)) (hx : x = .int k m) (hm : m ≤ 4294967296) (hn : news = (Builtin.zeroCells z.cells m).toList)
theorem Src.length {w : World} {e : TypeId} {size : Nat} {z : Value} {u : TypeId} {x : Value} {m : Nat} {news : List Value} (h : Src P w e size z u x m news) (hz : z.cells.size = size) : news.length = m * size := by
 cases h with
 | some _ _ _ _ hl _ => exact hl
 | none _ _ _ hm hn => subst hm hn; simp
 | zeros _ _ _ _ _ hn => subst hn; simp [size_zeroCells, hz]
variable (w : World)
theorem yd8 (t u ty e : TypeId) (i : TypeInfo) (z : Value) (ht : P.underlying t = some (.slice e)) (hi : P.info? e = some i) (hz : i.zero = some z) (hpos : 0 < i.size)
  (base : Option Addr) (sLen sCap : Nat) (olds : List Value) (hold : ∀ w1 : World, w1.heap = w.heap → (Builtin.firstCells i.size sLen (.slice base sLen sCap)).run P w1 = .ok olds.toArray w1)
  {x : Value} {m : Nat} {news : List Value} (hs : Src P w e i.size z u x m news)
  (hg : sCap < sLen + m) (h63 : ((sLen + m : Nat) : Int) ≤ 9223372036854775807) (hfit : Builtin.nextslicecap (sLen + m) sCap * i.bytes ≤ 281474976710656) (hby : m * i.bytes ≤ 281474976710656) :
  (Builtin.append_ #[t, u] ty #[.slice base sLen sCap, x]).run P w =
   .ok (.slice (some ⟨w.heap.size, 0, none⟩) (sLen + m) (grownCap w (sLen + m) sCap e))
    (w.drew.alloc (.cells (olds.toArray ++ news.toArray ++ Builtin.zeroCells z.cells (grownCap w (sLen + m) sCap e - (sLen + m))) e)) := by
 have hn : ¬ (sLen + m ≤ sCap) := by omega
 have h63' : ¬ (9223372036854775807 < ((sLen : Int) + (m : Int))) := by omega
 have h48' : ¬ (281474976710656 < Builtin.nextslicecap (sLen + m) sCap * i.bytes) := by omega
 have hfo := hold w.drew rfl
 cases hs with
 | some hu a c hx hl hc =>
  subst hx
  have hf := run_firstCells_some (P := P) w.drew i.size m a m c news hl (by simpa using hc)
  simp [Builtin.append_, run_underlying ht, run_underlying hu, sizeOf, typeInfo, zeroValue, hi, hz, Builtin.lenOf, hn, h63', h48', Question.forced, hf, hfo, newRow, grownCap]
  rw [← Array.append_assoc]
  congr 2
  simp
 | none hu c hx hm hnn =>
  subst hx hm hnn
  have hf := run_firstCells_none (P := P) w.drew i.size 0 0 c
  simp only [Nat.add_zero] at hn h48'
  simp at h63'
  have h63'' : ¬ (9223372036854775807 < (sLen : Int)) := by omega
  simp [Builtin.append_, run_underlying ht, run_underlying hu, sizeOf, typeInfo, zeroValue, hi, hz, Builtin.lenOf, hn, h63'', h48', Question.forced, hf, hfo, newRow, grownCap]
 | zeros kn k hu hx hm hnn =>
  subst hx hnn
  have hw : i64.wrap (m : Int) = m := by rw [IntKind.wrap_i64]; omega
  have h48i : ¬ (281474976710656 < (m : Int) * (i.bytes : Int)) := by rw [← Int.natCast_mul]; omega
  have hneg : ¬ ((m : Int) < 0) := by omega
  by_cases hm0 : m = 0
  ·subst hm0
   simp only [Nat.add_zero] at hn h48'
   simp at h63'
   have h63'' : ¬ (9223372036854775807 < (sLen : Int)) := by omega
   have e0 : Builtin.zeroCells z.cells 0 = #[] := Array.eq_empty_of_size_eq_zero (by rw [size_zeroCells]; simp)
   have hw0 : i64.wrap 0 = 0 := by rw [IntKind.wrap_i64]; rfl
   simp [Builtin.append_, run_underlying ht, run_underlying hu, sizeOf, typeInfo, zeroValue, hi, hz, asInt, asIntOf, hw0, hn, h63'', h48', Question.forced, hfo, newRow, grownCap, e0]
  ·have hns : ¬ (m * i.size = 0) := Nat.mul_ne_zero hm0 (by omega)
   simp [Builtin.append_, run_underlying ht, run_underlying hu, sizeOf, typeInfo, zeroValue, hi, hz, asInt, asIntOf, hw, hn, hneg, hns, h63', h48', h48i, Question.forced, hfo, newRow, grownCap]
theorem yhw (t u ty e : TypeId) (i : TypeInfo) (z : Value) (ht : P.underlying t = some (.slice e)) (hi : P.info? e = some i) (hz : i.zero = some z) (hpos : 0 < i.size)
  (g sLen sCap : Nat) (cur : Array Value) (hg : w.heap[g]? = some (.cells cur e (0, 0)))
  {x : Value} {m : Nat} {news : List Value} (hs : Src P w e i.size z u x m news) (h1 : ∀ u ∈ news, u.oneCell' = true)
  (hroom : sLen + m ≤ sCap) (hfit : sLen * i.size + news.length ≤ cur.size) (hby : m * i.bytes ≤ 281474976710656) :
  (Builtin.append_ #[t, u] ty #[.slice (some ⟨g, 0, none⟩) sLen sCap, x]).run P w =
   .ok (.slice (some ⟨g, 0, none⟩) (sLen + m) sCap) (w.setRow g (cur.toList.take (sLen * i.size) ++ news ++ cur.toList.drop (sLen * i.size + news.length)).toArray) := by
 have hst := run_storeCells_at P g (sLen * i.size) e news 0 cur w hg (by simpa using hfit) h1
 simp only [Nat.add_zero] at hst
 cases hs with
 | some hu a c hx hl hc =>
  subst hx
  have hf := run_firstCells_some (P := P) w i.size m a m c news hl hc
  simp [Builtin.append_, run_underlying ht, run_underlying hu, sizeOf, typeInfo, hi, Builtin.lenOf, hroom, hf, Addr.add_lit, hst]
 | none hu c hx hm hnn =>
  subst hx hm hnn
  simp only [Nat.add_zero] at hroom
  simp only [List.append_nil, List.length_nil, Nat.add_zero] at hst ⊢
  simp [Builtin.append_, run_underlying ht, run_underlying hu, sizeOf, typeInfo, hi, Builtin.lenOf, hroom, Builtin.firstCells, Addr.add_lit, hst]
 | zeros kn k hu hx hm hnn =>
  subst hx
  have hw : i64.wrap (m : Int) = m := by rw [IntKind.wrap_i64]; omega
  have h48i : ¬ (281474976710656 < (m : Int) * (i.bytes : Int)) := by rw [← Int.natCast_mul]; omega
  have hneg : ¬ ((m : Int) < 0) := by omega
  by_cases hm0 : m = 0
  ·subst hm0
   have e0 : Builtin.zeroCells z.cells 0 = #[] := Array.eq_empty_of_size_eq_zero (by rw [size_zeroCells]; simp)
   rw [e0] at hnn
   subst hnn
   have hw0 : i64.wrap 0 = 0 := by rw [IntKind.wrap_i64]; rfl
   simp only [Nat.add_zero] at hroom
   simp only [List.append_nil, List.length_nil, Nat.add_zero] at hst ⊢
   simp [Builtin.append_, run_underlying ht, run_underlying hu, sizeOf, typeInfo, zeroValue, hi, hz, asInt, asIntOf, hw0, hroom, Addr.add_lit, hst]
  ·have hns : ¬ (m * i.size = 0) := Nat.mul_ne_zero hm0 (by omega)
   have hst' := hst
   rw [hnn] at hst' ⊢
   simp [Builtin.append_, run_underlying ht, run_underlying hu, sizeOf, typeInfo, zeroValue, hi, hz, asInt, asIntOf, hw, hroom, hneg, hns, h48i, Addr.add_lit]
   simp only [zlr] at hst'
   rw [hst']
   simp
theorem yhx (t u ty e : TypeId) (i : TypeInfo) (z : Value) (ht : P.underlying t = some (.slice e)) (hi : P.info? e = some i)
  {x : Value} {news : List Value} (hs : Src P w e i.size z u x 0 news) : (Builtin.append_ #[t, u] ty #[.slice none 0 0, x]).run P w = .ok (.slice none 0 0) w := by
 cases hs with
 | some hu a c hx hl hc =>
  subst hx
  have : news = [] := zli (by simpa using hl)
  subst this
  have hf := run_firstCells_some (P := P) w i.size 0 a 0 c [] hl hc
  simp [Builtin.append_, run_underlying ht, run_underlying hu, sizeOf, typeInfo, hi, Builtin.lenOf, hf]
 | none hu c hx hm hnn =>
  subst hx
  simp [Builtin.append_, run_underlying ht, run_underlying hu, sizeOf, typeInfo, hi, Builtin.lenOf, Builtin.firstCells]
 | zeros kn k hu hx hm hnn =>
  subst hx
  have hw0 : i64.wrap 0 = 0 := by rw [IntKind.wrap_i64]; rfl
  simp [Builtin.append_, run_underlying ht, run_underlying hu, sizeOf, typeInfo, hi, asInt, asIntOf, hw0]
end
end Go.Lf
end

section
namespace Go.Lf
open Go Go.RowKit
section
variable {P : Program} {F : Frm} {B0 : Nat} {w0 w w' : World} {S S' : Nat → Prop} {n n' : Nat} {env : Env} {a : Act} {tmps : Array Value} {Os : Nat → Own} {cx : Cx} {o : Oper} {Q : Exit → Act → World → Prop} {eff : Eff} {l : List Nat}
theorem St.takeAt (hst : St P F B0 w0 n env tmps w S Os) {r : Nat} {p : Path} {xr : AV} {e : TypeId} {cap : Option Nat} {xs : List AV} (hr : lk env r = some xr) (hrt : zqu xr = true) (hg : getC xr p = some (.sl .own e cap xs)) (htop : p = [] ∨ topOnly r env) :
  ∃ n' Os' vr u m Oy, n ≤ n' ∧ St P F B0 w0 n' ((r, setC xr p .bad) :: env) tmps w S Os' ∧ tmps[r]? = some vr ∧ LV P w vr xr p = some u ∧ m ≤ n ∧
   Rv P B0 w S m u (.sl .own e cap xs) Oy ∧ (∀ b, Oy b ≤ 1) ∧ (∀ b, S b → Oy b = 0) ∧ (∀ t b, 0 < Oy b → Os' t b = 0) ∧ (∀ t b, Os' t b ≤ Os t b) := by
 obtain ⟨vr, hv, hsv⟩ := hst.rel r xr hr
 have hrv := hsv.rv (by cases xr <;> first | rfl | simp [zqu] at hrt)
 obtain ⟨m, u, Oy, Oq, hm, hy, hlv, hO, wand⟩ := yqh p n vr xr _ (Os r) hrv (hst.one r) hg
 have hroot := wand 1 w S .bad (fun _ => 0) (fun _ => rfl) (fun _ _ => rfl) (fun b hb => hb) (fun _ _ => rfl) (fun _ _ => rfl) (fun _ => rfl)
 have hlike : zqu (setC xr p .bad) = true ∧ (∀ m e' cap' xs', setC xr p .bad = .sl m e' cap' xs' → ∃ m0 cap0 xs0, xr = .sl m0 e' cap0 xs0) ∧
   (yab (setC xr p .bad) = true → yab xr = true ∧ ∀ i c, fo P (setC xr p .bad) i c = fo P xr i c) ∧ (topOnly r env ∨ ∀ q, q ≠ [] → getC (setC xr p .bad) q = none) := by
  cases p with
  | nil =>
   refine ⟨rfl, ?_, ?_, .inr ?_⟩
   ·intro m' e' cap' xs' h; cases h
   ·intro h; cases h
   ·intro q hq
    cases q with
    | nil => exact absurd rfl hq
    | cons ic q => obtain ⟨i, c⟩ := ic; simp [setC, getC, seg]
  | cons ic p =>
   obtain ⟨i, c⟩ := ic
   have hne : xr ≠ .bad := zre.ne hg (by simp)
   have hsm : zre xr (setC xr ((i, c) :: p) .bad) := by
    unfold getC at hg
    unfold setC
    cases hs : seg xr i c 1 with
    | none => rw [hs] at hg; cases hg
    | some ms =>
     match ms with
     | [] => rw [hs] at hg; cases hg
     | z :: rest => exact zre.putSeg hrt hne i c _
   obtain ⟨l1, l2, l3⟩ := zre.like (P := P) hsm
   exact ⟨l1, l2, l3, .inl (htop.resolve_left (by simp))⟩
 obtain ⟨k1, k2, k3, k4⟩ := hlike
 have hOy : ∀ b, 0 < Oy b → Oq b = 0 ∧ 0 < Os r b := fun b hb => by have := hO b; have := hst.one r b; omega
 refine ⟨n + 1, _, vr, u, m, Oy, Nat.le_add_right n 1, hst.turn (O := Oq) (Nat.le_add_right n 1) hv hr (Below.refl _ _) (fun b hb => hb) hst.sLt ?_ ?_ (fun _ _ => rfl) ?_ ?_ (hroot.cast fun b => by simp) k1 (k4.imp id fun h p hp y hy => by rw [h p hp] at hy; cases hy) k2 k3, hv, hlv, hm, hy, ?_, ?_, ?_, ?_⟩
 ·intro b t ht hb; exact hst.excl b t hb
 ·intro b hb; have := hst.excl b r hb; have := hO b; omega
 ·intro b; have := hO b; have := hst.one r b; omega
 ·intro b t ht hb
  have := hO b
  rcases hst.dis r t b (Ne.symm ht) with h | h
  ·omega
  ·exact h
 ·intro b; have := hO b; have := hst.one r b; omega
 ·intro b hb; have := hst.excl b r hb; have := hO b; omega
 ·intro t b hb
  have := hOy b hb
  by_cases ht : t = r
  ·subst ht; simp; omega
  ·simp only [ht, if_false]
   rcases hst.dis r t b (Ne.symm ht) with h | h
   ·omega
   ·exact h
 ·intro t b
  by_cases ht : t = r
  ·subst ht; have := hO b; simp; omega
  ·simp [ht]
theorem yr0 {env1 : Env} {Os1 : Nat → Own} {n1 : Nat} (hst : St P F B0 w0 n1 env1 a.tmps w S Os1) (hn : 0 < n1) (hnn : n1 ≤ n') (hN : (a.tmps.size = cx.N ∧ F.lo = cx.lo)) {t : Nat} (hd : o.dst = some t) (htN : t < cx.N ∧ cx.lo ≤ t) (hnr : zrm t env1)
  {x : AV} {v : Value} {O Oy : Own} (heff : zqi eff env = (t, x) :: env1) (hrun : (execOp a.eval o).run P w = .ok (.value v) w') (hB : Below B0 w w') (hag : ∀ b, b < w.heap.size → Oy b = 0 → w'.heap[b]? = w.heap[b]?)
  (hOyS : ∀ b, S b → Oy b = 0) (hOyO : ∀ t b, 0 < Oy b → Os1 t b = 0) (h1 : ∀ b, O b ≤ 1) (hO : ∀ b, 0 < O b → 0 < Oy b ∨ w.heap.size ≤ b)
  (hx : Rv P B0 w' S n' v x O) : o.wp P a w (Post P F B0 w0 S cx env eff a) Q := by
 refine ybz hrun ?_
 rw [hd]
 have hsz := hB.size
 have key := hst.put (x := x) (v := v) (O := O) (S' := S) hnn (d := t) (by omega) hnr hB (fun _ h => h) (fun b hb => by have := hst.sLt b hb; omega) (fun b s _ hb => hst.excl b s hb)
  (fun b hb => by
   have h2 := hst.sLt b hb
   have h3 := hOyS b hb
   rcases zlt (O b) with h | h
   ·exact h
   ·have := hO b h; omega) (fun b hb => by
   rcases hb with hb | ⟨s, _, hb⟩
   ·exact hag b (hst.sLt b hb) (hOyS b hb)
   ·refine hag b (hst.lt s b hb).2 ?_
    rcases zlt (Oy b) with h | h
    ·exact h
    ·have := hOyO s b h; omega) h1 (fun b s _ hb => by
   rcases hO b hb with h | h
   ·exact hOyO s b h
   ·rcases zlt (Os1 s b) with h2 | h2
    ·exact h2
    ·have := (hst.lt s b h2).2; omega) (.inr hx)
 exact ⟨rfl, by simpa [Act.put] using hN, n', S, _, by omega, .refl _ _, by rw [heff]; exact key⟩
def yc0 (cap : Option Nat) (k : Nat) : Option Nat := match cap with | some c => if k ≤ c then some c else none | none => none
theorem yva {m : Nat} {v : Value} {e : TypeId} {cap : Option Nat} {xs ys : List AV} {Oy : Own} (hv : Rv P B0 w S (m + 1) v (.sl .own e cap xs) Oy) (h1 : ∀ b, Oy b ≤ 1) (hSy : ∀ b, S b → Oy b = 0 ∧ b < w.heap.size) (hB0 : B0 ≤ w.heap.size)
  {t u ty : TypeId} {i : TypeInfo} {z x : Value} {news : List Value} {j : TInfo} (ht : P.underlying t = some (.slice e)) (hj : TyOk P e j) (hi : P.info? e = some i) (hz : i.zero = some z) (hzc : z.cells.toList = j.zero) (his : i.size = j.zero.length) (hib : i.bytes = j.bytes)
  (hby : j.bytes ≤ 4096) (hpos : 0 < j.zero.length) (hs : Src P w e i.size z u x ys.length news) (hnews : Rc (Rv P B0 w S n) news (flat ys) (fun _ => 0)) (hone : ∀ v ∈ news, v.oneCell' = true) (hu : Uni (P.cellsOf e) ys)
  (hlen : xs.length + ys.length ≤ 4294967296) :
  ∃ v' w' O, (Builtin.append_ #[t, u] ty #[v, x]).run P w = .ok v' w' ∧ Below B0 w w' ∧ (∀ b, b < w.heap.size → Oy b = 0 → w'.heap[b]? = w.heap[b]?) ∧
   Rv P B0 w' S (max m n + 1) v' (.sl .own e (yc0 cap (xs.length + ys.length)) (xs ++ ys)) O ∧ (∀ b, 0 < O b → 0 < Oy b ∨ w.heap.size ≤ b) ∧ ∀ b, O b ≤ 1 := by
 obtain ⟨vs, O', hrow, hcap, huni, hrc, hOO⟩ := hv
 have hzs : z.cells.size = i.size := by rw [← zlr, hzc, his]
 have hce : P.cellsOf e = i.size := by rw [hj.cells, his]
 have hnl := hs.length hzs
 have hmul : (xs.length + ys.length) * i.bytes ≤ 4294967296 * 4096 := by rw [hib]; exact Nat.mul_le_mul hlen hby
 have hmul2 : ys.length * i.bytes ≤ 4294967296 * 4096 := by rw [hib]; exact Nat.mul_le_mul (by omega) hby
 have hun : Uni (P.cellsOf e) (xs ++ ys) := by
  intro q hq
  rcases List.mem_append.1 hq with h | h
  ·exact huni q h
  ·exact hu q h
 have hvl : vs.length = xs.length * i.size := by rw [hrow.1, hce]
 have hO'lt : ∀ b, 0 < O' b → b < w.heap.size := hrc.bound fun v x O1 hr b hb => (Rv.owned _ _ _ _ hr b hb).2
 have done : ∀ {w' : World} {v' : Value}, (∀ b, b < w.heap.size → Oy b = 0 → w'.heap[b]? = w.heap[b]?) → (∀ b, 0 < O' b → w'.heap[b]? = w.heap[b]?) → (∀ g, v'.ownBlock = some g → O' g = 0) → ycs (yc0 cap (xs.length + ys.length)) v' →
   w'.ownsRow B0 e (P.cellsOf e) v' (xs.length + ys.length) (vs ++ news) →
   Rv P B0 w' S (max m n + 1) v' (.sl .own e (yc0 cap (xs.length + ys.length)) (xs ++ ys)) (fun b => O' b + ind v'.ownBlock b) ∧ ∀ b, O' b + ind v'.ownBlock b ≤ 1 := by
  intro w' v' hag hag' hg hc hr
  refine ⟨⟨vs ++ news, O', by simpa using hr, hc, hun, ?_, fun _ => rfl⟩, ?_⟩
  ·have hfl : flat (xs ++ ys) = flat xs ++ flat ys := by simp [flat]
   rw [hfl]
   have hSw : ∀ b, S b → w'.heap[b]? = w.heap[b]? := fun b hb => hag b (hSy b hb).2 (hSy b hb).1
   exact ((hrc.frame (fun _ h => h) hSw hag').le (Nat.le_max_left _ _)).app ((hnews.frame (fun _ h => h) hSw fun b hb => absurd hb (by simp)).le (Nat.le_max_right _ _)) fun b => by simp
  ·intro b
   have h2 := h1 b
   have h3 := hOO b
   by_cases hb : v'.ownBlock = some b
   ·have h5 := hg b hb
    unfold ind; split <;> omega
   ·have : ind v'.ownBlock b = 0 := by unfold ind; rw [if_neg hb]
    omega
 have hlen2 : (vs ++ news).length = (xs.length + ys.length) * P.cellsOf e := by rw [zlg, hvl, hnl, hce, Nat.add_mul]
 have grown : ∀ (base : Option Addr) (old : Nat), v = .slice base xs.length old → old < xs.length + ys.length → (∀ w1 : World, w1.heap = w.heap → (Builtin.firstCells i.size xs.length (.slice base xs.length old)).run P w1 = .ok vs.toArray w1) →
   ∃ v' w' O, (Builtin.append_ #[t, u] ty #[v, x]).run P w = .ok v' w' ∧ Below B0 w w' ∧ (∀ b, b < w.heap.size → Oy b = 0 → w'.heap[b]? = w.heap[b]?) ∧
   Rv P B0 w' S (max m n + 1) v' (.sl .own e (yc0 cap (xs.length + ys.length)) (xs ++ ys)) O ∧ (∀ b, 0 < O b → 0 < Oy b ∨ w.heap.size ≤ b) ∧ ∀ b, O b ≤ 1 := by
  intro base old hve hlt hf
  subst hve
  have hr := yd8 (P := P) w t u ty e i z ht hi hz (by omega) base xs.length old vs hf hs hlt (by omega) (growslice_fits hlt (by omega)) (by omega)
  have hge := grownCap_ge w (xs.length + ys.length) old e
  have hcm : grownCap w (xs.length + ys.length) old e ≤ maxLen := grownCap_le_maxLen w (xs.length + ys.length) old e (by simp only [maxLen]; omega)
  have hcn : yc0 cap (xs.length + ys.length) = none := by
   cases cap with
   | none => rfl
   | some c =>
    simp only [ycs] at hcap
    simp only [yc0]
    rw [if_neg (by omega)]
  have hold : ∀ b, b < w.heap.size → (w.drew.alloc (.cells (vs.toArray ++ news.toArray ++ Builtin.zeroCells z.cells (grownCap w (xs.length + ys.length) old e - (xs.length + ys.length))) e)).heap[b]? = w.heap[b]? := fun b hb => heap_alloc_old w.drew _ hb
  have hd := done (w' := w.drew.alloc (.cells (vs.toArray ++ news.toArray ++ Builtin.zeroCells z.cells (grownCap w (xs.length + ys.length) old e - (xs.length + ys.length))) e))
   (v' := .slice (some ⟨w.heap.size, 0, none⟩) (xs.length + ys.length) (grownCap w (xs.length + ys.length) old e)) (fun b hb _ => hold b hb) (fun b hb => hold b (hO'lt b hb)) (fun g hg => by
    injection hg with hg
    subst hg
    rcases zlt (O' w.heap.size) with h | h
    ·exact h
    ·have := hO'lt _ h; omega) (by rw [hcn]; trivial) ⟨hlen2, .inr ⟨w.heap.size, _, _, rfl, hB0, heap_alloc_new w.drew _, hge, hcm, by
     simp only [Array.size_append, List.size_toArray, size_zeroCells, hzs, hvl, hnl, hce, ← Nat.add_mul]
     congr 1
     omega, by
     simp only [Array.toList_append, zlp]
     rw [← zlp, ← hlen2]
     exact List.take_left⟩⟩
  refine ⟨_, _, _, hr, ⟨rfl, rfl, rfl, by simp, fun k hk => hold k (by omega)⟩, fun b hb _ => hold b hb, hd.1, ?_, hd.2⟩
  intro b hb
  by_cases hbb : b = w.heap.size
  ·exact .inr (by omega)
  ·left
   have : ind (Value.slice (some ⟨w.heap.size, 0, none⟩) (xs.length + ys.length) (grownCap w (xs.length + ys.length) old e)).ownBlock b = 0 := by
    unfold ind Value.ownBlock; rw [if_neg (by intro e; injection e with e; exact hbb e.symm)]
   have := hOO b
   omega
 rcases hrow.2 with ⟨rfl, hx0⟩ | ⟨g, k, cur, rfl, hbg, hg, hnc, hcm, hcs, htake⟩
 ·have hv0 : vs = [] := zli (by rw [hvl, hx0]; simp)
  by_cases hy0 : ys.length = 0
  ·have hn0 : news = [] := zli (by rw [hnl, hy0]; simp)
   rw [hy0] at hs
   have hr := yhx (P := P) w t u ty e i z ht hi hs
   have hd := done (w' := w) (v' := .slice none 0 0) (fun _ _ _ => rfl) (fun _ _ => rfl) (fun g hg => by cases hg) (by
    cases cap with
    | none => trivial
    | some c => simp only [ycs] at hcap; simp only [yc0]; rw [if_pos (by omega)]; exact hcap) ⟨hlen2, .inl ⟨rfl, by omega⟩⟩
   exact ⟨_, _, _, hr, Below.refl _ _, fun _ _ _ => rfl, hd.1, fun b hb => .inl (by have := hOO b; omega), hd.2⟩
  ·exact grown none 0 (by rw [hx0]) (by omega) (fun w1 _ => by rw [hv0]; exact run_firstCells_none _ _ _ _ _)
 ·have hg0 : O' g = 0 := by
   have h2 := hOO g; have h3 := h1 g
   have : ind (Value.slice (some ⟨g, 0, none⟩) xs.length k).ownBlock g = 1 := by unfold ind Value.ownBlock; simp
   omega
  by_cases hroom : xs.length + ys.length ≤ k
  ·have hfit : xs.length * i.size + news.length ≤ cur.size := by rw [hnl, hcs, hce, ← Nat.add_mul]; exact Nat.mul_le_mul_right _ hroom
   have hr := yhw (P := P) w t u ty e i z ht hi hz (by omega) g xs.length k cur hg hs hone hroom hfit (by omega)
   have hne : ∀ b, b ≠ g → (w.setRow g (cur.toList.take (xs.length * i.size) ++ news ++ cur.toList.drop (xs.length * i.size + news.length)).toArray).heap[b]? = w.heap[b]? := fun b hb => setRow_other w g b _ hb
   have hgy : 0 < Oy g := by
    have h2 := hOO g
    have : ind (Value.slice (some ⟨g, 0, none⟩) xs.length k).ownBlock g = 1 := by unfold ind Value.ownBlock; simp
    omega
   generalize hN : (cur.toList.take (xs.length * i.size) ++ news ++ cur.toList.drop (xs.length * i.size + news.length)).toArray = cur' at hr hne
   have hsz' : cur'.size = k * P.cellsOf e := by
    rw [← hN]
    simp only [List.size_toArray, zlg, zlh, List.length_drop, zlr]
    omega
   have htk' : cur'.toList.take ((xs.length + ys.length) * P.cellsOf e) = vs ++ news := by
    rw [← hN, ← hlen2]
    have : cur.toList.take (xs.length * i.size) = vs := by rw [← hce]; exact htake
    simp only [this]
    exact List.take_left
   have hd := done (w' := w.setRow g cur') (v' := .slice (some ⟨g, 0, none⟩) (xs.length + ys.length) k)
    (fun b _ hb => hne b (by intro e; subst e; omega)) (fun b hb => hne b (by intro e; subst e; omega)) (fun g' hg' => by injection hg' with hg'; subst hg'; exact hg0) (by
     cases cap with
     | none => trivial
     | some c => simp only [ycs] at hcap; simp only [yc0]; rw [if_pos (by omega)]; exact hcap) ⟨hlen2, .inr ⟨g, k, _, rfl, hbg, setRow_heap w g cur _ e _ hg, hroom, hcm, hsz', htk'⟩⟩
   refine ⟨_, _, _, hr, ⟨rfl, rfl, rfl, by simp, fun b hb => hne b (by intro e; subst e; omega)⟩, fun b _ hb => hne b (by intro e; subst e; omega), hd.1, ?_, hd.2⟩
   intro b hb
   left
   have := hOO b
   have e1 : (Value.slice (some ⟨g, 0, none⟩) (xs.length + ys.length) k).ownBlock = (Value.slice (some ⟨g, 0, none⟩) xs.length k).ownBlock := rfl
   rw [e1] at hb
   omega
  ·have holds : ∀ w1 : World, w1.heap = w.heap → ∀ j u, vs[j]? = some u → w1.cell? ((⟨g, 0, none⟩ : Addr).add j) = some u := by
    intro w1 hw1 j u hju
    rw [World.cell?_of_block (w := w) (by rw [hw1])]
    exact hrow.cells (g := g) rfl j u hju
   exact grown _ k rfl (by omega) fun w1 hw1 => run_firstCells_some (P := P) w1 i.size xs.length _ xs.length k vs hvl (holds w1 hw1)
end
end Go.Lf
end

section
namespace Go.Lf
open Go Go.RowKit
theorem Rc.ones {P : Program} {B0 : Nat} {w : World} {S : Nat → Prop} {n : Nat} {vs : List Value} {xs : List AV} {O : Own} (h : Rc (Rv P B0 w S n) vs xs O) (hp : ∀ x ∈ xs, zqt x = true) : ∀ v ∈ vs, v.oneCell' = true := by
 induction h with
 | nil => simp
 | cons h1 _ _ ih =>
  intro v hv
  rcases List.mem_cons.1 hv with rfl | hv
  ·exact h1.oneCell (.inl (hp _ List.mem_cons_self))
  ·exact ih (fun x hx => hp x (List.mem_cons_of_mem _ hx)) v hv
theorem yku {w : World} {g off : Nat} {C : Array Value} {T : TypeId} {fr : Nat × Nat} (h : w.heap[g]? = some (.cells C T fr)) {k : Nat} : ∀ j v, ((C.toList.drop off).take k)[j]? = some v → w.cell? ((⟨g, off, none⟩ : Addr).add j) = some v := by
 intro j v hj
 rw [Addr.add_lit, cell_of_row w g (off + j) C T fr h]
 rw [List.getElem?_take] at hj
 split at hj
 ·rw [List.getElem?_drop] at hj
  simpa using hj
 ·cases hj
section
variable {P : Program} {F : Frm} {B0 : Nat} {w0 w w' : World} {S S' : Nat → Prop} {n n' : Nat} {env : Env} {a : Act} {tmps : Array Value} {Os : Nat → Own} {cx : Cx} {o : Oper} {Q : Exit → Act → World → Prop} {eff : Eff} {l : List Nat}
theorem yk5 {ys : List AV} (h : ys.all (fun y => y.ecells.all zqt) = true) : ∀ x ∈ flat ys, zqt x = true := by
 intro x hx
 obtain ⟨y, hy, hxy⟩ := List.mem_flatMap.1 hx
 exact zls.1 (zls.1 h y hy) x hxy
theorem NodeAt.src {v : Value} {e e' : TypeId} {cap : Option Nat} {ys : List AV} {size : Nat} {z : Value} {t : TypeId} (h : NodeAt P B0 w S n Os v e' cap ys) (hu : P.underlying t = some (.slice e)) (hall : ys.all (fun y => y.ecells.all zqt) = true) (hsz : Uni size ys) :
  ∃ news, Src P w e size z t v ys.length news ∧ Rc (Rv P B0 w S n) news (flat ys) (fun _ => 0) ∧ ∀ v ∈ news, v.oneCell' = true := by
 obtain ⟨A, k, rfl, hle, _, _, _, hne⟩ := h
 cases ys with
 | nil =>
  refine ⟨[], ?_, .nil (O := fun _ => 0) fun _ => rfl, by simp⟩
  cases A with
  | none => exact .none hu k rfl rfl rfl
  | some ad => exact .some hu ad k rfl (by simp) (by simp)
 | cons y ys =>
  obtain ⟨g, off, C, T, fr, O1, rfl, hg, hfit, hrc, _, _⟩ := hne (by simp)
  have hz := hrc.zero fun _ x _ hx hr => zqp hr (yk5 hall x hx)
  exact ⟨_, .some hu _ k rfl (by rw [hrc.length]; exact zqn hsz) (yku hg), hrc.cast fun b => (hz b).symm, hrc.ones (yk5 hall)⟩
theorem ylu {e u : TypeId} {j : TInfo} {z : Value} {size : Nat} (hj : TyOk P e j) (hzc : z.cells.toList = j.zero) (hpos : 0 < j.zero.length) {kn k : IntKind} (hu : P.underlying u = some (.int kn)) {m : Nat} (hm : m ≤ 4294967296) (hn : 0 < n) :
  ∃ news, Src P w e size z u (.int k m) m news ∧ Rc (Rv P B0 w S n) news (flat (List.replicate m (ya6 j))) (fun _ => 0) ∧ ∀ v ∈ news, v.oneCell' = true := by
 have hzs : z.cells.size = j.zero.length := by rw [← zlr, hzc]
 have e1 : (Builtin.zeroCells z.cells m).toList = (List.replicate m j.zero).flatten := by
  have := ycx z.cells m m (zly _) (by omega)
  rw [hzc] at this
  rw [← this]
  have e2 : madeCells z.cells (m * z.cells.size) = Builtin.zeroCells z.cells m := rfl
  rw [e2, ← size_zeroCells z.cells m, ← zlr, List.take_length]
 obtain ⟨q, rfl⟩ : ∃ q, n = q + 1 := ⟨n - 1, by omega⟩
 refine ⟨_, .zeros kn k hu rfl hm rfl, ?_, ?_⟩
 ·rw [yf5 hj, e1]
  exact Rc.atoms (fun v => ⟨rfl, fun _ => rfl⟩) fun _ => rfl
 ·intro v hv
  rw [e1] at hv
  obtain ⟨l, hl, hvl⟩ := List.mem_flatten.1 hv
  rw [List.eq_of_mem_replicate hl] at hvl
  exact zls.1 hj.one v hvl
theorem yls {m : Nat} {v : Value} {mm : Mode} {e e' : TypeId} {c : Nat} {xs ys : List AV} (hmm : mm ≠ .own) (hv : Rv P B0 w S (m + 1) v (.sl mm e' (some c) xs) (fun _ => 0)) (hSy : ∀ b, S b → b < w.heap.size) (hB0 : B0 ≤ w.heap.size)
  {t u ty : TypeId} {i : TypeInfo} {z x : Value} {news : List Value} {j : TInfo} (ht : P.underlying t = some (.slice e)) (hj : TyOk P e j) (hi : P.info? e = some i) (hz : i.zero = some z) (hzc : z.cells.toList = j.zero) (his : i.size = j.zero.length) (hib : i.bytes = j.bytes)
  (hby : j.bytes ≤ 4096) (hpos : 0 < j.zero.length) (hs : Src P w e i.size z u x ys.length news) (hnews : Rc (Rv P B0 w S n) news (flat ys) (fun _ => 0)) (hu : Uni (P.cellsOf e) ys) (hux : Uni (P.cellsOf e) xs)
  (hlen : xs.length + ys.length ≤ 4294967296) (hlt : c < xs.length + ys.length) :
  ∃ v' w' O, (Builtin.append_ #[t, u] ty #[v, x]).run P w = .ok v' w' ∧ Below B0 w w' ∧ (∀ b, b < w.heap.size → w'.heap[b]? = w.heap[b]?) ∧
   Rv P B0 w' S (max m n + 1) v' (.sl .own e none (xs ++ ys)) O ∧ (∀ b, 0 < O b → w.heap.size ≤ b) ∧ ∀ b, O b ≤ 1 := by
 have hv' : Shs P B0 w S (Rv P B0 w S m) mm e' (some c) xs v (fun _ => 0) := by cases mm <;> first | exact absurd rfl hmm | exact hv
 obtain ⟨A, k, rfl, hle, hkm, hcap, _, _, hne⟩ := hv'
 have hkc : k = c := hcap
 subst hkc
 have hzs : z.cells.size = i.size := by rw [← zlr, hzc, his]
 have hce : P.cellsOf e = i.size := by rw [hj.cells, his]
 have hnl := hs.length hzs
 have hmul : (xs.length + ys.length) * i.bytes ≤ 4294967296 * 4096 := by rw [hib]; exact Nat.mul_le_mul hlen hby
 have hmul2 : ys.length * i.bytes ≤ 4294967296 * 4096 := by rw [hib]; exact Nat.mul_le_mul (by omega) hby
 have hun : Uni (P.cellsOf e) (xs ++ ys) := by
  intro q hq
  rcases List.mem_append.1 hq with h | h
  ·exact hux q h
  ·exact hu q h
 have hold : ∃ vs, Rc (Rv P B0 w S m) vs (flat xs) (fun _ => 0) ∧ vs.length = xs.length * i.size ∧ ∀ w1 : World, w1.heap = w.heap → (Builtin.firstCells i.size xs.length (.slice A xs.length k)).run P w1 = .ok vs.toArray w1 := by
  cases xs with
  | nil =>
   refine ⟨[], .nil (O := fun _ => 0) fun _ => rfl, by simp, fun w1 _ => ?_⟩
   cases A with
   | none => exact run_firstCells_none _ _ _ _ _
   | some ad => exact run_firstCells_some (P := P) w1 i.size 0 ad 0 k [] (by simp) (by simp)
  | cons y xs =>
   obtain ⟨g, off, C, T, fr, rfl, _, _, hg, hfit, hrc⟩ := hne (by simp)
   have hl : ((C.toList.drop off).take (flat (y :: xs)).length).length = (y :: xs).length * i.size := by
    rw [hrc.length, zqn hux, hce]
   refine ⟨_, hrc, hl, fun w1 hw1 => run_firstCells_some (P := P) w1 i.size _ ⟨g, off, none⟩ _ k _ hl (yku (by rw [hw1]; exact hg))⟩
 obtain ⟨vs, hrc, hvl, hf⟩ := hold
 have hlen2 : (vs ++ news).length = (xs.length + ys.length) * P.cellsOf e := by rw [zlg, hvl, hnl, hce, Nat.add_mul]
 have hr := yd8 (P := P) w t u ty e i z ht hi hz (by omega) A xs.length k vs hf hs hlt (by omega) (growslice_fits hlt (by omega)) (by omega)
 have hge := grownCap_ge w (xs.length + ys.length) k e
 have hcm : grownCap w (xs.length + ys.length) k e ≤ maxLen := grownCap_le_maxLen w (xs.length + ys.length) k e (by simp only [maxLen]; omega)
 have hag : ∀ b, b < w.heap.size → (w.drew.alloc (.cells (vs.toArray ++ news.toArray ++ Builtin.zeroCells z.cells (grownCap w (xs.length + ys.length) k e - (xs.length + ys.length))) e)).heap[b]? = w.heap[b]? := fun b hb => heap_alloc_old w.drew _ hb
 refine ⟨_, _, ind (some w.heap.size), hr, ⟨rfl, rfl, rfl, by simp, fun b hb => hag b (by omega)⟩, hag, ⟨vs ++ news, fun _ => 0, ?_, trivial, hun, ?_, fun b => by simp [Value.ownBlock]⟩, ?_, fun b => by unfold ind; split <;> omega⟩
 ·rw [zlg]
  exact ⟨hlen2, .inr ⟨w.heap.size, _, _, rfl, hB0, heap_alloc_new w.drew _, hge, hcm, by
     simp only [Array.size_append, List.size_toArray, size_zeroCells, hzs, hvl, hnl, hce, ← Nat.add_mul]
     congr 1
     omega, by
     simp only [Array.toList_append, zlp]
     rw [← zlp, ← hlen2]
     exact List.take_left⟩⟩
 ·have hfl : flat (xs ++ ys) = flat xs ++ flat ys := by simp [flat]
  rw [hfl]
  have hSw : ∀ b, S b → (w.drew.alloc (.cells (vs.toArray ++ news.toArray ++ Builtin.zeroCells z.cells (grownCap w (xs.length + ys.length) k e - (xs.length + ys.length))) e)).heap[b]? = w.heap[b]? := fun b hb => hag b (hSy b hb)
  exact ((hrc.frame (fun _ h => h) hSw fun b hb => absurd hb (by simp)).le (Nat.le_max_left _ _)).app ((hnews.frame (fun _ h => h) hSw fun b hb => absurd hb (by simp)).le (Nat.le_max_right _ _)) fun b => by simp
 ·intro b hb
  unfold ind at hb
  split at hb
  ·rename_i e; injection e with e; omega
  ·omega
end
end Go.Lf
end

section
namespace Go.Lf
open Go Go.RowKit
section
variable {P : Program} {F : Frm} {B0 : Nat} {w0 w w' : World} {S S' : Nat → Prop} {n n' : Nat} {env : Env} {a : Act} {tmps : Array Value} {Os : Nat → Own} {cx : Cx} {o : Oper} {Q : Exit → Act → World → Prop} {eff : Eff} {l : List Nat}
theorem yfk (hst : St P F B0 w0 n env a.tmps w S Os) (hn : 0 < n) (hN : (a.tmps.size = cx.N ∧ F.lo = cx.lo)) {x yo : Operand} {t u e : TypeId} (ho : o.op = .call { callee := .builtin .append, args := #[x, yo], argTypes := #[t, u] })
  {i : TypeInfo} {z : Value} {news : List Value} {j : TInfo} (ht : P.underlying t = some (.slice e)) (hj : TyOk P e j) (hi : P.info? e = some i) (hz : i.zero = some z) (hzc : z.cells.toList = j.zero) (his : i.size = j.zero.length) (hib : i.bytes = j.bytes)
  (hby : j.bytes ≤ 4096) (hpos : 0 < j.zero.length) {ys : List AV} (hs : Src P w e i.size z u (a.eval yo) ys.length news) (hnews : Rc (Rv P B0 w S n) news (flat ys) (fun _ => 0)) (hone : ∀ v ∈ news, v.oneCell' = true) (hu : Uni (P.cellsOf e) ys)
  {y : AV} {s : Option Nat} (hv : Vl env x y s) (h : (yeq cx o.dst e y s ys).run env = some (l, eff)) : o.wp P a w (Post P F B0 w0 S cx env eff a) Q := by
 have hrun : ∀ {v' : Value} {w' : World}, (Builtin.append_ #[t, u] o.type #[a.eval x, a.eval yo]).run P w = .ok v' w' → (execOp a.eval o).run P w = .ok (.value v') w' := by
  intro v' w' hr
  rw [execOp, ho]
  simp [resolve, invoke, builtin, hr]
 have own : ∀ {env1 : Env} {Os1 : Nat → Own} {n1 m tt : Nat} {cap : Option Nat} {xs : List AV} {Oy : Own}, St P F B0 w0 n1 env1 a.tmps w S Os1 → 0 < n1 → o.dst = some tt → (tt < cx.N ∧ cx.lo ≤ tt) → zrm tt env1 →
   zqi eff env = (tt, .sl .own e (yc0 cap (xs.length + ys.length)) (xs ++ ys)) :: env1 → Rv P B0 w S (m + 1) (a.eval x) (.sl .own e cap xs) Oy → (∀ b, Oy b ≤ 1) → (∀ b, S b → Oy b = 0) → (∀ t b, 0 < Oy b → Os1 t b = 0) →
   xs.length + ys.length ≤ 4294967296 → o.wp P a w (Post P F B0 w0 S cx env eff a) Q := by
  intro env1 Os1 n1 m tt cap xs Oy hst1 hn1 hd htN hnr heff hrv h1 hS hO hlen
  obtain ⟨v', w', O, hr, hB, hag, hx, hO2, hO1⟩ := yva (ty := o.type) hrv h1 (fun b hb => ⟨hS b hb, hst.sLt b hb⟩) hst.b0 ht hj hi hz hzc his hib hby hpos hs hnews hone hu hlen
  exact yr0 (Oy := Oy) hst1 hn1 (Nat.le_max_left n1 (max m n + 1)) hN hd htN hnr heff (hrun hr) hB hag hS hO hO1 hO2 (hx.le (Nat.le_max_right _ _))
 have shared : ∀ {mm : Mode} {m : Nat} {c : Nat} {xs : List AV} {l : List Nat}, mm ≠ .own → Rv P B0 w S (m + 1) (a.eval x) (.sl mm e (some c) xs) (fun _ => 0) → c < xs.length + ys.length → xs.length + ys.length ≤ 4294967296 →
   (outP cx o.dst (.sl .own e none (xs ++ ys)) [] []).run env = some (l, eff) → o.wp P a w (Post P F B0 w0 S cx env eff a) Q := by
  intro mm m c xs l hmm hrv hlt hlen hout
  obtain ⟨tt, hd, htN, hlr, hws, hkl⟩ := yao hout
  obtain ⟨h1, hnr⟩ := hst.readied hn hkl
  have hux : Uni (P.cellsOf e) xs := by
   have hv' : Shs P B0 w S (Rv P B0 w S m) mm e (some c) xs (a.eval x) (fun _ => 0) := by cases mm <;> first | exact absurd rfl hmm | exact hrv
   obtain ⟨_, _, _, _, _, _, h, _⟩ := hv'
   exact h
  obtain ⟨v', w', O, hr, hB, hag, hx, hO2, hO1⟩ := yls (ty := o.type) hmm hrv hst.sLt hst.b0 ht hj hi hz hzc his hib hby hpos hs hnews hu hux hlen hlt
  exact yr0 (Oy := fun _ => 0) h1 hn (Nat.le_max_left n (max m n + 1)) hN hd htN hnr (by unfold zqi; rw [hws]; rfl) (hrun hr) hB (fun b hb _ => hag b hb) (fun _ _ => rfl) (fun _ b hb => absurd hb (by simp)) hO1 (fun b hb => .inr (hO2 b hb)) (hx.le (Nat.le_max_right _ _))
 unfold yeq at h
 simp only at h
 split at h
 ·-- nil
  obtain ⟨hl, hout⟩ := yae h
  obtain ⟨tt, hd, htN, hlr, hws, hkl⟩ := yao hout
  obtain ⟨h1, hnr⟩ := hst.readied hn hkl
  have he := hv.atom hst hn
  refine own (m := 0) (cap := some 0) (xs := []) (Oy := fun _ => 0) h1 hn hd htN hnr (by unfold zqi; rw [hws]; rfl) ?_ (fun _ => Nat.zero_le _) (fun _ _ => rfl) (fun _ b hb => absurd hb (by simp)) (by simpa using hl)
  rw [he]
  exact ⟨[], fun _ => 0, World.ownsRow_nil w B0 e _, rfl, fun x hx => by simp at hx, .nil (O := fun _ => 0) fun _ => rfl, fun b => by simp [Value.ownBlock, ind]⟩
 ·-- a slot of one's own
  rename_i e' cap xs t0
  obtain ⟨⟨rfl, hlen, hne⟩, hout⟩ := yae h
  obtain ⟨tt, hd, htN, hlr, hws, hkl⟩ := yao hout
  obtain ⟨h1, hnr⟩ := hst.readied hn hkl
  obtain ⟨hr, htm, hlk⟩ := hv.rv hst hn rfl
  have hs' := yal (kl := eff.kl) hlk rfl
  have h2 := h1.bad hn hs'
  obtain ⟨m, rfl⟩ : ∃ k, n = k + 1 := ⟨n - 1, by omega⟩
  refine own (cap := cap) (xs := xs) (Oy := Os t0) h2 hn hd htN (hnr.cons (by simp [zqf])) (by unfold zqi; rw [hws]; rfl) hr (hst.one t0) (fun b hb => hst.excl b t0 hb) ?_ hlen
  intro t' b hb
  by_cases ht' : t' = t0
  ·simp [ht']
  ·simp only [ht', if_false]
   rcases hst.dis t0 t' b (Ne.symm ht') with h | h
   ·omega
   ·exact h
 ·-- an alias
  rename_i r p rng
  obtain ⟨l1, h1⟩ := yan h
  clear h
  obtain ⟨ha, zr, hzr, hzrt⟩ := hv.al hst hn
  rw [hzr] at h1
  simp only at h1
  have take : ∀ {e' : TypeId} {cap : Option Nat} {xs xs' : List AV} {l : List Nat}, getC zr p = some (.sl .own e' cap xs) → e' = e →
    (outP cx o.dst (.sl .own e (yc0 cap (xs'.length + ys.length)) (xs' ++ ys)) [(r, setC zr p .bad)] (if p.isEmpty then [] else [(r, true)])).run env = some (l, eff) → xs'.length + ys.length ≤ 4294967296 →
    (∀ m u Oy, Rv P B0 w S (m + 1) u (.sl .own e cap xs) Oy → subOk P e rng u (a.eval x) → ∃ O1, Rv P B0 w S (m + 1) (a.eval x) (.sl .own e cap xs') O1 ∧ ∀ b, O1 b ≤ Oy b) → o.wp P a w (Post P F B0 w0 S cx env eff a) Q := by
   intro e' cap xs xs' l hg he hout hlen hfr
   subst he
   obtain ⟨tt, hd, htN, hlr, hws, hkl⟩ := yao hout
   obtain ⟨_, hnr⟩ := hst.readied hn hkl
   have hst0 := hst.kills hn eff.kl
   have hxl : zqf zr = none := by cases hx : zr <;> first | rfl | simp [hx, zqu] at hzrt
   have hr0 := yal (kl := eff.kl) hzr hxl
   have htop : p = [] ∨ topOnly r (Lf.kills eff.kl env) := by
    cases hp : p with
    | nil => exact .inl rfl
    | cons ic p' =>
     refine .inr (topOnly.of_mem ?_)
     rcases hkl with ⟨hk, _⟩ | hk
     ·rw [hk, hp]; simp
     ·rw [hk, hp]; simp
   obtain ⟨n1, Os1, vr, uu, m, Oy, hnn, hst1, hvr, hlv, hm, hrv, hO1, hOS, hOO, hOle⟩ := hst0.takeAt hr0 hzrt hg htop
   obtain ⟨vr', u', e1, e2, e3⟩ := ha zr hzr _ _ _ _ hg (.inr rfl)
   rw [hvr] at e1; injection e1 with e1; subst e1
   rw [hlv] at e2; injection e2 with e2; subst e2
   obtain ⟨m, rfl⟩ := hrv.pos
   obtain ⟨O2, hx2, hO2⟩ := hfr m _ Oy hrv e3
   have hle : ∀ b, O2 b ≤ Oy b := hO2
   refine own (cap := cap) (xs := xs') (Oy := O2) hst1 (by omega) hd htN (hnr.cons (by rw [yb6 hxl rfl]; simp)) (by unfold zqi; rw [hws]; rfl) hx2 (fun b => by have := hle b; have := hO1 b; omega) (fun b hb => by have := hle b; have := hOS b hb; omega)
    (fun t' b hb => hOO t' b (by have := hle b; omega)) hlen
  obtain ⟨zz, hg, h1⟩ := ybu h1
  split at h1
  ·rename_i e' cap xs
   obtain ⟨⟨he, hne⟩, h2⟩ := zqq h1
   split at h2
   ·obtain ⟨hlen, hout⟩ := yae (ycl h2)
    exact take (xs' := xs) hg he hout hlen fun m u Oy hr hsub => ⟨Oy, by rw [show a.eval x = u from hsub]; exact hr, fun _ => zly _⟩
   ·rename_i n0 k0 _
    obtain ⟨⟨hlen, hle, hk0⟩, hout⟩ := yae (ycl h2)
    have hl2 : (xs.take n0).length = n0 := by rw [zlh]; omega
    refine take (xs' := xs.take n0) hg he (by rw [hl2]; rw [hl2] at hout; exact hout) (by rw [hl2]; exact hlen) fun m u Oy hr hsub => ?_
    obtain ⟨A, len, kk, A', c', hu', hv', hle', hcc, hkk, hk3, _, hA⟩ := hsub
    obtain ⟨O1, hf, hO1⟩ := hr.front hu' n0 hle
    have hkk' : c' = kk := by
     rcases hk0 with e1 | e1
     ·subst e1; simp only at hk3; omega
     ·cases k0 with
      | none => simp only at hk3; omega
      | some c0 =>
       simp only at hk3
       subst e1
       obtain ⟨_, _, _, hcap, _⟩ := hr
       rw [hu'] at hcap
       simp only [ycs] at hcap
       omega
    refine ⟨O1, ?_, hO1⟩
    rw [hv', hA rfl, hkk']
    exact hf
   ·exact (zqd h2).elim
  ·rename_i e' c xs
   split at h1
   ·rename_i mm2 e2 c2 xs2 hq
    obtain ⟨hp0, h1⟩ := zqq h1
    obtain ⟨⟨he, hlt, hlen⟩, hout⟩ := yae h1
    subst he
    obtain ⟨vr, m, u, Oy, Oq, hvr, hrv, hm, hy, hlv, hOO⟩ := hst.at hzr hzrt hg
    obtain ⟨vr', u', e1, e3, e4⟩ := ha zr hzr _ _ _ _ hg (.inl hp0)
    rw [hvr] at e1; injection e1 with e1; subst e1
    rw [hlv] at e3; injection e3 with e3; subst e3
    obtain ⟨m, rfl⟩ := hy.pos
    have hq' := Rv.subSh (by decide) hy hq e4
    have hmm : mm2 = .fresh ∧ e2 = e' := by
     rcases yaz hq with ⟨_, _, _, _, e5, _, e6⟩ | ⟨_, _, _, _, _, _, _, e5, _, _, e6⟩
     ·injection e5 with e5 e7; injection e6 with e6 e8; exact ⟨e6.trans e5.symm, e8.trans e7.symm⟩
     ·injection e5 with e5 e7; injection e6 with e6 e8; exact ⟨e6.trans e5.symm, e8.trans e7.symm⟩
    obtain ⟨rfl, rfl⟩ := hmm
    exact shared (by decide) hq' hlt hlen hout
   ·exact (zqd h1).elim
  ·exact (zqd h1).elim
 ·rename_i e' c xs
  obtain ⟨⟨rfl, hlt, hlen⟩, hout⟩ := yae h
  obtain ⟨m, rfl⟩ : ∃ k, n = k + 1 := ⟨n - 1, by omega⟩
  exact shared (mm := .fresh) (by decide) (hv.plain hst hn rfl (fun O h => zqp h rfl)) hlt hlen hout
 ·rename_i e' c xs
  obtain ⟨⟨rfl, hlt, hlen⟩, hout⟩ := yae h
  obtain ⟨m, rfl⟩ : ∃ k, n = k + 1 := ⟨n - 1, by omega⟩
  exact shared (mm := .any) (by decide) (hv.plain hst hn rfl (fun O h => zqp h rfl)) hlt hlen hout
 ·exact (zqd h).elim
theorem yi8 (hcx : CxOk P cx) (hst : St P F B0 w0 n env a.tmps w S Os) (hn : 0 < n) (hN : (a.tmps.size = cx.N ∧ F.lo = cx.lo)) {t u : TypeId} {x y : Operand} (ho : o.op = .call { callee := .builtin .append, args := #[x, y], argTypes := #[t, u] })
  (h : (yg2 cx o.dst t u x y).run env = some (l, eff)) : o.wp P a w (Post P F B0 w0 S cx env eff a) Q := by
 unfold yg2 at h
 cases ht : tyF cx.T t with
 | none => rw [ht] at h; exact (zqd h).elim
 | some ti =>
  rw [ht] at h
  obtain ⟨_, _, d, _, _, _, _, _, hd, _, _, hk⟩ := (hcx.ty t ti ht).ex
  simp only at h
  split at h
  ·rename_i e hkk
   rw [hkk] at hk
   have hk' : d = .slice e := hk
   rw [hk'] at hd
   cases hj : tyF cx.T e with
   | none => rw [hj] at h; exact (zqd h).elim
   | some j =>
    rw [hj] at h
    have hty := hcx.ty e j hj
    obtain ⟨tj, z, _, h1, h2, h3, h4, h5, _⟩ := hty.ex
    obtain ⟨⟨hby, hpos⟩, hA⟩ := zqq h
    obtain ⟨b, sb, l1, hvb, hB⟩ := zqm hA
    clear h hA
    split at hB
    ·rename_i k q
     obtain ⟨hint, hB2⟩ := zqq hB
     obtain ⟨⟨hq0, hq1⟩, hC⟩ := yae hB2
     obtain ⟨y', s, l2, hvx, hD⟩ := zqm hC
     have hkn : ∃ kn, P.underlying u = some (.int kn) := by
      cases hu : tyF cx.T u with
      | none => rw [hu] at hint; cases hint
      | some iu =>
       rw [hu] at hint
       obtain ⟨_, _, du, _, _, _, _, _, hdu, _, _, hku⟩ := (hcx.ty u iu hu).ex
       simp only at hint
       split at hint
       ·rename_i kn hkn
        rw [hkn] at hku
        exact ⟨kn, by rw [hdu]; exact congrArg some hku⟩
       ·cases hint
     obtain ⟨kn, hkn⟩ := hkn
     obtain ⟨news, hs, hn2, ho2⟩ := ylu (P := P) (B0 := B0) (w := w) (S := S) (n := n) (size := tj.size) (z := z) (k := k) hty h3 hpos hkn (m := q.toNat) (by omega) hn
     have hev : a.eval y = .int k (q.toNat : Int) := by rw [hvb.atom hst hn, Int.toNat_of_nonneg hq0]
     refine yfk hst hn hN ho hd hty h1 h2 h3 h4 h5 hby hpos (ys := List.replicate q.toNat (ya6 j)) (by rw [hev, zlw]; exact hs) hn2 ho2 (yho hty _) hvx hD
    ·obtain ⟨m, e', cap, ys, l2, hC, hnode, _⟩ := yb3 hst hn hvb hB
     obtain ⟨⟨hut, hall, hsz⟩, hD⟩ := yae hC
     subst hut
     obtain ⟨y', s, l3, hvx, hE⟩ := zqm hD
     have hsz' : Uni j.zero.length ys := by
      intro q hq
      have := zls.1 hsz q hq
      simpa using this
     obtain ⟨news, hs, hn2, ho2⟩ := hnode.src (e := e) (z := z) hd hall hsz'
     exact yfk hst hn hN ho hd hty h1 h2 h3 h4 h5 hby hpos (by rw [h4]; exact hs) hn2 ho2 (by rw [hty.cells]; exact hsz') hvx hE
  ·exact (zqd h).elim
end
end Go.Lf
end

section
namespace Go.Lf
open Go Go.RowKit
section
variable {P : Program} {F : Frm} {B0 B1 : Nat} {w0 w w' : World} {S S' S3 : Nat → Prop} {n n' : Nat} {env : Env} {a : Act} {tmps : Array Value} {Os : Nat → Own} {cx : Cx} {o : Oper} {Q : Exit → Act → World → Prop} {eff : Eff} {l : List Nat}
theorem Rv.viewed (hS : ∀ b, S b → S' b) : ∀ (n k : Nat) (v : Value) (x : AV) (O : Own),
  (∀ b, 0 < O b → S' b) → Rv P B0 w S n v x O → Rv P B1 w S' n v (Lf.remode (fun _ => .any) k x) (fun _ => 0) := by
 intro n
 induction n with
 | zero => intro k v x O _ h; exact h.elim
 | succ n ih =>
  intro k v x O hO h
  have hc : ∀ (k : Nat) {vs : List Value} {xs : List AV} {O1 : Own}, (∀ b, O1 b ≤ O b) → Rc (Rv P B0 w S n) vs xs O1 → Rc (Rv P B1 w S' n) vs (xs.map (Lf.remode (fun _ => .any) k)) (fun _ => 0) := by
   intro k vs xs O1 h1 hr
   exact hr.map fun v x O2 hle hr => ih k v x O2 (fun b hb => hO b (by have := hle b; have := h1 b; omega)) hr
  have hbad : ∀ {vs : List Value} {xs : List AV} {O1 : Own}, Rc (Rv P B0 w S n) vs xs O1 → Rc (Rv P B1 w S' n) vs (xs.map fun _ => AV.bad) (fun _ => 0) := by
   intro vs xs O1 hr
   refine hr.map fun v x O2 hle hr => ?_
   cases n with
   | zero => exact hr.elim
   | succ n => exact fun _ => rfl
  have hshared : ∀ {e : TypeId} {cap : Option Nat} {xs : List AV} {m : Mode} {k : Nat},
    Shs P B0 w S (Rv P B0 w S n) m e cap xs v O → Shs P B1 w S' (Rv P B1 w S' n) .any e cap (xs.map (mapE (Lf.remode (fun _ => .any) k))) v (fun _ => 0) := by
   intro e cap xs m k ⟨A, c, hv, hk, hml, hcap, hu, hz, hx⟩
   refine ⟨A, c, by simpa using hv, by simpa using hk, hml, hcap, hu.mapE _ k, fun _ => rfl, fun hne => ?_⟩
   obtain ⟨g, off, C, T, fr, rfl, hs, hfr, hg, hsz, hr⟩ := hx (by intro e; apply hne; simp [e])
   refine ⟨g, off, C, T, fr, rfl, hS g hs, fun e => by (cases e), hg, by rw [yav, zla]; exact hsz, ?_⟩
   rw [yav, zla]; exact hc k (fun _ => zly _) hr
  cases k with
  | zero =>
   cases x with
   | agg cs => obtain ⟨vs, rfl, hr⟩ := h; exact ⟨vs, rfl, hbad hr⟩
   | al r p rng => exact h.elim
   | adr r p i c => exact h.elim
   | cp r => exact h.elim
   | _ => exact fun _ => rfl
  | succ k =>
   cases x with
   | atom u => exact ⟨h.1, fun _ => rfl⟩
   | bad => exact fun _ => rfl
   | agg cs => obtain ⟨vs, rfl, hr⟩ := h; exact ⟨vs, rfl, hc k (fun _ => zly _) hr⟩
   | tup cs => obtain ⟨vs, rfl, hr⟩ := h; exact ⟨vs, rfl, hc k (fun _ => zly _) hr⟩
   | sl m e cap xs =>
    show Rv P B1 w S' (n + 1) v (.sl .any e cap (xs.map (mapE (Lf.remode (fun _ => .any) k)))) (fun _ => 0)
    cases m with
    | own =>
     obtain ⟨vs, O', ho, hcap, hu, hr, hOO⟩ := h
     have hlen := zqn hu
     rcases ho.2 with ⟨rfl, hn⟩ | ⟨g, c, cur, rfl, hb, hg, hnc, hm, hcs, htake⟩
     ·have hx : xs = [] := zli hn
      subst hx
      exact ⟨none, 0, rfl, zly _, Nat.zero_le _, hcap, hu.mapE _ k, fun _ => rfl, fun hne => absurd rfl hne⟩
     ·refine ⟨some ⟨g, 0, none⟩, c, by simp, by simpa using hnc, hm, hcap, hu.mapE _ k, fun _ => rfl, fun _ => ⟨g, 0, cur, e, (0, 0), rfl, ?_, fun e => by (cases e), hg, ?_, ?_⟩⟩
      ·exact hO g (by have := hOO g; simp [ind, Value.ownBlock] at this; omega)
      ·rw [yav, zla, hlen, hcs]
       have := Nat.mul_le_mul_right (P.cellsOf e) hnc; omega
      ·rw [yav, zla, hlen, List.drop_zero, htake]
       exact hc k (fun b => by have := hOO b; omega) hr
    | fresh => exact hshared h
    | any => exact hshared h
   | box cs => exact fun _ => rfl
   | vadr cs c =>
    obtain ⟨g, o, C, T, fr, rfl, hs, hg, h1, h2, hz, hr⟩ := h
    exact ⟨g, o, C, T, fr, rfl, hS g hs, hg, h1, by simpa using h2, fun _ => rfl, by simpa using hc k (fun _ => zly _) hr⟩
   | fn g cs =>
    obtain ⟨vs, hv, hz, hr⟩ := h
    exact ⟨vs, hv, fun _ => rfl, hc k (fun _ => zly _) hr⟩
   | mp g E => exact fun _ => rfl
   | al r p rng => exact h.elim
   | adr r p i c => exact h.elim
   | cp r => exact h.elim
theorem yja {x c : AV} (h : ∃ k, yag k x = true) (hc : c ∈ x.ecells) : ∃ k, yag k c = true := by
 obtain ⟨k, hk⟩ := h
 cases x with
 | agg cs =>
  cases k with
  | zero => simp [yag] at hk
  | succ k => exact ⟨k, zls.1 hk c hc⟩
 | _ => simp only [AV.ecells, zlv] at hc; subst hc; exact ⟨k, hk⟩
theorem Rv.rebase (hB : B0 ≤ B1) {A : Prop} (hA : A → ∀ b, S' b → S3 b) (hS3 : ∀ b, B1 ≤ b → S' b → S3 b) : ∀ (n : Nat) (v : Value) (x : AV) (O : Own),
  (A ∨ ∃ k, yag k x = true) → Rv P B1 w S' n v x O → Rv P B0 w S3 n v x O := by
 intro n
 induction n with
 | zero => intro v x O _ h; exact h.elim
 | succ n ih =>
  intro v x O hx h
  have hc : ∀ {vs : List Value} {xs : List AV} {O1 : Own}, (A ∨ ∀ x ∈ xs, ∃ k, yag k x = true) → Rc (Rv P B1 w S' n) vs xs O1 → Rc (Rv P B0 w S3 n) vs xs O1 := by
   intro vs xs O1 h1 hr
   induction hr with
   | nil hz => exact .nil hz
   | cons h2 _ hO ih2 =>
    refine .cons (ih _ _ _ ?_ h2) (ih2 ?_) hO
    ·rcases h1 with h | h
     ·exact .inl h
     ·exact .inr (h _ List.mem_cons_self)
    ·rcases h1 with h | h
     ·exact .inl h
     ·exact .inr fun x hx => h x (List.mem_cons_of_mem _ hx)
  have hlist : ∀ {cs : List AV} {k : Nat}, cs.all (yag k) = true → ∀ x ∈ cs, ∃ k, yag k x = true := fun h x hx => ⟨_, zls.1 h x hx⟩
  have hflat : ∀ {xs : List AV} {k : Nat}, xs.all (yag k) = true → ∀ c ∈ flat xs, ∃ k, yag k c = true := by
   intro xs k h c hcx
   obtain ⟨y, hy, hyc⟩ := List.mem_flatMap.1 hcx
   exact yja ⟨k, zls.1 h y hy⟩ hyc
  cases x with
  | atom u => exact h
  | bad => exact h
  | agg cs =>
   obtain ⟨vs, rfl, hr⟩ := h
   refine ⟨vs, rfl, hc ?_ hr⟩
   rcases hx with h | ⟨k, h⟩
   ·exact .inl h
   ·cases k with
    | zero => simp [yag] at h
    | succ k => exact .inr (hlist h)
  | tup cs =>
   obtain ⟨vs, rfl, hr⟩ := h
   refine ⟨vs, rfl, hc ?_ hr⟩
   rcases hx with h | ⟨k, h⟩
   ·exact .inl h
   ·cases k with
    | zero => simp [yag] at h
    | succ k => exact .inr (hlist h)
  | sl m e cap xs =>
   have hxs : A ∨ (m ≠ .any ∧ ∀ c ∈ flat xs, ∃ k, yag k c = true) := by
    rcases hx with h | ⟨k, h⟩
    ·exact .inl h
    ·cases k with
     | zero => simp [yag] at h
     | succ k =>
      simp only [yag, zlo] at h
      refine .inr ⟨?_, hflat h.2⟩
      intro e; subst e; simp at h
   have hxs' : A ∨ ∀ c ∈ flat xs, ∃ k, yag k c = true := hxs.imp id (·.2)
   have shs : ∀ {m : Mode}, (A ∨ m = .fresh) → Shs P B1 w S' (Rv P B1 w S' n) m e cap xs v O → Shs P B0 w S3 (Rv P B0 w S3 n) m e cap xs v O := by
    intro m hm ⟨Ad, c, hv, hk, hml, hcap, hu, hz, hx⟩
    refine ⟨Ad, c, hv, hk, hml, hcap, hu, hz, fun hne => ?_⟩
    obtain ⟨g, off, C, T, fr, rfl, hs, hfr, hg, hsz, hr⟩ := hx hne
    refine ⟨g, off, C, T, fr, rfl, ?_, fun e => Nat.le_trans hB (hfr e), hg, hsz, hc hxs' hr⟩
    rcases hm with h | h
    ·exact hA h g hs
    ·exact hS3 g (hfr h) hs
   cases m with
   | own =>
    obtain ⟨vs, O', ho, hcap, hu, hr, hOO⟩ := h
    refine ⟨vs, O', ⟨ho.1, ?_⟩, hcap, hu, hc hxs' hr, hOO⟩
    rcases ho.2 with h | ⟨g, c, cur, h1, hb, h2⟩
    ·exact .inl h
    ·exact .inr ⟨g, c, cur, h1, Nat.le_trans hB hb, h2⟩
   | fresh => exact shs (.inr rfl) h
   | any => exact shs (hxs.imp id fun h => absurd rfl h.1) h
  | box cs =>
   obtain ⟨g, C, T, O', rfl, hb, hg, hr, hOO⟩ := h
   refine ⟨g, C, T, O', rfl, Nat.le_trans hB hb, hg, hc ?_ hr, hOO⟩
   rcases hx with h | ⟨k, h⟩
   ·exact .inl h
   ·cases k <;> simp [yag] at h
  | vadr cs c =>
   have ha : A := by
    rcases hx with h | ⟨k, h⟩
    ·exact h
    ·cases k <;> simp [yag] at h
   obtain ⟨g, o, C, T, fr, rfl, hs, hg, h1, h2, h3, hr⟩ := h
   exact ⟨g, o, C, T, fr, rfl, hA ha g hs, hg, h1, h2, h3, hc (.inl ha) hr⟩
  | fn f cs =>
   have ha : A := by
    rcases hx with h | ⟨k, h⟩
    ·exact h
    ·cases k <;> simp [yag] at h
   obtain ⟨vs, hv, hz, hr⟩ := h
   exact ⟨vs, hv, hz, hc (.inl ha) hr⟩
  | mp g E =>
   obtain ⟨h1, h2, h3⟩ := h
   exact ⟨Nat.le_trans hB h1, h2, h3⟩
  | al r p rng => exact h.elim
  | adr r p i c => exact h.elim
  | cp r => exact h.elim
theorem Rv.norm {v : Value} {r : AV} {O : Own} (h : Rv P B0 w S n v r O) (h1 : ∀ b, O b ≤ 1) :
  ∃ O', (∀ b, O' b ≤ O b) ∧ ∀ S' : Nat → Prop, (∀ b, S b → S' b) → (∀ b, 0 < O b → O' b = 0 → S' b) → Rv P B0 w S' n v (yln r) O' := by
 have keep : yln r = r → ∃ O', (∀ b, O' b ≤ O b) ∧ ∀ S' : Nat → Prop, (∀ b, S b → S' b) → (∀ b, 0 < O b → O' b = 0 → S' b) → Rv P B0 w S' n v (yln r) O' := by
  intro hr
  exact ⟨O, fun _ => zly _, fun S' hS _ => by rw [hr]; exact Rv.frame hS (fun _ _ => rfl) _ _ _ _ (fun _ _ => rfl) h⟩
 exact keep rfl
end
end Go.Lf
end

section
namespace Go.Lf
open Go Go.RowKit
section
variable {P : Program} {F : Frm} {B0 B1 : Nat} {w0 w w' : World} {S S' S3 : Nat → Prop} {n n' : Nat} {env : Env} {a : Act} {tmps : Array Value} {Os : Nat → Own} {cx : Cx} {o : Oper} {Q : Exit → Act → World → Prop} {eff : Eff} {l : List Nat}
def Seen (S : Nat → Prop) (Os : Nat → Own) (b : Bool) : Nat → Prop := fun q => S q ∨ (b = true ∧ ∃ t, 0 < Os t q)
theorem NodeAt.view {v : Value} {e : TypeId} {cap : Option Nat} {xs : List AV} (h : NodeAt P B0 w S n Os v e cap xs) : Rv P B1 w (Seen S Os true) (n + 1) v (Lf.view (.sl .any e cap xs)) (fun _ => 0) := by
 obtain ⟨A, k, rfl, hle, hm, hcap, hu, hne⟩ := h
 refine ⟨A, k, by simp, by simpa using hle, hm, hcap, hu.mapE _ 11, fun _ => rfl, fun hn => ?_⟩
 obtain ⟨g, off, C, T, fr, O1, rfl, hg, hfit, hrc, hS, hO⟩ := hne (by intro e; apply hn; simp [e])
 refine ⟨g, off, C, T, fr, rfl, ?_, fun e => by (cases e), hg, by rw [yav, zla]; exact hfit, ?_⟩
 ·rcases hS with h | h
  ·exact .inl h
  ·exact .inr ⟨rfl, h⟩
 ·rw [yav, zla]
  exact hrc.map fun v x O2 hle hr => Rv.viewed (fun b hb => .inl hb) n 11 v x O2 (fun b hb => .inr ⟨rfl, hO b (by have := hle b; omega)⟩) hr
theorem yu8 {α : Type} (hst : St P F B0 w0 n env a.tmps w S Os) (hn : 0 < n) {x : Operand} {k : AV → Bool → RP α} {l : List Nat} {r : α} (h : (argP x k).run env = some (l, r)) :
  ∃ y b l', (k y b).run env = some (l', r) ∧ Rv P B1 w (Seen S Os b) (n + 1) (a.eval x) y (fun _ => 0) := by
 obtain ⟨y, s, l1, hv, h1⟩ := zqm h
 clear h
 have hO : ∀ {O : Own}, (∀ t, s = some t → O = Os t) → (s = none → Zero O) → ∀ b, 0 < O b → ∃ t, 0 < Os t b := by
  intro O h1 h2 b hb
  cases s with
  | none => have := h2 rfl b; omega
  | some t => rw [h1 t rfl] at hb; exact ⟨t, hb⟩
 split at h1
 ·rename_i v
  refine ⟨_, false, l1, h1, ?_⟩
  exact ⟨hv.atom hst hn, fun _ => rfl⟩
 ·rename_i cs
  obtain ⟨hp, h2⟩ := zqq h1
  have hz := hv.plain hst hn rfl (fun O h => by obtain ⟨m, rfl⟩ := h.pos; obtain ⟨_, _, hrc⟩ := h; exact zrg hrc hp)
  exact ⟨_, false, l1, h2, (Rv.viewed (fun b hb => .inl hb) n 12 _ _ _ (fun b hb => absurd hb (by simp)) hz).le (Nat.le_succ n)⟩
 ·rename_i e cap xs
  obtain ⟨O, hs, h2, h3⟩ := hv.ev hst hn
  have hr := hs.rv rfl
  refine ⟨_, true, l1, h1, (Rv.viewed (fun b hb => .inl hb) n 12 _ _ _ (fun b hb => .inr ⟨rfl, hO (fun t ht => (h2 t ht).1) (fun hn => (h3 hn).1) b hb⟩) hr).le (Nat.le_succ n)⟩
 ·rename_i m e cap xs hne
  have hm : m ≠ .own := by intro e'; subst e'; exact hne rfl
  have hz := hv.plain hst hn rfl (fun O h => zqp h (by cases m <;> first | rfl | exact absurd rfl hm))
  exact ⟨_, false, l1, h1, (Rv.viewed (fun b hb => .inl hb) n 12 _ _ _ (fun b hb => absurd hb (by simp)) hz).le (Nat.le_succ n)⟩
 ·rename_i f cs
  have hz := hv.plain hst hn rfl (fun O h => by obtain ⟨m, rfl⟩ := h.pos; obtain ⟨_, _, hz, _⟩ := h; exact hz)
  exact ⟨_, false, l1, h1, (Rv.viewed (fun b hb => .inl hb) n 12 _ _ _ (fun b hb => absurd hb (by simp)) hz).le (Nat.le_succ n)⟩
 ·rename_i r'
  obtain ⟨ha, z, hz, hzr⟩ := hv.cp hst hn
  obtain ⟨l2, h2⟩ := yan h1
  rw [hz] at h2
  split at h2
  ·rename_i cs hcs
   injection hcs with hcs; subst hcs
   obtain ⟨⟨hany, hall⟩, h3⟩ := zqq h2
   obtain ⟨v, hv1, hs⟩ := hst.rel r' _ hz
   have hr := hs.rv rfl
   obtain ⟨q, rfl⟩ := hr.pos
   obtain ⟨g, C, T, O', hvv, hB, hg, hrc, hO'⟩ := hr
   have hCl : C.toList.length = cs.length := hrc.length
   obtain ⟨y, hym, hyo⟩ := List.any_eq_true.mp hany
   obtain ⟨c0, hc0, hcy⟩ := List.getElem_of_mem hym
   have hsg : ∀ c (hc : c < cs.length), seg (.box cs) 0 c 1 = some [cs[c]] := by
    intro c hc
    show (if 0 = 0 ∧ c + 1 ≤ cs.length then some ((cs.drop c).take 1) else none) = some [cs[c]]
    rw [if_pos ⟨rfl, by omega⟩]
    rw [List.drop_eq_getElem_cons hc, List.take_succ_cons, List.take_zero]
   obtain ⟨vr, vs, e1, e2, e3, e4⟩ := ha cs hz ⟨[(0, c0)], y, by simp, by unfold getC; rw [hsg c0 hc0, ← hcy]; rfl, hyo⟩
   rw [hv1] at e1; injection e1 with e1; subst e1
   have hvC : vs = C := by
    refine Array.ext (by simp at hCl; omega) fun c h1 h2 => ?_
    have h4 := e4 c vs[c] (by simp [h1])
    rw [hvv] at h4
    unfold LV at h4
    rw [hsg c (by omega)] at h4
    have hcell : ya8 P w (.box cs) 0 c (.pointer (some ⟨g, 0, none⟩)) = some C[c] := by
     show w.cell? ⟨g, 0 + fo P (.box cs) 0 c, none⟩ = some C[c]
     rw [cell_of_row w g _ C T (0, 0) hg]
     simp [fo, h2]
    rw [hcell] at h4
    unfold LV at h4
    injection h4 with h4
    exact h4.symm
   subst hvC
   have hag : Rv P B0 w S (q + 1) (a.eval x) (.agg cs) O' := ⟨_, e2, hrc⟩
   refine ⟨_, true, l2, h3, (Rv.viewed (fun b hb => .inl hb) (q + 1) 12 _ _ _ (fun b hb => .inr ⟨rfl, r', by have := hO' b; omega⟩) hag).le (Nat.le_succ _)⟩
  ·exact (zqd h2).elim
 ·obtain ⟨m, e, cap, xs, l2, h2, hnode, _⟩ := yb3 hst hn hv h1
  exact ⟨_, true, l2, h2, hnode.view⟩
theorem yk1 {α : Type} (hst : St P F B0 w0 n env a.tmps w S Os) (hn : 0 < n) : ∀ {xs : List Operand} {k : List AV → Bool → RP α} {l : List Nat} {r : α}, (yjn xs k).run env = some (l, r) →
  ∃ ys b l', (k ys b).run env = some (l', r) ∧ Rc (Rv P B1 w (Seen S Os b) (n + 1)) (xs.map a.eval) ys (fun _ => 0)
 | [], k, l, r, h => ⟨[], false, l, h, .nil fun _ => rfl⟩
 | x :: xs, k, l, r, h => by
  obtain ⟨y, b, l1, h1, hr1⟩ := yu8 (B1 := B1) hst hn h
  obtain ⟨ys, b', l2, h2, hr2⟩ := yk1 hst hn h1
  refine ⟨_, _, l2, h2, .cons (O1 := fun _ => 0) (O2 := fun _ => 0) ?_ ?_ fun _ => rfl⟩
  ·exact Rv.frame (fun q hq => by
    rcases hq with h | ⟨rfl, h⟩
    ·exact .inl h
    ·exact .inr ⟨rfl, h⟩) (fun _ _ => rfl) _ _ _ _ (fun _ _ => rfl) hr1
  ·exact hr2.frame (fun q hq => by
    rcases hq with h | ⟨rfl, h⟩
    ·exact .inl h
    ·exact .inr ⟨by simp, h⟩) (fun _ _ => rfl) fun _ _ => rfl
theorem yue (hst : St P F B0 w0 n env a.tmps w S Os) (hn : 0 < n) (hnn : n ≤ n') (hN : (a.tmps.size = cx.N ∧ F.lo = cx.lo)) {x : AV} {v : Value} {O : Own} (hout : (outP cx o.dst x [] []).run env = some (l, eff))
  (hB : Below w.heap.size w w') (hS : ∀ b, S b → S' b) (hSl : ∀ b, S' b → b < w'.heap.size) (hSn : ∀ b, S' b → S b ∨ w.heap.size ≤ b)
  (hSd : ∀ b, S' b → O b = 0) (h1 : ∀ b, O b ≤ 1) (hO : ∀ b, 0 < O b → w.heap.size ≤ b) (hx : Rv P B0 w' S' n' v x O) : Post P F B0 w0 S cx env eff a (a.put o.dst v) w' := by
 obtain ⟨t, hd, htN, hlr, hws, hkl⟩ := yao hout
 obtain ⟨hs1, hnr⟩ := hst.readied hn hkl
 rw [hd]
 have hlt := hst.lt
 have key := hs1.put (x := x) (v := v) (O := O) hnn (d := t) (by omega) hnr (hB.mono hst.b0) hS hSl ?_ hSd ?_ h1 ?_ (.inr hx)
 ·exact ⟨rfl, by simpa [Act.put] using hN, n', S', _, by omega, ⟨hS, fun b hb => (hSn b hb).imp id fun h => Nat.le_trans hst.b0 h⟩, by unfold zqi; rw [hws]; exact key⟩
 ·intro b s hst' hb
  rcases hSn b hb with h | h
  ·exact hst.excl b s h
  ·rcases zlt (Os s b) with h0 | h0
   ·exact h0
   ·have := (hlt s b h0).2; omega
 ·intro b hb
  refine hB.block b ?_
  rcases hb with hb | ⟨s, _, hb⟩
  ·exact hst.sLt b hb
  ·exact (hlt s b hb).2
 ·intro b s _ hb
  have := hO b hb
  rcases zlt (Os s b) with h0 | h0
  ·exact h0
  ·have := (hlt s b h0).2; omega
theorem yf0 (hcx : CxOk P cx) (hst : St P F B0 w0 n env a.tmps w S Os) (hn : 0 < n) (hN : (a.tmps.size = cx.N ∧ F.lo = cx.lo)) {f : FuncId} {c : Call} (hres : (∀ (args : Array Value) (w : World), (callFunc f args).run P w = .ok (.enter f args) w) → (execOp a.eval o).run P w = .ok (.enter f (c.args.toList.map a.eval).toArray) w)
  (h : (yez cx o.dst f c.args.toList).run env = some (l, eff)) : o.wp P a w (Post P F B0 w0 S cx env eff a) Q := by
 obtain ⟨ys, b, l1, h1, hargs⟩ := yk1 (B1 := w.heap.size) hst hn h
 cases hk : cx.K f ys with
 | none => rw [hk] at h1; exact (zqd h1).elim
 | some r =>
  rw [hk] at h1
  obtain ⟨hna, hout⟩ := yae h1
  obtain ⟨henter, hcall⟩ := hcx.K f ys r hk
  have hlt : ∀ q, Seen S Os b q → q < w.heap.size := by
   intro q hq
   rcases hq with h | ⟨_, t, h⟩
   ·exact hst.sLt q h
   ·exact (hst.lt t q h).2
  have hC := hcall w (Seen S Os b) _ _ hlt hargs
  unfold Oper.wp
  have hrun : (execOp a.eval o).run P w = .ok (.enter f (c.args.toList.map a.eval).toArray) w := hres henter
  rw [hrun, Oper.upon_enter]
  refine hC.mono ?_
  rintro e w' ⟨v, n', S2, O, rfl, hB, hrv, hO1, hS2, hS2O, hSS2⟩
  have hB0 : B0 ≤ w.heap.size := hst.b0
  have hrb : Rv P B0 w' (fun q => S q ∨ (w.heap.size ≤ q ∧ S2 q)) n' v r O := by
   refine Rv.rebase hB0 (A := b = false) ?_ ?_ n' v r O ?_ hrv
   ·intro hb q hq
    rcases (hS2 q hq).1 with h | h
    ·rcases h with h | ⟨h, _⟩
     ·exact .inl h
     ·rw [hb] at h; cases h
    ·exact .inr ⟨h, hq⟩
   ·intro q h1 h2; exact .inr ⟨h1, h2⟩
   ·cases b with
    | false => exact .inl rfl
    | true => exact .inr ⟨12, hna rfl⟩
  obtain ⟨O', hle, hnorm⟩ := hrb.norm hO1
  have hOn : ∀ q, 0 < O q → w.heap.size ≤ q ∧ q < w'.heap.size := fun q hq => Rv.owned n' v r O hrv q hq
  have hsz := hB.size
  refine yue (S' := fun q => (S q ∨ (w.heap.size ≤ q ∧ S2 q)) ∨ (0 < O q ∧ O' q = 0)) hst hn (Nat.le_max_left n n') hN hout hB (fun q hq => .inl (.inl hq)) ?_ ?_ ?_ ?_ ?_ ((hnorm _ (fun q hq => .inl hq) (fun q h1 h2 => .inr ⟨h1, h2⟩)).le (Nat.le_max_right _ _))
  ·intro q hq
   rcases hq with (h | ⟨_, h⟩) | ⟨h, _⟩
   ·have := hst.sLt q h; omega
   ·exact (hS2 q h).2
   ·exact (hOn q h).2
  ·intro q hq
   rcases hq with (h | ⟨h, _⟩) | ⟨h, _⟩
   ·exact .inl h
   ·exact .inr h
   ·exact .inr (hOn q h).1
  ·intro q hq
   rcases hq with (h | ⟨_, h⟩) | ⟨_, h⟩
   ·have := hS2O q (hSS2 q (.inl h)); have := hle q; omega
   ·have := hS2O q h; have := hle q; omega
   ·exact h
  ·intro q; have := hle q; have := hO1 q; omega
  ·intro q hq; exact (hOn q (by have := hle q; omega)).1
theorem ym7 (hcx : CxOk P cx) (hst : St P F B0 w0 n env a.tmps w S Os) (hn : 0 < n) (hN : (a.tmps.size = cx.N ∧ F.lo = cx.lo)) {f : FuncId} {c : Call} (ho : o.op = .call c) (hc : c.callee = .value (.func f))
  (h : (yez cx o.dst f c.args.toList).run env = some (l, eff)) : o.wp P a w (Post P F B0 w0 S cx env eff a) Q := by
 refine yf0 hcx hst hn hN (c := c) (fun henter => ?_) h
 rw [execOp, ho]
 have e1 : (c.args.toList.map a.eval).toArray = c.args.map a.eval := by rw [← Array.toList_map]
 rw [e1]
 have := henter (c.args.map a.eval) w
 simp [resolve, hc, invoke, Deferred.ofValue, Act.eval, this]
theorem ylj (hcx : CxOk P cx) (hst : St P F B0 w0 n env a.tmps w S Os) (hn : 0 < n) (hN : (a.tmps.size = cx.N ∧ F.lo = cx.lo)) {f : FuncId} {g : Nat} {c : Call} (ho : o.op = .call c) (hc : c.callee = .value (.tmp g)) (hg : lk env g = some (.atom (.func (.func f) #[] #[])))
  (h : (yez cx o.dst f c.args.toList).run env = some (l, eff)) : o.wp P a w (Post P F B0 w0 S cx env eff a) Q := by
 have hv : a.eval (.tmp g) = .func (.func f) #[] #[] := by
  obtain ⟨O, hs, _⟩ := Vl.ev hst hn (x := .tmp g) (y := .atom (.func (.func f) #[] #[])) (s := some g) ⟨hg, rfl⟩
  have hr := hs.rv rfl
  obtain ⟨m, rfl⟩ := hr.pos
  exact hr.1
 refine yf0 hcx hst hn hN (c := c) (fun henter => ?_) h
 rw [execOp, ho]
 have e1 : (c.args.toList.map a.eval).toArray = c.args.map a.eval := by rw [← Array.toList_map]
 rw [e1]
 have := henter (c.args.map a.eval) w
 simp [resolve, hc, invoke, Deferred.ofValue, hv, this]
end
end Go.Lf
end

section
namespace Go.Lf
open Go Go.RowKit
section
variable {P : Program} {F : Frm} {B0 : Nat} {w0 w w' : World} {S S' : Nat → Prop} {n n' : Nat} {env : Env} {a : Act} {tmps : Array Value} {Os : Nat → Own} {cx : Cx} {o : Oper} {Q : Exit → Act → World → Prop} {eff : Eff} {l : List Nat}
theorem ypw (hst : St P F B0 w0 n env a.tmps w S Os) (hn : 0 < n) (hN : (a.tmps.size = cx.N ∧ F.lo = cx.lo)) {x y : Operand} {t u : TypeId} (ho : o.op = .call { callee := .builtin .max, args := #[x, y], argTypes := #[t, u] }) (h : (opMM cx o.dst true x y).run env = some (l, eff)) : o.wp P a w (Post P F B0 w0 S cx env eff a) Q := by
 obtain ⟨p, s, l1, hv1, h1⟩ := zqm h
 obtain ⟨q, s', l2, hv2, h2⟩ := zqm h1
 split at h2
 ·rename_i k m k' m'
  refine yar hst hn hN h2 ?_
  rw [execOp, ho]
  simp [resolve, invoke, builtin, hv1.atom hst hn, hv2.atom hst hn, run_max_int2]
 ·exact (zqd h2).elim
theorem ypv (hst : St P F B0 w0 n env a.tmps w S Os) (hn : 0 < n) (hN : (a.tmps.size = cx.N ∧ F.lo = cx.lo)) {x y : Operand} {t u : TypeId} (ho : o.op = .call { callee := .builtin .min, args := #[x, y], argTypes := #[t, u] }) (h : (opMM cx o.dst false x y).run env = some (l, eff)) : o.wp P a w (Post P F B0 w0 S cx env eff a) Q := by
 obtain ⟨p, s, l1, hv1, h1⟩ := zqm h
 obtain ⟨q, s', l2, hv2, h2⟩ := zqm h1
 split at h2
 ·rename_i k m k' m'
  refine yar hst hn hN h2 ?_
  rw [execOp, ho]
  simp [resolve, invoke, builtin, hv1.atom hst hn, hv2.atom hst hn, run_min_int2]
 ·exact (zqd h2).elim
theorem Rc.part {R : Value → AV → Own → Prop} {vs : List Value} {xs : List AV} {O : Own} (h : Rc R vs xs O) (hz : Zero O) (i k : Nat) : Rc R ((vs.drop i).take k) ((xs.drop i).take k) (fun _ => 0) := by
 have hx : xs = xs.take i ++ xs.drop i := (List.take_append_drop i xs).symm
 rw [hx] at h
 obtain ⟨O1, O2, h1, h2, hO⟩ := h.split
 have hx2 : xs.drop i = (xs.drop i).take k ++ (xs.drop i).drop k := (List.take_append_drop k _).symm
 rw [hx2] at h2
 obtain ⟨P1, P2, g1, g2, hP⟩ := h2.split
 by_cases hi : i ≤ xs.length
 ·have e1 : (xs.take i).length = i := by rw [zlh]; omega
  rw [e1] at g1
  have hl := h1.length
  by_cases hk : k ≤ (xs.drop i).length
  ·have e2 : ((xs.drop i).take k).length = k := by rw [zlh]; omega
   rw [e2] at g1
   exact g1.cast fun b => by have := hz b; have := hO b; have := hP b; omega
  ·have e2 : ((xs.drop i).take k).length = (xs.drop i).length := by rw [zlh]; omega
   rw [e2] at g1
   have hv := g1.length
   have : (vs.drop i).take (xs.drop i).length = (vs.drop i).take k := by
    have h3 := h.length
    have h4 : (vs.drop i).length = (xs.drop i).length := by
     rw [zlg, zlh, List.length_drop] at h3
     simp only [List.length_drop]; omega
    rw [zlm (by omega), zlm (by omega)]
   rw [this] at g1
   exact g1.cast fun b => by have := hz b; have := hO b; have := hP b; omega
 ·have e1 : xs.drop i = [] := List.drop_of_length_le (by omega)
  have h3 := h.length
  have e2 : vs.drop i = [] := List.drop_of_length_le (by rw [h3, zlg, zlh, List.length_drop]; omega)
  rw [e1, e2]
  simp only [List.take_nil]
  exact .nil fun _ => rfl
theorem yli (hcx : CxOk P cx) (hst : St P F B0 w0 n env a.tmps w S Os) (hn : 0 < n) (hN : (a.tmps.size = cx.N ∧ F.lo = cx.lo)) {t : TypeId} {x ix : Operand} (ho : o.op = .index t x ix) (h : (yi4 cx o.dst t x ix).run env = some (l, eff)) : o.wp P a w (Post P F B0 w0 S cx env eff a) Q := by
 unfold yi4 at h
 cases ht : tyF cx.T t with
 | none => rw [ht] at h; exact (zqd h).elim
 | some ti =>
  rw [ht] at h
  obtain ⟨_, _, d, _, _, _, _, _, hd, _, _, hk⟩ := (hcx.ty t ti ht).ex
  simp only at h
  split at h
  ·rename_i len e hkk
   rw [hkk] at hk
   have hk' : d = .array len e := hk
   rw [hk'] at hd
   cases hj : tyF cx.T e with
   | none => rw [hj] at h; exact (zqd h).elim
   | some j =>
    rw [hj] at h
    obtain ⟨tj, z, dj, i1, _, _, i4, _, hdj, hagg, _, _⟩ := (hcx.ty e j hj).ex
    have hsing := (hcx.ty e j hj).sing
    obtain ⟨hpos, h⟩ := zqq h
    obtain ⟨y, s, l1, hv, h1⟩ := zqm h
    cases y with
    | agg cs =>
     obtain ⟨hp, h1⟩ := zqq h1
     obtain ⟨q, s', l2, hv2, h2⟩ := zqm h1
     split at h2
     ·rename_i kk m
      obtain ⟨⟨hm0, hm1, hlen⟩, h3⟩ := yae h2
      have hix := hv2.atom hst hn
      obtain ⟨nn, rfl⟩ : ∃ k, n = k + 1 := ⟨n - 1, by omega⟩
      have hz := hv.plain hst hn rfl (fun O h => by obtain ⟨_, _, hrc⟩ := h; exact zrg hrc hp)
      obtain ⟨vs, hvs, hrc⟩ := hz
      have hrl : vs.toList.length = cs.length := hrc.length
      have hvsz : vs.size = len * j.zero.length := by rw [← hlen, ← hrl]; simp
      have hmn : m.toNat < len := by omega
      have hoff : m.toNat * j.zero.length + j.zero.length ≤ len * j.zero.length := by
       rw [← Nat.succ_mul]; exact Nat.mul_le_mul_right _ hmn
      by_cases hag : j.agg = true
      ·rw [if_pos hag] at h3
       rw [hag] at hagg
       have h3' : (outP cx o.dst (.agg ((cs.drop (m.toNat * j.zero.length)).take j.zero.length)) [] []).run env = some (_, eff) := h3
       refine fin0 hst hn hN h3' (v := .agg (vs.extract (m.toNat * j.zero.length) (m.toNat * j.zero.length + j.zero.length))) ?_ (.inr ⟨_, rfl, ?_⟩)
       ·rw [execOp, ho]
        simp only [hix, hvs]
        cases dj <;> simp at hagg <;> simp [Instr.index, asIntOf, run_underlying hd, hm0, hm1, part, isAgg, run_underlying hdj, sizeOf, typeInfo, i1, i4]
       ·have hq := hrc.part (fun _ => rfl) (m.toNat * j.zero.length) j.zero.length
        have e : (vs.extract (m.toNat * j.zero.length) (m.toNat * j.zero.length + j.zero.length)).toList = (vs.toList.drop (m.toNat * j.zero.length)).take j.zero.length := by
         rw [Array.toList_extract]; simp [List.extract]
        rw [e]; exact hq
      ·rw [if_neg hag] at h3
       have hag' : j.agg = false := by simpa using hag
       rw [hag'] at hagg
       have h1c := hsing hag'
       have h3' : (outP cx o.dst (cs.getD (m.toNat * j.zero.length) .bad) [] []).run env = some (_, eff) := h3
       have hlt : m.toNat * j.zero.length < cs.length := by omega
       have hget : cs[m.toNat * j.zero.length]? = some (cs.getD (m.toNat * j.zero.length) .bad) := by
        rw [zld, zle hlt]; rfl
       obtain ⟨v, O1, hv1, hr1, hO1⟩ := hrc.get hget
       refine fin0 hst hn hN h3' (v := v) ?_ (.inr ?_)
       ·rw [execOp, ho]
        simp only [hix, hvs]
        have hva : vs[m.toNat * j.zero.length]? = some v := by simpa using hv1
        cases dj <;> simp at hagg <;> simp [Instr.index, asIntOf, run_underlying hd, hm0, hm1, part, isAgg, run_underlying hdj, sizeOf, typeInfo, i1, i4, hva]
       ·have : (fun _ => 0 : Own) = O1 := funext fun b => by have := hO1 b; omega
        rw [this]; exact hr1.le (Nat.le_succ _)
     ·exact (zqd h2).elim
    | _ => exact (zqd h1).elim
  ·exact (zqd h).elim
end
end Go.Lf
end
