/- Part 3 of the evaluator and of the contracts that the claim uses. -/
import Derived.Laws.BytesString
import Derived.LoopN
import Derived.Orders
import Derived.OrdersIn
import Derived.TacticsIn
import Derived.LoopNIn
import Derived.RangeFuncLeaves
import Derived.RangeFuncRecord
import Derived.Test.YtpjlfgacjbkbbaaLoopsSpoiledLAA
import Derived.Test.YtpjlfgacjbkbbaaLoopsSpoiledLAB
set_option linter.unusedVariables false
set_option linter.unusedSimpArgs false
set_option linter.constructorNameAsVariable false
set_option linter.unusedSectionVars false
open Go.IntKind (i64 u8)

section
namespace Go.Lf
open Go Go.RowKit
section
variable {P : Program} {F : Frm} {B0 : Nat} {w0 w w' : World} {S S' : Nat → Prop} {n n' : Nat} {env : Env} {a : Act} {tmps : Array Value} {Os : Nat → Own} {cx : Cx} {o : Oper} {Q : Exit → Act → World → Prop} {eff : Eff} {l : List Nat}
theorem yk0 {α : Type} (hst : St P F B0 w0 n env a.tmps w S Os) (hn : 0 < n) : ∀ {xs : List Operand} {k : List AV → RP α} {l : List Nat} {r : α}, (yvn xs k).run env = some (l, r) →
  ∃ cs l', (k cs).run env = some (l', r) ∧ Rc (Rv P B0 w S n) (xs.map a.eval) cs (fun _ => 0)
 | [], k, l, r, h => ⟨[], l, h, .nil fun _ => rfl⟩
 | x :: xs, k, l, r, h => by
  obtain ⟨y, s, l1, hv, h1⟩ := zqm h
  split at h1
  ·rename_i cs c
   obtain ⟨ds, l2, h2, h3⟩ := yk0 hst hn h1
   have hz := hv.plain hst hn rfl (fun O h => by obtain ⟨m, rfl⟩ := h.pos; obtain ⟨g, o, C, T, fr, _, _, _, _, _, hz, _⟩ := h; exact hz)
   exact ⟨_, l2, h2, .cons hz h3 fun _ => rfl⟩
  ·exact (zqd h1).elim
theorem yg4 (hst : St P F B0 w0 n env a.tmps w S Os) (hn : 0 < n) (hN : (a.tmps.size = cx.N ∧ F.lo = cx.lo)) {g : Fn} {first caps : Array Operand} (ho : o.op = .makeFunc g first caps)
  (h : (yd1 cx o.dst g first.toList caps.toList).run env = some (l, eff)) : o.wp P a w (Post P F B0 w0 S cx env eff a) Q := by
 unfold yd1 at h
 split at h
 ·rename_i f hf
  obtain ⟨cs, l1, h1, h2⟩ := yk0 hst hn h
  obtain ⟨m, rfl⟩ : ∃ m, n = m + 1 := ⟨n - 1, by omega⟩
  have hfi : first = #[] := by simpa using hf
  refine fin0 (v := .func (.func f) #[] (caps.map a.eval)) (hst.up (Nat.le_succ _)) (Nat.succ_pos _) hN h1 ?_ (.inr ⟨caps.map a.eval, rfl, fun _ => rfl, ?_⟩)
  ·rw [execOp, ho, hfi]
   simp [Instr.makeFunc]
  ·rw [Array.toList_map]; exact h2
 ·exact (zqd h).elim
theorem yi6 (hcx : CxOk P cx) (hst : St P F B0 w0 n env a.tmps w S Os) (hn : 0 < n) (hN : (a.tmps.size = cx.N ∧ F.lo = cx.lo)) {t : TypeId} {x : Operand} (ho : o.op = .slice t x none none none)
  (h : (yg2 cx o.dst t x).run env = some (l, eff)) : o.wp P a w (Post P F B0 w0 S cx env eff a) Q := by
 unfold yg2 at h
 split at h
 ·rename_i ti ht
  obtain ⟨_, _, d, _, _, _, _, _, hd, _, _, hk⟩ := (hcx.ty t ti ht).ex
  split at h
  ·rename_i len e hkk
   rw [hkk] at hk
   have hk' : d = .array len e := hk
   rw [hk'] at hd
   split at h
   ·rename_i j hj
    obtain ⟨⟨hj1, hlen⟩, h⟩ := zqq h
    obtain ⟨tj, hi1, hi2, hi3⟩ := hcx.info hj
    obtain ⟨y, s, l1, hv, h1⟩ := zqm h
    split at h1
    ·rename_i cs c
     obtain ⟨⟨hp, hc⟩, h2⟩ := yad h1
     have hz := hv.plain hst hn rfl (fun O h => by obtain ⟨m, rfl⟩ := h.pos; obtain ⟨g, o, C, T, fr, _, _, _, _, _, hz, _⟩ := h; exact hz)
     obtain ⟨m, rfl⟩ := hz.pos
     obtain ⟨g, off, C, T, fr, hav, hs, hg, hco, hsz, _, hr⟩ := hz
     have hone : ∀ q ∈ (cs.drop c).take len, q.ecells = [q] := fun q hq => yb5 (zls.1 hp q (List.mem_of_mem_drop (List.mem_of_mem_take hq)))
     have hfl : flat ((cs.drop c).take len) = (cs.drop c).take len := by
      generalize hL : (cs.drop c).take len = L at hone
      clear hL
      induction L with
      | nil => rfl
      | cons q L ih => rw [ya7, hone q (by simp), ih fun z hz => hone z (by simp [hz])]; rfl
     have hll : ((cs.drop c).take len).length = len := by rw [zlh, List.length_drop]; omega
     refine fin0 (v := .slice (some ⟨g, off, none⟩) len len) hst hn hN h2 ?_ (.inr ⟨some ⟨g, off, none⟩, len, by rw [hll], by rw [hll]; exact zly _, by unfold maxLen; omega, rfl, ?_, fun _ => rfl, fun _ => ⟨g, off, C, T, fr, rfl, hs, fun h => by (cases h), hg, ?_, ?_⟩⟩)
     ·rw [execOp, ho]
      simp only [hav, Option.map_none]
      simp [Instr.sliceAt, Instr.sureAddr, Instr.sliceBounds, sizeOf, typeInfo, run_underlying hd, hi1, Result.andThen, Addr.add]
     ·intro q hq; rw [hone q hq, hi3, hj1]; rfl
     ·rw [hfl, hll]
      have := hr.length
      simp only [zlh, List.length_drop, zlr] at this
      omega
     ·rw [hfl, hll]
      have h3 := hr.part (fun _ => rfl) c len
      rw [List.drop_take, List.take_take, List.drop_drop] at h3
      have e1 : off - c + c = off := by omega
      have e2 : min len (cs.length - c) = len := by omega
      rw [e1, e2] at h3
      exact h3
    ·exact (zqd h1).elim
   ·exact (zqd h).elim
  ·exact (zqd h).elim
 ·exact (zqd h).elim
end
end Go.Lf
end

section
namespace Go.Lf
open Go Go.RowKit
theorem yfm : ∀ {xs : List AV} {ns : List Int}, yfn xs = some ns → xs = ns.map fun n => .atom (.int .u8 n)
 | [], ns, h => by injection h with h; subst h; rfl
 | x :: xs, ns, h => by
  unfold yfn at h
  split at h
  ·rename_i e; cases e
  ·rename_i n l e
   injection e with e1 e2
   subst e1 e2
   cases hb : yfn xs with
   | none => rw [hb] at h; cases h
   | some ms =>
    rw [hb] at h
    injection h with h
    subst h
    rw [yfm hb]; rfl
  ·cases h
section
variable {P : Program} {F : Frm} {B0 : Nat} {w0 w w' : World} {S S' : Nat → Prop} {n n' : Nat} {env : Env} {a : Act} {Os : Nat → Own} {cx : Cx} {o : Oper} {Q : Exit → Act → World → Prop} {eff : Eff} {l : List Nat}
theorem ygd : ∀ (ns : List Int), flat (ns.map fun n => (.atom (.int .u8 n) : AV)) = ns.map fun n => .atom (.int .u8 n)
 | [] => rfl
 | n :: ns => by
  have := ygd ns
  unfold flat at *
  rw [List.map_cons, List.flatMap_cons, this]; rfl
theorem yj9 {m : Nat} : ∀ {vs : List Value} {ns : List Int} {O : Own}, Rc (Rv P B0 w S m) vs (ns.map fun n => .atom (.int .u8 n)) O → vs = ns.map (Value.int .u8)
 | vs, [], O, h => by cases h; rfl
 | vs, n :: ns, O, h => by
  cases h with
  | cons h1 h2 _ =>
   obtain ⟨k, rfl⟩ := h1.pos
   rw [h1.1, yj9 h2]; rfl
theorem ynb (hcx : CxOk P cx) (hst : St P F B0 w0 n env a.tmps w S Os) (hn : 0 < n) (hN : (a.tmps.size = cx.N ∧ F.lo = cx.lo)) {src dst : TypeId} {x : Operand} (ho : o.op = .convert src dst x) (h : (ync cx o.dst src dst x).run env = some (l, eff)) : o.wp P a w (Post P F B0 w0 S cx env eff a) Q := by
 unfold ync at h
 cases hs : tyF cx.T src with
 | none => rw [hs] at h; exact (zqd h).elim
 | some i =>
  cases hd : tyF cx.T dst with
  | none => rw [hs, hd] at h; exact (zqd h).elim
  | some j =>
   rw [hs, hd] at h
   simp only at h
   split at h
   ·rename_i k hk
    obtain ⟨p, s, l1, hv1, h1⟩ := zqm h
    obtain ⟨_, _, ds, _, _, _, _, _, hds, _, _, _⟩ := (hcx.ty src i hs).ex
    obtain ⟨_, _, dd, _, _, _, _, _, hdd, _, _, hkk⟩ := (hcx.ty dst j hd).ex
    rw [hk] at hkk
    have hkk' : dd = .int k := hkk
    rw [hkk'] at hdd
    split at h1
    ·rename_i k' m
     refine yar hst hn hN h1 ?_
     rw [execOp, ho]
     have e : (convert src dst (.int k' m)).run P w = .ok (.int k (k.wrap m)) w := by simp [convert, run_underlying hds, run_underlying hdd, Conv.intToInt]
     simp only [hv1.atom hst hn, Sem.run_bind, Sem.run_pure, e, Result.andThen_ok]
    ·exact (zqd h1).elim
   ·rename_i hk
    obtain ⟨_, _, ds, _, _, _, _, _, hds, _, _, hks⟩ := (hcx.ty src i hs).ex
    obtain ⟨_, _, dd, _, _, _, _, _, hdd, _, _, hkk⟩ := (hcx.ty dst j hd).ex
    rw [hk] at hkk
    have hkk' : dd = .string := hkk
    rw [hkk'] at hdd
    split at h
    ·rename_i e hke
     rw [hke] at hks
     have hks' : ds = .slice e := hks
     rw [hks'] at hds
     obtain ⟨hu8, h1⟩ := zqq h
     have he : P.underlying e = some (.int .u8) := by
      cases hte : tyF cx.T e with
      | none => rw [hte] at hu8; cases hu8
      | some ie =>
       rw [hte] at hu8
       obtain ⟨_, _, de, _, _, _, _, _, hde, _, _, hkq⟩ := (hcx.ty e ie hte).ex
       rw [of_decide_eq_true hu8] at hkq
       have hkq' : de = .int .u8 := hkq
       rw [hde, hkq']
     obtain ⟨y, s, l', hv, h2⟩ := zqm h1
     obtain ⟨m, e', cap, xs, l2, h3, ⟨A, k, hvv, hk1, hk2, _, hu, hx⟩, _⟩ := yb9 hst hn hv h2
     simp only at h3
     split at h3
     ·rename_i ns hns
      refine yar hst hn hN h3 ?_
      rw [execOp, ho]
      have hxs := yfm hns
      have e1 : (Conv.bytesToString (.slice A xs.length k)).run P w = .ok (.string (ycd ns)) w := by
       cases ns with
       | nil =>
        have hx0 : xs = [] := by rw [hxs]; rfl
        subst hx0
        cases A with
        | none => rfl
        | some ad =>
         have := run_bytesToString (P := P) w ad 0 k [] (by
          have := run_loadCells_list (P := P) w ad [] (by intro j v hj; cases hj)
          exact this)
         exact this
       | cons n0 ns0 =>
        obtain ⟨g, off, C, T, fr, O1, rfl, hg, hsz, hr, _, _⟩ := hx (by rw [hxs]; simp)
        have hfl : flat xs = (n0 :: ns0).map fun n => .atom (.int .u8 n) := by rw [hxs]; exact ygd _
        rw [hfl] at hr hsz
        have hc := yj9 hr
        have hlen : xs.length = (n0 :: ns0).length := by rw [hxs, zla]
        have hl : (loadCells ⟨g, off, none⟩ xs.length).run P w = .ok ((n0 :: ns0).map (Value.int .u8)).toArray w := by
         have := run_loadCells_list (P := P) w ⟨g, off, none⟩ ((n0 :: ns0).map (Value.int .u8)) (by
          intro j v hj
          rw [zrh, cell_of_row w g _ C T fr hg]
          rw [← hc, List.getElem?_take] at hj
          split at hj
          ·rw [List.getElem?_drop] at hj; simpa using hj
          ·cases hj)
         rwa [zla, ← hlen] at this
        exact run_bytesToString (P := P) w ⟨g, off, none⟩ xs.length k _ hl
      have e2 : (convert src dst (.slice A xs.length k)).run P w = .ok (.string (ycd ns)) w := by
       rw [run_convert_bytes_string w src dst e A xs.length k hds he hdd]; exact e1
      simp only [hvv, Sem.run_bind, Sem.run_pure, e2, Result.andThen_ok]
     ·exact (zqd h3).elim
    ·exact (zqd h).elim
   ·exact (zqd h).elim
end
end Go.Lf
end

section
namespace Go.Lf
open Go Go.RowKit
section
variable {P : Program} {F : Frm} {B0 : Nat} {w0 w w' : World} {S S' : Nat → Prop} {n n' : Nat} {env : Env} {a : Act} {tmps : Array Value} {Os : Nat → Own} {cx : Cx} {o : Oper} {Q : Exit → Act → World → Prop} {eff : Eff} {l : List Nat}
theorem ykd (hcx : CxOk P cx) (hst : St P F B0 w0 n env a.tmps w S Os) (hn : 0 < n) (hN : (a.tmps.size = cx.N ∧ F.lo = cx.lo)) (h : (opP cx o).run env = some (l, eff)) : o.wp P a w (Post P F B0 w0 S cx env eff a) Q := by
 unfold opP at h
 split at h
 ·rename_i x ho; exact ym5 hst hn hN ho h
 ·rename_i x ho; exact yjb hst hn hN ho h
 ·rename_i c x y ho; exact ym4 hst hn hN ho h
 ·rename_i e ho; exact yls hcx hst hn hN ho h
 ·rename_i e x ho; exact yqa hst hn hN ho h
 ·rename_i t ps ho; exact ylr hcx hst hn hN ho h
 ·rename_i t k ps ho; exact ye5 hcx hst hn hN ho h
 ·rename_i t x ho; exact ym7 hcx hst hn hN ho h
 ·rename_i t ad x ho; exact ylm hcx hst hn hN ho h
 ·rename_i op t x y u ho; exact yqb hcx hst hn hN ho h
 ·rename_i op t x ho; exact ytp hst hn hN ho h
 ·rename_i s t x ho; exact ynb hcx hst hn hN ho h
 ·rename_i t x y ho; exact yfs hcx hst hn hN ho h
 ·rename_i t x lo hi mx ho
  split at h
  ·split at h
   ·exact yi6 hcx hst hn hN ho h
   ·exact (zqd h).elim
  ·exact yln hcx hst hn hN ho h
 ·rename_i t x f ho; exact yfu hcx hst hn hN ho h
 ·rename_i t x ix ho; exact yft hcx hst hn hN ho h
 ·rename_i x ix ho; exact yh4 hst hn hN ho h
 ·rename_i x ho; exact yp5 hst hn hN ho h
 ·rename_i t x ix ho; exact ylo hcx hst hn hN ho h
 ·rename_i g first caps ho; exact yg4 hst hn hN ho h
 ·rename_i c ho
  obtain ⟨callee, args, argTypes⟩ := c
  have arr : ∀ {α : Type} {xs : Array α} {ys : List α}, xs.toList = ys → xs = ys.toArray := fun h => by rw [← h]
  split at h
  ·rename_i hc
   simp only at hc h
   subst hc
   split at h
   ·rename_i x t h1 h2
    rw [arr h1, arr h2] at ho
    exact yp8 hcx hst hn hN ho h
   ·exact (zqd h).elim
  ·rename_i hc
   simp only at hc h
   subst hc
   split at h
   ·rename_i x t h1 h2
    rw [arr h1, arr h2] at ho
    exact yp9 hcx hst hn hN ho h
   ·exact (zqd h).elim
  ·rename_i hc
   simp only at hc h
   subst hc
   split at h
   ·rename_i x y t u h1 h2
    rw [arr h1, arr h2] at ho
    exact yjc hcx hst hn hN ho h
   ·exact (zqd h).elim
  ·rename_i hc
   simp only at hc h
   subst hc
   split at h
   ·rename_i x y t u h1 h2
    rw [arr h1, arr h2] at ho
    exact ym9 hcx hst hn hN ho h
   ·exact (zqd h).elim
  ·rename_i hc
   simp only at hc h
   subst hc
   split at h
   ·rename_i x y t u h1 h2
    rw [arr h1, arr h2] at ho
    exact yp7 hst hn hN ho h
   ·exact (zqd h).elim
  ·rename_i hc
   simp only at hc h
   subst hc
   split at h
   ·rename_i x y t u h1 h2
    rw [arr h1, arr h2] at ho
    exact yp6 hst hn hN ho h
   ·exact (zqd h).elim
  ·rename_i f hc
   simp only at hc h
   subst hc
   split at h
   ·rename_i x _ h1
    rw [arr h1] at ho
    exact ylq hcx hst hn hN ho h
   ·exact (zqd h).elim
   ·exact ynd hcx hst hn hN ho rfl h
  ·rename_i g hc
   simp only at hc h
   subst hc
   obtain ⟨l2, h⟩ := yaq h
   split at h
   ·rename_i f hf
    split at h
    ·exact (zqd h).elim
    ·cases hl : lk env g with
     | none => rw [hl] at hf; cases hf
     | some y =>
      rw [hl] at hf
      have hy := yob hf
      subst hy
      exact ylp hcx hst hn hN ho rfl hl h
   ·exact (zqd h).elim
  ·exact (zqd h).elim
 ·exact (zqd h).elim
end
end Go.Lf
end

section
namespace Go.Lf
open Go Go.RowKit
section
variable {P : Program} {F : Frm} {B0 : Nat} {w0 w w' : World} {S S' S0 : Nat → Prop} {n n' : Nat} {env : Env} {a : Act} {tmps : Array Value} {Os : Nat → Own} {cx : Cx} {o : Oper} {Q : Exit → Act → World → Prop} {eff : Eff} {l : List Nat}
theorem St.clear (hst : St P F B0 w0 n env tmps w S Os) (hn : 0 < n) {d : Nat} (hd : d < tmps.size ∧ F.lo ≤ d) (v : Value) :
  St P F B0 w0 n ((d, .bad) :: env) (tmps.setIfInBounds d v) w S (fun t => if t = d then (fun _ => 0) else Os t) := by
 obtain ⟨m, rfl⟩ : ∃ m, n = m + 1 := ⟨n - 1, by omega⟩
 refine hst.set (zly _) d ⟨hd.1, .inl hd.2⟩ (Below.refl _ _) (fun _ h => h) hst.sLt (fun b t _ hb => hst.excl b t hb) (fun _ _ => rfl) (fun _ _ => rfl) (fun _ => Nat.zero_le _) (fun b t _ hb => by omega) (.inr fun _ => rfl) ?_
 intro t y u ht hy hyr hu hal
 refine ⟨rfl, ?_⟩
 have hb : lk ((d, .bad) :: env) d = some .bad := by simp [lk]
 cases y with
 | al r p rng =>
  injection hyr with hyr; subst hyr
  intro xr hxr mm e cap xs hg
  rw [hb] at hxr; injection hxr with hxr; subst hxr
  cases p with
  | nil => cases hg
  | cons ic p => obtain ⟨i, c⟩ := ic; simp [getC, seg] at hg
 | adr r p i c =>
  injection hyr with hyr; subst hyr
  intro xr hxr y hg hy
  rw [hb] at hxr; injection hxr with hxr; subst hxr
  cases p with
  | nil => injection hg with hg; subst hg; cases hy
  | cons ic p => obtain ⟨i, c⟩ := ic; simp [getC, seg] at hg
 | _ => trivial
theorem yem (hst : St P F B0 w0 n env a.tmps w S Os) (hn : 0 < n) (hN : (a.tmps.size = cx.N ∧ F.lo = cx.lo)) (h : (ymk cx o).run env = some (l, eff)) : Post P F B0 w0 S cx env eff a (a.put o.dst undef) w := by
 unfold ymk at h
 split at h
 ·obtain ⟨t, hd, htN, hlr, hws, hkl⟩ := yan h
  obtain ⟨h1, hnr⟩ := hst.readied hn hkl
  rw [hd]
  obtain ⟨m, rfl⟩ : ∃ m, n = m + 1 := ⟨n - 1, by omega⟩
  have hx : Gz P B0 env a.tmps w S (m + 1) undef (.atom undef) := .inr ⟨rfl, fun _ => rfl⟩
  have key := h1.put0 (zly _) (by omega) hnr ((hx.gives hlr).kills eff.kl)
  exact ⟨rfl, by simpa [Act.put] using hN, m + 1, S, _, hn, .refl _ _, by unfold zqi; rw [hws]; exact key⟩
 ·rename_i hd
  rw [hd]
  injection h with h2; injection h2 with _ h2; subst h2
  exact ⟨rfl, hN, n, S, Os, hn, .refl _ _, hst⟩
theorem yj0 (hcx : CxOk P cx) (hst : St P F B0 w0 n env a.tmps w S Os) (hn : 0 < n) (hN : (a.tmps.size = cx.N ∧ F.lo = cx.lo)) {ops : Array Oper} (h : (ybl cx ops o).run env = some (l, eff)) :
  if Region.wanted o (yielded ops a.tmps) then o.wp P a w (Post P F B0 w0 S cx env eff a) Q else Post P F B0 w0 S cx env eff a (a.put o.dst undef) w := by
 unfold ybl at h
 split at h
 ·rename_i hg
  have hw : Region.wanted o (yielded ops a.tmps) = true := by unfold Region.wanted; rw [hg]
  rw [if_pos hw]
  exact ykd hcx hst hn hN h
 ·rename_i j want hg
  split at h
  ·rename_i g hgd
   obtain ⟨l1, h1⟩ := yaq h
   split at h1
   ·rename_i b hlk
    obtain ⟨v, hv, hs⟩ := hst.rel g _ hlk
    have hvb : v = .bool b := by
     obtain ⟨m, rfl⟩ : ∃ m, n = m + 1 := ⟨n - 1, by omega⟩
     exact (hs.rv rfl).1
    subst hvb
    have hy : yielded ops a.tmps j = some b := by unfold yielded; rw [hgd]; simp [hv]
    have hw : Region.wanted o (yielded ops a.tmps) = (bif want then b else !b) := by
     unfold Region.wanted
     rw [hg]
     simp only [hy]
     cases want <;> cases b <;> rfl
    rw [hw]
    simp only [RP.run] at h1
    cases hb : (bif want then b else !b) with
    | true =>
     rw [hb] at h1
     simp only [if_true] at h1 ⊢
     exact ykd hcx hst hn hN h1
    | false =>
     rw [hb] at h1
     simp only [Bool.false_eq_true, if_false] at h1 ⊢
     exact yem hst hn hN h1
   ·rename_i vs hlk
    obtain ⟨v, hv, hs⟩ := hst.rel g _ hlk
    have hvb : v = .tuple vs := by
     obtain ⟨m, rfl⟩ : ∃ m, n = m + 1 := ⟨n - 1, by omega⟩
     exact (hs.rv rfl).1
    subst hvb
    have hy : yielded ops a.tmps j = none := by unfold yielded; rw [hgd]; simp [hv]
    have hw : Region.wanted o (yielded ops a.tmps) = false := by
     unfold Region.wanted
     rw [hg]
     simp only [hy]
     rfl
    rw [hw]
    simp only [Bool.false_eq_true, if_false]
    exact yem hst hn hN h1
   ·exact (zqd h1).elim
  ·exact (zqd h).elim
def Agree (P : Program) (F : Frm) (B0 : Nat) (w0 : World) (S0 : Nat → Prop) (cx : Cx) (ds : List Deferred) (env : Env) (a : Act) (w : World) : Prop :=
 a.defers = ds ∧ (a.tmps.size = cx.N ∧ F.lo = cx.lo) ∧ ∃ n S Os, 0 < n ∧ Grow B0 S0 S ∧ St P F B0 w0 n env a.tmps w S Os
theorem ykt (hcx : CxOk P cx) {ops : Array Oper} {ds : List Deferred} : ∀ (os : List Oper) {env env' : Env} {ls : List Log} {a : Act} {w : World}, ydw cx ops os env = some (ls, env') → Agree P F B0 w0 S0 cx ds env a w →
  (∀ a' w', Agree P F B0 w0 S0 cx ds env' a' w' → Q .normal a' w') → wpList P ops Q os a w
 | [], env, env', ls, a, w, h, hag, hQ => by
  injection h with h; injection h with _ h; subst h
  exact hQ a w hag
 | o :: os, env, env', ls, a, w, h, hag, hQ => by
  obtain ⟨hd, hN, n, S, Os, hn, hgr, hst⟩ := hag
  simp only [ydw] at h
  cases hs : (ybl cx ops o).run env with
  | none => rw [hs] at h; cases h
  | some re =>
   obtain ⟨rs, e⟩ := re
   rw [hs] at h
   simp only at h
   cases hr : ydw cx ops os (zqi e env) with
   | none => rw [hr] at h; cases h
   | some le =>
    obtain ⟨ls', env2⟩ := le
    rw [hr] at h
    injection h with h; injection h with _ h; subst h
    have key := fun Q' => yj0 (Q := Q') hcx hst hn hN hs
    have next : ∀ a' w', Post P F B0 w0 S cx env e a a' w' → wpList P ops Q os a' w' := by
     intro a' w' ⟨h1, h2, n', S', Os', k1, k2, k3⟩
     exact ykt hcx os hr ⟨h1.trans hd, h2, n', S', Os', k1, hgr.trans k2, k3⟩ hQ
    unfold wpList
    have k1 := key Q
    split
    ·rename_i hw
     rw [if_pos hw] at k1
     exact .inl (Oper.wp_mono next k1)
    ·rename_i hw
     rw [if_neg hw] at k1
     exact next _ _ k1
theorem ymv (hcx : CxOk P cx) {id : Nat} {ops : Array Oper} {ds : List Deferred} {env env' : Env} {a : Act} {w : World} (h : ybo cx ops false env = some env') (hag : Agree P F B0 w0 S0 cx ds env a w)
  (hQ : ∀ a' w', Agree P F B0 w0 S0 cx ds env' a' w' → Q .normal a' w') : (Code.region id ops false).wp P Q a w := by
 unfold ybo at h
 have hcx' : CxOk P { cx with dr := false } := ⟨hcx.ty, hcx.eq, hcx.K, hcx.KM, hcx.mixed⟩
 cases he : ydw { cx with dr := false } ops ops.toList env with
 | none => rw [he] at h; cases h
 | some le =>
  obtain ⟨ls, env2⟩ := le
  rw [he] at h
  injection h with h
  have h' : env2 = env' := by simpa using h
  subst h'
  exact wp_region_list (ykt hcx' ops.toList he hag hQ)
end
end Go.Lf
end

section
namespace Go.Lf
open Go Go.RowKit
section
variable {P : Program} {F : Frm} {B0 : Nat} {w0 w w' : World} {S S' S0 : Nat → Prop} {n n' : Nat} {env env' : Env} {a : Act} {tmps : Array Value} {Os : Nat → Own} {cx : Cx} {o : Oper} {Q : Exit → Act → World → Prop} {eff : Eff} {l : List Nat}
theorem yew {x : AV} (k : Wk) (hx : zqu x = true) : weaken k x = x ∨ ∃ m e cap xs, x = .sl m e cap xs ∧ weaken k x = .sl m e none xs := by
 cases x with
 | sl m e cap xs =>
  cases k with
  | keep => exact .inl rfl
  | forget => exact .inr ⟨m, e, cap, xs, rfl, rfl⟩
  | nilTo e' => exact .inr ⟨m, e, cap, xs, rfl, rfl⟩
 | atom v => simp [zqu] at hx
 | _ => cases k <;> exact .inl rfl
theorem ygm {x : AV} (k : Wk) (hx : zqf x = none) : zqf (weaken k x) = none := by
 unfold weaken
 split <;> first | rfl | exact hx
theorem Rv.weaken {v : Value} {x : AV} {O : Own} (k : Wk) (h : Rv P B0 w S n v x O) : Rv P B0 w S n v (Lf.weaken k x) O := by
 obtain ⟨m, rfl⟩ := h.pos
 have sl : ∀ {mm : Mode} {e : TypeId} {cap : Option Nat} {xs : List AV}, Rv P B0 w S (m + 1) v (.sl mm e cap xs) O → Rv P B0 w S (m + 1) v (.sl mm e none xs) O := by
  intro mm e cap xs h
  cases mm with
  | own => obtain ⟨vs, O', h1, _, h2, h3, h4⟩ := h; exact ⟨vs, O', h1, trivial, h2, h3, h4⟩
  | fresh => obtain ⟨A, c, h1, h2, h3, _, h4⟩ := h; exact ⟨A, c, h1, h2, h3, trivial, h4⟩
  | any => obtain ⟨A, c, h1, h2, h3, _, h4⟩ := h; exact ⟨A, c, h1, h2, h3, trivial, h4⟩
 unfold Lf.weaken
 split
 ·exact h
 ·exact sl h
 ·obtain ⟨rfl, hz⟩ := h
  exact ⟨[], fun _ => 0, World.ownsRow_nil w B0 _ _, trivial, fun x hx => by simp at hx, .nil fun _ => rfl, fun b => by simp [Value.ownBlock, ind, hz b]⟩
 ·exact sl h
 ·exact h
theorem Al.weak {v : Value} {x y : AV} {r : Nat} (k : Wk) (h : Al P env tmps w v y) (hr : zqf y = some r) (hx : lk env r = some x) (hxr : zqu x = true) (hx' : lk env' r = some (weaken k x)) : Al P env' tmps w v y := by
 rcases yew k hxr with hw | ⟨m0, e0, cap0, xs0, rfl, hw⟩
 ·rw [hw] at hx'
  exact h.keep hr (hx'.trans hx.symm) rfl fun _ _ _ _ _ _ h => h
 ·rw [hw] at hx'
  have hseg : ∀ i c n, seg (.sl m0 e0 none xs0) i c n = seg (.sl m0 e0 cap0 xs0) i c n := by intro i c n; cases m0 <;> rfl
  have hget : ∀ i c p, getC (.sl m0 e0 none xs0) ((i, c) :: p) = getC (.sl m0 e0 cap0 xs0) ((i, c) :: p) := by intro i c p; unfold getC; rw [hseg]
  have hch : ∀ i c u, ybn P w (.sl m0 e0 none xs0) i c u = ybn P w (.sl m0 e0 cap0 xs0) i c u := by intro i c u; cases u <;> rfl
  have hLV : ∀ u p, LV P w u (.sl m0 e0 none xs0) p = LV P w u (.sl m0 e0 cap0 xs0) p := by
   intro u p
   cases p with
   | nil => rfl
   | cons ic p => obtain ⟨i, c⟩ := ic; unfold LV; rw [hseg, hch]
  cases y with
  | al r' p rng =>
   injection hr with hr; subst hr
   intro xr hxr' m e cap xs hg hpm
   rw [hx'] at hxr'; injection hxr' with hxr'; subst hxr'
   cases p with
   | nil =>
    injection hg with hg; injection hg with h1 h2 h3 h4; subst h1 h2 h4
    obtain ⟨vr, u, a1, a2, a3⟩ := h _ hx _ _ cap0 _ rfl (.inl rfl)
    exact ⟨vr, u, a1, by rw [hLV]; exact a2, a3⟩
   | cons ic p =>
    obtain ⟨i, c⟩ := ic
    rw [hget] at hg
    obtain ⟨vr, u, a1, a2, a3⟩ := h _ hx _ _ _ _ hg hpm
    exact ⟨vr, u, a1, by rw [hLV]; exact a2, a3⟩
  | adr r' p i c =>
   injection hr with hr; subst hr
   intro xr hxr' y hg ho
   rw [hx'] at hxr'; injection hxr' with hxr'; subst hxr'
   cases p with
   | nil =>
    injection hg with hg; subst hg
    have ho' : yab (.sl m0 e0 cap0 xs0) = true := by cases m0 <;> first | rfl | cases ho
    obtain ⟨vr, u, q, a1, a2, a3, a4⟩ := h _ hx _ rfl ho'
    exact ⟨vr, u, q, a1, by rw [hLV]; exact a2, a3, a4⟩
   | cons ic p =>
    obtain ⟨i', c'⟩ := ic
    rw [hget] at hg
    obtain ⟨vr, u, q, a1, a2, a3, a4⟩ := h _ hx _ hg ho
    exact ⟨vr, u, q, a1, by rw [hLV]; exact a2, a3, a4⟩
  | _ => cases hr
def yel (ks : List (Nat × Wk)) (k : Wk) (x : AV) : AV :=
 match zqf x with
 | some r => if ks.any fun q => q.1 == r then x else .bad
 | none => weaken k x
theorem yza (G : Nat × Wk → AV → AV) (env : Env) (t : Nat) : ∀ ks : List (Nat × Wk),
  (lk (ks.filterMap fun k => (lk env k.1).map fun x => (k.1, G k x)) t = none ∧ (lk env t = none ∨ ∀ k ∈ ks, k.1 ≠ t)) ∨
  ∃ k x, lk env t = some x ∧ lk (ks.filterMap fun k => (lk env k.1).map fun x => (k.1, G k x)) t = some (G k x)
 | [] => .inl ⟨rfl, .inr fun _ h => by simp at h⟩
 | k :: ks => by
  have ih := yza G env t ks
  rw [List.filterMap_cons]
  cases hx : lk env k.1 with
  | none =>
   simp only [Option.map_none]
   rcases ih with ⟨h1, h2⟩ | h
   ·refine .inl ⟨h1, ?_⟩
    rcases h2 with h2 | h2
    ·exact .inl h2
    ·by_cases hk : k.1 = t
     ·exact .inl (by rw [← hk]; exact hx)
     ·refine .inr fun q hq => ?_
      rcases List.mem_cons.1 hq with rfl | hq
      ·exact hk
      ·exact h2 q hq
   ·exact .inr h
  | some x =>
   simp only [Option.map_some, lk]
   by_cases hk : k.1 = t
   ·rw [if_pos hk]
    exact .inr ⟨k, x, by rw [← hk]; exact hx, rfl⟩
   ·rw [if_neg hk]
    rcases ih with ⟨h1, h2⟩ | h
    ·refine .inl ⟨h1, h2.imp id fun h2 q hq => ?_⟩
     rcases List.mem_cons.1 hq with rfl | hq
     ·exact hk
     ·exact h2 q hq
    ·exact .inr h
theorem yeq (ks : List (Nat × Wk)) (env : Env) (t : Nat) :
  (lk (keepE ks env) t = none ∧ (lk env t = none ∨ ∀ k ∈ ks, k.1 ≠ t)) ∨ ∃ k x, lk env t = some x ∧ lk (keepE ks env) t = some (yel ks k x) := by
 rcases yza (fun k x => yel ks k.2 x) env t ks with h | ⟨k, x, h1, h2⟩
 ·exact .inl h
 ·exact .inr ⟨k.2, x, h1, h2⟩
theorem St.keepE (hst : St P F B0 w0 n env tmps w S Os) (hn : 0 < n) (ks : List (Nat × Wk)) : ∃ Os', St P F B0 w0 n (Lf.keepE ks env) tmps w S Os' := by
 refine ⟨fun t => match lk (Lf.keepE ks env) t with | some _ => Os t | none => fun _ => 0, hst.below, hst.b0, hst.sLt, ?_, ?_, ?_, ?_, ?_, ?_, hst.keep, hst.pin⟩
 ·intro b t hb
  show (match lk (Lf.keepE ks env) t with | some _ => Os t | none => fun _ => 0) b = 0
  cases lk (Lf.keepE ks env) t
  ·rfl
  ·exact hst.excl b t hb
 ·intro t b
  show (match lk (Lf.keepE ks env) t with | some _ => Os t | none => fun _ => 0) b ≤ 1
  cases lk (Lf.keepE ks env) t
  ·exact Nat.zero_le _
  ·exact hst.one t b
 ·intro t t' b hne
  show (match lk (Lf.keepE ks env) t with | some _ => Os t | none => fun _ => 0) b = 0 ∨ (match lk (Lf.keepE ks env) t' with | some _ => Os t' | none => fun _ => 0) b = 0
  rcases hst.dis t t' b hne with h | h
  ·left; cases lk (Lf.keepE ks env) t <;> first | exact h | rfl
  ·right; cases lk (Lf.keepE ks env) t' <;> first | exact h | rfl
 ·intro t y hy
  simp only [hy]
  rcases yeq ks env t with ⟨h1, _⟩ | ⟨k, x, hx, h1⟩
  ·rw [h1] at hy; cases hy
  ·rw [h1] at hy; injection hy with hy; subst hy
   obtain ⟨v, hv, hs⟩ := hst.rel t x hx
   refine ⟨v, hv, ?_⟩
   rcases hs with ⟨hlf, ha, hz⟩ | hs
   ·cases hr : zqf x with
    | none => exact absurd hr hlf
    | some r =>
     unfold yel
     rw [hr]
     simp only
     split
     ·rename_i hany
      obtain ⟨z, hz1, hz2⟩ := hst.leaf t x r hx hr
      have hzl : zqf z = none := by cases z <;> first | rfl | simp [zqu] at hz2
      obtain ⟨q, hq, hqr⟩ := List.any_eq_true.1 hany
      have hqr' : q.1 = r := by simpa using hqr
      rcases yeq ks env r with ⟨_, h2⟩ | ⟨k', x', hx', h2⟩
      ·rcases h2 with h2 | h2
       ·rw [hz1] at h2; cases h2
       ·exact absurd hqr' (h2 q hq)
      ·rw [hz1] at hx'; injection hx' with hx'; subst hx'
       have h3 : yel ks k' z = weaken k' z := by unfold yel; rw [hzl]
       rw [h3] at h2
       exact .inl ⟨by rw [hr]; simp, ha.weak k' hr hz1 hz2 h2, hz⟩
     ·obtain ⟨m, rfl⟩ : ∃ m, n = m + 1 := ⟨n - 1, by omega⟩
      exact .inr hz
   ·have h3 : yel ks k x = weaken k x := by unfold yel; rw [hs.noLeaf]
    rw [h3]
    exact .inr (hs.weaken k)
 ·intro t ht
  simp only [ht]
  exact fun _ => rfl
 ·intro t y r hy hyr
  rcases yeq ks env t with ⟨h1, _⟩ | ⟨k, x, hx, h1⟩
  ·rw [h1] at hy; cases hy
  ·rw [h1] at hy; injection hy with hy; subst hy
   cases hr : zqf x with
   | none =>
    have h3 : yel ks k x = weaken k x := by unfold yel; rw [hr]
    rw [h3, ygm k hr] at hyr
    cases hyr
   | some r' =>
    unfold yel at hyr
    rw [hr] at hyr
    simp only at hyr
    split at hyr
    ·rename_i hany
     rw [hr] at hyr; injection hyr with hyr; subst hyr
     obtain ⟨z, hz1, hz2⟩ := hst.leaf t x r' hx hr
     have hzl : zqf z = none := by cases z <;> first | rfl | simp [zqu] at hz2
     obtain ⟨q, hq, hqr⟩ := List.any_eq_true.1 hany
     have hqr' : q.1 = r' := by simpa using hqr
     rcases yeq ks env r' with ⟨_, h2⟩ | ⟨k', x', hx', h2⟩
     ·rcases h2 with h2 | h2
      ·rw [hz1] at h2; cases h2
      ·exact absurd hqr' (h2 q hq)
     ·rw [hz1] at hx'; injection hx' with hx'; subst hx'
      have h3 : yel ks k' z = weaken k' z := by unfold yel; rw [hzl]
      refine ⟨_, h2, ?_⟩
      rw [h3]
      rcases yew k' hz2 with h | ⟨_, _, _, _, _, h⟩
      ·rw [h]; exact hz2
      ·rw [h]; rfl
    ·cases hyr
theorem Agree.keepE {ds : List Deferred} (h : Agree P F B0 w0 S0 cx ds env a w) (ks : List (Nat × Wk)) : Agree P F B0 w0 S0 cx ds (Lf.keepE ks env) a w := by
 obtain ⟨h1, h2, n, S, Os, hn, hgr, hst⟩ := h
 obtain ⟨Os', hst'⟩ := hst.keepE hn ks
 exact ⟨h1, h2, n, S, Os', hn, hgr, hst'⟩
end
end Go.Lf
end

section
namespace Go.Lf
open Go Go.RowKit
section
variable {P : Program} {F : Frm} {B0 : Nat} {w0 w w' : World} {S S' S0 : Nat → Prop} {n n' : Nat} {env env' : Env} {a : Act} {tmps : Array Value} {Os : Nat → Own} {cx : Cx} {o : Oper} {eff : Eff} {l : List Nat} {ds : List Deferred}
def Ex.out : Ex → Exit
 | .normal => .normal
 | .exit id => .exit id
 | .ret => .ret
def RegOk (P : Program) (F : Frm) (B0 : Nat) (w0 : World) (S0 : Nat → Prop) (cx : Cx) (ds : List Deferred) : Prop :=
 ∀ (id : Nat) (ops : Array Oper) (draw : Bool) (env env' : Env) (a : Act) (w : World) (Q : Exit → Act → World → Prop), ybo cx ops draw env = some env' → Agree P F B0 w0 S0 cx ds env a w →
  (∀ a' w', Agree P F B0 w0 S0 cx ds env' a' w' → Q .normal a' w') → (Code.region id ops draw).wp P Q a w
theorem Agree.bool {t : Nat} {b : Bool} (h : Agree P F B0 w0 S0 cx ds env a w) (ht : lk env t = some (.atom (.bool b))) : a.eval (.tmp t) = .bool b := by
 obtain ⟨_, _, n, S, Os, hn, _, hst⟩ := h
 have hv : Vl env (.tmp t) (.atom (.bool b)) (some t) := ⟨ht, rfl⟩
 exact hv.atom hst hn
theorem ysh (hreg : RegOk P F B0 w0 S0 cx ds) (H : Hints) (fuel : Nat) : ∀ (c : Code) {env env' : Env} {ex : Ex} {a : Act} {w : World} {Q : Exit → Act → World → Prop}, evC cx H fuel c env = some (ex, env') → Agree P F B0 w0 S0 cx ds env a w →
  (∀ a' w', Agree P F B0 w0 S0 cx ds env' a' w' → Q ex.out a' w') → c.wp P Q a w := by
 intro c
 induction c with
 | skip =>
  intro env env' ex a w Q h hag hQ
  injection h with h; injection h with h1 h2; subst h1 h2
  exact wp_skip (hQ a w hag)
 | label lb =>
  intro env env' ex a w Q h hag hQ
  injection h with h; injection h with h1 h2; subst h1 h2
  exact wp_label (hQ a w hag)
 | exit id =>
  intro env env' ex a w Q h hag hQ
  injection h with h; injection h with h1 h2; subst h1 h2
  exact wp_exit (hQ a w hag)
 | ret =>
  intro env env' ex a w Q h hag hQ
  injection h with h; injection h with h1 h2; subst h1 h2
  exact wp_ret (hQ a w hag)
 | region id ops draw =>
  intro env env' ex a w Q h hag hQ
  simp only [evC] at h
  cases hr : ybo cx ops draw env with
  | none => rw [hr] at h; cases h
  | some e =>
   rw [hr] at h
   injection h with h; injection h with h1 h2; subst h1 h2
   exact hreg id ops draw env e a w Q hr hag fun a' w' hag' => hQ a' w' (hag'.keepE _)
 | seq x y ihx ihy =>
  intro env env' ex a w Q h hag hQ
  simp only [evC] at h
  cases hx : evC cx H fuel x env with
  | none => rw [hx] at h; cases h
  | some xe =>
   obtain ⟨ex1, e1⟩ := xe
   rw [hx] at h
   refine wp_seq ?_
   cases ex1 with
   | normal => exact ihx hx hag fun a' w' hag' => ihy h hag' hQ
   | exit id =>
    injection h with h; injection h with h1 h2; subst h1 h2
    exact ihx hx hag fun a' w' hag' => hQ a' w' hag'
   | ret =>
    injection h with h; injection h with h1 h2; subst h1 h2
    exact ihx hx hag fun a' w' hag' => hQ a' w' hag'
 | cond c x y ihx ihy =>
  intro env env' ex a w Q h hag hQ
  cases c with
  | tmp t =>
   simp only [evC] at h
   split at h
   ·rename_i b hlk
    refine wp_cond (hag.bool hlk) ?_
    cases b with
    | true => exact ihx h hag hQ
    | false => exact ihy h hag hQ
   ·cases h
  | _ => cases h
 | block id c ih =>
  intro env env' ex a w Q h hag hQ
  simp only [evC] at h
  cases hx : evC cx H fuel c env with
  | none => rw [hx] at h; cases h
  | some xe =>
   obtain ⟨ex1, e1⟩ := xe
   rw [hx] at h
   refine wp_block (ih hx hag fun a' w' hag' => ?_)
   cases ex1 with
   | normal =>
    injection h with h; injection h with h1 h2; subst h1 h2
    exact hQ a' w' hag'
   | exit id' =>
    simp only [yk4] at h
    show if id' = id then Q .normal a' w' else Q (.exit id') a' w'
    split at h
    ·rename_i he
     injection h with h; injection h with h1 h2; subst h1 h2
     rw [if_pos he]
     exact hQ a' w' hag'
    ·rename_i he
     injection h with h; injection h with h1 h2; subst h1 h2
     rw [if_neg he]
     exact hQ a' w' hag'
   | ret =>
    injection h with h; injection h with h1 h2; subst h1 h2
    exact hQ a' w' hag'
 | loop c ih =>
  intro env env' ex a w Q h hag hQ
  simp only [evC] at h
  refine wp_loop_rounds fuel ?_
  clear hreg
  revert h
  generalize hk : H.loop (yby c) = ks
  have key : ∀ (m : Nat) {env : Env} {a : Act} {w : World}, iter (keepE ks) (evC cx H fuel c) m env = some (ex, env') → Agree P F B0 w0 S0 cx ds env a w → Code.rounds P c Q m a w := by
   intro m
   induction m with
   | zero => intro env a w h; cases h
   | succ m ihm =>
    intro env a w h hag
    simp only [iter] at h
    rw [rounds_succ]
    cases hx : evC cx H fuel c (keepE ks env) with
    | none => rw [hx] at h; cases h
    | some xe =>
     obtain ⟨ex1, e1⟩ := xe
     rw [hx] at h
     cases ex1 with
     | normal => exact ih hx (hag.keepE ks) fun a' w' hag' => ihm h hag'
     | exit id =>
      injection h with h; injection h with h1 h2; subst h1 h2
      exact ih hx (hag.keepE ks) fun a' w' hag' => hQ a' w' hag'
     | ret =>
      injection h with h; injection h with h1 h2; subst h1 h2
      exact ih hx (hag.keepE ks) fun a' w' hag' => hQ a' w' hag'
  intro h
  exact key fuel h hag
 | _ => intro env env' ex a w Q h; cases h
end
end Go.Lf
end

section
namespace Go.Lf
open Go Go.RowKit
theorem yao (ws env : Env) (t : Nat) : lk (ws ++ env) t = match lk ws t with | some x => some x | none => lk env t := by
 induction ws with
 | nil => rfl
 | cons q ws ih =>
  obtain ⟨k, x⟩ := q
  simp only [List.cons_append, lk]
  by_cases hk : k = t
  ·rw [if_pos hk, if_pos hk]
  ·rw [if_neg hk, if_neg hk, ih]
theorem yud {ws : Env} {t : Nat} (h : t ∉ ws.map (·.1)) : lk ws t = none := by
 induction ws with
 | nil => rfl
 | cons q ws ih =>
  obtain ⟨k, x⟩ := q
  simp only [List.map_cons, List.mem_cons, not_or] at h
  simp only [lk]
  rw [if_neg (fun e => h.1 e.symm), ih h.2]
theorem yfw (kl : List (Nat × Bool)) : ∀ {env env' : Env} {t : Nat}, lk env t = lk env' t → lk (kills kl env) t = lk (kills kl env') t := by
 induction kl with
 | nil => intro env env' t h; exact h
 | cons q kl ih =>
  intro env env' t h
  obtain ⟨r, k⟩ := q
  first
   | exact ih (by rw [ya5, ya5, h])
   | (show lk (kill r k (kills kl env)) t = lk (kill r k (kills kl env')) t; rw [ya5, ya5, ih h])
theorem ybi (e : Eff) {env env' : Env} {t : Nat} (h : lk env t = lk env' t) : lk (zqi e env) t = lk (zqi e env') t := by
 unfold zqi
 rw [yao, yao, yfw e.kl h]
def keys (e : Eff) : List Nat := e.ws.map (·.1)
def Quiet (e : Eff) (t : Nat) : Prop := e.kl = [] ∧ t ∉ keys e
theorem Quiet.lk {e : Eff} {t : Nat} (h : Quiet e t) (env : Env) : Lf.lk (zqi e env) t = Lf.lk env t := by
 unfold zqi
 rw [yao, yud h.2, h.1]
 rfl
def Indep (e e' : Eff) : Prop := e.kl = [] ∧ e'.kl = [] ∧ ∀ t ∈ keys e, t ∉ keys e'
theorem Indep.swap {e e' : Eff} (h : Indep e e') (env : Env) (t : Nat) : lk (zqi e' (zqi e env)) t = lk (zqi e (zqi e' env)) t := by
 obtain ⟨h1, h2, h3⟩ := h
 by_cases hk : t ∈ keys e
 ·have hq : Quiet e' t := ⟨h2, h3 t hk⟩
  rw [hq.lk]
  exact ybi e (hq.lk env).symm
 ·have hq : Quiet e t := ⟨h1, hk⟩
  rw [hq.lk]
  exact ybi e' (hq.lk env)
def yat (D : Nat → Bool) : Nat → List (List Nat × Eff) → Env → Env
 | _, [], env => env
 | k, x :: es, env => yat D (k + 1) es (if D k = true then zqi x.2 env else env)
theorem yaz {D D' : Nat → Bool} {t : Nat} : ∀ (es : List (List Nat × Eff)) (k : Nat) {env env' : Env}, (∀ j x, es[j]? = some x → D (k + j) ≠ D' (k + j) → Quiet x.2 t) → lk env t = lk env' t → lk (yat D k es env) t = lk (yat D' k es env') t
 | [], _, _, _, _, h => h
 | x :: es, k, env, env', hq, h => by
  simp only [yat]
  refine yaz es (k + 1) (fun j y hy hne => hq (j + 1) y (by simpa using hy) (by simpa [Nat.add_assoc, Nat.add_comm 1] using hne)) ?_
  by_cases hd : D k = D' k
  ·rw [hd]
   split
   ·exact ybi x.2 h
   ·exact h
  ·have hx := hq 0 x rfl (by simpa using hd)
   cases h1 : D k <;> cases h2 : D' k
   ·exact absurd (h1.trans h2.symm) hd
   ·simp only [Bool.false_eq_true, if_false, if_true]; rw [hx.lk]; exact h
   ·simp only [Bool.false_eq_true, if_false, if_true]; rw [hx.lk]; exact h
   ·exact absurd (h1.trans h2.symm) hd
theorem yjg {D : Nat → Bool} {t : Nat} (es : List (List Nat × Eff)) (k : Nat) {env env' : Env} (h : lk env t = lk env' t) : lk (yat D k es env) t = lk (yat D k es env') t :=
 yaz es k (fun _ _ _ hne => absurd rfl hne) h
theorem ygb {D : Nat → Bool} (e : Eff) (t : Nat) : ∀ (es : List (List Nat × Eff)) (k : Nat) (env : Env), (∀ j x, es[j]? = some x → D (k + j) = true → Indep e x.2) → lk (yat D k es (zqi e env)) t = lk (zqi e (yat D k es env)) t
 | [], _, _, _ => rfl
 | x :: es, k, env, h => by
  have ih := fun env => ygb e t es (k + 1) env fun j y hy hd => h (j + 1) y (by simpa using hy) (by simpa [Nat.add_assoc, Nat.add_comm 1] using hd)
  simp only [yat]
  cases hd : D k with
  | false => simp only [Bool.false_eq_true, if_false]; exact ih env
  | true =>
   simp only [if_true]
   rw [← ih]
   exact yjg es (k + 1) ((h 0 x rfl (by simpa using hd)).swap env t)
theorem yff {D : Nat → Bool} {i : Nat} (t : Nat) : ∀ (es : List (List Nat × Eff)) (k m : Nat) (env : Env) (x : List Nat × Eff), es[m]? = some x → i = k + m → D i = false → (∀ j y, m < j → es[j]? = some y → D (k + j) = true → Indep x.2 y.2) →
  lk (yat (fun j => D j || j == i) k es env) t = lk (zqi x.2 (yat D k es env)) t
 | [], _, _, _, _, h, _, _, _ => by simp at h
 | y :: es, k, 0, env, x, h, hi, hd, hj => by
  have hyx : y = x := by simpa using h
  subst hyx
  have hk : i = k := by simpa using hi
  subst hk
  simp only [yat, beq_self_eq_true, Bool.or_true, if_true, hd, Bool.false_eq_true, if_false]
  rw [← ygb y.2 t es (i + 1) env fun j z hz hdz => hj (j + 1) z (by omega) (by simpa using hz) (by simpa [Nat.add_assoc, Nat.add_comm 1] using hdz)]
  refine yaz es (i + 1) (fun j z _ hne => absurd ?_ hne) rfl
  have : (i + 1 + j == i) = false := by simp; omega
  rw [this, Bool.or_false]
 | y :: es, k, m + 1, env, x, h, hi, hd, hj => by
  have hki : (k == i) = false := by simp; omega
  simp only [yat, hki, Bool.or_false]
  exact yff t es (k + 1) m _ x (by simpa using h) (by omega) hd fun j z hlt hz hdz => hj (j + 1) z (by omega) (by simpa using hz) (by simpa [Nat.add_assoc, Nat.add_comm 1] using hdz)
theorem ycu (D : Nat → Bool) : ∀ (es : List (List Nat × Eff)) (k : Nat) (env : Env), (∀ j, k ≤ j → D j = false) → yat D k es env = env
 | [], _, _, _ => rfl
 | x :: es, k, env, h => by
  simp only [yat, h k (zly _), Bool.false_eq_true, if_false]
  exact ycu D es (k + 1) env fun j hj => h j (by omega)
theorem yct (i : Nat) : ∀ (es : List (List Nat × Eff)) (k : Nat) (env : Env), yat (fun j => decide (j < k + i)) k es env = (es.take i).foldl (fun env x => zqi x.2 env) env := by
 induction i with
 | zero => intro es k env; simp only [List.take_zero, List.foldl_nil]; exact ycu _ es k env fun j hj => by simp; omega
 | succ i ih =>
  intro es k env
  cases es with
  | nil => rfl
  | cons x es =>
   have : (decide (k < k + (i + 1))) = true := by simp
   simp only [yat, this, if_true, List.take_succ_cons, List.foldl_cons]
   rw [← ih]
   have e : k + (i + 1) = k + 1 + i := by omega
   rw [e]
theorem RP.local {α : Type} {env env' : Env} : ∀ {p : RP α} {l : List Nat} {r : α}, p.run env = some (l, r) → (∀ t, 2 * t ∈ l → lk env' t = lk env t) → (∀ t, 2 * t + 1 ∈ l → (lk env' t).map hdAV = (lk env t).map hdAV) → p.run env' = some (l, r) := by
 intro p
 induction p with
 | ret a => intro l r h _ _; exact h
 | fail => intro l r h _ _; cases h
 | read t k ih =>
  intro l r h hl hh
  simp only [RP.run] at h ⊢
  cases hr : (k (lk env t)).run env with
  | none => rw [hr] at h; cases h
  | some la =>
   obtain ⟨l1, a⟩ := la
   rw [hr] at h
   injection h with h; injection h with h1 h2; subst h1 h2
   rw [hl t List.mem_cons_self, ih _ hr (fun q hq => hl q (List.mem_cons_of_mem _ hq)) (fun q hq => hh q (List.mem_cons_of_mem _ hq))]
 | head t k ih =>
  intro l r h hl hh
  simp only [RP.run] at h ⊢
  cases hr : (k ((lk env t).map hdAV)).run env with
  | none => rw [hr] at h; cases h
  | some la =>
   obtain ⟨l1, a⟩ := la
   rw [hr] at h
   injection h with h; injection h with h1 h2; subst h1 h2
   rw [hh t List.mem_cons_self, ih _ hr (fun q hq => hl q (List.mem_cons_of_mem _ hq)) (fun q hq => hh q (List.mem_cons_of_mem _ hq))]
 | br b p q ihp ihq =>
  intro l r h hl hh
  simp only [RP.run] at h ⊢
  split
  ·rename_i hb; rw [if_pos hb] at h; exact ihp h hl hh
  ·rename_i hb; rw [if_neg hb] at h; exact ihq h hl hh
 | el x k ih =>
  intro l r h hl hh
  exact ih x h hl hh
def atE (es : List (List Nat × Eff)) (i : Nat) (env : Env) : Env := (es.take i).foldl (fun env x => zqi x.2 env) env
theorem yfk {cx : Cx} {ops : Array Oper} : ∀ {os : List Oper} {env env' : Env} {ls : List Log}, ydw cx ops os env = some (ls, env') →
  ∃ es : List (List Nat × Eff), es.length = os.length ∧ ls.length = es.length ∧ (∀ i x, es[i]? = some x → ls[i]? = some (yax (atE es i env) x.1 x.2)) ∧ env' = es.foldl (fun env x => zqi x.2 env) env ∧
   ∀ i o, os[i]? = some o → ∃ x, es[i]? = some x ∧ (ybl cx ops o).run (atE es i env) = some x
 | [], env, env', ls, h => by
  injection h with h; injection h with h1 h2; subst h1 h2
  exact ⟨[], rfl, rfl, fun i x h => by simp at h, rfl, fun i o h => by simp at h⟩
 | o :: os, env, env', ls, h => by
  simp only [ydw] at h
  cases hs : (ybl cx ops o).run env with
  | none => rw [hs] at h; cases h
  | some re =>
   obtain ⟨rs, e⟩ := re
   rw [hs] at h
   simp only at h
   cases hr : ydw cx ops os (zqi e env) with
   | none => rw [hr] at h; cases h
   | some le =>
    obtain ⟨ls', env2⟩ := le
    rw [hr] at h
    injection h with h; injection h with h1 h2; subst h1 h2
    obtain ⟨es, e1, e0, e2, e3, e4⟩ := yfk hr
    refine ⟨(rs, e) :: es, by simp [e1], by simp [e0], fun i x hx => ?_, by simpa using e3, fun i o' hi => ?_⟩
    ·cases i with
     | zero =>
      have : (rs, e) = x := by simpa using hx
      subst this
      rfl
     | succ i => exact e2 i x (by simpa using hx)
    ·cases i with
     | zero =>
      have : o = o' := by simpa using hi
      subst this
      exact ⟨(rs, e), rfl, hs⟩
     | succ i => exact e4 i o' (by simpa using hi)
def Full (env : Env) (e : Eff) (t : Nat) : Prop := e.kl ≠ [] ∨ ∃ q ∈ e.ws, q.1 = t ∧ yde env q = false
theorem yep {e : Eff} {t : Nat} : t ∈ keys e ↔ ∃ q ∈ e.ws, q.1 = t := by simp [keys]
theorem yd3 {env : Env} {l : List Nat} {e : Eff} {t : Nat} : t ∈ (yax env l e).writes ↔ ∃ q ∈ e.ws, q.1 = t ∧ yde env q = false := by
 simp only [yax, List.mem_map, List.mem_filter]
 constructor
 ·rintro ⟨q, ⟨h1, h2⟩, h3⟩; exact ⟨q, h1, h3, by simpa using h2⟩
 ·rintro ⟨q, h1, h2, h3⟩; exact ⟨q, ⟨h1, by simpa using h3⟩, h2⟩
theorem yyp {env : Env} {l : List Nat} {e : Eff} {t : Nat} : t ∈ (yax env l e).cw ↔ ∃ q ∈ e.ws, q.1 = t ∧ yde env q = true := by
 simp only [yax, List.mem_map, List.mem_filter]
 constructor
 ·rintro ⟨q, ⟨h1, h2⟩, h3⟩; exact ⟨q, h1, h3, h2⟩
 ·rintro ⟨q, h1, h2, h3⟩; exact ⟨q, ⟨h1, h3⟩, h2⟩
theorem ydp {env : Env} {l : List Nat} {e : Eff} {t : Nat} (h : t ∈ keys e) : t ∈ (yax env l e).writes ∨ t ∈ (yax env l e).cw := by
 obtain ⟨q, h1, h2⟩ := yep.1 h
 cases hw : yde env q with
 | true => exact .inr (yyp.2 ⟨q, h1, h2, hw⟩)
 | false => exact .inl (yd3.2 ⟨q, h1, h2, hw⟩)
theorem yal {env env' : Env} {r r' : List Nat} {e e' : Eff} (h : yio (yax env r e) (yax env' r' e') = false) :
  Indep e e' ∧ Indep e' e ∧ (∀ t, 2 * t ∈ r → Quiet e' t) ∧ (∀ t, 2 * t ∈ r' → Quiet e t) ∧ (∀ t, 2 * t + 1 ∈ r → ¬ Full env' e' t) ∧ (∀ t, 2 * t + 1 ∈ r' → ¬ Full env e t) ∧ e.kl = [] ∧ e'.kl = [] := by
 simp only [yio, Bool.or_eq_false_iff] at h
 obtain ⟨⟨⟨⟨⟨h1, h2⟩, h3⟩, h4⟩, h5⟩, h6⟩ := h
 have k1 : e.kl = [] := by cases hk : e.kl <;> simp [hk, yax] at h1 ⊢
 have k2 : e'.kl = [] := by cases hk : e'.kl <;> simp [hk, yax] at h2 ⊢
 have m3 : ∀ t ∈ (yax env r e).writes, 2 * t ∉ r' ∧ 2 * t + 1 ∉ r' ∧ t ∉ keys e' := by
  intro t ht
  have h := List.any_eq_false.1 h3 t ht
  simp only [Bool.or_eq_true, not_or, List.contains_iff_mem] at h
  obtain ⟨⟨⟨a1, a2⟩, a3⟩, a4⟩ := h
  exact ⟨a1, a2, fun hk => (ydp (env := env') (l := r') hk).elim a3 a4⟩
 have m4 : ∀ t ∈ (yax env r e).cw, 2 * t ∉ r' ∧ t ∉ keys e' := by
  intro t ht
  have h := List.any_eq_false.1 h4 t ht
  simp only [Bool.or_eq_true, not_or, List.contains_iff_mem] at h
  obtain ⟨⟨a1, a3⟩, a4⟩ := h
  exact ⟨a1, fun hk => (ydp (env := env') (l := r') hk).elim a3 a4⟩
 have m5 : ∀ t ∈ (yax env' r' e').writes, 2 * t ∉ r ∧ 2 * t + 1 ∉ r := by
  intro t ht
  have h := List.any_eq_false.1 h5 t ht
  simp only [Bool.or_eq_true, not_or, List.contains_iff_mem] at h
  exact h
 have m6 : ∀ t ∈ (yax env' r' e').cw, 2 * t ∉ r := by
  intro t ht
  have h := List.any_eq_false.1 h6 t ht
  simpa [yax] using h
 have n1 : ∀ t ∈ keys e, 2 * t ∉ r' ∧ t ∉ keys e' := fun t ht => (ydp (env := env) (l := r) ht).elim (fun h => ⟨(m3 t h).1, (m3 t h).2.2⟩) (m4 t)
 have n2 : ∀ t ∈ keys e', 2 * t ∉ r := fun t ht => (ydp (env := env') (l := r') ht).elim (fun h => (m5 t h).1) (m6 t)
 refine ⟨⟨k1, k2, fun t ht => (n1 t ht).2⟩, ⟨k2, k1, fun t ht hte => (n1 t hte).2 ht⟩, fun t ht => ⟨k2, fun hk => n2 t hk ht⟩, fun t ht => ⟨k1, fun hk => (n1 t hk).1 ht⟩, ?_, ?_, k1, k2⟩
 ·rintro t ht (h | h)
  ·exact h k2
  ·exact (m5 t (yd3.2 h)).2 ht
 ·rintro t ht (h | h)
  ·exact h k1
  ·exact (m3 t (yd3.2 h)).2.1 ht
theorem yuq (r : Nat) (k : Bool) (x : AV) : hdAV (ybj r k x) = ybj r k (hdAV x) := by
 have key : hdAV x = x → hdAV (ybj r k x) = ybj r k (hdAV x) := by
  intro h
  rw [h]
  unfold ybj
  split
  ·rfl
  ·exact h
 cases x with
 | sl m e cap xs => cases m <;> rfl
 | box cs => rfl
 | _ => exact key rfl
theorem yqq (kl : List (Nat × Bool)) : ∀ {env env' : Env} {t : Nat}, (lk env t).map hdAV = (lk env' t).map hdAV → (lk (kills kl env) t).map hdAV = (lk (kills kl env') t).map hdAV := by
 induction kl with
 | nil => intro env env' t h; exact h
 | cons q kl ih =>
  intro env env' t h
  obtain ⟨r, k⟩ := q
  refine ih ?_
  rw [ya5, ya5]
  have e : ∀ o : Option AV, (o.map (ybj r k)).map hdAV = (o.map hdAV).map (ybj r k) := by
   intro o; cases o <;> simp [yuq]
  rw [e, e, h]
theorem yzx (x : Eff) {env env' : Env} {t : Nat} (h : (lk env t).map hdAV = (lk env' t).map hdAV) : (lk (zqi x env) t).map hdAV = (lk (zqi x env') t).map hdAV := by
 unfold zqi
 rw [yao, yao]
 cases lk x.ws t with
 | some y => rfl
 | none => exact yqq x.kl h
theorem yr6 {ws : Env} {t : Nat} {x : AV} (h : lk ws t = some x) : (t, x) ∈ ws := by
 induction ws with
 | nil => cases h
 | cons q ws ih =>
  obtain ⟨k, y⟩ := q
  simp only [lk] at h
  split at h
  ·rename_i hk
   injection h with h; subst hk h
   exact List.mem_cons_self
  ·exact List.mem_cons_of_mem _ (ih h)
theorem yl2 {env : Env} {t : Nat} {x : AV} (h : yde env (t, x) = true) : (lk env t).map hdAV = some (hdAV x) := by
 simp only [yde] at h
 split at h
 ·rename_i y hy
  rw [hy]
  cases y with
  | sl m e cap xs =>
   cases m <;> first | (simp [yf5] at h; done) | skip
   cases x with
   | sl m' e' cap' xs' => cases m' <;> first | (simp [yf5] at h; done) | rfl
   | _ => simp [yf5] at h
  | box cs =>
   cases x with
   | box cs' => rfl
   | _ => simp [yf5] at h
  | _ => simp [yf5] at h
 ·cases h
theorem ykn {x : Eff} {env0 env : Env} {t : Nat} (hf : ¬ Full env0 x t) (h : t ∈ keys x → (lk env t).map hdAV = (lk env0 t).map hdAV) : (lk (zqi x env) t).map hdAV = (lk env t).map hdAV := by
 have hk : x.kl = [] := by
  cases h2 : x.kl with
  | nil => rfl
  | cons a b => exact absurd (.inl (by simp [h2])) hf
 unfold zqi
 rw [yao, hk]
 cases hl : lk x.ws t with
 | none => rfl
 | some y =>
  have hm := yr6 hl
  rw [h (yep.2 ⟨_, hm, rfl⟩)]
  cases hw : yde env0 (t, y) with
  | true => exact (yl2 hw).symm
  | false => exact absurd (.inr ⟨_, hm, rfl, hw⟩) hf
theorem yd7 {D : Nat → Bool} (x : List Nat × Eff) : ∀ (es : List (List Nat × Eff)) (k : Nat) (env : Env), yat D k (es ++ [x]) env = if D (k + es.length) = true then zqi x.2 (yat D k es env) else yat D k es env
 | [], k, env => by simp [yat]
 | y :: es, k, env => by
  simp only [List.cons_append, yat]
  rw [yd7 x es (k + 1)]
  have : k + 1 + es.length = k + (y :: es).length := by simp; omega
  rw [this]
theorem yez {α : Type} {es : List α} {m : Nat} {x : α} (h : es[m]? = some x) : es.take (m + 1) = es.take m ++ [x] := by
 rw [List.take_add_one, h]; rfl
theorem yfc {D : Nat → Bool} {t : Nat} {env0 : Env} (es : List (List Nat × Eff)) : ∀ m, m ≤ es.length → (∀ k x, k < m → es[k]? = some x → Full (atE es k env0) x.2 t → D k = true) →
  (lk (yat D 0 (es.take m) env0) t).map hdAV = (lk (atE es m env0) t).map hdAV
 | 0, _, _ => by simp [yat, atE]
 | m + 1, hm, h => by
  have ih := yfc es m (by omega) fun k x hk => h k x (by omega)
  obtain ⟨x, hx⟩ : ∃ x, es[m]? = some x := ⟨es[m]'(by omega), zle (by omega)⟩
  have e1 : atE es (m + 1) env0 = zqi x.2 (atE es m env0) := by unfold atE; rw [yez hx, List.foldl_append]; rfl
  rw [yez hx, yd7, e1]
  have hl : 0 + (es.take m).length = m := by rw [zlh]; omega
  rw [hl]
  cases hd : D m with
  | true => simp only [if_true]; exact yzx x.2 ih
  | false =>
   simp only [Bool.false_eq_true, if_false]
   have hf : ¬ Full (atE es m env0) x.2 t := fun hf => by have := h m x (by omega) hx hf; rw [hd] at this; cases this
   rw [ykn hf fun _ => rfl]
   exact ih
theorem ykm {D : Nat → Bool} {t i : Nat} {env0 : Env} (es : List (List Nat × Eff)) (hi : i ≤ es.length)
  (h1 : ∀ k x, k < i → es[k]? = some x → Full (atE es k env0) x.2 t → D k = true) (h2 : ∀ k x, i ≤ k → es[k]? = some x → D k = true → ¬ Full (atE es k env0) x.2 t)
  (h3 : ∀ j y, i ≤ j → es[j]? = some y → D j = true → t ∈ keys y.2 → ∀ k x, k < j → es[k]? = some x → Full (atE es k env0) x.2 t → D k = true) :
  ∀ m, i ≤ m → m ≤ es.length → (lk (yat D 0 (es.take m) env0) t).map hdAV = (lk (atE es i env0) t).map hdAV := by
 intro m hm
 induction hm with
 | refl => intro _; exact yfc es i hi h1
 | @step m hm ih =>
  intro hle
  have hle : m + 1 ≤ es.length := hle
  obtain ⟨x, hx⟩ : ∃ x, es[m]? = some x := ⟨es[m]'(by omega), zle (by omega)⟩
  have hl : 0 + (es.take m).length = m := by rw [zlh]; omega
  rw [show Nat.succ m = m + 1 from rfl, yez hx, yd7, hl]
  cases hd : D m with
  | false => simp only [Bool.false_eq_true, if_false]; exact ih (by omega)
  | true =>
   simp only [if_true]
   rw [ykn (h2 m x hm hx hd) fun hk => yfc es m (by omega) (h3 m x hm hx hd hk)]
   exact ih (by omega)
end Go.Lf
end

section
namespace Go.Lf
open Go Go.RowKit
section
variable {P : Program} {F : Frm} {B0 : Nat} {w0 w w' : World} {S S' S0 : Nat → Prop} {n n' : Nat} {env env' : Env} {a : Act} {tmps : Array Value} {Os : Nat → Own} {cx : Cx} {o : Oper} {eff : Eff} {l : List Nat} {ds : List Deferred} {Q : Exit → Act → World → Prop}
theorem yjs (hw : w'.heap = w.heap) : ∀ (p : Path) (v : Value) (x : AV), LV P w' v x p = LV P w v x p
 | [], _, _ => rfl
 | (i, c) :: p, v, x => by
  have hc : ybn P w' x i c v = ybn P w x i c v := by
   have hcell : ∀ ad : Addr, w'.cell? ad = w.cell? ad := fun ad => World.cell?_of_block (by rw [hw])
   unfold ybn
   split <;> first | exact hcell _ | rfl
  unfold LV
  rw [hc]
  split
  ·exact yjs hw p _ _
  ·rfl
theorem Al.heap {v : Value} {x : AV} (hw : w'.heap = w.heap) (h : Al P env tmps w v x) : Al P env tmps w' v x := by
 cases x with
 | al r p rng =>
  intro xr hx m e cap xs hg hpm
  obtain ⟨vr, u, h1, h2, h3⟩ := h xr hx m e cap xs hg hpm
  exact ⟨vr, u, h1, by rw [yjs hw]; exact h2, h3⟩
 | adr r p i c =>
  intro xr hx y hg ho
  obtain ⟨vr, u, q, h1, h2, h3⟩ := h xr hx y hg ho
  exact ⟨vr, u, q, h1, by rw [yjs hw]; exact h2, h3⟩
 | _ => trivial
theorem Al.cong {v : Value} {x : AV} (hl : ∀ t, lk env' t = lk env t) (h : Al P env tmps w v x) : Al P env' tmps w v x := by
 cases x with
 | al r p rng =>
  intro xr hx
  rw [hl] at hx
  exact h xr hx
 | adr r p i c =>
  intro xr hx
  rw [hl] at hx
  exact h xr hx
 | _ => trivial
theorem Agree.cong (hl : ∀ t, lk env' t = lk env t) (h : Agree P F B0 w0 S0 cx ds env a w) : Agree P F B0 w0 S0 cx ds env' a w := by
 obtain ⟨h1, h2, n, S, Os, hn, hgr, hst⟩ := h
 refine ⟨h1, h2, n, S, Os, hn, hgr, hst.below, hst.b0, hst.sLt, hst.excl, hst.one, hst.dis, ?_, ?_, ?_, hst.keep, hst.pin⟩
 ·intro t x hx
  rw [hl] at hx
  obtain ⟨v, hv, hs⟩ := hst.rel t x hx
  exact ⟨v, hv, hs.imp (fun ⟨k1, k2, k3⟩ => ⟨k1, k2.cong hl, k3⟩) id⟩
 ·intro t ht
  rw [hl] at ht
  exact hst.abs t ht
 ·intro t x r hx hr
  rw [hl] at hx
  obtain ⟨y, hy, hyr⟩ := hst.leaf t x r hx hr
  exact ⟨y, by rw [hl]; exact hy, hyr⟩
theorem Agree.drawn (h : Agree P F B0 w0 S0 cx ds env a w) (k : Nat) : Agree P F B0 w0 S0 cx ds env a { w with drawn := k } := by
 obtain ⟨h1, h2, n, S, Os, hn, hgr, hst⟩ := h
 refine ⟨h1, h2, n, S, Os, hn, hgr, ⟨hst.below.os, hst.below.tape, hst.below.output, hst.below.size, hst.below.block⟩, hst.b0, hst.sLt, hst.excl, hst.one, hst.dis, ?_, hst.abs, hst.leaf, hst.keep, hst.pin⟩
 intro t x hx
 obtain ⟨v, hv, hs⟩ := hst.rel t x hx
 refine ⟨v, hv, ?_⟩
 rcases hs with ⟨k1, k2, k3⟩ | hr
 ·exact .inl ⟨k1, Al.heap (w := w) (w' := { w with drawn := k }) rfl k2, k3⟩
 ·exact .inr (Rv.frame (w := w) (w' := { w with drawn := k }) (fun _ h => h) (fun _ _ => rfl) _ _ _ _ (fun _ _ => rfl) hr)
theorem yj2 {α β : Type} (F : List β → α → β) : ∀ (os : List α) (acc : List β), (∃ r, os.foldl (fun acc o => acc ++ [F acc o]) acc = acc ++ r) ∧
  ∀ i o, os[i]? = some o → (os.foldl (fun acc o => acc ++ [F acc o]) acc)[acc.length + i]? = some (F ((os.foldl (fun acc o => acc ++ [F acc o]) acc).take (acc.length + i)) o)
 | [], acc => ⟨⟨[], by simp⟩, fun i o h => by simp at h⟩
 | o :: os, acc => by
  obtain ⟨⟨r, hr⟩, hi⟩ := yj2 F os (acc ++ [F acc o])
  simp only [List.foldl_cons]
  refine ⟨⟨F acc o :: r, by rw [hr]; simp⟩, fun i o' h => ?_⟩
  cases i with
  | zero =>
   have : o = o' := by simpa using h
   subst this
   rw [hr]
   simp
  | succ i =>
   have := hi i o' (by simpa using h)
   simp only [zlg, List.length_singleton] at this
   rw [show acc.length + (i + 1) = acc.length + 1 + i by omega]
   exact this
theorem yh9 (acc : List (List Nat)) : ∀ (es : List Edge) (l : List Nat) (b : Nat), b ∈ es.foldl (fun l e => match e.ground with
   | .textOnly _ => l
   | .gcOnly _ => l
   | _ => e.on :: (acc.getD e.on [] ++ l)) l → b ∈ l ∨ ∃ e ∈ es, Region.binds .any e = true ∧ (b = e.on ∨ b ∈ acc.getD e.on [])
 | [], l, b, h => .inl h
 | e :: es, l, b, h => by
  simp only [List.foldl_cons] at h
  rcases yh9 acc es _ b h with h | ⟨e', he', h'⟩
  ·unfold Region.binds
   split at h
   ·exact .inl h
   ·exact .inl h
   ·rename_i h1 h2
    rcases List.mem_cons.1 h with rfl | h
    ·refine .inr ⟨e, List.mem_cons_self, ?_, .inl rfl⟩
     split
     ·rename_i hg; exact absurd hg (h1 _)
     ·rename_i hg; exact absurd hg (h2 _)
     ·rfl
    ·rcases List.mem_append.1 h with h | h
     ·refine .inr ⟨e, List.mem_cons_self, ?_, .inr h⟩
      split
      ·rename_i hg; exact absurd hg (h1 _)
      ·rename_i hg; exact absurd hg (h2 _)
      ·rfl
     ·exact .inl h
  ·exact .inr ⟨e', List.mem_cons_of_mem _ he', h'⟩
theorem ye6 {ops : List Oper} {i : Nat} {o : Oper} (hi : ops[i]? = some o) {b : Nat} (h : b ∈ (ybc ops).getD i []) :
  ∃ e ∈ o.after, Region.binds .any e = true ∧ (b = e.on ∨ b ∈ (ybc ops).getD e.on []) := by
 have hg := (yj2 (fun (acc : List (List Nat)) (o : Oper) => o.after.toList.foldl (fun l e => match e.ground with
  | .textOnly _ => l
  | .gcOnly _ => l
  | _ => e.on :: (acc.getD e.on [] ++ l)) []) ops []).2 i o hi
 simp only [List.length_nil, Nat.zero_add] at hg
 have hg' : (ybc ops)[i]? = some _ := hg
 rw [zld, hg', Option.getD_some] at h
 rcases yh9 _ _ _ _ h with h | ⟨e, he, hb, h⟩
 ·simp at h
 ·refine ⟨e, by simpa using he, hb, h.imp id fun h => ?_⟩
  rw [zld] at h ⊢
  rw [List.getElem?_take] at h
  split at h
  ·exact h
  ·simp at h
theorem any_ok {ops : Array Oper} {es : List (List Nat × Eff)} {env0 : Env} (hes : es.length = ops.size)
  (hstep : ∀ i o, ops.toList[i]? = some o → ∃ x cxi, es[i]? = some x ∧ CxOk P cxi ∧ cxi.N = cx.N ∧ cxi.lo = cx.lo ∧ (ybl cxi ops o).run (atE es i env0) = some x)
  {ls : List Log} (hll : ls.length = es.length) (hls : ∀ i x, es[i]? = some x → ls[i]? = some (yax (atE es i env0) x.1 x.2)) (hap : yhj (ybc ops.toList) ls = true) (hed : yd9 ops.toList = true)
  (hQ : ∀ a' w', Agree P F B0 w0 S0 cx ds (es.foldl (fun env x => zqi x.2 env) env0) a' w' → Q .normal a' w') :
  ∀ (fuel : Nat) (listed : Array Bool) (a : Act) (w : World), listed.size = ops.size → listed.toList.count false ≤ fuel →
   (∀ j, listed.getD j false = true → ∀ b ∈ (ybc ops.toList).getD j [], listed.getD b false = true) →
   (∃ env1, (∀ t, lk env1 t = lk (yat (fun j => listed.getD j false) 0 es env0) t) ∧ Agree P F B0 w0 S0 cx ds env1 a w) → wpAny P .any ops Q fuel listed a w := by
 have hfalse : ∀ {listed : Array Bool} {j : Nat}, j < listed.size → listed.getD j false ≠ true → listed.getD j true = false := by
  intro listed j hj h
  simp only [Array.getD, hj, dif_pos] at h ⊢
  cases hb : listed[j] <;> simp_all
 have hfalse' : ∀ {listed : Array Bool} {j : Nat}, listed.getD j true = false → j < listed.size ∧ listed.getD j false = false := by
  intro listed j h
  by_cases hj : j < listed.size
  ·refine ⟨hj, ?_⟩
   simp only [Array.getD, hj, dif_pos] at h ⊢
   exact h
  ·simp only [Array.getD, hj, dif_neg, not_false_iff] at h
   cases h
 have pair : ∀ {i j : Nat} {x y : List Nat × Eff}, es[i]? = some x → es[j]? = some y → j < i → j ∉ (ybc ops.toList).getD i [] → yio (yax (atE es i env0) x.1 x.2) (yax (atE es j env0) y.1 y.2) = false := by
  intro i j x y hx hy hji hb
  have hil : i < es.length := (zlk.1 hx).1
  have h1 := zls.1 hap i (by simpa [hll] using hil)
  have h2 := zls.1 h1 j (by simpa using hji)
  simp only [Bool.or_eq_true, List.contains_iff_mem] at h2
  rcases h2 with h2 | h2
  ·exact absurd h2 hb
  ·simpa [zld, hls i x hx, hls j y hy] using h2
 have done : ∀ {listed : Array Bool} {a : Act} {w : World}, listed.size = ops.size → Region.ready .any ops listed = [] → (∃ env1, (∀ t, lk env1 t = lk (yat (fun j => listed.getD j false) 0 es env0) t) ∧ Agree P F B0 w0 S0 cx ds env1 a w) → Q .normal a w := by
  intro listed a w hsz hr ⟨env1, hl, hag⟩
  have all : ∀ j, j < ops.size → listed.getD j false = true := by
   intro j
   induction j using Nat.strongRecOn with
   | ind j ih =>
    intro hj
    by_cases h : listed.getD j false = true
    ·exact h
    ·exfalso
     have hmem : j ∈ Region.ready .any ops listed := by
      refine mem_ready.2 ⟨hfalse (by omega) h, ops[j], by simp [hj], fun e he hb => ?_⟩
      have h1 := zls.1 hed (ops[j], j) (by
       rw [List.mem_iff_getElem?]
       exact ⟨j, by simp [hj]⟩)
      have h2 := zls.1 h1 e (by simpa using he)
      unfold Region.binds at hb
      have h3 : e.on < j := by
       split at h2
       ·rename_i hg; rw [hg] at hb; simp at hb
       ·rename_i hg; rw [hg] at hb; simp at hb
       ·simpa using h2
      exact ih e.on h3 (by omega)
     rw [hr] at hmem
     cases hmem
  refine hQ a w (hag.cong fun t => ?_)
  rw [hl]
  have e1 : es.foldl (fun env x => zqi x.2 env) env0 = yat (fun j => decide (j < 0 + es.length)) 0 es env0 := by rw [yct, List.take_length]
  rw [e1]
  refine yaz es 0 (fun j x hx hne => absurd ?_ hne) rfl
  have hj : j < es.length := (zlk.1 hx).1
  simp only [Nat.zero_add]
  rw [all j (by omega)]
  simp [hj]
 intro fuel
 induction fuel with
 | zero =>
  intro listed a w hsz hc hdn henv
  have hr : Region.ready .any ops listed = [] := by
   apply List.eq_nil_iff_forall_not_mem.2
   intro j hj
   obtain ⟨h0, _⟩ := mem_ready.1 hj
   obtain ⟨hjs, h1⟩ := hfalse' h0
   have : false ∈ listed.toList := by
    rw [List.mem_iff_getElem?]
    refine ⟨j, ?_⟩
    simp only [Array.getD, hjs, dif_pos] at h1
    have h1' : listed[j] = false := h1
    simp [hjs, h1']
   have := List.count_pos_iff.2 this
   omega
  exact ⟨hr, done hsz hr henv⟩
 | succ fuel ih =>
  intro listed a w hsz hc hdn henv
  refine ⟨fun hr => done hsz hr henv, fun i hi => ?_⟩
  obtain ⟨h0, o, ho, hall⟩ := mem_ready.1 hi
  obtain ⟨his, hDi⟩ := hfalse' h0
  obtain ⟨env1, hl, hag⟩ := henv
  have ho' : ops.toList[i]? = some o := by simpa using ho
  obtain ⟨x, cxi, hx, hci, hcN, hcl, hrun⟩ := hstep i o ho'
  have hbi : ∀ b ∈ (ybc ops.toList).getD i [], listed.getD b false = true := by
   intro b hb
   obtain ⟨e, he, hbd, h⟩ := ye6 ho' hb
   have hon := hall e he hbd
   rcases h with rfl | h
   ·exact hon
   ·exact hdn e.on hon b h
  have later : ∀ {j : Nat} {y : List Nat × Eff}, i < j → es[j]? = some y → listed.getD j false = true → yio (yax (atE es j env0) y.1 y.2) (yax (atE es i env0) x.1 x.2) = false := by
   intro j y hij hy hD
   refine pair hy hx hij fun hb => ?_
   have := hdn j hD i hb
   rw [hDi] at this; cases this
  have hrun1 : (ybl cxi ops o).run env1 = some (x.1, x.2) := by
   have e2 : atE es i env0 = yat (fun j => decide (j < 0 + i)) 0 es env0 := by rw [yct]; rfl
   refine RP.local hrun (fun t ht => ?_) fun t ht => ?_
   ·rw [hl, e2]
    refine yaz es 0 (fun j y hy hne => ?_) rfl
    simp only [Nat.zero_add] at hne
    by_cases hji : j < i
    ·have hDj : listed.getD j false ≠ true := by
      intro h; apply hne; rw [h]; simp [hji]
     have hc := pair hx hy hji fun hb => hDj (hbi j hb)
     exact (yal hc).2.2.1 t ht
    ·have hDj : listed.getD j false = true := by
      cases h : listed.getD j false with
      | true => rfl
      | false => exact absurd (by rw [h]; simp [hji]) hne
     have hne' : j ≠ i := by intro e; subst e; rw [hDi] at hDj; cases hDj
     exact (yal (later (by omega) hy hDj)).2.2.2.1 t ht
   ·rw [hl]
    have hil : i < es.length := (zlk.1 hx).1
    have hh := ykm (D := fun j => listed.getD j false) (t := t) (env0 := env0) es (i := i) (by omega) ?_ ?_ ?_ es.length (by omega) (zly _)
    ·rw [List.take_length] at hh; exact hh
    ·intro k y hk hy hf
     cases hDk : listed.getD k false with
     | true => rfl
     | false =>
      have hc := pair hx hy hk fun hb => by have := hbi k hb; rw [hDk] at this; cases this
      exact absurd hf ((yal hc).2.2.2.2.1 t ht)
    ·intro k y hk hy hDk
     have hne' : k ≠ i := by intro e; subst e; rw [hDi] at hDk; cases hDk
     exact (yal (later (by omega) hy hDk)).2.2.2.2.2.1 t ht
    ·intro j y hij hy hDj hkj k z hkj' hz hf
     cases hDk : listed.getD k false with
     | true => rfl
     | false =>
      have hc := pair hy hz hkj' fun hb => by have := hdn j hDj k hb; rw [hDk] at this; cases this
      obtain ⟨c1, _, _, _, _, _, _, c8⟩ := yal hc
      rcases hf with hf | ⟨q, hq1, hq2, _⟩
      ·exact absurd c8 hf
      ·exact absurd (yep.2 ⟨q, hq1, hq2⟩) (c1.2.2 t hkj)
  obtain ⟨hd, hN, n, S, Os, hn, hgr, hst⟩ := hag
  have key := yj0 (Q := Q) hci hst hn (by rw [hcN, hcl]; exact hN) hrun1
  have hset : ∀ j, (listed.setIfInBounds i true).getD j false = (listed.getD j false || j == i) := by
   intro j
   rw [zll, zll, Array.getElem?_setIfInBounds]
   by_cases hji : j = i
   ·subst hji
    simp [his]
   ·rw [if_neg (Ne.symm hji)]
    have h2 : (j == i) = false := by simp [hji]
    rw [h2, Bool.or_false]
  have next : ∀ a' w', Post P F B0 w0 S cxi env1 x.2 a a' w' → wpAny P .any ops Q fuel (listed.setIfInBounds i true) a' w' := by
   intro a' w' ⟨p1, p2, n', S', Os', q1, q2, q3⟩
   rw [hcN, hcl] at p2
   refine ih _ a' w' (by simpa using hsz) ?_ ?_ ⟨_, ?_, p1.trans hd, p2, n', S', Os', q1, hgr.trans q2, q3⟩
   ·have hfi : listed.toList[i]? = some false := by
     simp only [Array.getD, his, dif_pos] at hDi
     have hDi' : listed[i] = false := hDi
     simp [his, hDi']
    have hil : i < listed.toList.length := by simpa using his
    have hval : listed.toList[i] = false := by
     have := zle hil
     rw [hfi] at this; injection this with this; exact this.symm
    have hpos : 0 < listed.toList.count false := List.count_pos_iff.2 (by rw [← hval]; exact zlu hil)
    rw [Array.toList_setIfInBounds, List.count_set hil]
    simp only [hval]
    simp at hc hpos ⊢
    omega
   ·intro j hj b hb
    rw [hset] at hj ⊢
    simp only [Bool.or_eq_true, beq_iff_eq] at hj ⊢
    rcases hj with hj | hj
    ·exact .inl (hdn j hj b hb)
    ·subst hj; exact .inl (hbi b hb)
   ·intro t
    rw [ybi x.2 (hl t)]
    have := yff (D := fun j => listed.getD j false) (i := i) t es 0 i env0 x hx (by omega) hDi fun j y hij hy hD => (yal (later hij hy (by simpa using hD))).2.1
    rw [← this]
    congr 2
    funext j
    exact (hset j).symm
  unfold wpOp
  rw [ho]
  simp only
  split
  ·rename_i hw
   rw [if_pos hw] at key
   exact .inl (Oper.wp_mono next key)
  ·rename_i hw
   rw [if_neg hw] at key
   exact next _ _ key
theorem yxk (hcx : CxOk P cx) : RegOk P F B0 w0 S0 cx ds := by
 intro id ops draw env env' a w Q h hag hQ
 cases draw with
 | false => exact ymv hcx h hag hQ
 | true =>
  unfold ybo at h
  have hcx' : CxOk P { cx with dr := true } := ⟨hcx.ty, hcx.eq, hcx.K, hcx.KM, hcx.mixed⟩
  cases he : ydw { cx with dr := true } ops ops.toList env with
  | none => rw [he] at h; cases h
  | some le =>
   obtain ⟨ls, env2⟩ := le
   rw [he] at h
   simp only [if_true] at h
   split at h
   ·rename_i hap
    injection h with h; subst h
    simp only [zlo, yfq] at hap
    obtain ⟨es, e1, e0, e2, rfl, e4⟩ := yfk he
    refine wp_region_any hcx.mixed (any_ok (cx := { cx with dr := true }) (by simpa using e1) (fun i o h => by obtain ⟨x, h1, h2⟩ := e4 i o h; exact ⟨x, _, h1, hcx', rfl, rfl, h2⟩) e0 e2 hap.1 hap.2 hQ ops.size _ a _ (by simp) ?_ ?_ ⟨env, ?_, hag.drawn _⟩)
    ·simp
    ·intro j hj
     by_cases hjs : j < ops.size
     ·simp [Array.getD, hjs] at hj
     ·simp [Array.getD, hjs] at hj
    ·intro t
     rw [ycu]
     intro j _
     by_cases hjs : j < ops.size
     ·simp [Array.getD, hjs]
     ·simp [Array.getD, hjs]
   ·cases h
end
end Go.Lf
end

section
namespace Go.Lf
open Go Go.RowKit
def ybt (tmps : Array Value) : ResultVar → Sem Value
 | .tmp t => pure (tmps.getD t undef)
 | .cell a t => do loadVar t (← asAddr (tmps.getD a undef))
section
variable {P : Program} {F : Frm} {B0 : Nat} {w0 w w' : World} {S S' : Nat → Prop} {n n' : Nat} {env env' : Env} {a : Act} {tmps : Array Value} {Os : Nat → Own} {cx : Cx} {o : Oper} {eff : Eff} {l : List Nat} {ds : List Deferred} {Q : Exit → Act → World → Prop}
theorem St.share (hst : St P F B0 w0 n env tmps w S Os) (hS : ∀ b, S b → S' b) (hN : ∀ b, S' b → S b ∨ (b < w.heap.size ∧ ∀ t, Os t b = 0)) : St P F B0 w0 n env tmps w S' Os := by
 refine ⟨hst.below, hst.b0, ?_, ?_, hst.one, hst.dis, ?_, hst.abs, hst.leaf, fun b hb => ⟨hS b (hst.keep b hb).1, (hst.keep b hb).2⟩, hst.pin⟩
 ·intro b hb
  rcases hN b hb with h | h
  ·exact hst.sLt b h
  ·exact h.1
 ·intro b t hb
  rcases hN b hb with h | h
  ·exact hst.excl b t h
  ·exact h.2 t
 ·intro t x hx
  obtain ⟨v, hv, hs⟩ := hst.rel t x hx
  refine ⟨v, hv, ?_⟩
  rcases hs with h | h
  ·exact .inl h
  ·exact .inr (Rv.frame hS (fun _ _ => rfl) _ _ _ _ (fun _ _ => rfl) h)
structure Took (P : Program) (F : Frm) (B0 : Nat) (w0 : World) (n : Nat) (env' : Env) (tmps : Array Value) (w : World) (S : Nat → Prop) (Os : Nat → Own) (v : Value) (x : AV) (n' : Nat) (S' : Nat → Prop) (Os' : Nat → Own) (O : Own) : Prop where
 nn : n ≤ n'
 rv : Rv P B0 w S' n' v x O
 st : St P F B0 w0 n' env' tmps w S' Os'
 sub : ∀ b, S b → S' b
 new : ∀ b, S' b → S b ∨ ∃ t, 0 < Os t b
 one : ∀ b, O b ≤ 1
 excl : ∀ b, S' b → O b = 0
 apart : ∀ b, 0 < O b → ∀ t, Os' t b = 0
 src : ∀ b, 0 < O b → ∃ t, 0 < Os t b
 le : ∀ t b, Os' t b ≤ Os t b
theorem St.bad' (h : St P F B0 w0 n env tmps w S Os) (hn : 0 < n) {r : Nat} {x : AV} (hxr : lk env r = some x) :
  St P F B0 w0 n ((r, .bad) :: env) tmps w S (fun t => if t = r then (fun _ => 0) else Os t) :=
 St.bad (a := { tmps := tmps, defers := [] }) h hn hxr
theorem ydf (hst : St P F B0 w0 n env tmps w S Os) (hn : 0 < n) {r : Nat} {xr : AV} (hr : lk env r = some xr) {v : Value} {x : AV} {O : Own} (hO : ∀ b, O b ≤ Os r b) (hv : Rv P B0 w S n v x O) :
  ∃ n' S' Os' O, Took P F B0 w0 n ((r, .bad) :: env) tmps w S Os v x n' S' Os' O := by
 refine ⟨n, S, _, O, zly _, hv, hst.bad' hn hr, fun _ h => h, fun _ h => .inl h, fun b => by have := hO b; have := hst.one r b; omega, fun b hb => by have := hst.excl b r hb; have := hO b; omega, ?_, fun b hb => ⟨r, by have := hO b; omega⟩, ?_⟩
 ·intro b hb t
  by_cases hne : t = r
  ·rw [if_pos hne]
  ·rw [if_neg hne]
   rcases hst.dis r t b (Ne.symm hne) with h | h
   ·have := hO b; omega
   ·exact h
 ·intro t b
  by_cases hne : t = r
  ·rw [if_pos hne]; exact Nat.zero_le _
  ·rw [if_neg hne]; exact zly _
theorem yit (hst : St P F B0 w0 n env tmps w S Os) (hn : 0 < n) {r : Nat} {xr : AV} (hr : lk env r = some xr) {v : Value} {x : AV} (hv : Rv P B0 w (fun b => S b ∨ 0 < Os r b) n v x (fun _ => 0)) :
  ∃ n' S' Os' O, Took P F B0 w0 n ((r, .bad) :: env) tmps w S Os v x n' S' Os' O := by
 refine ⟨n, fun b => S b ∨ 0 < Os r b, _, fun _ => 0, zly _, hv, (hst.bad' hn hr).share (fun _ h => .inl h) ?_, fun _ h => .inl h, ?_, fun b => Nat.zero_le _, fun b hb => rfl, fun b hb => absurd hb (by simp), fun b hb => absurd hb (by simp), ?_⟩
 ·intro b hb
  rcases hb with hb | hb
  ·exact .inl hb
  ·refine .inr ⟨(St.lt (a := { tmps := tmps, defers := [] }) hst r b hb).2, fun t => ?_⟩
   by_cases hne : t = r
   ·rw [if_pos hne]
   ·rw [if_neg hne]
    rcases hst.dis r t b (Ne.symm hne) with h | h
    ·omega
    ·exact h
 ·intro b hb
  rcases hb with hb | hb
  ·exact .inl hb
  ·exact .inr ⟨r, hb⟩
 ·intro t b
  by_cases hne : t = r
  ·rw [if_pos hne]; exact Nat.zero_le _
  ·rw [if_neg hne]; exact zly _
theorem ydy (hst : St P F B0 w0 n env tmps w S Os) {v : Value} {x : AV} (hv : Rv P B0 w S n v x (fun _ => 0)) : ∃ n' S' Os' O, Took P F B0 w0 n env tmps w S Os v x n' S' Os' O :=
 ⟨n, S, Os, fun _ => 0, zly _, hv, hst, fun _ h => h, fun _ h => .inl h, fun b => Nat.zero_le _, fun b hb => rfl, fun b hb => absurd hb (by simp), fun b hb => absurd hb (by simp), fun _ _ => zly _⟩
theorem ypo (hcx : CxOk P cx) (hst : St P F B0 w0 n env tmps w S Os) (hn : 0 < n) {r : ResultVar} {x : AV} {env' : Env} (h : ymf cx env r = some (x, env')) :
  ∃ v n' S' Os' O, (ybt tmps r).run P w = .ok v w ∧ Took P F B0 w0 n env' tmps w S Os v x n' S' Os' O := by
 cases r with
 | tmp t =>
  have hres : ∀ {v : Value}, tmps[t]? = some v → (ybt tmps (.tmp t)).run P w = .ok v w := by
   intro v hv
   simp [ybt, zll, hv]
  simp only [ymf] at h
  split at h
  ·rename_i r p rng hlk
   obtain ⟨v, hv, hs⟩ := hst.rel t _ hlk
   rcases hs with ⟨_, ha, _⟩ | hs
   ·obtain ⟨xr, hxr, hrt⟩ := hst.leaf t _ r hlk rfl
    rw [hxr] at h
    simp only at h
    cases hg : getC xr p with
    | none => rw [hg] at h; cases h
    | some z =>
     rw [hg] at h
     simp only at h
     have hpm : p = [] ∨ z.mOwn = true := Classical.byContradiction fun hpm => by rw [if_neg hpm] at h; cases h
     rw [if_pos hpm] at h
     obtain ⟨vr, m, u, Oy, Oq, hvr, hrv, hm, hy, hlv, hOO⟩ := St.at (a := { tmps := tmps, defers := [] }) hst hxr hrt hg
     have sub : ∀ {mm : Mode} {e : TypeId} {cap : Option Nat} {xs : List AV}, z = .sl mm e cap xs → subOk P e rng u v := by
      intro mm e cap xs hz
      subst hz
      obtain ⟨vr', u', e1, e2, e3⟩ := ha xr hxr _ _ _ _ hg (hpm.imp id fun h => by cases mm <;> first | rfl | cases h)
      have e1' : some vr = some vr' := hvr.symm.trans e1
      injection e1' with e1'; subst e1'
      rw [hlv] at e2; injection e2 with e2; subst e2
      exact e3
     split at h
     ·rename_i mm e cap xs
      injection h with h; injection h with h1 h2; subst h1 h2
      have hvu : v = u := sub rfl
      obtain ⟨n1, S1, Os1, O1, ht⟩ := ydf hst hn hxr (fun b => by have := hOO b; omega) (hy.le hm)
      exact ⟨v, n1, S1, Os1, O1, hres hv, by rw [hvu]; exact ht⟩
     ·rename_i k e cap xs _
      split at h
      ·rename_i hk
       injection h with h; injection h with h1 h2; subst h1 h2
       obtain ⟨A, len, kk, A', c', hu', hv', hle', hcc, hkk, hk3, _, hA⟩ := sub rfl
       obtain ⟨m, rfl⟩ := hy.pos
       obtain ⟨O1, hf, hO1⟩ := hy.front hu' k hk
       have hc' : c' = kk := by simp only at hk3; omega
       obtain ⟨n1, S1, Os1, O2, ht⟩ := ydf hst hn hxr (fun b => by have := hOO b; have := hO1 b; omega) (hf.le hm)
       exact ⟨v, n1, S1, Os1, O2, hres hv, by rw [hv', hA rfl, hc']; exact ht⟩
      ·cases h
     ·rename_i rg mm e cap xs _ _
      split at h
      ·rename_i q hq
       injection h with h; injection h with h1 h2; subst h1 h2
       obtain ⟨m, rfl⟩ := hy.pos
       have hsh := Rv.remode (S' := fun b => S b ∨ 0 < Os r b) zqx (fun m => by cases m <;> simp [zqx]) (fun m h => by cases m <;> simp [zqx] at h ⊢) (fun b hb => .inl hb) (m + 1) 12 u _ Oy (fun b hb => .inr (by have := hOO b; omega)) hy
       have hq' := Rv.subSh (mm := zqx mm) (by cases mm <;> simp [zqx]) hsh hq (sub rfl)
       obtain ⟨n1, S1, Os1, O2, ht⟩ := yit hst hn hxr (hq'.le hm)
       exact ⟨v, n1, S1, Os1, O2, hres hv, ht⟩
      ·cases h
     ·cases h
   ·have := hs.noLeaf; cases this
  ·rename_i u hlk
   injection h with h; injection h with h1 h2; subst h1 h2
   obtain ⟨v, hv, hs⟩ := hst.rel t _ hlk
   have hr := hs.rv rfl
   obtain ⟨n1, S1, Os1, O1, ht⟩ := ydy hst (hr.cast fun b => (by obtain ⟨m, rfl⟩ := hr.pos; exact (hr.2 b).symm))
   exact ⟨v, n1, S1, Os1, O1, hres hv, ht⟩
  ·rename_i f cs hlk
   injection h with h; injection h with h1 h2; subst h1 h2
   obtain ⟨v, hv, hs⟩ := hst.rel t _ hlk
   have hr := hs.rv rfl
   obtain ⟨n1, S1, Os1, O1, ht⟩ := ydy hst (hr.cast fun b => (by obtain ⟨m, rfl⟩ := hr.pos; obtain ⟨_, _, hz, _⟩ := hr; exact (hz b).symm))
   exact ⟨v, n1, S1, Os1, O1, hres hv, ht⟩
  ·rename_i mm e cap xs hlk
   injection h with h; injection h with h1 h2; subst h1 h2
   obtain ⟨v, hv, hs⟩ := hst.rel t _ hlk
   obtain ⟨n1, S1, Os1, O1, ht⟩ := ydf hst hn hlk (fun b => zly _) (hs.rv rfl)
   exact ⟨v, n1, S1, Os1, O1, hres hv, ht⟩
  ·rename_i cs hlk
   split at h
   ·rename_i hp
    injection h with h; injection h with h1 h2; subst h1 h2
    obtain ⟨v, hv, hs⟩ := hst.rel t _ hlk
    have hr := hs.rv rfl
    have hz : Zero (Os t) := by obtain ⟨m, rfl⟩ := hr.pos; obtain ⟨_, _, hrc⟩ := hr; exact zrg hrc hp
    obtain ⟨n1, S1, Os1, O1, ht⟩ := ydy hst (hr.cast fun b => (hz b).symm)
    exact ⟨v, n1, S1, Os1, O1, hres hv, ht⟩
   ·cases h
  ·cases h
 | cell t ty =>
  simp only [ymf] at h
  split at h
  ·rename_i cs ti hlk hty
   split at h
   ·rename_i hc
    obtain ⟨hlen, _⟩ := hc
    obtain ⟨v, hv, hs⟩ := hst.rel t _ hlk
    obtain ⟨m, rfl⟩ : ∃ m, n = m + 1 := ⟨n - 1, by omega⟩
    obtain ⟨g, C, T, O', rfl, hb, hg, hrc, hOO⟩ := hs.rv rfl
    have hCl : C.size = ti.zero.length := by rw [← zlr, hrc.length, hlen]
    obtain ⟨l1, l2⟩ := yb8 (w := w) hcx hty (off := 0) hg (by omega)
    have hall : (C.toList.drop 0).take ti.zero.length = C.toList := by rw [List.drop_zero, ← hCl, ← zlr, List.take_length]
    have hres : ∀ {u : Value}, (Instr.loadAt ty (.pointer (some ⟨g, 0, none⟩))).run P w = .ok u w → (ybt tmps (.cell t ty)).run P w = .ok u w := by
     intro u hu
     simp only [Instr.loadAt, Instr.sureAddr] at hu
     simp [ybt, zll, hv, asAddr]
     simpa using hu
    split at h
    ·rename_i hag
     injection h with h; injection h with h1 h2; subst h1 h2
     have hld := l1 hag
     rw [hall] at hld
     have hown : Rv P B0 w S (m + 1) (.agg C.toList.toArray) (.agg cs) O' := ⟨C.toList.toArray, rfl, by rw [Array.toArray_toList]; exact hrc⟩
     obtain ⟨n1, S1, Os1, O2, ht⟩ := ydf hst hn hlk (fun b => by have := hOO b; omega) hown
     exact ⟨_, n1, S1, Os1, O2, hres hld, ht⟩
    ·rename_i hag
     split at h
     ·rename_i x
      injection h with h; injection h with h1 h2; subst h1 h2
      obtain ⟨u, hu, hr⟩ := hrc.one
      have hld := l2 (by simpa using hag) u (by rw [List.drop_zero, hu]; rfl)
      obtain ⟨n1, S1, Os1, O2, ht⟩ := ydf hst hn hlk (fun b => by have := hOO b; omega) (hr.le (Nat.le_succ m))
      exact ⟨_, n1, S1, Os1, O2, hres hld, ht⟩
     ·cases h
   ·cases h
  ·cases h
end
end Go.Lf
end

section
namespace Go.Lf
open Go Go.RowKit
section
variable {P : Program} {F : Frm} {B0 : Nat} {w0 w w' : World} {S S' S0 : Nat → Prop} {n n' : Nat} {env env' : Env} {a : Act} {tmps : Array Value} {Os : Nat → Own} {cx : Cx} {o : Oper} {eff : Eff} {l : List Nat} {ds : List Deferred} {Q : Exit → Act → World → Prop}
theorem ygs (hcx : CxOk P cx) : ∀ (rs : List ResultVar) {n : Nat} {env : Env} {S : Nat → Prop} {Os : Nat → Own} {xs : List AV}, St P F B0 w0 n env tmps w S Os → 0 < n → ydz cx rs env = some xs →
  ∃ vs n' S' O, (rs.mapM (ybt tmps)).run P w = .ok vs w ∧ Rc (Rv P B0 w S' n') vs xs O ∧ (∀ b, O b ≤ 1) ∧ (∀ b, S' b → O b = 0) ∧ (∀ b, S b → S' b) ∧ (∀ b, S' b → S b ∨ ∃ t, 0 < Os t b) ∧ (∀ b, 0 < O b → ∃ t, 0 < Os t b)
 | [], n, env, S, Os, xs, hst, hn, h => by
  injection h with h; subst h
  exact ⟨[], n, S, fun _ => 0, by simp, .nil fun _ => rfl, fun _ => Nat.zero_le _, fun _ _ => rfl, fun _ h => h, fun _ h => .inl h, fun b hb => absurd hb (by simp)⟩
 | r :: rs, n, env, S, Os, xs, hst, hn, h => by
  simp only [ydz] at h
  cases hr : ymf cx env r with
  | none => rw [hr] at h; cases h
  | some xe =>
   obtain ⟨x, env1⟩ := xe
   rw [hr] at h
   simp only at h
   cases hq : ydz cx rs env1 with
   | none => rw [hq] at h; cases h
   | some ys =>
    rw [hq] at h
    injection h with h; subst h
    obtain ⟨v, n1, S1, Os1, O1, hrun, tk⟩ := ypo hcx hst hn hr
    obtain ⟨vs, n2, S2, O2, hruns, hrc, h1, h2, h3, h4, h5⟩ := ygs hcx rs tk.st (by have := tk.nn; omega) hq
    have hdis : ∀ b, 0 < O1 b → O2 b = 0 := by
     intro b hb
     rcases zlt (O2 b) with h | h
     ·exact h
     ·obtain ⟨t, ht⟩ := h5 b h
      have := tk.apart b hb t; omega
    have hdS : ∀ b, S2 b → O1 b = 0 := by
     intro b hb
     rcases h4 b hb with h | ⟨t, ht⟩
     ·exact tk.excl b h
     ·rcases zlt (O1 b) with h | h
      ·exact h
      ·have := tk.apart b h t; omega
    refine ⟨v :: vs, max n1 n2, S2, fun b => O1 b + O2 b, ?_, .cons ((Rv.frame h3 (fun _ _ => rfl) _ _ _ _ (fun _ _ => rfl) tk.rv).le (Nat.le_max_left _ _)) (hrc.le (Nat.le_max_right _ _)) fun _ => rfl, ?_, ?_, fun b hb => h3 b (tk.sub b hb), ?_, ?_⟩
    ·simp only [List.mapM_cons, Sem.run_bind, hrun, Result.andThen_ok, hruns, Sem.run_pure]
    ·intro b
     show O1 b + O2 b ≤ 1
     have := tk.one b; have := h1 b
     rcases zlt (O1 b) with h | h
     ·omega
     ·have := hdis b h; omega
    ·intro b hb
     show O1 b + O2 b = 0
     have := hdS b hb; have := h2 b hb; omega
    ·intro b hb
     rcases h4 b hb with h | ⟨t, ht⟩
     ·exact tk.new b h
     ·exact .inr ⟨t, by have := tk.le t b; omega⟩
    ·intro b hb
     have hb' : 0 < O1 b + O2 b := hb
     rcases zlt (O1 b) with h | h
     ·obtain ⟨t, ht⟩ := h5 b (by omega)
      exact ⟨t, by have := tk.le t b; omega⟩
     ·exact tk.src b h
theorem yr5 : ∀ (xs : List AV) (s t : Nat), lk ((List.range' s xs.length).zip xs) t = if s ≤ t then xs[t - s]? else none
 | [], s, t => by simp [lk]
 | x :: xs, s, t => by
  simp only [List.length_cons, List.range'_succ, List.zip_cons_cons, lk]
  by_cases h : s = t
  ·subst h; simp
  ·rw [if_neg h, yr5 xs (s + 1) t]
   by_cases hl : s ≤ t
   ·rw [if_pos (by omega), if_pos hl]
    have : t - s = (t - (s + 1)) + 1 := by omega
    rw [this, List.getElem?_cons_succ]
   ·rw [if_neg (by omega), if_neg hl]
theorem yki (xs : List AV) (t : Nat) : lk (ydc xs) t = xs[t]? := by
 have := yr5 xs 0 t
 simpa [ydc, List.range_eq_range'] using this
theorem St.enter {args : List Value} {xs : List AV} (hS : ∀ b, S b → b < w.heap.size) (h : Rc (Rv P w.heap.size w S n) args xs (fun _ => 0)) {k : Nat} :
  St P ⟨fun _ => False, 0, #[]⟩ w.heap.size w n (ydc xs) (args.toArray ++ Array.replicate k undef) w S (fun _ _ => 0) := by
 have hrel : ∀ t x, lk (ydc xs) t = some x → ∃ v, (args.toArray ++ Array.replicate k undef)[t]? = some v ∧ Rv P w.heap.size w S n v x (fun _ => 0) := by
  intro t x hx
  rw [yki] at hx
  obtain ⟨v, O1, hv, hr, hO⟩ := h.get hx
  have htl : t < args.length := (zlk.1 hv).1
  refine ⟨v, ?_, hr.cast fun b => by have := hO b; simp at this; omega⟩
  rw [Array.getElem?_append_left (by simpa using htl)]
  simpa using hv
 refine ⟨Below.refl _ _, zly _, hS, fun _ _ _ => rfl, fun _ _ => Nat.zero_le _, fun _ _ _ _ => .inl rfl, ?_, fun _ _ _ => rfl, ?_, fun _ h => h.elim, fun _ h => absurd h (Nat.not_lt_zero _)⟩
 ·intro t x hx
  obtain ⟨v, hv, hr⟩ := hrel t x hx
  exact ⟨v, hv, .inr hr⟩
 ·intro t x r hx hr
  obtain ⟨v, hv, hrv⟩ := hrel t x hx
  have := hrv.noLeaf
  rw [this] at hr; cases hr
theorem pureC (hcx : CxOk P cx) {f : FuncId} {fn : Func} {H : Hints} {fuel : Nat} {xs : List AV} {r : AV} (hf : P.funcs[f]? = some fn) (hname : (fn.name == "runtime.NumGoroutine") = false) (hlen : xs.length ≤ cx.N) (hlo : cx.lo = 0)
  (h : yor cx H fuel fn xs = some r) : PureC P f xs r := by
 unfold yor at h
 cases hb : fn.body with
 | none => rw [hb] at h; cases h
 | some c =>
  rw [hb] at h
  simp only at h
  split at h
  ·rename_i hN
   refine ⟨?_, ?_⟩
   ·intro args w
    have hn' : ¬ (fn.name = "runtime.NumGoroutine") := by simpa using hname
    simp [callFunc, hf, hn', hb]
   ·intro w S args n hS hargs
    have hal : args.length = xs.length := hargs.length
    have hargs' : Rc (Rv P w.heap.size w S (n + 1)) args xs (fun _ => 0) := hargs.le (Nat.le_succ n)
    refine calls_of_wp hf hb ?_
    have hst := St.enter hS hargs' (k := fn.ntmps - args.toArray.size)
    have hag : Agree P ⟨fun _ => False, 0, #[]⟩ w.heap.size w S cx [] (ydc xs) { tmps := args.toArray ++ Array.replicate (fn.ntmps - args.toArray.size) undef, defers := [] } w := by
     refine ⟨rfl, ⟨?_, hlo.symm⟩, n + 1, S, _, Nat.succ_pos n, .refl _ _, hst⟩
     simp; omega
    cases he : evC cx H fuel c (ydc xs) with
    | none => rw [he] at h; simp [finE] at h
    | some xe =>
     obtain ⟨ex, env'⟩ := xe
     rw [he] at h
     have fin : ∀ a' w', Agree P ⟨fun _ => False, 0, #[]⟩ w.heap.size w S cx [] env' a' w' → (ydz cx fn.results.toList env').map tupR = some r → a'.defers = [] ∧ ∃ v, (results fn a'.tmps).run P w' = .ok v w' ∧
       ∃ v' n' S' O, Ending.returned v = .returned v' ∧ Below w.heap.size w w' ∧ Rv P w.heap.size w' S' n' v' r O ∧ (∀ b, O b ≤ 1) ∧
        (∀ b, S' b → (S b ∨ w.heap.size ≤ b) ∧ b < w'.heap.size) ∧ (∀ b, S' b → O b = 0) ∧ (∀ b, S b → S' b) := by
      intro a' w' ⟨hd, hN', n1, S1, Os1, hn1, hgr, hst1⟩ ht
      refine ⟨hd, ?_⟩
      cases hq : ydz cx fn.results.toList env' with
      | none => rw [hq] at ht; cases ht
      | some ys =>
       rw [hq] at ht
       injection ht with ht
       obtain ⟨vs, n2, S2, O, hrun, hrc, h1, h2, h3, h4, h5⟩ := ygs hcx _ hst1 hn1 hq
       have hres : (results fn a'.tmps).run P w' = .ok (if h : vs.toArray.size = 1 then vs.toArray[0] else .tuple vs.toArray) w' := by
        have e2 : (fn.results.mapM (ybt a'.tmps)).run P w' = .ok vs.toArray w' := by
         rw [Array.mapM_eq_mapM_toList, Sem.run_map, hrun]
         simp
        have e4 : results fn a'.tmps = (do let vs ← fn.results.mapM (ybt a'.tmps); pure (if h : vs.size = 1 then vs[0] else .tuple vs)) := by
         unfold results
         congr 1
        rw [e4, Sem.run_bind, e2]
        simp
       refine ⟨_, hres, _, n2 + 1, S2, O, rfl, hst1.below, ?_, h1, ?_, h2, fun b hb => h3 b (hgr.1 b hb)⟩
       ·match ys, hrc, ht with
        | [y], hrc, ht =>
         obtain ⟨v, rfl, hv⟩ := hrc.one
         have : r = y := ht.symm
         subst this
         exact hv.le (Nat.le_succ n2)
        | [], hrc, ht =>
         have : r = .tup [] := ht.symm
         subst this
         have hl := hrc.length
         have hvs : vs = [] := zli hl
         subst hvs
         exact ⟨#[], rfl, hrc⟩
        | y1 :: y2 :: ys, hrc, ht =>
         have : r = .tup (y1 :: y2 :: ys) := ht.symm
         subst this
         have hl := hrc.length
         simp only [List.length_cons] at hl
         rw [dif_neg (by simp; omega)]
         exact ⟨vs.toArray, rfl, hrc⟩
       ·intro b hb
        rcases h4 b hb with h | ⟨t, ht⟩
        ·exact ⟨hgr.2 b h, hst1.sLt b h⟩
        ·have := hst1.lt t b ht
         exact ⟨.inr this.1, this.2⟩
     refine ysh (yxk hcx) H fuel c he hag fun a' w' hag' => ?_
     cases ex with
     | normal => exact fin a' w' hag' h
     | ret => exact fin a' w' hag' h
     | exit id => simp [finE] at h
  ·cases h
theorem Rc.mono' {R R' : Value → AV → Own → Prop} {vs : List Value} {xs : List AV} {O : Own} (h : Rc R vs xs O) (hR : ∀ v x O1, x ∈ xs → R v x O1 → R' v x O1) : Rc R' vs xs O := by
 induction h with
 | nil hz => exact .nil hz
 | cons h1 _ hO ih => exact .cons (hR _ _ _ (by simp) h1) (ih fun v x O1 hx hr => hR v x O1 (by simp [hx]) hr) hO
def yq0 (cx : Cx) (H : Hints) (fuel : Nat) (fn : Func) (x : AV) : Option AV :=
 match fn.body with
 | some c => if fn.ntmps = cx.N ∧ fn.results = #[] then
   (match evC cx H fuel c [(0, x)] with
   | some (.normal, env) => lk env 0
   | some (.ret, env) => lk env 0
   | _ => none)
  else none
 | none => none
theorem mutC (hcx : CxOk P cx) {f : FuncId} {fn : Func} {H : Hints} {fuel : Nat} {e : TypeId} {cap : Option Nat} {xs ys : List AV} (hf : P.funcs[f]? = some fn) (hname : (fn.name == "runtime.NumGoroutine") = false) (hlen : 1 ≤ cx.N) (hlo : cx.lo = 1)
  (hy : ∀ y ∈ flat ys, ∃ v, y = .atom v) (h : yq0 cx H fuel fn (.sl .own e cap xs) = some (.sl .own e cap ys)) : MutC P f (.sl .own e cap xs) (.sl .own e cap ys) := by
 unfold yq0 at h
 cases hb : fn.body with
 | none => rw [hb] at h; cases h
 | some c =>
  rw [hb] at h
  simp only at h
  split at h
  ·rename_i hN
   refine ⟨?_, ?_⟩
   ·intro args w
    have hn' : ¬ (fn.name = "runtime.NumGoroutine") := by simpa using hname
    simp [callFunc, hf, hn', hb]
   ·intro B0 w S v n O hB0 hS hO1 hrv
    refine calls_of_wp hf hb ?_
    have hsl0 : ∀ k, (#[v] ++ Array.replicate k undef)[0]? = some v := fun k => by rw [Array.getElem?_append_left (by simp)]; rfl
    have hlt := Rv.owned n v _ O hrv
    have hst : St P ⟨fun b => b < w.heap.size ∧ O b = 0, 1, #[v]⟩ B0 w (n + 1) [(0, .sl .own e cap xs)] (#[v] ++ Array.replicate (fn.ntmps - 1) undef) w (fun b => b < w.heap.size ∧ O b = 0) (fun t => if t = 0 then O else fun _ => 0) := by
     refine ⟨Below.refl _ _, hB0, fun b hb => hb.1, ?_, ?_, ?_, ?_, ?_, ?_, fun b hb => ⟨hb, rfl⟩, ?_⟩
     ·intro b t hb
      by_cases ht : t = 0 <;> simp [ht, hb.2]
     ·intro t b
      by_cases ht : t = 0 <;> simp [ht, hO1 b]
     ·intro t t' b hne
      by_cases ht : t = 0
      ·right; rw [if_neg (by omega)]
      ·left; rw [if_neg ht]
     ·intro t x hx
      simp only [lk] at hx
      split at hx
      ·rename_i ht
       subst ht
       injection hx with hx; subst hx
       refine ⟨v, hsl0 _, .inr ?_⟩
       rw [if_pos rfl]
       exact (Rv.frame (fun b hb => hS b hb) (fun _ _ => rfl) _ _ _ _ (fun _ _ => rfl) hrv).le (Nat.le_succ n)
      ·cases hx
     ·intro t ht b
      simp only [lk] at ht
      split at ht
      ·cases ht
      ·rename_i h0; rw [if_neg (Ne.symm h0)]
     ·intro t x r hx hr
      simp only [lk] at hx
      split at hx
      ·injection hx with hx; subst hx; cases hr
      ·cases hx
     ·intro t ht
      have : t = 0 := by have ht' : t < 1 := ht; omega
      subst this
      exact hsl0 _
    have hag : Agree P ⟨fun b => b < w.heap.size ∧ O b = 0, 1, #[v]⟩ B0 w (fun b => b < w.heap.size ∧ O b = 0) cx [] [(0, .sl .own e cap xs)] { tmps := #[v] ++ Array.replicate (fn.ntmps - 1) undef, defers := [] } w := by
     refine ⟨rfl, ⟨?_, hlo.symm⟩, n + 1, _, _, Nat.succ_pos n, .refl _ _, hst⟩
     have := hN.1
     simp; omega
    cases he : evC cx H fuel c [(0, .sl .own e cap xs)] with
    | none => rw [he] at h; cases h
    | some xe =>
     obtain ⟨ex, env'⟩ := xe
     rw [he] at h
     have fin : ∀ a' w', Agree P ⟨fun b => b < w.heap.size ∧ O b = 0, 1, #[v]⟩ B0 w (fun b => b < w.heap.size ∧ O b = 0) cx [] env' a' w' → lk env' 0 = some (.sl .own e cap ys) → a'.defers = [] ∧ ∃ rv, (results fn a'.tmps).run P w' = .ok rv w' ∧
       ∃ n' O', Ending.returned rv = .returned (.tuple #[]) ∧ Below B0 w w' ∧ (∀ b, b < w.heap.size → O b = 0 → w'.heap[b]? = w.heap[b]?) ∧ Rv P B0 w' S n' v (.sl .own e cap ys) O' ∧ (∀ b, O' b ≤ 1) ∧
        (∀ b, 0 < O' b → 0 < O b ∨ w.heap.size ≤ b) := by
      intro a' w' ⟨hd, hN', n1, S1, Os1, hn1, hgr, hst1⟩ ht
      refine ⟨hd, .tuple #[], ?_, ?_⟩
      ·simp [results, hN.2]
      ·obtain ⟨v1, hv1, hs1⟩ := hst1.rel 0 _ ht
       have hpin := hst1.pin 0 (by show 0 < 1; omega)
       rw [hv1] at hpin
       simp at hpin
       subst hpin
       have hr1 := hs1.rv rfl
       obtain ⟨m, rfl⟩ := hr1.pos
       obtain ⟨vs, O2, ho, hcap, hu, hrc, hOO⟩ := hr1
       refine ⟨m + 1, Os1 0, rfl, hst1.below, fun b hb h0 => (hst1.keep b ⟨hb, h0⟩).2, ⟨vs, O2, ho, hcap, hu, ?_, hOO⟩, hst1.one 0, ?_⟩
       ·refine hrc.mono' ?_
        intro u x O3 hx hr
        obtain ⟨q, rfl⟩ := hy x hx
        obtain ⟨k, rfl⟩ := hr.pos
        exact hr
       ·intro b hb
        rcases Nat.lt_or_ge b w.heap.size with h2 | h2
        ·left
         rcases zlt (O b) with h3 | h3
         ·have := hst1.excl b 0 (hgr.1 b ⟨h2, h3⟩); omega
         ·exact h3
        ·exact .inr h2
     refine ysh (yxk hcx) H fuel c he hag fun a' w' hag' => ?_
     cases ex with
     | normal => exact fin a' w' hag' h
     | ret => exact fin a' w' hag' h
     | exit id => cases h
  ·cases h
end
def TyAll (P : Program) : yf0 → Prop
 | [] => True
 | (t, i) :: T => TyOk P t i ∧ TyAll P T
theorem TyAll.get {P : Program} : ∀ {T : yf0}, TyAll P T → ∀ t i, tyF T t = some i → TyOk P t i
 | [], _, t, i, h => by cases h
 | (k, j) :: T, hT, t, i, h => by
  simp only [tyF] at h
  split at h
  ·rename_i e
   subst e
   injection h with h; subst h
   exact hT.1
  ·exact TyAll.get hT.2 t i h
end Go.Lf
end

section
namespace Go.Lf
open Go Go.RowKit
def frcN {β : Type} (n : Nat) (k : Nat → β) : β := match n with
 | 0 => k 0
 | m + 1 => k (m + 1)
theorem yd6 {β : Type} (n : Nat) (k : Nat → β) : frcN n k = k n := by cases n <;> rfl
def frcI {β : Type} (n : Int) (k : Int → β) : β := match n with
 | .ofNat m => frcN m fun m => k (.ofNat m)
 | .negSucc m => frcN m fun m => k (.negSucc m)
theorem yu4 {β : Type} (n : Int) (k : Int → β) : frcI n k = k n := by cases n <;> simp [frcI, yd6]
def frcV {β : Type} (v : Value) (k : Value → β) : β := match v with
 | .int q n => frcI n fun n => k (.int q n)
 | .bool true => k (.bool true)
 | .bool false => k (.bool false)
 | v => k v
theorem yuz {β : Type} (v : Value) (k : Value → β) : frcV v k = k v := by
 unfold frcV; split <;> first | rfl | exact yu4 _ _
def frcO {β : Type} (c : Option Nat) (k : Option Nat → β) : β := match c with
 | none => k none
 | some n => frcN n fun n => k (some n)
theorem yn9 {β : Type} (c : Option Nat) (k : Option Nat → β) : frcO c k = k c := by cases c <;> simp [frcO, yd6]
def frcL {α β : Type} (f : α → (α → β) → β) : List α → (List α → β) → β
 | [], k => k []
 | x :: l, k => f x fun x => frcL f l fun l => k (x :: l)
theorem yfe {α β : Type} (f : α → (α → β) → β) (hf : ∀ x k, f x k = k x) : ∀ (l : List α) (k : List α → β), frcL f l k = k l
 | [], _ => rfl
 | x :: l, k => by simp only [frcL, hf, yfe f hf l]
def frcP {β : Type} (q : Nat × Nat) (k : Nat × Nat → β) : β := match q with
 | (a, b) => frcN a fun a => frcN b fun b => k (a, b)
theorem yu2 {β : Type} (q : Nat × Nat) (k : Nat × Nat → β) : frcP q k = k q := by obtain ⟨a, b⟩ := q; simp [frcP, yd6]
def frcR {β : Type} (q : Option (Nat × Nat × Option Nat)) (k : Option (Nat × Nat × Option Nat) → β) : β := match q with
 | none => k none
 | some (a, b, c) => frcN a fun a => frcN b fun b => frcO c fun c => k (some (a, b, c))
theorem yu1 {β : Type} (q : Option (Nat × Nat × Option Nat)) (k : Option (Nat × Nat × Option Nat) → β) : frcR q k = k q := by
 unfold frcR; split <;> simp [yd6, yn9]
def frcM {β : Type} (m : Mode) (k : Mode → β) : β := match m with
 | .own => k .own
 | .fresh => k .fresh
 | .any => k .any
theorem yu3 {β : Type} (m : Mode) (k : Mode → β) : frcM m k = k m := by cases m <;> rfl
def frc {β : Type} : Nat → AV → (AV → β) → β
 | 0, x, k => k x
 | n + 1, x, k => match x with
  | .atom v => frcV v fun v => k (.atom v)
  | .bad => k .bad
  | .agg cs => frcL (frc n) cs fun cs => k (.agg cs)
  | .tup cs => frcL (frc n) cs fun cs => k (.tup cs)
  | .sl m e c xs => frcM m fun m => frcN e fun e => frcO c fun c => frcL (frc n) xs fun xs => k (.sl m e c xs)
  | .box cs => frcL (frc n) cs fun cs => k (.box cs)
  | .al r p q => frcN r fun r => frcL frcP p fun p => frcR q fun q => k (.al r p q)
  | .adr r p i c => frcN r fun r => frcL frcP p fun p => frcN i fun i => frcN c fun c => k (.adr r p i c)
  | .vadr cs c => frcL (frc n) cs fun cs => frcN c fun c => k (.vadr cs c)
  | .fn f cs => frcN f fun f => frcL (frc n) cs fun cs => k (.fn f cs)
  | .mp g E => k (.mp g E)
theorem yig {β : Type} : ∀ (n : Nat) (x : AV) (k : AV → β), frc n x k = k x
 | 0, _, _ => rfl
 | n + 1, x, k => by
  have ih := yfe (β := β) (frc n) (fun x k => yig n x k)
  cases x <;> simp only [frc, yuz, yu3, yd6, yn9, yu1, ih, yfe frcP yu2]
def frcT {β : Type} (q : Nat × AV) (k : Nat × AV → β) : β := match q with
 | (t, x) => frcN t fun t => frc 12 x fun x => k (t, x)
theorem yu0 {β : Type} (q : Nat × AV) (k : Nat × AV → β) : frcT q k = k q := by obtain ⟨a, b⟩ := q; simp [frcT, yd6, yig]
def frcE {β : Type} (env : Env) (k : Env → β) : β := frcL frcT env k
theorem yhc {β : Type} (env : Env) (k : Env → β) : frcE env k = k env := yfe frcT yu0 env k
def yku {β : Type} (cx : Cx) (ops : Array Oper) : List Oper → Env → (List Log → Env → Option β) → Option β
 | [], env, k => k [] env
 | o :: l, env, k => (ybl cx ops o).runK env fun rs e => frcE (zqi e env) fun env' => yku cx ops l env' fun ls env2 => k (yax env rs e :: ls) env2
theorem yin {β : Type} (cx : Cx) (ops : Array Oper) : ∀ (l : List Oper) (env : Env) (k : List Log → Env → Option β), yku cx ops l env k = ygg cx ops l env k
 | [], _, _ => rfl
 | o :: l, env, k => by
  simp only [yku, ygg, yhc]
  congr 1
  funext rs e
  exact yin cx ops l _ _
def yim {β : Type} (cx : Cx) (ops : Array Oper) (draw : Bool) (env : Env) (k : Env → Option β) : Option β :=
 yku { cx with dr := draw } ops ops.toList env fun ls env' => if draw then (if ycx (ycw ops.toList) ls && yd9 ops.toList then k env' else none) else k env'
def evF {β : Type} (cx : Cx) (H : Hints) (fuel : Nat) : Code → Env → (Ex → Env → Option β) → Option β
 | .skip, env, k => k .normal env
 | .label _, env, k => k .normal env
 | .region id ops draw, env, k => yim cx ops draw env fun env' => frcE (keepE ((H.live id).map fun t => (t, .keep)) env') fun env' => k .normal env'
 | .seq a b, env, k => evF cx H fuel a env fun ex env' => match ex with
  | .normal => evF cx H fuel b env' k
  | ex => k ex env'
 | .cond (.tmp t) x y, env, k => match lk env t with
  | some (.atom (.bool b)) => if b = true then evF cx H fuel x env k else evF cx H fuel y env k
  | _ => none
 | .block id c, env, k => evF cx H fuel c env fun ex env' => match ex with
  | .exit id' => if id' = id then k .normal env' else k (.exit id') env'
  | ex => k ex env'
 | .loop c, env, k => yic (keepE (H.loop (yby c))) (fun env k => frcE env fun env => evF cx H fuel c env k) fuel env k
 | .exit id, env, k => k (.exit id) env
 | .ret, env, k => k .ret env
 | _, _, _ => none
theorem yfb {β : Type} (nrm : Env → Env) {f g : Env → (Ex → Env → Option β) → Option β} (h : ∀ env k, f env k = g env k) : ∀ (n : Nat) (env : Env) (k : Ex → Env → Option β), yic nrm f n env k = yic nrm g n env k
 | 0, _, _ => rfl
 | n + 1, env, k => by
  simp only [yic, h]
  congr 1
  funext ex env'
  cases ex <;> first | exact yfb nrm h n env' k | rfl
theorem ysg {β : Type} (cx : Cx) (H : Hints) (fuel : Nat) : ∀ (c : Code) (env : Env) (k : Ex → Env → Option β), evF cx H fuel c env k = evK cx H fuel c env k := by
 intro c
 induction c with
 | region id ops draw =>
  intro env k
  simp only [evF, evK, yim, ydu, yin, yhc]
 | seq a b iha ihb =>
  intro env k
  simp only [evF, evK, iha]
  congr 1
  funext ex env'
  cases ex <;> first | exact ihb env' k | rfl
 | cond c x y ihx ihy =>
  intro env k
  cases c with
  | tmp t =>
   simp only [evF, evK]
   cases lk env t with
   | none => rfl
   | some z =>
    cases z with
    | atom v =>
     cases v with
     | bool b => simp only [yvr, ihx, ihy]
     | _ => rfl
    | _ => rfl
  | _ => rfl
 | block id c ih =>
  intro env k
  simp only [evF, evK, ih]
  rfl
 | loop c ih =>
  intro env k
  simp only [evF, evK]
  exact yfb _ (fun env k => by rw [yhc]; exact ih env k) _ _ _
 | _ => intros; rfl
def yoq (cx : Cx) (H : Hints) (fuel : Nat) (fn : Func) (args : List AV) : Option AV :=
 match fn.body with
 | some c => if fn.ntmps = cx.N then evF cx H fuel c (ydc args) fun ex env => frcE env fun env => (finK cx fn.results.toList ex env).bind fun r => frc 12 r some else none
 | none => none
theorem yop (cx : Cx) (H : Hints) (fuel : Nat) (fn : Func) (args : List AV) : yoq cx H fuel fn args = yor cx H fuel fn args := by
 rw [← yon]
 unfold yoq yoo
 cases fn.body with
 | none => rfl
 | some c =>
  simp only [ysg, yhc, yig]
  congr 2
  funext ex env
  cases finK cx fn.results.toList ex env <;> rfl
end Go.Lf
end

section
namespace Go.Lf
open Go Go.RowKit
structure Tab where
 T : yf0
 eqT : TypeId → List Value → List Value → Option Bool
 K : FuncId → List AV → Option AV
 KM : FuncId → AV → Option AV
 fns : FuncId → Option (Func × Hints)
 muts : FuncId → Option (Func × Hints)
 fuel : Nat
def ynw : AV → Bool
 | .atom _ => true
 | _ => false
def yom (cx : Cx) (H : Hints) (fuel : Nat) (fn : Func) (x : AV) : Option AV :=
 match fn.body with
 | some c => if fn.ntmps = cx.N ∧ fn.results = #[] then
   frc 12 x fun x => evF cx H fuel c [(0, x)] fun ex env => match ex with
   | .normal => lk env 0
   | .ret => lk env 0
   | _ => none
  else none
 | none => none
theorem yol (cx : Cx) (H : Hints) (fuel : Nat) (fn : Func) (x : AV) : yom cx H fuel fn x = yq0 cx H fuel fn x := by
 unfold yom yq0
 cases fn.body with
 | none => rfl
 | some c =>
  simp only [ysg, ysf, yig]
  congr 1
  cases evC cx H fuel c [(0, x)] with
  | none => rfl
  | some r =>
   obtain ⟨ex, env⟩ := r
   cases ex <;> rfl
mutual
def Tab.run (tab : Tab) : Nat → FuncId → List AV → Option AV
 | 0, f, xs => tab.K f xs
 | d + 1, f, xs => match tab.K f xs with
  | some r => some r
  | none => match tab.fns f with
   | some (fn, H) => if xs.length ≤ fn.ntmps ∧ (fn.name == "runtime.NumGoroutine") = false then frcL (frc 12) xs fun xs => yoq ⟨tab.T, tab.run d, tab.runM d, tab.eqT, fn.ntmps, 0, false⟩ H tab.fuel fn xs else none
   | none => none
def Tab.runM (tab : Tab) : Nat → FuncId → AV → Option AV
 | 0, f, x => tab.KM f x
 | d + 1, f, x => match tab.KM f x with
  | some r => some r
  | none => match tab.muts f, x with
   | some _, .bad => some .bad
   | some (fn, H), .sl .own e cap xs => if 1 ≤ fn.ntmps ∧ (fn.name == "runtime.NumGoroutine") = false then
     (match yom ⟨tab.T, tab.run d, tab.runM d, tab.eqT, fn.ntmps, 1, false⟩ H tab.fuel fn (.sl .own e cap xs) with
     | some (.sl .own e' cap' ys) => if e' = e ∧ cap' = cap ∧ (flat ys).all ynw = true then some (.sl .own e cap ys) else none
     | _ => none)
    else none
   | _, _ => none
end
structure TabOk (P : Program) (tab : Tab) : Prop where
 ty : ∀ t i, tyF tab.T t = some i → TyOk P t i
 eq : ∀ t us vs r, tab.eqT t us vs = some r → ∀ (w : World) (x y : Operand),
  (do eqGuard .eql t x y (.agg us.toArray) (.agg vs.toArray); binOp .eql t (.agg us.toArray) (.agg vs.toArray) : Sem Value).run P w = .ok (.bool r) w ∧
  (do eqGuard .neq t x y (.agg us.toArray) (.agg vs.toArray); binOp .neq t (.agg us.toArray) (.agg vs.toArray) : Sem Value).run P w = .ok (.bool (!r)) w
 K : ∀ f xs r, tab.K f xs = some r → PureC P f xs r
 KM : ∀ f x r, tab.KM f x = some r → x ≠ .bad → MutC P f x r
 mixed : P.follows .mixedOrders = true
 fns : ∀ f fn H, tab.fns f = some (fn, H) → P.funcs[f]? = some fn
 muts : ∀ f fn H, tab.muts f = some (fn, H) → P.funcs[f]? = some fn
theorem Tab.ok {P : Program} {tab : Tab} (h : TabOk P tab) : ∀ d, (∀ f xs r, tab.run d f xs = some r → PureC P f xs r) ∧ (∀ f x r, tab.runM d f x = some r → x ≠ .bad → MutC P f x r)
 | 0 => ⟨fun f xs r hr => h.K f xs r (by simpa [Tab.run] using hr), fun f x r hr hx => h.KM f x r (by simpa [Tab.runM] using hr) hx⟩
 | d + 1 => by
  obtain ⟨ih1, ih2⟩ := Tab.ok h d
  have hcx : ∀ n lo, CxOk P ⟨tab.T, tab.run d, tab.runM d, tab.eqT, n, lo, false⟩ := fun n lo => ⟨h.ty, h.eq, ih1, ih2, h.mixed⟩
  constructor
  ·intro f xs r hr
   unfold Tab.run at hr
   split at hr
   ·rename_i r' hk
    injection hr with hr; subst hr
    exact h.K f xs _ hk
   ·split at hr
    ·rename_i fn H hf
     split at hr
     ·rename_i hc
      rw [yfe _ (yig 12), yop] at hr
      exact pureC (hcx fn.ntmps 0) (h.fns f fn H hf) hc.2 hc.1 rfl hr
     ·cases hr
    ·cases hr
  ·intro f x r hr hx
   unfold Tab.runM at hr
   split at hr
   ·rename_i r' hk
    injection hr with hr; subst hr
    exact h.KM f x _ hk hx
   ·split at hr
    ·exact absurd rfl hx
    ·rename_i fn H e cap xs hf _
     split at hr
     ·rename_i hc
      rw [yol] at hr
      split at hr
      ·rename_i e' cap' ys he
       split at hr
       ·rename_i h3
        obtain ⟨rfl, rfl, h4⟩ := h3
        injection hr with hr; subst hr
        refine mutC (hcx fn.ntmps 1) (h.muts f fn H hf) hc.2 hc.1 rfl ?_ he
        intro y hy
        have := zls.1 h4 y hy
        cases y <;> first | exact ⟨_, rfl⟩ | simp [ynw] at this
       ·cases hr
      ·cases hr
     ·cases hr
    ·cases hr
end Go.Lf
end

section
namespace Go.Lf
open Go Go.RowKit
def yir : TypeDesc → Bool
 | .struct _ => true
 | .array _ _ => true
 | _ => false
def ynx : Value → Bool
 | .agg _ => true
 | _ => false
def ysa (P : Program) : TypeDesc → Option TK
 | .bool => some .bool
 | .map k e => some (.map k e)
 | .int k => some (.int k)
 | .string => some .str
 | .slice e => some (.slice e)
 | .array m e => some (.array m e)
 | .struct f => match f.toList.mapM (fun x => (P.info? x.type).map fun i => (x.offset, i.size)) with
  | some fs => if f.toList.map (fun x => (x.offset, P.cellsOf x.type)) = fs then some (.struct fs) else none
  | none => none
 | _ => some .plain
def yiw (P : Program) (t : TypeId) : Option TInfo :=
 match P.info? t, P.underlying t with
 | some j, some d => match j.zero, ysa P d with
  | some z, some k =>
   if j.size = z.cells.toList.length ∧ z.cells.toList.all Value.oneCell' = true ∧ (yir d = false → z.cells.toList.length = 1) ∧ (yir d = true → ynx z = true) then
    some ⟨z.cells.toList, j.bytes, yir d, k⟩
   else none
  | _, _ => none
 | _, _ => none
theorem ylj {P : Program} {t : TypeId} {i : TInfo} (h : yiw P t = some i) : TyOk P t i := by
 unfold yiw at h
 split at h
 case h_2 => cases h
 rename_i j d hj hd
 split at h
 case h_2 => cases h
 rename_i z k hz hk
 by_cases hc : j.size = z.cells.toList.length ∧ z.cells.toList.all Value.oneCell' = true ∧ (yir d = false → z.cells.toList.length = 1) ∧ (yir d = true → ynx z = true)
 case neg => rw [if_neg hc] at h; cases h
 rw [if_pos hc] at h
 injection h with h; subst h
 obtain ⟨h1, h2, h3, h4⟩ := hc
 refine ⟨⟨j, z, d, hj, hz, rfl, h1, rfl, hd, ?_, ?_, ?_⟩, h2, h3⟩
 ·cases d <;> rfl
 ·intro ha
  have := h4 ha
  cases z <;> first | (simp [ynx] at this; done) | simp [Value.cells]
 ·cases d <;> simp only [ysa] at hk <;> first | (injection hk with hk; subst hk; first | rfl | trivial) | skip
  rename_i f
  split at hk
  case h_2 => cases hk
  rename_i fs hf
  split at hk
  case isFalse => cases hk
  rename_i he
  injection hk with hk; subst hk
  exact ⟨f, rfl, he, hf⟩
theorem yl7 {P : Program} : ∀ {T : yf0}, T.map (fun p => yiw P p.1) = T.map (fun p => some p.2) → ∀ t i, tyF T t = some i → TyOk P t i
 | [], _, t, i, h => by cases h
 | (k, j) :: T, hT, t, i, h => by
  simp only [List.map_cons, List.cons.injEq] at hT
  simp only [tyF] at h
  split at h
  ·rename_i e
   subst e
   injection h with h; subst h
   exact ylj hT.1
  ·exact yl7 hT.2 t i h
end Go.Lf
end

section
namespace Go.Lf
open Go Go.RowKit
inductive Ans where
 | c
 | b (v : Bool)
 | r (x : AV)
 | lp (ex : Ex) (env : Env)
 | cut (ex : Ex) (env : Env)
def RP.runA {α : Type} (env : Env) : RP α → List Ans → Option ((List Nat × α) × List Ans × List Prop)
 | .ret a, as => some (([], a), as, [])
 | .fail, _ => none
 | .read t k, as => match (k (lk env t)).runA env as with
  | some ((l, a), as, ps) => some ((2 * t :: l, a), as, ps)
  | none => none
 | .head t k, as => match (k ((lk env t).map hdAV)).runA env as with
  | some ((l, a), as, ps) => some (((2 * t + 1) :: l, a), as, ps)
  | none => none
 | .br b p q, .c :: as => if b = true then p.runA env as else q.runA env as
 | .br b p q, .b v :: as => match (if v = true then p.runA env as else q.runA env as) with
  | some (la, as, ps) => some (la, as, (b = v) :: ps)
  | none => none
 | .br _ _ _, _ => none
 | .el x k, .c :: as => (k x).runA env as
 | .el x k, .r y :: as => match (k y).runA env as with
  | some (la, as, ps) => some (la, as, (x = y) :: ps)
  | none => none
 | .el _ _, _ => none
theorem RP.runA_ok {α : Type} {env : Env} : ∀ {p : RP α} {as as' : List Ans} {la : List Nat × α} {ps : List Prop}, p.runA env as = some (la, as', ps) → (∀ q ∈ ps, q) → p.run env = some la := by
 intro p
 induction p with
 | ret a => intro as as' la ps h _; simp only [RP.runA] at h; injection h with h; injection h with h1 _; subst h1; rfl
 | fail => intro as as' la ps h _; simp [RP.runA] at h
 | read t k ih =>
  intro as as' la ps h hp
  simp only [RP.runA] at h
  cases hr : (k (lk env t)).runA env as with
  | none => rw [hr] at h; cases h
  | some r =>
   obtain ⟨⟨l, a⟩, as2, ps2⟩ := r
   rw [hr] at h
   injection h with h; injection h with h1 h2; injection h2 with h2 h3; subst h1 h2 h3
   simp only [RP.run, ih _ hr hp]
 | head t k ih =>
  intro as as' la ps h hp
  simp only [RP.runA] at h
  cases hr : (k ((lk env t).map hdAV)).runA env as with
  | none => rw [hr] at h; cases h
  | some r =>
   obtain ⟨⟨l, a⟩, as2, ps2⟩ := r
   rw [hr] at h
   injection h with h; injection h with h1 h2; injection h2 with h2 h3; subst h1 h2 h3
   simp only [RP.run, ih _ hr hp]
 | br b p q ihp ihq =>
  intro as as' la ps h hp
  match as, h with
  | [], h => simp [RP.runA] at h
  | .c :: as, h =>
   simp only [RP.runA] at h
   simp only [RP.run]
   split at h
   ·rename_i hb; rw [if_pos hb]; exact ihp h hp
   ·rename_i hb; rw [if_neg hb]; exact ihq h hp
  | .b v :: as, h =>
   simp only [RP.runA] at h
   split at h
   ·rename_i la2 as2 ps2 hr
    injection h with h; injection h with h1 h2; injection h2 with h2 h3; subst h1 h2 h3
    have hb : b = v := hp _ List.mem_cons_self
    subst hb
    simp only [RP.run]
    split at hr
    ·rename_i hb; rw [if_pos hb]; exact ihp hr fun q hq => hp q (List.mem_cons_of_mem _ hq)
    ·rename_i hb; rw [if_neg hb]; exact ihq hr fun q hq => hp q (List.mem_cons_of_mem _ hq)
   ·cases h
  | .r _ :: as, h => simp [RP.runA] at h
  | .lp _ _ :: as, h => simp [RP.runA] at h
 | el x k ih =>
  intro as as' la ps h hp
  match as, h with
  | [], h => simp [RP.runA] at h
  | .c :: as, h => simp only [RP.runA] at h; exact ih x h hp
  | .b v :: as, h => simp [RP.runA] at h
  | .r y :: as, h =>
   simp only [RP.runA] at h
   split at h
   ·rename_i la2 as2 ps2 hr
    injection h with h; injection h with h1 h2; injection h2 with h2 h3; subst h1 h2 h3
    have hx : x = y := hp _ List.mem_cons_self
    subst hx
    exact ih x hr fun q hq => hp q (List.mem_cons_of_mem _ hq)
   ·cases h
  | .lp _ _ :: as, h => simp [RP.runA] at h
def RP.bind {α β : Type} : RP α → (α → RP β) → RP β
 | .ret a, f => f a
 | .fail, _ => .fail
 | .read t k, f => .read t fun o => (k o).bind f
 | .head t k, f => .head t fun o => (k o).bind f
 | .br b p q, f => .br b (p.bind f) (q.bind f)
 | .el x k, f => .el x fun y => (k y).bind f
theorem RP.run_bind {α β : Type} {env : Env} {f : α → RP β} {r : β} {l2 : List Nat} : ∀ {p : RP α} {l : List Nat} {a : α}, p.run env = some (l, a) → (f a).run env = some (l2, r) → (p.bind f).run env = some (l ++ l2, r) := by
 intro p
 induction p with
 | ret a => intro l a' h h2; injection h with h; injection h with h1 h; subst h1 h; exact h2
 | fail => intro l a h; cases h
 | read t k ih =>
  intro l a h h2
  simp only [RP.run] at h
  cases hk : (k (lk env t)).run env with
  | none => rw [hk] at h; cases h
  | some la =>
   obtain ⟨l', a'⟩ := la
   rw [hk] at h
   injection h with h; injection h with h1 h3; subst h1 h3
   simp only [RP.bind, RP.run, ih _ hk h2, List.cons_append]
 | head t k ih =>
  intro l a h h2
  simp only [RP.run] at h
  cases hk : (k ((lk env t).map hdAV)).run env with
  | none => rw [hk] at h; cases h
  | some la =>
   obtain ⟨l', a'⟩ := la
   rw [hk] at h
   injection h with h; injection h with h1 h3; subst h1 h3
   simp only [RP.bind, RP.run, ih _ hk h2, List.cons_append]
 | br b p q ihp ihq =>
  intro l a h h2
  simp only [RP.run, RP.bind] at h ⊢
  split at h
  ·rename_i hb; simp only [if_pos hb]; exact ihp h h2
  ·rename_i hb; simp only [if_neg hb]; exact ihq h h2
 | el x k ih =>
  intro l a h h2
  exact ih x h h2
theorem yhp {α β : Type} (x : Operand) (k : AV → Option Nat → RP α) (f : α → RP β) : (valP x k).bind f = valP x fun y s => (k y s).bind f := by
 cases x with
 | tmp t =>
  show RP.read t _ = RP.read t _
  congr 1
  funext o
  cases o <;> rfl
 | _ => rfl
theorem ymh {α β : Type} (z : AV) (rng : Option (Nat × Nat × Option Nat)) (k : AV → RP α) (f : α → RP β) : (subP z rng k).bind f = subP z rng fun y => (k y).bind f := by
 unfold subP
 split <;> rfl
theorem yms {α β : Type} (y : AV) (i c n : Nat) (k : List AV → RP α) (f : α → RP β) : (segP y i c n k).bind f = segP y i c n fun z => (k z).bind f := by
 unfold segP
 split
 ·show RP.br _ _ _ = RP.br _ _ _
  congr 1
  show RP.el _ _ = RP.el _ _
  congr 1
  funext el
  by_cases hc : c + n ≤ el.ecells.length
  ·simp only [if_pos hc]
  ·simp only [if_neg hc]; rfl
 ·split
  ·rfl
  ·cases seg (.box _) i c n <;> rfl
 ·cases seg y i c n <;> rfl
theorem yie {α β : Type} (f : α → RP β) : ∀ (x : AV) (p : Path) (k : AV → RP α), (getP x p k).bind f = getP x p fun z => (k z).bind f
 | x, [], k => rfl
 | x, (i, c) :: p, k => by
  simp only [getP, yms]
  congr 1
  funext ms
  cases ms with
  | nil => rfl
  | cons y ms => exact yie f y p k
theorem ylu {α β : Type} (y : AV) (k : AV → RP α) (f : α → RP β) : (yek y k).bind f = yek y fun z => (k z).bind f := by
 unfold yek
 split
 ·show RP.read _ _ = RP.read _ _
  congr 1
  funext o
  cases o with
  | none => rfl
  | some xr =>
   simp only
   rw [yie]
   congr 1
   funext z
   split
   ·exact ymh z _ k f
   ·rfl
 ·rfl
 ·rfl
 ·rfl
theorem yo1 {α β : Type} (x : Operand) (k : AV → Bool → RP α) (f : α → RP β) : (argP x k).bind f = argP x fun y b => (k y b).bind f := by
 unfold argP
 rw [yhp]
 congr 1
 funext y s
 split
 ·rfl
 ·split <;> rfl
 ·rfl
 ·rfl
 ·rfl
 ·exact ylu _ _ _
theorem ygi {α β : Type} (f : α → RP β) : ∀ (xs : List Operand) (k : List AV → Bool → RP α), (yjq xs k).bind f = yjq xs fun ys b => (k ys b).bind f
 | [], k => rfl
 | x :: xs, k => by
  simp only [yjq, yo1, ygi f xs]
theorem ym1 {α β : Type} (a : AV) (s : Option Nat) (k : Nat → TypeId → Option Nat → List AV → RP α) (f : α → RP β) : (ownP a s k).bind f = ownP a s fun r e c xs => (k r e c xs).bind f := by
 unfold ownP
 split
 ·show RP.read _ _ = RP.read _ _
  congr 1
  funext o
  cases o with
  | none => rfl
  | some xr =>
   cases xr with
   | sl m e c xs => cases m <;> rfl
   | _ => rfl
 ·rfl
 ·rfl
variable (P : Program)
def yra (cx : Cx) (env : Env) (d : Option Nat) (f : FuncId) (args : List Operand) (as : List Ans) : Option ((List Nat × Eff) × List Ans × List Prop) :=
 match (yjq args fun ys b => .ret (ys, b)).runA env as with
 | some ((l, (ys, b)), .r r :: as, ps) => match (gd (b = true → yam 12 r = true) (outP cx d (ylt r) [] [])).runA env as with
  | some ((l2, e), as, qs) => some ((l ++ l2, e), as, ps ++ (PureC P f ys r :: qs))
  | none => none
 | _ => none
def yso (cx : Cx) (env : Env) (d : Option Nat) (f : FuncId) (x : Operand) (as : List Ans) : Option ((List Nat × Eff) × List Ans × List Prop) :=
 match (valP x fun a s => ownP a s fun r e cap xs => .ret (r, e, cap, xs)).runA env as with
 | some ((l, (r, e, cap, xs)), .r (.sl .own e' cap' ys) :: as, ps) => match (if e' = e then outP cx d (.tup []) [(r, .sl .own e cap ys)] [(r, true)] else .fail : RP Eff).runA env as with
  | some ((l2, ef), as, qs) => some ((l ++ l2, ef), as, ps ++ ((cap' = cap) :: MutC P f (.sl .own e cap xs) (.sl .own e cap ys) :: qs))
  | none => none
 | _ => none
def opA (cx : Cx) (env : Env) (o : Oper) (as : List Ans) : Option ((List Nat × Eff) × List Ans × List Prop) :=
 match o.op with
 | .call { callee := .value (.func f), args := args, argTypes := _ } => match cx.KM f .bad, args.toList with
  | some _, [x] => yso P cx env o.dst f x as
  | some _, _ => none
  | none, args => yra P cx env o.dst f args as
 | .call { callee := .value (.tmp g), args := args, argTypes := _ } => match (lk env g).bind fnOf with
  | some f => match cx.KM f .bad with
   | some _ => none
   | none => match yra P cx env o.dst f args.toList as with
    | some ((l, e), as, ps) => some ((2 * g :: l, e), as, ps)
    | none => none
  | none => none
 | _ => (opP cx o).runA env as
def yml (cx : Cx) (env : Env) (g : Nat) (o : Oper) (as : List Ans) : Option ((List Nat × Eff) × List Ans × List Prop) :=
 match (ymk cx o).runA env as with
 | some ((l, e), as, ps) => some ((2 * g :: l, e), as, ps)
 | none => none
def yqw (cx : Cx) (env : Env) (g : Nat) (o : Oper) (as : List Ans) : Option ((List Nat × Eff) × List Ans × List Prop) :=
 match opA P cx env o as with
 | some ((l, e), as, ps) => some ((2 * g :: l, e), as, ps)
 | none => none
def yxn {α : Type} (q : Prop) : Option (α × List Ans × List Prop) → Option (α × List Ans × List Prop)
 | some (x, as, ps) => some (x, as, q :: ps)
 | none => none
def ys8 (cx : Cx) (ops : Array Oper) (env : Env) (o : Oper) (as : List Ans) : Option ((List Nat × Eff) × List Ans × List Prop) :=
 match o.guard with
 | none => opA P cx env o as
 | some (j, want) => match (ops[j]?).bind (·.dst) with
  | some g => match lk env g with
   | some (.atom (.bool b)) => match as with
    | .c :: as => if (bif want then b else !b) = true then yqw P cx env g o as else yml cx env g o as
    | .b v :: as => yxn (b = v) (if (bif want then v else !v) = true then yqw P cx env g o as else yml cx env g o as)
    | _ => none
   | some (.atom (.tuple _)) => yml cx env g o as
   | _ => none
  | none => none
variable {P : Program}
structure CxBase (P : Program) (cx : Cx) : Prop where
 ty : ∀ t i, tyF cx.T t = some i → TyOk P t i
 eq : ∀ t us vs r, cx.eqT t us vs = some r → ∀ (w : World) (x y : Operand),
  (do eqGuard .eql t x y (.agg us.toArray) (.agg vs.toArray); binOp .eql t (.agg us.toArray) (.agg vs.toArray) : Sem Value).run P w = .ok (.bool r) w ∧
  (do eqGuard .neq t x y (.agg us.toArray) (.agg vs.toArray); binOp .neq t (.agg us.toArray) (.agg vs.toArray) : Sem Value).run P w = .ok (.bool (!r)) w
 mixed : P.follows .mixedOrders = true
def ypb (P : Program) (cx : Cx) (ops : Array Oper) (env : Env) (o : Oper) (x : List Nat × Eff) : Prop :=
 ∃ cxi, CxOk P cxi ∧ cxi.N = cx.N ∧ cxi.lo = cx.lo ∧ (ybl cxi ops o).run env = some x
def yrj (P : Program) (cx : Cx) (env : Env) (o : Oper) (x : List Nat × Eff) : Prop :=
 ∃ cxi, CxOk P cxi ∧ cxi.N = cx.N ∧ cxi.lo = cx.lo ∧ (opP cxi o).run env = some x
theorem yk2 {cx : Cx} {env : Env} {d : Option Nat} {f : FuncId} {args : List Operand} {as as' : List Ans} {x : List Nat × Eff} {ps : List Prop} (h : yra P cx env d f args as = some (x, as', ps)) (hp : ∀ q ∈ ps, q) :
  ∃ K' : FuncId → List AV → Option AV, (∀ g zs r, K' g zs = some r → PureC P g zs r) ∧ (ye4 { cx with K := K' } d f args).run env = some x := by
 classical
 unfold yra at h
 split at h
 ·rename_i l ys b r as2 ps2 hrun
  split at h
  ·rename_i l2 ef as3 qs hrun2
   injection h with h; injection h with h1 h2; injection h2 with h2 h3; subst h1 h2 h3
   have hp1 := RP.runA_ok hrun fun q hq => hp q (by simp [hq])
   have hp2 := RP.runA_ok hrun2 fun q hq => hp q (by simp [hq])
   have hpure : PureC P f ys r := hp _ (by simp)
   obtain ⟨K', k1, k2⟩ : ∃ K' : FuncId → List AV → Option AV, (∀ g zs r, K' g zs = some r → PureC P g zs r) ∧ K' f ys = some r := by
    refine ⟨fun g zs => if g = f ∧ zs = ys then some r else none, ?_, by simp⟩
    intro g zs r' hg
    simp only at hg
    split at hg
    ·rename_i hc
     injection hg with hg; subst hg
     rw [hc.1, hc.2]; exact hpure
    ·cases hg
   refine ⟨K', k1, ?_⟩
   unfold ye4
   have e1 := RP.run_bind (f := fun (q : List AV × Bool) => match K' f q.1 with
     | some r => gd (q.2 = true → yam 12 r = true) (outP cx d (ylt r) [] [])
     | none => .fail) (l2 := l2) (r := ef) hp1 (by
      simp only [k2]
      exact hp2)
   rw [ygi] at e1
   exact e1
  ·cases h
 ·cases h
theorem yry {cx : Cx} (hcx : CxBase P cx) {env : Env} {o : Oper} {as as' : List Ans} {x : List Nat × Eff} {ps : List Prop} (hK : ∀ f xs, cx.K f xs = none) (hM : ∀ f x, x ≠ .bad → cx.KM f x = none) (h : opA P cx env o as = some (x, as', ps)) (hp : ∀ q ∈ ps, q) : yrj P cx env o x := by
 classical
 have base : CxOk P cx := ⟨hcx.ty, hcx.eq, fun f xs r h => (by rw [hK] at h; cases h), fun f x r h hx => (by rw [hM f x hx] at h; cases h), hcx.mixed⟩
 unfold opA at h
 split at h
 ·rename_i f args ats hop
  split at h
  ·rename_i rb y hkm hargs
   -- a callee that changes what it is handed
   unfold yso at h
   split at h
   ·rename_i l r e cap xs e' cap' ys as2 ps2 hrun
    split at h
    ·rename_i l2 ef as3 qs hrun2
     injection h with h; injection h with h1 h2; injection h2 with h2 h3; subst h1 h2 h3
     have hp1 := RP.runA_ok hrun fun q hq => hp q (by simp [hq])
     have hp2 := RP.runA_ok hrun2 fun q hq => hp q (by simp [hq])
     have hcap : cap' = cap := hp _ (by simp)
     have hmut : MutC P f (.sl .own e cap xs) (.sl .own e cap ys) := hp _ (by simp)
     obtain ⟨he, hp3⟩ := zqq hp2
     subst hcap he
     obtain ⟨KM', k1, k2, k3⟩ : ∃ KM' : FuncId → AV → Option AV, (∀ g z r, KM' g z = some r → z ≠ .bad → MutC P g z r) ∧ KM' f .bad = some rb ∧ KM' f (.sl .own e' cap' xs) = some (.sl .own e' cap' ys) := by
      refine ⟨fun g z => if g = f ∧ z = .sl .own e' cap' xs then some (.sl .own e' cap' ys) else cx.KM g z, ?_, ?_, by simp⟩
      ·intro g z r' hg hz
       simp only at hg
       split at hg
       ·rename_i hc
        injection hg with hg; subst hg
        rw [hc.1, hc.2]; exact hmut
       ·rw [hM g z hz] at hg; cases hg
      ·simp only
       rw [if_neg (by rintro ⟨_, h⟩; cases h)]; exact hkm
     refine ⟨{ cx with KM := KM' }, ⟨hcx.ty, hcx.eq, fun f xs r h => (by rw [hK] at h; cases h), k1, hcx.mixed⟩, rfl, rfl, ?_⟩
     unfold opP
     rw [hop]
     simp only [k2, hargs]
     unfold yi9
     have e1 := RP.run_bind (f := fun (q : Nat × TypeId × Option Nat × List AV) => match KM' f (AV.sl .own q.2.1 q.2.2.1 q.2.2.2) with
       | some (.sl .own e2 cap2 ys2) => if e2 = q.2.1 ∧ cap2 = q.2.2.1 then outP cx o.dst (.tup []) [(q.1, .sl .own q.2.1 q.2.2.1 ys2)] [(q.1, true)] else .fail
       | _ => .fail) (l2 := l2) (r := ef) hp1 (by
        simp only [k3, and_self, if_true]
        exact hp3)
     rw [yhp] at e1
     simp only [ym1, RP.bind] at e1
     exact e1
    ·cases h
   ·cases h
  ·cases h
  ·rename_i args' hkm
   obtain ⟨K', k1, k2⟩ := yk2 h hp
   refine ⟨{ cx with K := K' }, ⟨hcx.ty, hcx.eq, k1, fun f x r h hx => (by rw [hM f x hx] at h; cases h), hcx.mixed⟩, rfl, rfl, ?_⟩
   unfold opP
   rw [hop]
   simp only [hkm]
   exact k2
 ·rename_i g args ats hop
  split at h
  ·rename_i f hf
   split at h
   ·cases h
   ·rename_i hkm
    split at h
    ·rename_i l e as2 ps2 hc
     injection h with h; injection h with h1 h2; injection h2 with h2 h3; subst h1 h2 h3
     obtain ⟨K', k1, k2⟩ := yk2 hc hp
     refine ⟨{ cx with K := K' }, ⟨hcx.ty, hcx.eq, k1, fun f x r h hx => (by rw [hM f x hx] at h; cases h), hcx.mixed⟩, rfl, rfl, ?_⟩
     unfold opP
     rw [hop]
     simp only [RP.run, hf, hkm, k2]
    ·cases h
  ·cases h
 ·exact ⟨cx, base, rfl, rfl, RP.runA_ok h hp⟩
theorem ypq {cx : Cx} (hcx : CxBase P cx) {ops : Array Oper} {env : Env} {o : Oper} {as as' : List Ans} {x : List Nat × Eff} {ps : List Prop} (hK : ∀ f xs, cx.K f xs = none) (hM : ∀ f x, x ≠ .bad → cx.KM f x = none) (h : ys8 P cx ops env o as = some (x, as', ps)) (hp : ∀ q ∈ ps, q) : ypb P cx ops env o x := by
 have base : CxOk P cx := ⟨hcx.ty, hcx.eq, fun f xs r h => (by rw [hK] at h; cases h), fun f x r h hx => (by rw [hM f x hx] at h; cases h), hcx.mixed⟩
 unfold ys8 at h
 split at h
 ·rename_i hg
  obtain ⟨cxi, c1, c2, c3, c4⟩ := yry hcx hK hM h hp
  refine ⟨cxi, c1, c2, c3, ?_⟩
  unfold ybl
  rw [hg]
  exact c4
 ·rename_i j want hg
  split at h
  ·rename_i g hj
   have exec : ∀ {as2 : List Ans} {ps2 : List Prop} {b : Bool}, lk env g = some (.atom (.bool b)) → (bif want then b else !b) = true → yqw P cx env g o as2 = some (x, as', ps2) → (∀ q ∈ ps2, q) → ypb P cx ops env o x := by
    intro as2 ps2 b hl hb ho hp2
    unfold yqw at ho
    split at ho
    ·rename_i l e as3 ps3 ho3
     injection ho with ho; injection ho with h1 h2; injection h2 with h2 h3; subst h1 h2 h3
     obtain ⟨cxi, c1, c2, c3, c4⟩ := yry hcx hK hM ho3 hp2
     refine ⟨cxi, c1, c2, c3, ?_⟩
     unfold ybl
     rw [hg]
     simp only [hj, RP.run, hl, hb, if_true, c4]
    ·cases ho
   have skip : ∀ {as2 : List Ans} {ps2 : List Prop}, (∃ b, lk env g = some (.atom (.bool b)) ∧ (bif want then b else !b) = false) ∨ (∃ vs, lk env g = some (.atom (.tuple vs))) → yml cx env g o as2 = some (x, as', ps2) → (∀ q ∈ ps2, q) → ypb P cx ops env o x := by
    intro as2 ps2 hl ho hp2
    unfold yml at ho
    split at ho
    ·rename_i l e as3 ps3 ho3
     injection ho with ho; injection ho with h1 h2; injection h2 with h2 h3; subst h1 h2 h3
     have hr := RP.runA_ok ho3 hp2
     refine ⟨cx, base, rfl, rfl, ?_⟩
     unfold ybl
     rw [hg]
     rcases hl with ⟨b, hl, hb⟩ | ⟨vs, hl⟩
     ·simp only [hj, RP.run, hl, hb, Bool.false_eq_true, if_false, hr]
     ·simp only [hj, RP.run, hl, hr]
    ·cases ho
   split at h
   ·rename_i b hl
    split at h
    ·split at h
     ·rename_i hb
      exact exec hl hb h hp
     ·rename_i hb
      exact skip (.inl ⟨b, hl, by simpa using hb⟩) h hp
    ·rename_i v _
     unfold yxn at h
     split at h
     ·rename_i x2 as2 ps2 h2
      injection h with h; injection h with e1 e2; injection e2 with e2 e3; subst e1 e2 e3
      have hbv : b = v := hp _ List.mem_cons_self
      subst hbv
      split at h2
      ·rename_i hb
       exact exec hl hb h2 fun q hq => hp q (List.mem_cons_of_mem _ hq)
      ·rename_i hb
       exact skip (.inl ⟨b, hl, by simpa using hb⟩) h2 fun q hq => hp q (List.mem_cons_of_mem _ hq)
     ·cases h
    ·cases h
   ·rename_i vs hl
    exact skip (.inr ⟨vs, hl⟩) h hp
   ·cases h
  ·cases h
end Go.Lf
end

section
namespace Go.Lf
open Go Go.RowKit
def Fi (ρ : Option Nat) : Fence := { Fence.wide with round := ρ }
section
variable {P : Program} {F : Frm} {B0 : Nat} {w0 w w' : World} {S S' S0 : Nat → Prop} {n n' : Nat} {env env' : Env} {a : Act} {tmps : Array Value} {Os : Nat → Own} {cx : Cx} {o : Oper} {eff : Eff} {l : List Nat} {ds : List Deferred} {Q : Exit → Act → World → Prop} {ρ : Option Nat}
theorem yox {k : Nat} {f : FuncId} {args : Array Value} {R : Ending → World → Prop} (h : Calls P f args w R) : CallsIn (Fi ρ) k P f args w R :=
 callsIn_wide (n := k).2 h
theorem yxi {k : Nat} {row : String} {args : Array Value} {R : Value → World → Prop} (h : Rows P row args w R) : RowsIn (Fi ρ) k P row args w R :=
 fun c cs _ => let ⟨v, w', r, s⟩ := h c cs; ⟨v, w', r, stepsIn_wide.2 s⟩
theorem opIn {K : Act → World → Prop} (hnd : ∀ c, o.op ≠ .defer c) (h : o.wp P a w K Q) : o.wpIn (Fi ρ) 0 P a w K Q := by
 refine ⟨fun _ _ => trivial, ?_⟩
 rw [show (Fi ρ).round = ρ from rfl, Oper.semAt_eq _ _ _ hnd]
 unfold Oper.wp at h
 revert h
 cases (execOp a.eval o).run P w with
 | ok nx w' =>
  cases nx with
  | value v => exact id
  | skip => exact id
  | defer d => exact id
  | enter f args => intro h; exact ⟨(fun hd => nomatch hd), yox h⟩
  | row r args => intro h; exact ⟨(fun hd => nomatch hd), yxi h⟩
  | _ => intro h; exact h.elim
 | halt x w' => cases x <;> first | exact id | (intro h; exact h.elim)
theorem yrx (h : (opP cx o).run env = some (l, eff)) : ∀ c, o.op ≠ .defer c := by
 intro c hc
 unfold opP at h
 rw [hc] at h
 exact (zqd h).elim
theorem ydi (ρ : Option Nat) (hcx : CxOk P cx) (hst : St P F B0 w0 n env a.tmps w S Os) (hn : 0 < n) (hN : (a.tmps.size = cx.N ∧ F.lo = cx.lo)) {ops : Array Oper} (h : (ybl cx ops o).run env = some (l, eff)) :
  if Region.wanted o (yielded ops a.tmps) then o.wpIn (Fi ρ) 0 P a w (Post P F B0 w0 S cx env eff a) Q else Post P F B0 w0 S cx env eff a (a.put o.dst undef) w := by
 unfold ybl at h
 split at h
 ·rename_i hg
  have hw : Region.wanted o (yielded ops a.tmps) = true := by unfold Region.wanted; rw [hg]
  rw [if_pos hw]
  exact opIn (yrx h) (ykd hcx hst hn hN h)
 ·rename_i j want hg
  split at h
  ·rename_i g hgd
   obtain ⟨l1, h1⟩ := yaq h
   split at h1
   ·rename_i b hlk
    obtain ⟨v, hv, hs⟩ := hst.rel g _ hlk
    have hvb : v = .bool b := by
     obtain ⟨m, rfl⟩ : ∃ m, n = m + 1 := ⟨n - 1, by omega⟩
     exact (hs.rv rfl).1
    subst hvb
    have hy : yielded ops a.tmps j = some b := by unfold yielded; rw [hgd]; simp [hv]
    have hw : Region.wanted o (yielded ops a.tmps) = (bif want then b else !b) := by
     unfold Region.wanted
     rw [hg]
     simp only [hy]
     cases want <;> cases b <;> rfl
    rw [hw]
    simp only [RP.run] at h1
    cases hb : (bif want then b else !b) with
    | true =>
     rw [hb] at h1
     simp only [if_true] at h1 ⊢
     exact opIn (yrx h1) (ykd hcx hst hn hN h1)
    | false =>
     rw [hb] at h1
     simp only [Bool.false_eq_true, if_false] at h1 ⊢
     exact yem hst hn hN h1
   ·rename_i vs hlk
    obtain ⟨v, hv, hs⟩ := hst.rel g _ hlk
    have hvb : v = .tuple vs := by
     obtain ⟨m, rfl⟩ : ∃ m, n = m + 1 := ⟨n - 1, by omega⟩
     exact (hs.rv rfl).1
    subst hvb
    have hy : yielded ops a.tmps j = none := by unfold yielded; rw [hgd]; simp [hv]
    have hw : Region.wanted o (yielded ops a.tmps) = false := by
     unfold Region.wanted
     rw [hg]
     simp only [hy]
     rfl
    rw [hw]
    simp only [Bool.false_eq_true, if_false]
    exact yem hst hn hN h1
   ·exact (zqd h1).elim
  ·exact (zqd h).elim
theorem yv0 (ρ : Option Nat) {ops : Array Oper} {es : List (List Nat × Eff)} {env0 : Env} (hes : es.length = ops.size)
  (hstep : ∀ i o, ops.toList[i]? = some o → ∃ x cxi, es[i]? = some x ∧ CxOk P cxi ∧ cxi.N = cx.N ∧ cxi.lo = cx.lo ∧ (ybl cxi ops o).run (atE es i env0) = some x)
  {ls : List Log} (hll : ls.length = es.length) (hls : ∀ i x, es[i]? = some x → ls[i]? = some (yax (atE es i env0) x.1 x.2)) (hap : yhj (ybc ops.toList) ls = true) (hed : yd9 ops.toList = true)
  (hQ : ∀ a' w', Agree P F B0 w0 S0 cx ds (es.foldl (fun env x => zqi x.2 env) env0) a' w' → Q .normal a' w') :
  ∀ (fuel : Nat) (listed : Array Bool) (a : Act) (w : World), listed.size = ops.size → listed.toList.count false ≤ fuel →
   (∀ j, listed.getD j false = true → ∀ b ∈ (ybc ops.toList).getD j [], listed.getD b false = true) →
   (∃ env1, (∀ t, lk env1 t = lk (yat (fun j => listed.getD j false) 0 es env0) t) ∧ Agree P F B0 w0 S0 cx ds env1 a w) → wpAnyIn (Fi ρ) 0 P .any ops Q fuel listed a w := by
 have hfalse : ∀ {listed : Array Bool} {j : Nat}, j < listed.size → listed.getD j false ≠ true → listed.getD j true = false := by
  intro listed j hj h
  simp only [Array.getD, hj, dif_pos] at h ⊢
  cases hb : listed[j] <;> simp_all
 have hfalse' : ∀ {listed : Array Bool} {j : Nat}, listed.getD j true = false → j < listed.size ∧ listed.getD j false = false := by
  intro listed j h
  by_cases hj : j < listed.size
  ·refine ⟨hj, ?_⟩
   simp only [Array.getD, hj, dif_pos] at h ⊢
   exact h
  ·simp only [Array.getD, hj, dif_neg, not_false_iff] at h
   cases h
 have pair : ∀ {i j : Nat} {x y : List Nat × Eff}, es[i]? = some x → es[j]? = some y → j < i → j ∉ (ybc ops.toList).getD i [] → yio (yax (atE es i env0) x.1 x.2) (yax (atE es j env0) y.1 y.2) = false := by
  intro i j x y hx hy hji hb
  have hil : i < es.length := (zlk.1 hx).1
  have h1 := zls.1 hap i (by simpa [hll] using hil)
  have h2 := zls.1 h1 j (by simpa using hji)
  simp only [Bool.or_eq_true, List.contains_iff_mem] at h2
  rcases h2 with h2 | h2
  ·exact absurd h2 hb
  ·simpa [zld, hls i x hx, hls j y hy] using h2
 have done : ∀ {listed : Array Bool} {a : Act} {w : World}, listed.size = ops.size → Region.ready .any ops listed = [] → (∃ env1, (∀ t, lk env1 t = lk (yat (fun j => listed.getD j false) 0 es env0) t) ∧ Agree P F B0 w0 S0 cx ds env1 a w) → Q .normal a w := by
  intro listed a w hsz hr ⟨env1, hl, hag⟩
  have all : ∀ j, j < ops.size → listed.getD j false = true := by
   intro j
   induction j using Nat.strongRecOn with
   | ind j ih =>
    intro hj
    by_cases h : listed.getD j false = true
    ·exact h
    ·exfalso
     have hmem : j ∈ Region.ready .any ops listed := by
      refine mem_ready.2 ⟨hfalse (by omega) h, ops[j], by simp [hj], fun e he hb => ?_⟩
      have h1 := zls.1 hed (ops[j], j) (by
       rw [List.mem_iff_getElem?]
       exact ⟨j, by simp [hj]⟩)
      have h2 := zls.1 h1 e (by simpa using he)
      unfold Region.binds at hb
      have h3 : e.on < j := by
       split at h2
       ·rename_i hg; rw [hg] at hb; simp at hb
       ·rename_i hg; rw [hg] at hb; simp at hb
       ·simpa using h2
      exact ih e.on h3 (by omega)
     rw [hr] at hmem
     cases hmem
  refine hQ a w (hag.cong fun t => ?_)
  rw [hl]
  have e1 : es.foldl (fun env x => zqi x.2 env) env0 = yat (fun j => decide (j < 0 + es.length)) 0 es env0 := by rw [yct, List.take_length]
  rw [e1]
  refine yaz es 0 (fun j x hx hne => absurd ?_ hne) rfl
  have hj : j < es.length := (zlk.1 hx).1
  simp only [Nat.zero_add]
  rw [all j (by omega)]
  simp [hj]
 intro fuel
 induction fuel with
 | zero =>
  intro listed a w hsz hc hdn henv
  have hr : Region.ready .any ops listed = [] := by
   apply List.eq_nil_iff_forall_not_mem.2
   intro j hj
   obtain ⟨h0, _⟩ := mem_ready.1 hj
   obtain ⟨hjs, h1⟩ := hfalse' h0
   have : false ∈ listed.toList := by
    rw [List.mem_iff_getElem?]
    refine ⟨j, ?_⟩
    simp only [Array.getD, hjs, dif_pos] at h1
    have h1' : listed[j] = false := h1
    simp [hjs, h1']
   have := List.count_pos_iff.2 this
   omega
  exact ⟨hr, done hsz hr henv⟩
 | succ fuel ih =>
  intro listed a w hsz hc hdn henv
  refine ⟨fun hr => done hsz hr henv, fun i hi => ?_⟩
  obtain ⟨h0, o, ho, hall⟩ := mem_ready.1 hi
  obtain ⟨his, hDi⟩ := hfalse' h0
  obtain ⟨env1, hl, hag⟩ := henv
  have ho' : ops.toList[i]? = some o := by simpa using ho
  obtain ⟨x, cxi, hx, hci, hcN, hcl, hrun⟩ := hstep i o ho'
  have hbi : ∀ b ∈ (ybc ops.toList).getD i [], listed.getD b false = true := by
   intro b hb
   obtain ⟨e, he, hbd, h⟩ := ye6 ho' hb
   have hon := hall e he hbd
   rcases h with rfl | h
   ·exact hon
   ·exact hdn e.on hon b h
  have later : ∀ {j : Nat} {y : List Nat × Eff}, i < j → es[j]? = some y → listed.getD j false = true → yio (yax (atE es j env0) y.1 y.2) (yax (atE es i env0) x.1 x.2) = false := by
   intro j y hij hy hD
   refine pair hy hx hij fun hb => ?_
   have := hdn j hD i hb
   rw [hDi] at this; cases this
  have hrun1 : (ybl cxi ops o).run env1 = some (x.1, x.2) := by
   have e2 : atE es i env0 = yat (fun j => decide (j < 0 + i)) 0 es env0 := by rw [yct]; rfl
   refine RP.local hrun (fun t ht => ?_) fun t ht => ?_
   ·rw [hl, e2]
    refine yaz es 0 (fun j y hy hne => ?_) rfl
    simp only [Nat.zero_add] at hne
    by_cases hji : j < i
    ·have hDj : listed.getD j false ≠ true := by
      intro h; apply hne; rw [h]; simp [hji]
     have hc := pair hx hy hji fun hb => hDj (hbi j hb)
     exact (yal hc).2.2.1 t ht
    ·have hDj : listed.getD j false = true := by
      cases h : listed.getD j false with
      | true => rfl
      | false => exact absurd (by rw [h]; simp [hji]) hne
     have hne' : j ≠ i := by intro e; subst e; rw [hDi] at hDj; cases hDj
     exact (yal (later (by omega) hy hDj)).2.2.2.1 t ht
   ·rw [hl]
    have hil : i < es.length := (zlk.1 hx).1
    have hh := ykm (D := fun j => listed.getD j false) (t := t) (env0 := env0) es (i := i) (by omega) ?_ ?_ ?_ es.length (by omega) (zly _)
    ·rw [List.take_length] at hh; exact hh
    ·intro k y hk hy hf
     cases hDk : listed.getD k false with
     | true => rfl
     | false =>
      have hc := pair hx hy hk fun hb => by have := hbi k hb; rw [hDk] at this; cases this
      exact absurd hf ((yal hc).2.2.2.2.1 t ht)
    ·intro k y hk hy hDk
     have hne' : k ≠ i := by intro e; subst e; rw [hDi] at hDk; cases hDk
     exact (yal (later (by omega) hy hDk)).2.2.2.2.2.1 t ht
    ·intro j y hij hy hDj hkj k z hkj' hz hf
     cases hDk : listed.getD k false with
     | true => rfl
     | false =>
      have hc := pair hy hz hkj' fun hb => by have := hdn j hDj k hb; rw [hDk] at this; cases this
      obtain ⟨c1, _, _, _, _, _, _, c8⟩ := yal hc
      rcases hf with hf | ⟨q, hq1, hq2, _⟩
      ·exact absurd c8 hf
      ·exact absurd (yep.2 ⟨q, hq1, hq2⟩) (c1.2.2 t hkj)
  obtain ⟨hd, hN, n, S, Os, hn, hgr, hst⟩ := hag
  have key := ydi ρ (Q := Q) hci hst hn (by rw [hcN, hcl]; exact hN) hrun1
  have hset : ∀ j, (listed.setIfInBounds i true).getD j false = (listed.getD j false || j == i) := by
   intro j
   rw [zll, zll, Array.getElem?_setIfInBounds]
   by_cases hji : j = i
   ·subst hji
    simp [his]
   ·rw [if_neg (Ne.symm hji)]
    have h2 : (j == i) = false := by simp [hji]
    rw [h2, Bool.or_false]
  have next : ∀ a' w', Post P F B0 w0 S cxi env1 x.2 a a' w' → wpAnyIn (Fi ρ) 0 P .any ops Q fuel (listed.setIfInBounds i true) a' w' := by
   intro a' w' ⟨p1, p2, n', S', Os', q1, q2, q3⟩
   rw [hcN, hcl] at p2
   refine ih _ a' w' (by simpa using hsz) ?_ ?_ ⟨_, ?_, p1.trans hd, p2, n', S', Os', q1, hgr.trans q2, q3⟩
   ·have hfi : listed.toList[i]? = some false := by
     simp only [Array.getD, his, dif_pos] at hDi
     have hDi' : listed[i] = false := hDi
     simp [his, hDi']
    have hil : i < listed.toList.length := by simpa using his
    have hval : listed.toList[i] = false := by
     have := zle hil
     rw [hfi] at this; injection this with this; exact this.symm
    have hpos : 0 < listed.toList.count false := List.count_pos_iff.2 (by rw [← hval]; exact zlu hil)
    rw [Array.toList_setIfInBounds, List.count_set hil]
    simp only [hval]
    simp at hc hpos ⊢
    omega
   ·intro j hj b hb
    rw [hset] at hj ⊢
    simp only [Bool.or_eq_true, beq_iff_eq] at hj ⊢
    rcases hj with hj | hj
    ·exact .inl (hdn j hj b hb)
    ·subst hj; exact .inl (hbi b hb)
   ·intro t
    rw [ybi x.2 (hl t)]
    have := yff (D := fun j => listed.getD j false) (i := i) t es 0 i env0 x hx (by omega) hDi fun j y hij hy hD => (yal (later hij hy (by simpa using hD))).2.1
    rw [← this]
    congr 2
    funext j
    exact (hset j).symm
  unfold wpOpIn
  rw [ho]
  simp only
  split
  ·rename_i hw
   rw [if_pos hw] at key
   exact Oper.wpIn_mono next key
  ·rename_i hw
   rw [if_neg hw] at key
   exact ⟨fun _ _ => trivial, next _ _ key⟩
end
end Go.Lf
end

section
namespace Go.Lf
open Go Go.RowKit
def yca : Code → List Code
 | .seq a b => yca a ++ yca b
 | .cond _ a b => yca a ++ yca b
 | .block _ a => yca a
 | .scope a => yca a
 | .loop a => a :: yca a
 | .rangeFunc _ _ _ a => yca a
 | _ => []
def yda : Code → Option Nat
 | .region id _ _ => some id
 | .seq a _ => yda a
 | .block _ c => yda c
 | .loop c => yda c
 | .rangeFunc _ _ c _ => yda c
 | _ => none
def yc0 (id : Nat) : Code → Option Code
 | .seq x y => if yda x = some id then some x else (yc0 id x).orElse fun _ => yc0 id y
 | .cond _ a b => (yc0 id a).orElse fun _ => yc0 id b
 | .block _ c => yc0 id c
 | .scope c => yc0 id c
 | .loop c => yc0 id c
 | .rangeFunc _ _ a c => if yda a = some id then some a else (yc0 id a).orElse fun _ => if yda c = some id then some c else yc0 id c
 | _ => none
def ygh (fn : Func) (id : Nat) : Code := match fn.body with
 | some c => (yc0 id c).getD .skip
 | none => .skip
def ya4 : Code → List (Operand × Array Tmp × Code × Code)
 | .seq a b => ya4 a ++ ya4 b
 | .cond _ a b => ya4 a ++ ya4 b
 | .block _ a => ya4 a
 | .scope a => ya4 a
 | .loop a => ya4 a
 | .rangeFunc g ps a c => (g, ps, a, c) :: ya4 c
 | _ => []
def zqo (fn : Func) (k : Nat) : Code := match fn.body with
 | some c => ((ya4 c).map (·.2.2.1)).getD k .skip
 | none => .skip
def zrf (fn : Func) (k : Nat) : Code := match fn.body with
 | some c => ((ya4 c).map (·.2.2.2)).getD k .skip
 | none => .skip
def yag (fn : Func) (k : Nat) : Code := match fn.body with
 | some c => ((ya4 c).map fun q => Code.rangeFunc q.1 q.2.1 q.2.2.1 q.2.2.2).getD k .skip
 | none => .skip
def zqc (fn : Func) (k : Nat) : Code := match fn.body with
 | some c => (yca c).getD k .skip
 | none => .skip
theorem zqa : ∀ q ∈ ([] : List Prop), q := fun _ h => nomatch h
theorem allp {p : Prop} {ps : List Prop} (h : p) (hs : ∀ q ∈ ps, q) : ∀ q ∈ p :: ps, q := List.forall_mem_cons.2 ⟨h, hs⟩
def yei (P : Program) (cx : Cx) (ops : Array Oper) : List Oper → Env → List Ans → Option ((List Log × Env) × List Ans × List Prop)
 | [], env, as => some (([], env), as, [])
 | o :: l, env, as => match ys8 P cx ops env o as with
  | some ((rs, e), as, ps) => match yei P cx ops l (zqi e env) as with
   | some ((ls, env'), as, qs) => some ((yax env rs e :: ls, env'), as, ps ++ qs)
   | none => none
  | none => none
def yfj (P : Program) (cx : Cx) (ops : Array Oper) (draw : Bool) (env : Env) (as : List Ans) : Option (Env × List Ans × List Prop) :=
 match yei P { cx with dr := draw } ops ops.toList env as with
 | some ((ls, env'), as, ps) => if draw then (if ycx (ycw ops.toList) ls && yd9 ops.toList then some (env', as, ps) else none) else some (env', as, ps)
 | none => none
def mark (D : Nat) : Deferred := { target := .collected D, args := #[] }
def AgM (P : Program) (F : Frm) (B0 : Nat) (w0 : World) (S0 : Nat → Prop) (cx : Cx) (ds : List Deferred) (env : Env) (a : Act) (w : World) : Prop :=
 ∃ (Ds : List Nat) (n : Nat) (S : Nat → Prop) (Os : Nat → Own), Ds.Nodup ∧ (∀ D ∈ Ds, w0.heap.size ≤ D ∧ S D ∧ w.heap[D]? = some (.deferred (some []))) ∧
  a.defers = Ds.map mark ++ ds ∧ (a.tmps.size = cx.N ∧ F.lo = cx.lo) ∧ 0 < n ∧ Grow B0 S0 S ∧ St P F B0 w0 n env a.tmps w S Os
def Tri (P : Program) (cx : Cx) (c : Code) (env : Env) (ex : Ex) (env' : Env) : Prop :=
 ∀ (ρ : Option Nat), (cx.lo = 0 → ρ = none) → ∀ (F : Frm) (B0 : Nat) (w0 : World) (S0 : Nat → Prop) (ds : List Deferred) (a : Act) (w : World) (Q : Exit → Act → World → Prop), Agree P F B0 w0 S0 cx ds env a w →
  (∀ a' w', AgM P F B0 w0 S0 cx ds env' a' w' → Q ex.out a' w') → c.wpIn (Fi ρ) 0 P Q a w
def evA (P : Program) (cx : Cx) (H : Hints) : Code → Env → List Ans → Option ((Ex × Env) × List Ans × List Prop)
 | .skip, env, as => some ((.normal, env), as, [])
 | .label _, env, as => some ((.normal, env), as, [])
 | .region id ops draw, env, as => match yfj P cx ops draw env as with
  | some (env', as, ps) => some ((.normal, keepE ((H.live id).map fun t => (t, .keep)) env'), as, ps)
  | none => none
 | .seq x y, env, as => match (match as with | .cut ex env' :: as => some ((ex, env'), as, [Tri P cx x env ex env']) | as => evA P cx H x env as) with
  | some ((.normal, env'), as, ps) => match evA P cx H y env' as with
   | some (r, as, qs) => some (r, as, ps ++ qs)
   | none => none
  | r => r
 | .cond (.tmp t) x y, env, as => match lk env t with
  | some (.atom (.bool b)) => match as with
   | .c :: as => if b = true then evA P cx H x env as else evA P cx H y env as
   | .b v :: as => match (if v = true then evA P cx H x env as else evA P cx H y env as) with
    | some (r, as, ps) => some (r, as, (b = v) :: ps)
    | none => none
   | _ => none
  | _ => none
 | .block id c, env, as => match evA P cx H c env as with
  | some ((.exit id', env'), as, ps) => if id' = id then some ((.normal, env'), as, ps) else some ((.exit id', env'), as, ps)
  | r => r
 | .loop c, env, as => match as with
  | .lp ex env' :: as => some ((ex, env'), as, [Tri P cx (.loop c) env ex env'])
  | _ => none
 | .rangeFunc g ps c1 c2, env, as => match as with
  | .lp ex env' :: as => some ((ex, env'), as, [Tri P cx (.rangeFunc g ps c1 c2) env ex env'])
  | _ => none
 | .exit id, env, as => some ((.exit id, env), as, [])
 | .ret, env, as => some ((.ret, env), as, [])
 | _, _, _ => none
section
variable {P : Program} {cx : Cx}
theorem zrl (hcx : CxBase P cx) (hK : ∀ f xs, cx.K f xs = none) (hM : ∀ f x, x ≠ .bad → cx.KM f x = none) {ops : Array Oper} : ∀ {os : List Oper} {env env' : Env} {ls : List Log} {as as' : List Ans} {ps : List Prop}, yei P cx ops os env as = some ((ls, env'), as', ps) → (∀ q ∈ ps, q) →
  ∃ es : List (List Nat × Eff), es.length = os.length ∧ ls.length = es.length ∧ (∀ i x, es[i]? = some x → ls[i]? = some (yax (atE es i env) x.1 x.2)) ∧ env' = es.foldl (fun env x => zqi x.2 env) env ∧
   ∀ i o, os[i]? = some o → ∃ x cxi, es[i]? = some x ∧ CxOk P cxi ∧ cxi.N = cx.N ∧ cxi.lo = cx.lo ∧ (ybl cxi ops o).run (atE es i env) = some x
 | [], env, env', ls, as, as', ps, h, _ => by
  injection h with h; injection h with h1 h2; injection h1 with h1 h3; subst h1 h3
  exact ⟨[], rfl, rfl, fun i x h => by simp at h, rfl, fun i o h => by simp at h⟩
 | o :: os, env, env', ls, as, as', ps, h, hp => by
  simp only [yei] at h
  split at h
  ·rename_i rs e as2 ps2 hs
   split at h
   ·rename_i ls' env2 as3 qs hr
    injection h with h; injection h with h1 h2; injection h1 with h1 h3; injection h2 with h2 h4; subst h1 h2 h3 h4
    obtain ⟨cxi, c1, c2, c3, c4⟩ := ypq hcx hK hM hs fun q hq => hp q (by simp [hq])
    obtain ⟨es, e1, e0, e2, e3, e4⟩ := zrl hcx hK hM hr fun q hq => hp q (by simp [hq])
    refine ⟨(rs, e) :: es, by simp [e1], by simp [e0], fun i x hx => ?_, by simpa using e3, fun i o' hi => ?_⟩
    ·cases i with
     | zero =>
      have : (rs, e) = x := by simpa using hx
      subst this
      rfl
     | succ i => exact e2 i x (by simpa using hx)
    ·cases i with
     | zero =>
      have : o = o' := by simpa using hi
      subst this
      exact ⟨(rs, e), cxi, rfl, c1, c2, c3, c4⟩
     | succ i => exact e4 i o' (by simpa using hi)
   ·cases h
  ·cases h
variable {F : Frm} {B0 : Nat} {w0 : World} {S0 : Nat → Prop} {ds : List Deferred} {Q : Exit → Act → World → Prop}
theorem ydv (ρ : Option Nat) {ops : Array Oper} : ∀ (os : List Oper) {env : Env} {es : List (List Nat × Eff)} {a : Act} {w : World}, es.length = os.length →
  (∀ i o, os[i]? = some o → ∃ x cxi, es[i]? = some x ∧ CxOk P cxi ∧ cxi.N = cx.N ∧ cxi.lo = cx.lo ∧ (ybl cxi ops o).run (atE es i env) = some x) → Agree P F B0 w0 S0 cx ds env a w →
  (∀ a' w', Agree P F B0 w0 S0 cx ds (es.foldl (fun env x => zqi x.2 env) env) a' w' → Q .normal a' w') → wpListIn (Fi ρ) 0 P ops Q os a w
 | [], env, es, a, w, hl, _, hag, hQ => by
  have : es = [] := zli hl
  subst this
  exact hQ a w hag
 | o :: os, env, [], a, w, hl, _, _, _ => by simp at hl
 | o :: os, env, x :: es, a, w, hl, hstep, hag, hQ => by
  obtain ⟨hd, hN, n, S, Os, hn, hgr, hst⟩ := hag
  obtain ⟨x', cxi, hx, hci, hcN, hcl, hrun⟩ := hstep 0 o rfl
  have : x' = x := by simpa using hx.symm
  subst this
  have hrun' : (ybl cxi ops o).run env = some (x'.1, x'.2) := hrun
  have key := fun Q' => ydi ρ (Q := Q') hci hst hn (by rw [hcN, hcl]; exact hN) hrun'
  have next : ∀ a' w', Post P F B0 w0 S cxi env x'.2 a a' w' → wpListIn (Fi ρ) 0 P ops Q os a' w' := by
   intro a' w' ⟨h1, h2, n', S', Os', k1, k2, k3⟩
   rw [hcN, hcl] at h2
   exact ydv ρ os (by simpa using hl) (fun i o h => by
    obtain ⟨y, cxj, g1, g2⟩ := hstep (i + 1) o (by simpa using h)
    exact ⟨y, cxj, by simpa using g1, g2⟩) ⟨h1.trans hd, h2, n', S', Os', k1, hgr.trans k2, k3⟩ hQ
  unfold wpListIn
  have k1 := key Q
  split
  ·rename_i hw
   rw [if_pos hw] at k1
   exact Oper.wpIn_mono next k1
  ·rename_i hw
   rw [if_neg hw] at k1
   exact ⟨fun _ _ => trivial, next _ _ k1⟩
theorem yeh (ρ : Option Nat) (hcx : CxBase P cx) (hK : ∀ f xs, cx.K f xs = none) (hM : ∀ f x, x ≠ .bad → cx.KM f x = none) {id : Nat} {ops : Array Oper} {draw : Bool} {env env' : Env} {as as' : List Ans} {ps : List Prop} (h : yfj P cx ops draw env as = some (env', as', ps)) (hp : ∀ q ∈ ps, q) {a : Act} {w : World}
  (hag : Agree P F B0 w0 S0 cx ds env a w) (hQ : ∀ a' w', Agree P F B0 w0 S0 cx ds env' a' w' → Q .normal a' w') : (Code.region id ops draw).wpIn (Fi ρ) 0 P Q a w := by
 unfold yfj at h
 have hcx' : CxBase P { cx with dr := draw } := ⟨hcx.ty, hcx.eq, hcx.mixed⟩
 split at h
 ·rename_i ls env2 as2 ps2 he
  cases draw with
  | false =>
   simp only [Bool.false_eq_true, if_false] at h
   injection h with h; injection h with h1 h2; injection h2 with h2 h3; subst h1 h2 h3
   obtain ⟨es, e1, e0, e2, rfl, e4⟩ := zrl hcx' hK hM he hp
   exact wpIn_region_list (ydv ρ (cx := { cx with dr := false }) ops.toList e1 e4 hag hQ)
  | true =>
   simp only [if_true] at h
   split at h
   ·rename_i hap
    injection h with h; injection h with h1 h2; injection h2 with h2 h3; subst h1 h2 h3
    simp only [zlo, yfq] at hap
    obtain ⟨es, e1, e0, e2, rfl, e4⟩ := zrl hcx' hK hM he hp
    refine wpIn_region_any hcx.mixed (yv0 ρ (cx := { cx with dr := true }) (by simpa using e1) e4 e0 e2 hap.1 hap.2 hQ ops.size _ a _ (by simp) ?_ ?_ ⟨env, ?_, hag.drawn _⟩)
    ·simp
    ·intro j hj
     by_cases hjs : j < ops.size
     ·simp [Array.getD, hjs] at hj
     ·simp [Array.getD, hjs] at hj
    ·intro t
     rw [ycu]
     intro j _
     by_cases hjs : j < ops.size
     ·simp [Array.getD, hjs]
     ·simp [Array.getD, hjs]
   ·cases h
 ·cases h
theorem Agree.keep {ks : List (Nat × Wk)} {env : Env} {a : Act} {w : World} (h : Agree P F B0 w0 S0 cx ds env a w) : Agree P F B0 w0 S0 cx ds (Lf.keepE ks env) a w := by
 obtain ⟨h1, h2, n, S, Os, hn, hgr, hst⟩ := h
 obtain ⟨Os', hst'⟩ := hst.keepE hn ks
 exact ⟨h1, h2, n, S, Os', hn, hgr, hst'⟩
theorem AgM.keep {ks : List (Nat × Wk)} {env : Env} {a : Act} {w : World} (h : AgM P F B0 w0 S0 cx ds env a w) : AgM P F B0 w0 S0 cx ds (Lf.keepE ks env) a w := by
 obtain ⟨Ds, n, S, Os, hnd, hD, h1, h2, hn, hgr, hst⟩ := h
 obtain ⟨Os', hst'⟩ := hst.keepE hn ks
 exact ⟨Ds, n, S, Os', hnd, hD, h1, h2, hn, hgr, hst'⟩
theorem Agree.m {env : Env} {a : Act} {w : World} (h : Agree P F B0 w0 S0 cx ds env a w) : AgM P F B0 w0 S0 cx ds env a w := by
 obtain ⟨h1, h2, n, S, Os, hn, hgr, hst⟩ := h
 exact ⟨[], n, S, Os, .nil, fun _ h => absurd h (by simp), h1, h2, hn, hgr, hst⟩
theorem St.reroot {F' : Frm} {n : Nat} {env : Env} {tmps : Array Value} {w : World} {S : Nat → Prop} {Os : Nat → Own} (h : St P F B0 w0 n env tmps w S Os) (hF : ∀ b, F'.b b → S b) (hlo : F'.lo = F.lo) (hts : F'.ts = F.ts) : St P F' B0 w n env tmps w S Os :=
 ⟨Below.refl _ _, h.b0, h.sLt, h.excl, h.one, h.dis, h.rel, h.abs, h.leaf, fun b hb => ⟨hF b hb, rfl⟩, fun t ht => by rw [hts]; exact h.pin t (hlo ▸ ht)⟩
theorem St.unroot {F' : Frm} {n : Nat} {env : Env} {tmps : Array Value} {w w' : World} {S : Nat → Prop} {Os : Nat → Own} (h : St P F' B0 w n env tmps w' S Os) (hF : ∀ b, F.b b → F'.b b) (hk : ∀ b, F.b b → w.heap[b]? = w0.heap[b]?) (hB : Below B0 w0 w)
  (hlo : F'.lo = F.lo) (hts : F'.ts = F.ts) : St P F B0 w0 n env tmps w' S Os :=
 ⟨hB.trans h.below, h.b0, h.sLt, h.excl, h.one, h.dis, h.rel, h.abs, h.leaf, fun b hb => ⟨(h.keep b (hF b hb)).1, (h.keep b (hF b hb)).2.trans (hk b hb)⟩, fun t ht => by rw [← hts]; exact h.pin t (hlo ▸ ht)⟩
theorem AgM.split {env : Env} {a : Act} {w : World} (h : AgM P F B0 w0 S0 cx ds env a w) : ∃ (F' : Frm) (S' : Nat → Prop) (ds' : List Deferred), Agree P F' B0 w S' cx ds' env a w ∧
  ∀ env' a' w', AgM P F' B0 w S' cx ds' env' a' w' → AgM P F B0 w0 S0 cx ds env' a' w' := by
 obtain ⟨Ds, n, S, Os, hnd, hD, h1, h2, hn, hgr, hst⟩ := h
 refine ⟨⟨fun b => F.b b ∨ b ∈ Ds, F.lo, F.ts⟩, S, Ds.map mark ++ ds, ⟨h1, h2, n, S, Os, hn, .refl _ _, hst.reroot ?_ rfl rfl⟩, ?_⟩
 ·intro b hb
  rcases hb with hb | hb
  ·exact (hst.keep b hb).1
  ·exact (hD b hb).2.1
 ·intro env' a' w' ⟨Ds', n', S', Os', hnd', hD', h1', h2', hn', hgr', hst'⟩
  have hlt : ∀ D ∈ Ds, D < w.heap.size := fun D h => hst.sLt D (hD D h).2.1
  refine ⟨Ds' ++ Ds, n', S', Os', ?_, ?_, ?_, h2', hn', hgr.trans hgr', hst'.unroot (fun b hb => .inl hb) (fun b hb => (hst.keep b hb).2) hst.below rfl rfl⟩
  ·refine List.nodup_append.2 ⟨hnd', hnd, fun x hx y hy e => ?_⟩
   subst e
   have := (hD' x hx).1; have := hlt x hy; omega
  ·intro D hd
   rcases List.mem_append.1 hd with hd | hd
   ·exact ⟨Nat.le_trans hst.below.size (hD' D hd).1, (hD' D hd).2⟩
   ·have := hst'.keep D (.inr hd)
    exact ⟨(hD D hd).1, this.1, this.2.trans (hD D hd).2.2⟩
  ·rw [h1', zlq, zlp]
end
section
variable {P : Program} {cx : Cx} {H : Hints}
theorem Tri.go {c : Code} {env env' : Env} {ex : Ex} (h : Tri P cx c env ex env') {ρ : Option Nat} (hρ : cx.lo = 0 → ρ = none) {F : Frm} {B0 : Nat} {w0 : World} {S0 : Nat → Prop} {ds : List Deferred} {a : Act} {w : World} {Q : Exit → Act → World → Prop} (hag : AgM P F B0 w0 S0 cx ds env a w)
  (hQ : ∀ a' w', AgM P F B0 w0 S0 cx ds env' a' w' → Q ex.out a' w') : c.wpIn (Fi ρ) 0 P Q a w := by
 obtain ⟨F', S', ds', h1, h2⟩ := hag.split
 exact h ρ hρ F' B0 w S' ds' a w Q h1 fun a' w' ha => hQ a' w' (h2 _ _ _ ha)
theorem Tri.weak {c : Code} {env env' : Env} {ex : Ex} (ks : List (Nat × Wk)) (h : Tri P cx c (keepE ks env) ex env') : Tri P cx c env ex env' :=
 fun ρ hρ F B0 w0 S0 ds a w Q hag hQ => h ρ hρ F B0 w0 S0 ds a w Q hag.keep hQ
theorem Tri.after {c : Code} {env env' : Env} {ex : Ex} (ks : List (Nat × Wk)) (h : Tri P cx c env ex env') : Tri P cx c env ex (keepE ks env') :=
 fun ρ hρ F B0 w0 S0 ds a w Q hag hQ => h ρ hρ F B0 w0 S0 ds a w Q hag fun a' w' ha => hQ a' w' ha.keep
theorem zqe (hcx : CxBase P cx) (hK : ∀ f xs, cx.K f xs = none) (hM : ∀ f x, x ≠ .bad → cx.KM f x = none) : ∀ (c : Code) {env env' : Env} {ex : Ex} {ans ans' : List Ans} {ps : List Prop}, evA P cx H c env ans = some ((ex, env'), ans', ps) → (∀ q ∈ ps, q) → Tri P cx c env ex env' := by
 intro c
 induction c with
 | skip =>
  intro env env' ex as as' ps h hp ρ hρ F B0 w0 S0 ds a w Q hag hQ
  injection h with h; injection h with h _; injection h with h1 h2; subst h1 h2
  exact wpIn_skip (hQ a w hag.m)
 | label lb =>
  intro env env' ex as as' ps h hp ρ hρ F B0 w0 S0 ds a w Q hag hQ
  injection h with h; injection h with h _; injection h with h1 h2; subst h1 h2
  exact wpIn_label (hQ a w hag.m)
 | exit id =>
  intro env env' ex as as' ps h hp ρ hρ F B0 w0 S0 ds a w Q hag hQ
  injection h with h; injection h with h _; injection h with h1 h2; subst h1 h2
  exact wpIn_exit (hQ a w hag.m)
 | ret =>
  intro env env' ex as as' ps h hp ρ hρ F B0 w0 S0 ds a w Q hag hQ
  injection h with h; injection h with h _; injection h with h1 h2; subst h1 h2
  exact wpIn_ret (hQ a w hag.m)
 | region id ops draw =>
  intro env env' ex as as' ps h hp ρ hρ F B0 w0 S0 ds a w Q hag hQ
  simp only [evA] at h
  split at h
  ·rename_i env2 as2 ps2 hr
   injection h with h; injection h with h1 h2; injection h1 with h1 h3; injection h2 with h2 h4; subst h1 h2 h3 h4
   exact yeh ρ hcx hK hM hr hp hag fun a' w' ha => hQ a' w' ha.keep.m
  ·cases h
 | seq x y ihx ihy =>
  intro env env' ex as as' ps h hp ρ hρ F B0 w0 S0 ds a w Q hag hQ
  have ihx : ∀ {env env' : Env} {ex : Ex} {ans ans' : List Ans} {ps : List Prop}, (match ans with | .cut ex env' :: as => some ((ex, env'), as, [Tri P cx x env ex env']) | as => evA P cx H x env as) = some ((ex, env'), ans', ps) → (∀ q ∈ ps, q) → Tri P cx x env ex env' := by
   intro env env' ex ans ans' ps h hp
   split at h
   ·injection h with h; injection h with h1 h2; injection h1 with h1 h3; injection h2 with h2 h4; subst h1 h2 h3 h4
    exact hp _ List.mem_cons_self
   ·exact ihx h hp
  simp only [evA] at h
  split at h
  ·rename_i env2 as2 ps2 hx
   split at h
   ·rename_i r as3 qs hy
    obtain ⟨ex2, env3⟩ := r
    injection h with h; injection h with h1 h2; injection h1 with h1 h3; injection h2 with h2 h4; subst h1 h2 h3 h4
    refine wpIn_seq (ihx hx (fun q hq => hp q (by simp [hq])) ρ hρ F B0 w0 S0 ds a w _ hag fun a' w' ha => ?_)
    exact (ihy hy (fun q hq => hp q (by simp [hq]))).go hρ ha hQ
   ·cases h
  ·rename_i hne
   refine wpIn_seq (ihx h hp ρ hρ F B0 w0 S0 ds a w _ hag fun a' w' ha => ?_)
   cases ex with
   | normal => exact absurd h (hne _ _ _)
   | exit id => exact hQ a' w' ha
   | ret => exact hQ a' w' ha
 | cond o x y ihx ihy =>
  intro env env' ex as as' ps h hp ρ hρ F B0 w0 S0 ds a w Q hag hQ
  cases o with
  | tmp t =>
   simp only [evA] at h
   split at h
   ·rename_i b hl
    have hb := hag.bool hl
    split at h
    ·split at h
     ·rename_i hbt; subst hbt
      exact wpIn_cond_true hb (ihx h hp ρ hρ F B0 w0 S0 ds a w Q hag hQ)
     ·rename_i hbt
      have : b = false := by simpa using hbt
      subst this
      exact wpIn_cond_false hb (ihy h hp ρ hρ F B0 w0 S0 ds a w Q hag hQ)
    ·rename_i v as2
     split at h
     ·rename_i r as3 ps2 hr
      obtain ⟨ex2, env3⟩ := r
      injection h with h; injection h with h1 h2; injection h1 with h1 h3; injection h2 with h2 h4; subst h1 h2 h3 h4
      have hbv : b = v := hp _ List.mem_cons_self
      subst hbv
      split at hr
      ·rename_i hbt; subst hbt
       exact wpIn_cond_true hb (ihx hr (fun q hq => hp q (List.mem_cons_of_mem _ hq)) ρ hρ F B0 w0 S0 ds a w Q hag hQ)
      ·rename_i hbt
       have : b = false := by simpa using hbt
       subst this
       exact wpIn_cond_false hb (ihy hr (fun q hq => hp q (List.mem_cons_of_mem _ hq)) ρ hρ F B0 w0 S0 ds a w Q hag hQ)
     ·cases h
    ·cases h
   ·cases h
  | _ => cases h
 | block id c ih =>
  intro env env' ex as as' ps h hp ρ hρ F B0 w0 S0 ds a w Q hag hQ
  simp only [evA] at h
  split at h
  ·rename_i id' env2 as2 ps2 hc
   split at h
   ·rename_i he
    subst he
    injection h with h; injection h with h1 h2; injection h1 with h1 h3; injection h2 with h2 h4; subst h1 h2 h3 h4
    refine wpIn_block (ih hc hp ρ hρ F B0 w0 S0 ds a w _ hag fun a' w' ha => ?_)
    simp only [Ex.out, Exit.inBlock, if_true]
    exact hQ a' w' ha
   ·rename_i he
    injection h with h; injection h with h1 h2; injection h1 with h1 h3; injection h2 with h2 h4; subst h1 h2 h3 h4
    refine wpIn_block (ih hc hp ρ hρ F B0 w0 S0 ds a w _ hag fun a' w' ha => ?_)
    simp only [Ex.out, Exit.inBlock, he, if_false]
    exact hQ a' w' ha
  ·rename_i hne
   refine wpIn_block (ih h hp ρ hρ F B0 w0 S0 ds a w _ hag fun a' w' ha => ?_)
   cases ex with
   | normal => exact hQ a' w' ha
   | exit id' => exact absurd h (hne _ _ _ _)
   | ret => exact hQ a' w' ha
 | loop c ih =>
  intro env env' ex as as' ps h hp
  simp only [evA] at h
  split at h
  ·injection h with h; injection h with h1 h2; injection h1 with h1 h3; injection h2 with h2 h4; subst h1 h2 h3 h4
   exact hp _ List.mem_cons_self
  ·cases h
 | rangeFunc g ps c1 c2 _ _ =>
  intro env env' ex as as' ps h hp
  simp only [evA] at h
  split at h
  ·injection h with h; injection h with h1 h2; injection h1 with h1 h3; injection h2 with h2 h4; subst h1 h2 h3 h4
   exact hp _ List.mem_cons_self
  ·cases h
 | _ => intro env env' ex as as' ps h; cases h
theorem CxBase.ok (hcx : CxBase P cx) (hK : ∀ f xs, cx.K f xs = none) (hM : ∀ f x, x ≠ .bad → cx.KM f x = none) : CxOk P cx :=
 ⟨hcx.ty, hcx.eq, fun f xs r h => (by rw [hK] at h; cases h), fun f x r h hx => (by rw [hM f x hx] at h; cases h), hcx.mixed⟩
def Rnd (P : Program) (cx : Cx) (c : Code) (n : Nat) (env : Env) (ex : Ex) (env' : Env) : Prop :=
 ∀ (ρ : Option Nat), (cx.lo = 0 → ρ = none) → ∀ (F : Frm) (B0 : Nat) (w0 : World) (S0 : Nat → Prop) (ds : List Deferred) (a : Act) (w : World) (Q : Exit → Act → World → Prop), Agree P F B0 w0 S0 cx ds env a w →
  (∀ a' w', AgM P F B0 w0 S0 cx ds env' a' w' → Q ex.out a' w') → Code.roundsIn (Fi ρ) 0 P c Q n a w
theorem Rnd.go {c : Code} {n : Nat} {env env' : Env} {ex : Ex} (h : Rnd P cx c n env ex env') {ρ : Option Nat} (hρ : cx.lo = 0 → ρ = none) {F : Frm} {B0 : Nat} {w0 : World} {S0 : Nat → Prop} {ds : List Deferred} {a : Act} {w : World} {Q : Exit → Act → World → Prop} (hag : AgM P F B0 w0 S0 cx ds env a w)
  (hQ : ∀ a' w', AgM P F B0 w0 S0 cx ds env' a' w' → Q ex.out a' w') : Code.roundsIn (Fi ρ) 0 P c Q n a w := by
 obtain ⟨F', S', ds', h1, h2⟩ := hag.split
 exact h ρ hρ F' B0 w S' ds' a w Q h1 fun a' w' ha => hQ a' w' (h2 _ _ _ ha)
theorem Rnd.step {c : Code} {n : Nat} {env env1 env' : Env} {ex : Ex} (h : Tri P cx c env .normal env1) (h2 : Rnd P cx c n env1 ex env') : Rnd P cx c (n + 1) env ex env' :=
 fun ρ hρ F B0 w0 S0 ds a w Q hag hQ => by
  rw [roundsIn_succ]
  exact h ρ hρ F B0 w0 S0 ds a w _ hag fun a' w' ha => h2.go hρ ha hQ
theorem Rnd.exit {c : Code} {n : Nat} {env env' : Env} {ex : Ex} (h : Tri P cx c env ex env') (hne : ex ≠ .normal) : Rnd P cx c (n + 1) env ex env' :=
 fun ρ hρ F B0 w0 S0 ds a w Q hag hQ => by
  rw [roundsIn_succ]
  refine h ρ hρ F B0 w0 S0 ds a w _ hag fun a' w' ha => ?_
  cases ex with
  | normal => exact absurd rfl hne
  | exit id => exact hQ a' w' ha
  | ret => exact hQ a' w' ha
theorem Rnd.weak {c : Code} {n : Nat} {env env' : Env} {ex : Ex} (ks : List (Nat × Wk)) (h : Rnd P cx c n (keepE ks env) ex env') : Rnd P cx c n env ex env' :=
 fun ρ hρ F B0 w0 S0 ds a w Q hag hQ => h ρ hρ F B0 w0 S0 ds a w Q hag.keep hQ
theorem Rnd.loop {c : Code} {n : Nat} {env env' : Env} {ex : Ex} (h : Rnd P cx c n env ex env') : Tri P cx (.loop c) env ex env' :=
 fun ρ hρ F B0 w0 S0 ds a w Q hag hQ => wpIn_loop_rounds n (h ρ hρ F B0 w0 S0 ds a w Q hag hQ)
theorem St.other {F : Frm} {B0 : Nat} {w0 w w' : World} {n : Nat} {env : Env} {tmps : Array Value} {S : Nat → Prop} {Os : Nat → Own} (h : St P F B0 w0 n env tmps w S Os) (hB : Below B0 w w') (hF : ∀ b, F.b b → w'.heap[b]? = w.heap[b]?)
  (hw : ∀ (b : Nat) (o : Obj), w.heap[b]? = some o → isD o = true → w'.heap[b]? = w.heap[b]?) : St P F B0 w0 n env tmps w' S Os := by
 have lv : ∀ (p : Path) (v : Value) (x : AV) (u : Value), LV P w v x p = some u → LV P w' v x p = some u := by
  intro p
  induction p with
  | nil => intro v x u h; exact h
  | cons ic p ih =>
   obtain ⟨i, c⟩ := ic
   intro v x u hl
   unfold LV at hl ⊢
   cases hs : seg x i c 1 with
   | none => rw [hs] at hl; simp at hl
   | some ms =>
    rw [hs] at hl
    match ms, hl with
    | [], hl => simp at hl
    | z :: rest, hl =>
     cases hc : ybn P w x i c v with
     | none => rw [hc] at hl; simp at hl
     | some u1 =>
      rw [hc] at hl
      have cell : ∀ (q : Addr) (y : Value), w.cell? q = some y → w'.cell? q = some y := by
       intro q y hy
       cases ho : w.heap[q.block]? with
       | none => rw [World.cell?] at hy; rw [ho] at hy; cases hy
       | some ob =>
        cases ob with
        | cells C T fr => rw [World.cell?, hw _ _ ho rfl, ← World.cell?]; exact hy
        | _ => rw [World.cell?] at hy; rw [ho] at hy; cases hy
      have : ybn P w' x i c v = some u1 := by
       unfold ybn at hc ⊢
       split at hc
       ·exact cell _ _ hc
       ·exact cell _ _ hc
       ·exact hc
       ·cases hc
      rw [this]; exact ih u1 z u hl
 refine ⟨h.below.trans hB, Nat.le_trans h.b0 hB.size, fun b hb => Nat.lt_of_lt_of_le (h.sLt b hb) hB.size, h.excl, h.one, h.dis, ?_, h.abs, h.leaf, fun b hb => ⟨(h.keep b hb).1, (hF b hb).trans (h.keep b hb).2⟩, h.pin⟩
 intro t x hx
 obtain ⟨v, hv, hs⟩ := h.rel t x hx
 refine ⟨v, hv, ?_⟩
 rcases hs with ⟨k1, k2, k3⟩ | hr
 ·refine .inl ⟨k1, ?_, k3⟩
  cases hr : zqf x with
  | none => exact absurd hr k1
  | some r => exact k2.keep hr rfl rfl fun xr vr p u _ _ hl => lv p vr xr u hl
 ·exact .inr (Rv.frameC (fun _ h => h) (fun b C T fr _ hg => hw b _ hg rfl) n v x (Os t) (fun b o _ hg hd => hw b o hg hd) hr)
theorem ydh {fn : Func} {tmps : Array Value} {R : Ending → World → Prop} : ∀ (Ds : List Nat) {w : World}, Ds.Nodup → (∀ D ∈ Ds, w.heap[D]? = some (.deferred (some []))) →
  (∀ w' : World, w'.os = w.os → w'.tape = w.tape → w'.output = w.output → w'.heap.size = w.heap.size → (∀ b, b ∉ Ds → w'.heap[b]? = w.heap[b]?) → ∃ v, (results fn tmps).run P w' = .ok v w' ∧ R (.returned v) w') →
  LeavesInM (Fi none) 0 P fn tmps R (Ds.map mark ++ []) .returning w
 | [], w, _, _, h => h w rfl rfl rfl rfl fun _ _ => rfl
 | D :: Ds, w, hn, hD, h => by
  have hk := hD D (by simp)
  have hlt : D < w.heap.size := (zlj.1 hk).1
  obtain ⟨hn1, hn2⟩ := List.nodup_cons.1 hn
  refine ⟨by simp, .inl ⟨D, _, rfl, run_takeDeferred hk, ydh Ds hn2 (fun D' hD' => ?_) fun w' h1 h2 h3 h4 h5 => ?_⟩⟩
  ·have hne : D' ≠ D := fun e => hn1 (e ▸ hD')
   rw [World.putObj_heap_other hne]; exact hD D' (by simp [hD'])
  ·refine h w' h1 h2 h3 (h4.trans World.putObj_size) fun b hb => ?_
   rw [h5 b fun hb' => hb (by simp [hb'])]
   exact World.putObj_heap_other fun e => hb (by simp [e])
variable {r : AV}
theorem yc5 (hcx : CxOk P cx) {c : Code} {ex : Ex} {env' : Env} {f : FuncId} {fn : Func} {xs : List AV} {r : AV} (hf : P.funcs[f]? = some fn) (hname : (fn.name == "runtime.NumGoroutine") = false) (hlen : xs.length ≤ cx.N) (hlo : cx.lo = 0)
  (hb : fn.body = some c) (hN : fn.ntmps = cx.N) (htri : Tri P cx c (ydc xs) ex env') (h : finK cx fn.results.toList ex env' = some r) : PureC P f xs r := by
  ·refine ⟨?_, ?_⟩
   ·intro args w
    have hn' : ¬ (fn.name = "runtime.NumGoroutine") := by simpa using hname
    simp [callFunc, hf, hn', hb]
   ·intro w S args n hS hargs
    have hal : args.length = xs.length := hargs.length
    have hargs' : Rc (Rv P w.heap.size w S (n + 1)) args xs (fun _ => 0) := hargs.le (Nat.le_succ n)
    refine (callsIn_wide (n := 0)).1 (callsIn_of_wp_marks (F := Fi none) (n := 0) hf hb trivial ?_ rfl)
    have hst := St.enter hS hargs' (k := fn.ntmps - args.toArray.size)
    have hag : Agree P ⟨fun _ => False, 0, #[]⟩ w.heap.size w S cx [] (ydc xs) { tmps := args.toArray ++ Array.replicate (fn.ntmps - args.toArray.size) undef, defers := [] } w := by
     refine ⟨rfl, ⟨?_, hlo.symm⟩, n + 1, S, _, Nat.succ_pos n, .refl _ _, hst⟩
     simp; omega
    ·have fin : ∀ (a' : Act) w' n1 S1 Os1, 0 < n1 → Grow w.heap.size S S1 → St P ⟨fun _ => False, 0, #[]⟩ w.heap.size w n1 env' a'.tmps w' S1 Os1 → (ydz cx fn.results.toList env').map tupR = some r → ∃ v, (results fn a'.tmps).run P w' = .ok v w' ∧
       ∃ v' n' S' O, Ending.returned v = .returned v' ∧ Below w.heap.size w w' ∧ Rv P w.heap.size w' S' n' v' r O ∧ (∀ b, O b ≤ 1) ∧
        (∀ b, S' b → (S b ∨ w.heap.size ≤ b) ∧ b < w'.heap.size) ∧ (∀ b, S' b → O b = 0) ∧ (∀ b, S b → S' b) := by
      intro a' w' n1 S1 Os1 hn1 hgr hst1 ht
      cases hq : ydz cx fn.results.toList env' with
      | none => rw [hq] at ht; cases ht
      | some ys =>
       rw [hq] at ht
       injection ht with ht
       obtain ⟨vs, n2, S2, O, hrun, hrc, h1, h2, h3, h4, h5⟩ := ygs hcx _ hst1 hn1 hq
       have hres : (results fn a'.tmps).run P w' = .ok (if h : vs.toArray.size = 1 then vs.toArray[0] else .tuple vs.toArray) w' := by
        have e2 : (fn.results.mapM (ybt a'.tmps)).run P w' = .ok vs.toArray w' := by
         rw [Array.mapM_eq_mapM_toList, Sem.run_map, hrun]
         simp
        have e4 : results fn a'.tmps = (do let vs ← fn.results.mapM (ybt a'.tmps); pure (if h : vs.size = 1 then vs[0] else .tuple vs)) := by
         unfold results
         congr 1
        rw [e4, Sem.run_bind, e2]
        simp
       refine ⟨_, hres, _, n2 + 1, S2, O, rfl, hst1.below, ?_, h1, ?_, h2, fun b hb => h3 b (hgr.1 b hb)⟩
       ·match ys, hrc, ht with
        | [y], hrc, ht =>
         obtain ⟨v, rfl, hv⟩ := hrc.one
         have : r = y := ht.symm
         subst this
         exact hv.le (Nat.le_succ n2)
        | [], hrc, ht =>
         have : r = .tup [] := ht.symm
         subst this
         have hl := hrc.length
         have hvs : vs = [] := zli hl
         subst hvs
         exact ⟨#[], rfl, hrc⟩
        | y1 :: y2 :: ys, hrc, ht =>
         have : r = .tup (y1 :: y2 :: ys) := ht.symm
         subst this
         have hl := hrc.length
         simp only [List.length_cons] at hl
         rw [dif_neg (by simp; omega)]
         exact ⟨vs.toArray, rfl, hrc⟩
       ·intro b hb
        rcases h4 b hb with h | ⟨t, ht⟩
        ·exact ⟨hgr.2 b h, hst1.sLt b h⟩
        ·have := hst1.lt t b ht
         exact ⟨.inr this.1, this.2⟩
     refine htri none (fun _ => rfl) _ _ _ _ _ _ _ _ hag fun a' w' ⟨Ds, n1, S1, Os1, hnd, hD, hd, _, hn1, hgr, hst1⟩ => ?_
     have out : (ydz cx fn.results.toList env').map tupR = some r → LeavesInM (Fi none) 0 P fn a'.tmps (fun e w' => ∃ v' n' S' O, e = .returned v' ∧ Below w.heap.size w w' ∧ Rv P w.heap.size w' S' n' v' r O ∧ (∀ b, O b ≤ 1) ∧
        (∀ b, S' b → (S b ∨ w.heap.size ≤ b) ∧ b < w'.heap.size) ∧ (∀ b, S' b → O b = 0) ∧ (∀ b, S b → S' b)) a'.defers .returning w' := by
      intro ht
      rw [hd]
      refine ydh Ds hnd (fun D h => (hD D h).2.2) fun w2 h1 h2 h3 h4 h5 => ?_
      refine fin a' w2 n1 S1 Os1 hn1 hgr (hst1.other ⟨h1, h2, h3, by omega, fun k hk => h5 k fun hm => by have := (hD k hm).1; omega⟩ (fun _ h => h.elim) fun b o hg hd => h5 b fun hm => by rw [(hD b hm).2.2] at hg; injection hg with hg; subst hg; cases hd) ht
     cases ex with
     | normal => exact out h
     | ret => exact out h
     | exit id => simp [finK] at h
def funA (P : Program) (cx : Cx) (H : Hints) (fn : Func) (xs : List AV) (as : List Ans) : Option (AV × List Prop) :=
 match fn.body with
 | some c => match evA P cx H c (ydc xs) as with
  | some ((ex, env), _, ps) => match finK cx fn.results.toList ex env with
   | some r => some (r, ps)
   | none => none
  | none => none
 | none => none
def cxA (T : yf0) (eqT : TypeId → List Value → List Value → Option Bool) (muts : FuncId → Bool) (n lo : Nat) : Cx :=
 ⟨T, fun _ _ => none, fun f x => match x with | .bad => if muts f = true then some .bad else none | _ => none, eqT, n, lo, false⟩
theorem zqb {T : yf0} {eqT : TypeId → List Value → List Value → Option Bool} {muts : FuncId → Bool} {n lo : Nat} : (∀ f xs, (cxA T eqT muts n lo).K f xs = none) ∧ ∀ f x, x ≠ .bad → (cxA T eqT muts n lo).KM f x = none :=
 ⟨fun _ _ => rfl, fun f x hx => by cases x <;> first | rfl | exact absurd rfl hx⟩
theorem zqj {T : yf0} {eqT : TypeId → List Value → List Value → Option Bool} {muts : FuncId → Bool} {n : Nat} (hb : CxBase P (cxA T eqT muts n 0)) {f : FuncId} {fn : Func} {xs : List AV} {ans : List Ans} {ps : List Prop} (hf : P.funcs[f]? = some fn) (hname : (fn.name == "runtime.NumGoroutine") = false)
  (hlen : xs.length ≤ n) (hN : fn.ntmps = n) (h : funA P (cxA T eqT muts n 0) H fn xs ans = some (r, ps)) (hp : ∀ q ∈ ps, q) : PureC P f xs r := by
 unfold funA at h
 split at h
 ·rename_i c hc
  split at h
  ·rename_i ex env as2 ps2 he
   split at h
   ·rename_i r2 hr
    injection h with h; injection h with h1 h2; subst h1 h2
    exact yc5 (hb.ok zqb.1 zqb.2) hf hname hlen rfl hc hN (zqe hb zqb.1 zqb.2 c he hp) hr
   ·cases h
  ·cases h
 ·cases h
end
end Go.Lf
end
