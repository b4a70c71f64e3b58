/- Part 7 of the evaluator and of the contracts that the claim uses. -/
import Derived.Test.YtnaikfcmegkdpaaStacksCheckLAA
import Derived.Test.YtnaikfcmegkdpaaStacksCheckLAB
import Derived.Test.YtnaikfcmegkdpaaStacksCheckLAC
import Derived.Test.YtnaikfcmegkdpaaStacksCheckLAD
import Derived.Test.YtnaikfcmegkdpaaStacksCheckLAE
import Derived.Test.YtnaikfcmegkdpaaStacksCheckLAF
set_option linter.unusedVariables false
set_option linter.unusedSimpArgs false
set_option linter.constructorNameAsVariable false

section
open Go Go.Lf Go.Proofs
namespace Tst
theorem ck_body : Try.f12.body = some (.seq (regAt Try.f12 0) (.seq (codeAt Try.f12 1) (.seq (regAt Try.f12 3) (.seq (regAt Try.f12 4) (.seq (regAt Try.f12 5) (.seq (.seq (regAt Try.f12 6) (.block 0 (.loop (loopBody Try.f12 0)))) (.seq (codeAt Try.f12 14) (.seq (.seq (regAt Try.f12 16) (.block 2 (.loop (loopBody Try.f12 1)))) (.seq (.seq (regAt Try.f12 21) (.block 4 (.loop (loopBody Try.f12 2)))) (.seq (codeAt Try.f12 29) (.seq (codeAt Try.f12 31) (.seq (regAt Try.f12 35) .ret)))))))))))) := by kernel_rfl
theorem itms_stk {F B : List Stk} (hF : F.length ≤ 40) (hB : B.length ≤ 40) : (itms F B).map (fun t => t.2.2) = F ++ B := by
  unfold itms
  rw [List.map_append, List.map_map, List.map_map, List.take_of_length_le hF, List.take_of_length_le hB]
  show (F.zipIdx.map fun q => q.1) ++ (B.zipIdx.map fun q => q.1) = _
  rw [show (F.zipIdx.map fun q => q.1) = F from List.zipIdx_map_fst 0 F, show (B.zipIdx.map fun q => q.1) = B from List.zipIdx_map_fst 0 B]
theorem itms_any {F B : List Stk} (hF : F.length ≤ 40) (hB : B.length ≤ 40) : ((itms F B).any fun t => decide (4 < t.2.2.l.length)) = (F ++ B).any fun s => decide (4 < s.l.length) := by
  rw [← itms_stk hF hB, List.any_map]; rfl
theorem itms_all {F B : List Stk} (hF : F.length ≤ 40) (hB : B.length ≤ 40) : allI (itms F B) = (F ++ B).flatMap Stk.l := by
  rw [← itms_stk hF hB, List.flatMap_map]; rfl
theorem nmV_eq (F B : List Stk) : nmV F B = (allI (itms F B)).all nmI := by
  unfold nmV allI
  rw [List.all_flatMap]
theorem dup_nd (l : List Idd) : (∃ j, 0 ≤ j ∧ j < l.length ∧ ∃ k, 0 ≤ k ∧ k < j ∧ l.getD k default = l.getD j default) ↔ ¬ l.Nodup := by
  have gd : ∀ j (hj : j < l.length), l.getD j default = l[j] := fun j hj => by rw [List.getD_eq_getElem?_getD, List.getElem?_eq_getElem hj]; rfl
  rw [List.nodup_iff_pairwise_ne, List.pairwise_iff_getElem]
  constructor
  · rintro ⟨j, _, hj, k, _, hk, e⟩ h
    rw [gd k (by omega), gd j hj] at e
    exact h k j (by omega) hj hk e
  · intro h
    refine Classical.byContradiction fun c => h fun k j hk hj hkj e => c ⟨j, Nat.zero_le _, hj, k, Nat.zero_le _, hkj, ?_⟩
    rw [gd k hk, gd j hj, e]
attribute [local irreducible] setV joinV
open Classical in
theorem law12_c (F B : List Stk) : PureC Try.prog 12 [bdn F B] (bb true) := by
  refine pureT ((base 174 0).ok cxA_K.1 cxA_K.2) Try.func12 rfl (by show 1 ≤ 174; omega) rfl ck_body rfl (ex := .ret) (env' := [(2, bb true)]) ?_ rfl
  refine .seq (kc0_0 F B) ?_
  by_cases h1 : 45 < F.length
  · exact .seqX (kc1_0 F B (decide_eq_true (by rw [List.length_map]; omega))) (by simp)
  have n1 : decide ((45 : Int) < (((List.map Stk.enc F).length : Nat) : Int)) = false := decide_eq_false (by rw [List.length_map]; omega)
  by_cases h2 : 45 < B.length
  · exact .seqX (kc1_1 F B n1 (decide_eq_true (by rw [List.length_map]; omega))) (by simp)
  refine .seq (kc1_2 F B n1 (decide_eq_false (by rw [List.length_map]; omega))) ?_
  refine Tri.weak [(1, .keep)] ?_
  have a6 : ∀ L : List Stk, (List.all (L.map Stk.enc) fun y => List.all (AV.ecells y) plainA) = true ∧ (List.all (L.map Stk.enc) fun y => decide (List.length (AV.ecells y) = (1 : Nat))) = true := fun L => by
    refine ⟨?_, ?_⟩ <;> · rw [List.all_map, List.all_eq_true]; intro s _; rfl
  have hLl : (F ++ B).length ≤ 90 := by rw [List.length_append]; omega
  refine .seq (Tri.less (kc3_0 F B rfl (decide_eq_true ⟨rfl, a6 F⟩) (decide_eq_true ⟨rfl, by rw [List.length_map, List.length_map]; show 0 + F.length ≤ _; omega, by simp⟩) rfl (decide_eq_true ⟨rfl, a6 B⟩) (decide_eq_true ⟨rfl, by rw [List.length_map, List.length_map]; show F.length + B.length ≤ _; omega, by simp⟩) (by rw [← List.map_append])) (env2 := [(1, .box [bsl none F, bsl none B]), (3, ownS (F ++ B))]) (.cons ⟨rfl, rfl, Le.refl _⟩ (.cons ⟨rfl, rfl, Le.cap⟩ .nil))) ?_
  refine .seq (Tri.less (kc4_0 _ (F ++ B)) (env2 := [(1, .box [bsl none F, bsl none B]), (3, ownS (F ++ B)), (4, ownI [])]) (.cons ⟨rfl, rfl, Le.refl _⟩ (.cons ⟨rfl, rfl, Le.refl _⟩ (.cons ⟨rfl, rfl, fun B0 w S n v O h => Le.cap B0 w S n v O (Le.nilOwn 30 B0 w S n v O h)⟩ .nil)))) ?_
  refine .seq (kc5_0 _ (F ++ B) []) ?_
  have hka := ka_rnd [bsl none F, bsl none B] (F ++ B) hLl (F ++ B).length 0 [] 0 (by omega) (by simp)
  rw [List.drop_zero] at hka
  cases hck : ckL (F ++ B) [] 0 with
  | none => exact .seqX (.seq (kc6_0 _ (F ++ B) [] 0) (.block (ex := .ret) (Rnd.loop (hka.2 hck)) (.inr ⟨by simp, rfl⟩))) (by simp)
  | some r =>
    obtain ⟨hr, hr66⟩ := ckL_eq (F ++ B) [] 0 (by simp) r hck
    have hN : r.1 = (F ++ B).flatMap Stk.l := by rw [hr]; rfl
    have hw0 : r.2 = if (F ++ B).any (fun s => decide (4 < s.l.length)) = true then 9 else 0 := by rw [hr]
    refine .seq (.seq (kc6_0 _ (F ++ B) [] 0) (.block (ex := .exit 0) (Rnd.loop (hka.1 r hck)) (.inl ⟨rfl, rfl⟩))) ?_
    obtain ⟨N, w0⟩ := r
    simp only at hN hw0 hr66
    -- too many needles
    obtain ⟨w1, hw1, hov, h14⟩ : ∃ w1 : Int, (w1 = 0 ∨ w1 = 9) ∧ (ovV F B = true ↔ w1 = 9) ∧ Tri Try.prog (cxN 174 0) (codeAt Try.f12 14) [(1, .box [bsl none F, bsl none B]), (4, ownI N), (5, it w0)] .normal (kbE [bsl none F, bsl none B] N w1) := by
      by_cases hF : 40 < F.length
      · exact ⟨9, .inr rfl, ⟨fun _ => rfl, fun _ => by unfold ovV; rw [decide_eq_true hF]; rfl⟩, kc14_0 F B N w0 (decide_eq_true (by rw [List.length_map]; omega))⟩
      have nF : decide ((40 : Int) < (((List.map Stk.enc F).length : Nat) : Int)) = false := decide_eq_false (by rw [List.length_map]; omega)
      by_cases hB : 40 < B.length
      · exact ⟨9, .inr rfl, ⟨fun _ => rfl, fun _ => by unfold ovV; rw [decide_eq_true hB]; simp⟩, kc14_1 F B N w0 nF (decide_eq_true (by rw [List.length_map]; omega))⟩
      · refine ⟨w0, ?_, ?_, Tri.after kbK (kc14_2 F B N w0 nF (decide_eq_false (by rw [List.length_map]; omega)))⟩
        · rw [hw0]; split
          · exact .inr rfl
          · exact .inl rfl
        · unfold ovV
          rw [decide_eq_false hF, decide_eq_false hB, itms_any (by omega) (by omega), hw0]
          cases (F ++ B).any fun s => decide (4 < s.l.length) <;> simp
    have hkb := Rnd.loop (kb_rnd [bsl none F, bsl none B] N hr66 N.length 0 w1 (by omega))
    rw [List.drop_zero] at hkb
    have hkd := fun w => Rnd.loop (kd_rnd [bsl none F, bsl none B] N hr66 N.length 0 w (by omega))
    refine .seq h14 (.seq (.seq (kc16_0 _ N w1) (.block (ex := .exit 2) hkb (.inl ⟨rfl, rfl⟩))) (.seq (.seq (kc21_0 _ N _) (.block (ex := .exit 4) (hkd _) (.inl ⟨rfl, rfl⟩))) ?_))
    -- what is wanted is what Check answers
    have hfin : (if (if w1 ≠ 0 then w1 else if N.all nmI = true then (0 : Int) else 1) ≠ 0 then (if w1 ≠ 0 then w1 else if N.all nmI = true then (0 : Int) else 1) else if ∃ j, 0 ≤ j ∧ j < N.length ∧ ∃ k, 0 ≤ k ∧ k < j ∧ N.getD k default = N.getD j default then 8 else 0) = chkV F B := by
      unfold chkV
      rcases hw1 with rfl | rfl
      · have ho : ovV F B = false := by
          cases h : ovV F B
          · rfl
          · exact absurd (hov.1 h) (by decide)
        have hs : F.length ≤ 40 ∧ B.length ≤ 40 := ⟨(ov_short ho).1, (ov_short ho).2.1⟩
        have hall := itms_all hs.1 hs.2
        rw [← hN] at hall
        have z : (if (0 : Int) ≠ 0 then (0 : Int) else if N.all nmI = true then 0 else 1) = if N.all nmI = true then 0 else 1 := if_neg (by simp)
        rw [z, ho, nmV_eq, hall]
        unfold twV
        rw [hall]
        by_cases hn : N.all nmI = true
        · rw [if_pos hn, if_neg (by simp), hn]
          by_cases hd : N.Nodup
          · rw [if_neg fun c => (dup_nd N).1 c hd, decide_eq_true hd]; rfl
          · rw [if_pos ((dup_nd N).2 hd), decide_eq_false hd]; rfl
        · rw [if_neg hn, if_pos (by simp)]
          simp only [Bool.not_eq_true] at hn
          rw [hn]; rfl
      · have ho : ovV F B = true := hov.2 rfl
        rw [ho]; rfl
    rw [hfin]
    have hch : ChA F B (chkV F B) := chk_c none none F B
    refine .seq (kc29_0 F B N (chkV F B) (chkV F B) hch (by simp) (by simp)) ?_
    refine Tri.weak kbK ?_
    by_cases h0 : chkV F B = 0
    · show Tri Try.prog (cxN 174 0) _ [(1, .box [bsl none F, bsl none B]), (4, ownI N), (5, it (chkV F B))] _ _
      rw [h0]
      refine .seq (kc31o_0 _ N) ?_
      refine Tri.weak [(1, .keep), (4, .keep)] ?_
      obtain ⟨hF, hB, hA⟩ := chk_len h0
      have hall := itms_all hF hB
      rw [← hN] at hall
      have htot : total (itms F B) = ((N.length : Nat) : Int) := by rw [total_all, hall]
      have hct : CtA F B ((N.length : Nat) : Int) := by
        have := cn_0 none none F B (by rw [htot]; omega)
        rwa [htot] at this
      exact .seq (kc35_0 F B N _ hct (by rw [List.length_map]; simp) (by rw [List.length_map]; simp)) .ret
    · have hs : SeA F B (chkV F B) := by
        have h1 : setV F B 0 1 [] = nilR (chkV F B) := by unfold setV; rw [if_pos (by simpa using h0)]
        have h2 := set_c none none (some 0) F B 0 1 [] (by decide)
        rw [h1] at h2
        exact h2.args (.cons (Le.refl _) (.cons (Le.refl _) (.cons (Le.nil 30) .nil)))
      have hj : JnA F B (chkV F B) := by
        have h1 : joinV F B 0 1 1 1 = nilR (chkV F B) := by unfold joinV; rw [if_pos (by simpa using h0)]
        have h2 := join_c none none F B 0 1 1 1
        rwa [h1] at h2
      exact .seqX (kc31e_0 F B N (chkV F B) (chkV F B) (by simpa using h0) hs hj (by simp) (by simpa using h0) (by simp)) (by simp)
end Tst
end

section
open Go Go.Lf Go.Proofs
namespace Tst
theorem F2.cons' {α β : Type} {R : α → β → Prop} {x : α} {l : List α} {m : List β} (h : F2 R (x :: l) m) : ∃ y m', m = y :: m' ∧ R x y ∧ F2 R l m' := by
  cases h with
  | cons h t => exact ⟨_, _, rfl, h, t⟩
theorem F2.nil' {α β : Type} {R : α → β → Prop} {m : List β} (h : F2 R [] m) : m = [] := by cases h; rfl
section
variable {P : Program} {t : TypeId} {ys : List AV}
theorem sh_int (m : Nat) {k : IntKind} (hu : P.underlying t = some (.int k)) (h : Shape P (m + 1) t ys) : ∃ i, ys = [.atom (.int k i)] ∧ (Lit.int k i).wf = true := by
  unfold Shape at h; rw [hu] at h; exact h
theorem sh_slice (m : Nat) {e : TypeId} (hu : P.underlying t = some (.slice e)) (h : Shape P (m + 1) t ys) : ∃ xs, ys = [.sl .any e none xs] ∧ xs.length ≤ maxLen ∧ ∀ x ∈ xs, ∃ cs, x = elOf P e cs ∧ cs.length = P.cellsOf e ∧ Shape P m e cs := by
  unfold Shape at h; rw [hu] at h; exact h
theorem sh_struct (m : Nat) {fs : Array Field} (hu : P.underlying t = some (.struct fs)) (h : Shape P (m + 1) t ys) : ∃ yss : List (List AV), ys = yss.flatten ∧ F2 (fun f cs => Shape P m f.type cs) fs.toList yss := by
  unfold Shape at h; rw [hu] at h; exact h
end
theorem choose_map {α : Type} (f : α → AV) (Q : α → Prop) : ∀ xs : List AV, (∀ x ∈ xs, ∃ a, x = f a ∧ Q a) → ∃ l : List α, xs = l.map f ∧ ∀ a ∈ l, Q a
  | [], _ => ⟨[], rfl, by simp⟩
  | x :: xs, h => by
    obtain ⟨a, rfl, ha⟩ := h x (by simp)
    obtain ⟨l, rfl, hl⟩ := choose_map f Q xs fun y hy => h y (by simp [hy])
    exact ⟨a :: l, rfl, by
      intro b hb
      rcases List.mem_cons.1 hb with rfl | hb
      · exact ha
      · exact hl b hb⟩
def U8 (x : Int) : Prop := 0 ≤ x ∧ x ≤ 255
def I64 (x : Int) : Prop := -9223372036854775808 ≤ x ∧ x ≤ 9223372036854775807
theorem u8_wf {i : Int} (h : (Lit.int .u8 i).wf = true) : U8 i := by
  simp only [Lit.wf, Bool.and_eq_true, decide_eq_true_eq] at h
  exact h
theorem i64_wf {i : Int} (h : (Lit.int .i64 i).wf = true) : I64 i := by
  simp only [Lit.wf, Bool.and_eq_true, decide_eq_true_eq] at h
  exact h
structure Ty3 (P : Program) : Prop where
  u3 : P.underlying 3 = some (.int .i64)
  u5 : P.underlying 5 = some (.int .u8)
  u52 : P.underlying 52 = some (.array 2 5)
  a52 : aggT P 52 = true
theorem tyP3 : Ty3 Try.prog := ⟨Try.underlying3, Try.underlying5, Try.underlying52, by kernel_rfl⟩
def Arg (P : Program) (t : TypeId) (x : AV) : Prop := ∃ ys, x = elOf P t ys ∧ Shape P 8 t ys ∧ ys.length = P.cellsOf t
theorem args1 {P : Program} {s : TypeId} {xs : List AV} (h : F2 (Arg P) [s] xs) : ∃ x, xs = [x] ∧ Arg P s x := by
  obtain ⟨x, _, rfl, h1, h⟩ := F2.cons' h
  obtain rfl := F2.nil' h
  exact ⟨x, rfl, h1⟩
end Tst
end

section
open Go Go.Lf Go.Proofs
namespace Tst
structure Ty4 (P : Program) : Prop where
  u58 : P.underlying 58 = some (.slice 87)
  u62 : P.underlying 62 = some (.slice 30)
  u66 : P.underlying 66 = some (.slice 62)
  u59 : P.underlying 59 = some (.int .u8)
  u87 : ∃ a b : Field, P.underlying 87 = some (.struct #[a, b]) ∧ a.type = 5 ∧ b.type = 5
  u61 : ∃ a b : Field, P.underlying 61 = some (.struct #[a, b]) ∧ a.type = 59 ∧ b.type = 3
  u30 : ∃ a b : Field, P.underlying 30 = some (.struct #[a, b]) ∧ a.type = 5 ∧ b.type = 3
  u68 : ∃ a b : Field, P.underlying 68 = some (.struct #[a, b]) ∧ a.type = 66 ∧ b.type = 66
  a87 : aggT P 87 = true
  a61 : aggT P 61 = true
  a30 : aggT P 30 = true
  a68 : aggT P 68 = true
  a58 : aggT P 58 = false
  a62 : aggT P 62 = false
  a66 : aggT P 66 = false
theorem tyP4 : Ty4 Try.prog := ⟨Try.underlying58, Try.underlying62, Try.underlying66, Try.underlying59, ⟨_, _, Try.underlying87, rfl, rfl⟩, ⟨_, _, Try.underlying61, rfl, rfl⟩, ⟨_, _, Try.underlying30, rfl, rfl⟩, ⟨_, _, Try.underlying68, rfl, rfl⟩,
  by kernel_rfl, by kernel_rfl, by kernel_rfl, by kernel_rfl, by kernel_rfl, by kernel_rfl, by kernel_rfl⟩
section
variable {P : Program} {m : Nat}
theorem id_of (T : Ty3 P) (U : Ty4 P) {cs : List AV} (h : Shape P (m + 2) 30 cs) : ∃ p : Idd, cs = [ub p.y, it p.n] ∧ U8 p.y ∧ I64 p.n := by
  obtain ⟨fa, fb, hu, ta, tb⟩ := U.u30
  obtain ⟨yss, rfl, hf⟩ := sh_struct (m + 1) hu h
  obtain ⟨c1, _, rfl, h1, hf⟩ := F2.cons' hf
  obtain ⟨c2, _, rfl, h2, hf⟩ := F2.cons' hf
  obtain rfl := F2.nil' hf
  rw [ta] at h1; rw [tb] at h2
  obtain ⟨y, rfl, w1⟩ := sh_int m T.u5 h1
  obtain ⟨n, rfl, w2⟩ := sh_int m T.u3 h2
  exact ⟨⟨y, n⟩, rfl, u8_wf w1, i64_wf w2⟩
theorem el_no {t : TypeId} (h : aggT P t = false) (x : AV) : elOf P t [x] = x := by unfold elOf; rw [if_neg (Bool.eq_false_iff.1 h)]; rfl
theorem list_of_id (T : Ty3 P) (U : Ty4 P) {ys : List AV} (h : Shape P (m + 3) 62 ys) : ∃ l : List Idd, ys = [isl none l] ∧ (∀ p ∈ l, U8 p.y ∧ I64 p.n) ∧ l.length ≤ maxLen := by
  obtain ⟨xs, rfl, hl, hx⟩ := sh_slice (m + 2) U.u62 h
  obtain ⟨a, rfl, ha⟩ := choose_map Idd.enc (fun p => U8 p.y ∧ I64 p.n) xs fun x hx' => by
    obtain ⟨cs, rfl, _, hc⟩ := hx x hx'
    obtain ⟨p, rfl, w⟩ := id_of (m := m) T U hc
    exact ⟨p, by unfold elOf; rw [if_pos U.a30]; rfl, w⟩
  exact ⟨a, rfl, ha, by simpa using hl⟩
theorem list_of_stk (T : Ty3 P) (U : Ty4 P) {ys : List AV} (h : Shape P (m + 4) 66 ys) : ∃ F : List Stk, ys = [bsl none F] ∧ (∀ s ∈ F, s.c = none ∧ (∀ p ∈ s.l, U8 p.y ∧ I64 p.n) ∧ s.l.length ≤ maxLen) ∧ F.length ≤ maxLen := by
  obtain ⟨xs, rfl, hl, hx⟩ := sh_slice (m + 3) U.u66 h
  obtain ⟨a, rfl, ha⟩ := choose_map Stk.enc (fun s => s.c = none ∧ (∀ p ∈ s.l, U8 p.y ∧ I64 p.n) ∧ s.l.length ≤ maxLen) xs fun x hx' => by
    obtain ⟨cs, rfl, _, hc⟩ := hx x hx'
    obtain ⟨l, rfl, h1, h2⟩ := list_of_id (m := m) T U hc
    exact ⟨⟨none, l⟩, el_no U.a62 _, rfl, h1, h2⟩
  exact ⟨a, rfl, ha, by simpa using hl⟩
end
section
variable {P : Program}
theorem arg68 (T : Ty3 P) (U : Ty4 P) {x : AV} (h : Arg P 68 x) : ∃ F B : List Stk, x = beds (bsl none F) (bsl none B) ∧ (∀ s, s ∈ F ∨ s ∈ B → s.c = none ∧ (∀ p ∈ s.l, U8 p.y ∧ I64 p.n) ∧ s.l.length ≤ maxLen) ∧ F.length ≤ maxLen ∧ B.length ≤ maxLen := by
  obtain ⟨ys, rfl, hs, _⟩ := h
  obtain ⟨fa, fb, hu, ta, tb⟩ := U.u68
  obtain ⟨yss, rfl, hf⟩ := sh_struct 7 hu hs
  obtain ⟨c1, _, rfl, h1, hf⟩ := F2.cons' hf
  obtain ⟨c2, _, rfl, h2, hf⟩ := F2.cons' hf
  obtain rfl := F2.nil' hf
  rw [ta] at h1; rw [tb] at h2
  obtain ⟨F, rfl, a1, a2⟩ := list_of_stk (m := 3) T U h1
  obtain ⟨B, rfl, b1, b2⟩ := list_of_stk (m := 3) T U h2
  exact ⟨F, B, by unfold elOf; rw [if_pos U.a68]; rfl, fun s hs => hs.elim (a1 s) (b1 s), a2, b2⟩
end
end Tst
end

section
open Go Go.Lf Go.Proofs Tst
namespace Go.Proofs.Ytnaikfcmegkdpaa.stacksCheck
theorem StacksCheck_pure (xs : List AV) (h : F2 (fun t x => ∃ ys, x = elOf Try.prog t ys ∧ Shape Try.prog 8 t ys ∧ ys.length = Try.prog.cellsOf t) Try.f12.params.toList xs) : PureC Try.prog 12 xs (.atom (.bool true)) := by
  rw [Try.params12] at h
  obtain ⟨x, rfl, h1⟩ := args1 (P := Try.prog) h
  obtain ⟨F, B, rfl, _⟩ := arg68 tyP3 tyP4 h1
  exact law12_c F B
end Go.Proofs.Ytnaikfcmegkdpaa.stacksCheck
end
