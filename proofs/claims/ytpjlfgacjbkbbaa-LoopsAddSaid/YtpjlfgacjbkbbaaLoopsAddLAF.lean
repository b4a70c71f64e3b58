/- Part 6 of the evaluator and of the contracts that the claim uses. -/
import Derived.Test.YtpjlfgacjbkbbaaLoopsAddLAA
import Derived.Test.YtpjlfgacjbkbbaaLoopsAddLAB
import Derived.Test.YtpjlfgacjbkbbaaLoopsAddLAC
import Derived.Test.YtpjlfgacjbkbbaaLoopsAddLAD
import Derived.Test.YtpjlfgacjbkbbaaLoopsAddLAE
set_option linter.unusedVariables false
set_option linter.unusedSimpArgs false
set_option linter.constructorNameAsVariable false
set_option linter.unusedSectionVars false
open Go.IntKind (i64 u8)

section
open Go Go.Lf Go.Proofs
namespace Tst
theorem EnvSub.nil {env : Env} : EnvSub [] env := fun t x h => by simp [lk] at h
theorem EnvSub.cons {env l : Env} {t : Nat} {x : AV} (h : lk env t = some x) (hs : EnvSub l env) : EnvSub ((t, x) :: l) env := by
 intro t' y hy
 simp only [lk] at hy
 split at hy
 ·rename_i e; subst e; injection hy with hy; subst hy; exact h
 ·exact hs t' y hy
theorem EnvV.nil : EnvV [] := fun q h => by simp at h
theorem EnvV.cons {l : Env} {t : Nat} {x : AV} (h : viewed x) (hs : EnvV l) : EnvV ((t, x) :: l) := by
 intro q hq
 rcases List.mem_cons.1 hq with rfl | hq
 ·exact h
 ·exact hs q hq
theorem yac (v : Value) : viewed (.atom v) := ⟨rfl, rfl⟩
theorem yfv (c : Option Nat) (l : List Idd) : viewed (isl c l) := ⟨rfl, zrb .any c l⟩
theorem ylb (c : Option Nat) (l : List Ps) : viewed (sl c l) := ⟨rfl, zra .any c l⟩
theorem ylc (y n : Int) : viewed (idE y n) := ⟨rfl, rfl⟩
theorem yd7 (L : Lp) : viewed (mbx L) := by
 refine ⟨rfl, ?_⟩
 show AV.vadr [ub L.b, bb L.w, .sl .any 36 L.ct ((L.th.map Idd.enc).map (mapE (remode (fun _ => .any) 10))), .sl .any 56 L.cp ((L.pa.map Ps.enc).map (mapE (remode (fun _ => .any) 10)))] 0 = _
 rw [ycf, yc5]
def yg3 (L : Lp) : List Idd := L.pa.map fun p => ⟨p.y, p.n⟩
def zqz (L : Lp) : List Idd := L.th ++ yg3 L
abbrev mA (l : Nat) (L : Lp) (i : Int) : Env := [(0, yv l), (1, mbx L), (8, isl L.ct L.th), (9, it (((L.th.map Idd.enc).length : Nat) : Int)), (10, it i)]
abbrev mB (l : Nat) (L : Lp) (i : Int) : Env := [(0, yv l), (20, sl L.cp L.pa), (21, it (((L.pa.map Ps.enc).length : Nat) : Int)), (22, it i)]
theorem yxp : zqc Try.f45 0 = .seq (zqr Try.f45 1) (.seq (.cond (.tmp 11) .skip (.exit 0)) (.seq (.block 1 (.seq (zqr Try.f45 2) (.seq (.region 3 (zql Try.f45 3) false) (.cond (.tmp 17) .ret .skip)))) (zqr Try.f45 4))) := by kernel_rfl
theorem yxo : zqc Try.f45 1 = .seq (zqr Try.f45 6) (.seq (.cond (.tmp 23) .skip (.exit 2)) (.seq (.block 3 (.seq (zqr Try.f45 7) (.seq (.region 8 (zql Try.f45 8) false) (.cond (.tmp 30) .ret .skip)))) (zqr Try.f45 9))) := by kernel_rfl
theorem ytb : Try.f45.body = some (.seq (.seq (zqr Try.f45 0) (.block 0 (.loop (zqc Try.f45 0)))) (.seq (zqr Try.f45 5) (.block 2 (.loop (zqc Try.f45 1))))) := by kernel_rfl
section
variable {p : Hand} (hp : p.Ok Try.prog) (L : Lp)
include hp
theorem yxt (k : Nat) (i : Nat) (h : i = L.th.length) : Itr Try.prog (cxN 32 0) p (zqc Try.f45 0) (mA p.l L i) k (.exit 0) [(0, yv p.l), (1, mbx L)] k := by
 rw [yxp]
 refine .seq (.seg hp rfl (yxr p.l L (((L.th.map Idd.enc).length : Nat) : Int) i) (env2 := (11, bb false) :: mA p.l L i) (by repeat (first | exact EnvV.nil | refine EnvV.cons (by first | exact yac _ | exact yfv _ _ | exact yd7 _) ?_)) ?_) ?_
 ·refine EnvSub.cons ?_ (by repeat (first | exact EnvSub.nil | refine EnvSub.cons rfl ?_))
  show some (AV.atom (.bool (decide ((i : Int) < (((L.th.map Idd.enc).length : Nat) : Int))))) = _
  rw [zlc (by rw [zla]; omega)]
 ·exact .seqX (.cond (b := false) rfl (.exit (by repeat (first | exact EnvSub.nil | refine EnvSub.cons rfl ?_)))) (by simp)
theorem yte (k : Nat) (i : Nat) (h : i < L.th.length) (hl : L.th.length < 2 ^ 60) (hx : p.xss[k]? = some [(L.th.getD i default).enc]) : Itr Try.prog (cxN 32 0) p (zqc Try.f45 0) (mA p.l L i) k .normal (mA p.l L ((i + 1 : Nat) : Int)) (k + 1) := by
 rw [yxp]
 refine .seq (.seg hp rfl (yxr p.l L (((L.th.map Idd.enc).length : Nat) : Int) i) (env2 := (11, bb true) :: mA p.l L i) (by repeat (first | exact EnvV.nil | refine EnvV.cons (by first | exact yac _ | exact yfv _ _ | exact yd7 _) ?_)) ?_) ?_
 ·refine EnvSub.cons ?_ (by repeat (first | exact EnvSub.nil | refine EnvSub.cons rfl ?_))
  show some (AV.atom (.bool (decide ((i : Int) < (((L.th.map Idd.enc).length : Nat) : Int))))) = _
  rw [zlb (by rw [zla]; omega)]
 refine .seq (.cond (b := true) rfl (.skip (env2 := mA p.l L i) (by repeat (first | exact EnvSub.nil | refine EnvSub.cons rfl ?_)))) (.seq (env1 := mA p.l L i) (k1 := k + 1) (.block (ex := .normal) ?_ (.inr ⟨by simp, rfl⟩)) ?_)
 rotate_left
 ·refine .seg hp rfl (me4_0 p.l L (((L.th.map Idd.enc).length : Nat) : Int) i) (by repeat (first | exact EnvV.nil | refine EnvV.cons (by first | exact yac _ | exact yfv _ _ | exact yd7 _) ?_)) ?_
  have hw := up64 (k := i) (by omega)
  repeat (first | exact EnvSub.nil | refine EnvSub.cons rfl ?_ | refine EnvSub.cons (by show some (AV.atom (.int .i64 _)) = _; rw [hw]) ?_)
 have h0 := me2_0 p.l L (((L.th.map Idd.enc).length : Nat) : Int) i (zlb (by rw [zla]; omega)) (yaj h)
 exact Itr.yield0 hp (base 32 0) rfl zqb.1 zqb.2 (ops := zql Try.f45 3) (pre := (zql Try.f45 3).toList.take 2) (y := (zql Try.f45 3).toList.getD 2 default) (post := (zql Try.f45 3).toList.drop 3) (g := 14) (d := 16) (b := 17) (args := #[.tmp 15]) (ats := #[36])
  (by kernel_rfl) (by kernel_rfl) (by kernel_rfl) (by kernel_rfl) (by decide) h0
  (env1 := (15, (L.th.getD i default).enc) :: (14, yv p.l) :: [(0, yv p.l), (1, mbx L), (4, .box [ub (L.th.getD i default).y, it (L.th.getD i default).n]), (8, isl L.ct L.th), (9, it (((L.th.map Idd.enc).length : Nat) : Int)), (10, it i)])
  (as1 := [.c, .c]) (ps1 := []) (as2 := [.c]) (as3 := [.c]) (ps2 := []) (ps3 := [])
  (by kernel_rfl) zqa (env1v := (15, (L.th.getD i default).enc) :: (14, yv p.l) :: mA p.l L i) (by repeat (first | exact EnvV.nil | refine EnvV.cons (by first | exact yac _ | exact yfv _ _ | exact yd7 _ | exact ylc _ _) ?_)) (by repeat (first | exact EnvSub.nil | refine EnvSub.cons rfl ?_)) rfl (xs := [(L.th.getD i default).enc]) rfl hx
  (env2 := (17, bb false) :: (16, bb true) :: (15, (L.th.getD i default).enc) :: (14, yv p.l) :: mA p.l L i) (by kernel_rfl) zqa rfl (by repeat (first | exact EnvV.nil | refine EnvV.cons (by first | exact yac _ | exact yfv _ _ | exact yd7 _ | exact ylc _ _) ?_)) (by repeat (first | exact EnvSub.nil | refine EnvSub.cons rfl ?_))
  (env3 := [(17, bb true), (16, bb false)]) (by kernel_rfl) zqa rfl
theorem yni (hl : L.th.length < 2 ^ 60) : ∀ (n i k : Nat), i + n = L.th.length → (∀ q, q < n → p.xss[k + q]? = some [(L.th.getD (i + q) default).enc]) →
  ItR Try.prog (cxN 32 0) p (zqc Try.f45 0) (n + 1) (mA p.l L i) k (.exit 0) [(0, yv p.l), (1, mbx L)] (k + n)
 | 0, i, k, h, _ => .exit (yxt hp L k i (by omega)) (by simp)
 | n + 1, i, k, h, hx => by
  have h1 := yte hp L k i (by omega) hl (by simpa using hx 0 (by omega))
  have h2 := yni hl n (i + 1) (k + 1) (by omega) fun q hq => by
   have := hx (q + 1) (by omega)
   rw [show k + (q + 1) = k + 1 + q by omega, show i + (q + 1) = i + 1 + q by omega] at this
   exact this
  rw [show k + 1 + n = k + (n + 1) by omega] at h2
  exact .step h1 h2
theorem yxs (k : Nat) (i : Nat) (h : i = L.pa.length) : Itr Try.prog (cxN 32 0) p (zqc Try.f45 1) (mB p.l L i) k (.exit 2) [] k := by
 rw [yxo]
 refine .seq (.seg hp rfl (yxq p.l L (((L.pa.map Ps.enc).length : Nat) : Int) i) (env2 := (23, bb false) :: mB p.l L i) (by repeat (first | exact EnvV.nil | refine EnvV.cons (by first | exact yac _ | exact ylb _ _) ?_)) ?_) ?_
 ·refine EnvSub.cons ?_ (by repeat (first | exact EnvSub.nil | refine EnvSub.cons rfl ?_))
  show some (AV.atom (.bool (decide ((i : Int) < (((L.pa.map Ps.enc).length : Nat) : Int))))) = _
  rw [zlc (by rw [zla]; omega)]
 ·exact .seqX (.cond (b := false) rfl (.exit EnvSub.nil)) (by simp)
theorem ytd (k : Nat) (i : Nat) (h : i < L.pa.length) (hl : L.pa.length < 2 ^ 60) (hx : p.xss[k]? = some [idE (L.pa.getD i default).y (L.pa.getD i default).n]) : Itr Try.prog (cxN 32 0) p (zqc Try.f45 1) (mB p.l L i) k .normal (mB p.l L ((i + 1 : Nat) : Int)) (k + 1) := by
 rw [yxo]
 refine .seq (.seg hp rfl (yxq p.l L (((L.pa.map Ps.enc).length : Nat) : Int) i) (env2 := (23, bb true) :: mB p.l L i) (by repeat (first | exact EnvV.nil | refine EnvV.cons (by first | exact yac _ | exact ylb _ _) ?_)) ?_) ?_
 ·refine EnvSub.cons ?_ (by repeat (first | exact EnvSub.nil | refine EnvSub.cons rfl ?_))
  show some (AV.atom (.bool (decide ((i : Int) < (((L.pa.map Ps.enc).length : Nat) : Int))))) = _
  rw [zlb (by rw [zla]; omega)]
 refine .seq (.cond (b := true) rfl (.skip (env2 := mB p.l L i) (by repeat (first | exact EnvSub.nil | refine EnvSub.cons rfl ?_)))) (.seq (env1 := mB p.l L i) (k1 := k + 1) (.block (ex := .normal) ?_ (.inr ⟨by simp, rfl⟩)) ?_)
 rotate_left
 ·refine .seg hp rfl (me9_0 p.l L (((L.pa.map Ps.enc).length : Nat) : Int) i) (by repeat (first | exact EnvV.nil | refine EnvV.cons (by first | exact yac _ | exact ylb _ _) ?_)) ?_
  have hw := up64 (k := i) (by omega)
  repeat (first | exact EnvSub.nil | refine EnvSub.cons rfl ?_ | refine EnvSub.cons (by show some (AV.atom (.int .i64 _)) = _; rw [hw]) ?_)
 have h0 := me7_0 p.l L (((L.pa.map Ps.enc).length : Nat) : Int) i (zlb (by rw [zla]; omega)) (yb8 h)
 exact Itr.yield0 hp (base 32 0) rfl zqb.1 zqb.2 (ops := zql Try.f45 8) (pre := (zql Try.f45 8).toList.take 3) (y := (zql Try.f45 8).toList.getD 3 default) (post := (zql Try.f45 8).toList.drop 4) (g := 26) (d := 29) (b := 30) (args := #[.tmp 28]) (ats := #[36])
  (by kernel_rfl) (by kernel_rfl) (by kernel_rfl) (by kernel_rfl) (by decide) h0
  (env1 := (28, idE (L.pa.getD i default).y (L.pa.getD i default).n) :: (27, .adr 6 [] 0 0) :: (26, yv p.l) :: [(0, yv p.l), (6, .box [ub (L.pa.getD i default).y, it (L.pa.getD i default).n, bb (L.pa.getD i default).f, ub (L.pa.getD i default).d]), (20, sl L.cp L.pa), (21, it (((L.pa.map Ps.enc).length : Nat) : Int)), (22, it i)])
  (as1 := [.c, .c, .c]) (ps1 := []) (as2 := [.c]) (as3 := [.c]) (ps2 := []) (ps3 := [])
  (by kernel_rfl) zqa (env1v := (28, idE (L.pa.getD i default).y (L.pa.getD i default).n) :: (26, yv p.l) :: mB p.l L i) (by repeat (first | exact EnvV.nil | refine EnvV.cons (by first | exact yac _ | exact ylb _ _ | exact ylc _ _) ?_)) (by repeat (first | exact EnvSub.nil | refine EnvSub.cons rfl ?_)) rfl (xs := [idE (L.pa.getD i default).y (L.pa.getD i default).n]) rfl hx
  (env2 := (30, bb false) :: (29, bb true) :: (28, idE (L.pa.getD i default).y (L.pa.getD i default).n) :: (26, yv p.l) :: mB p.l L i) (by kernel_rfl) zqa rfl (by repeat (first | exact EnvV.nil | refine EnvV.cons (by first | exact yac _ | exact ylb _ _ | exact ylc _ _) ?_)) (by repeat (first | exact EnvSub.nil | refine EnvSub.cons rfl ?_))
  (env3 := [(30, bb true), (29, bb false)]) (by kernel_rfl) zqa rfl
theorem ynh (hl : L.pa.length < 2 ^ 60) : ∀ (n i k : Nat), i + n = L.pa.length → (∀ q, q < n → p.xss[k + q]? = some [idE (L.pa.getD (i + q) default).y (L.pa.getD (i + q) default).n]) →
  ItR Try.prog (cxN 32 0) p (zqc Try.f45 1) (n + 1) (mB p.l L i) k (.exit 2) [] (k + n)
 | 0, i, k, h, _ => .exit (yxs hp L k i (by omega)) (by simp)
 | n + 1, i, k, h, hx => by
  have h1 := ytd hp L k i (by omega) hl (by simpa using hx 0 (by omega))
  have h2 := ynh hl n (i + 1) (k + 1) (by omega) fun q hq => by
   have := hx (q + 1) (by omega)
   rw [show k + (q + 1) = k + 1 + q by omega, show i + (q + 1) = i + 1 + q by omega] at this
   exact this
  rw [show k + 1 + n = k + (n + 1) by omega] at h2
  exact .step h1 h2
end
theorem yh5 (L : Lp) (h1 : L.th.length < 2 ^ 60) (h2 : L.pa.length < 2 ^ 60) : SeqC Try.prog 45 [mbx L] ((zqz L).map fun p => [p.enc]) := by
 refine seqT (cx := cxN 32 0) Try.func45 rfl ytb rfl rfl (by show 1 + 1 ≤ 32; omega) (fun x hx => by rw [zlv.1 hx]; exact yd7 L) (fun p hp hxs => ⟨[], ?_⟩) (.inl rfl)
 have hl : ((zqz L).map fun p => [p.enc]).length = 0 + L.th.length + L.pa.length := by rw [zla]; unfold zqz yg3; rw [zlg, zla]; omega
 rw [hl]
 refine .seq (k1 := 0 + L.th.length) (.seq (.seg hp rfl (me0_0 p.l L) (env2 := mA p.l L 0) (by repeat (first | exact EnvV.nil | refine EnvV.cons (by first | exact yac _ | exact yfv _ _ | exact yd7 _) ?_)) (by repeat (first | exact EnvSub.nil | refine EnvSub.cons rfl ?_))) (.block (ex := .exit 0) (yni hp L h1 L.th.length 0 0 (by omega) fun q hq => ?_).loop (.inl ⟨rfl, rfl⟩))) (.seq (.seg hp rfl (me5_0 p.l L) (env2 := mB p.l L 0) (by repeat (first | exact EnvV.nil | refine EnvV.cons (by first | exact yac _ | exact ylb _ _) ?_)) (by repeat (first | exact EnvSub.nil | refine EnvSub.cons rfl ?_))) (.block (ex := .exit 2) (ynh hp L h2 L.pa.length 0 (0 + L.th.length) (by omega) fun q hq => ?_).loop (.inl ⟨rfl, rfl⟩)))
 ·rw [hxs, Nat.zero_add, List.getElem?_map]
  unfold zqz
  rw [List.getElem?_append_left (by omega), zle (by omega), zld, zle (by omega)]; rfl
 ·rw [hxs, Nat.zero_add, Nat.zero_add, List.getElem?_map]
  unfold zqz yg3
  rw [List.getElem?_append_right (by omega), List.getElem?_map, show L.th.length + q - L.th.length = q by omega, zle (by omega), zld, zle (by omega)]; rfl
theorem mlB (L : Lp) : Tri Try.prog (cxN 4 0) (yga Try.f32 1) [(1, .box [ub L.b, bb L.w, isl L.ct L.th, sl L.cp L.pa])] .normal [(2, .fn 45 [mbx L])] :=
 Tri.shr (r := 1) (cs := [ub L.b, bb L.w, isl L.ct L.th, sl L.cp L.pa]) rfl rfl (fun t y h => by simp only [lk] at h; split at h <;> simp at h; subst h; simp [zqf]) (Tri.weak [(1, .keep)] (Tri.after [(2, .keep)] (mlb_0 L)))
set_option maxHeartbeats 0
abbrev tbx (c : Option Nat) (t : List Rw) : AV := .vadr [tsl c t] 0
theorem al0_0 (l : Nat) (c : Option Nat) (t : List Rw) (g0 : decide (0 ≤ if false = true then if ((t.map Rw.enc).length : Int) < (255 : Int) then (255 : Int) else ((t.map Rw.enc).length : Int) else if (255 : Int) < ((t.map Rw.enc).length : Int) then (255 : Int) else ((t.map Rw.enc).length : Int)) = true) (g1 : decide ((0 : Nat) ≤ (if false = true then if ((t.map Rw.enc).length : Int) < (255 : Int) then (255 : Int) else ((t.map Rw.enc).length : Int) else if (255 : Int) < ((t.map Rw.enc).length : Int) then (255 : Int) else ((t.map Rw.enc).length : Int)).toNat ∧ (if false = true then if ((t.map Rw.enc).length : Int) < (255 : Int) then (255 : Int) else ((t.map Rw.enc).length : Int) else if (255 : Int) < ((t.map Rw.enc).length : Int) then (255 : Int) else ((t.map Rw.enc).length : Int)).toNat ≤ (t.map Rw.enc).length) = true) (g2 : AV.sl .any 37 (yau (0 : Nat) c (Option.map (fun x => x - (0 : Nat)) none)) (List.take ((if false = true then if ((t.map Rw.enc).length : Int) < (255 : Int) then (255 : Int) else ((t.map Rw.enc).length : Int) else if (255 : Int) < ((t.map Rw.enc).length : Int) then (255 : Int) else ((t.map Rw.enc).length : Int)).toNat - (0 : Nat)) (List.drop (0 : Nat) (List.map Rw.enc t))) = tsl (yau (0 : Nat) c (Option.map (fun x => x - (0 : Nat)) none)) (List.take ((if false = true then if ((t.map Rw.enc).length : Int) < (255 : Int) then (255 : Int) else ((t.map Rw.enc).length : Int) else if (255 : Int) < ((t.map Rw.enc).length : Int) then (255 : Int) else ((t.map Rw.enc).length : Int)).toNat - (0 : Nat)) (List.drop (0 : Nat) t))) : Tri0 Try.prog (cxN 36 0) (zqr Try.f51 0) ([(0, yv l), (1, tbx c t)]) .normal ([(0, AV.atom (Value.func (Fn.yield l) #[] #[])), (11, tsl (yau (0 : Nat) c (Option.map (fun x => x - (0 : Nat)) none)) (List.take ((if false = true then if ((t.map Rw.enc).length : Int) < (255 : Int) then (255 : Int) else ((t.map Rw.enc).length : Int) else if (255 : Int) < ((t.map Rw.enc).length : Int) then (255 : Int) else ((t.map Rw.enc).length : Int)).toNat - (0 : Nat)) (List.drop (0 : Nat) t))), (12, it (↑(List.length (List.map Rw.enc (List.take ((if false = true then if ((t.map Rw.enc).length : Int) < (255 : Int) then (255 : Int) else ((t.map Rw.enc).length : Int) else if (255 : Int) < ((t.map Rw.enc).length : Int) then (255 : Int) else ((t.map Rw.enc).length : Int)).toNat - (0 : Nat)) (List.drop (0 : Nat) t)))) : Int)), (13, it 0)]) :=
 yat (H := h51) (ans := [.c, .c, .c, .c, .b true, .b true, .r (tsl (yau (0 : Nat) c (Option.map (fun x => x - (0 : Nat)) none)) (List.take ((if false = true then if ((t.map Rw.enc).length : Int) < (255 : Int) then (255 : Int) else ((t.map Rw.enc).length : Int) else if (255 : Int) < ((t.map Rw.enc).length : Int) then (255 : Int) else ((t.map Rw.enc).length : Int)).toNat - (0 : Nat)) (List.drop (0 : Nat) t))), .c, .c]) (ans' := []) (base 36 0) zqb.1 zqb.2 (by kernel_rfl) (by kernel_rfl) (allp g0 (allp g1 (allp g2 zqa)))
theorem al1_0 (l : Nat) (c : Option Nat) (t : List Rw) (m i : Int) : Tri0 Try.prog (cxN 36 0) (zqr Try.f51 1) ([(0, yv l), (11, tsl c t), (12, it m), (13, it i)]) .normal ([(0, AV.atom (Value.func (Fn.yield l) #[] #[])), (11, tsl c t), (12, it m), (13, it i), (14, bb (decide (i < m)))]) :=
 yat (H := h51) (ans := [.c]) (ans' := []) (base 36 0) zqb.1 zqb.2 (by kernel_rfl) (by kernel_rfl)  zqa
theorem al2_0 (l : Nat) (c : Option Nat) (t : List Rw) (m i : Int) (g0 : decide (0 ≤ i ∧ i < ((t.map Rw.enc).length : Int)) = true) (g1 : (t.map Rw.enc).getD i.toNat AV.bad = Rw.enc (t.getD i.toNat default)) : Tri0 Try.prog (cxN 36 0) (zqr Try.f51 2) ([(0, yv l), (11, tsl c t), (12, it m), (13, it i)]) .normal ([(0, AV.atom (Value.func (Fn.yield l) #[] #[])), (3, it i), (4, lsl (Rw.c (t.getD i.toNat default)) (Rw.l (t.getD i.toNat default))), (11, tsl c t), (12, it m), (13, it i)]) :=
 yat (H := h51) (ans := [.c, .b true, .r (Rw.enc (t.getD (i.toNat) default)), .c, .c, .c, .c]) (ans' := []) (base 36 0) zqb.1 zqb.2 (by kernel_rfl) (by kernel_rfl) (allp g0 (allp g1 zqa))
theorem al3_0 (l : Nat) (c d : Option Nat) (t : List Rw) (R : List Lp) (m i : Int) : Tri0 Try.prog (cxN 36 0) (zqr Try.f51 3) ([(0, yv l), (3, it i), (4, lsl d R), (11, tsl c t), (12, it m), (13, it i)]) .normal ([(0, AV.atom (Value.func (Fn.yield l) #[] #[])), (3, it i), (4, lsl d R), (11, tsl c t), (12, it m), (13, it i), (18, lsl d R), (19, it ((R.map Lp.enc).length : Int)), (20, it 0)]) :=
 yat (H := h51) (ans := [.c, .c, .c]) (ans' := []) (base 36 0) zqb.1 zqb.2 (by kernel_rfl) (by kernel_rfl)  zqa
theorem al4_0 (l : Nat) (c d : Option Nat) (t : List Rw) (R : List Lp) (m i n j : Int) : Tri0 Try.prog (cxN 36 0) (zqr Try.f51 4) ([(0, yv l), (3, it i), (11, tsl c t), (12, it m), (13, it i), (18, lsl d R), (19, it n), (20, it j)]) .normal ([(0, AV.atom (Value.func (Fn.yield l) #[] #[])), (3, it i), (11, tsl c t), (12, it m), (13, it i), (18, lsl d R), (19, it n), (20, it j), (21, bb (decide (j < n)))]) :=
 yat (H := h51) (ans := [.c]) (ans' := []) (base 36 0) zqb.1 zqb.2 (by kernel_rfl) (by kernel_rfl)  zqa
theorem al5_0 (l : Nat) (c d : Option Nat) (t : List Rw) (R : List Lp) (m i n j : Int) (g0 : decide (0 ≤ j ∧ j < ((R.map Lp.enc).length : Int)) = true) (g1 : (R.map Lp.enc).getD j.toNat AV.bad = Lp.enc (R.getD j.toNat default)) : Tri0 Try.prog (cxN 36 0) (zqr Try.f51 5) ([(0, yv l), (3, it i), (11, tsl c t), (12, it m), (13, it i), (18, lsl d R), (19, it n), (20, it j)]) .normal ([(0, AV.atom (Value.func (Fn.yield l) #[] #[])), (3, it i), (5, it j), (6, AV.box [ub (Lp.b (R.getD j.toNat default)), bb (Lp.w (R.getD j.toNat default)), isl (Lp.ct (R.getD j.toNat default)) (Lp.th (R.getD j.toNat default)), sl (Lp.cp (R.getD j.toNat default)) (Lp.pa (R.getD j.toNat default))]), (11, tsl c t), (12, it m), (13, it i), (18, lsl d R), (19, it n), (20, it j)]) :=
 yat (H := h51) (ans := [.c, .b true, .r (Lp.enc (R.getD (j.toNat) default)), .c, .c, .c, .c, .c]) (ans' := []) (base 36 0) zqb.1 zqb.2 (by kernel_rfl) (by kernel_rfl) (allp g0 (allp g1 zqa))
theorem al7_0 (l : Nat) (c d : Option Nat) (t : List Rw) (R : List Lp) (m i n j : Int) : Tri0 Try.prog (cxN 36 0) (zqr Try.f51 7) ([(0, yv l), (3, it i), (11, tsl c t), (12, it m), (13, it i), (18, lsl d R), (19, it n), (20, it j)]) .normal ([(0, AV.atom (Value.func (Fn.yield l) #[] #[])), (3, it i), (11, tsl c t), (12, it m), (13, it i), (18, lsl d R), (19, it n), (20, it (i64.wrap (j + (1 : Int))))]) :=
 yat (H := h51) (ans := [.c, .c]) (ans' := []) (base 36 0) zqb.1 zqb.2 (by kernel_rfl) (by kernel_rfl)  zqa
theorem al8_0 (l : Nat) (c : Option Nat) (t : List Rw) (m i : Int) : Tri0 Try.prog (cxN 36 0) (zqr Try.f51 8) ([(0, yv l), (11, tsl c t), (12, it m), (13, it i)]) .normal ([(0, AV.atom (Value.func (Fn.yield l) #[] #[])), (11, tsl c t), (12, it m), (13, it (i64.wrap (i + (1 : Int))))]) :=
 yat (H := h51) (ans := [.c, .c]) (ans' := []) (base 36 0) zqb.1 zqb.2 (by kernel_rfl) (by kernel_rfl)  zqa
theorem alb_0 (c : Option Nat) (t : List Rw) : Tri Try.prog (cxN 4 0) (yga Try.f37 1) ([(1, tbx c t)]) .normal ([(2, AV.fn 51 [AV.vadr [tsl c t] 0])]) :=
 ev h37 [.c, .c] zqa
theorem yh7 (k : Nat) (l : List Lp) : List.map (mapE (remode (fun _ => .any) (k + 3))) (List.map Lp.enc l) = List.map Lp.enc l := by
 rw [List.map_map]
 refine List.map_congr_left fun s _ => ?_
 show AV.agg [ub s.b, bb s.w, .sl .any 36 s.ct ((s.th.map Idd.enc).map (mapE (remode (fun _ => .any) (k + 2)))), .sl .any 56 s.cp ((s.pa.map Ps.enc).map (mapE (remode (fun _ => .any) (k + 2))))] = _
 rw [ycf, yc5]; rfl
theorem yng (k : Nat) (t : List Rw) : List.map (mapE (remode (fun _ => .any) (k + 4))) (List.map Rw.enc t) = List.map Rw.enc t := by
 rw [List.map_map]
 refine List.map_congr_left fun r _ => ?_
 show AV.sl .any 45 r.c ((r.l.map Lp.enc).map (mapE (remode (fun _ => .any) (k + 3)))) = _
 rw [yh7]; rfl
theorem yes (c : Option Nat) (l : List Lp) : viewed (lsl c l) := by
 refine ⟨rfl, ?_⟩
 show AV.sl .any 45 c ((l.map Lp.enc).map (mapE (remode (fun _ => .any) 11))) = _
 rw [yh7]
theorem yca (c : Option Nat) (t : List Rw) : viewed (tsl c t) := by
 refine ⟨rfl, ?_⟩
 show AV.sl .any 37 c ((t.map Rw.enc).map (mapE (remode (fun _ => .any) 11))) = _
 rw [yng]
theorem yq9 (c : Option Nat) (t : List Rw) : viewed (tbx c t) := by
 refine ⟨rfl, ?_⟩
 show AV.vadr [.sl .any 37 c ((t.map Rw.enc).map (mapE (remode (fun _ => .any) 10)))] 0 = _
 rw [yng]
theorem yv2 (L : Lp) : viewed L.enc := by
 refine ⟨rfl, ?_⟩
 show AV.agg [ub L.b, bb L.w, .sl .any 36 L.ct ((L.th.map Idd.enc).map (mapE (remode (fun _ => .any) 10))), .sl .any 56 L.cp ((L.pa.map Ps.enc).map (mapE (remode (fun _ => .any) 10)))] = _
 rw [ycf, yc5]; rfl
abbrev aE (l : Nat) (c : Option Nat) (t : List Rw) (i : Int) : Env := [(0, yv l), (11, tsl c t), (12, it (((t.map Rw.enc).length : Nat) : Int)), (13, it i)]
abbrev aI (l : Nat) (c d : Option Nat) (t : List Rw) (R : List Lp) (i j : Int) : Env := [(0, yv l), (3, it i), (11, tsl c t), (12, it (((t.map Rw.enc).length : Nat) : Int)), (13, it i), (18, lsl d R), (19, it (((R.map Lp.enc).length : Nat) : Int)), (20, it j)]
theorem al_l1 : zqc Try.f51 1 = .seq (zqr Try.f51 4) (.seq (.cond (.tmp 21) .skip (.exit 2)) (.seq (.block 3 (.seq (zqr Try.f51 5) (.seq (.region 6 (zql Try.f51 6) false) (.cond (.tmp 33) .ret .skip)))) (zqr Try.f51 7))) := by kernel_rfl
theorem al_l0 : zqc Try.f51 0 = .seq (zqr Try.f51 1) (.seq (.cond (.tmp 14) .skip (.exit 0)) (.seq (.block 1 (.seq (zqr Try.f51 2) (.seq (zqr Try.f51 3) (.block 2 (.loop (zqc Try.f51 1)))))) (zqr Try.f51 8))) := by kernel_rfl
theorem yvc : Try.f51.body = some (.seq (zqr Try.f51 0) (.block 0 (.loop (zqc Try.f51 0)))) := by kernel_rfl
def rowL (i : Nat) (R : List Lp) : List (Idd × Lp) := R.zipIdx.map fun q => (⟨((i + 1 : Nat) : Int), (q.2 : Int)⟩, q.1)
def yai : Nat → List Rw → List (Idd × Lp)
 | _, [] => []
 | i, r :: t => rowL i r.l ++ yai (i + 1) t
def ydf (q : Idd × Lp) : List AV := [q.1.enc, q.2.enc]
theorem ygt (i : Nat) (R : List Lp) : (rowL i R).length = R.length := by simp [rowL]
theorem yjy (i : Nat) (R : List Lp) (j : Nat) (h : j < R.length) : (rowL i R)[j]? = some (⟨((i + 1 : Nat) : Int), (j : Int)⟩, R.getD j default) := by
 unfold rowL
 rw [List.getElem?_map, List.getElem?_zipIdx, zle h, zld, zle h]
 simp
section
variable {p : Hand} (hp : p.Ok Try.prog) (c d : Option Nat) (t : List Rw) (R : List Lp)
include hp
theorem aI_end (i k : Nat) (j : Nat) (h : j = R.length) : Itr Try.prog (cxN 36 0) p (zqc Try.f51 1) (aI p.l c d t R i j) k (.exit 2) (aE p.l c t i) k := by
 rw [al_l1]
 refine .seq (.seg hp rfl (al4_0 p.l c d t R (((t.map Rw.enc).length : Nat) : Int) i (((R.map Lp.enc).length : Nat) : Int) j) (env2 := (21, bb false) :: aI p.l c d t R i j) (by repeat (first | exact EnvV.nil | refine EnvV.cons (by first | exact yac _ | exact yes _ _ | exact yca _ _) ?_)) ?_) ?_
 ·refine EnvSub.cons ?_ (by repeat (first | exact EnvSub.nil | refine EnvSub.cons rfl ?_))
  show some (AV.atom (.bool (decide ((j : Int) < (((R.map Lp.enc).length : Nat) : Int))))) = _
  rw [zlc (by rw [zla]; omega)]
 ·exact .seqX (.cond (b := false) rfl (.exit (by repeat (first | exact EnvSub.nil | refine EnvSub.cons rfl ?_)))) (by simp)
theorem yve (i k : Nat) (j : Nat) (h : j < R.length) (hR : R.length < 2 ^ 60) (hi : i < 255) (hx : p.xss[k]? = some [idE ((i + 1 : Nat) : Int) j, (R.getD j default).enc]) : Itr Try.prog (cxN 36 0) p (zqc Try.f51 1) (aI p.l c d t R i j) k .normal (aI p.l c d t R i ((j + 1 : Nat) : Int)) (k + 1) := by
 rw [al_l1]
 refine .seq (.seg hp rfl (al4_0 p.l c d t R (((t.map Rw.enc).length : Nat) : Int) i (((R.map Lp.enc).length : Nat) : Int) j) (env2 := (21, bb true) :: aI p.l c d t R i j) (by repeat (first | exact EnvV.nil | refine EnvV.cons (by first | exact yac _ | exact yes _ _ | exact yca _ _) ?_)) ?_) ?_
 ·refine EnvSub.cons ?_ (by repeat (first | exact EnvSub.nil | refine EnvSub.cons rfl ?_))
  show some (AV.atom (.bool (decide ((j : Int) < (((R.map Lp.enc).length : Nat) : Int))))) = _
  rw [zlb (by rw [zla]; omega)]
 refine .seq (.cond (b := true) rfl (.skip (env2 := aI p.l c d t R i j) (by repeat (first | exact EnvSub.nil | refine EnvSub.cons rfl ?_)))) (.seq (env1 := aI p.l c d t R i j) (k1 := k + 1) (.block (ex := .normal) ?_ (.inr ⟨by simp, rfl⟩)) ?_)
 rotate_left
 ·refine .seg hp rfl (al7_0 p.l c d t R (((t.map Rw.enc).length : Nat) : Int) i (((R.map Lp.enc).length : Nat) : Int) j) (by repeat (first | exact EnvV.nil | refine EnvV.cons (by first | exact yac _ | exact yes _ _ | exact yca _ _) ?_)) ?_
  have hw := up64 (k := j) (by omega)
  repeat (first | exact EnvSub.nil | refine EnvSub.cons rfl ?_ | refine EnvSub.cons (by show some (AV.atom (.int .i64 _)) = _; rw [hw]) ?_)
 have h0 := al5_0 p.l c d t R (((t.map Rw.enc).length : Nat) : Int) i (((R.map Lp.enc).length : Nat) : Int) j (zlb (by rw [zla]; omega)) (yc7 h)
 have hw : u8.wrap (i64.wrap ((i : Int) + 1)) = ((i + 1 : Nat) : Int) := by rw [up64 (by omega), yjo (by omega) (by omega)]
 generalize hL : R.getD j default = L at *
 have h0' := h0
 simp only [zlf, hL] at h0'
 exact Itr.yield0 hp (base 36 0) rfl zqb.1 zqb.2 (ops := zql Try.f51 6) (pre := (zql Try.f51 6).toList.take 7) (y := (zql Try.f51 6).toList.getD 7 default) (post := (zql Try.f51 6).toList.drop 8) (g := 25) (d := 32) (b := 33) (args := #[.tmp 30, .tmp 31]) (ats := #[36, 45])
  (by kernel_rfl) (by kernel_rfl) (by kernel_rfl) (by kernel_rfl) (by decide) h0'
  (env1 := (31, L.enc) :: (30, idE (u8.wrap (i64.wrap ((i : Int) + 1))) j) :: (29, it j) :: (28, ub (u8.wrap (i64.wrap ((i : Int) + 1)))) :: (27, it (i64.wrap ((i : Int) + 1))) :: (26, it i) :: (25, yv p.l) :: [(0, yv p.l), (3, it i), (5, it j), (6, .box [ub L.b, bb L.w, isl L.ct L.th, sl L.cp L.pa]), (11, tsl c t), (12, it (((t.map Rw.enc).length : Nat) : Int)), (13, it i), (18, lsl d R), (19, it (((R.map Lp.enc).length : Nat) : Int)), (20, it j)])
  (as1 := [.c, .c, .c, .c, .c, .c, .c]) (ps1 := []) (as2 := [.c]) (as3 := [.c]) (ps2 := []) (ps3 := [])
  (by kernel_rfl) zqa (env1v := (31, L.enc) :: (30, idE (u8.wrap (i64.wrap ((i : Int) + 1))) j) :: (25, yv p.l) :: aI p.l c d t R i j) (by repeat (first | exact EnvV.nil | refine EnvV.cons (by first | exact yac _ | exact yes _ _ | exact yca _ _ | exact ylc _ _ | exact yv2 _) ?_)) (by repeat (first | exact EnvSub.nil | refine EnvSub.cons rfl ?_)) rfl (xs := [idE ((i + 1 : Nat) : Int) j, L.enc]) (by refine (show some [idE (u8.wrap (i64.wrap ((i : Int) + 1))) j, L.enc] = _ from ?_); rw [hw]) hx
  (env2 := (33, bb false) :: (32, bb true) :: (31, L.enc) :: (30, idE (u8.wrap (i64.wrap ((i : Int) + 1))) j) :: (25, yv p.l) :: aI p.l c d t R i j) (by kernel_rfl) zqa rfl (by repeat (first | exact EnvV.nil | refine EnvV.cons (by first | exact yac _ | exact yes _ _ | exact yca _ _ | exact ylc _ _ | exact yv2 _) ?_)) (by repeat (first | exact EnvSub.nil | refine EnvSub.cons rfl ?_))
  (env3 := [(33, bb true), (32, bb false)]) (by kernel_rfl) zqa rfl
theorem yo5 (i : Nat) (hR : R.length < 2 ^ 60) (hi : i < 255) : ∀ (n j k : Nat), j + n = R.length → (∀ q, q < n → p.xss[k + q]? = some [idE ((i + 1 : Nat) : Int) ((j + q : Nat) : Int), (R.getD (j + q) default).enc]) →
  ItR Try.prog (cxN 36 0) p (zqc Try.f51 1) (n + 1) (aI p.l c d t R i j) k (.exit 2) (aE p.l c t i) (k + n)
 | 0, j, k, h, _ => .exit (aI_end hp c d t R i k j (by omega)) (by simp)
 | n + 1, j, k, h, hx => by
  have h1 := yve hp c d t R i k j (by omega) hR hi (by simpa using hx 0 (by omega))
  have h2 := yo5 i hR hi n (j + 1) (k + 1) (by omega) fun q hq => by
   have := hx (q + 1) (by omega)
   rw [show k + (q + 1) = k + 1 + q by omega, show j + (q + 1) = j + 1 + q by omega] at this
   exact this
  rw [show k + 1 + n = k + (n + 1) by omega] at h2
  exact .step h1 h2
end
section
variable {p : Hand} (hp : p.Ok Try.prog) (c : Option Nat) (t : List Rw)
include hp
theorem yo4 (ht : t.length ≤ 255) (hr : ∀ r ∈ t, r.l.length < 2 ^ 60) : ∀ (n i : Nat) (pre : List (List AV)), i + n = t.length → p.xss = pre ++ (yai i (t.drop i)).map ydf →
  ItR Try.prog (cxN 36 0) p (zqc Try.f51 0) (n + 1) (aE p.l c t i) pre.length (.exit 0) [] (pre.length + (yai i (t.drop i)).length)
 | 0, i, pre, h, hx => by
  rw [zln (by omega)]
  refine .exit (ex := .exit 0) ?_ (by simp)
  show Itr Try.prog (cxN 36 0) p (zqc Try.f51 0) (aE p.l c t i) pre.length (.exit 0) [] pre.length
  rw [al_l0]
  refine .seq (.seg hp rfl (al1_0 p.l c t (((t.map Rw.enc).length : Nat) : Int) i) (env2 := (14, bb false) :: aE p.l c t i) (by repeat (first | exact EnvV.nil | refine EnvV.cons (by first | exact yac _ | exact yca _ _) ?_)) ?_) ?_
  ·refine EnvSub.cons ?_ (by repeat (first | exact EnvSub.nil | refine EnvSub.cons rfl ?_))
   show some (AV.atom (.bool (decide ((i : Int) < (((t.map Rw.enc).length : Nat) : Int))))) = _
   rw [zlc (by rw [zla]; omega)]
  ·exact .seqX (.cond (b := false) rfl (.exit EnvSub.nil)) (by simp)
 | n + 1, i, pre, h, hx => by
  have hil : i < t.length := by omega
  have hd := ydr t hil default
  have hrl : (t.getD i default).l.length < 2 ^ 60 := hr _ (by rw [zld, zle hil]; exact zlu hil)
  have ha : yai i (t.drop i) = rowL i (t.getD i default).l ++ yai (i + 1) (t.drop (i + 1)) := by rw [hd, yai]
  rw [ha, zlq, ← zlp] at hx
  have h2 := yo4 ht hr n (i + 1) (pre ++ (rowL i (t.getD i default).l).map ydf) (by omega) hx
  rw [zlg, zla, ygt] at h2
  rw [ha, zlg, ygt, ← Nat.add_assoc]
  refine .step ?_ h2
  generalize hRR : t.getD i default = R at *
  rw [al_l0]
  refine .seq (.seg hp rfl (al1_0 p.l c t (((t.map Rw.enc).length : Nat) : Int) i) (env2 := (14, bb true) :: aE p.l c t i) (by repeat (first | exact EnvV.nil | refine EnvV.cons (by first | exact yac _ | exact yca _ _) ?_)) ?_) ?_
  ·refine EnvSub.cons ?_ (by repeat (first | exact EnvSub.nil | refine EnvSub.cons rfl ?_))
   show some (AV.atom (.bool (decide ((i : Int) < (((t.map Rw.enc).length : Nat) : Int))))) = _
   rw [zlb (by rw [zla]; omega)]
  refine .seq (.cond (b := true) rfl (.skip (env2 := aE p.l c t i) (by repeat (first | exact EnvSub.nil | refine EnvSub.cons rfl ?_)))) (.seq (env1 := aE p.l c t i) (k1 := pre.length + R.l.length) (.block (ex := .normal) ?_ (.inr ⟨by simp, rfl⟩)) ?_)
  rotate_left
  ·refine .seg hp rfl (al8_0 p.l c t (((t.map Rw.enc).length : Nat) : Int) i) (by repeat (first | exact EnvV.nil | refine EnvV.cons (by first | exact yac _ | exact yca _ _) ?_)) ?_
   have hw := up64 (k := i) (by omega)
   repeat (first | exact EnvSub.nil | refine EnvSub.cons rfl ?_ | refine EnvSub.cons (by show some (AV.atom (.int .i64 _)) = _; rw [hw]) ?_)
  have h2' := al2_0 p.l c t (((t.map Rw.enc).length : Nat) : Int) i (zlb (by rw [zla]; omega)) (ybb hil)
  simp only [zlf, hRR] at h2'
  refine .seq (.seg hp rfl h2' (env2 := [(0, yv p.l), (3, it i), (4, lsl R.c R.l), (11, tsl c t), (12, it (((t.map Rw.enc).length : Nat) : Int)), (13, it i)]) (by repeat (first | exact EnvV.nil | refine EnvV.cons (by first | exact yac _ | exact yes _ _ | exact yca _ _) ?_)) (by repeat (first | exact EnvSub.nil | refine EnvSub.cons rfl ?_))) ?_
  refine .seq (.seg hp rfl (al3_0 p.l c R.c t R.l (((t.map Rw.enc).length : Nat) : Int) i) (env2 := aI p.l c R.c t R.l i 0) (by repeat (first | exact EnvV.nil | refine EnvV.cons (by first | exact yac _ | exact yes _ _ | exact yca _ _) ?_)) (by repeat (first | exact EnvSub.nil | refine EnvSub.cons rfl ?_))) ?_
  refine .block (ex := .exit 2) (yo5 hp c R.c t R.l i hrl (by omega) R.l.length 0 pre.length (by omega) fun q hq => ?_).loop (.inl ⟨rfl, rfl⟩)
  rw [hx, zlp, List.getElem?_append_right (by omega), show pre.length + q - pre.length = q by omega, List.getElem?_append_left (by rw [zla, ygt]; exact hq), List.getElem?_map, yjy i R.l q hq, Nat.zero_add]; rfl
end
def allT (t : List Rw) : List (Idd × Lp) := yai 0 (t.take 255)
theorem ylt (c : Option Nat) (t : List Rw) (ht : t.length < 2 ^ 60) (hr : ∀ r ∈ t, r.l.length < 2 ^ 60) : SeqC Try.prog 51 [tbx c t] ((allT t).map ydf) := by
 refine seqT (cx := cxN 36 0) Try.func51 rfl yvc rfl rfl (by show 1 + 1 ≤ 36; omega) (fun x hx => by rw [zlv.1 hx]; exact yq9 c t) (fun p hp hxs => ⟨[], ?_⟩) (.inl rfl)
 have hm : ∀ M : Int, M = (if false = true then if ((((t.map Rw.enc).length : Nat) : Int)) < (255 : Int) then (255 : Int) else (((t.map Rw.enc).length : Nat) : Int) else if (255 : Int) < (((t.map Rw.enc).length : Nat) : Int) then (255 : Int) else (((t.map Rw.enc).length : Nat) : Int)) → M = ((min t.length 255 : Nat) : Int) := by
  intro M hM
  rw [hM, if_neg (by simp), zla]
  split <;> omega
 have hM := hm _ rfl
 have h0 := al0_0 p.l c t
 rw [hM] at h0
 have hk : List.take (Int.toNat ((min t.length 255 : Nat) : Int) - 0) (List.drop 0 t) = t.take 255 := by
  rw [zlf, Nat.sub_zero, List.drop_zero]
  by_cases h : t.length ≤ 255
  ·rw [Nat.min_eq_left h, List.take_length, zlm h]
  ·rw [Nat.min_eq_right (by omega)]
 have h1 := h0 (zlb (by omega)) (zlb (by rw [zlf, zla]; omega)) (by show AV.sl .any 37 _ _ = AV.sl .any 37 _ (List.map Rw.enc _); rw [List.map_take, List.map_drop])
 rw [hk] at h1
 rw [zla]
 have hlen : (t.take 255).length ≤ 255 := by rw [zlh]; omega
 have hO := yo4 hp (yau 0 c (Option.map (fun x => x - 0) none)) (t.take 255) hlen (fun r hr' => hr r (List.mem_of_mem_take hr')) (t.take 255).length 0 [] (by omega) (by rw [hxs, List.drop_zero]; rfl)
 rw [List.drop_zero] at hO
 refine .seq (.seg hp rfl h1 (env2 := aE p.l (yau 0 c (Option.map (fun x => x - 0) none)) (t.take 255) 0) (by repeat (first | exact EnvV.nil | refine EnvV.cons (by first | exact yac _ | exact yca _ _) ?_)) (by repeat (first | exact EnvSub.nil | refine EnvSub.cons rfl ?_))) (.block (ex := .exit 0) ?_ (.inl ⟨rfl, rfl⟩))
 have := hO.loop
 simp only [List.length_nil, Nat.zero_add] at this
 exact this
theorem alB (c : Option Nat) (t : List Rw) : Tri Try.prog (cxN 4 0) (yga Try.f37 1) [(1, .box [tsl c t])] .normal [(2, .fn 51 [tbx c t])] :=
 Tri.shr (r := 1) (cs := [tsl c t]) rfl rfl (fun t y h => by simp only [lk] at h; split at h <;> simp at h; subst h; simp [zqf]) (Tri.weak [(1, .keep)] (Tri.after [(2, .keep)] (alb_0 c t)))
theorem zqk (m : Lf.Mode) (c : Option Nat) (l : List Lp) : view (.sl m 45 c (l.map Lp.enc)) = lsl c l := by
 show AV.sl .any 45 c ((l.map Lp.enc).map (mapE (remode (fun _ => .any) 11))) = _
 rw [yh7]
theorem zqg (m : Lf.Mode) (c : Option Nat) (t : List Rw) : view (.sl m 37 c (t.map Rw.enc)) = tsl c t := by
 show AV.sl .any 37 c ((t.map Rw.enc).map (mapE (remode (fun _ => .any) 11))) = _
 rw [yng]
theorem zqh (m m' : Lf.Mode) (b : Int) (w : Bool) (ct cp : Option Nat) (th : List Idd) (pa : List Ps) : view (.agg [ub b, bb w, .sl m 36 ct (th.map Idd.enc), .sl m' 56 cp (pa.map Ps.enc)]) = .agg [ub b, bb w, isl ct th, sl cp pa] := by
 show AV.agg [ub b, bb w, .sl .any 36 ct ((th.map Idd.enc).map (mapE (remode (fun _ => .any) 10))), .sl .any 56 cp ((pa.map Ps.enc).map (mapE (remode (fun _ => .any) 10)))] = _
 rw [ycf, yc5]
theorem yxm (L : Lp) : PureC Try.prog 32 [L.enc]  (AV.fn 45 [AV.vadr [ub (Lp.b L), bb (Lp.w L), isl (Lp.ct L) (Lp.th L), sl (Lp.cp L) (Lp.pa L)] 0]) :=
 zqj (H := h32) (n := 4) (ans := [.c, .c, .cut Ex.normal [(2, AV.fn 45 [AV.vadr [ub (Lp.b L), bb (Lp.w L), isl (Lp.ct L) (Lp.th L), sl (Lp.cp L) (Lp.pa L)] 0])]]) (base 4 0) Try.func32 rfl (by simp) rfl (by kernel_rfl) (allp (p := Tri Try.prog (cxN (4 : Nat) (0 : Nat)) (yga Try.f32 (1 : Nat)) [(1, AV.box [ub (Lp.b L), bb (Lp.w L), isl (Lp.ct L) (Lp.th L), sl (Lp.cp L) (Lp.pa L)])] Ex.normal [(2, AV.fn 45 [AV.vadr [ub (Lp.b L), bb (Lp.w L), isl (Lp.ct L) (Lp.th L), sl (Lp.cp L) (Lp.pa L)] 0])]) (by first | (apply mlB<;>first|assumption|rfl|(simp at *<;>omega)) | (refine Tri.weak [(1, .keep)] ?_; apply mlB<;>first|assumption|rfl|(simp at *<;>omega))) zqa)
theorem all_0 (c : Option Nat) (t : List Rw) : PureC Try.prog 37 [tsl c t]  (AV.fn 51 [AV.vadr [tsl c t] 0]) :=
 zqj (H := h37) (n := 4) (ans := [.c, .c, .cut Ex.normal [(2, AV.fn 51 [AV.vadr [tsl c t] 0])]]) (base 4 0) Try.func37 rfl (by simp) rfl (by kernel_rfl) (allp (p := Tri Try.prog (cxN (4 : Nat) (0 : Nat)) (yga Try.f37 (1 : Nat)) [(1, AV.box [tsl c t])] Ex.normal [(2, AV.fn 51 [AV.vadr [tsl c t] 0])]) (by first | (apply alB<;>first|assumption|rfl|(simp at *<;>omega)) | (refine Tri.weak [(1, .keep)] ?_; apply alB<;>first|assumption|rfl|(simp at *<;>omega))) zqa)
theorem ywm (c : Option Nat) (t : List Rw) (y3 : List AV) (p : Idd) : Tri Try.prog (cxN 31 5) (zqo Try.f40 0) ([(26, p.enc), (2, .box [tsl c t]), (4, .box [bb false])]) .normal ([(2, AV.box [tsl c t]), (4, AV.box [bb false]), (5, AV.box [ub (Idd.y p), it (Idd.n p)])]) :=
 ev h40 [.c, .c] zqa
theorem rib_0 (c : Option Nat) (t : List Rw) (p : Idd) (h0 : 0 ≤ p.y) (h1 : p.y ≤ 255) (g0 : (!hasV t (Idd.y p) (Idd.n p)) = true) : Tri Try.prog (cxN 31 5) (zrf Try.f40 0) ([(2, .box [tsl c t]), (4, .box [bb false]), (5, .box [ub p.y, it p.n])]) .ret ([(4, AV.box [bb false])]) :=
 ev h40 [.c, .c, .r (tsl c t), .r (bb (hasV t (Idd.y p) (Idd.n p))), .c, .c, .c, .b true, .c, .c, .c] (allp (zqg .any c t) (allp (p := PureC Try.prog 28 [tsl c t, Idd.enc p] (bb (hasV t (Idd.y p) (Idd.n p)))) (by apply yqe<;>first|assumption|rfl|(simp at *<;>omega)) (allp g0 zqa)))
theorem rib_1 (c : Option Nat) (t : List Rw) (p : Idd) (h0 : 0 ≤ p.y) (h1 : p.y ≤ 255) (g0 : (!hasV t (Idd.y p) (Idd.n p)) = false) : Tri Try.prog (cxN 31 5) (zrf Try.f40 0) ([(2, .box [tsl c t]), (4, .box [bb false]), (5, .box [ub p.y, it p.n])]) .normal ([(2, AV.box [tsl c t]), (4, AV.box [bb false]), (30, bb !hasV t (Idd.y p) (Idd.n p))]) :=
 ev h40 [.c, .c, .r (tsl c t), .r (bb (hasV t (Idd.y p) (Idd.n p))), .c, .c, .c, .b false] (allp (zqg .any c t) (allp (p := PureC Try.prog 28 [tsl c t, Idd.enc p] (bb (hasV t (Idd.y p) (Idd.n p)))) (by apply yqe<;>first|assumption|rfl|(simp at *<;>omega)) (allp g0 zqa)))
def push (st : List Ps) (p : Ps) : List Ps := match st with
 | q :: st' => if can q p = true then st' else p :: q :: st'
 | [] => [p]
def nf (l : List Ps) : List Ps := (l.foldl push []).reverse
def IrrR : List Ps → Prop
 | p :: q :: st => can q p = false ∧ IrrR (q :: st)
 | _ => True
theorem IrrR.tail {p : Ps} {st : List Ps} (h : IrrR (p :: st)) : IrrR st := by
 cases st with
 | nil => trivial
 | cons q st => exact h.2
theorem yuy {p q : Ps} : can p q = true ↔ yaf p = q ∧ yaf q = p := by simp [can]
theorem yn5 : ∀ (l st : List Ps), IrrR (l.reverse ++ st) → l.foldl push st = l.reverse ++ st
 | [], st, _ => rfl
 | p :: l, st, h => by
  have h' : IrrR (l.reverse ++ (p :: st)) := by simpa using h
  have hp : push st p = p :: st := by
   have h2 : IrrR (p :: st) := by
    clear h
    generalize l.reverse = r at h'
    induction r with
    | nil => exact h'
    | cons a r ih => exact ih h'.tail
   cases st with
   | nil => rfl
   | cons q st => simp [push, h2.1]
  simp only [List.foldl_cons, hp, yn5 l (p :: st) h']
  simp
theorem nf_id {l : List Ps} (h : IrrR l.reverse) : nf l = l := by
 unfold nf
 rw [yn5 l [] (by simpa using h)]
 simp
theorem yp9 : ∀ (l : List Ps) (p : Ps), IrrR l.reverse → (l = [] ∨ can (l.getD (l.length - 1) default) p = false) → IrrR (l ++ [p]).reverse := by
 intro l p h hc
 rw [List.reverse_append]
 cases hr : l.reverse with
 | nil => simp [IrrR]
 | cons q r =>
  rw [hr] at h
  refine ⟨?_, h⟩
  rcases hc with rfl | hc
  ·simp at hr
  ·have : l = r.reverse ++ [q] := by
    have := congrArg List.reverse hr
    simpa using this
   subst this
   simpa [zld] using hc
theorem yy0 : ∀ (n : Nat) (l : List Ps), l.length = n → (∀ i, i + 1 < l.length → can (l.getD i default) (l.getD (i + 1) default) = false) → IrrR l.reverse := by
 intro n
 induction n with
 | zero => intro l hl _; rw [zli hl]; trivial
 | succ n ih =>
  intro l hl h
  obtain ⟨u, p, rfl⟩ : ∃ u p, l = u ++ [p] := by
   have hne : l ≠ [] := by intro e; subst e; simp at hl
   exact ⟨l.dropLast, l.getLast hne, (List.dropLast_concat_getLast hne).symm⟩
  have hul : u.length = n := by simpa using hl
  refine yp9 u p (ih u hul fun i hi => ?_) ?_
  ·have := h i (by simp; omega)
   simpa [zld, List.getElem?_append, show i < u.length by omega, show i + 1 < u.length from hi] using this
  ·by_cases hu : u = []
   ·exact .inl hu
   ·right
    have hpos : 0 < u.length := List.length_pos_iff.2 hu
    have := h (u.length - 1) (by simp; omega)
    have e1 : u.length - 1 + 1 = u.length := by omega
    rw [e1] at this
    simpa [zld, List.getElem?_append, show u.length - 1 < u.length by omega] using this
theorem yrg (p q : Ps) : (p.y == q.y && p.n == q.n && p.f == q.f && p.d == q.d) = (p == q) := by
 cases p; cases q
 rw [Bool.eq_iff_iff]
 simp [zlo, and_assoc]
theorem ykw (p q : Ps) : PureC Try.prog 73 [p.enc, q.enc] (.atom (.bool (can p q))) := by
 have e1 := yrg (yaf p) q
 have e2 := yrg (yaf q) p
 cases h : (yaf p == q) with
 | true =>
  have := yqw p q (by rw [e1, h])
  rw [e2] at this
  have hc : can p q = (yaf q == p) := by simp [can, h]
  rw [hc]; exact this
 | false =>
  have := yqv p q (by rw [e1, h])
  have hc : can p q = false := by simp [can, h]
  rw [hc]; exact this
theorem yx5 (ca : Option Nat) (l st : List Ps) (n : Nat) (i : Int) (g0 : decide (i < (l.length : Int)) = true) (g1 : decide (0 ≤ i ∧ i < ((l.map Ps.enc).length : Int)) = true) (g2 : (l.map Ps.enc).getD i.toNat AV.bad = Ps.enc (l.getD i.toNat default)) (g3 : decide (0 ≤ i64.wrap (((st.map Ps.enc).length : Int) - (1 : Int))) = true) (g4 : decide (0 ≤ i64.wrap (((st.map Ps.enc).length : Int) - (1 : Int)) ∧ i64.wrap (((st.map Ps.enc).length : Int) - (1 : Int)) < ((st.map Ps.enc).length : Int)) = true) (g5 : decide ((i64.wrap (((st.map Ps.enc).length : Int) - (1 : Int))).toNat < (st.map Ps.enc).length) = true) (g6 : (st.map Ps.enc).getD ((i64.wrap (((st.map Ps.enc).length : Int) - (1 : Int))).toNat) AV.bad = Ps.enc (st.getD ((i64.wrap (((st.map Ps.enc).length : Int) - (1 : Int))).toNat) default)) (g7 : can (st.getD ((i64.wrap (((st.map Ps.enc).length : Int) - (1 : Int))).toNat) default) (l.getD i.toNat default) = true) (g8 : decide ((i64.wrap (((st.map Ps.enc).length : Int) - (1 : Int))).toNat ≤ ((l.map Ps.enc).length : Int).toNat ∧ ((l.map Ps.enc).length : Int).toNat ≤ n) = true) (g9 : decide ((0 : Nat) ≤ (i64.wrap (((st.map Ps.enc).length : Int) - (1 : Int))).toNat ∧ (i64.wrap (((st.map Ps.enc).length : Int) - (1 : Int))).toNat ≤ (st.map Ps.enc).length) = true) (g10 : decide ((i64.wrap (((st.map Ps.enc).length : Int) - (1 : Int))).toNat - (0 : Nat) ≤ (st.map Ps.enc).length ∧ ((3 : Nat) < Cx.N { T := Cx.T (cxN (41 : Nat) (0 : Nat)), K := Cx.K (cxN (41 : Nat) (0 : Nat)), KM := Cx.KM (cxN (41 : Nat) (0 : Nat)), eqT := Cx.eqT (cxN (41 : Nat) (0 : Nat)), N := Cx.N (cxN (41 : Nat) (0 : Nat)), lo := Cx.lo (cxN (41 : Nat) (0 : Nat)), dr := false } ∧ Cx.lo { T := Cx.T (cxN (41 : Nat) (0 : Nat)), K := Cx.K (cxN (41 : Nat) (0 : Nat)), KM := Cx.KM (cxN (41 : Nat) (0 : Nat)), eqT := Cx.eqT (cxN (41 : Nat) (0 : Nat)), N := Cx.N (cxN (41 : Nat) (0 : Nat)), lo := Cx.lo (cxN (41 : Nat) (0 : Nat)), dr := false } ≤ (3 : Nat)) ∧ (Option.map (fun x => x - (0 : Nat)) (some (((l.map Ps.enc).length : Int).toNat)) = none ∨ Option.map (fun x => x - (0 : Nat)) (some (((l.map Ps.enc).length : Int).toNat)) = some n)) = true) : Tri Try.prog (cxN 41 0) (zqc Try.f67 0) ([(0, sl ca l), (3, ow (some n) st), (10, sl ca l), (11, it l.length), (12, it i)]) .normal ([(0, sl ca l), (3, AV.sl .own 56 (some n) (List.take ((i64.wrap (((st.map Ps.enc).length : Int) - (1 : Int))).toNat - (0 : Nat)) (List.map Ps.enc st))), (10, sl ca l), (11, it (l.length : Int)), (12, it (i64.wrap (i + (1 : Int))))]) :=
 ev h67 [.c, .b true, .b true, .r (Ps.enc (l.getD i.toNat default)), .c, .c, .c, .c, .c, .c, .c, .c, .c, .c, .c, .b true, .c, .b true, .c, .b true, .b true, .c, .b true, .b true, .r (Ps.enc (st.getD ((i64.wrap (((st.map Ps.enc).length : Int) - (1 : Int))).toNat) default)), .c, .b true, .c, .b true, .r (bb (can (st.getD ((i64.wrap (((st.map Ps.enc).length : Int) - (1 : Int))).toNat) default) (l.getD i.toNat default))), .c, .c, .b true, .c, .b true, .c, .c, .c, .c, .b true, .c, .b true, .b true, .c, .b true, .c, .c] (allp g0 (allp g1 (allp g2 (allp g3 (allp g3 (allp g3 (allp g4 (allp g3 (allp g5 (allp g6 (allp g3 (allp g3 (allp (p := PureC Try.prog 73 [AV.agg [ub (Ps.y (st.getD ((i64.wrap (((st.map Ps.enc).length : Int) - (1 : Int))).toNat) default)), it (Ps.n (st.getD ((i64.wrap (((st.map Ps.enc).length : Int) - (1 : Int))).toNat) default)), bb (Ps.f (st.getD ((i64.wrap (((st.map Ps.enc).length : Int) - (1 : Int))).toNat) default)), ub (Ps.d (st.getD ((i64.wrap (((st.map Ps.enc).length : Int) - (1 : Int))).toNat) default))], AV.agg [ub (Ps.y (l.getD i.toNat default)), it (Ps.n (l.getD i.toNat default)), bb (Ps.f (l.getD i.toNat default)), ub (Ps.d (l.getD i.toNat default))]] (bb (can (st.getD ((i64.wrap (((st.map Ps.enc).length : Int) - (1 : Int))).toNat) default) (l.getD i.toNat default)))) (by apply ykw<;>first|assumption|rfl|(simp at *<;>omega)) (allp g3 (allp g7 (allp g3 (allp g8 (allp g9 (allp g10 zqa)))))))))))))))))))
theorem yx4 (ca : Option Nat) (l st : List Ps) (n : Nat) (i : Int) (g0 : decide (i < (l.length : Int)) = true) (g1 : decide (0 ≤ i ∧ i < ((l.map Ps.enc).length : Int)) = true) (g2 : (l.map Ps.enc).getD i.toNat AV.bad = Ps.enc (l.getD i.toNat default)) (g3 : decide (0 ≤ i64.wrap (((st.map Ps.enc).length : Int) - (1 : Int))) = true) (g4 : decide (0 ≤ i64.wrap (((st.map Ps.enc).length : Int) - (1 : Int)) ∧ i64.wrap (((st.map Ps.enc).length : Int) - (1 : Int)) < ((st.map Ps.enc).length : Int)) = true) (g5 : decide ((i64.wrap (((st.map Ps.enc).length : Int) - (1 : Int))).toNat < (st.map Ps.enc).length) = true) (g6 : (st.map Ps.enc).getD ((i64.wrap (((st.map Ps.enc).length : Int) - (1 : Int))).toNat) AV.bad = Ps.enc (st.getD ((i64.wrap (((st.map Ps.enc).length : Int) - (1 : Int))).toNat) default)) (g7 : can (st.getD ((i64.wrap (((st.map Ps.enc).length : Int) - (1 : Int))).toNat) default) (l.getD i.toNat default) = false) (g8 : AV.sl .own 56 (some 1) [AV.agg [ub (Ps.y (l.getD i.toNat default)), it (Ps.n (l.getD i.toNat default)), bb (Ps.f (l.getD i.toNat default)), ub (Ps.d (l.getD i.toNat default))]] = AV.sl .own 56 (some (1 : Nat)) (List.map Ps.enc [{ y := Ps.y (l.getD i.toNat default), n := Ps.n (l.getD i.toNat default), f := Ps.f (l.getD i.toNat default), d := Ps.d (l.getD i.toNat default) }])) (g9 : decide ((st.map Ps.enc).length + (List.map Ps.enc [{ y := Ps.y (l.getD i.toNat default), n := Ps.n (l.getD i.toNat default), f := Ps.f (l.getD i.toNat default), d := Ps.d (l.getD i.toNat default) }]).length ≤ (4294967296 : Nat)) = true) (g10 : AV.sl .own 56 (if (st.map Ps.enc).length + (List.map Ps.enc [{ y := Ps.y (l.getD i.toNat default), n := Ps.n (l.getD i.toNat default), f := Ps.f (l.getD i.toNat default), d := Ps.d (l.getD i.toNat default) }]).length ≤ n then some n else none) (List.map Ps.enc st ++ List.map Ps.enc [{ y := Ps.y (l.getD i.toNat default), n := Ps.n (l.getD i.toNat default), f := Ps.f (l.getD i.toNat default), d := Ps.d (l.getD i.toNat default) }]) = AV.sl .own 56 (some n) (List.map Ps.enc (st ++ [{ y := Ps.y (l.getD i.toNat default), n := Ps.n (l.getD i.toNat default), f := Ps.f (l.getD i.toNat default), d := Ps.d (l.getD i.toNat default) }]))) : Tri Try.prog (cxN 41 0) (zqc Try.f67 0) ([(0, sl ca l), (3, ow (some n) st), (10, sl ca l), (11, it l.length), (12, it i)]) .normal ([(0, sl ca l), (3, AV.sl .own 56 (some n) (List.map Ps.enc (st ++ [{ y := Ps.y (l.getD i.toNat default), n := Ps.n (l.getD i.toNat default), f := Ps.f (l.getD i.toNat default), d := Ps.d (l.getD i.toNat default) }]))), (10, sl ca l), (11, it (l.length : Int)), (12, it (i64.wrap (i + (1 : Int))))]) :=
 ev h67 [.c, .b true, .b true, .r (Ps.enc (l.getD i.toNat default)), .c, .c, .c, .c, .c, .c, .c, .c, .c, .c, .c, .b true, .c, .b true, .c, .b true, .b true, .c, .b true, .b true, .r (Ps.enc (st.getD ((i64.wrap (((st.map Ps.enc).length : Int) - (1 : Int))).toNat) default)), .c, .b true, .c, .b true, .r (bb (can (st.getD ((i64.wrap (((st.map Ps.enc).length : Int) - (1 : Int))).toNat) default) (l.getD i.toNat default))), .c, .c, .b true, .c, .b false, .c, .c, .r (AV.sl .own 56 (some (1 : Nat)) (List.map Ps.enc [{ y := Ps.y (l.getD i.toNat default), n := Ps.n (l.getD i.toNat default), f := Ps.f (l.getD i.toNat default), d := Ps.d (l.getD i.toNat default) }])), .c, .b true, .r (AV.sl .own 56 (some n) (List.map Ps.enc (st ++ [{ y := Ps.y (l.getD i.toNat default), n := Ps.n (l.getD i.toNat default), f := Ps.f (l.getD i.toNat default), d := Ps.d (l.getD i.toNat default) }]))), .c, .c, .c] (allp g0 (allp g1 (allp g2 (allp g3 (allp g3 (allp g3 (allp g4 (allp g3 (allp g5 (allp g6 (allp g3 (allp g3 (allp (p := PureC Try.prog 73 [AV.agg [ub (Ps.y (st.getD ((i64.wrap (((st.map Ps.enc).length : Int) - (1 : Int))).toNat) default)), it (Ps.n (st.getD ((i64.wrap (((st.map Ps.enc).length : Int) - (1 : Int))).toNat) default)), bb (Ps.f (st.getD ((i64.wrap (((st.map Ps.enc).length : Int) - (1 : Int))).toNat) default)), ub (Ps.d (st.getD ((i64.wrap (((st.map Ps.enc).length : Int) - (1 : Int))).toNat) default))], AV.agg [ub (Ps.y (l.getD i.toNat default)), it (Ps.n (l.getD i.toNat default)), bb (Ps.f (l.getD i.toNat default)), ub (Ps.d (l.getD i.toNat default))]] (bb (can (st.getD ((i64.wrap (((st.map Ps.enc).length : Int) - (1 : Int))).toNat) default) (l.getD i.toNat default)))) (by apply ykw<;>first|assumption|rfl|(simp at *<;>omega)) (allp g3 (allp g7 (allp g8 (allp g9 (allp g10 zqa))))))))))))))))))
theorem yx3 (ca : Option Nat) (l st : List Ps) (n : Nat) (i : Int) (g0 : decide (i < (l.length : Int)) = true) (g1 : decide (0 ≤ i ∧ i < ((l.map Ps.enc).length : Int)) = true) (g2 : (l.map Ps.enc).getD i.toNat AV.bad = Ps.enc (l.getD i.toNat default)) (g3 : decide (0 ≤ i64.wrap (((st.map Ps.enc).length : Int) - (1 : Int))) = false) (g4 : AV.sl .own 56 (some 1) [AV.agg [ub (Ps.y (l.getD i.toNat default)), it (Ps.n (l.getD i.toNat default)), bb (Ps.f (l.getD i.toNat default)), ub (Ps.d (l.getD i.toNat default))]] = AV.sl .own 56 (some (1 : Nat)) (List.map Ps.enc [{ y := Ps.y (l.getD i.toNat default), n := Ps.n (l.getD i.toNat default), f := Ps.f (l.getD i.toNat default), d := Ps.d (l.getD i.toNat default) }])) (g5 : decide ((st.map Ps.enc).length + (List.map Ps.enc [{ y := Ps.y (l.getD i.toNat default), n := Ps.n (l.getD i.toNat default), f := Ps.f (l.getD i.toNat default), d := Ps.d (l.getD i.toNat default) }]).length ≤ (4294967296 : Nat)) = true) (g6 : AV.sl .own 56 (if (st.map Ps.enc).length + (List.map Ps.enc [{ y := Ps.y (l.getD i.toNat default), n := Ps.n (l.getD i.toNat default), f := Ps.f (l.getD i.toNat default), d := Ps.d (l.getD i.toNat default) }]).length ≤ n then some n else none) (List.map Ps.enc st ++ List.map Ps.enc [{ y := Ps.y (l.getD i.toNat default), n := Ps.n (l.getD i.toNat default), f := Ps.f (l.getD i.toNat default), d := Ps.d (l.getD i.toNat default) }]) = AV.sl .own 56 (some n) (List.map Ps.enc (st ++ [{ y := Ps.y (l.getD i.toNat default), n := Ps.n (l.getD i.toNat default), f := Ps.f (l.getD i.toNat default), d := Ps.d (l.getD i.toNat default) }]))) : Tri Try.prog (cxN 41 0) (zqc Try.f67 0) ([(0, sl ca l), (3, ow (some n) st), (10, sl ca l), (11, it l.length), (12, it i)]) .normal ([(0, sl ca l), (3, AV.sl .own 56 (some n) (List.map Ps.enc (st ++ [{ y := Ps.y (l.getD i.toNat default), n := Ps.n (l.getD i.toNat default), f := Ps.f (l.getD i.toNat default), d := Ps.d (l.getD i.toNat default) }]))), (10, sl ca l), (11, it (l.length : Int)), (12, it (i64.wrap (i + (1 : Int))))]) :=
 ev h67 [.c, .b true, .b true, .r (Ps.enc (l.getD i.toNat default)), .c, .c, .c, .c, .c, .c, .c, .c, .c, .c, .c, .b false, .c, .b false, .c, .b false, .c, .b false, .c, .b false, .c, .b false, .c, .b false, .c, .c, .c, .c, .r (AV.sl .own 56 (some (1 : Nat)) (List.map Ps.enc [{ y := Ps.y (l.getD i.toNat default), n := Ps.n (l.getD i.toNat default), f := Ps.f (l.getD i.toNat default), d := Ps.d (l.getD i.toNat default) }])), .c, .b true, .r (AV.sl .own 56 (some n) (List.map Ps.enc (st ++ [{ y := Ps.y (l.getD i.toNat default), n := Ps.n (l.getD i.toNat default), f := Ps.f (l.getD i.toNat default), d := Ps.d (l.getD i.toNat default) }]))), .c, .c, .c] (allp g0 (allp g1 (allp g2 (allp g3 (allp g3 (allp g3 (allp g3 (allp g3 (allp g3 (allp g3 (allp g4 (allp g5 (allp g6 zqa)))))))))))))
theorem yx2 (ca : Option Nat) (l st : List Ps) (n : Nat) (i : Int) (g0 : decide (i < (l.length : Int)) = false) : Tri Try.prog (cxN 41 0) (zqc Try.f67 0) ([(0, sl ca l), (3, ow (some n) st), (10, sl ca l), (11, it l.length), (12, it i)]) (.exit 0) ([(0, sl ca l), (3, AV.sl .own 56 (some n) (List.map Ps.enc st)), (10, sl ca l), (11, it (l.length : Int)), (12, it i), (13, bb (decide (i < (l.length : Int))))]) :=
 ev h67 [.c, .b false] (allp g0 zqa)
theorem ysy (ca : Option Nat) (l : List Ps) (hl : l.length ≤ 4294967296) : ∀ (k i : Nat) (st : List Ps), i + k = l.length → st.length ≤ i →
  Rnd Try.prog (cxN 41 0) (zqc Try.f67 0) (k + 1) [(0, sl ca l), (3, ow (some l.length) st.reverse), (10, sl ca l), (11, it l.length), (12, it i)] (.exit 0) [(3, ow (some l.length) ((l.drop i).foldl push st).reverse)] := by
 intro k
 induction k with
 | zero =>
  intro i st hi hst
  have hi' : i = l.length := by omega
  subst hi'
  rw [List.drop_length]
  exact Rnd.exit (Tri.after [(3, .keep)] (yx2 ca l st.reverse l.length l.length (by simp))) (by simp)
 | succ k ih =>
  intro i st hi hst
  have hlt : i < l.length := by omega
  have e : l.drop i = l.getD i default :: l.drop (i + 1) := by
   rw [List.drop_eq_getElem_cons hlt]; simp [zld, hlt]
  rw [e, List.foldl_cons]
  have hw : i64.wrap ((i : Int) + 1) = (i : Int) + 1 := yak (by omega) (by omega)
  have hlast : i64.wrap (((st.reverse.map Ps.enc).length : Int) - 1) = (st.length : Int) - 1 := by
   rw [zla, List.length_reverse]; exact yak (by omega) (by omega)
  have eta : (⟨(l.getD i default).y, (l.getD i default).n, (l.getD i default).f, (l.getD i default).d⟩ : Ps) = l.getD i default := rfl
  cases st with
  | nil =>
   have h1 := yx3 ca l [] l.length i (by simpa using hlt) (by simpa using hlt) (yb8 hlt) (by decide) rfl (by simp) (by
    rw [if_pos (by simp; omega), zlq])
   rw [hw] at h1
   exact Rnd.step h1 (ih (i + 1) [l.getD i default] (by omega) (by simp))
  | cons q st =>
   have hs1 : ((((q :: st).length : Nat) : Int) - 1) = ((st.length : Nat) : Int) := by simp
   rw [hs1] at hlast
   have hgd : (q :: st).reverse.getD st.length default = q := by simp [zld]
   by_cases hc : can q (l.getD i default) = true
   ·have h1 := yx5 ca l (q :: st).reverse l.length i (by simpa using hlt) (by simpa using hlt) (yb8 hlt) (by rw [hlast]; simp) (by rw [hlast]; simp; omega) (by rw [hlast]; simp) (by rw [hlast]; exact yb8 (by simp)) (by rw [hlast, zlf, hgd]; exact hc)
     (by rw [hlast]; simp at hst ⊢; omega) (by rw [hlast]; simp) (by rw [hlast]; simp [cxN, cxA])
    rw [hw, hlast] at h1
    have e3 : List.take ((st.length : Int).toNat - 0) (List.map Ps.enc (q :: st).reverse) = List.map Ps.enc st.reverse := by
     rw [← List.map_take]; congr 1; simp
    rw [e3] at h1
    have hp : push (q :: st) (l.getD i default) = st := by simp only [push, hc, if_true]
    rw [hp]
    exact Rnd.step h1 (ih (i + 1) st (by omega) (by simp at hst; omega))
   ·have hc' : can q (l.getD i default) = false := by simpa using hc
    have h1 := yx4 ca l (q :: st).reverse l.length i (by simpa using hlt) (by simpa using hlt) (yb8 hlt) (by rw [hlast]; simp) (by rw [hlast]; simp; omega) (by rw [hlast]; simp) (by rw [hlast]; exact yb8 (by simp)) (by rw [hlast, zlf, hgd]; exact hc')
     rfl (by simp at hst ⊢; omega) (by rw [if_pos (by simp at hst ⊢; omega), zlq])
    rw [hw] at h1
    have hp : push (q :: st) (l.getD i default) = l.getD i default :: q :: st := by simp only [push, hc', Bool.false_eq_true, if_false]
    rw [hp]
    have h2 := ih (i + 1) (l.getD i default :: q :: st) (by omega) (by simp at hst ⊢; omega)
    rw [List.reverse_cons] at h2
    exact Rnd.step h1 h2
theorem yj1 (ca : Option Nat) (l : List Ps) (hl : l.length ≤ 4294967296) : Tri Try.prog (cxN 41 0) (.loop (zqc Try.f67 0)) [(0, sl ca l), (3, ow (some ((l.map Ps.enc).length : Int).toNat) []), (10, sl ca l), (11, it ((l.map Ps.enc).length : Nat)), (12, it 0)] (.exit 0) [(3, ow (some l.length) (nf l))] := by
 have := Rnd.loop (ysy ca l hl l.length 0 [] (by omega) (by simp))
 simpa [nf, ow] using this
theorem red_0 (ca : Option Nat) (l : List Ps) (hl : l.length ≤ 4294967296) (hn : (nf l).length ≤ 4294967296) (g0 : decide (0 ≤ (0 : Int) ∧ (0 : Int) ≤ ((l.map Ps.enc).length : Int) ∧ ((l.map Ps.enc).length : Int) ≤ (4294967296 : Int) ∧ TInfo.bytes { zero := [Value.int u8 (0 : Int), Value.int i64 (0 : Int), Value.bool false, Value.int u8 (0 : Int)], bytes := (24 : Nat), agg := true, kind := TK.struct [((0 : Nat), (2 : Nat)), ((2 : Nat), (1 : Nat)), ((3 : Nat), (1 : Nat))] } ≤ (4096 : Nat) ∧ (0 : Nat) < List.length (TInfo.zero { zero := [Value.int u8 (0 : Int), Value.int i64 (0 : Int), Value.bool false, Value.int u8 (0 : Int)], bytes := (24 : Nat), agg := true, kind := TK.struct [((0 : Nat), (2 : Nat)), ((2 : Nat), (1 : Nat)), ((3 : Nat), (1 : Nat))] })) = true) (g1 : AV.sl .own 56 (some (((l.map Ps.enc).length : Int).toNat)) [] = AV.sl .own 56 (some (((l.map Ps.enc).length : Int).toNat)) (List.map Ps.enc (List.replicate ((0 : Int).toNat) { y := (0 : Int), n := (0 : Int), f := false, d := (0 : Int) }))) (g2 : decide ((true || false) = true → yag (12 : Nat) (AV.sl .own 56 (some ((nf l).length)) (List.map Ps.enc (nf l))) = true) = true) : PureC Try.prog 67 [sl ca l]  (AV.sl .own 56 (some ((nf l).length)) (List.map Ps.enc (nf l))) :=
 zqj (H := h67) (n := 41) (ans := [.c, .c, .c, .b true, .r (AV.sl .own 56 (some (((l.map Ps.enc).length : Int).toNat)) (List.map Ps.enc (List.replicate ((0 : Int).toNat) { y := (0 : Int), n := (0 : Int), f := false, d := (0 : Int) }))), .c, .c, .c, .c, .lp (.exit 0) [(3, AV.sl .own 56 (some (l.length)) (List.map Ps.enc (nf l)))], .c, .r (sl (some (l.length)) (nf l)), .r (AV.sl .own 56 (some ((nf l).length)) (List.map Ps.enc (nf l))), .b true, .c, .c]) (base 41 0) Try.func67 rfl (by simp) rfl (by kernel_rfl) (allp g0 (allp g1 (allp (p := Tri Try.prog (cxN (41 : Nat) (0 : Nat)) (Code.loop (zqc Try.f67 (0 : Nat))) [(0, sl ca l), (3, AV.sl .own 56 (some (((l.map Ps.enc).length : Int).toNat)) []), (10, sl ca l), (11, it ((l.map Ps.enc).length : Int)), (12, it 0)] (.exit 0) [(3, AV.sl .own 56 (some (l.length)) (List.map Ps.enc (nf l)))]) (by first | (apply yj1<;>first|assumption|rfl|(simp at *<;>omega)) | (refine Tri.weak [(0, .keep), (3, .keep), (10, .keep), (11, .keep), (12, .keep)] ?_; apply yj1<;>first|assumption|rfl|(simp at *<;>omega)) | (apply yn3<;>first|assumption|rfl|(simp at *<;>omega))) (allp (p := view (AV.sl .own 56 (some (l.length)) (List.map Ps.enc (nf l))) = sl (some (l.length)) (nf l)) (by first | exact zra _ _ _ | exact zrb _ _ _ | rfl | exact zqg _ _ _ | exact zqk _ _ _ | exact zqh _ _ _ _ _ _ _ _) (allp (p := PureC Try.prog 74 [sl (some (l.length)) (nf l)] (AV.sl .own 56 (some ((nf l).length)) (List.map Ps.enc (nf l)))) (by apply yn3<;>first|assumption|rfl|(simp at *<;>omega)) (allp g2 zqa))))))
theorem ypt (st : List Ps) (p : Ps) : (push st p).length ≤ st.length + 1 := by
 cases st with
 | nil => simp [push]
 | cons q st =>
  show (if can q p = true then st else p :: q :: st).length ≤ _
  split <;> simp <;> omega
theorem ykj : ∀ (l st : List Ps), (l.foldl push st).length ≤ st.length + l.length
 | [], st => by simp
 | p :: l, st => by
  have h1 := ykj l (push st p)
  have h2 := ypt st p
  simp only [List.foldl_cons, List.length_cons]
  omega
theorem yxh (l : List Ps) : (nf l).length ≤ l.length := by
 unfold nf; rw [List.length_reverse]; simpa using ykj l []
theorem yiq (k : Nat) (l : List Ps) : (l.map Ps.enc).all (yag (k + 2)) = true := by
 rw [List.all_map, zls]
 intro p _
 rfl
theorem ywo (ca : Option Nat) (l : List Ps) (hl : l.length ≤ 4294967296) : PureC Try.prog 67 [sl ca l] (ow (some (nf l).length) (nf l)) := by
 have hn : (nf l).length ≤ 4294967296 := Nat.le_trans (yxh l) hl
 have := red_0 ca l hl hn (by simp; omega) rfl (by simp only [decide_eq_true_eq]; intro _; exact yiq _ _)
 simpa [ow] using this
def dirB (p : Ps) : Bool := p.d == 0 || p.d == 1
theorem yri (c : Option Nat) (l : List Ps) (hl : l.length < 2 ^ 60) : ∀ (k i : Nat), i + k = l.length →
  Rnd Try.prog (cxN 29 0) (zqc Try.f53 0) (k + 1) [(0, sl c l), (8, sl c l), (9, it (((l.map Ps.enc).length : Nat) : Int)), (10, it i)] (if (l.drop i).all dirB = true then .exit 0 else .ret) (if (l.drop i).all dirB = true then [(0, sl c l)] else [(2, bb false)]) := by
 intro k
 induction k with
 | zero =>
  intro i hi
  rw [zln (by omega)]
  exact Rnd.exit (ex := .exit 0) (Tri.after [(0, .keep)] (yti c l _ i (zlc (by rw [zla]; omega)))) (by simp)
 | succ k ih =>
  intro i hi
  have hil : i < l.length := by omega
  have u := up64 (k := i) (by omega)
  have g0 : decide ((i : Int) < (((l.map Ps.enc).length : Nat) : Int)) = true := zlb (by rw [zla]; omega)
  have g1 : decide ((0 : Int) ≤ (i : Int) ∧ (i : Int) < (((l.map Ps.enc).length : Nat) : Int)) = true := zlb (by rw [zla]; omega)
  have g2 : List.getD (l.map Ps.enc) i AV.bad = Ps.enc (l.getD i default) := yb8 hil
  rw [ydr l hil default, List.all_cons]
  generalize hp : l.getD i default = p at *
  have q0 := ytl c l (((l.map Ps.enc).length : Nat) : Int) i
  have q1 := ytk c l (((l.map Ps.enc).length : Nat) : Int) i
  have q2 := ytj c l (((l.map Ps.enc).length : Nat) : Int) i
  simp only [zlf, u, hp] at q0 q1 q2
  have hih := ih (i + 1) (by omega)
  by_cases h0 : p.d = 0
  ·have hd : dirB p = true := by unfold dirB; simp [h0]
   rw [hd, Bool.true_and]
   exact Rnd.step (q2 g0 g1 g2 (by simp [h0])) hih
  by_cases h1 : p.d = 1
  ·have hd : dirB p = true := by unfold dirB; simp [h1]
   rw [hd, Bool.true_and]
   exact Rnd.step (q1 g0 g1 g2 (by simp [h1]) (by simp [h1])) hih
  ·have hd : dirB p = false := by unfold dirB; simp [h0, h1]
   rw [hd, Bool.false_and]
   exact Rnd.exit (ex := .ret) (q0 g0 g1 g2 (by simpa using h0) (by simpa using h1)) (by simp)
theorem pd_t (c : Option Nat) (l : List Ps) (hl : l.length < 2 ^ 60) (h : l.all dirB = true) : Tri Try.prog (cxN 29 0) (.loop (zqc Try.f53 0)) [(0, sl c l), (8, sl c l), (9, it (((l.map Ps.enc).length : Nat) : Int)), (10, it 0)] (.exit 0) [(0, sl c l)] := by
 have := Rnd.loop (yri c l hl l.length 0 (by omega))
 rw [List.drop_zero, if_pos h, if_pos h] at this
 exact this
theorem pd_f (c : Option Nat) (l : List Ps) (hl : l.length < 2 ^ 60) (h : ¬ l.all dirB = true) : Tri Try.prog (cxN 29 0) (.loop (zqc Try.f53 0)) [(0, sl c l), (8, sl c l), (9, it (((l.map Ps.enc).length : Nat) : Int)), (10, it 0)] .ret [(2, bb false)] := by
 have := Rnd.loop (yri c l hl l.length 0 (by omega))
 rw [List.drop_zero, if_neg h, if_neg h] at this
 exact this
theorem ybs {t : Nat} {x : AV} {P : Prop} (h : lk [] t = some x) : P := by simp [lk] at h
theorem EnvB.nil {lo : Nat} : EnvB lo [] := fun t x h => ybs h
theorem EnvB.cons {lo : Nat} {env : Env} {t : Nat} {x : AV} (h : t < lo) (hx : zqf x = none) (hs : EnvB lo env) : EnvB lo ((t, x) :: env) := by
 intro t' y hy
 simp only [lk] at hy
 split at hy
 ·rename_i e; subst e; injection hy with hy; subst hy; exact ⟨h, hx⟩
 ·exact hs t' y hy
theorem EnvF.nil : EnvF [] := fun t x h => ybs h
theorem ydh (L : Lp) : [mbx L].map (remode (fun _ => .any) 12) = [mbx L] := by rw [List.map_cons, List.map_nil, (yd7 L).2]
theorem yck (c : Option Nat) (t : List Rw) : [tbx c t].map (remode (fun _ => .any) 12) = [tbx c t] := by rw [List.map_cons, List.map_nil, (yq9 c t).2]
abbrev idL (p : Idd) : List AV := [p.enc]
abbrev rE (c : Option Nat) (t : List Rw) : Env := [(2, .box [tsl c t]), (4, .box [bb false])]
def okI (L : Lp) : Prop := ∀ p ∈ zqz L, 0 ≤ p.y ∧ p.y ≤ 255
theorem yfz : yah Try.f40 0 = .rangeFunc (.tmp 25) #[26] (zqo Try.f40 0) (zrf Try.f40 0) := by kernel_rfl
theorem yex (c : Option Nat) (t : List Rw) (p : Idd) (h0 : 0 ≤ p.y ∧ p.y ≤ 255) (h : (!hasV t p.y p.n) = false) : ∃ E1, Tri Try.prog (cxN 31 5) (zqo Try.f40 0) ((#[26] : Array Tmp).toList.zip (idL p) ++ rE c t) .normal E1 ∧ Tri Try.prog (cxN 31 5) (zrf Try.f40 0) E1 .normal (rE c t) :=
 ⟨_, ywm c t [] p, Tri.after [(2, .keep), (4, .keep)] (rib_1 c t p h0.1 h0.2 h)⟩
section
variable (c : Option Nat) (t : List Rw) (L : Lp) (h1 : L.th.length < 2 ^ 60) (h2 : L.pa.length < 2 ^ 60) (hI : okI L)
include h1 h2 hI
theorem yeh (hn : ∀ p ∈ zqz L, (!hasV t p.y p.n) = false) : Tri Try.prog (cxN 31 0) (yah Try.f40 0) [(2, .box [tsl c t]), (4, .box [bb false]), (25, .fn 45 [mbx L])] .normal (rE c t) := by
 rw [yfz]
 exact Tri.rangeAll (P := Try.prog) (cx := cxN 31 0) rfl (t := 25) (ps := #[26]) (c1 := zqo Try.f40 0) (c2 := zrf Try.f40 0) [(2, .keep), (4, .keep)] rfl (ydh L) (zqz L) idL (yh5 L h1 h2) 5 (by omega)
  ⟨by decide, by decide⟩ (fun x => rfl) (fun pre => rE c t) [] rfl (fun pre => .cons (by omega) rfl (.cons (by omega) rfl .nil)) (fun pre t x h => ybs h) .nil (fun pre x post hx => yex c t x (hI x (by rw [hx]; simp)) (hn x (by rw [hx]; simp)))
theorem yde (pre : List Idd) (x : Idd) (post : List Idd) (hx : zqz L = pre ++ x :: post) (hn : ∀ p ∈ pre, (!hasV t p.y p.n) = false) (hy : (!hasV t x.y x.n) = true) :
  Tri Try.prog (cxN 31 0) (yah Try.f40 0) [(2, .box [tsl c t]), (4, .box [bb false]), (25, .fn 45 [mbx L])] .ret [(4, .box [bb false])] := by
 rw [yfz]
 exact Tri.rangeStop (P := Try.prog) (cx := cxN 31 0) rfl (t := 25) (ps := #[26]) (c1 := zqo Try.f40 0) (c2 := zrf Try.f40 0) [(2, .keep), (4, .keep)] rfl (ydh L) (zqz L) idL (yh5 L h1 h2) 5 (by omega)
  ⟨by decide, by decide⟩ (fun x => rfl) (fun pre => rE c t) [] rfl (fun pre => .cons (by omega) rfl (.cons (by omega) rfl .nil)) (fun pre t x h => ybs h) .nil pre x post hx
  (fun pre' y post' he => yex c t y (hI y (by rw [hx, he]; simp)) (hn y (by rw [he]; simp))) (by simp) (.cons (by omega) rfl .nil) ⟨_, ywm c t [] x, rib_0 c t x (hI x (by rw [hx]; simp)).1 (hI x (by rw [hx]; simp)).2 hy⟩
end
theorem ybo {α : Type} (b : α → Bool) : ∀ (l : List α), (∀ x ∈ l, b x = false) ∨ ∃ pre x post, l = pre ++ x :: post ∧ (∀ y ∈ pre, b y = false) ∧ b x = true
 | [] => .inl fun x h => by simp at h
 | x :: l => by
  cases hb : b x with
  | true => exact .inr ⟨[], x, l, rfl, fun y h => by simp at h, hb⟩
  | false =>
   rcases ybo b l with h | ⟨pre, y, post, h1, h2, h3⟩
   ·exact .inl fun y hy => by
     rcases List.mem_cons.1 hy with rfl | hy
     ·exact hb
     ·exact h y hy
   ·exact .inr ⟨x :: pre, y, post, by rw [h1]; rfl, fun z hz => by
     rcases List.mem_cons.1 hz with rfl | hz
     ·exact hb
     ·exact h2 z hz, h3⟩
theorem yb2 (b : Int) (w : Bool) (ct cp : Option Nat) (th : List Idd) (pa : List Ps) : PureC Try.prog 32 [.agg [ub b, bb w, isl ct th, sl cp pa]] (.fn 45 [.vadr [ub b, bb w, isl ct th, sl cp pa] 0]) := yxm ⟨b, w, ct, th, cp, pa⟩
theorem yhi (c : Option Nat) (t : List Rw) : PureC Try.prog 37 [tsl c t] (.fn 51 [tbx c t]) := all_0 c t
def PdOk (l : List Ps) (v : Bool) : Prop := ∀ c, PureC Try.prog 53 [sl c l] (bb v)
theorem pdok (c : Option Nat) (l : List Ps) (v : Bool) (h : PdOk l v) : PureC Try.prog 53 [sl c l] (bb v) := h c
theorem pdA_0 (c : Option Nat) (l : List Ps) (h4 : l.length ≤ 4096) (hl : l.length < 2 ^ 60) (h : l.all dirB = true) (q : decide ((4096 : Int) < ((l.map Ps.enc).length : Int)) = false) (g0 : decide ((4096 : Int) < ((l.map Ps.enc).length : Int)) = false) : PureC Try.prog 53 [sl c l]  (bb ((↑(((nf l).map Ps.enc).length) : Int) == ((l.map Ps.enc).length : Int))) :=
 zqj (H := h53) (n := 29) (ans := [.c, .c, .c, .c, .b false, .c, .c, .c, .lp (.exit 0) [(0, sl c l)], .c, .r (sl c l), .r (AV.sl .own 56 (some ((nf l).length)) (List.map Ps.enc (nf l))), .c, .c, .c, .c, .c, .c, .c]) (base 29 0) Try.func53 rfl (by simp) rfl (by kernel_rfl) (allp g0 (allp (p := Tri Try.prog (cxN (29 : Nat) (0 : Nat)) (Code.loop (zqc Try.f53 (0 : Nat))) [(0, sl c l), (8, sl c l), (9, it ((l.map Ps.enc).length : Int)), (10, it 0)] (.exit 0) [(0, sl c l)]) (by first | (apply pd_t<;>first|assumption|rfl|(simp at *<;>omega)) | (refine Tri.weak [(0, .keep), (8, .keep), (9, .keep), (10, .keep)] ?_; apply pd_t<;>first|assumption|rfl|(simp at *<;>omega)) | (apply ywo<;>first|assumption|rfl|(simp at *<;>omega))) (allp (zra .any c l) (allp (p := PureC Try.prog 67 [sl c l] (AV.sl .own 56 (some ((nf l).length)) (List.map Ps.enc (nf l)))) (by apply ywo<;>first|assumption|rfl|(simp at *<;>omega)) zqa))))
theorem pdB_0 (c : Option Nat) (l : List Ps) (hl : l.length < 2 ^ 60) (h : ¬ l.all dirB = true) (g0 : decide ((4096 : Int) < ((l.map Ps.enc).length : Int)) = true) : PureC Try.prog 53 [sl c l]  (bb false) :=
 zqj (H := h53) (n := 29) (ans := [.c, .c, .c, .c, .b true, .c]) (base 29 0) Try.func53 rfl (by simp) rfl (by kernel_rfl) (allp g0 zqa)
theorem pdB_1 (c : Option Nat) (l : List Ps) (hl : l.length < 2 ^ 60) (h : ¬ l.all dirB = true) (g0 : decide ((4096 : Int) < ((l.map Ps.enc).length : Int)) = false) : PureC Try.prog 53 [sl c l]  (bb false) :=
 zqj (H := h53) (n := 29) (ans := [.c, .c, .c, .c, .b false, .c, .c, .c, .lp Ex.ret [(2, bb false)]]) (base 29 0) Try.func53 rfl (by simp) rfl (by kernel_rfl) (allp g0 (allp (p := Tri Try.prog (cxN (29 : Nat) (0 : Nat)) (Code.loop (zqc Try.f53 (0 : Nat))) [(0, sl c l), (8, sl c l), (9, it ((l.map Ps.enc).length : Int)), (10, it 0)] Ex.ret [(2, bb false)]) (by first | (apply pd_f<;>first|assumption|rfl|(simp at *<;>omega)) | (refine Tri.weak [(0, .keep), (8, .keep), (9, .keep), (10, .keep)] ?_; apply pd_f<;>first|assumption|rfl|(simp at *<;>omega))) zqa))
theorem pdL_0 (c : Option Nat) (l : List Ps) (q : decide ((4096 : Int) < ((l.map Ps.enc).length : Int)) = true) (g0 : decide ((4096 : Int) < ((l.map Ps.enc).length : Int)) = true) : PureC Try.prog 53 [sl c l]  (bb false) :=
 zqj (H := h53) (n := 29) (ans := [.c, .c, .c, .c, .b true, .c]) (base 29 0) Try.func53 rfl (by simp) rfl (by kernel_rfl) (allp g0 zqa)
theorem rgC_0 (c : Option Nat) (t : List Rw) (L : Lp) (hp : PdOk L.pa false) (g0 : (Lp.b L != (0 : Int)) = true) (g1 : (Lp.b L != (1 : Int)) = true) : PureC Try.prog 40 [tsl c t, L.enc]  (bb false) :=
 zqj (H := h40) (n := 31) (ans := [.c, .c, .c, .c, .c, .c, .c, .c, .c, .b true, .c, .b true, .c, .c, .c, .b true, .c, .b true, .c, .b true, .c, .c, .c]) (base 31 0) Try.func40 rfl (by simp) rfl (by kernel_rfl) (allp g0 (allp g0 (allp g0 (allp g0 (allp g1 zqa)))))
theorem rgC_1 (c : Option Nat) (t : List Rw) (L : Lp) (hp : PdOk L.pa false) (g0 : (Lp.b L != (0 : Int)) = true) (g1 : (Lp.b L != (1 : Int)) = false) (g2 : decide ((4 : Int) < (↑(((Lp.th L).map Idd.enc).length) : Int)) = true) : PureC Try.prog 40 [tsl c t, L.enc]  (bb false) :=
 zqj (H := h40) (n := 31) (ans := [.c, .c, .c, .c, .c, .c, .c, .c, .c, .b true, .c, .b true, .c, .c, .c, .b true, .c, .b true, .c, .b false, .c, .c, .c, .c, .c, .c, .c, .b true, .c, .b true, .c, .b true, .c, .b true, .c, .b true, .c, .c, .c, .c, .c]) (base 31 0) Try.func40 rfl (by simp) rfl (by kernel_rfl) (allp g0 (allp g0 (allp g0 (allp g0 (allp g1 (allp g2 (allp g2 (allp g2 (allp g2 (allp g2 zqa))))))))))
theorem rgC_2 (c : Option Nat) (t : List Rw) (L : Lp) (hp : PdOk L.pa false) (g0 : (Lp.b L != (0 : Int)) = true) (g1 : (Lp.b L != (1 : Int)) = false) (g2 : decide ((4 : Int) < (↑(((Lp.th L).map Idd.enc).length) : Int)) = false) : PureC Try.prog 40 [tsl c t, L.enc]  (bb false) :=
 zqj (H := h40) (n := 31) (ans := [.c, .c, .c, .c, .c, .c, .c, .c, .c, .b true, .c, .b true, .c, .c, .c, .b true, .c, .b true, .c, .b false, .c, .c, .c, .c, .c, .c, .c, .b false, .c, .b false, .c, .c, .c, .b false, .r (sl (Lp.cp L) (Lp.pa L)), .r (bb false), .c, .c, .b false, .c, .b false, .c, .c, .c, .c, .c]) (base 31 0) Try.func40 rfl (by simp) rfl (by kernel_rfl) (allp g0 (allp g0 (allp g0 (allp g0 (allp g1 (allp g2 (allp g2 (allp g2 (allp (zra .any (Lp.cp L) (Lp.pa L)) (allp (p := PureC Try.prog 53 [sl (Lp.cp L) (Lp.pa L)] (bb false)) (by apply pdok<;>first|assumption|rfl|(simp at *<;>omega)) (allp g2 (allp g2 zqa))))))))))))
theorem rgC_3 (c : Option Nat) (t : List Rw) (L : Lp) (hp : PdOk L.pa false) (g0 : (Lp.b L != (0 : Int)) = false) (g1 : decide ((4 : Int) < (↑(((Lp.th L).map Idd.enc).length) : Int)) = true) : PureC Try.prog 40 [tsl c t, L.enc]  (bb false) :=
 zqj (H := h40) (n := 31) (ans := [.c, .c, .c, .c, .c, .c, .c, .c, .c, .b false, .c, .b false, .c, .b false, .c, .b false, .c, .c, .c, .c, .c, .c, .c, .c, .c, .b true, .c, .b true, .c, .b true, .c, .b true, .c, .b true, .c, .c, .c, .c, .c]) (base 31 0) Try.func40 rfl (by simp) rfl (by kernel_rfl) (allp g0 (allp g0 (allp g0 (allp g0 (allp g1 (allp g1 (allp g1 (allp g1 (allp g1 zqa)))))))))
theorem rgC_4 (c : Option Nat) (t : List Rw) (L : Lp) (hp : PdOk L.pa false) (g0 : (Lp.b L != (0 : Int)) = false) (g1 : decide ((4 : Int) < (↑(((Lp.th L).map Idd.enc).length) : Int)) = false) : PureC Try.prog 40 [tsl c t, L.enc]  (bb false) :=
 zqj (H := h40) (n := 31) (ans := [.c, .c, .c, .c, .c, .c, .c, .c, .c, .b false, .c, .b false, .c, .b false, .c, .b false, .c, .c, .c, .c, .c, .c, .c, .c, .c, .b false, .c, .b false, .c, .c, .c, .b false, .r (sl (Lp.cp L) (Lp.pa L)), .r (bb false), .c, .c, .b false, .c, .b false, .c, .c, .c, .c, .c]) (base 31 0) Try.func40 rfl (by simp) rfl (by kernel_rfl) (allp g0 (allp g0 (allp g0 (allp g0 (allp g1 (allp g1 (allp g1 (allp (zra .any (Lp.cp L) (Lp.pa L)) (allp (p := PureC Try.prog 53 [sl (Lp.cp L) (Lp.pa L)] (bb false)) (by apply pdok<;>first|assumption|rfl|(simp at *<;>omega)) (allp g1 (allp g1 zqa)))))))))))
theorem rgD_0 (c : Option Nat) (t : List Rw) (L : Lp) (q4 : decide ((4 : Int) < (↑(((Lp.th L).map Idd.enc).length) : Int)) = true) (g0 : (Lp.b L != (0 : Int)) = true) (g1 : (Lp.b L != (1 : Int)) = true) : PureC Try.prog 40 [tsl c t, L.enc]  (bb false) :=
 zqj (H := h40) (n := 31) (ans := [.c, .c, .c, .c, .c, .c, .c, .c, .c, .b true, .c, .b true, .c, .c, .c, .b true, .c, .b true, .c, .b true, .c, .c, .c]) (base 31 0) Try.func40 rfl (by simp) rfl (by kernel_rfl) (allp g0 (allp g0 (allp g0 (allp g0 (allp g1 zqa)))))
theorem rgD_1 (c : Option Nat) (t : List Rw) (L : Lp) (q4 : decide ((4 : Int) < (↑(((Lp.th L).map Idd.enc).length) : Int)) = true) (g0 : (Lp.b L != (0 : Int)) = true) (g1 : (Lp.b L != (1 : Int)) = false) (g2 : decide ((4 : Int) < (↑(((Lp.th L).map Idd.enc).length) : Int)) = true) : PureC Try.prog 40 [tsl c t, L.enc]  (bb false) :=
 zqj (H := h40) (n := 31) (ans := [.c, .c, .c, .c, .c, .c, .c, .c, .c, .b true, .c, .b true, .c, .c, .c, .b true, .c, .b true, .c, .b false, .c, .c, .c, .c, .c, .c, .c, .b true, .c, .b true, .c, .b true, .c, .b true, .c, .b true, .c, .c, .c, .c, .c]) (base 31 0) Try.func40 rfl (by simp) rfl (by kernel_rfl) (allp g0 (allp g0 (allp g0 (allp g0 (allp g1 (allp g2 (allp g2 (allp g2 (allp g2 (allp g2 zqa))))))))))
theorem rgD_2 (c : Option Nat) (t : List Rw) (L : Lp) (q4 : decide ((4 : Int) < (↑(((Lp.th L).map Idd.enc).length) : Int)) = true) (g0 : (Lp.b L != (0 : Int)) = false) (g1 : decide ((4 : Int) < (↑(((Lp.th L).map Idd.enc).length) : Int)) = true) : PureC Try.prog 40 [tsl c t, L.enc]  (bb false) :=
 zqj (H := h40) (n := 31) (ans := [.c, .c, .c, .c, .c, .c, .c, .c, .c, .b false, .c, .b false, .c, .b false, .c, .b false, .c, .c, .c, .c, .c, .c, .c, .c, .c, .b true, .c, .b true, .c, .b true, .c, .b true, .c, .b true, .c, .c, .c, .c, .c]) (base 31 0) Try.func40 rfl (by simp) rfl (by kernel_rfl) (allp g0 (allp g0 (allp g0 (allp g0 (allp g1 (allp g1 (allp g1 (allp g1 (allp g1 zqa)))))))))
theorem rgA_0 (c : Option Nat) (t : List Rw) (L : Lp) (v : Bool) (hp : PdOk L.pa v) (h1 : L.th.length < 2 ^ 60) (h2 : L.pa.length < 2 ^ 60) (hI : okI L) (hn : ∀ p ∈ zqz L, (!hasV t p.y p.n) = false) (g0 : (Lp.b L != (0 : Int)) = true) (g1 : (Lp.b L != (1 : Int)) = true) : PureC Try.prog 40 [tsl c t, L.enc]  (bb false) :=
 zqj (H := h40) (n := 31) (ans := [.c, .c, .c, .c, .c, .c, .c, .c, .c, .b true, .c, .b true, .c, .c, .c, .b true, .c, .b true, .c, .b true, .c, .c, .c]) (base 31 0) Try.func40 rfl (by simp) rfl (by kernel_rfl) (allp g0 (allp g0 (allp g0 (allp g0 (allp g1 zqa)))))
theorem rgA_1 (c : Option Nat) (t : List Rw) (L : Lp) (v : Bool) (hp : PdOk L.pa v) (h1 : L.th.length < 2 ^ 60) (h2 : L.pa.length < 2 ^ 60) (hI : okI L) (hn : ∀ p ∈ zqz L, (!hasV t p.y p.n) = false) (g0 : (Lp.b L != (0 : Int)) = true) (g1 : (Lp.b L != (1 : Int)) = false) (g2 : decide ((4 : Int) < (↑(((Lp.th L).map Idd.enc).length) : Int)) = true) : PureC Try.prog 40 [tsl c t, L.enc]  (bb false) :=
 zqj (H := h40) (n := 31) (ans := [.c, .c, .c, .c, .c, .c, .c, .c, .c, .b true, .c, .b true, .c, .c, .c, .b true, .c, .b true, .c, .b false, .c, .c, .c, .c, .c, .c, .c, .b true, .c, .b true, .c, .b true, .c, .b true, .c, .b true, .c, .c, .c, .c, .c]) (base 31 0) Try.func40 rfl (by simp) rfl (by kernel_rfl) (allp g0 (allp g0 (allp g0 (allp g0 (allp g1 (allp g2 (allp g2 (allp g2 (allp g2 (allp g2 zqa))))))))))
theorem rgA_2 (c : Option Nat) (t : List Rw) (L : Lp) (v : Bool) (hp : PdOk L.pa v) (h1 : L.th.length < 2 ^ 60) (h2 : L.pa.length < 2 ^ 60) (hI : okI L) (hn : ∀ p ∈ zqz L, (!hasV t p.y p.n) = false) (g0 : (Lp.b L != (0 : Int)) = true) (g1 : (Lp.b L != (1 : Int)) = false) (g2 : decide ((4 : Int) < (↑(((Lp.th L).map Idd.enc).length) : Int)) = false) (g3 : (!v) = true) : PureC Try.prog 40 [tsl c t, L.enc]  (bb false) :=
 zqj (H := h40) (n := 31) (ans := [.c, .c, .c, .c, .c, .c, .c, .c, .c, .b true, .c, .b true, .c, .c, .c, .b true, .c, .b true, .c, .b false, .c, .c, .c, .c, .c, .c, .c, .b false, .c, .b false, .c, .c, .c, .b false, .r (sl (Lp.cp L) (Lp.pa L)), .r (bb v), .c, .c, .b false, .c, .b false, .c, .b true, .c, .c, .c]) (base 31 0) Try.func40 rfl (by simp) rfl (by kernel_rfl) (allp g0 (allp g0 (allp g0 (allp g0 (allp g1 (allp g2 (allp g2 (allp g2 (allp (zra .any (Lp.cp L) (Lp.pa L)) (allp (p := PureC Try.prog 53 [sl (Lp.cp L) (Lp.pa L)] (bb v)) (by apply pdok<;>first|assumption|rfl|(simp at *<;>omega)) (allp g2 (allp g2 (allp g3 zqa)))))))))))))
theorem rgA_3 (c : Option Nat) (t : List Rw) (L : Lp) (v : Bool) (hp : PdOk L.pa v) (h1 : L.th.length < 2 ^ 60) (h2 : L.pa.length < 2 ^ 60) (hI : okI L) (hn : ∀ p ∈ zqz L, (!hasV t p.y p.n) = false) (g0 : (Lp.b L != (0 : Int)) = true) (g1 : (Lp.b L != (1 : Int)) = false) (g2 : decide ((4 : Int) < (↑(((Lp.th L).map Idd.enc).length) : Int)) = false) (g3 : (!v) = false) : PureC Try.prog 40 [tsl c t, L.enc]  (bb true) :=
 zqj (H := h40) (n := 31) (ans := [.c, .c, .c, .c, .c, .c, .c, .c, .c, .b true, .c, .b true, .c, .c, .c, .b true, .c, .b true, .c, .b false, .c, .c, .c, .c, .c, .c, .c, .b false, .c, .b false, .c, .c, .c, .b false, .r (sl (Lp.cp L) (Lp.pa L)), .r (bb v), .c, .c, .b false, .c, .b false, .c, .b false, .c, .r (AV.fn 45 [AV.vadr [ub (Lp.b L), bb (Lp.w L), isl (Lp.ct L) (Lp.th L), sl (Lp.cp L) (Lp.pa L)] 0]), .c, .c, .lp Ex.normal [(2, AV.box [tsl c t]), (4, AV.box [bb false])], .c, .c, .c]) (base 31 0) Try.func40 rfl (by simp) rfl (by kernel_rfl) (allp g0 (allp g0 (allp g0 (allp g0 (allp g1 (allp g2 (allp g2 (allp g2 (allp (zra .any (Lp.cp L) (Lp.pa L)) (allp (p := PureC Try.prog 53 [sl (Lp.cp L) (Lp.pa L)] (bb v)) (by apply pdok<;>first|assumption|rfl|(simp at *<;>omega)) (allp g2 (allp g2 (allp g3 (allp (p := PureC Try.prog 32 [view (AV.agg [ub (Lp.b L), bb (Lp.w L), isl (Lp.ct L) (Lp.th L), sl (Lp.cp L) (Lp.pa L)])] (AV.fn 45 [AV.vadr [ub (Lp.b L), bb (Lp.w L), isl (Lp.ct L) (Lp.th L), sl (Lp.cp L) (Lp.pa L)] 0])) (by (first | rw [zqh] | rw [zqg] | skip); apply yb2<;>first|assumption|rfl|(simp at *<;>omega)) (allp (p := Tri Try.prog (cxN (31 : Nat) (0 : Nat)) (yah Try.f40 (0 : Nat)) [(2, AV.box [tsl c t]), (4, AV.box [bb false]), (25, AV.fn 45 [AV.vadr [ub (Lp.b L), bb (Lp.w L), isl (Lp.ct L) (Lp.th L), sl (Lp.cp L) (Lp.pa L)] 0])] Ex.normal [(2, AV.box [tsl c t]), (4, AV.box [bb false])]) (by first | (apply pdok<;>first|assumption|rfl|(simp at *<;>omega)) | (apply yeh<;>first|assumption|rfl|(simp at *<;>omega)) | (refine Tri.weak [(2, .keep), (4, .keep), (25, .keep)] ?_; apply yeh<;>first|assumption|rfl|(simp at *<;>omega)) | (apply yb2<;>first|assumption|rfl|(simp at *<;>omega))) zqa)))))))))))))))
theorem rgA_4 (c : Option Nat) (t : List Rw) (L : Lp) (v : Bool) (hp : PdOk L.pa v) (h1 : L.th.length < 2 ^ 60) (h2 : L.pa.length < 2 ^ 60) (hI : okI L) (hn : ∀ p ∈ zqz L, (!hasV t p.y p.n) = false) (g0 : (Lp.b L != (0 : Int)) = false) (g1 : decide ((4 : Int) < (↑(((Lp.th L).map Idd.enc).length) : Int)) = true) : PureC Try.prog 40 [tsl c t, L.enc]  (bb false) :=
 zqj (H := h40) (n := 31) (ans := [.c, .c, .c, .c, .c, .c, .c, .c, .c, .b false, .c, .b false, .c, .b false, .c, .b false, .c, .c, .c, .c, .c, .c, .c, .c, .c, .b true, .c, .b true, .c, .b true, .c, .b true, .c, .b true, .c, .c, .c, .c, .c]) (base 31 0) Try.func40 rfl (by simp) rfl (by kernel_rfl) (allp g0 (allp g0 (allp g0 (allp g0 (allp g1 (allp g1 (allp g1 (allp g1 (allp g1 zqa)))))))))
theorem rgA_5 (c : Option Nat) (t : List Rw) (L : Lp) (v : Bool) (hp : PdOk L.pa v) (h1 : L.th.length < 2 ^ 60) (h2 : L.pa.length < 2 ^ 60) (hI : okI L) (hn : ∀ p ∈ zqz L, (!hasV t p.y p.n) = false) (g0 : (Lp.b L != (0 : Int)) = false) (g1 : decide ((4 : Int) < (↑(((Lp.th L).map Idd.enc).length) : Int)) = false) (g2 : (!v) = true) : PureC Try.prog 40 [tsl c t, L.enc]  (bb false) :=
 zqj (H := h40) (n := 31) (ans := [.c, .c, .c, .c, .c, .c, .c, .c, .c, .b false, .c, .b false, .c, .b false, .c, .b false, .c, .c, .c, .c, .c, .c, .c, .c, .c, .b false, .c, .b false, .c, .c, .c, .b false, .r (sl (Lp.cp L) (Lp.pa L)), .r (bb v), .c, .c, .b false, .c, .b false, .c, .b true, .c, .c, .c]) (base 31 0) Try.func40 rfl (by simp) rfl (by kernel_rfl) (allp g0 (allp g0 (allp g0 (allp g0 (allp g1 (allp g1 (allp g1 (allp (zra .any (Lp.cp L) (Lp.pa L)) (allp (p := PureC Try.prog 53 [sl (Lp.cp L) (Lp.pa L)] (bb v)) (by apply pdok<;>first|assumption|rfl|(simp at *<;>omega)) (allp g1 (allp g1 (allp g2 zqa))))))))))))
theorem rgA_6 (c : Option Nat) (t : List Rw) (L : Lp) (v : Bool) (hp : PdOk L.pa v) (h1 : L.th.length < 2 ^ 60) (h2 : L.pa.length < 2 ^ 60) (hI : okI L) (hn : ∀ p ∈ zqz L, (!hasV t p.y p.n) = false) (g0 : (Lp.b L != (0 : Int)) = false) (g1 : decide ((4 : Int) < (↑(((Lp.th L).map Idd.enc).length) : Int)) = false) (g2 : (!v) = false) : PureC Try.prog 40 [tsl c t, L.enc]  (bb true) :=
 zqj (H := h40) (n := 31) (ans := [.c, .c, .c, .c, .c, .c, .c, .c, .c, .b false, .c, .b false, .c, .b false, .c, .b false, .c, .c, .c, .c, .c, .c, .c, .c, .c, .b false, .c, .b false, .c, .c, .c, .b false, .r (sl (Lp.cp L) (Lp.pa L)), .r (bb v), .c, .c, .b false, .c, .b false, .c, .b false, .c, .r (AV.fn 45 [AV.vadr [ub (Lp.b L), bb (Lp.w L), isl (Lp.ct L) (Lp.th L), sl (Lp.cp L) (Lp.pa L)] 0]), .c, .c, .lp Ex.normal [(2, AV.box [tsl c t]), (4, AV.box [bb false])], .c, .c, .c]) (base 31 0) Try.func40 rfl (by simp) rfl (by kernel_rfl) (allp g0 (allp g0 (allp g0 (allp g0 (allp g1 (allp g1 (allp g1 (allp (zra .any (Lp.cp L) (Lp.pa L)) (allp (p := PureC Try.prog 53 [sl (Lp.cp L) (Lp.pa L)] (bb v)) (by apply pdok<;>first|assumption|rfl|(simp at *<;>omega)) (allp g1 (allp g1 (allp g2 (allp (p := PureC Try.prog 32 [view (AV.agg [ub (Lp.b L), bb (Lp.w L), isl (Lp.ct L) (Lp.th L), sl (Lp.cp L) (Lp.pa L)])] (AV.fn 45 [AV.vadr [ub (Lp.b L), bb (Lp.w L), isl (Lp.ct L) (Lp.th L), sl (Lp.cp L) (Lp.pa L)] 0])) (by (first | rw [zqh] | rw [zqg] | skip); apply yb2<;>first|assumption|rfl|(simp at *<;>omega)) (allp (p := Tri Try.prog (cxN (31 : Nat) (0 : Nat)) (yah Try.f40 (0 : Nat)) [(2, AV.box [tsl c t]), (4, AV.box [bb false]), (25, AV.fn 45 [AV.vadr [ub (Lp.b L), bb (Lp.w L), isl (Lp.ct L) (Lp.th L), sl (Lp.cp L) (Lp.pa L)] 0])] Ex.normal [(2, AV.box [tsl c t]), (4, AV.box [bb false])]) (by first | (apply pdok<;>first|assumption|rfl|(simp at *<;>omega)) | (apply yeh<;>first|assumption|rfl|(simp at *<;>omega)) | (refine Tri.weak [(2, .keep), (4, .keep), (25, .keep)] ?_; apply yeh<;>first|assumption|rfl|(simp at *<;>omega)) | (apply yb2<;>first|assumption|rfl|(simp at *<;>omega))) zqa))))))))))))))
theorem rgB_0 (c : Option Nat) (t : List Rw) (L : Lp) (hp : PdOk L.pa true) (h1 : L.th.length < 2 ^ 60) (h2 : L.pa.length < 2 ^ 60) (hI : okI L) (pre : List Idd) (x : Idd) (post : List Idd) (hx : zqz L = pre ++ x :: post) (hn : ∀ p ∈ pre, (!hasV t p.y p.n) = false) (hy : (!hasV t x.y x.n) = true) (q4 : decide ((4 : Int) < (↑(((Lp.th L).map Idd.enc).length) : Int)) = false) (g0 : (Lp.b L != (0 : Int)) = true) (g1 : (Lp.b L != (1 : Int)) = true) : PureC Try.prog 40 [tsl c t, L.enc]  (bb false) :=
 zqj (H := h40) (n := 31) (ans := [.c, .c, .c, .c, .c, .c, .c, .c, .c, .b true, .c, .b true, .c, .c, .c, .b true, .c, .b true, .c, .b true, .c, .c, .c]) (base 31 0) Try.func40 rfl (by simp) rfl (by kernel_rfl) (allp g0 (allp g0 (allp g0 (allp g0 (allp g1 zqa)))))
theorem rgB_1 (c : Option Nat) (t : List Rw) (L : Lp) (hp : PdOk L.pa true) (h1 : L.th.length < 2 ^ 60) (h2 : L.pa.length < 2 ^ 60) (hI : okI L) (pre : List Idd) (x : Idd) (post : List Idd) (hx : zqz L = pre ++ x :: post) (hn : ∀ p ∈ pre, (!hasV t p.y p.n) = false) (hy : (!hasV t x.y x.n) = true) (q4 : decide ((4 : Int) < (↑(((Lp.th L).map Idd.enc).length) : Int)) = false) (g0 : (Lp.b L != (0 : Int)) = true) (g1 : (Lp.b L != (1 : Int)) = false) (g2 : decide ((4 : Int) < (↑(((Lp.th L).map Idd.enc).length) : Int)) = false) : PureC Try.prog 40 [tsl c t, L.enc]  (bb false) :=
 zqj (H := h40) (n := 31) (ans := [.c, .c, .c, .c, .c, .c, .c, .c, .c, .b true, .c, .b true, .c, .c, .c, .b true, .c, .b true, .c, .b false, .c, .c, .c, .c, .c, .c, .c, .b false, .c, .b false, .c, .c, .c, .b false, .r (sl (Lp.cp L) (Lp.pa L)), .r (bb true), .c, .c, .b false, .c, .b false, .c, .c, .c, .r (AV.fn 45 [AV.vadr [ub (Lp.b L), bb (Lp.w L), isl (Lp.ct L) (Lp.th L), sl (Lp.cp L) (Lp.pa L)] 0]), .c, .c, .lp Ex.ret [(4, AV.box [bb false])]]) (base 31 0) Try.func40 rfl (by simp) rfl (by kernel_rfl) (allp g0 (allp g0 (allp g0 (allp g0 (allp g1 (allp g2 (allp g2 (allp g2 (allp (zra .any (Lp.cp L) (Lp.pa L)) (allp (p := PureC Try.prog 53 [sl (Lp.cp L) (Lp.pa L)] (bb true)) (by apply pdok<;>first|assumption|rfl|(simp at *<;>omega)) (allp g2 (allp g2 (allp (p := PureC Try.prog 32 [view (AV.agg [ub (Lp.b L), bb (Lp.w L), isl (Lp.ct L) (Lp.th L), sl (Lp.cp L) (Lp.pa L)])] (AV.fn 45 [AV.vadr [ub (Lp.b L), bb (Lp.w L), isl (Lp.ct L) (Lp.th L), sl (Lp.cp L) (Lp.pa L)] 0])) (by (first | rw [zqh] | rw [zqg] | skip); apply yb2<;>first|assumption|rfl|(simp at *<;>omega)) (allp (p := Tri Try.prog (cxN (31 : Nat) (0 : Nat)) (yah Try.f40 (0 : Nat)) [(2, AV.box [tsl c t]), (4, AV.box [bb false]), (25, AV.fn 45 [AV.vadr [ub (Lp.b L), bb (Lp.w L), isl (Lp.ct L) (Lp.th L), sl (Lp.cp L) (Lp.pa L)] 0])] Ex.ret [(4, AV.box [bb false])]) (by first | (apply pdok<;>first|assumption|rfl|(simp at *<;>omega)) | (apply yde<;>first|assumption|rfl|(simp at *<;>omega)) | (refine Tri.weak [(2, .keep), (4, .keep), (25, .keep)] ?_; apply yde<;>first|assumption|rfl|(simp at *<;>omega)) | (apply yb2<;>first|assumption|rfl|(simp at *<;>omega))) zqa))))))))))))))
theorem rgB_2 (c : Option Nat) (t : List Rw) (L : Lp) (hp : PdOk L.pa true) (h1 : L.th.length < 2 ^ 60) (h2 : L.pa.length < 2 ^ 60) (hI : okI L) (pre : List Idd) (x : Idd) (post : List Idd) (hx : zqz L = pre ++ x :: post) (hn : ∀ p ∈ pre, (!hasV t p.y p.n) = false) (hy : (!hasV t x.y x.n) = true) (q4 : decide ((4 : Int) < (↑(((Lp.th L).map Idd.enc).length) : Int)) = false) (g0 : (Lp.b L != (0 : Int)) = false) (g1 : decide ((4 : Int) < (↑(((Lp.th L).map Idd.enc).length) : Int)) = false) : PureC Try.prog 40 [tsl c t, L.enc]  (bb false) :=
 zqj (H := h40) (n := 31) (ans := [.c, .c, .c, .c, .c, .c, .c, .c, .c, .b false, .c, .b false, .c, .b false, .c, .b false, .c, .c, .c, .c, .c, .c, .c, .c, .c, .b false, .c, .b false, .c, .c, .c, .b false, .r (sl (Lp.cp L) (Lp.pa L)), .r (bb true), .c, .c, .b false, .c, .b false, .c, .c, .c, .r (AV.fn 45 [AV.vadr [ub (Lp.b L), bb (Lp.w L), isl (Lp.ct L) (Lp.th L), sl (Lp.cp L) (Lp.pa L)] 0]), .c, .c, .lp Ex.ret [(4, AV.box [bb false])]]) (base 31 0) Try.func40 rfl (by simp) rfl (by kernel_rfl) (allp g0 (allp g0 (allp g0 (allp g0 (allp g1 (allp g1 (allp g1 (allp (zra .any (Lp.cp L) (Lp.pa L)) (allp (p := PureC Try.prog 53 [sl (Lp.cp L) (Lp.pa L)] (bb true)) (by apply pdok<;>first|assumption|rfl|(simp at *<;>omega)) (allp g1 (allp g1 (allp (p := PureC Try.prog 32 [view (AV.agg [ub (Lp.b L), bb (Lp.w L), isl (Lp.ct L) (Lp.th L), sl (Lp.cp L) (Lp.pa L)])] (AV.fn 45 [AV.vadr [ub (Lp.b L), bb (Lp.w L), isl (Lp.ct L) (Lp.th L), sl (Lp.cp L) (Lp.pa L)] 0])) (by (first | rw [zqh] | rw [zqg] | skip); apply yb2<;>first|assumption|rfl|(simp at *<;>omega)) (allp (p := Tri Try.prog (cxN (31 : Nat) (0 : Nat)) (yah Try.f40 (0 : Nat)) [(2, AV.box [tsl c t]), (4, AV.box [bb false]), (25, AV.fn 45 [AV.vadr [ub (Lp.b L), bb (Lp.w L), isl (Lp.ct L) (Lp.th L), sl (Lp.cp L) (Lp.pa L)] 0])] Ex.ret [(4, AV.box [bb false])]) (by first | (apply pdok<;>first|assumption|rfl|(simp at *<;>omega)) | (apply yde<;>first|assumption|rfl|(simp at *<;>omega)) | (refine Tri.weak [(2, .keep), (4, .keep), (25, .keep)] ?_; apply yde<;>first|assumption|rfl|(simp at *<;>omega)) | (apply yb2<;>first|assumption|rfl|(simp at *<;>omega))) zqa)))))))))))))
def ygx (l : List Ps) : Bool := decide (l.length ≤ 4096) && l.all dirB && decide ((nf l).length = l.length)
theorem ywq (c : Option Nat) (l : List Ps) (hl : l.length < 2 ^ 60) : PureC Try.prog 53 [sl c l] (bb (ygx l)) := by
 unfold ygx
 by_cases h : l.all dirB = true
 ·by_cases h4 : l.length ≤ 4096
  ·have q : decide ((4096 : Int) < (((List.map Ps.enc l).length : Nat) : Int)) = false := zlc (by rw [zla]; omega)
   have := pdA_0 c l h4 hl h q q
   rw [zlb h4, h, Bool.true_and, Bool.true_and]
   have e : ((((List.map Ps.enc (nf l)).length : Nat) : Int) == (((List.map Ps.enc l).length : Nat) : Int)) = decide ((nf l).length = l.length) := by
    rw [zla, zla]
    refine Bool.eq_iff_iff.2 ?_
    simp only [beq_iff_eq, decide_eq_true_eq]; omega
   rwa [e] at this
  ·rw [zlc h4, Bool.false_and, Bool.false_and]
   have q : decide ((4096 : Int) < (((List.map Ps.enc l).length : Nat) : Int)) = true := zlb (by rw [zla]; omega)
   exact pdL_0 c l q q
 ·have hf : l.all dirB = false := by simpa using h
  rw [hf, Bool.and_false, Bool.false_and]
  by_cases h4 : l.length ≤ 4096
  ·exact pdB_1 c l hl h (zlc (by rw [zla]; omega))
  ·exact pdB_0 c l hl h (zlb (by rw [zla]; omega))
def yad (t : List Rw) (L : Lp) : Bool := (L.b == 0 || L.b == 1) && decide (L.th.length ≤ 4) && ygx L.pa && (zqz L).all fun p => hasV t p.y p.n
theorem rgC_c (c : Option Nat) (t : List Rw) (L : Lp) (hp : PdOk L.pa false) : PureC Try.prog 40 [tsl c t, L.enc] (bb false) := by
 by_cases hb : L.b = 0
 ·cases h4 : decide ((4 : Int) < (((List.map Idd.enc L.th).length : Nat) : Int)) with
  | true => exact rgC_3 c t L hp (by simp [hb]) h4
  | false => exact rgC_4 c t L hp (by simp [hb]) h4
 ·by_cases hb1 : L.b = 1
  ·cases h4 : decide ((4 : Int) < (((List.map Idd.enc L.th).length : Nat) : Int)) with
   | true => exact rgC_1 c t L hp (by simpa using hb) (by simp [hb1]) h4
   | false => exact rgC_2 c t L hp (by simpa using hb) (by simp [hb1]) h4
  ·exact rgC_0 c t L hp (by simpa using hb) (by simpa using hb1)
theorem rgD_c (c : Option Nat) (t : List Rw) (L : Lp) (h : 4 < L.th.length) : PureC Try.prog 40 [tsl c t, L.enc] (bb false) := by
 have h4 : decide ((4 : Int) < (((List.map Idd.enc L.th).length : Nat) : Int)) = true := zlb (by rw [zla]; omega)
 by_cases hb : L.b = 0
 ·exact rgD_2 c t L h4 (by simp [hb]) h4
 ·by_cases hb1 : L.b = 1
  ·exact rgD_1 c t L h4 (by simpa using hb) (by simp [hb1]) h4
  ·exact rgD_0 c t L h4 (by simpa using hb) (by simpa using hb1)
theorem ysx (c : Option Nat) (t : List Rw) (L : Lp) (h1 : L.th.length < 2 ^ 60) (h2 : L.pa.length < 2 ^ 60) (hI : okI L) : PureC Try.prog 40 [tsl c t, L.enc] (bb (yad t L)) := by
 have hp : PdOk L.pa (ygx L.pa) := fun c => ywq c L.pa h2
 unfold yad
 have b0 : L.b = 0 → (L.b != (0 : Int)) = false := fun h => by simp [h]
 have b1 : L.b ≠ 0 → (L.b != (0 : Int)) = true := fun h => by simpa using h
 have c0 : L.b = 1 → (L.b != (1 : Int)) = false := fun h => by simp [h]
 have c1 : L.b ≠ 1 → (L.b != (1 : Int)) = true := fun h => by simpa using h
 have t1 : 4 < L.th.length → decide ((4 : Int) < (((List.map Idd.enc L.th).length : Nat) : Int)) = true := fun h => zlb (by rw [zla]; omega)
 have t0 : ¬ 4 < L.th.length → decide ((4 : Int) < (((List.map Idd.enc L.th).length : Nat) : Int)) = false := fun h => zlc (by rw [zla]; omega)
 rcases ybo (fun p : Idd => !hasV t p.y p.n) (zqz L) with hn | ⟨pre, x, post, hx, hn, hy⟩
 ·have ha : ((zqz L).all fun p => hasV t p.y p.n) = true := by
   rw [zls]; intro p hp'; have := hn p hp'; simpa using this
  rw [ha, Bool.and_true]
  generalize ygx L.pa = v at *
  by_cases hb : L.b = 0
  ·by_cases h4 : 4 < L.th.length
   ·have := rgA_4 c t L v hp h1 h2 hI hn (b0 hb) (t1 h4)
    rwa [show ((L.b == 0 || L.b == 1) && decide (L.th.length ≤ 4) && v) = false by rw [zlc (by omega)]; simp]
   ·rw [show ((L.b == 0 || L.b == 1) && decide (L.th.length ≤ 4) && v) = v by rw [zlb (by omega)]; simp [hb]]
    cases v with
    | false => exact rgA_5 c t L false hp h1 h2 hI hn (b0 hb) (t0 h4) rfl
    | true => exact rgA_6 c t L true hp h1 h2 hI hn (b0 hb) (t0 h4) rfl
  ·by_cases hb1 : L.b = 1
   ·by_cases h4 : 4 < L.th.length
    ·have := rgA_1 c t L v hp h1 h2 hI hn (b1 hb) (c0 hb1) (t1 h4)
     rwa [show ((L.b == 0 || L.b == 1) && decide (L.th.length ≤ 4) && v) = false by rw [zlc (by omega)]; simp]
    ·rw [show ((L.b == 0 || L.b == 1) && decide (L.th.length ≤ 4) && v) = v by rw [zlb (by omega)]; simp [hb1]]
     cases v with
     | false => exact rgA_2 c t L false hp h1 h2 hI hn (b1 hb) (c0 hb1) (t0 h4) rfl
     | true => exact rgA_3 c t L true hp h1 h2 hI hn (b1 hb) (c0 hb1) (t0 h4) rfl
   ·have := rgA_0 c t L v hp h1 h2 hI hn (b1 hb) (c1 hb1)
    rwa [show ((L.b == 0 || L.b == 1) && decide (L.th.length ≤ 4) && v) = false by simp [hb, hb1]]
 ·have ha : ((zqz L).all fun p => hasV t p.y p.n) = false := by
   rw [List.all_eq_false]; exact ⟨x, by rw [hx]; simp, by simpa using hy⟩
  rw [ha, Bool.and_false]
  cases hv : ygx L.pa with
  | false => exact rgC_c c t L (by rw [← hv]; exact hp)
  | true =>
   rw [hv] at hp
   by_cases h4 : 4 < L.th.length
   ·exact rgD_c c t L h4
   ·by_cases hb : L.b = 0
    ·exact rgB_2 c t L hp h1 h2 hI pre x post hx hn hy (t0 h4) (b0 hb) (t0 h4)
    ·by_cases hb1 : L.b = 1
     ·exact rgB_1 c t L hp h1 h2 hI pre x post hx hn hy (t0 h4) (b1 hb) (c0 hb1) (t0 h4)
     ·exact rgB_0 c t L hp h1 h2 hI pre x post hx hn hy (t0 h4) (b1 hb) (c1 hb1)
theorem ygu (c : Option Nat) (t : List Rw) (b : Int) (w : Bool) (ct cp : Option Nat) (th : List Idd) (pa : List Ps) (h1 : th.length < 2 ^ 60) (h2 : pa.length < 2 ^ 60) (hI : okI ⟨b, w, ct, th, cp, pa⟩) : PureC Try.prog 40 [tsl c t, .agg [ub b, bb w, isl ct th, sl cp pa]] (bb (yad t ⟨b, w, ct, th, cp, pa⟩)) := ysx c t ⟨b, w, ct, th, cp, pa⟩ h1 h2 hI
theorem ara_0 (c : Option Nat) (t : List Rw) (i n : Int) (L : Lp) : Tri Try.prog (cxN 23 3) (zqo Try.f25 0) ([(7, idE i n), (8, L.enc), (1, .box [tsl c t]), (2, .box [bb false])]) .normal ([(1, AV.box [tsl c t]), (2, AV.box [bb false]), (3, AV.box [ub i, it n]), (4, AV.box [ub (Lp.b L), bb (Lp.w L), isl (Lp.ct L) (Lp.th L), sl (Lp.cp L) (Lp.pa L)])]) :=
 ev h25 [.c, .c, .c, .c] zqa
theorem arb_0 (c : Option Nat) (t : List Rw) (i n : Int) (L : Lp) (h1 : L.th.length < 2 ^ 60) (h2 : L.pa.length < 2 ^ 60) (hI : okI L) (g0 : (!yad t { b := Lp.b L, w := Lp.w L, ct := Lp.ct L, th := Lp.th L, cp := Lp.cp L, pa := Lp.pa L }) = true) : Tri Try.prog (cxN 23 3) (zrf Try.f25 0) ([(1, .box [tsl c t]), (2, .box [bb false]), (3, .box [ub i, it n]), (4, .box [ub L.b, bb L.w, isl L.ct L.th, sl L.cp L.pa])]) .ret ([(2, AV.box [bb false])]) :=
 ev h25 [.c, .c, .r (tsl c t), .r (bb (yad t { b := Lp.b L, w := Lp.w L, ct := Lp.ct L, th := Lp.th L, cp := Lp.cp L, pa := Lp.pa L })), .c, .c, .c, .c, .b true, .c, .b true, .c, .b true, .c, .b true, .c, .c, .c, .c, .b true, .c, .b true, .c, .c, .c, .c, .c] (allp (zqg .any c t) (allp (p := PureC Try.prog 40 [tsl c t, view (AV.agg [ub (Lp.b L), bb (Lp.w L), isl (Lp.ct L) (Lp.th L), sl (Lp.cp L) (Lp.pa L)])] (bb (yad t { b := Lp.b L, w := Lp.w L, ct := Lp.ct L, th := Lp.th L, cp := Lp.cp L, pa := Lp.pa L }))) (by (first | rw [zqh] | rw [zqg] | skip); apply ygu<;>first|assumption|rfl|(simp at *<;>omega)) (allp g0 (allp g0 (allp g0 (allp g0 (allp g0 (allp g0 zqa))))))))
theorem arb_1 (c : Option Nat) (t : List Rw) (i n : Int) (L : Lp) (h1 : L.th.length < 2 ^ 60) (h2 : L.pa.length < 2 ^ 60) (hI : okI L) (g0 : (!yad t { b := Lp.b L, w := Lp.w L, ct := Lp.ct L, th := Lp.th L, cp := Lp.cp L, pa := Lp.pa L }) = false) (g1 : (n == (0 : Int)) = true) (g2 : (!Lp.w L) = true) : Tri Try.prog (cxN 23 3) (zrf Try.f25 0) ([(1, .box [tsl c t]), (2, .box [bb false]), (3, .box [ub i, it n]), (4, .box [ub L.b, bb L.w, isl L.ct L.th, sl L.cp L.pa])]) .ret ([(2, AV.box [bb false])]) :=
 ev h25 [.c, .c, .r (tsl c t), .r (bb (yad t { b := Lp.b L, w := Lp.w L, ct := Lp.ct L, th := Lp.th L, cp := Lp.cp L, pa := Lp.pa L })), .c, .c, .c, .c, .b false, .c, .b false, .c, .c, .c, .b false, .c, .b false, .c, .b true, .c, .b true, .c, .c, .c, .b true, .c, .b false, .b true, .c, .b false, .c, .b true, .c, .c, .c] (allp (zqg .any c t) (allp (p := PureC Try.prog 40 [tsl c t, view (AV.agg [ub (Lp.b L), bb (Lp.w L), isl (Lp.ct L) (Lp.th L), sl (Lp.cp L) (Lp.pa L)])] (bb (yad t { b := Lp.b L, w := Lp.w L, ct := Lp.ct L, th := Lp.th L, cp := Lp.cp L, pa := Lp.pa L }))) (by (first | rw [zqh] | rw [zqg] | skip); apply ygu<;>first|assumption|rfl|(simp at *<;>omega)) (allp g0 (allp g0 (allp g0 (allp g0 (allp g1 (allp g1 (allp g1 (allp g0 (allp g1 (allp g0 (allp g2 zqa)))))))))))))
theorem arb_2 (c : Option Nat) (t : List Rw) (i n : Int) (L : Lp) (h1 : L.th.length < 2 ^ 60) (h2 : L.pa.length < 2 ^ 60) (hI : okI L) (g0 : (!yad t { b := Lp.b L, w := Lp.w L, ct := Lp.ct L, th := Lp.th L, cp := Lp.cp L, pa := Lp.pa L }) = false) (g1 : (n == (0 : Int)) = true) (g2 : (!Lp.w L) = false) : Tri Try.prog (cxN 23 3) (zrf Try.f25 0) ([(1, .box [tsl c t]), (2, .box [bb false]), (3, .box [ub i, it n]), (4, .box [ub L.b, bb L.w, isl L.ct L.th, sl L.cp L.pa])]) .normal ([(1, AV.box [tsl c t]), (2, AV.box [bb false]), (22, bb !Lp.w L)]) :=
 ev h25 [.c, .c, .r (tsl c t), .r (bb (yad t { b := Lp.b L, w := Lp.w L, ct := Lp.ct L, th := Lp.th L, cp := Lp.cp L, pa := Lp.pa L })), .c, .c, .c, .c, .b false, .c, .b false, .c, .c, .c, .b false, .c, .b false, .c, .b true, .c, .b true, .c, .c, .c, .b true, .c, .b false, .b true, .c, .b false, .c, .b false] (allp (zqg .any c t) (allp (p := PureC Try.prog 40 [tsl c t, view (AV.agg [ub (Lp.b L), bb (Lp.w L), isl (Lp.ct L) (Lp.th L), sl (Lp.cp L) (Lp.pa L)])] (bb (yad t { b := Lp.b L, w := Lp.w L, ct := Lp.ct L, th := Lp.th L, cp := Lp.cp L, pa := Lp.pa L }))) (by (first | rw [zqh] | rw [zqg] | skip); apply ygu<;>first|assumption|rfl|(simp at *<;>omega)) (allp g0 (allp g0 (allp g0 (allp g0 (allp g1 (allp g1 (allp g1 (allp g0 (allp g1 (allp g0 (allp g2 zqa)))))))))))))
theorem arb_3 (c : Option Nat) (t : List Rw) (i n : Int) (L : Lp) (h1 : L.th.length < 2 ^ 60) (h2 : L.pa.length < 2 ^ 60) (hI : okI L) (g0 : (!yad t { b := Lp.b L, w := Lp.w L, ct := Lp.ct L, th := Lp.th L, cp := Lp.cp L, pa := Lp.pa L }) = false) (g1 : (n == (0 : Int)) = false) : Tri Try.prog (cxN 23 3) (zrf Try.f25 0) ([(1, .box [tsl c t]), (2, .box [bb false]), (3, .box [ub i, it n]), (4, .box [ub L.b, bb L.w, isl L.ct L.th, sl L.cp L.pa])]) .normal ([(1, AV.box [tsl c t]), (2, AV.box [bb false]), (22, bb false)]) :=
 ev h25 [.c, .c, .r (tsl c t), .r (bb (yad t { b := Lp.b L, w := Lp.w L, ct := Lp.ct L, th := Lp.th L, cp := Lp.cp L, pa := Lp.pa L })), .c, .c, .c, .c, .b false, .c, .b false, .c, .c, .c, .b false, .c, .b false, .c, .b false, .c, .b false, .c, .b false, .c, .b false, .b false, .c, .b false, .c, .c] (allp (zqg .any c t) (allp (p := PureC Try.prog 40 [tsl c t, view (AV.agg [ub (Lp.b L), bb (Lp.w L), isl (Lp.ct L) (Lp.th L), sl (Lp.cp L) (Lp.pa L)])] (bb (yad t { b := Lp.b L, w := Lp.w L, ct := Lp.ct L, th := Lp.th L, cp := Lp.cp L, pa := Lp.pa L }))) (by (first | rw [zqh] | rw [zqg] | skip); apply ygu<;>first|assumption|rfl|(simp at *<;>omega)) (allp g0 (allp g0 (allp g0 (allp g0 (allp g1 (allp g1 (allp g1 (allp g0 (allp g1 (allp g0 zqa))))))))))))
def arV (t : List Rw) (x : Idd × Lp) : Bool := yad t x.2 && (x.1.n != 0 || x.2.w)
def OkT (t : List Rw) : Prop := ∀ r ∈ t, ∀ L ∈ r.l, okI L ∧ L.th.length < 2 ^ 60 ∧ L.pa.length < 2 ^ 60
theorem ypq (i : Nat) (R : List Lp) (x : Idd × Lp) (h : x ∈ rowL i R) : x.2 ∈ R := by
 unfold rowL at h
 obtain ⟨q, hq, rfl⟩ := List.mem_map.1 h
 exact List.fst_mem_of_mem_zipIdx hq
theorem yfm : ∀ (t : List Rw) (i : Nat) (x : Idd × Lp), x ∈ yai i t → ∃ r ∈ t, x.2 ∈ r.l
 | [], i, x, h => by simp [yai] at h
 | r :: t, i, x, h => by
  rw [yai, List.mem_append] at h
  rcases h with h | h
  ·exact ⟨r, by simp, ypq i r.l x h⟩
  ·obtain ⟨q, hq, hx⟩ := yfm t (i + 1) x h
   exact ⟨q, by simp [hq], hx⟩
theorem OkT.all {t : List Rw} (h : OkT t) {x : Idd × Lp} (hx : x ∈ allT t) : okI x.2 ∧ x.2.th.length < 2 ^ 60 ∧ x.2.pa.length < 2 ^ 60 := by
 obtain ⟨r, hr, hq⟩ := yfm _ 0 x hx
 exact h r (List.mem_of_mem_take hr) _ hq
theorem yoy : yah Try.f25 0 = .rangeFunc (.tmp 6) #[7, 8] (zqo Try.f25 0) (zrf Try.f25 0) := by kernel_rfl
abbrev aE' (c : Option Nat) (t : List Rw) : Env := [(1, .box [tsl c t]), (2, .box [bb false])]
theorem yk2 (c : Option Nat) (t : List Rw) (x : Idd × Lp) (hx : okI x.2 ∧ x.2.th.length < 2 ^ 60 ∧ x.2.pa.length < 2 ^ 60) (h : (!arV t x) = false) : ∃ E1, Tri Try.prog (cxN 23 3) (zqo Try.f25 0) ((#[7, 8] : Array Tmp).toList.zip (ydf x) ++ aE' c t) .normal E1 ∧ Tri Try.prog (cxN 23 3) (zrf Try.f25 0) E1 .normal (aE' c t) := by
 have h' : yad t x.2 = true ∧ (x.1.n != 0 || x.2.w) = true := by unfold arV at h; rw [Bool.not_eq_false', zlo] at h; exact h
 refine ⟨_, ara_0 c t x.1.y x.1.n x.2, ?_⟩
 have g0 : (!yad t { b := x.2.b, w := x.2.w, ct := x.2.ct, th := x.2.th, cp := x.2.cp, pa := x.2.pa }) = false := by show (!yad t x.2) = false; rw [h'.1]; rfl
 by_cases hn : x.1.n = 0
 ·have hw : x.2.w = true := by simpa [hn] using h'.2
  exact Tri.after [(1, .keep), (2, .keep)] (arb_2 c t x.1.y x.1.n x.2 hx.2.1 hx.2.2 hx.1 g0 (by simp [hn]) (by simp [hw]))
 ·exact Tri.after [(1, .keep), (2, .keep)] (arb_3 c t x.1.y x.1.n x.2 hx.2.1 hx.2.2 hx.1 g0 (by simpa using hn))
theorem yu9 (c : Option Nat) (t : List Rw) (x : Idd × Lp) (hx : okI x.2 ∧ x.2.th.length < 2 ^ 60 ∧ x.2.pa.length < 2 ^ 60) (h : (!arV t x) = true) : ∃ E1, Tri Try.prog (cxN 23 3) (zqo Try.f25 0) ((#[7, 8] : Array Tmp).toList.zip (ydf x) ++ aE' c t) .normal E1 ∧ Tri Try.prog (cxN 23 3) (zrf Try.f25 0) E1 .ret [(2, .box [bb false])] := by
 refine ⟨_, ara_0 c t x.1.y x.1.n x.2, ?_⟩
 cases hr : yad t x.2 with
 | false => exact arb_0 c t x.1.y x.1.n x.2 hx.2.1 hx.2.2 hx.1 (by show (!yad t x.2) = true; rw [hr]; rfl)
 | true =>
  have h' : x.1.n = 0 ∧ x.2.w = false := by
   have : arV t x = false := by simpa using h
   simpa [arV, hr] using this
  exact arb_1 c t x.1.y x.1.n x.2 hx.2.1 hx.2.2 hx.1 (by show (!yad t x.2) = false; rw [hr]; rfl) (by simp [h'.1]) (by simp [h'.2])
section
variable (c : Option Nat) (t : List Rw) (ht : t.length < 2 ^ 60) (hr : ∀ r ∈ t, r.l.length < 2 ^ 60) (hO : OkT t)
include ht hr hO
theorem ar_no (hn : ∀ x ∈ allT t, (!arV t x) = false) : Tri Try.prog (cxN 23 0) (yah Try.f25 0) [(1, .box [tsl c t]), (2, .box [bb false]), (6, .fn 51 [tbx c t])] .normal (aE' c t) := by
 rw [yoy]
 exact Tri.rangeAll (P := Try.prog) (cx := cxN 23 0) rfl (t := 6) (ps := #[7, 8]) (c1 := zqo Try.f25 0) (c2 := zrf Try.f25 0) [(1, .keep), (2, .keep)] rfl (yck c t) (allT t) ydf (ylt c t ht hr) 3 (by omega)
  ⟨by decide, by decide⟩ (fun x => rfl) (fun pre => aE' c t) [] rfl (fun pre => .cons (by omega) rfl (.cons (by omega) rfl .nil)) (fun pre t x h => ybs h) .nil (fun pre x post hx => yk2 c t x (hO.all (by rw [hx]; simp)) (hn x (by rw [hx]; simp)))
theorem yr9 (pre : List (Idd × Lp)) (x : Idd × Lp) (post : List (Idd × Lp)) (hx : allT t = pre ++ x :: post) (hn : ∀ p ∈ pre, (!arV t p) = false) (hy : (!arV t x) = true) :
  Tri Try.prog (cxN 23 0) (yah Try.f25 0) [(1, .box [tsl c t]), (2, .box [bb false]), (6, .fn 51 [tbx c t])] .ret [(2, .box [bb false])] := by
 rw [yoy]
 exact Tri.rangeStop (P := Try.prog) (cx := cxN 23 0) rfl (t := 6) (ps := #[7, 8]) (c1 := zqo Try.f25 0) (c2 := zrf Try.f25 0) [(1, .keep), (2, .keep)] rfl (yck c t) (allT t) ydf (ylt c t ht hr) 3 (by omega)
  ⟨by decide, by decide⟩ (fun x => rfl) (fun pre => aE' c t) [] rfl (fun pre => .cons (by omega) rfl (.cons (by omega) rfl .nil)) (fun pre t x h => ybs h) .nil pre x post hx
  (fun pre' y post' he => yk2 c t y (hO.all (by rw [hx, he]; simp)) (hn y (by rw [he]; simp))) (by simp) (.cons (by omega) rfl .nil) (yu9 c t x (hO.all (by rw [hx]; simp)) hy)
end
theorem arA_0 (c : Option Nat) (t : List Rw) (ht : t.length < 2 ^ 60) (hr : ∀ r ∈ t, r.l.length < 2 ^ 60) (hO : OkT t) (hn : ∀ x ∈ allT t, (!arV t x) = false) : PureC Try.prog 25 [tsl c t]  (bb true) :=
 zqj (H := h25) (n := 23) (ans := [.c, .c, .c, .r (tsl c t), .r (AV.fn 51 [AV.vadr [tsl c t] 0]), .c, .c, .lp Ex.normal [(1, AV.box [tsl c t]), (2, AV.box [bb false])], .c, .c, .c]) (base 23 0) Try.func25 rfl (by simp) rfl (by kernel_rfl) (allp (zqg .any c t) (allp (p := PureC Try.prog 37 [tsl c t] (AV.fn 51 [AV.vadr [tsl c t] 0])) (by apply yhi<;>first|assumption|rfl|(simp at *<;>omega)) (allp (p := Tri Try.prog (cxN (23 : Nat) (0 : Nat)) (yah Try.f25 (0 : Nat)) [(1, AV.box [tsl c t]), (2, AV.box [bb false]), (6, AV.fn 51 [AV.vadr [tsl c t] 0])] Ex.normal [(1, AV.box [tsl c t]), (2, AV.box [bb false])]) (by first | (apply yhi<;>first|assumption|rfl|(simp at *<;>omega)) | (apply ar_no<;>first|assumption|rfl|(simp at *<;>omega)) | (refine Tri.weak [(1, .keep), (2, .keep), (6, .keep)] ?_; apply ar_no<;>first|assumption|rfl|(simp at *<;>omega))) zqa)))
theorem arB_0 (c : Option Nat) (t : List Rw) (ht : t.length < 2 ^ 60) (hr : ∀ r ∈ t, r.l.length < 2 ^ 60) (hO : OkT t) (pre : List (Idd × Lp)) (x : Idd × Lp) (post : List (Idd × Lp)) (hx : allT t = pre ++ x :: post) (hn : ∀ p ∈ pre, (!arV t p) = false) (hy : (!arV t x) = true) : PureC Try.prog 25 [tsl c t]  (bb false) :=
 zqj (H := h25) (n := 23) (ans := [.c, .c, .c, .r (tsl c t), .r (AV.fn 51 [AV.vadr [tsl c t] 0]), .c, .c, .lp Ex.ret [(2, AV.box [bb false])]]) (base 23 0) Try.func25 rfl (by simp) rfl (by kernel_rfl) (allp (zqg .any c t) (allp (p := PureC Try.prog 37 [tsl c t] (AV.fn 51 [AV.vadr [tsl c t] 0])) (by apply yhi<;>first|assumption|rfl|(simp at *<;>omega)) (allp (p := Tri Try.prog (cxN (23 : Nat) (0 : Nat)) (yah Try.f25 (0 : Nat)) [(1, AV.box [tsl c t]), (2, AV.box [bb false]), (6, AV.fn 51 [AV.vadr [tsl c t] 0])] Ex.ret [(2, AV.box [bb false])]) (by first | (apply yhi<;>first|assumption|rfl|(simp at *<;>omega)) | (apply yr9<;>first|assumption|rfl|(simp at *<;>omega)) | (refine Tri.weak [(1, .keep), (2, .keep), (6, .keep)] ?_; apply yr9<;>first|assumption|rfl|(simp at *<;>omega))) zqa)))
theorem yq0 (c : Option Nat) (t : List Rw) (ht : t.length < 2 ^ 60) (hr : ∀ r ∈ t, r.l.length < 2 ^ 60) (hO : OkT t) : PureC Try.prog 25 [tsl c t] (bb ((allT t).all (arV t))) := by
 rcases ybo (fun x : Idd × Lp => !arV t x) (allT t) with hn | ⟨pre, x, post, hx, hn, hy⟩
 ·rw [show (allT t).all (arV t) = true by rw [zls]; intro x hx; simpa using hn x hx]
  exact arA_0 c t ht hr hO hn
 ·rw [show (allT t).all (arV t) = false by rw [List.all_eq_false]; exact ⟨x, by rw [hx]; simp, by simpa using hy⟩]
  exact arB_0 c t ht hr hO pre x post hx hn hy
abbrev frL (b : Int) (w : Bool) (th : List Idd) (pa : List Ps) : AV := .agg [ub b, bb w, .sl .fresh 36 (some th.length) (th.map Idd.enc), .sl .fresh 56 (some pa.length) (pa.map Ps.enc)]
theorem yqs (b : Int) (w : Bool) (ct cp : Option Nat) (th : List Idd) (pa : List Ps) (h1 : th.length ≤ 4294967296) (h2 : pa.length ≤ 4294967296) : PureC Try.prog 29 [.agg [ub b, bb w, isl ct th, sl cp pa]] (frL b w th pa) := by
 have h := yqt ⟨b, w, ct, th, cp, pa⟩ h1 h2 (by rw [ycf, yc5])
 exact h
theorem conA_0 (ca : Option Nat) (a : List Idd) (p : Idd) (hA : a.length < 2 ^ 62) (j : Nat) (h : ixF a p a.length 0 = some j) : PureC Try.prog 38 [isl ca a, .agg [ub p.y, it p.n]]  (bb (decide ((0 : Int) ≤ (↑j : Int)))) :=
 zqj (H := h38) (n := 9) (ans := [.c, .c, .c, .c, .r (isl ca a), .r (it (↑j : Int)), .c, .c, .c, .c]) (base 9 0) Try.func38 rfl (by simp) rfl (by kernel_rfl) (allp (zrb .any ca a) (allp (p := PureC Try.prog 52 [isl ca a, Idd.enc p] (it (↑j : Int))) (by apply ixA_0<;>first|assumption|rfl|(simp at *<;>omega)) zqa))
theorem yz9 (ca : Option Nat) (a : List Idd) (p : Idd) (hA : a.length < 2 ^ 62) (h : ixF a p a.length 0 = none) : PureC Try.prog 38 [isl ca a, .agg [ub p.y, it p.n]]  (bb (decide ((0 : Int) ≤ (-1 : Int)))) :=
 zqj (H := h38) (n := 9) (ans := [.c, .c, .c, .c, .r (isl ca a), .r (it (-1)), .c, .c, .c, .c]) (base 9 0) Try.func38 rfl (by simp) rfl (by kernel_rfl) (allp (zrb .any ca a) (allp (p := PureC Try.prog 52 [isl ca a, Idd.enc p] (it (-1))) (by apply ixB_0<;>first|assumption|rfl|(simp at *<;>omega)) zqa))
theorem yz7 (ca : Option Nat) (a : List Idd) (p : Idd) (hA : a.length < 2 ^ 62) : PureC Try.prog 38 [isl ca a, .agg [ub p.y, it p.n]] (bb (ixF a p a.length 0).isSome) := by
 cases h : ixF a p a.length 0 with
 | none => exact yz9 ca a p hA h
 | some j => have := conA_0 ca a p hA j h; rwa [show decide ((0 : Int) ≤ (j : Int)) = true from zlb (by omega)] at this
def atV (t : List Rw) (y n : Int) : Lp := (t.getD (y - 1).toNat default).l.getD n.toNat default
theorem ygj {y : Int} (h0 : 1 ≤ y) (h1 : y ≤ 255) : IntKind.wrap u8 (y - 1) = y - 1 := by
 show Int.emod (y - 1) 256 = y - 1
 exact Int.emod_eq_of_lt (by omega) (by omega)
theorem ye8 {t : List Rw} {y n : Int} (h : hasV t y n = true) : 1 ≤ y ∧ y ≤ t.length ∧ 0 ≤ n ∧ n < (t.getD (y - 1).toNat default).l.length := by
 unfold hasV at h
 simpa [zlo, and_assoc] using h
theorem yu6 {t : List Rw} {y n : Int} (h : hasV t y n = true) : ∃ r ∈ t, atV t y n ∈ r.l := by
 obtain ⟨a, b, c, d⟩ := ye8 h
 refine ⟨t.getD (y - 1).toNat default, ?_, ?_⟩
 ·rw [zld, zle (by omega)]; exact zlu _
 ·unfold atV
  rw [zld (i := n.toNat), zle (by omega)]; exact zlu _
theorem aba_0 (p : Idd) (i n : Int) (L : Lp) : Tri Try.prog (cxN 18 6) (zqo Try.f20 0) ([(10, idE i n), (11, L.enc), (3, .box [ub p.y, it p.n]), (4, .box [ub 0, it 0]), (5, .box [bb false])]) .normal ([(3, AV.box [ub (Idd.y p), it (Idd.n p)]), (4, AV.box [ub 0, it 0]), (5, AV.box [bb false]), (6, AV.box [ub i, it n]), (7, AV.box [ub (Lp.b L), bb (Lp.w L), isl (Lp.ct L) (Lp.th L), sl (Lp.cp L) (Lp.pa L)])]) :=
 ev h20 [.c, .c, .c, .c] zqa
theorem abb_0 (p : Idd) (i n : Int) (L : Lp) (h1 : L.th.length < 2 ^ 62) (g0 : Option.isSome (ixF (Lp.th L) p ((Lp.th L).length) (0 : Nat)) = true) : Tri Try.prog (cxN 18 6) (zrf Try.f20 0) ([(3, .box [ub p.y, it p.n]), (4, .box [ub 0, it 0]), (5, .box [bb false]), (6, .box [ub i, it n]), (7, .box [ub L.b, bb L.w, isl L.ct L.th, sl L.cp L.pa])]) .ret ([(4, AV.box [ub i, it n]), (5, AV.box [bb true])]) :=
 ev h20 [.c, .c, .c, .c, .c, .r (isl (Lp.ct L) (Lp.th L)), .r (bb (Option.isSome (ixF (Lp.th L) p ((Lp.th L).length) (0 : Nat)))), .c, .c, .b true, .c, .c, .c, .c, .c] (allp (zrb .any (Lp.ct L) (Lp.th L)) (allp (p := PureC Try.prog 38 [isl (Lp.ct L) (Lp.th L), Idd.enc p] (bb (Option.isSome (ixF (Lp.th L) p ((Lp.th L).length) (0 : Nat))))) (by apply yz7<;>first|assumption|rfl|(simp at *<;>omega)) (allp g0 zqa)))
theorem abb_1 (p : Idd) (i n : Int) (L : Lp) (h1 : L.th.length < 2 ^ 62) (g0 : Option.isSome (ixF (Lp.th L) p ((Lp.th L).length) (0 : Nat)) = false) : Tri Try.prog (cxN 18 6) (zrf Try.f20 0) ([(3, .box [ub p.y, it p.n]), (4, .box [ub 0, it 0]), (5, .box [bb false]), (6, .box [ub i, it n]), (7, .box [ub L.b, bb L.w, isl L.ct L.th, sl L.cp L.pa])]) .normal ([(3, AV.box [ub (Idd.y p), it (Idd.n p)]), (4, AV.box [ub 0, it 0]), (5, AV.box [bb false]), (6, AV.box [ub i, it n]), (15, bb (Option.isSome (ixF (Lp.th L) p ((Lp.th L).length) (0 : Nat))))]) :=
 ev h20 [.c, .c, .c, .c, .c, .r (isl (Lp.ct L) (Lp.th L)), .r (bb (Option.isSome (ixF (Lp.th L) p ((Lp.th L).length) (0 : Nat)))), .c, .c, .b false] (allp (zrb .any (Lp.ct L) (Lp.th L)) (allp (p := PureC Try.prog 38 [isl (Lp.ct L) (Lp.th L), Idd.enc p] (bb (Option.isSome (ixF (Lp.th L) p ((Lp.th L).length) (0 : Nat))))) (by apply yz7<;>first|assumption|rfl|(simp at *<;>omega)) (allp g0 zqa)))
def inV (a : List Idd) (p : Idd) : Bool := (ixF a p a.length 0).isSome
theorem yk6 : yah Try.f20 0 = .rangeFunc (.tmp 9) #[10, 11] (zqo Try.f20 0) (zrf Try.f20 0) := by kernel_rfl
abbrev bE (p : Idd) : Env := [(3, .box [ub p.y, it p.n]), (4, .box [ub 0, it 0]), (5, .box [bb false])]
theorem yk7 (p : Idd) (x : Idd × Lp) (hx : x.2.th.length < 2 ^ 62) (h : inV x.2.th p = false) : ∃ E1, Tri Try.prog (cxN 18 6) (zqo Try.f20 0) ((#[10, 11] : Array Tmp).toList.zip (ydf x) ++ bE p) .normal E1 ∧ Tri Try.prog (cxN 18 6) (zrf Try.f20 0) E1 .normal (bE p) :=
 ⟨_, aba_0 p x.1.y x.1.n x.2, Tri.after [(3, .keep), (4, .keep), (5, .keep)] (abb_1 p x.1.y x.1.n x.2 hx h)⟩
theorem yvd (p : Idd) (x : Idd × Lp) (hx : x.2.th.length < 2 ^ 62) (h : inV x.2.th p = true) : ∃ E1, Tri Try.prog (cxN 18 6) (zqo Try.f20 0) ((#[10, 11] : Array Tmp).toList.zip (ydf x) ++ bE p) .normal E1 ∧ Tri Try.prog (cxN 18 6) (zrf Try.f20 0) E1 .ret [(4, .box [ub x.1.y, it x.1.n]), (5, .box [bb true])] :=
 ⟨_, aba_0 p x.1.y x.1.n x.2, Tri.after [(4, .keep), (5, .keep)] (abb_0 p x.1.y x.1.n x.2 hx h)⟩
section
variable (c : Option Nat) (t : List Rw) (p : Idd) (ht : t.length < 2 ^ 60) (hr : ∀ r ∈ t, r.l.length < 2 ^ 60) (hO : OkT t)
include ht hr hO
theorem ab_no (hn : ∀ x ∈ allT t, inV x.2.th p = false) : Tri Try.prog (cxN 18 0) (yah Try.f20 0) [(3, .box [ub p.y, it p.n]), (4, .box [ub 0, it 0]), (5, .box [bb false]), (9, .fn 51 [tbx c t])] .normal (bE p) := by
 rw [yk6]
 exact Tri.rangeAll (P := Try.prog) (cx := cxN 18 0) rfl (t := 9) (ps := #[10, 11]) (c1 := zqo Try.f20 0) (c2 := zrf Try.f20 0) [(3, .keep), (4, .keep), (5, .keep)] rfl (yck c t) (allT t) ydf (ylt c t ht hr) 6 (by omega)
  ⟨by decide, by decide⟩ (fun x => rfl) (fun pre => bE p) [] rfl (fun pre => .cons (by omega) rfl (.cons (by omega) rfl (.cons (by omega) rfl .nil))) (fun pre t x h => ybs h) .nil (fun pre x post hx => yk7 p x (by have := (hO.all (x := x) (by rw [hx]; simp)).2.1; omega) (hn x (by rw [hx]; simp)))
theorem ysb (pre : List (Idd × Lp)) (x : Idd × Lp) (post : List (Idd × Lp)) (hx : allT t = pre ++ x :: post) (hn : ∀ q ∈ pre, inV q.2.th p = false) (hy : inV x.2.th p = true) :
  Tri Try.prog (cxN 18 0) (yah Try.f20 0) [(3, .box [ub p.y, it p.n]), (4, .box [ub 0, it 0]), (5, .box [bb false]), (9, .fn 51 [tbx c t])] .ret [(4, .box [ub x.1.y, it x.1.n]), (5, .box [bb true])] := by
 rw [yk6]
 exact Tri.rangeStop (P := Try.prog) (cx := cxN 18 0) rfl (t := 9) (ps := #[10, 11]) (c1 := zqo Try.f20 0) (c2 := zrf Try.f20 0) [(3, .keep), (4, .keep), (5, .keep)] rfl (yck c t) (allT t) ydf (ylt c t ht hr) 6 (by omega)
  ⟨by decide, by decide⟩ (fun x => rfl) (fun pre => bE p) [] rfl (fun pre => .cons (by omega) rfl (.cons (by omega) rfl (.cons (by omega) rfl .nil))) (fun pre t x h => ybs h) .nil pre x post hx
  (fun pre' y post' he => yk7 p y (by have := (hO.all (x := y) (by rw [hx, he]; simp)).2.1; omega) (hn y (by rw [he]; simp))) (by simp) (.cons (by omega) rfl (.cons (by omega) rfl .nil)) (yvd p x (by have := (hO.all (x := x) (by rw [hx]; simp)).2.1; omega) hy)
end
theorem abA_0 (c : Option Nat) (t : List Rw) (p : Idd) (ht : t.length < 2 ^ 60) (hr : ∀ r ∈ t, r.l.length < 2 ^ 60) (hO : OkT t) (hn : ∀ x ∈ allT t, inV x.2.th p = false) : PureC Try.prog 20 [tsl c t, .agg [ub p.y, it p.n]]  (AV.tup [AV.agg [ub 0, it 0], bb false]) :=
 zqj (H := h20) (n := 18) (ans := [.c, .c, .c, .c, .r (tsl c t), .r (AV.fn 51 [AV.vadr [tsl c t] 0]), .c, .c, .lp Ex.normal [(3, AV.box [ub (Idd.y p), it (Idd.n p)]), (4, AV.box [ub 0, it 0]), (5, AV.box [bb false])], .c, .c, .c, .c, .c]) (base 18 0) Try.func20 rfl (by simp) rfl (by kernel_rfl) (allp (zqg .any c t) (allp (p := PureC Try.prog 37 [tsl c t] (AV.fn 51 [AV.vadr [tsl c t] 0])) (by apply yhi<;>first|assumption|rfl|(simp at *<;>omega)) (allp (p := Tri Try.prog (cxN (18 : Nat) (0 : Nat)) (yah Try.f20 (0 : Nat)) [(3, AV.box [ub (Idd.y p), it (Idd.n p)]), (4, AV.box [ub 0, it 0]), (5, AV.box [bb false]), (9, AV.fn 51 [AV.vadr [tsl c t] 0])] Ex.normal [(3, AV.box [ub (Idd.y p), it (Idd.n p)]), (4, AV.box [ub 0, it 0]), (5, AV.box [bb false])]) (by first | (apply yhi<;>first|assumption|rfl|(simp at *<;>omega)) | (apply ab_no<;>first|assumption|rfl|(simp at *<;>omega)) | (refine Tri.weak [(3, .keep), (4, .keep), (5, .keep), (9, .keep)] ?_; apply ab_no<;>first|assumption|rfl|(simp at *<;>omega))) zqa)))
theorem abB_0 (c : Option Nat) (t : List Rw) (p : Idd) (ht : t.length < 2 ^ 60) (hr : ∀ r ∈ t, r.l.length < 2 ^ 60) (hO : OkT t) (pre : List (Idd × Lp)) (x : Idd × Lp) (post : List (Idd × Lp)) (hx : allT t = pre ++ x :: post) (hn : ∀ q ∈ pre, inV q.2.th p = false) (hy : inV x.2.th p = true) : PureC Try.prog 20 [tsl c t, .agg [ub p.y, it p.n]]  (AV.tup [AV.agg [ub (Idd.y (Prod.fst x)), it (Idd.n (Prod.fst x))], bb true]) :=
 zqj (H := h20) (n := 18) (ans := [.c, .c, .c, .c, .r (tsl c t), .r (AV.fn 51 [AV.vadr [tsl c t] 0]), .c, .c, .lp Ex.ret [(4, AV.box [ub (Idd.y (Prod.fst x)), it (Idd.n (Prod.fst x))]), (5, AV.box [bb true])]]) (base 18 0) Try.func20 rfl (by simp) rfl (by kernel_rfl) (allp (zqg .any c t) (allp (p := PureC Try.prog 37 [tsl c t] (AV.fn 51 [AV.vadr [tsl c t] 0])) (by apply yhi<;>first|assumption|rfl|(simp at *<;>omega)) (allp (p := Tri Try.prog (cxN (18 : Nat) (0 : Nat)) (yah Try.f20 (0 : Nat)) [(3, AV.box [ub (Idd.y p), it (Idd.n p)]), (4, AV.box [ub 0, it 0]), (5, AV.box [bb false]), (9, AV.fn 51 [AV.vadr [tsl c t] 0])] Ex.ret [(4, AV.box [ub (Idd.y (Prod.fst x)), it (Idd.n (Prod.fst x))]), (5, AV.box [bb true])]) (by first | (apply yhi<;>first|assumption|rfl|(simp at *<;>omega)) | (apply ysb<;>first|assumption|rfl|(simp at *<;>omega)) | (refine Tri.weak [(3, .keep), (4, .keep), (5, .keep), (9, .keep)] ?_; apply ysb<;>first|assumption|rfl|(simp at *<;>omega))) zqa)))
def ysa (t : List Rw) (p : Idd) : AV := match (allT t).find? fun x => inV x.2.th p with
 | some x => .tup [idE x.1.y x.1.n, bb true]
 | none => .tup [idE 0 0, bb false]
theorem yo3 (c : Option Nat) (t : List Rw) (y n : Int) (ht : t.length < 2 ^ 60) (hr : ∀ r ∈ t, r.l.length < 2 ^ 60) (hO : OkT t) : PureC Try.prog 20 [tsl c t, .agg [ub y, it n]] (ysa t ⟨y, n⟩) := by
 unfold ysa
 rcases ybo (fun x : Idd × Lp => inV x.2.th ⟨y, n⟩) (allT t) with hn | ⟨pre, x, post, hx, hn, hy⟩
 ·rw [show (allT t).find? (fun x => inV x.2.th ⟨y, n⟩) = none by rw [List.find?_eq_none]; intro x hx; simpa using hn x hx]
  exact abA_0 c t ⟨y, n⟩ ht hr hO hn
 ·rw [show (allT t).find? (fun x => inV x.2.th ⟨y, n⟩) = some x by rw [hx, List.find?_append, List.find?_eq_none.2 (fun q hq => by simpa using hn q hq), List.find?_cons_of_pos (p := fun x : Idd × Lp => inV x.2.th ⟨y, n⟩) hy]; rfl]
  exact abB_0 c t ⟨y, n⟩ ht hr hO pre x post hx hn hy
def cmpI (a b : Int) : Int := if a < b then -1 else if b < a then 1 else 0
def orV (a b : Int) : Int := if a ≠ 0 then a else b
theorem cmp8_c (a b : Int) : PureC Try.prog 49 [ub a, ub b] (it (cmpI a b)) := by
 unfold cmpI
 by_cases h : a < b
 ·rw [if_pos h]; exact cmp8_0 a b (zlb h)
 ·rw [if_neg h]
  by_cases h2 : b < a
  ·rw [if_pos h2]; exact cmp8_1 a b (zlc h) (zlb h2)
  ·rw [if_neg h2]; exact cmp8_2 a b (zlc h) (zlc h2)
theorem yum (a b : Int) : PureC Try.prog 50 [it a, it b] (it (cmpI a b)) := by
 unfold cmpI
 by_cases h : a < b
 ·rw [if_pos h]; exact yup a b (zlb h)
 ·rw [if_neg h]
  by_cases h2 : b < a
  ·rw [if_pos h2]; exact yuo a b (zlc h) (zlb h2)
  ·rw [if_neg h2]; exact yun a b (zlc h) (zlc h2)
theorem or_c (a b : Int) : PureC Try.prog 48 [.sl .any 3 (some 2) [it a, it b]] (it (orV a b)) := by
 unfold orV
 by_cases h : a ≠ 0 ∨ b ≠ 0
 ·exact orA_0 a b h
 ·have ha : a = 0 := by omega
  have hb : b = 0 := by omega
  subst ha hb
  exact orB_0 0 0 (by simp)
theorem yon (y n z m : Int) : PureC Try.prog 34 [idE y n, idE z m]  (it (orV (cmpI y z) (cmpI n m))) :=
 zqj (H := h34) (n := 17) (ans := [.c, .c, .c, .c, .c, .c, .c, .c, .c, .c, .c, .r (it (cmpI y z)), .c, .c, .c, .c, .c, .c, .c, .c, .c, .c, .r (it (cmpI n m)), .c, .c, .c, .c, .r (it (orV (cmpI y z) (cmpI n m))), .c, .c, .c]) (base 17 0) Try.func34 rfl (by simp) rfl (by kernel_rfl) (allp (p := PureC Try.prog 49 [ub y, ub z] (it (cmpI y z))) (by apply cmp8_c<;>first|assumption|rfl|(simp at *<;>omega)) (allp (p := PureC Try.prog 50 [it n, it m] (it (cmpI n m))) (by apply yum<;>first|assumption|rfl|(simp at *<;>omega)) (allp (p := PureC Try.prog 48 [AV.sl .any 3 (some 2) [it (cmpI y z), it (cmpI n m)]] (it (orV (cmpI y z) (cmpI n m)))) (by apply or_c<;>first|assumption|rfl|(simp at *<;>omega)) zqa)))
theorem asa_0 (o : List Idd) (p : Idd) (h : o.length < 2 ^ 60) : Tri Try.prog (cxN 13 3) (zqo Try.f44 0) ([(7, p.enc), (2, .box [iow none o])]) .normal ([(2, AV.box [iow none o]), (5, AV.box [ub (Idd.y p), it (Idd.n p)])]) :=
 ev h44 [.c, .c] zqa
theorem asb_0 (o : List Idd) (p : Idd) (h : o.length < 2 ^ 60) (g0 : AV.sl .own 36 (some 1) [Idd.enc p] = iow (some (1 : Nat)) [{ y := Idd.y p, n := Idd.n p }]) (g1 : decide ((o.map Idd.enc).length + (List.map Idd.enc [{ y := Idd.y p, n := Idd.n p }]).length ≤ (4294967296 : Nat)) = true) (g2 : AV.sl .own 36 none (List.map Idd.enc o ++ List.map Idd.enc [{ y := Idd.y p, n := Idd.n p }]) = iow none (o ++ [{ y := Idd.y p, n := Idd.n p }])) : Tri Try.prog (cxN 13 3) (zrf Try.f44 0) ([(2, .box [iow none o]), (5, .box [ub p.y, it p.n])]) .normal ([(2, AV.box [iow none (o ++ [{ y := Idd.y p, n := Idd.n p }])])]) :=
 ev h44 [.c, .c, .r (iow (some (1 : Nat)) [{ y := Idd.y p, n := Idd.n p }]), .c, .c, .c, .c, .c, .b true, .r (iow none (o ++ [{ y := Idd.y p, n := Idd.n p }])), .c, .c, .c] (allp g0 (allp g1 (allp g2 zqa)))
theorem zrc (g : Nat) (m m' : Lf.Mode) (b : Int) (w : Bool) (ct cp : Option Nat) (th : List Idd) (pa : List Ps) : view (.fn g [.vadr [ub b, bb w, .sl m 36 ct (th.map Idd.enc), .sl m' 56 cp (pa.map Ps.enc)] 0]) = .fn g [.vadr [ub b, bb w, isl ct th, sl cp pa] 0] := by
 show AV.fn g [AV.vadr [ub b, bb w, .sl .any 36 ct ((th.map Idd.enc).map _), .sl .any 56 cp ((pa.map Ps.enc).map _)] 0] = _
 rw [ycf, yc5]
theorem yu7 : yah Try.f44 0 = .rangeFunc (.tmp 6) #[7] (zqo Try.f44 0) (zrf Try.f44 0) := by kernel_rfl
theorem le_no : Le Try.prog (.box [zqw]) (.box [iow none []]) := Le.box (.cons (fun B0 w S n v O h => Le.cap B0 w S n v O (Le.nilOwn 36 B0 w S n v O h)) .nil)
abbrev sE (o : List Idd) : Env := [(2, .box [iow none o])]
theorem yqz (o : List Idd) (p : Idd) (h : o.length < 4294967296) : ∃ E1, Tri Try.prog (cxN 13 3) (zqo Try.f44 0) ((#[7] : Array Tmp).toList.zip (idL p) ++ sE o) .normal E1 ∧ Tri Try.prog (cxN 13 3) (zrf Try.f44 0) E1 .normal (sE (o ++ [p])) :=
 ⟨_, asa_0 o p (by omega), Tri.after [(2, .keep)] (asb_0 o p (by omega) rfl (zlb (by simp; omega)) (by rw [← zlq]))⟩
theorem yk0 (L : Lp) (h1 : L.th.length < 2 ^ 60) (h2 : L.pa.length < 2 ^ 60) (hl : (zqz L).length ≤ 4294967296) : Tri Try.prog (cxN 13 0) (yah Try.f44 0) [(2, .box [zqw]), (6, .fn 45 [mbx L])] .normal (sE (zqz L)) := by
 rw [yu7]
 refine Tri.more (env2 := [(2, .box [iow none []]), (6, .fn 45 [mbx L])]) ?_ (.cons ⟨rfl, rfl, le_no⟩ (.cons ⟨rfl, rfl, Le.refl _⟩ .nil))
 exact Tri.rangeAll (P := Try.prog) (cx := cxN 13 0) rfl (t := 6) (ps := #[7]) (c1 := zqo Try.f44 0) (c2 := zrf Try.f44 0) [(2, .keep)] rfl (ydh L) (zqz L) idL (yh5 L h1 h2) 3 (by omega)
  ⟨by decide, by decide⟩ (fun x => rfl) sE [] rfl (fun pre => .cons (by omega) rfl .nil) (fun pre t x h => ybs h) .nil (fun pre x post hx => yqz pre x (by rw [hx] at hl; simp at hl; omega))
theorem aseq_0 (L : Lp) (h1 : L.th.length < 2 ^ 60) (h2 : L.pa.length < 2 ^ 60) (hl : (zqz L).length ≤ 4294967296) : PureC Try.prog 44 [zqw, .fn 45 [.vadr [ub L.b, bb L.w, isl L.ct L.th, sl L.cp L.pa] 0]]  (iow none (zqz L)) :=
 zqj (H := h44) (n := 13) (ans := [.c, .c, .c, .lp Ex.normal [(2, AV.box [iow none (zqz L)])], .c, .c]) (base 13 0) Try.func44 rfl (by simp) rfl (by kernel_rfl) (allp (p := Tri Try.prog (cxN (13 : Nat) (0 : Nat)) (yah Try.f44 (0 : Nat)) [(2, AV.box [zqw]), (6, AV.fn 45 [AV.vadr [ub (Lp.b L), bb (Lp.w L), isl (Lp.ct L) (Lp.th L), sl (Lp.cp L) (Lp.pa L)] 0])] Ex.normal [(2, AV.box [iow none (zqz L)])]) (by first | (apply yk0<;>first|assumption|rfl|(simp at *<;>omega)) | (refine Tri.weak [(2, .keep), (6, .keep)] ?_; apply yk0<;>first|assumption|rfl|(simp at *<;>omega))) zqa)
theorem aseq_c (b : Int) (w : Bool) (ct cp : Option Nat) (th : List Idd) (pa : List Ps) (h1 : th.length < 2 ^ 60) (h2 : pa.length < 2 ^ 60) (hl : (zqz ⟨b, w, ct, th, cp, pa⟩).length ≤ 4294967296) : PureC Try.prog 44 [zqw, .fn 45 [.vadr [ub b, bb w, isl ct th, sl cp pa] 0]] (iow none (zqz ⟨b, w, ct, th, cp, pa⟩)) := aseq_0 ⟨b, w, ct, th, cp, pa⟩ h1 h2 hl
theorem col_0 (b : Int) (w : Bool) (ct cp : Option Nat) (th : List Idd) (pa : List Ps) (h1 : th.length < 2 ^ 60) (h2 : pa.length < 2 ^ 60) (hl : (zqz ⟨b, w, ct, th, cp, pa⟩).length ≤ 4294967296) : PureC Try.prog 31 [.fn 45 [.vadr [ub b, bb w, isl ct th, sl cp pa] 0]]  (iow none (zqz { b := b, w := w, ct := ct, th := th, cp := cp, pa := pa })) :=
 zqj (H := h31) (n := 5) (ans := [.c, .c, .c, .r (iow none (zqz { b := b, w := w, ct := ct, th := th, cp := cp, pa := pa })), .c, .c, .c]) (base 5 0) Try.func31 rfl (by simp) rfl (by kernel_rfl) (allp (p := PureC Try.prog 44 [zqw, view (AV.fn 45 [AV.vadr [ub b, bb w, isl ct th, sl cp pa] 0])] (iow none (zqz { b := b, w := w, ct := ct, th := th, cp := cp, pa := pa }))) (by (first | rw [zqh] | rw [zqg] | rw [zrc] | skip); apply aseq_c<;>first|assumption|rfl|(simp at *<;>omega)) zqa)
end Tst
end

section
namespace Go
section
variable {F : Fence} {n : Nat} {P : Program} {Q : Exit → Act → World → Prop} {a : Act} {w : World} {b : Frame} {k : List Item} {cs : List Frame}
theorem ya9 {c : Code} : step P (lone (b.atR a (.code (.scope c) :: k)) cs w) = .next (lone (b.atR a (.code c :: .inScope c :: k)) cs w) :=
 step_lone_go (by simp [stepG, stepG.exec, Frame.atR])
theorem ygr {c : Code} : step P (lone (b.atR a (.inScope c :: k)) cs w) = .next (lone (b.atR a k) cs w) :=
 step_lone_go (by simp [stepG, stepG.exec, Frame.atR])
theorem yk9 {c : Code} (h : c.wpIn F n P Q a w) (hg : ∀ l a w, ¬ Q (.goto l) a w) : (Code.scope c).wpIn F n P Q a w := by
 intro b k cs hro hb hr
 have h0 : (lone (b.atR a (.code (.scope c) :: k)) cs w).fenced P F := fenced_calm hb hr rfl
 obtain ⟨e, a₁, w₁, hq, harr⟩ := h b (.inScope c :: k) cs hro hb hr
 cases e with
 | normal => exact ⟨.normal, a₁, w₁, hq, .head h0 ya9 (StepsIn.trans harr (.one (fenced_calm hb hr rfl) ygr))⟩
 | exit id =>
  have hx : exitTo id (.inScope c :: k) = exitTo id k := by simp [exitTo]
  exact ⟨.exit id, a₁, w₁, hq, fun k' hk => .head h0 ya9 (harr.1 k' (by rw [hx]; exact hk)),
   fun hr' hk => let ⟨k₁, h1, h2⟩ := harr.2 hr' (by rw [hx]; exact hk); ⟨k₁, h1, .head h0 ya9 h2⟩⟩
 | goto l => exact (hg l a₁ w₁ hq).elim
 | ret => exact ⟨_, a₁, w₁, hq, .of_steps (.one h0 ya9) harr⟩
 | panic ch => exact ⟨_, a₁, w₁, hq, .of_steps (.one h0 ya9) harr⟩
 | outgrown => exact ⟨_, a₁, w₁, hq, .of_steps (.one h0 ya9) harr⟩
end
namespace Lf
def noGo (Q : Exit → Act → World → Prop) : Exit → Act → World → Prop
 | .goto _, _, _ => False
 | e, a, w => Q e a w
theorem Tri.scope {P : Program} {cx : Cx} {c : Code} {env env' : Env} {ex : Ex} (h : Tri P cx c env ex env') : Tri P cx (.scope c) env ex env' := by
 intro ρ hρ F B0 w0 S0 ds a w Q hag hQ
 have := h ρ hρ F B0 w0 S0 ds a w (noGo Q) hag fun a' w' ha => by
  cases ex with
  | normal => exact hQ a' w' ha
  | exit id => exact hQ a' w' ha
  | ret => exact hQ a' w' ha
 exact wpIn_mono (yk9 this fun l a w h => h) fun e a w h => by
  cases e with
  | goto l => exact h.elim
  | _ => exact h
end Lf
end Go
end

section
open Go Go.Lf Go.Proofs
namespace Tst
set_option maxHeartbeats 0
abbrev itI (i : Int) : AV := it i
theorem lea_0 (m : List Int) (p : Idd) : Tri Try.prog (cxN 45 9) (zqo Try.f39 0) ([(29, p.enc), (3, .box (m.map itI)), (4, .box [ub 0, it 0])]) .normal ([(3, AV.box (List.map itI m)), (4, AV.box [ub 0, it 0]), (9, AV.box [ub (Idd.y p), it (Idd.n p)])]) :=
 ev h39 [.c, .c] zqa
theorem leb_0 (m : List Int) (p : Idd) (hm : m.length = 6) (g0 : decide (0 ≤ u8.wrap (Idd.y p - (1 : Int)) ∧ u8.wrap (Idd.y p - (1 : Int)) < ((6 : Nat) : Int) ∧ (0 : Nat) < List.length (TInfo.zero { zero := [Value.int i64 (0 : Int)], bytes := (8 : Nat), agg := false, kind := TK.int i64 })) = true) (g1 : decide ((0 : Nat) = (0 : Nat) ∧ (u8.wrap (Idd.y p - (1 : Int))).toNat * List.length (TInfo.zero { zero := [Value.int i64 (0 : Int)], bytes := (8 : Nat), agg := false, kind := TK.int i64 }) < (m.map itI).length) = true) (g2 : (m.map itI).getD ((u8.wrap (Idd.y p - (1 : Int))).toNat * List.length (TInfo.zero { zero := [Value.int i64 (0 : Int)], bytes := (8 : Nat), agg := false, kind := TK.int i64 })) AV.bad = itI (m.getD ((u8.wrap (Idd.y p - (1 : Int))).toNat * List.length (TInfo.zero { zero := [Value.int i64 (0 : Int)], bytes := (8 : Nat), agg := false, kind := TK.int i64 })) default)) (g3 : decide (m.getD ((u8.wrap (Idd.y p - (1 : Int))).toNat * List.length (TInfo.zero { zero := [Value.int i64 (0 : Int)], bytes := (8 : Nat), agg := false, kind := TK.int i64 })) default ≤ Idd.n p) = true) : Tri Try.prog (cxN 45 9) (zrf Try.f39 0) ([(3, .box (m.map itI)), (4, .box [ub 0, it 0]), (9, .box [ub p.y, it p.n])]) (.exit 1) ([(3, AV.box (List.map itI m)), (4, AV.box [ub 0, it 0]), (37, bb (decide (m.getD ((u8.wrap (Idd.y p - (1 : Int))).toNat * List.length (TInfo.zero { zero := [Value.int i64 (0 : Int)], bytes := (8 : Nat), agg := false, kind := TK.int i64 })) default ≤ Idd.n p)))]) :=
 ev h39 [.c, .c, .c, .c, .c, .c, .c, .c, .c, .b true, .c, .b true, .r (itI (m.getD ((u8.wrap (Idd.y p - (1 : Int))).toNat * List.length (TInfo.zero { zero := [Value.int i64 (0 : Int)], bytes := (8 : Nat), agg := false, kind := TK.int i64 })) default)), .c, .c, .b true] (allp g0 (allp g1 (allp g2 (allp g3 zqa))))
theorem leb_1 (m : List Int) (p : Idd) (hm : m.length = 6) (g0 : decide (0 ≤ u8.wrap (Idd.y p - (1 : Int)) ∧ u8.wrap (Idd.y p - (1 : Int)) < ((6 : Nat) : Int) ∧ (0 : Nat) < List.length (TInfo.zero { zero := [Value.int i64 (0 : Int)], bytes := (8 : Nat), agg := false, kind := TK.int i64 })) = true) (g1 : decide ((0 : Nat) = (0 : Nat) ∧ (u8.wrap (Idd.y p - (1 : Int))).toNat * List.length (TInfo.zero { zero := [Value.int i64 (0 : Int)], bytes := (8 : Nat), agg := false, kind := TK.int i64 }) < (m.map itI).length) = true) (g2 : (m.map itI).getD ((u8.wrap (Idd.y p - (1 : Int))).toNat * List.length (TInfo.zero { zero := [Value.int i64 (0 : Int)], bytes := (8 : Nat), agg := false, kind := TK.int i64 })) AV.bad = itI (m.getD ((u8.wrap (Idd.y p - (1 : Int))).toNat * List.length (TInfo.zero { zero := [Value.int i64 (0 : Int)], bytes := (8 : Nat), agg := false, kind := TK.int i64 })) default)) (g3 : decide (m.getD ((u8.wrap (Idd.y p - (1 : Int))).toNat * List.length (TInfo.zero { zero := [Value.int i64 (0 : Int)], bytes := (8 : Nat), agg := false, kind := TK.int i64 })) default ≤ Idd.n p) = false) : Tri Try.prog (cxN 45 9) (zrf Try.f39 0) ([(3, .box (m.map itI)), (4, .box [ub 0, it 0]), (9, .box [ub p.y, it p.n])]) .normal ([(3, AV.box (List.map itI m)), (4, AV.box [ub 0, it 0]), (37, bb (decide (m.getD ((u8.wrap (Idd.y p - (1 : Int))).toNat * List.length (TInfo.zero { zero := [Value.int i64 (0 : Int)], bytes := (8 : Nat), agg := false, kind := TK.int i64 })) default ≤ Idd.n p)))]) :=
 ev h39 [.c, .c, .c, .c, .c, .c, .c, .c, .c, .b true, .c, .b true, .r (itI (m.getD ((u8.wrap (Idd.y p - (1 : Int))).toNat * List.length (TInfo.zero { zero := [Value.int i64 (0 : Int)], bytes := (8 : Nat), agg := false, kind := TK.int i64 })) default)), .c, .c, .b false] (allp g0 (allp g1 (allp g2 (allp g3 zqa))))
def gtM (m : List Int) (p : Idd) : Int := m.getD (p.y - 1).toNat default
abbrev lE (m : List Int) : Env := [(3, .box (m.map itI)), (4, .box [ub 0, it 0])]
theorem yg5 {m : List Int} {i : Nat} (h : i < m.length) : (m.map itI).getD i AV.bad = itI (m.getD i default) := by
 simp only [zld, List.getElem?_map]
 rw [zle h]; rfl
theorem leb_t (m : List Int) (p : Idd) (hm : m.length = 6) (hy : 1 ≤ p.y ∧ p.y ≤ 6) : Tri Try.prog (cxN 45 9) (zrf Try.f39 0) [(3, .box (m.map itI)), (4, .box [ub 0, it 0]), (9, .box [ub p.y, it p.n])] (if gtM m p ≤ p.n then .exit 1 else .normal) (lE m) := by
 have w := ygj hy.1 (by omega : p.y ≤ 255)
 have q0 := leb_0 m p hm
 have q1 := leb_1 m p hm
 simp only [w, TInfo.zero, List.length_cons, List.length_nil, Nat.zero_add, Nat.mul_one, zla] at q0 q1
 unfold gtM
 have a1 : decide ((0 : Int) ≤ p.y - 1 ∧ p.y - 1 < ((6 : Nat) : Int) ∧ (0 : Nat) < 1) = true := zlb ⟨by omega, by omega, by omega⟩
 have a2 : decide (True ∧ (p.y - 1).toNat < m.length) = true := zlb ⟨trivial, by omega⟩
 have a3 := yg5 (m := m) (i := (p.y - 1).toNat) (by omega)
 by_cases h : m.getD (p.y - 1).toNat default ≤ p.n
 ·rw [if_pos h]
  exact Tri.after [(3, .keep), (4, .keep)] (q0 a1 a2 a3 (zlb h))
 ·rw [if_neg h]
  exact Tri.after [(3, .keep), (4, .keep)] (q1 a1 a2 a3 (zlc h))
def ycv (m : List Int) (L : Lp) : Bool := (zqz L).all fun p => decide (p.n < gtM m p)
theorem ynp : yah Try.f39 0 = .rangeFunc (.tmp 28) #[29] (zqo Try.f39 0) (zrf Try.f39 0) := by kernel_rfl
def okY (L : Lp) : Prop := ∀ p ∈ zqz L, 1 ≤ p.y ∧ p.y ≤ 6
theorem yg4 (m : List Int) (hm : m.length = 6) (p : Idd) (hy : 1 ≤ p.y ∧ p.y ≤ 6) (ex : Ex) (he : (if gtM m p ≤ p.n then Ex.exit 1 else .normal) = ex) : ∃ E1, Tri Try.prog (cxN 45 9) (zqo Try.f39 0) ((#[29] : Array Tmp).toList.zip (idL p) ++ lE m) .normal E1 ∧ Tri Try.prog (cxN 45 9) (zrf Try.f39 0) E1 ex (lE m) := by
 subst he
 exact ⟨_, lea_0 m p, leb_t m p hm hy⟩
theorem ych {t : Nat} {x : AV} {l : Env} (hx : yid x = true) (hs : EnvF l) : EnvF ((t, x) :: l) := by
 intro t' x' h
 simp only [lk] at h
 split at h
 ·injection h with h; subst h; exact hx
 ·exact hs _ _ h
theorem yci {E : Env} {t : Nat} {x : AV} {l : Env} (h : lk E t = none) (hs : ∀ t x, lk l t = some x → lk E t = none) : ∀ t' x', lk ((t, x) :: l) t' = some x' → lk E t' = none := by
 intro t' x' h'
 simp only [lk] at h'
 split at h'
 ·rename_i e; subst e; exact h
 ·exact hs _ _ h'
abbrev lR (c : Option Nat) (t : List Rw) (i n k j : Int) : Env := [(6, it i), (8, it n), (10, tsl c t), (11, it k), (12, it j)]
theorem lR_F (c : Option Nat) (t : List Rw) (i n k j : Int) : EnvF (lR c t i n k j) := ych rfl (ych rfl (ych (yca c t).1 (ych rfl (ych rfl fun t x h => ybs h))))
theorem lR_d (m : List Int) (c : Option Nat) (t : List Rw) (i n k j : Int) : ∀ t' x, lk (lR c t i n k j) t' = some x → lk (lE m) t' = none := yci rfl (yci rfl (yci rfl (yci rfl (yci rfl (fun t x h => ybs h)))))
section
variable (m : List Int) (hm : m.length = 6) (c : Option Nat) (t : List Rw) (i n k j : Int) (L : Lp) (h1 : L.th.length < 2 ^ 60) (h2 : L.pa.length < 2 ^ 60) (hY : okY L)
include hm h1 h2 hY
theorem yrt (hv : ycv m L = true) : Tri Try.prog (cxN 45 0) (yah Try.f39 0) [(3, .box (m.map itI)), (4, .box [ub 0, it 0]), (6, it i), (8, it n), (10, tsl c t), (11, it k), (12, it j), (28, .fn 45 [mbx L])] .normal (lE m ++ lR c t i n k j) := by
 rw [ynp]
 unfold ycv at hv
 rw [zls] at hv
 exact Tri.rangeAll (P := Try.prog) (cx := cxN 45 0) rfl (t := 28) (ps := #[29]) (c1 := zqo Try.f39 0) (c2 := zrf Try.f39 0) [(3, .keep), (4, .keep), (6, .keep), (8, .keep), (10, .keep), (11, .keep), (12, .keep)] rfl (ydh L) (zqz L) idL (yh5 L h1 h2) 9 (by omega)
  ⟨by decide, by decide⟩ (fun x => rfl) (fun _ => lE m) (lR c t i n k j) rfl (fun pre => .cons (by omega) rfl (.cons (by omega) rfl .nil)) (fun _ => lR_d m c t i n k j) (lR_F c t i n k j)
  (fun pre x post hx => yg4 m hm x (hY x (by rw [hx]; simp)) _ (if_neg (by have := hv x (by rw [hx]; simp); simp at this; omega)))
theorem yno (hv : ycv m L = false) : Tri Try.prog (cxN 45 0) (yah Try.f39 0) [(3, .box (m.map itI)), (4, .box [ub 0, it 0]), (6, it i), (8, it n), (10, tsl c t), (11, it k), (12, it j), (28, .fn 45 [mbx L])] (.exit 1) (lE m ++ lR c t i n k j) := by
 rw [ynp]
 rcases ybo (fun p : Idd => !decide (p.n < gtM m p)) (zqz L) with hn | ⟨pre, x, post, hx, hn, hy⟩
 ·exfalso
  rw [show ycv m L = true by unfold ycv; rw [zls]; intro x hx; simpa using hn x hx] at hv
  cases hv
 ·exact Tri.rangeStop (P := Try.prog) (cx := cxN 45 0) rfl (t := 28) (ps := #[29]) (c1 := zqo Try.f39 0) (c2 := zrf Try.f39 0) [(3, .keep), (4, .keep), (6, .keep), (8, .keep), (10, .keep), (11, .keep), (12, .keep)] rfl (ydh L) (zqz L) idL (yh5 L h1 h2) 9 (by omega)
   ⟨by decide, by decide⟩ (fun x => rfl) (fun _ => lE m) (lR c t i n k j) rfl (fun pre => .cons (by omega) rfl (.cons (by omega) rfl .nil)) (fun _ => lR_d m c t i n k j) (lR_F c t i n k j) pre x post hx
   (fun pre' y post' he => yg4 m hm y (hY y (by rw [hx, he]; simp)) _ (if_neg (by have := hn y (by rw [he]; simp); simp at this; omega))) (by simp) (.cons (by omega) rfl (.cons (by omega) rfl .nil))
   (yg4 m hm x (hY x (by rw [hx]; simp)) _ (if_pos (by simp at hy; omega)))
end
abbrev LX (m : List Int) (t : List Rw) (i : Int) : Lp := List.getD (Rw.l (List.getD t (Int.toNat i) default)) (Int.toNat (List.getD m (Int.toNat i * List.length (TInfo.zero { zero := [Value.int i64 (0 : Int)], bytes := (8 : Nat), agg := false, kind := TK.int i64 })) default)) default
theorem lsE_0 (m : List Int) (hm : m.length = 6) (c : Option Nat) (t : List Rw) (k i : Int) (q : decide (i < k) = false) (g0 : decide (i < k) = false) : Tri Try.prog (cxN 45 0) (zqc Try.f39 0) ([(3, .box (m.map itI)), (4, .box [ub 0, it 0]), (10, tsl c t), (11, it k), (12, it i)]) (.exit 0) ([(3, AV.box (List.map itI m)), (4, AV.box [ub 0, it 0]), (10, tsl c t), (11, it k), (12, it i), (13, bb (decide (i < k)))]) :=
 ev h39 [.c, .b false] (allp g0 zqa)
theorem lsN_0 (m : List Int) (hm : m.length = 6) (c : Option Nat) (t : List Rw) (k i : Int) (q : decide (i < k) = true) (q2 : (m.getD (i.toNat * List.length (TInfo.zero { zero := [Value.int i64 (0 : Int)], bytes := (8 : Nat), agg := false, kind := TK.int i64 })) default == (↑(((Rw.l (t.getD i.toNat default)).map Lp.enc).length) : Int)) = true) (g0 : decide (i < k) = true) (g1 : decide (0 ≤ i ∧ i < ((t.map Rw.enc).length : Int)) = true) (g2 : (t.map Rw.enc).getD i.toNat AV.bad = Rw.enc (t.getD i.toNat default)) (g3 : decide (0 ≤ i ∧ i < ((6 : Nat) : Int) ∧ (0 : Nat) < List.length (TInfo.zero { zero := [Value.int i64 (0 : Int)], bytes := (8 : Nat), agg := false, kind := TK.int i64 })) = true) (g4 : decide ((0 : Nat) = (0 : Nat) ∧ i.toNat * List.length (TInfo.zero { zero := [Value.int i64 (0 : Int)], bytes := (8 : Nat), agg := false, kind := TK.int i64 }) < (m.map itI).length) = true) (g5 : (m.map itI).getD (i.toNat * List.length (TInfo.zero { zero := [Value.int i64 (0 : Int)], bytes := (8 : Nat), agg := false, kind := TK.int i64 })) AV.bad = itI (m.getD (i.toNat * List.length (TInfo.zero { zero := [Value.int i64 (0 : Int)], bytes := (8 : Nat), agg := false, kind := TK.int i64 })) default)) (g6 : (m.getD (i.toNat * List.length (TInfo.zero { zero := [Value.int i64 (0 : Int)], bytes := (8 : Nat), agg := false, kind := TK.int i64 })) default == (↑(((Rw.l (t.getD i.toNat default)).map Lp.enc).length) : Int)) = true) : Tri Try.prog (cxN 45 0) (zqc Try.f39 0) ([(3, .box (m.map itI)), (4, .box [ub 0, it 0]), (10, tsl c t), (11, it k), (12, it i)]) .normal ([(3, AV.box (List.map itI m)), (4, AV.box [ub 0, it 0]), (10, tsl c t), (11, it k), (12, it (i64.wrap (i + (1 : Int))))]) :=
 ev h39 [.c, .b true, .c, .b true, .r (Rw.enc (t.getD i.toNat default)), .c, .c, .c, .c, .c, .b true, .c, .b true, .r (itI (m.getD (i.toNat * List.length (TInfo.zero { zero := [Value.int i64 (0 : Int)], bytes := (8 : Nat), agg := false, kind := TK.int i64 })) default)), .c, .c, .c, .c, .c, .c, .b true, .c, .c] (allp g0 (allp g1 (allp g2 (allp g3 (allp g4 (allp g5 (allp g6 zqa)))))))
theorem lsY_0 (m : List Int) (hm : m.length = 6) (c : Option Nat) (t : List Rw) (k i : Int) (q : decide (i < k) = true) (q2 : (m.getD (i.toNat * List.length (TInfo.zero { zero := [Value.int i64 (0 : Int)], bytes := (8 : Nat), agg := false, kind := TK.int i64 })) default == (↑(((Rw.l (t.getD i.toNat default)).map Lp.enc).length) : Int)) = false) (h1 : (LX m t i).th.length < 2 ^ 60) (h2 : (LX m t i).pa.length < 2 ^ 60) (hY : okY (LX m t i)) (hv : ycv m (LX m t i) = true) (g0 : decide (i < k) = true) (g1 : decide (0 ≤ i ∧ i < ((t.map Rw.enc).length : Int)) = true) (g2 : (t.map Rw.enc).getD i.toNat AV.bad = Rw.enc (t.getD i.toNat default)) (g3 : decide (0 ≤ i ∧ i < ((6 : Nat) : Int) ∧ (0 : Nat) < List.length (TInfo.zero { zero := [Value.int i64 (0 : Int)], bytes := (8 : Nat), agg := false, kind := TK.int i64 })) = true) (g4 : decide ((0 : Nat) = (0 : Nat) ∧ i.toNat * List.length (TInfo.zero { zero := [Value.int i64 (0 : Int)], bytes := (8 : Nat), agg := false, kind := TK.int i64 }) < (m.map itI).length) = true) (g5 : (m.map itI).getD (i.toNat * List.length (TInfo.zero { zero := [Value.int i64 (0 : Int)], bytes := (8 : Nat), agg := false, kind := TK.int i64 })) AV.bad = itI (m.getD (i.toNat * List.length (TInfo.zero { zero := [Value.int i64 (0 : Int)], bytes := (8 : Nat), agg := false, kind := TK.int i64 })) default)) (g6 : (m.getD (i.toNat * List.length (TInfo.zero { zero := [Value.int i64 (0 : Int)], bytes := (8 : Nat), agg := false, kind := TK.int i64 })) default == (↑(((Rw.l (t.getD i.toNat default)).map Lp.enc).length) : Int)) = false) (g7 : decide (0 ≤ m.getD (i.toNat * List.length (TInfo.zero { zero := [Value.int i64 (0 : Int)], bytes := (8 : Nat), agg := false, kind := TK.int i64 })) default ∧ m.getD (i.toNat * List.length (TInfo.zero { zero := [Value.int i64 (0 : Int)], bytes := (8 : Nat), agg := false, kind := TK.int i64 })) default < (↑(((Rw.l (t.getD i.toNat default)).map Lp.enc).length) : Int)) = true) (g8 : ((Rw.l (t.getD i.toNat default)).map Lp.enc).getD ((m.getD (i.toNat * List.length (TInfo.zero { zero := [Value.int i64 (0 : Int)], bytes := (8 : Nat), agg := false, kind := TK.int i64 })) default).toNat) AV.bad = Lp.enc ((Rw.l (t.getD i.toNat default)).getD ((m.getD (i.toNat * List.length (TInfo.zero { zero := [Value.int i64 (0 : Int)], bytes := (8 : Nat), agg := false, kind := TK.int i64 })) default).toNat) default)) : Tri Try.prog (cxN 45 0) (zqc Try.f39 0) ([(3, .box (m.map itI)), (4, .box [ub 0, it 0]), (10, tsl c t), (11, it k), (12, it i)]) .ret ([(4, AV.box [ub (u8.wrap (i64.wrap (i + (1 : Int)))), it (m.getD (i.toNat * List.length (TInfo.zero { zero := [Value.int i64 (0 : Int)], bytes := (8 : Nat), agg := false, kind := TK.int i64 })) default)]), (5, bb true)]) :=
 ev h39 [.c, .b true, .c, .b true, .r (Rw.enc (t.getD i.toNat default)), .c, .c, .c, .c, .c, .b true, .c, .b true, .r (itI (m.getD (i.toNat * List.length (TInfo.zero { zero := [Value.int i64 (0 : Int)], bytes := (8 : Nat), agg := false, kind := TK.int i64 })) default)), .c, .c, .c, .c, .c, .c, .b false, .c, .c, .b true, .r (Lp.enc ((Rw.l (t.getD i.toNat default)).getD ((m.getD (i.toNat * List.length (TInfo.zero { zero := [Value.int i64 (0 : Int)], bytes := (8 : Nat), agg := false, kind := TK.int i64 })) default).toNat) default)), .c, .c, .r (AV.fn 45 [AV.vadr [ub (Lp.b ((Rw.l (t.getD i.toNat default)).getD ((m.getD (i.toNat * List.length (TInfo.zero { zero := [Value.int i64 (0 : Int)], bytes := (8 : Nat), agg := false, kind := TK.int i64 })) default).toNat) default)), bb (Lp.w ((Rw.l (t.getD i.toNat default)).getD ((m.getD (i.toNat * List.length (TInfo.zero { zero := [Value.int i64 (0 : Int)], bytes := (8 : Nat), agg := false, kind := TK.int i64 })) default).toNat) default)), isl (Lp.ct ((Rw.l (t.getD i.toNat default)).getD ((m.getD (i.toNat * List.length (TInfo.zero { zero := [Value.int i64 (0 : Int)], bytes := (8 : Nat), agg := false, kind := TK.int i64 })) default).toNat) default)) (Lp.th ((Rw.l (t.getD i.toNat default)).getD ((m.getD (i.toNat * List.length (TInfo.zero { zero := [Value.int i64 (0 : Int)], bytes := (8 : Nat), agg := false, kind := TK.int i64 })) default).toNat) default)), sl (Lp.cp ((Rw.l (t.getD i.toNat default)).getD ((m.getD (i.toNat * List.length (TInfo.zero { zero := [Value.int i64 (0 : Int)], bytes := (8 : Nat), agg := false, kind := TK.int i64 })) default).toNat) default)) (Lp.pa ((Rw.l (t.getD i.toNat default)).getD ((m.getD (i.toNat * List.length (TInfo.zero { zero := [Value.int i64 (0 : Int)], bytes := (8 : Nat), agg := false, kind := TK.int i64 })) default).toNat) default))] 0]), .c, .c, .lp Ex.normal [(3, AV.box (List.map itI m)), (4, AV.box [ub 0, it 0]), (6, it i), (8, it (m.getD (i.toNat * List.length (TInfo.zero { zero := [Value.int i64 (0 : Int)], bytes := (8 : Nat), agg := false, kind := TK.int i64 })) default)), (10, tsl c t), (11, it k), (12, it i)], .c, .c, .c, .c, .c, .c, .c] (allp g0 (allp g1 (allp g2 (allp g3 (allp g4 (allp g5 (allp g6 (allp g7 (allp g8 (allp (p := PureC Try.prog 32 [view (AV.agg [ub (Lp.b ((Rw.l (t.getD i.toNat default)).getD ((m.getD (i.toNat * List.length (TInfo.zero { zero := [Value.int i64 (0 : Int)], bytes := (8 : Nat), agg := false, kind := TK.int i64 })) default).toNat) default)), bb (Lp.w ((Rw.l (t.getD i.toNat default)).getD ((m.getD (i.toNat * List.length (TInfo.zero { zero := [Value.int i64 (0 : Int)], bytes := (8 : Nat), agg := false, kind := TK.int i64 })) default).toNat) default)), isl (Lp.ct ((Rw.l (t.getD i.toNat default)).getD ((m.getD (i.toNat * List.length (TInfo.zero { zero := [Value.int i64 (0 : Int)], bytes := (8 : Nat), agg := false, kind := TK.int i64 })) default).toNat) default)) (Lp.th ((Rw.l (t.getD i.toNat default)).getD ((m.getD (i.toNat * List.length (TInfo.zero { zero := [Value.int i64 (0 : Int)], bytes := (8 : Nat), agg := false, kind := TK.int i64 })) default).toNat) default)), sl (Lp.cp ((Rw.l (t.getD i.toNat default)).getD ((m.getD (i.toNat * List.length (TInfo.zero { zero := [Value.int i64 (0 : Int)], bytes := (8 : Nat), agg := false, kind := TK.int i64 })) default).toNat) default)) (Lp.pa ((Rw.l (t.getD i.toNat default)).getD ((m.getD (i.toNat * List.length (TInfo.zero { zero := [Value.int i64 (0 : Int)], bytes := (8 : Nat), agg := false, kind := TK.int i64 })) default).toNat) default))])] (AV.fn 45 [AV.vadr [ub (Lp.b ((Rw.l (t.getD i.toNat default)).getD ((m.getD (i.toNat * List.length (TInfo.zero { zero := [Value.int i64 (0 : Int)], bytes := (8 : Nat), agg := false, kind := TK.int i64 })) default).toNat) default)), bb (Lp.w ((Rw.l (t.getD i.toNat default)).getD ((m.getD (i.toNat * List.length (TInfo.zero { zero := [Value.int i64 (0 : Int)], bytes := (8 : Nat), agg := false, kind := TK.int i64 })) default).toNat) default)), isl (Lp.ct ((Rw.l (t.getD i.toNat default)).getD ((m.getD (i.toNat * List.length (TInfo.zero { zero := [Value.int i64 (0 : Int)], bytes := (8 : Nat), agg := false, kind := TK.int i64 })) default).toNat) default)) (Lp.th ((Rw.l (t.getD i.toNat default)).getD ((m.getD (i.toNat * List.length (TInfo.zero { zero := [Value.int i64 (0 : Int)], bytes := (8 : Nat), agg := false, kind := TK.int i64 })) default).toNat) default)), sl (Lp.cp ((Rw.l (t.getD i.toNat default)).getD ((m.getD (i.toNat * List.length (TInfo.zero { zero := [Value.int i64 (0 : Int)], bytes := (8 : Nat), agg := false, kind := TK.int i64 })) default).toNat) default)) (Lp.pa ((Rw.l (t.getD i.toNat default)).getD ((m.getD (i.toNat * List.length (TInfo.zero { zero := [Value.int i64 (0 : Int)], bytes := (8 : Nat), agg := false, kind := TK.int i64 })) default).toNat) default))] 0])) (by (first | rw [zqh] | rw [zqg] | rw [zrc] | skip); apply yb2<;>first|assumption|rfl|(simp at *<;>omega)) (allp (p := Tri Try.prog (cxN (45 : Nat) (0 : Nat)) (yah Try.f39 (0 : Nat)) [(3, AV.box (List.map itI m)), (4, AV.box [ub 0, it 0]), (6, it i), (8, it (m.getD (i.toNat * List.length (TInfo.zero { zero := [Value.int i64 (0 : Int)], bytes := (8 : Nat), agg := false, kind := TK.int i64 })) default)), (10, tsl c t), (11, it k), (12, it i), (28, AV.fn 45 [AV.vadr [ub (Lp.b ((Rw.l (t.getD i.toNat default)).getD ((m.getD (i.toNat * List.length (TInfo.zero { zero := [Value.int i64 (0 : Int)], bytes := (8 : Nat), agg := false, kind := TK.int i64 })) default).toNat) default)), bb (Lp.w ((Rw.l (t.getD i.toNat default)).getD ((m.getD (i.toNat * List.length (TInfo.zero { zero := [Value.int i64 (0 : Int)], bytes := (8 : Nat), agg := false, kind := TK.int i64 })) default).toNat) default)), isl (Lp.ct ((Rw.l (t.getD i.toNat default)).getD ((m.getD (i.toNat * List.length (TInfo.zero { zero := [Value.int i64 (0 : Int)], bytes := (8 : Nat), agg := false, kind := TK.int i64 })) default).toNat) default)) (Lp.th ((Rw.l (t.getD i.toNat default)).getD ((m.getD (i.toNat * List.length (TInfo.zero { zero := [Value.int i64 (0 : Int)], bytes := (8 : Nat), agg := false, kind := TK.int i64 })) default).toNat) default)), sl (Lp.cp ((Rw.l (t.getD i.toNat default)).getD ((m.getD (i.toNat * List.length (TInfo.zero { zero := [Value.int i64 (0 : Int)], bytes := (8 : Nat), agg := false, kind := TK.int i64 })) default).toNat) default)) (Lp.pa ((Rw.l (t.getD i.toNat default)).getD ((m.getD (i.toNat * List.length (TInfo.zero { zero := [Value.int i64 (0 : Int)], bytes := (8 : Nat), agg := false, kind := TK.int i64 })) default).toNat) default))] 0])] Ex.normal [(3, AV.box (List.map itI m)), (4, AV.box [ub 0, it 0]), (6, it i), (8, it (m.getD (i.toNat * List.length (TInfo.zero { zero := [Value.int i64 (0 : Int)], bytes := (8 : Nat), agg := false, kind := TK.int i64 })) default)), (10, tsl c t), (11, it k), (12, it i)]) (by first | (apply yb2<;>first|assumption|rfl|(simp at *<;>omega)) | (apply yrt<;>first|assumption|rfl|(simp at *<;>omega)) | (refine Tri.weak [(3, .keep), (4, .keep), (6, .keep), (8, .keep), (10, .keep), (11, .keep), (12, .keep), (28, .keep)] ?_; apply yrt<;>first|assumption|rfl|(simp at *<;>omega))) zqa)))))))))))
theorem lsX_0 (m : List Int) (hm : m.length = 6) (c : Option Nat) (t : List Rw) (k i : Int) (q : decide (i < k) = true) (q2 : (m.getD (i.toNat * List.length (TInfo.zero { zero := [Value.int i64 (0 : Int)], bytes := (8 : Nat), agg := false, kind := TK.int i64 })) default == (↑(((Rw.l (t.getD i.toNat default)).map Lp.enc).length) : Int)) = false) (h1 : (LX m t i).th.length < 2 ^ 60) (h2 : (LX m t i).pa.length < 2 ^ 60) (hY : okY (LX m t i)) (hv : ycv m (LX m t i) = false) (g0 : decide (i < k) = true) (g1 : decide (0 ≤ i ∧ i < ((t.map Rw.enc).length : Int)) = true) (g2 : (t.map Rw.enc).getD i.toNat AV.bad = Rw.enc (t.getD i.toNat default)) (g3 : decide (0 ≤ i ∧ i < ((6 : Nat) : Int) ∧ (0 : Nat) < List.length (TInfo.zero { zero := [Value.int i64 (0 : Int)], bytes := (8 : Nat), agg := false, kind := TK.int i64 })) = true) (g4 : decide ((0 : Nat) = (0 : Nat) ∧ i.toNat * List.length (TInfo.zero { zero := [Value.int i64 (0 : Int)], bytes := (8 : Nat), agg := false, kind := TK.int i64 }) < (m.map itI).length) = true) (g5 : (m.map itI).getD (i.toNat * List.length (TInfo.zero { zero := [Value.int i64 (0 : Int)], bytes := (8 : Nat), agg := false, kind := TK.int i64 })) AV.bad = itI (m.getD (i.toNat * List.length (TInfo.zero { zero := [Value.int i64 (0 : Int)], bytes := (8 : Nat), agg := false, kind := TK.int i64 })) default)) (g6 : (m.getD (i.toNat * List.length (TInfo.zero { zero := [Value.int i64 (0 : Int)], bytes := (8 : Nat), agg := false, kind := TK.int i64 })) default == (↑(((Rw.l (t.getD i.toNat default)).map Lp.enc).length) : Int)) = false) (g7 : decide (0 ≤ m.getD (i.toNat * List.length (TInfo.zero { zero := [Value.int i64 (0 : Int)], bytes := (8 : Nat), agg := false, kind := TK.int i64 })) default ∧ m.getD (i.toNat * List.length (TInfo.zero { zero := [Value.int i64 (0 : Int)], bytes := (8 : Nat), agg := false, kind := TK.int i64 })) default < (↑(((Rw.l (t.getD i.toNat default)).map Lp.enc).length) : Int)) = true) (g8 : ((Rw.l (t.getD i.toNat default)).map Lp.enc).getD ((m.getD (i.toNat * List.length (TInfo.zero { zero := [Value.int i64 (0 : Int)], bytes := (8 : Nat), agg := false, kind := TK.int i64 })) default).toNat) AV.bad = Lp.enc ((Rw.l (t.getD i.toNat default)).getD ((m.getD (i.toNat * List.length (TInfo.zero { zero := [Value.int i64 (0 : Int)], bytes := (8 : Nat), agg := false, kind := TK.int i64 })) default).toNat) default)) : Tri Try.prog (cxN 45 0) (zqc Try.f39 0) ([(3, .box (m.map itI)), (4, .box [ub 0, it 0]), (10, tsl c t), (11, it k), (12, it i)]) .normal ([(3, AV.box (List.map itI m)), (4, AV.box [ub 0, it 0]), (10, tsl c t), (11, it k), (12, it (i64.wrap (i + (1 : Int))))]) :=
 ev h39 [.c, .b true, .c, .b true, .r (Rw.enc (t.getD i.toNat default)), .c, .c, .c, .c, .c, .b true, .c, .b true, .r (itI (m.getD (i.toNat * List.length (TInfo.zero { zero := [Value.int i64 (0 : Int)], bytes := (8 : Nat), agg := false, kind := TK.int i64 })) default)), .c, .c, .c, .c, .c, .c, .b false, .c, .c, .b true, .r (Lp.enc ((Rw.l (t.getD i.toNat default)).getD ((m.getD (i.toNat * List.length (TInfo.zero { zero := [Value.int i64 (0 : Int)], bytes := (8 : Nat), agg := false, kind := TK.int i64 })) default).toNat) default)), .c, .c, .r (AV.fn 45 [AV.vadr [ub (Lp.b ((Rw.l (t.getD i.toNat default)).getD ((m.getD (i.toNat * List.length (TInfo.zero { zero := [Value.int i64 (0 : Int)], bytes := (8 : Nat), agg := false, kind := TK.int i64 })) default).toNat) default)), bb (Lp.w ((Rw.l (t.getD i.toNat default)).getD ((m.getD (i.toNat * List.length (TInfo.zero { zero := [Value.int i64 (0 : Int)], bytes := (8 : Nat), agg := false, kind := TK.int i64 })) default).toNat) default)), isl (Lp.ct ((Rw.l (t.getD i.toNat default)).getD ((m.getD (i.toNat * List.length (TInfo.zero { zero := [Value.int i64 (0 : Int)], bytes := (8 : Nat), agg := false, kind := TK.int i64 })) default).toNat) default)) (Lp.th ((Rw.l (t.getD i.toNat default)).getD ((m.getD (i.toNat * List.length (TInfo.zero { zero := [Value.int i64 (0 : Int)], bytes := (8 : Nat), agg := false, kind := TK.int i64 })) default).toNat) default)), sl (Lp.cp ((Rw.l (t.getD i.toNat default)).getD ((m.getD (i.toNat * List.length (TInfo.zero { zero := [Value.int i64 (0 : Int)], bytes := (8 : Nat), agg := false, kind := TK.int i64 })) default).toNat) default)) (Lp.pa ((Rw.l (t.getD i.toNat default)).getD ((m.getD (i.toNat * List.length (TInfo.zero { zero := [Value.int i64 (0 : Int)], bytes := (8 : Nat), agg := false, kind := TK.int i64 })) default).toNat) default))] 0]), .c, .c, .lp (.exit 1) [(3, AV.box (List.map itI m)), (4, AV.box [ub 0, it 0]), (6, it i), (8, it (m.getD (i.toNat * List.length (TInfo.zero { zero := [Value.int i64 (0 : Int)], bytes := (8 : Nat), agg := false, kind := TK.int i64 })) default)), (10, tsl c t), (11, it k), (12, it i)], .c, .c] (allp g0 (allp g1 (allp g2 (allp g3 (allp g4 (allp g5 (allp g6 (allp g7 (allp g8 (allp (p := PureC Try.prog 32 [view (AV.agg [ub (Lp.b ((Rw.l (t.getD i.toNat default)).getD ((m.getD (i.toNat * List.length (TInfo.zero { zero := [Value.int i64 (0 : Int)], bytes := (8 : Nat), agg := false, kind := TK.int i64 })) default).toNat) default)), bb (Lp.w ((Rw.l (t.getD i.toNat default)).getD ((m.getD (i.toNat * List.length (TInfo.zero { zero := [Value.int i64 (0 : Int)], bytes := (8 : Nat), agg := false, kind := TK.int i64 })) default).toNat) default)), isl (Lp.ct ((Rw.l (t.getD i.toNat default)).getD ((m.getD (i.toNat * List.length (TInfo.zero { zero := [Value.int i64 (0 : Int)], bytes := (8 : Nat), agg := false, kind := TK.int i64 })) default).toNat) default)) (Lp.th ((Rw.l (t.getD i.toNat default)).getD ((m.getD (i.toNat * List.length (TInfo.zero { zero := [Value.int i64 (0 : Int)], bytes := (8 : Nat), agg := false, kind := TK.int i64 })) default).toNat) default)), sl (Lp.cp ((Rw.l (t.getD i.toNat default)).getD ((m.getD (i.toNat * List.length (TInfo.zero { zero := [Value.int i64 (0 : Int)], bytes := (8 : Nat), agg := false, kind := TK.int i64 })) default).toNat) default)) (Lp.pa ((Rw.l (t.getD i.toNat default)).getD ((m.getD (i.toNat * List.length (TInfo.zero { zero := [Value.int i64 (0 : Int)], bytes := (8 : Nat), agg := false, kind := TK.int i64 })) default).toNat) default))])] (AV.fn 45 [AV.vadr [ub (Lp.b ((Rw.l (t.getD i.toNat default)).getD ((m.getD (i.toNat * List.length (TInfo.zero { zero := [Value.int i64 (0 : Int)], bytes := (8 : Nat), agg := false, kind := TK.int i64 })) default).toNat) default)), bb (Lp.w ((Rw.l (t.getD i.toNat default)).getD ((m.getD (i.toNat * List.length (TInfo.zero { zero := [Value.int i64 (0 : Int)], bytes := (8 : Nat), agg := false, kind := TK.int i64 })) default).toNat) default)), isl (Lp.ct ((Rw.l (t.getD i.toNat default)).getD ((m.getD (i.toNat * List.length (TInfo.zero { zero := [Value.int i64 (0 : Int)], bytes := (8 : Nat), agg := false, kind := TK.int i64 })) default).toNat) default)) (Lp.th ((Rw.l (t.getD i.toNat default)).getD ((m.getD (i.toNat * List.length (TInfo.zero { zero := [Value.int i64 (0 : Int)], bytes := (8 : Nat), agg := false, kind := TK.int i64 })) default).toNat) default)), sl (Lp.cp ((Rw.l (t.getD i.toNat default)).getD ((m.getD (i.toNat * List.length (TInfo.zero { zero := [Value.int i64 (0 : Int)], bytes := (8 : Nat), agg := false, kind := TK.int i64 })) default).toNat) default)) (Lp.pa ((Rw.l (t.getD i.toNat default)).getD ((m.getD (i.toNat * List.length (TInfo.zero { zero := [Value.int i64 (0 : Int)], bytes := (8 : Nat), agg := false, kind := TK.int i64 })) default).toNat) default))] 0])) (by (first | rw [zqh] | rw [zqg] | rw [zrc] | skip); apply yb2<;>first|assumption|rfl|(simp at *<;>omega)) (allp (p := Tri Try.prog (cxN (45 : Nat) (0 : Nat)) (yah Try.f39 (0 : Nat)) [(3, AV.box (List.map itI m)), (4, AV.box [ub 0, it 0]), (6, it i), (8, it (m.getD (i.toNat * List.length (TInfo.zero { zero := [Value.int i64 (0 : Int)], bytes := (8 : Nat), agg := false, kind := TK.int i64 })) default)), (10, tsl c t), (11, it k), (12, it i), (28, AV.fn 45 [AV.vadr [ub (Lp.b ((Rw.l (t.getD i.toNat default)).getD ((m.getD (i.toNat * List.length (TInfo.zero { zero := [Value.int i64 (0 : Int)], bytes := (8 : Nat), agg := false, kind := TK.int i64 })) default).toNat) default)), bb (Lp.w ((Rw.l (t.getD i.toNat default)).getD ((m.getD (i.toNat * List.length (TInfo.zero { zero := [Value.int i64 (0 : Int)], bytes := (8 : Nat), agg := false, kind := TK.int i64 })) default).toNat) default)), isl (Lp.ct ((Rw.l (t.getD i.toNat default)).getD ((m.getD (i.toNat * List.length (TInfo.zero { zero := [Value.int i64 (0 : Int)], bytes := (8 : Nat), agg := false, kind := TK.int i64 })) default).toNat) default)) (Lp.th ((Rw.l (t.getD i.toNat default)).getD ((m.getD (i.toNat * List.length (TInfo.zero { zero := [Value.int i64 (0 : Int)], bytes := (8 : Nat), agg := false, kind := TK.int i64 })) default).toNat) default)), sl (Lp.cp ((Rw.l (t.getD i.toNat default)).getD ((m.getD (i.toNat * List.length (TInfo.zero { zero := [Value.int i64 (0 : Int)], bytes := (8 : Nat), agg := false, kind := TK.int i64 })) default).toNat) default)) (Lp.pa ((Rw.l (t.getD i.toNat default)).getD ((m.getD (i.toNat * List.length (TInfo.zero { zero := [Value.int i64 (0 : Int)], bytes := (8 : Nat), agg := false, kind := TK.int i64 })) default).toNat) default))] 0])] (.exit 1) [(3, AV.box (List.map itI m)), (4, AV.box [ub 0, it 0]), (6, it i), (8, it (m.getD (i.toNat * List.length (TInfo.zero { zero := [Value.int i64 (0 : Int)], bytes := (8 : Nat), agg := false, kind := TK.int i64 })) default)), (10, tsl c t), (11, it k), (12, it i)]) (by first | (apply yb2<;>first|assumption|rfl|(simp at *<;>omega)) | (apply yno<;>first|assumption|rfl|(simp at *<;>omega)) | (refine Tri.weak [(3, .keep), (4, .keep), (6, .keep), (8, .keep), (10, .keep), (11, .keep), (12, .keep), (28, .keep)] ?_; apply yno<;>first|assumption|rfl|(simp at *<;>omega))) zqa)))))))))))
structure OkL (t : List Rw) : Prop where
 len : t.length ≤ 6
 row : ∀ r ∈ t, r.l.length < 2 ^ 60
 th : ∀ r ∈ t, ∀ L ∈ r.l, L.th.length < 2 ^ 60 ∧ L.pa.length < 2 ^ 60
 yy : ∀ r ∈ t, ∀ L ∈ r.l, okY L
structure OkM (m : List Int) (t : List Rw) : Prop where
 len : m.length = 6
 le : ∀ i, i < t.length → 0 ≤ m.getD i default ∧ m.getD i default ≤ (t.getD i default).l.length
def ycj (m : List Int) (t : List Rw) (i : Nat) : Bool := !(m.getD i default == (((t.getD i default).l.length : Nat) : Int)) && ycv m ((t.getD i default).l.getD (m.getD i default).toNat default)
def ybl (m : List Int) (t : List Rw) : Nat → Nat → Option Nat
 | 0, _ => none
 | k + 1, i => if ycj m t i then some i else ybl m t k (i + 1)
abbrev eL (m : List Int) (c : Option Nat) (t : List Rw) (k i : Int) : Env := [(3, .box (m.map itI)), (4, .box [ub 0, it 0]), (10, tsl c t), (11, it k), (12, it i)]
def lsX' : Option Nat → Ex
 | some _ => .ret
 | none => .exit 0
def lsR (m : List Int) : Option Nat → Env
 | some i => [(4, .box [ub ((i + 1 : Nat) : Int), it (m.getD i default)]), (5, bb true)]
 | none => [(4, .box [ub 0, it 0])]
section
variable (m : List Int) (c : Option Nat) (t : List Rw) (hL : OkL t) (hM : OkM m t)
include hL hM
theorem ymn {i : Nat} (hi : i < t.length) : t.getD i default ∈ t := by
 rw [zld, zle hi]; exact zlu _
theorem yxz : ∀ (k i : Nat), i + k = t.length → Rnd Try.prog (cxN 45 0) (zqc Try.f39 0) (k + 1) (eL m c t ((t.length : Nat) : Int) i) (lsX' (ybl m t k i)) (lsR m (ybl m t k i)) := by
 intro k
 induction k with
 | zero =>
  intro i hi
  exact Rnd.exit (ex := .exit 0) (Tri.after [(4, .keep)] (lsE_0 m hM.len c t _ i (zlc (by omega)) (zlc (by omega)))) (by simp)
 | succ k ih =>
  intro i hi
  have hi' : i < t.length := by omega
  have h6 := hL.len
  have hm6 := hM.len
  obtain ⟨b1, b2⟩ := hM.le i hi'
  have hr := ymn m t hL hM hi'
  have hrl := hL.row _ hr
  have hw : i64.wrap ((i : Int) + 1) = ((i + 1 : Nat) : Int) := by rw [yak (by omega) (by omega)]; omega
  have hw8 : u8.wrap ((i + 1 : Nat) : Int) = ((i + 1 : Nat) : Int) := by
   show Int.emod ((i + 1 : Nat) : Int) 256 = _
   exact Int.emod_eq_of_lt (by omega) (by omega)
  have g0 : decide ((i : Int) < ((t.length : Nat) : Int)) = true := zlb (by omega)
  have g1 : decide ((0 : Int) ≤ (i : Int) ∧ (i : Int) < ((t.length : Nat) : Int)) = true := zlb (by omega)
  have g2 := ybb hi'
  have g3 : decide ((0 : Int) ≤ (i : Int) ∧ (i : Int) < ((6 : Nat) : Int) ∧ (0 : Nat) < 1) = true := zlb ⟨by omega, by omega, by omega⟩
  have g4 : decide (True ∧ i < m.length) = true := zlb ⟨trivial, by omega⟩
  have g5 := yg5 (m := m) (i := i) (by omega)
  have hih := ih (i + 1) (by omega)
  rw [ybl]
  have nz : (0 : Nat) < 1 := by omega
  by_cases he : m.getD i default = (((t.getD i default).l.length : Nat) : Int)
  ·have hc : ycj m t i = false := by unfold ycj; rw [he]; simp
   rw [hc, if_neg (by simp)]
   have q := lsN_0 m hM.len c t ((t.length : Nat) : Int) i
   simp only [TInfo.zero, List.length_cons, List.length_nil, Nat.zero_add, Nat.mul_one, zlf, hw, zla] at q
   have e := beq_iff_eq.2 he
   exact Rnd.step (q g0 e g0 g1 g2 g3 g4 g5 e) hih
  ·have e : (m.getD i default == (((t.getD i default).l.length : Nat) : Int)) = false := beq_eq_false_iff_ne.2 he
   have hn : (m.getD i default).toNat < (t.getD i default).l.length := by omega
   have hLm : (t.getD i default).l.getD (m.getD i default).toNat default ∈ (t.getD i default).l := by
    rw [zld (i := (m.getD i default).toNat), zle hn]; exact zlu _
   have p1 := hL.th _ hr _ hLm
   have p2 := hL.yy _ hr _ hLm
   have g7 : decide ((0 : Int) ≤ m.getD i default ∧ m.getD i default < (((t.getD i default).l.length : Nat) : Int)) = true := zlb (by omega)
   have g8 := yc7 hn
   cases hv : ycv m ((t.getD i default).l.getD (m.getD i default).toNat default) with
   | true =>
    have hc : ycj m t i = true := by unfold ycj; rw [e, hv]; rfl
    rw [hc, if_pos rfl]
    have q := lsY_0 m hM.len c t ((t.length : Nat) : Int) i
    simp only [LX, TInfo.zero, List.length_cons, List.length_nil, Nat.zero_add, Nat.mul_one, zlf, hw, hw8, zla] at q
    exact Rnd.exit (ex := .ret) (q g0 e p1.1 p1.2 p2 hv g0 g1 g2 g3 g4 g5 e g7 g8) (by simp)
   | false =>
    have hc : ycj m t i = false := by unfold ycj; rw [e, hv]; rfl
    rw [hc, if_neg (by simp)]
    have q := lsX_0 m hM.len c t ((t.length : Nat) : Int) i
    simp only [LX, TInfo.zero, List.length_cons, List.length_nil, Nat.zero_add, Nat.mul_one, zlf, hw, hw8, zla] at q
    exact Rnd.step (q g0 e p1.1 p1.2 p2 hv g0 g1 g2 g3 g4 g5 e g7 g8) hih
end
theorem yx1 (c : Option Nat) (t : List Rw) (a0 a1 a2 a3 a4 a5 : Int) : Tri Try.prog (cxN 45 0) (zqr Try.f39 0) ([(0, tsl c t), (1, .agg [it a0, it a1, it a2, it a3, it a4, it a5])]) .normal ([(0, tsl c t), (3, AV.box [it a0, it a1, it a2, it a3, it a4, it a5]), (4, AV.box [ub 0, it 0])]) :=
 ev h39 [.c, .c, .c] zqa
theorem ls1_0 (c : Option Nat) (t : List Rw) (m : List Int) : Tri Try.prog (cxN 45 0) (zqr Try.f39 1) ([(0, tsl c t), (3, .box (m.map itI)), (4, .box [ub 0, it 0])]) .normal ([(3, AV.box (List.map itI m)), (4, AV.box [ub 0, it 0]), (10, tsl c t), (11, it ((t.map Rw.enc).length : Int)), (12, it 0)]) :=
 ev h39 [.c, .c, .c] zqa
theorem yx0 (x : Nat) : Tri Try.prog (cxN 45 0) (zqr Try.f39 11) ([(4, .box [ub 0, it 0])]) .normal ([(4, AV.box [ub 0, it 0]), (5, bb false)]) :=
 ev h39 [.c, .c, .c] zqa
theorem yf2 : Try.f39.body = some (.seq (zqr Try.f39 0) (.scope (.seq (.label 0) (.seq (.seq (zqr Try.f39 1) (.block 0 (.loop (zqc Try.f39 0)))) (.seq (zqr Try.f39 11) .ret))))) := by kernel_rfl
theorem yhp {P : Program} {cx : Cx} (l : Nat) (env : Env) : Tri P cx (.label l) env .normal env := by
 intro ρ hρ F B0 w0 S0 ds a w Q hag hQ
 exact wpIn_label (hQ a w hag.m)
abbrev m6 (a0 a1 a2 a3 a4 a5 : Int) : List Int := [a0, a1, a2, a3, a4, a5]
def ya3 (m : List Int) (t : List Rw) : Option Nat := ybl m t t.length 0
def yyb (m : List Int) : Option Nat → AV
 | some i => .tup [idE ((i + 1 : Nat) : Int) (m.getD i default), bb true]
 | none => .tup [idE 0 0, bb false]
theorem ynn (c : Option Nat) (t : List Rw) (a0 a1 a2 a3 a4 a5 : Int) (hL : OkL t) (hM : OkM (m6 a0 a1 a2 a3 a4 a5) t) : PureC Try.prog 39 [tsl c t, .agg [it a0, it a1, it a2, it a3, it a4, it a5]] (yyb (m6 a0 a1 a2 a3 a4 a5) (ya3 (m6 a0 a1 a2 a3 a4 a5) t)) := by
 have hl := Rnd.loop (yxz (m6 a0 a1 a2 a3 a4 a5) c t hL hM t.length 0 (by omega))
 have h1 := ls1_0 c t (m6 a0 a1 a2 a3 a4 a5)
 rw [zla] at h1
 unfold ya3
 generalize ybl (m6 a0 a1 a2 a3 a4 a5) t t.length 0 = o at hl ⊢
 cases o with
 | some i =>
  refine ycc ((base 45 0).ok zqb.1 zqb.2) Try.func39 rfl (by show 2 ≤ 45; omega) rfl yf2 rfl (ex := .ret) (env' := lsR (m6 a0 a1 a2 a3 a4 a5) (some i)) ?_ (by kernel_rfl)
  exact .seq (yx1 c t a0 a1 a2 a3 a4 a5) (.scope (.seq (yhp 0 _) (.seqX (.seq h1 (.block (ex := .ret) hl (.inr ⟨by simp, rfl⟩))) (by simp))))
 | none =>
  refine ycc ((base 45 0).ok zqb.1 zqb.2) Try.func39 rfl (by show 2 ≤ 45; omega) rfl yf2 rfl (ex := .ret) (env' := [(4, .box [ub 0, it 0]), (5, bb false)]) ?_ (by kernel_rfl)
  exact .seq (yx1 c t a0 a1 a2 a3 a4 a5) (.scope (.seq (yhp 0 _) (.seq (.seq h1 (.block (ex := .exit 0) (ex' := .normal) hl (.inl ⟨rfl, rfl⟩))) (.seq (yx0 0) .ret))))
theorem yto (c : Option Nat) (t : List Rw) (a0 a1 a2 a3 a4 a5 : Int) (hL : OkL t) (hM : OkM (m6 a0 a1 a2 a3 a4 a5) t) (i : Nat) (h : ya3 (m6 a0 a1 a2 a3 a4 a5) t = some i) (n : Int) (hn : (m6 a0 a1 a2 a3 a4 a5).getD i default = n) : PureC Try.prog 39 [tsl c t, .agg [it a0, it a1, it a2, it a3, it a4, it a5]] (.tup [idE ((i + 1 : Nat) : Int) n, bb true]) := by
 have := ynn c t a0 a1 a2 a3 a4 a5 hL hM
 rw [h] at this
 rw [← hn]
 exact this
theorem ytp (c : Option Nat) (t : List Rw) (a0 a1 a2 a3 a4 a5 : Int) (hL : OkL t) (hM : OkM (m6 a0 a1 a2 a3 a4 a5) t) (h : ya3 (m6 a0 a1 a2 a3 a4 a5) t = none) : PureC Try.prog 39 [tsl c t, .agg [it a0, it a1, it a2, it a3, it a4, it a5]] (.tup [idE 0 0, bb false]) := by
 have := ynn c t a0 a1 a2 a3 a4 a5 hL hM
 rw [h] at this
 exact this
theorem fs3_0 (c : Option Nat) (t : List Rw) (a0 a1 a2 a3 a4 a5 : Int) (hL : OkL t) (hM : OkM (m6 a0 a1 a2 a3 a4 a5) t) (i : Nat) (h : ya3 (m6 a0 a1 a2 a3 a4 a5) t = some i) (n : Int) (hn : (m6 a0 a1 a2 a3 a4 a5).getD i default = n) (k : Nat) (o : List Idd) : Tri Try.prog (cxN 30 0) (zqr Try.f24 3) ([(0, tsl c t), (3, iow (some k) o), (4, .box [it a0, it a1, it a2, it a3, it a4, it a5])]) .normal ([(0, tsl c t), (3, iow (some k) o), (4, AV.box [it a0, it a1, it a2, it a3, it a4, it a5]), (5, AV.box [ub (i + (1 : Nat) : Int), it n]), (6, bb true)]) :=
 ev h24 [.c, .c, .r (tsl c t), .r (AV.tup [AV.agg [ub (i + (1 : Nat) : Int), it n], bb true]), .c, .c, .c, .c, .c, .c, .c, .c] (allp (zqg .any c t) (allp (p := PureC Try.prog 39 [tsl c t, AV.agg [it a0, it a1, it a2, it a3, it a4, it a5]] (AV.tup [AV.agg [ub (i + (1 : Nat) : Int), it n], bb true])) (by apply yto<;>first|assumption|rfl|(simp at *<;>omega)) zqa))
theorem yzh (c : Option Nat) (t : List Rw) (a0 a1 a2 a3 a4 a5 : Int) (hL : OkL t) (hM : OkM (m6 a0 a1 a2 a3 a4 a5) t) (h : ya3 (m6 a0 a1 a2 a3 a4 a5) t = none) (k : Nat) (o : List Idd) : Tri Try.prog (cxN 30 0) (zqr Try.f24 3) ([(0, tsl c t), (3, iow (some k) o), (4, .box [it a0, it a1, it a2, it a3, it a4, it a5])]) .normal ([(0, tsl c t), (3, iow (some k) o), (4, AV.box [it a0, it a1, it a2, it a3, it a4, it a5]), (5, AV.box [ub 0, it 0]), (6, bb false)]) :=
 ev h24 [.c, .c, .r (tsl c t), .r (AV.tup [AV.agg [ub 0, it 0], bb false]), .c, .c, .c, .c, .c, .c, .c, .c] (allp (zqg .any c t) (allp (p := PureC Try.prog 39 [tsl c t, AV.agg [it a0, it a1, it a2, it a3, it a4, it a5]] (AV.tup [AV.agg [ub 0, it 0], bb false])) (by apply ytp<;>first|assumption|rfl|(simp at *<;>omega)) zqa))
theorem yzg (c : Option Nat) (t : List Rw) (m : List Int) (k : Nat) (o : List Idd) (y n : Int) (b : Bool) : Tri Try.prog (cxN 30 0) (zqr Try.f24 4) ([(0, tsl c t), (3, iow (some k) o), (4, .box (m.map itI)), (5, .box [ub y, it n]), (6, bb b)]) .normal ([(0, tsl c t), (3, iow (some k) o), (4, AV.box (List.map itI m)), (5, AV.box [ub y, it n]), (17, bb !b)]) :=
 ev h24 [.c, .c] zqa
theorem fs5_0 (k : Nat) (o : List Idd) : Tri Try.prog (cxN 30 0) (zqr Try.f24 5) ([(3, iow (some k) o)]) .normal ([(2, AV.al 3 [] none), (3, iow (some k) o)]) :=
 ev h24 [.c, .c] zqa
theorem fs6_0 (c : Option Nat) (t : List Rw) (m : List Int) (k : Nat) (o : List Idd) (y n : Int) (g0 : AV.sl .own 36 (some 1) [AV.agg [ub y, it n]] = iow (some (1 : Nat)) [{ y := y, n := n }]) (g1 : decide ((o.map Idd.enc).length + (List.map Idd.enc [{ y := y, n := n }]).length ≤ (4294967296 : Nat)) = true) (g2 : AV.sl .own 36 (if (o.map Idd.enc).length + (List.map Idd.enc [{ y := y, n := n }]).length ≤ k then some k else none) (List.map Idd.enc o ++ List.map Idd.enc [{ y := y, n := n }]) = iow (some k) (o ++ [{ y := y, n := n }])) : Tri Try.prog (cxN 30 0) (zqr Try.f24 6) ([(0, tsl c t), (3, iow (some k) o), (4, .box (m.map itI)), (5, .box [ub y, it n])]) .normal ([(0, tsl c t), (3, iow (some k) (o ++ [{ y := y, n := n }])), (4, AV.box (List.map itI m)), (5, AV.box [ub y, it n])]) :=
 ev h24 [.c, .c, .r (iow (some (1 : Nat)) [{ y := y, n := n }]), .c, .b true, .r (iow (some k) (o ++ [{ y := y, n := n }])), .c] (allp g0 (allp g1 (allp g2 zqa)))
theorem fs7_0 (c : Option Nat) (t : List Rw) (m : List Int) (hm : m.length = 6) (k : Nat) (o : List Idd) (y n : Int) (g0 : decide (0 ≤ u8.wrap (y - (1 : Int)) ∧ u8.wrap (y - (1 : Int)) < ((6 : Nat) : Int) ∧ (0 : Nat) < List.length (TInfo.zero { zero := [Value.int i64 (0 : Int)], bytes := (8 : Nat), agg := false, kind := TK.int i64 })) = true) (g1 : decide ((0 : Nat) = (0 : Nat) ∧ (u8.wrap (y - (1 : Int))).toNat * List.length (TInfo.zero { zero := [Value.int i64 (0 : Int)], bytes := (8 : Nat), agg := false, kind := TK.int i64 }) < (m.map itI).length) = true) (g2 : (m.map itI).getD ((u8.wrap (y - (1 : Int))).toNat * List.length (TInfo.zero { zero := [Value.int i64 (0 : Int)], bytes := (8 : Nat), agg := false, kind := TK.int i64 })) AV.bad = itI (m.getD ((u8.wrap (y - (1 : Int))).toNat * List.length (TInfo.zero { zero := [Value.int i64 (0 : Int)], bytes := (8 : Nat), agg := false, kind := TK.int i64 })) default)) : Tri Try.prog (cxN 30 0) (zqr Try.f24 7) ([(0, tsl c t), (3, iow (some k) o), (4, .box (m.map itI)), (5, .box [ub y, it n])]) .normal ([(0, tsl c t), (3, iow (some k) o), (4, AV.box (List.take ((u8.wrap (y - (1 : Int))).toNat * List.length (TInfo.zero { zero := [Value.int i64 (0 : Int)], bytes := (8 : Nat), agg := false, kind := TK.int i64 })) (List.map itI m) ++ [it (i64.wrap (m.getD ((u8.wrap (y - (1 : Int))).toNat * List.length (TInfo.zero { zero := [Value.int i64 (0 : Int)], bytes := (8 : Nat), agg := false, kind := TK.int i64 })) default + (1 : Int)))] ++ List.drop ((u8.wrap (y - (1 : Int))).toNat * List.length (TInfo.zero { zero := [Value.int i64 (0 : Int)], bytes := (8 : Nat), agg := false, kind := TK.int i64 }) + (1 : Nat)) (List.map itI m)))]) :=
 ev h24 [.c, .c, .c, .c, .c, .b true, .c, .b true, .r (itI (m.getD ((u8.wrap (y - (1 : Int))).toNat * List.length (TInfo.zero { zero := [Value.int i64 (0 : Int)], bytes := (8 : Nat), agg := false, kind := TK.int i64 })) default)), .c, .c, .b true, .c, .b true, .r (itI (m.getD ((u8.wrap (y - (1 : Int))).toNat * List.length (TInfo.zero { zero := [Value.int i64 (0 : Int)], bytes := (8 : Nat), agg := false, kind := TK.int i64 })) default)), .c] (allp g0 (allp g1 (allp g2 (allp g0 (allp g1 (allp g2 zqa))))))
def bump (m : List Int) (i : Nat) : List Int := m.take i ++ [m.getD i default + 1] ++ m.drop (i + 1)
theorem yqy {m : List Int} {i : Nat} (h : i < m.length) : (bump m i).length = m.length := by
 unfold bump; simp; omega
theorem yep {m : List Int} {i : Nat} (h : i < m.length) (j : Nat) : (bump m i).getD j default = if j = i then m.getD i default + 1 else m.getD j default := by
 unfold bump
 rw [zlp]
 simp only [zld]
 by_cases h1 : j < i
 ·rw [List.getElem?_append_left (by simp; omega), List.getElem?_take_of_lt h1, if_neg (by omega)]
 ·rw [List.getElem?_append_right (by simp; omega)]
  have hl : (m.take i).length = i := by simp; omega
  rw [hl]
  by_cases h2 : j = i
  ·subst h2; simp
  ·rw [if_neg h2]
   have : j - i = (j - (i + 1)) + 1 := by omega
   rw [this, List.singleton_append, List.getElem?_cons_succ, List.getElem?_drop]
   congr 2; omega
theorem yb5 {m : List Int} {t : List Rw} : ∀ (k j i : Nat), j + k = t.length → ybl m t k j = some i → i < t.length ∧ ycj m t i = true
 | 0, j, i, h, hs => by simp [ybl] at hs
 | k + 1, j, i, h, hs => by
  rw [ybl] at hs
  by_cases hc : ycj m t j = true
  ·rw [if_pos hc] at hs; injection hs with hs; subst hs; exact ⟨by omega, hc⟩
  ·rw [if_neg hc] at hs; exact yb5 k (j + 1) i (by omega) hs
theorem OkM.bump {m : List Int} {t : List Rw} (hL : OkL t) (hM : OkM m t) {i : Nat} (h : ya3 m t = some i) : OkM (bump m i) t := by
 obtain ⟨hi, hc⟩ := yb5 t.length 0 i (by omega) h
 have h6 := hL.len
 have hm := hM.len
 refine ⟨by rw [yqy (by omega)]; exact hm, fun j hj => ?_⟩
 rw [yep (by omega)]
 have hj' := hM.le j hj
 by_cases e : j = i
 ·rw [if_pos e]
  subst e
  unfold ycj at hc
  rw [zlo] at hc
  have : m.getD j default ≠ (((t.getD j default).l.length : Nat) : Int) := by
   intro e; rw [e] at hc; simp at hc
  omega
 ·rw [if_neg e]; exact hj'
def remV (m : List Int) (t : List Rw) : Nat := ((List.range t.length).map fun i => (t.getD i default).l.length - (m.getD i default).toNat).sum
theorem yju {f g : Nat → Nat} : ∀ n, (∀ j, j < n → f j = g j) → ((List.range n).map f).sum = ((List.range n).map g).sum
 | 0, _ => rfl
 | n + 1, h => by
  rw [List.range_succ, zlq, zlq, List.sum_append, List.sum_append, yju n fun j hj => h j (by omega)]
  simp [h n (by omega)]
theorem yma {f g : Nat → Nat} {i : Nat} : ∀ n, i < n → (∀ j, j ≠ i → f j = g j) → f i = g i + 1 → ((List.range n).map f).sum = ((List.range n).map g).sum + 1
 | 0, h, _, _ => by omega
 | n + 1, h, h1, h2 => by
  rw [List.range_succ, zlq, zlq, List.sum_append, List.sum_append]
  by_cases e : i = n
  ·subst e
   rw [yju i fun j hj => h1 j (by omega)]
   simp [h2]; omega
  ·rw [yma n (by omega) h1 h2]
   simp [h1 n (by omega)]; omega
theorem yj0 {m : List Int} {t : List Rw} (hL : OkL t) (hM : OkM m t) {i : Nat} (h : ya3 m t = some i) : remV m t = remV (bump m i) t + 1 := by
 obtain ⟨hi, hc⟩ := yb5 t.length 0 i (by omega) h
 have hb := (hM.bump hL h).le i hi
 have h6 := hL.len
 have hm := hM.len
 have ha := hM.le i hi
 rw [yep (by omega), if_pos rfl] at hb
 refine yma (i := i) t.length hi (fun j hj => ?_) ?_
 ·show _ = (t.getD j default).l.length - ((Tst.bump m i).getD j default).toNat
  rw [yep (by omega), if_neg hj]
 ·show _ = (t.getD i default).l.length - ((Tst.bump m i).getD i default).toNat + 1
  rw [yep (by omega), if_pos rfl]
  omega
def ycz (t : List Rw) : Nat → List Int → List Idd
 | 0, _ => []
 | f + 1, m => match ya3 m t with
  | none => []
  | some i => ⟨((i + 1 : Nat) : Int), m.getD i default⟩ :: ycz t f (bump m i)
theorem yn2 : zqc Try.f24 0 = .block 1 (.seq (zqr Try.f24 3) (.seq (.seq (zqr Try.f24 4) (.cond (.tmp 17) (.seq (zqr Try.f24 5) .ret) .skip)) (.seq (zqr Try.f24 6) (zqr Try.f24 7)))) := by kernel_rfl
abbrev eF (m : List Int) (c : Option Nat) (t : List Rw) (k : Nat) (o : List Idd) : Env := [(0, tsl c t), (3, iow (some k) o), (4, .box (m.map itI))]
theorem yxu {m : List Int} (h : m.length = 6) : ∃ a0 a1 a2 a3 a4 a5, m = m6 a0 a1 a2 a3 a4 a5 := by
 match m, h with
 | [a0, a1, a2, a3, a4, a5], _ => exact ⟨a0, a1, a2, a3, a4, a5, rfl⟩
section
variable (m : List Int) (c : Option Nat) (t : List Rw) (hL : OkL t) (hM : OkM m t) (k : Nat) (o : List Idd)
include hL hM
theorem fs3Y (i : Nat) (h : ya3 m t = some i) : Tri Try.prog (cxN 30 0) (zqr Try.f24 3) (eF m c t k o) .normal [(0, tsl c t), (3, iow (some k) o), (4, .box (m.map itI)), (5, .box [ub ((i + 1 : Nat) : Int), it (m.getD i default)]), (6, bb true)] := by
 obtain ⟨a0, a1, a2, a3, a4, a5, rfl⟩ := yxu hM.len
 exact fs3_0 c t a0 a1 a2 a3 a4 a5 hL hM i h _ rfl k o
theorem fs3N (h : ya3 m t = none) : Tri Try.prog (cxN 30 0) (zqr Try.f24 3) (eF m c t k o) .normal [(0, tsl c t), (3, iow (some k) o), (4, .box (m.map itI)), (5, .box [ub 0, it 0]), (6, bb false)] := by
 obtain ⟨a0, a1, a2, a3, a4, a5, rfl⟩ := yxu hM.len
 exact yzh c t a0 a1 a2 a3 a4 a5 hL hM h k o
theorem yzf (h : ya3 m t = none) : Tri Try.prog (cxN 30 0) (zqc Try.f24 0) (eF m c t k o) .ret [(2, .al 3 [] none), (3, iow (some k) o)] := by
 rw [yn2]
 refine .block (ex := .ret) ?_ (.inr ⟨by simp, rfl⟩)
 refine .seq (fs3N m c t hL hM k o h) (.seqX (.seq (yzg c t m k o 0 0 false) (.cond (b := true) rfl ?_)) (by simp))
 exact .seq (.weak [(3, .keep)] (fs5_0 k o)) .ret
theorem yt5 (i : Nat) (h : ya3 m t = some i) (ho : o.length + 1 ≤ k) (hk : k ≤ 4294967296) : Tri Try.prog (cxN 30 0) (zqc Try.f24 0) (eF m c t k o) .normal (eF (bump m i) c t k (o ++ [⟨((i + 1 : Nat) : Int), m.getD i default⟩])) := by
 obtain ⟨hi, hc⟩ := yb5 t.length 0 i (by omega) h
 have h6 := hL.len
 have hm := hM.len
 have ha := hM.le i hi
 have hr := hL.row _ (ymn m t hL hM hi)
 have w : u8.wrap (((i + 1 : Nat) : Int) - 1) = (i : Int) := by rw [ygj (by omega) (by omega)]; omega
 have w2 : i64.wrap (m.getD i default + 1) = m.getD i default + 1 := yak (by omega) (by omega)
 have q := fs7_0 c t m hm k (o ++ [⟨((i + 1 : Nat) : Int), m.getD i default⟩]) ((i + 1 : Nat) : Int) (m.getD i default)
 simp only [w, TInfo.zero, List.length_cons, List.length_nil, Nat.zero_add, Nat.mul_one, zla, zlf, w2] at q
 have q' := q (zlb ⟨by omega, by omega, by omega⟩) (zlb ⟨trivial, by omega⟩) (yg5 (by omega))
 have e : (bump m i).map itI = List.take i (m.map itI) ++ [itI (m.getD i default + 1)] ++ List.drop (i + 1) (m.map itI) := by
  unfold bump; rw [zlq, zlq, List.map_take, List.map_drop]; rfl
 rw [yn2]
 refine .block (ex := .normal) ?_ (.inr ⟨by simp, rfl⟩)
 refine .seq (fs3Y m c t hL hM k o i h) (.seq (.seq (yzg c t m k o _ _ true) (.cond (b := false) rfl (.after [(0, .keep), (3, .keep), (4, .keep), (5, .keep)] .skip))) (.seq (fs6_0 c t m k o _ _ rfl (zlb (by simp; omega)) ?_) ?_))
 ·rw [if_pos (by simp; omega), ← zlq]
 ·show Tri Try.prog (cxN 30 0) (zqr Try.f24 7) _ .normal [(0, tsl c t), (3, iow (some k) (o ++ [⟨((i + 1 : Nat) : Int), m.getD i default⟩])), (4, .box ((bump m i).map itI))]
  rw [e]
  exact Tri.after [(0, .keep), (3, .keep), (4, .keep)] q'
end
theorem yze (c : Option Nat) (t : List Rw) (hL : OkL t) (k : Nat) (hk : k ≤ 4294967296) : ∀ (f : Nat) (m : List Int) (o : List Idd), OkM m t → f = remV m t + 1 → o.length + remV m t ≤ k →
  Rnd Try.prog (cxN 30 0) (zqc Try.f24 0) f (eF m c t k o) .ret [(2, .al 3 [] none), (3, iow (some k) (o ++ ycz t f m))] := by
 intro f
 induction f with
 | zero => intro m o hM hf; omega
 | succ f ih =>
  intro m o hM hf ho
  rw [ycz]
  cases h : ya3 m t with
  | none =>
   simp only [List.append_nil]
   exact Rnd.exit (ex := .ret) (yzf m c t hL hM k o h) (by simp)
  | some i =>
   have hr := yj0 hL hM h
   have := ih (bump m i) (o ++ [⟨((i + 1 : Nat) : Int), m.getD i default⟩]) (hM.bump hL h) (by omega) (by simp; omega)
   rw [zlp] at this
   exact Rnd.step (yt5 m c t hL hM k o i h (by omega) hk) this
theorem fi0_0 (c : Option Nat) (t : List Rw) : Tri Try.prog (cxN 30 0) (zqr Try.f24 0) ([(0, tsl c t)]) .normal ([(0, tsl c t)]) :=
 ev h24 [.c] zqa
theorem fi1_0 (c : Option Nat) (t : List Rw) (hc : cntV t < 2 ^ 62) (ht : t.length < 2 ^ 60) (g0 : decide (0 ≤ (0 : Int) ∧ (0 : Int) ≤ (cntV t : Int) ∧ (cntV t : Int) ≤ (4294967296 : Int) ∧ TInfo.bytes { zero := [Value.int u8 (0 : Int), Value.int i64 (0 : Int)], bytes := (16 : Nat), agg := true, kind := TK.struct [((0 : Nat), (1 : Nat)), ((1 : Nat), (1 : Nat))] } ≤ (4096 : Nat) ∧ (0 : Nat) < List.length (TInfo.zero { zero := [Value.int u8 (0 : Int), Value.int i64 (0 : Int)], bytes := (16 : Nat), agg := true, kind := TK.struct [((0 : Nat), (1 : Nat)), ((1 : Nat), (1 : Nat))] })) = true) (g1 : AV.sl .own 36 (some ((cntV t : Int).toNat)) [] = iow (some ((cntV t : Int).toNat)) (List.replicate ((0 : Int).toNat) { y := (0 : Int), n := (0 : Int) })) : Tri Try.prog (cxN 30 0) (zqr Try.f24 1) ([(0, tsl c t)]) .normal ([(0, tsl c t), (3, AV.sl .own 36 (some ((cntV t : Int).toNat)) [])]) :=
 ev h24 [.c, .r (tsl c t), .r (it (cntV t : Int)), .c, .c, .b true, .r (iow (some ((cntV t : Int).toNat)) (List.replicate ((0 : Int).toNat) { y := (0 : Int), n := (0 : Int) })), .c] (allp (zqg .any c t) (allp (p := PureC Try.prog 12 [tsl c t] (it (cntV t : Int))) (by apply ybp<;>first|assumption|rfl|(simp at *<;>omega)) (allp g0 (allp g1 zqa))))
theorem fi2_0 (c : Option Nat) (t : List Rw) (k : Nat) : Tri Try.prog (cxN 30 0) (zqr Try.f24 2) ([(0, tsl c t), (3, iow (some k) [])]) .normal ([(0, tsl c t), (3, AV.sl .own 36 (some k) []), (4, AV.box [it 0, it 0, it 0, it 0, it 0, it 0])]) :=
 ev h24 [.c] zqa
abbrev m0 : List Int := m6 0 0 0 0 0 0
theorem yrp (i : Nat) : m0.getD i default = 0 := by
 match i with
 | 0 => rfl
 | 1 => rfl
 | 2 => rfl
 | 3 => rfl
 | 4 => rfl
 | 5 => rfl
 | n + 6 => rfl
theorem okM0 (t : List Rw) : OkM m0 t := ⟨rfl, fun i hi => by rw [yrp]; omega⟩
theorem rem0 (t : List Rw) : remV m0 t = cntV t := by
 unfold remV cntV
 congr 1
 refine List.ext_getElem (by simp) fun i h1 h2 => ?_
 have hi : i < t.length := by simpa using h2
 simp only [List.getElem_map, List.getElem_range, yrp]
 rw [zld, zle hi]
 rfl
def ya7 (t : List Rw) : List Idd := ycz t (cntV t + 1) m0
theorem ylp : Try.f24.body = some (.seq (zqr Try.f24 0) (.seq (zqr Try.f24 1) (.seq (zqr Try.f24 2) (.block 0 (.loop (zqc Try.f24 0)))))) := by kernel_rfl
theorem yjd (c : Option Nat) (t : List Rw) (hL : OkL t) (hc : cntV t ≤ 4294967296) : PureC Try.prog 24 [tsl c t] (iow (some (cntV t)) (ya7 t)) := by
 have h6 := hL.len
 have hl := Rnd.loop (yze c t hL (cntV t) hc (cntV t + 1) m0 [] (okM0 t) (by rw [rem0]) (by rw [rem0]; simp))
 rw [List.nil_append] at hl
 refine ycc ((base 30 0).ok zqb.1 zqb.2) Try.func24 rfl (by show 1 ≤ 30; omega) rfl ylp rfl (ex := .ret) (env' := [(2, .al 3 [] none), (3, iow (some (cntV t)) (ya7 t))]) ?_ (by kernel_rfl)
 refine .seq (fi0_0 c t) (.seq (fi1_0 c t (by omega) (by omega) (zlb ⟨by omega, by omega, by omega, by decide, by decide⟩) rfl) (.seq (fi2_0 c t (cntV t)) (.block (ex := .ret) hl (.inr ⟨by simp, rfl⟩))))
end Tst
end
