/- Stage 5: a cover. -/
import Derived.Test.YtnodkgejggnehaaCx
import Derived.Test.YtnodkgejggnehaaWt
import Derived.Test.YtnodkgejggnehaaAp
import Derived.Deep.Cut
import Derived.LoopIn
import Derived.Test.YtnodkgejggnehaaSo
import Derived.Test.YtnodkgejggnehaaKa
import Derived.Laws.ResultCell
namespace Go.Proofs.Ytnodkgejggnehaa
set_option linter.unusedSimpArgs false
set_option linter.unusedVariables false
open Go.RowKit Go.Shelf
attribute [local go_sem ↓] exec_app at_app
attribute [local go_sem] Oper.semAt_some
/-- The items of the cover that some links of the joining give. -/
def cL (zs : List Rg) (op lk : Nat → Bool) (L : List Nat) : List Int := (L.filter fun k => op k && !lk (eN zs 0 k)).map fun k : Nat => (eN zs 0 k : Int)
def cR (zs : List Rg) (op lk : Nat → Bool) (L : List Nat) : List Int := (L.filter fun k => op k && lk (eN zs 0 k)).map fun k : Nat => (eN zs 1 k : Int)
theorem cL_snoc (zs : List Rg) (op lk : Nat → Bool) (L : List Nat) (k : Nat) : cL zs op lk (L ++ [k]) = if (op k && !lk (eN zs 0 k)) = true then cL zs op lk L ++ [(eN zs 0 k : Int)] else cL zs op lk L := by
  unfold cL
  rw [List.filter_append, List.filter_cons]
  split
  · simp
  · simp
theorem cR_snoc (zs : List Rg) (op lk : Nat → Bool) (L : List Nat) (k : Nat) : cR zs op lk (L ++ [k]) = if (op k && lk (eN zs 0 k)) = true then cR zs op lk L ++ [(eN zs 1 k : Int)] else cR zs op lk L := by
  unfold cR
  rw [List.filter_append, List.filter_cons]
  split
  · simp
  · simp
theorem cL_all (n : Nat) (zs : List Rg) (op lk : Nat → Bool) (pt : Nat → Int) : cL zs op lk (jA n zs pt) = cvL n zs op pt lk := by
  unfold cL cvL jA jL
  rw [List.filter_filter, List.filter_filter]
  congr 1
  refine List.filter_congr (fun k _ => ?_)
  cases op k <;> cases lk (eN zs 0 k) <;> simp
theorem cR_all (n : Nat) (zs : List Rg) (op lk : Nat → Bool) (pt : Nat → Int) : cR zs op lk (jA n zs pt) = cvR n zs op pt lk := by
  unfold cR cvR jA jL
  rw [List.filter_filter, List.filter_filter]
  congr 1
  refine List.filter_congr (fun k _ => ?_)
  cases op k <;> cases lk (eN zs 0 k) <;> simp
theorem cL_len (zs : List Rg) (op lk : Nat → Bool) (L : List Nat) : (cL zs op lk L).length ≤ L.length := by unfold cL; rw [List.length_map]; exact List.length_filter_le _ _
theorem cR_len (zs : List Rg) (op lk : Nat → Bool) (L : List Nat) : (cR zs op lk L).length ≤ L.length := by unfold cR; rw [List.length_map]; exact List.length_filter_le _ _
theorem CoI.step {n q : Nat} {zs : List Rg} {op : Nat → Bool} {pt : Nat → Int} {lk lk' : Nat → Bool} (h : CoI n zs op pt lk q) (hm : ∀ z, lk z = true → lk' z = true) (hc : CloP n zs op 0 pt lk lk') (hq : lk' (0 * 12 + q) = true) : CoI n zs op pt lk' (q + 1) :=
  ⟨Clo.trans h.clo hc, fun i hi e => by
    rcases (by omega : i < q ∨ i = q) with h1 | rfl
    · exact hm _ (h.all i h1 e)
    · rw [Nat.zero_mul, Nat.zero_add] at hq; exact hq⟩
theorem CoI.skip {n q : Nat} {zs : List Rg} {op : Nat → Bool} {pt : Nat → Int} {lk : Nat → Bool} (h : CoI n zs op pt lk q) (hq : pt q ≠ -1) : CoI n zs op pt lk (q + 1) :=
  ⟨h.clo, fun i hi e => by
    rcases (by omega : i < q ∨ i = q) with h1 | rfl
    · exact h.all i h1 e
    · exact absurd e hq⟩
/-- The lists that grow. -/
structure CwI (S b : Nat) (lA lB : List Int) (W : World) : Prop where
  ex : ∃ vL vR : Value, W.heap[S]? = some (.cells #[vL, vR] 27 (0, 0)) ∧ W.ownsRow 0 3 1 vL lA.length (flatI lA) ∧ W.ownsRow 0 3 1 vR lB.length (flatI lB) ∧ (∀ g, vL.ownBlock = some g → b ≤ g) ∧ (∀ g, vR.ownBlock = some g → b ≤ g) ∧ ∀ g, vL.ownBlock = some g → vR.ownBlock ≠ some g
theorem CwI.start {S b : Nat} {W : World} (h : W.heap[S]? = some (.cells #[.slice none 0 0, .slice none 0 0] 27 (0, 0))) : CwI S b [] [] W :=
  ⟨_, _, h, ⟨rfl, .inl ⟨rfl, rfl⟩⟩, ⟨rfl, .inl ⟨rfl, rfl⟩⟩, fun g e => (by cases e), fun g e => (by cases e), fun g e => (by cases e)⟩
theorem CwI.keep {S b : Nat} {lA lB : List Int} {Mut : Nat → Prop} {W W' : World} (h : CwI S b lA lB W) (hK : Keeps Mut W W') (hS : ¬ Mut S) (hb : ∀ g, b ≤ g → ¬ Mut g) : CwI S b lA lB W' := by
  obtain ⟨vL, vR, h1, h2, h3, h4, h5, h6⟩ := h.ex
  exact ⟨vL, vR, (hK.block _ (lt_of_block h1) hS).trans h1, own_keep h2 hK (fun g e => hb g (h4 g e)), own_keep h3 hK (fun g e => hb g (h5 g e)), h4, h5, h6⟩
/-- A number more in one of the lists. -/
theorem CwI.app {S b : Nat} {lA lB : List Int} {W : World} (h : CwI S b lA lB W) (hSb : S < b) (hbW : b ≤ W.heap.size) (hlA : lA.length ≤ 1000) (x : Int) :
    ∃ vL vR C c W1, W.heap[S]? = some (.cells #[vL, vR] 27 (0, 0)) ∧ runA Try.prog 23 vL (.slice (some ⟨W.heap.size, 0, none⟩) 1 1) (W.alloc (.cells #[.int .i64 x] 3)) = .ok (.value (.slice C (lA.length + 1) c)) W1 ∧ W1.heap[S]? = some (.cells #[vL, vR] 27 (0, 0)) ∧ Keeps (fun j => b ≤ j) W W1 ∧
      CwI S b (lA ++ [x]) lB (W1.setCell ⟨S, 0, none⟩ (.slice C (lA.length + 1) c)) := by
  obtain ⟨vL, vR, h1, h2, h3, h4, h5, h6⟩ := h.ex
  obtain ⟨C, c, W1, r1, o1, k1, d1⟩ := app_int h2 x (by omega)
  have kb : Keeps (fun j => b ≤ j) W W1 := k1.mono (fun j _ e => h4 j e)
  have hS1 := (kb.block _ (lt_of_block h1) (by omega)).trans h1
  have hk2 := keeps_setCell W1 S 0 (.slice C (lA.length + 1) c)
  have o3 := own_keep h3 k1 (fun g e e2 => h6 g e2 e)
  have hlW := own_lt h3
  refine ⟨vL, vR, C, c, W1, h1, r1, hS1, kb, ⟨.slice C (lA.length + 1) c, vR, set_same 0 _ hS1, ?_, own_keep o3 hk2 (fun g e => by have := h5 g e; omega), fun g e => ?_, h5, fun g e e2 => ?_⟩⟩
  · have hnew : ∀ g, (Value.slice C (lA.length + 1) c).ownBlock = some g → g ≠ S := fun g e => by
      rcases d1 g e with e2 | e2
      · have := h4 g e2; omega
      · omega
    have := own_keep o1 hk2 (fun g e => hnew g e)
    rw [List.length_append]; exact this
  · rcases d1 g e with e2 | e2
    · exact h4 g e2
    · omega
  · rcases d1 g e with e3 | e3
    · exact h6 g e3 e2
    · have := hlW g e2; omega
theorem CwI.appR {S b : Nat} {lA lB : List Int} {W : World} (h : CwI S b lA lB W) (hSb : S < b) (hbW : b ≤ W.heap.size) (hlA : lB.length ≤ 1000) (x : Int) :
    ∃ vL vR C c W1, W.heap[S]? = some (.cells #[vL, vR] 27 (0, 0)) ∧ runA Try.prog 23 vR (.slice (some ⟨W.heap.size, 0, none⟩) 1 1) (W.alloc (.cells #[.int .i64 x] 3)) = .ok (.value (.slice C (lB.length + 1) c)) W1 ∧ W1.heap[S]? = some (.cells #[vL, vR] 27 (0, 0)) ∧ Keeps (fun j => b ≤ j) W W1 ∧
      CwI S b lA (lB ++ [x]) (W1.setCell ⟨S, 1, none⟩ (.slice C (lB.length + 1) c)) := by
  obtain ⟨vL, vR, h1, h2, h3, h4, h5, h6⟩ := h.ex
  obtain ⟨C, c, W1, r1, o1, k1, d1⟩ := app_int h3 x (by omega)
  have kb : Keeps (fun j => b ≤ j) W W1 := k1.mono (fun j _ e => h5 j e)
  have hS1 := (kb.block _ (lt_of_block h1) (by omega)).trans h1
  have hk2 := keeps_setCell W1 S 1 (.slice C (lB.length + 1) c)
  have o3 := own_keep h2 k1 (fun g e e2 => h6 g e e2)
  have hlW := own_lt h2
  refine ⟨vL, vR, C, c, W1, h1, r1, hS1, kb, ⟨vL, .slice C (lB.length + 1) c, set_same 1 _ hS1, own_keep o3 hk2 (fun g e => by have := h4 g e; omega), ?_, h4, fun g e => ?_, fun g e e2 => ?_⟩⟩
  · have hnew : ∀ g, (Value.slice C (lB.length + 1) c).ownBlock = some g → g ≠ S := fun g e => by
      rcases d1 g e with e2 | e2
      · have := h5 g e2; omega
      · omega
    have := own_keep o1 hk2 (fun g e => hnew g e)
    rw [List.length_append]; exact this
  · rcases d1 g e with e2 | e2
    · exact h5 g e2
    · omega
  · rcases d1 g e2 with e3 | e3
    · exact h6 g e e3
    · have := hlW g e; omega
end Go.Proofs.Ytnodkgejggnehaa

namespace Go.Proofs.Ytnodkgejggnehaa
set_option linter.unusedSimpArgs false
set_option linter.unusedVariables false
open Go.RowKit Go.Shelf
attribute [local go_sem ↓] exec_app at_app
attribute [local go_sem] Oper.semAt_some
theorem res52 {tmps : Array Value} {W : World} {R : Nat} {x y : Value} (h2 : tmps.getD 2 undef = .pointer (some ⟨R, 0, none⟩)) (hR : W.heap[R]? = some (.cells #[x, y] 27 (0, 0))) :
    (results Try.f52 tmps).run Try.prog W = .ok (.agg #[x, y]) W := by
  have z0 : W.cell? ⟨R, 0, none⟩ = some x := by rw [cell_row hR]; rfl
  have z1 : W.cell? ⟨R, 1, none⟩ = some y := by rw [cell_row hR]; rfl
  have hr : (results Try.f52 tmps).run Try.prog W = ((asAddr (tmps.getD 2 undef)).run Try.prog W).andThen fun a w₁ => (loadVar 27 a).run Try.prog w₁ := by
    simp only [results, Try.results52]
    simp [Sem.run_bind, Result.andThen]
  rw [hr, h2]
  simp [go_sem, z0, z1]
set_option maxRecDepth 100000 in
set_option maxHeartbeats 16000000 in
theorem cover52 (B : Nat) (sl sr : Int) (A : Option Addr) (n cap : Nat) (zs : List Rg) (A2 : Option Addr) (kn kc : Nat) (ks : List Int) (pt : Nat → Int) (op : Nat → Bool) (M : Nat) (lk : Nat → Bool) (J : List Nat) (c d : Nat) (w : World) (h : Brd w B sl sr A n cap zs A2 kn kc ks pt op (.map (some M))) (hm : LM w M lk) (hgb : GB n zs op pt J) (hn : n ≤ 40) (hz : ZOk n zs) (hc : sl = (c : Int)) (hd : sr = (d : Int)) (hc12 : c ≤ 12) (hd12 : d ≤ 12) (he0 : ∀ k, k < n → eN zs 0 k < c) (he1 : ∀ k, k < n → eN zs 1 k < d) :
    Calls Try.prog 52 #[.pointer (some ⟨B, 0, none⟩)] w fun e w' => ∃ lk' CL cl CR cr, e = .returned (.agg #[.slice CL (cvL n zs op pt lk').length cl, .slice CR (cvR n zs op pt lk').length cr]) ∧ CoI n zs op pt lk' c ∧ Ints w' CL (cvL n zs op pt lk').length (srtL (cvL n zs op pt lk')) ∧ Ints w' CR (cvR n zs op pt lk').length (srtL (cvR n zs op pt lk')) ∧ Keeps (fun j => j = B ∨ j = M) w w' := by
  have hBM : B ≠ M := h.ne_map hm
  have hMw := hm.lt
  have hBw : B < w.heap.size := by obtain ⟨X, hX, -⟩ := h.row; exact lt_of_block hX
  have hb1 := below_alloc_ w (.cells #[.slice none 0 0, .slice none 0 0] 27)
  have hr1 := heap_alloc_new_ w (.cells #[.slice none 0 0, .slice none 0 0] 27)
  obtain ⟨w1, hw1⟩ : ∃ w1, w.alloc (.cells #[.slice none 0 0, .slice none 0 0] 27) = w1 := ⟨_, rfl⟩
  obtain ⟨R, hR⟩ : ∃ R, w.heap.size = R := ⟨_, rfl⟩
  rw [hw1] at hb1 hr1
  rw [hR] at hr1 hMw hBw
  have k69 := forget69 B sl sr A n cap zs A2 kn kc ks pt op M lk w1 (h.below hb1 (Nat.le_refl _)) (hm.below hb1)
  have K69 := Lib.hid k69
  have Hbo := Lib.hid h
  have Hb1 := Lib.hid (h.below hb1 (Nat.le_refl _))
  have Hm1 := Lib.hid (hm.below hb1)
  have Hk1 := Lib.hid (Keeps.of_new (Mut := fun j => j = B ∨ j = M) hb1)
  have Hr1 := Lib.hid hr1
  have HW1 := Lib.hid hw1
  have HR := Lib.hid hR
  have Hg := Lib.hid hgb
  have Hz := Lib.hid hz
  have Hc := Lib.hid hc
  have Hd := Lib.hid hd
  have He0 := Lib.hid he0
  have He1 := Lib.hid he1
  clear h hm hgb hz hc hd he0 he1 hb1 hr1 hw1 hR k69
  go_enter Try.func52, Try.ntmps52
  go_wp2_with fail
  try rw [HW1.out]
  try rw [HR.out]
  try go_wp2_with fail
  refine K69.out.mono ?_
  rintro en w2 ⟨rfl, hm2, hk2⟩
  have hb2 := Hb1.out.keepM Hm1.out hk2
  have k67 := items67 B sl sr A n cap zs A2 kn kc ks pt op (.map (some M)) 0 c w2 hb2 (by omega) (by rw [if_pos rfl]; exact Hc.out.symm) (by omega)
  have K67 := Lib.hid k67
  have Hb2 := Lib.hid hb2
  have Hm2 := Lib.hid hm2
  have Hk2 := Lib.hid (Hk1.out.trans (hk2.mono (fun j _ e => .inr e)))
  have Hr2 := Lib.hid ((hk2.block _ (lt_of_block Hr1.out) (by omega)).trans Hr1.out)
  clear K69 k67 hm2 hk2 hb2 Hb1 Hm1 Hk1 Hr1
  go_wp2_with fail
  refine K67.out.mono ?_
  rintro en w3 ⟨⟨C, cp, rfl, hcp, hrC, hCn⟩, hb3⟩
  have hC2 : ∀ a, C = some a → w2.heap.size ≤ a.block := hCn
  have HC := Lib.hid hC2
  have HrC := Lib.hid hrC
  have Hb3 := Lib.hid (Hb2.out.below hb3 (Nat.le_refl _))
  have Hm3 := Lib.hid (Hm2.out.below hb3)
  have Hk3 := Lib.hid (Hk2.out.trans (Keeps.of_new hb3))
  have Hr3 := Lib.hid ((hb3.block _ (lt_of_block Hr2.out)).trans Hr2.out)
  have hs2 : R < w2.heap.size := lt_of_block Hr2.out
  have hlC := hrC.1
  clear K67 hCn hC2 hrC hb3 Hb2 Hm2 Hk2 Hr2
  go_wp2_with fail
  go_loopw [4, 14] (fun p i wr => ∃ q : Nat, q ≤ c ∧ i = .int .i64 (q : Int) ∧ Hid (∃ lkq, Brd wr B sl sr A n cap zs A2 kn kc ks pt op (.map (some M)) ∧ LM wr M lkq ∧ CoI n zs op pt lkq q ∧ Keeps (fun j => j = B ∨ j = M) w wr ∧ wr.heap[R]? = some (.cells #[.slice none 0 0, .slice none 0 0] 27 (0, 0)) ∧ Rgs wr C c (itS 0 c))) (fun p i _ => c - (intOf i).toNat)
  case atStart => exact ⟨0, by omega, rfl, Lib.hid ⟨_, Hb3.out, Hm3.out, ⟨Clo.refl _ _, fun i hi => by omega⟩, Hk3.out, Hr3.out, HrC.out⟩⟩
  case round =>
    obtain ⟨q, hq9, rfl, HV⟩ := hrel
    obtain ⟨wj, rfl⟩ : ∃ wj, wj = wr := ⟨_, rfl⟩
    by_cases hlt : q < c
    · obtain ⟨lkq, hbq, hmq, hcq, hkq, hrq, hSq⟩ := HV.out
      have hSq0 := hSq
      obtain ⟨bz, oz, ez, hcz⟩ := hSq.2 (by omega)
      have hzb : w2.heap.size ≤ bz := HC.out _ ez
      subst ez
      obtain ⟨z0, z1⟩ := hcz q hlt
      have hsi : gAt (itS 0 c) q = ⟨((0 : Nat) : Int), (q : Int)⟩ := itS_at hlt
      rw [hsi] at z0 z1
      simp only [Int.natCast_zero] at z0 z1
      have i0 : (0 : Int) ≤ (q : Int) := by omega
      have i1 : (q : Int) < (c : Int) := by omega
      have hbV := below_alloc_ wj (.cells #[.int .i64 0, .int .i64 (q : Int)] 100)
      have hrV := heap_alloc_new_ wj (.cells #[.int .i64 0, .int .i64 (q : Int)] 100)
      go_upto_region 5 with fail
      obtain ⟨V, hV⟩ : ∃ V, wj.alloc (.cells #[.int .i64 0, .int .i64 (q : Int)] 100) = V := ⟨_, rfl⟩
      obtain ⟨P, hP⟩ : ∃ P, wj.heap.size = P := ⟨_, rfl⟩
      rw [hV] at hbV hrV ⊢
      rw [hP] at hrV ⊢
      have p0 : V.cell? ⟨P, 0, none⟩ = some (.int .i64 0) := by rw [cell_row hrV]; rfl
      have p1 : V.cell? ⟨P, 1, none⟩ = some (.int .i64 (q : Int)) := by rw [cell_row hrV]; rfl
      have hMP : M < P := by have := hmq.lt; omega
      have hRP : R < P := by have := lt_of_block hrq; omega
      have hBP : B < P := by have := hkq.size; have := HR.out; omega
      have HbV := Lib.hid (hbq.below hbV (Nat.le_refl _))
      have HmV := Lib.hid (hmq.below hbV)
      have HkV := Lib.hid (hkq.trans (Keeps.of_new hbV))
      have HrV := Lib.hid hrV
      have HzV := Lib.hid ((hbV.block _ (lt_of_block hrq)).trans hrq)
      have HSV := Lib.hid (hSq0.below hbV (Nat.le_refl _))
      have Hcq := Lib.hid hcq
      have k70 := partner70 B sl sr A n cap zs A2 kn kc ks pt op (.map (some M)) 0 q V HbV.out (by omega) (by omega)
      simp only [Int.natCast_zero, Nat.zero_mul, Nat.zero_add] at k70
      obtain ⟨x, hx⟩ : ∃ x, pt q = x := ⟨_, rfl⟩
      rw [hx] at k70
      have K70 := Lib.hid k70
      have Hx := Lib.hid hx
      clear hbq hmq hkq hrq hcz z0 z1 hbV hrV hV hP k70 hx HV hsi hSq hSq0 hcq
      go_wp2_with fail
      refine K70.out.mono ?_
      rintro en V1 ⟨rfl, hb1⟩
      have hr1 := (hb1.block _ (lt_of_block HrV.out)).trans HrV.out
      have Hb1 := Lib.hid (HbV.out.below hb1 (Nat.le_refl _))
      have Hm1 := Lib.hid (HmV.out.below hb1)
      have Hk1 := Lib.hid (HkV.out.trans (Keeps.of_new hb1))
      have Hr1 := Lib.hid hr1
      have Hz1 := Lib.hid ((hb1.block _ (lt_of_block HzV.out)).trans HzV.out)
      have HS1 := Lib.hid (HSV.out.below hb1 (Nat.le_refl _))
      clear p0 p1 K70 hb1 hr1
      by_cases h0 : x = -1
      · have d0 : (x == -1) = true := by rw [beq_iff_eq]; exact h0
        have p0 : V1.cell? ⟨P, 0, none⟩ = some (.int .i64 0) := by rw [cell_row Hr1.out]; rfl
        have p1 : V1.cell? ⟨P, 1, none⟩ = some (.int .i64 (q : Int)) := by rw [cell_row Hr1.out]; rfl
        have hfr : pt (0 * 12 + q) = -1 := by rw [Nat.zero_mul, Nat.zero_add, Hx.out]; exact h0
        have k71 := find71 B sl sr A n cap zs A2 kn kc ks pt op M 0 (by omega) hn Hz.out (unl 0 lkq) lkq q V1 (Nat.le_refl _) (by omega) Hb1.out Hm1.out (Hg.out.cons.pre (by omega) _) (Hg.out.cons.img (by omega) _ hfr)
        simp only [Int.natCast_zero] at k71
        have K71 := Lib.hid k71
        have Hfr := Lib.hid hfr
        clear k71 h0 hfr
        go_wp2_with fail
        refine K71.out.mono ?_
        rintro en V3 ⟨rr, pt', lk', rfl, hb3, hm3, hk3, hmo, hsuc, hfail⟩
        obtain rfl : rr = false := by
          cases rr
          · rfl
          · exact (Hg.out.no_aug Hz.out (by omega) (by omega) Hfr.out (hsuc rfl)).elim
        obtain ⟨e1, e2, e3⟩ := hfail rfl
        rw [e1] at hb3
        have HN := Lib.hid (show Brd V3 B sl sr A n cap zs A2 kn kc ks pt op (.map (some M)) ∧ LM V3 M lk' ∧ CoI n zs op pt lk' (q + 1) ∧ Keeps (fun j => j = B ∨ j = M) w V3 ∧ V3.heap[R]? = some (.cells #[.slice none 0 0, .slice none 0 0] 27 (0, 0)) ∧ Rgs V3 (some ⟨bz, oz, none⟩) c (itS 0 c) from
          ⟨hb3, hm3, Hcq.out.step hmo e2 e3, Hk1.out.trans hk3, (hk3.block _ (lt_of_block Hz1.out) (by omega)).trans Hz1.out, HS1.out.keepN hk3 (fun h0 a e => by cases e; show ¬ (bz = B ∨ bz = M); omega)⟩)
        clear K71 p0 p1 hb3 hm3 hk3 hmo hsuc hfail e1 e2 e3 d0
        go_wp2_with fail
        go_roundw
        case rel => exact ⟨q + 1, by omega, by go_num, Lib.hid ⟨lk', HN.out⟩⟩
        case measure => simp [intOf]; omega
      · have d0 : (x == -1) = false := by rw [beq_eq_false_iff_ne]; exact h0
        have Hn := Lib.hid (show pt q ≠ -1 by rw [Hx.out]; exact h0)
        clear h0
        go_wp2_with fail
        go_roundw
        case rel => exact ⟨q + 1, by omega, by go_num, Lib.hid ⟨lkq, Hb1.out, Hm1.out, Hcq.out.skip Hn.out, Hk1.out, Hz1.out, HS1.out⟩⟩
        case measure => simp [intOf]; omega
    · obtain rfl : c = q := by omega
      obtain ⟨lkq, hbq, hmq, hcq, hkq, hrq, -⟩ := HV.out
      have hbA := below_alloc_ wj (.cells #[.slice none 0 0, .slice none 0 0] 27)
      have hrA := heap_alloc_new_ wj (.cells #[.slice none 0 0, .slice none 0 0] 27)
      obtain ⟨w5, hw5⟩ : ∃ w5, wj.alloc (.cells #[.slice none 0 0, .slice none 0 0] 27) = w5 := ⟨_, rfl⟩
      obtain ⟨S, hS⟩ : ∃ S, wj.heap.size = S := ⟨_, rfl⟩
      rw [hw5] at hbA hrA
      rw [hS] at hrA
      have k51 := joining51 B sl sr A n cap zs A2 kn kc ks pt op (.map (some M)) c d w5 (hbq.below hbA (Nat.le_refl _)) hn Hz.out Hg.out.cons Hc.out Hd.out hc12 hd12 He0.out He1.out
      have K51 := Lib.hid k51
      have hRS : R < S := by have := lt_of_block hrq; omega
      have hBS : B < S := by have := hkq.size; have := HR.out; omega
      have hMS : M < S := by have := hmq.lt; omega
      have HB5 := Lib.hid (hbq.below hbA (Nat.le_refl _))
      have HM5 := Lib.hid (hmq.below hbA)
      have HK5 := Lib.hid (hkq.trans (Keeps.of_new hbA))
      have HR5 := Lib.hid ((hbA.block _ (lt_of_block hrq)).trans hrq)
      have HS5 := Lib.hid hrA
      have Hcq := Lib.hid hcq
      have HW5 := Lib.hid hw5
      have HS := Lib.hid hS
      clear hbq hmq hcq hkq hrq HV hbA hrA hw5 hS k51
      go_wp2_with fail
      try rw [HW5.out]
      try rw [HS.out]
      try go_wp2_with fail
      refine K51.out.mono ?_
      rintro en w6 ⟨QJ, rfl, hQJ, hi6, hb6⟩
      obtain ⟨b, hb⟩ : ∃ b, w6.heap.size = b := ⟨_, rfl⟩
      have h65 := hb6.size
      have hS5 := lt_of_block HS5.out
      have hSb : S < b := by omega
      have hlJ := hi6.1
      obtain ⟨m, hm9⟩ : ∃ m, (jI n zs pt).length = m := ⟨_, rfl⟩
      rw [hm9] at hi6 ⊢
      have hmA : (jA n zs pt).length = m := by rw [← jI_len]; exact hm9
      have hm12 : m ≤ 12 := by
        have := jA_le (k := n) Hz.out Hg.out.cons (Nat.le_refl n) (l := 0) (by omega) He0.out
        omega
      have HmA := Lib.hid hmA
      have HB6 := Lib.hid (HB5.out.below hb6 (Nat.le_refl _))
      have HM6 := Lib.hid (HM5.out.below hb6)
      have HK6 := Lib.hid (HK5.out.trans (Keeps.of_new hb6))
      have HR6 := Lib.hid ((hb6.block _ (lt_of_block HR5.out)).trans HR5.out)
      have HC6 := Lib.hid (CwI.start (b := b) ((hb6.block _ (lt_of_block HS5.out)).trans HS5.out))
      have Hi6 := Lib.hid hi6
      have Hbb := Lib.hid hb
      have hQb : QJ < b ∨ m = 0 := by
        rcases Nat.eq_zero_or_pos m with e | e
        · exact .inr e
        · obtain ⟨b0, o0, e0, hc0⟩ := hi6.2 e
          cases e0
          have := lt_of_cell (hc0 0 e)
          exact .inl (by omega)
      have hQS : S < QJ := by have := hQJ; omega
      clear K51 hQJ hi6 hb6 hb hm9 hmA hlJ HB5 HM5 HK5 HR5 HS5 h65 hS5
      go_wp2_with fail
      go_loopw [7, 8, 29] (fun y p i wr => ∃ q : Nat, q ≤ m ∧ i = .int .i64 (q : Int) ∧ Hid (Brd wr B sl sr A n cap zs A2 kn kc ks pt op (.map (some M)) ∧ LM wr M lkq ∧ Keeps (fun j => j = B ∨ j = M) w wr ∧ wr.heap[R]? = some (.cells #[.slice none 0 0, .slice none 0 0] 27 (0, 0)) ∧ Ints wr (some ⟨QJ, 0, none⟩) m (jI n zs pt) ∧ CwI S b (cL zs op lkq ((jA n zs pt).take q)) (cR zs op lkq ((jA n zs pt).take q)) wr ∧ b ≤ wr.heap.size)) (fun y p i _ => m - (intOf i).toNat)
      case atStart => exact ⟨0, by omega, rfl, Lib.hid ⟨HB6.out, HM6.out, HK6.out, HR6.out, Hi6.out, HC6.out, by have := Hbb.out; omega⟩⟩
      case round =>
        obtain ⟨q, hq9, rfl, HV⟩ := hrel
        obtain ⟨wk, rfl⟩ : ∃ wk, wk = wr := ⟨_, rfl⟩
        by_cases hlt : q < m
        · obtain ⟨hbk, hmk, hkk, hrk, hik, hck, hsk⟩ := HV.out
          obtain ⟨k, hkL, hkI, hkT⟩ : ∃ k, k ∈ jA n zs pt ∧ iAt (jI n zs pt) q = (k : Int) ∧ (jA n zs pt).take (q + 1) = (jA n zs pt).take q ++ [k] := by
            have hl : q < (jA n zs pt).length := by have := HmA.out; omega
            refine ⟨(jA n zs pt)[q], List.getElem_mem _, ?_, List.take_succ_eq_append_getElem hl⟩
            have hl2 : q < (jI n zs pt).length := by rw [jI_len]; exact hl
            rw [iAt_eq hl2]; simp [jI]
          obtain ⟨hkn, hkj⟩ := mem_jA.1 hkL
          obtain ⟨bz, oz, ez, hcz⟩ := hik.2 (by omega)
          cases ez
          have z0 := hcz q hlt
          rw [hkI, Nat.zero_add] at z0
          have i0 : (0 : Int) ≤ (q : Int) := by omega
          have i1 : (q : Int) < (m : Int) := by omega
          obtain ⟨ge, ha12, hb12⟩ := Hz.out.at hkn
          have k72 := ends72 B sl sr A n cap zs A2 kn kc ks pt op (.map (some M)) k wk hbk hkn
          rw [ge] at k72
          simp only at k72
          obtain ⟨ea, hea⟩ : ∃ e, eN zs 0 k = e := ⟨_, rfl⟩
          obtain ⟨eb, heb⟩ : ∃ e, eN zs 1 k = e := ⟨_, rfl⟩
          rw [hea, heb] at k72
          rw [hea] at ha12
          have K72 := Lib.hid k72
          have Hea := Lib.hid hea
          have Heb := Lib.hid heb
          have HkT := Lib.hid hkT
          have Hbk := Lib.hid hbk
          have Hmk := Lib.hid hmk
          have Hkk := Lib.hid hkk
          have Hrk := Lib.hid hrk
          have Hik := Lib.hid hik
          have Hck := Lib.hid hck
          clear HV hbk hmk hkk hrk hik hck hkL hkI hkT hkj hcz ge hb12 k72 hea heb
          go_wp2_with fail
          refine K72.out.mono ?_
          rintro en w7 ⟨rfl, hb7⟩
          have hbV := below_alloc_ w7 (.cells #[.int .i64 0, .int .i64 (ea : Int), .int .i64 1, .int .i64 (eb : Int)] 103)
          have hrV := heap_alloc_new_ w7 (.cells #[.int .i64 0, .int .i64 (ea : Int), .int .i64 1, .int .i64 (eb : Int)] 103)
          have h7 := hb7.size
          have hb8 : Below wk.heap.size wk (w7.alloc (.cells #[.int .i64 0, .int .i64 (ea : Int), .int .i64 1, .int .i64 (eb : Int)] 103)) := hb7.trans (hbV.mono h7)
          go_upto_region 14 with fail
          obtain ⟨V, hV⟩ : ∃ V, w7.alloc (.cells #[.int .i64 0, .int .i64 (ea : Int), .int .i64 1, .int .i64 (eb : Int)] 103) = V := ⟨_, rfl⟩
          obtain ⟨P, hP⟩ : ∃ P, w7.heap.size = P := ⟨_, rfl⟩
          rw [hV] at hbV hrV hb8 ⊢
          rw [hP] at hrV ⊢
          have hPb : b ≤ P := by have := Hck.out; have := hsk; omega
          have hbrV := Hbk.out.below hb8 (Nat.le_refl _)
          have xo := hbrV.ho k (by omega)
          have k40 : (k : Int) < 40 := by omega
          have k00 : (0 : Int) ≤ (k : Int) := by omega
          obtain ⟨bo, hbo⟩ : ∃ bo, op k = bo := ⟨_, rfl⟩
          rw [hbo] at xo
          have Hop := Lib.hid hbo
          have HrV := Lib.hid hrV
          have HbV0 := Lib.hid hbrV
          have Hmv0 := Lib.hid (Hmk.out.below hb8)
          have HkV0 := Lib.hid (Hkk.out.trans (Keeps.of_new hb8))
          have HrkV0 := Lib.hid ((hb8.block _ (lt_of_block Hrk.out)).trans Hrk.out)
          have HikV0 := Lib.hid (Hik.out.below hb8 (Nat.le_refl _))
          have HckV0 := Lib.hid (Hck.out.keep (Mut := fun _ => False) (Keeps.of_new hb8) (fun e => e) (fun _ _ e => e))
          have HsV0 := Lib.hid (Nat.le_trans hsk hb8.size)
          clear hbV hrV h7 hb8 hV hP hbrV hbo Hbk Hmk Hkk Hrk Hik Hck K72 hb7 z0
          rcases bo with _ | _
          · have HcN := Lib.hid (show CwI S b (cL zs op lkq ((jA n zs pt).take (q + 1))) (cR zs op lkq ((jA n zs pt).take (q + 1))) V by
              rw [HkT.out, cL_snoc, cR_snoc, Hop.out]; exact HckV0.out)
            go_wp2_with fail
            go_roundw
            case rel => exact ⟨q + 1, by omega, by go_num, Lib.hid ⟨HbV0.out, Hmv0.out, HkV0.out, HrkV0.out, HikV0.out, HcN.out, HsV0.out⟩⟩
            case measure => simp [intOf]; omega
          · go_upto_region 15 with fail
            have y0 : V.cell? ⟨P, 0, none⟩ = some (.int .i64 0) := by rw [cell_row HrV.out]; rfl
            have y1 : V.cell? ⟨P, 1, none⟩ = some (.int .i64 (ea : Int)) := by rw [cell_row HrV.out]; rfl
            have ym := HbV0.out.cm
            obtain ⟨lv, hlv⟩ : ∃ lv, lkq ea = lv := ⟨_, rfl⟩
            have hlook : ∀ W', Below V.heap.size V W' → (Instr.lookup 85 (.map (some M)) (.agg #[.int .i64 0, .int .i64 (ea : Int)]) false).run Try.prog W' = .ok (.bool lv) W' := fun W' h => by
              have h9 := (Hmv0.out.below h).look (l := 0) (by omega) ha12
              rw [Nat.zero_mul, Nat.zero_add, hlv] at h9
              exact h9
            have Hlv := Lib.hid hlv
            clear hlv
            refine wp_region_held_drew (S := fun w2 => Below V.heap.size V w2) (by kernel_rfl) (drew_b _ _) (fun hS0 => ?_)
            refine wpAnyH_take (i := 0) (oi := { dst := some 53, op := Go.Op.move (Go.Operand.tmp 0), type := 61, pos := "board.go:256", after := #[], guard := none }) (v := .pointer (some ⟨B, 0, none⟩)) rfl (by kernel_rfl) (by kernel_rfl) (by kernel_rfl) (fun _ _ _ h => h) (Or.inl ⟨by rfl, by intro w2 hSw; (try dsimp only at hSw); go_simp⟩) hS0 ?_
            try simp only [Act.put, List.setIfInBounds_toArray, List.set_cons_zero, List.set_cons_succ]
            refine wpAnyH_take (i := 1) (oi := { dst := some 54, op := Go.Op.nilCheck (Go.Operand.tmp 53), type := 0, pos := "board.go:256", after := #[{ on := 0, ground := Go.Ground.data }], guard := none }) (v := .pointer (some ⟨B, 0, none⟩)) rfl (by kernel_rfl) (by kernel_rfl) (by kernel_rfl) (fun _ _ _ h => h) (Or.inl ⟨by rfl, by intro w2 hSw; (try dsimp only at hSw); go_simp⟩) hS0 ?_
            try simp only [Act.put, List.setIfInBounds_toArray, List.set_cons_zero, List.set_cons_succ]
            refine wpAnyH_take (i := 2) (oi := { dst := some 55, op := Go.Op.fieldAddr 91 (Go.Operand.tmp 54) 3, type := 0, pos := "board.go:256", after := #[{ on := 1, ground := Go.Ground.data }], guard := none }) (v := .pointer (some ⟨B, 68, none⟩)) rfl (by kernel_rfl) (by kernel_rfl) (by kernel_rfl) (fun _ _ _ h => h) (Or.inl ⟨by rfl, by intro w2 hSw; (try dsimp only at hSw); go_simp⟩) hS0 ?_
            try simp only [Act.put, List.setIfInBounds_toArray, List.set_cons_zero, List.set_cons_succ]
            refine wpAnyH_take (i := 3) (oi := { dst := some 56, op := Go.Op.load 85 (Go.Operand.tmp 55), type := 85, pos := "board.go:256", after := #[{ on := 2, ground := Go.Ground.data }], guard := none }) (v := .map (some M)) rfl (by kernel_rfl) (by kernel_rfl) (by kernel_rfl) (fun _ _ _ h => h) (Or.inl ⟨by rfl, by intro w2 hSw; (try dsimp only at hSw); have z0 := (hSw.cell (lt_of_cell ym)).trans ym; go_simp⟩) hS0 ?_
            try simp only [Act.put, List.setIfInBounds_toArray, List.set_cons_zero, List.set_cons_succ]
            refine wpAnyH_take (i := 4) (oi := { dst := some 57, op := Go.Op.indexAddr 103 (Go.Operand.tmp 8) (Go.Operand.const (Go.Value.int Go.IntKind.i64 0)), type := 0, pos := "board.go:256", after := #[], guard := none }) (v := .pointer (some ⟨P, 0, none⟩)) rfl (by kernel_rfl) (by kernel_rfl) (by kernel_rfl) (fun _ _ _ h => h) (Or.inl ⟨by rfl, by intro w2 hSw; (try dsimp only at hSw); go_simp⟩) hS0 ?_
            try simp only [Act.put, List.setIfInBounds_toArray, List.set_cons_zero, List.set_cons_succ]
            refine wpAnyH_take (i := 5) (oi := { dst := some 58, op := Go.Op.load 100 (Go.Operand.tmp 57), type := 100, pos := "board.go:256", after := #[{ on := 4, ground := Go.Ground.data }], guard := none }) (v := .agg #[.int .i64 0, .int .i64 (ea : Int)]) rfl (by kernel_rfl) (by kernel_rfl) (by kernel_rfl) (fun _ _ _ h => h) (Or.inl ⟨by rfl, by intro w2 hSw; (try dsimp only at hSw); have z0 := (hSw.cell (lt_of_cell y0)).trans y0; have z1 := (hSw.cell (lt_of_cell y1)).trans y1; go_simp⟩) hS0 ?_
            try simp only [Act.put, List.setIfInBounds_toArray, List.set_cons_zero, List.set_cons_succ]
            refine wpAnyH_take (i := 6) (oi := { dst := some 59, op := Go.Op.lookup 85 (Go.Operand.tmp 56) (Go.Operand.tmp 58) false, type := 4, pos := "board.go:256", after := #[{ on := 3, ground := Go.Ground.data }, { on := 5, ground := Go.Ground.data }], guard := none }) (v := .bool lv) rfl (by kernel_rfl) (by kernel_rfl) (by kernel_rfl) (fun _ _ _ h => h) (Or.inl ⟨by rfl, by intro w2 hSw; (try dsimp only at hSw); have y9 := hlook _ hSw; go_simp⟩) hS0 ?_
            try simp only [Act.put, List.setIfInBounds_toArray, List.set_cons_zero, List.set_cons_succ]
            refine wpAnyH_take (i := 7) (oi := { dst := some 52, op := Go.Op.assign (Go.Operand.tmp 59), type := 4, pos := "board.go:256", after := #[{ on := 6, ground := Go.Ground.data }], guard := none }) (v := .bool lv) rfl (by kernel_rfl) (by kernel_rfl) (by kernel_rfl) (fun _ _ _ h => h) (Or.inl ⟨by rfl, by intro w2 hSw; (try dsimp only at hSw); go_simp⟩) hS0 ?_
            try simp only [Act.put, List.setIfInBounds_toArray, List.set_cons_zero, List.set_cons_succ]
            refine wpAnyH_done (by kernel_rfl) ?_ _
            obtain ⟨V2, hV2⟩ : ∃ V2, V.drew = V2 := ⟨_, rfl⟩
            have hb9 : Below V.heap.size V V2 := by rw [← hV2]; exact drew_b V 1
            rw [hV2]
            have HrV2 := Lib.hid ((hb9.block _ (lt_of_block HrV.out)).trans HrV.out)
            have HbV := Lib.hid (HbV0.out.below hb9 (Nat.le_refl _))
            have HmV := Lib.hid (Hmv0.out.below hb9)
            have HkV := Lib.hid (HkV0.out.trans (Keeps.of_new hb9))
            have HrkV := Lib.hid ((hb9.block _ (lt_of_block HrkV0.out)).trans HrkV0.out)
            have HikV := Lib.hid (HikV0.out.below hb9 (Nat.le_refl _))
            have HckV := Lib.hid (HckV0.out.keep (Mut := fun _ => False) (Keeps.of_new hb9) (fun e => e) (fun _ _ e => e))
            have HsV := Lib.hid (Nat.le_trans HsV0.out hb9.size)
            clear hS0 y0 y1 ym hlook hV2 hb9 HrV HbV0 Hmv0 HkV0 HrkV0 HikV0 HckV0 HsV0 xo
            rcases lv with _ | _
            · skip
              obtain ⟨vL, vR, C9, c9, W1, hc1, hrun, hc2, hkW, hN⟩ := HckV.out.app hSb HsV.out (by have h1 := cL_len zs op lkq ((jA n zs pt).take q); rw [List.length_take] at h1; omega) (ea : Int)
              have s0 : V2.cell? ⟨S, 0, none⟩ = some vL := by rw [cell_row hc1]; rfl
              have s1 : W1.cell? ⟨S, 0, none⟩ = some vL := by rw [cell_row hc2]; rfl
              have fS := fun o : Nat => frozen_row (k := o) hc2
              have p3 : V2.cell? ⟨P, 1, none⟩ = some (.int .i64 (ea : Int)) := by rw [cell_row HrV2.out]; rfl
              have hkS := keeps_setCell W1 S 0 (.slice C9 ((cL zs op lkq ((jA n zs pt).take q)).length + 1) c9)
              have hkT : Keeps (fun j => S ≤ j) V2 (W1.setCell ⟨S, 0, none⟩ (.slice C9 ((cL zs op lkq ((jA n zs pt).take q)).length + 1) c9)) := (hkW.mono (fun j _ e => by omega)).trans (hkS.mono (fun j _ e => by omega))
              have hkI : Keeps (fun j => j = S ∨ b ≤ j) V2 (W1.setCell ⟨S, 0, none⟩ (.slice C9 ((cL zs op lkq ((jA n zs pt).take q)).length + 1) c9)) := (hkW.mono (fun j _ e => .inr e)).trans (hkS.mono (fun j _ e => .inl e))
              have HN := Lib.hid (show ∃ X, X = W1.setCell ⟨S, 0, none⟩ (.slice C9 ((cL zs op lkq ((jA n zs pt).take q)).length + 1) c9) ∧ Brd X B sl sr A n cap zs A2 kn kc ks pt op (.map (some M)) ∧ LM X M lkq ∧ Keeps (fun j => j = B ∨ j = M) w X ∧ X.heap[R]? = some (.cells #[.slice none 0 0, .slice none 0 0] 27 (0, 0)) ∧ Ints X (some ⟨QJ, 0, none⟩) m (jI n zs pt) ∧ CwI S b (cL zs op lkq ((jA n zs pt).take (q + 1))) (cR zs op lkq ((jA n zs pt).take (q + 1))) X ∧ b ≤ X.heap.size from
                ⟨_, rfl, Brd.abide Hbo.out HbV.out hkT (fun j e => by have := HR.out; omega), HmV.out.keep hkT (fun e => by omega), keeps_old3 HkV.out (hkT.mono (fun j _ e => .inl (by have := HR.out; omega))), (hkT.block _ (lt_of_block HrkV.out) (by omega)).trans HrkV.out, HikV.out.keepN hkI (fun h0 a e => by cases e; show ¬ (QJ = S ∨ b ≤ QJ); omega), by
                  rw [HkT.out, cL_snoc, cR_snoc, Hop.out, Hea.out, Hlv.out]
                  exact hN, by have := HsV.out; have := hkT.size; omega⟩)
              clear hc1 hc2 hkW hN hkS hkT hkI
              go_wp2_with fail
              obtain ⟨X, hX, HN2⟩ := HN.out
              rw [← hX]
              have HN3 := Lib.hid HN2
              clear HN HN2 hX hrun s0 s1 fS p3
              go_roundw
              case rel => exact ⟨q + 1, by omega, by go_num, Lib.hid HN3.out⟩
              case measure => simp [intOf]; omega
            · skip
              obtain ⟨vL, vR, C9, c9, W1, hc1, hrun, hc2, hkW, hN⟩ := HckV.out.appR hSb HsV.out (by have h1 := cR_len zs op lkq ((jA n zs pt).take q); rw [List.length_take] at h1; omega) (eb : Int)
              have s0 : V2.cell? ⟨S, 1, none⟩ = some vR := by rw [cell_row hc1]; rfl
              have s1 : W1.cell? ⟨S, 1, none⟩ = some vR := by rw [cell_row hc2]; rfl
              have fS := fun o : Nat => frozen_row (k := o) hc2
              have p3 : V2.cell? ⟨P, 3, none⟩ = some (.int .i64 (eb : Int)) := by rw [cell_row HrV2.out]; rfl
              have hkS := keeps_setCell W1 S 1 (.slice C9 ((cR zs op lkq ((jA n zs pt).take q)).length + 1) c9)
              have hkT : Keeps (fun j => S ≤ j) V2 (W1.setCell ⟨S, 1, none⟩ (.slice C9 ((cR zs op lkq ((jA n zs pt).take q)).length + 1) c9)) := (hkW.mono (fun j _ e => by omega)).trans (hkS.mono (fun j _ e => by omega))
              have hkI : Keeps (fun j => j = S ∨ b ≤ j) V2 (W1.setCell ⟨S, 1, none⟩ (.slice C9 ((cR zs op lkq ((jA n zs pt).take q)).length + 1) c9)) := (hkW.mono (fun j _ e => .inr e)).trans (hkS.mono (fun j _ e => .inl e))
              have HN := Lib.hid (show ∃ X, X = W1.setCell ⟨S, 1, none⟩ (.slice C9 ((cR zs op lkq ((jA n zs pt).take q)).length + 1) c9) ∧ Brd X B sl sr A n cap zs A2 kn kc ks pt op (.map (some M)) ∧ LM X M lkq ∧ Keeps (fun j => j = B ∨ j = M) w X ∧ X.heap[R]? = some (.cells #[.slice none 0 0, .slice none 0 0] 27 (0, 0)) ∧ Ints X (some ⟨QJ, 0, none⟩) m (jI n zs pt) ∧ CwI S b (cL zs op lkq ((jA n zs pt).take (q + 1))) (cR zs op lkq ((jA n zs pt).take (q + 1))) X ∧ b ≤ X.heap.size from
                ⟨_, rfl, Brd.abide Hbo.out HbV.out hkT (fun j e => by have := HR.out; omega), HmV.out.keep hkT (fun e => by omega), keeps_old3 HkV.out (hkT.mono (fun j _ e => .inl (by have := HR.out; omega))), (hkT.block _ (lt_of_block HrkV.out) (by omega)).trans HrkV.out, HikV.out.keepN hkI (fun h0 a e => by cases e; show ¬ (QJ = S ∨ b ≤ QJ); omega), by
                  rw [HkT.out, cL_snoc, cR_snoc, Hop.out, Hea.out, Hlv.out, Heb.out]
                  exact hN, by have := HsV.out; have := hkT.size; omega⟩)
              clear hc1 hc2 hkW hN hkS hkT hkI
              go_wp2_with fail
              obtain ⟨X, hX, HN2⟩ := HN.out
              rw [← hX]
              have HN3 := Lib.hid HN2
              clear HN HN2 hX hrun s0 s1 fS p3
              go_roundw
              case rel => exact ⟨q + 1, by omega, by go_num, Lib.hid HN3.out⟩
              case measure => simp [intOf]; omega
        · obtain rfl : m = q := by omega
          obtain ⟨hbk, hmk, hkk, hrk, hik, hck, hsk⟩ := HV.out
          have htake : (jA n zs pt).take m = jA n zs pt := List.take_of_length_le (by have := HmA.out; omega)
          rw [htake, cL_all, cR_all] at hck
          obtain ⟨vL, vR, h1, h2, h3, h4, h5, h6⟩ := hck.ex
          have hlL : (cvL n zs op pt lkq).length ≤ 1000 := by
            have := cv_len n zs op pt lkq
            have h8 := cL_len zs op lkq (jA n zs pt)
            rw [cL_all] at h8
            have := HmA.out; omega
          have hlR : (cvR n zs op pt lkq).length ≤ 1000 := by
            have h8 := cR_len zs op lkq (jA n zs pt)
            rw [cR_all] at h8
            have := HmA.out; omega
          obtain ⟨cvl, hcvl⟩ : ∃ l, cvL n zs op pt lkq = l := ⟨_, rfl⟩
          obtain ⟨cvr, hcvr⟩ : ∃ l, cvR n zs op pt lkq = l := ⟨_, rfl⟩
          rw [hcvl] at h2 hlL
          rw [hcvr] at h3 hlR
          have y0 : wk.cell? ⟨S, 0, none⟩ = some vL := by rw [cell_row h1]; rfl
          have Hcvl := Lib.hid hcvl
          have Hcvr := Lib.hid hcvr
          have H1 := Lib.hid h1
          have H2 := Lib.hid h2
          have H3 := Lib.hid h3
          have H4 := Lib.hid h4
          have H5 := Lib.hid h5
          have H6 := Lib.hid h6
          have Hkk := Lib.hid hkk
          have Hrk := Lib.hid hrk
          clear HV hbk hmk hkk hrk hik hck htake h1 h2 h3 h4 h5 h6 hcvl hcvr
          go_wp2_with fail
          refine (sort_own srtI (F := 73) rfl rfl (by omega) H2.out).mono ?_
          rintro en V1 ⟨rfl, ⟨CL, cl, hvL, hiL⟩, hk1⟩
          have hkb1 : Keeps (fun j => b ≤ j) wk V1 := hk1.mono (fun j _ e => H4.out j e)
          have h31 := own_keep H3.out hk1 (fun g e e2 => H6.out g e2 e)
          have h11 := (hkb1.block _ (lt_of_block H1.out) (by omega)).trans H1.out
          have y1 : V1.cell? ⟨S, 1, none⟩ = some vR := by rw [cell_row h11]; rfl
          have HiL := Lib.hid hiL
          have HvL := Lib.hid hvL
          have H31 := Lib.hid h31
          have H11 := Lib.hid h11
          have Hkb1 := Lib.hid hkb1
          clear y0 hk1 hkb1 h31 h11 hiL hvL
          go_wp2_with fail
          refine (sort_own srtI (F := 73) rfl rfl (by omega) H31.out).mono ?_
          rintro en V2 ⟨rfl, ⟨CR, cr, hvR, hiR⟩, hk2⟩
          have hvL := HvL.out
          have hkb2 : Keeps (fun j => b ≤ j) V1 V2 := hk2.mono (fun j _ e => H5.out j e)
          have hiL2 := HiL.out.keepN hk2 (fun h0 a e => fun e2 => H6.out a.block (by rw [hvL, e]; rfl) e2)
          have h12 := (hkb2.block _ (lt_of_block H11.out) (by omega)).trans H11.out
          have hkA := (Hkb1.out.trans hkb2)
          have hr2 := (hkA.block _ (lt_of_block Hrk.out) (by omega)).trans Hrk.out
          have hkW := Lib.hid (keeps_old3 Hkk.out (hkA.mono (fun j _ e => .inl (by have := HR.out; omega))))
          rw [hvL, hvR] at h12
          have y0 : V2.cell? ⟨S, 0, none⟩ = some (.slice CL cvl.length cl) := by rw [cell_row h12]; rfl
          have y1 : V2.cell? ⟨S, 1, none⟩ = some (.slice CR cvr.length cr) := by rw [cell_row h12]; rfl
          have x0 : V2.cell? ⟨R, 0, none⟩ = some (.slice none 0 0) := by rw [cell_row hr2]; rfl
          have x1 : V2.cell? ⟨R, 1, none⟩ = some (.slice none 0 0) := by rw [cell_row hr2]; rfl
          have fR := fun o : Nat => frozen_row (k := o) hr2
          have HiL2 := Lib.hid hiL2
          have HiR := Lib.hid hiR
          have HvR := Lib.hid hvR
          have Hr2 := Lib.hid hr2
          clear hiL2 hiR hr2 hkA hk2 hkb2 h12 hvL hvR
          go_wp2_with fail
          have hkR : Keeps (fun j => j = R) V2 ((V2.setCell ⟨R, 0, none⟩ (.slice CL cvl.length cl)).setCell ⟨R, 1, none⟩ (.slice CR cvr.length cr)) := (keeps_setCell _ _ _ _).trans (keeps_setCell _ _ _ _)
          have hrR := set_same 1 (.slice CR cvr.length cr) (set_same 0 (.slice CL cvl.length cl) Hr2.out)
          refine bodyPost_ret (v := .agg #[.slice CL cvl.length cl, .slice CR cvr.length cr]) (res52 (by rfl) hrR) rfl ⟨lkq, CL, cl, CR, cr, by rw [Hcvl.out, Hcvr.out], Hcq.out, ?_, ?_, keeps_old3 hkW.out (hkR.mono (fun j _ e => .inl (by have := HR.out; omega)))⟩
          · rw [Hcvl.out]
            exact HiL2.out.keepN hkR (fun h0 a e e2 => by
              have h9 := H4.out a.block (by rw [HvL.out, e]; rfl)
              omega)
          · rw [Hcvr.out]
            exact HiR.out.keepN hkR (fun h0 a e e2 => by
              have h9 := H5.out a.block (by rw [HvR.out, e]; rfl)
              omega)
end Go.Proofs.Ytnodkgejggnehaa

namespace Go.Proofs.Ytnodkgejggnehaa
set_option linter.unusedSimpArgs false
set_option linter.unusedVariables false
open Go.RowKit Go.Shelf
theorem no_int {W : World} {R o : Nat} {x : Int} (h : W.heap[R]? = some (.cells #[.slice none 0 0, .slice none 0 0] 27 (0, 0))) (hc : W.cell? ⟨R, o, none⟩ = some (.int .i64 x)) : False := by
  rw [cell_row h] at hc
  rcases (by omega : o = 0 ∨ o = 1 ∨ 2 ≤ o) with rfl | rfl | h2
  · simp at hc
  · simp at hc
  · rw [Array.getElem?_eq_none (by simp; omega)] at hc; cases hc
theorem res23 {tmps : Array Value} {W : World} {R : Nat} {x y : Value} {e : Int} (h2 : tmps.getD 2 undef = .pointer (some ⟨R, 0, none⟩)) (h3 : tmps.getD 3 undef = .int .i64 e) (hR : W.heap[R]? = some (.cells #[x, y] 27 (0, 0))) :
    (results Try.f23 tmps).run Try.prog W = .ok (.tuple #[.agg #[x, y], .int .i64 e]) W := by
  have z0 : W.cell? ⟨R, 0, none⟩ = some x := by rw [cell_row hR]; rfl
  have z1 : W.cell? ⟨R, 1, none⟩ = some y := by rw [cell_row hR]; rfl
  rw [results_cell_tmp Try.results23, h2, h3]
  simp [go_sem, z0, z1]
set_option maxRecDepth 100000 in
set_option maxHeartbeats 16000000 in
theorem cover23_bad (sl sr : Int) (A : Option Addr) (n cap : Nat) (zs : List Rg) (A2 : Option Addr) (kn kc : Nat) (ks : List Int) (w : World) (h : Rgs w A n zs) (hI : Ints w A2 kn ks) (hc9 : n ≤ cap) (hn : n ≤ 1000000) (hk : kn ≤ 100000) (he : chkS sl sr zs ks ≠ 0) :
    Calls Try.prog 23 #[.agg #[.int .i64 sl, .int .i64 sr, .slice A n cap, .slice A2 kn kc]] w fun e w' => e = .returned (.tuple #[.agg #[.slice none 0 0, .slice none 0 0], .int .i64 (chkS sl sr zs ks)]) ∧ Below w.heap.size w w' := by
  have hb0 := below_alloc_ w (.cells #[.int .i64 sl, .int .i64 sr, .slice A n cap, .slice A2 kn kc] 25)
  have hr0 := heap_alloc_new_ w (.cells #[.int .i64 sl, .int .i64 sr, .slice A n cap, .slice A2 kn kc] 25)
  have hs0 : (w.alloc (.cells #[.int .i64 sl, .int .i64 sr, .slice A n cap, .slice A2 kn kc] 25)).heap.size = w.heap.size + 1 := by simp
  obtain ⟨w0, hW0⟩ : ∃ w0, w.alloc (.cells #[.int .i64 sl, .int .i64 sr, .slice A n cap, .slice A2 kn kc] 25) = w0 := ⟨_, rfl⟩
  rw [hW0] at hb0 hr0 hs0
  have hb2 := below_alloc_ w0 (.cells #[.slice none 0 0, .slice none 0 0] 27)
  have hr2 := heap_alloc_new_ w0 (.cells #[.slice none 0 0, .slice none 0 0] 27)
  obtain ⟨w2, hW2⟩ : ∃ w2, w0.alloc (.cells #[.slice none 0 0, .slice none 0 0] 27) = w2 := ⟨_, rfl⟩
  rw [hW2] at hb2 hr2
  obtain ⟨R, hR⟩ : ∃ R, w.heap.size = R := ⟨_, rfl⟩
  have hbb : Below w.heap.size w w2 := hb0.trans (hb2.mono hb0.size)
  replace hr0 := (hb2.block _ (lt_of_block hr0)).trans hr0
  rw [hs0] at hr2
  rw [hR] at hr0 hr2
  have k50 := join50_bad sl sr A n cap zs A2 kn kc ks w2 (h.below hbb (Nat.le_refl _)) (hI.below hbb (Nat.le_refl _)) hc9 hn hk he
  have x0 : w2.cell? ⟨R, 0, none⟩ = some (.int .i64 sl) := by rw [cell_row hr0]; rfl
  have x1 : w2.cell? ⟨R, 1, none⟩ = some (.int .i64 sr) := by rw [cell_row hr0]; rfl
  have x2 : w2.cell? ⟨R, 2, none⟩ = some (.slice A n cap) := by rw [cell_row hr0]; rfl
  have x3 : w2.cell? ⟨R, 3, none⟩ = some (.slice A2 kn kc) := by rw [cell_row hr0]; rfl
  have K50 := Lib.hid k50
  have HB := Lib.hid hbb
  have HW0 := Lib.hid hW0
  have HW2 := Lib.hid hW2
  have HR := Lib.hid hR
  have Hr2 := Lib.hid hr2
  have Hne := Lib.hid he
  clear he
  clear h hI hb0 hr0 hW0 hR k50 hs0 hb2 hr2 hW2 hbb
  go_enter Try.func23, Try.ntmps23
  go_wp2_with fail
  try rw [HW0.out]
  try rw [HW2.out]
  try rw [HR.out]
  try go_wp2_with fail
  refine K50.out.mono ?_
  rintro en w3 ⟨rfl, hb1⟩
  have hr3 := (hb1.block _ (lt_of_block Hr2.out)).trans Hr2.out
  have y0 : w3.cell? ⟨R + 1, 0, none⟩ = some (.slice none 0 0) := by rw [cell_row hr3]; rfl
  have y1 : w3.cell? ⟨R + 1, 1, none⟩ = some (.slice none 0 0) := by rw [cell_row hr3]; rfl
  have fR := fun o : Nat => frozen_row (k := o) hr3
  have HB1 := Lib.hid (HB.out.trans (hb1.mono HB.out.size))
  have hRw : w.heap.size ≤ R + 1 := by have := HR.out; omega
  have Hr3 := Lib.hid hr3
  clear K50 hb1 x0 x1 x2 x3 hr3
  have d1 : (chkS sl sr zs ks != 0) = true := by rw [bne_iff_ne]; exact Hne.out
  obtain ⟨q, hq⟩ : ∃ q, chkS sl sr zs ks = q := ⟨_, rfl⟩
  rw [hq] at d1 ⊢
  have Hq := Lib.hid hq
  clear hq
  go_wp2_with fail
  have hkR : Keeps (fun j => j = R + 1) w3 ((w3.setCell ⟨R + 1, 0, none⟩ (.slice none 0 0)).setCell ⟨R + 1, 1, none⟩ (.slice none 0 0)) := (keeps_setCell _ _ _ _).trans (keeps_setCell _ _ _ _)
  have hrR := set_same 1 (.slice none 0 0) (set_same 0 (.slice none 0 0) Hr3.out)
  refine bodyPost_ret (v := .tuple #[.agg #[.slice none 0 0, .slice none 0 0], .int .i64 q]) (res23 (by rfl) (by rfl) hrR) rfl ⟨by rw [Hq.out], HB1.out.trans (hkR.below HB1.out.size (fun j hj e => by omega))⟩
set_option maxRecDepth 100000 in
set_option maxHeartbeats 16000000 in
theorem cover23 (sl sr : Int) (A : Option Addr) (n cap : Nat) (zs : List Rg) (A2 : Option Addr) (kn kc : Nat) (ks : List Int) (w : World) (h : Rgs w A n zs) (hI : Ints w A2 kn ks) (hc9 : n ≤ cap) (hn : n ≤ 1000000) (hk : kn ≤ 100000) (he : chkS sl sr zs ks = 0) :
    Calls Try.prog 23 #[.agg #[.int .i64 sl, .int .i64 sr, .slice A n cap, .slice A2 kn kc]] w fun e w' => ∃ pt lk CL cl CR cr, e = .returned (.tuple #[.agg #[.slice CL (cvL n zs (opnL n zs ks) pt lk).length cl, .slice CR (cvR n zs (opnL n zs ks) pt lk).length cr], .int .i64 0]) ∧ GB n zs (opnL n zs ks) pt (kNt ks) ∧ CoI n zs (opnL n zs ks) pt lk sl.toNat ∧ Ints w' CL (cvL n zs (opnL n zs ks) pt lk).length (srtL (cvL n zs (opnL n zs ks) pt lk)) ∧ Ints w' CR (cvR n zs (opnL n zs ks) pt lk).length (srtL (cvR n zs (opnL n zs ks) pt lk)) ∧ Below w.heap.size w w' := by
  have hb0 := below_alloc_ w (.cells #[.int .i64 sl, .int .i64 sr, .slice A n cap, .slice A2 kn kc] 25)
  have hr0 := heap_alloc_new_ w (.cells #[.int .i64 sl, .int .i64 sr, .slice A n cap, .slice A2 kn kc] 25)
  have hs0 : (w.alloc (.cells #[.int .i64 sl, .int .i64 sr, .slice A n cap, .slice A2 kn kc] 25)).heap.size = w.heap.size + 1 := by simp
  obtain ⟨w0, hW0⟩ : ∃ w0, w.alloc (.cells #[.int .i64 sl, .int .i64 sr, .slice A n cap, .slice A2 kn kc] 25) = w0 := ⟨_, rfl⟩
  rw [hW0] at hb0 hr0 hs0
  have hb2 := below_alloc_ w0 (.cells #[.slice none 0 0, .slice none 0 0] 27)
  have hr2 := heap_alloc_new_ w0 (.cells #[.slice none 0 0, .slice none 0 0] 27)
  obtain ⟨w2, hW2⟩ : ∃ w2, w0.alloc (.cells #[.slice none 0 0, .slice none 0 0] 27) = w2 := ⟨_, rfl⟩
  rw [hW2] at hb2 hr2
  obtain ⟨R, hR⟩ : ∃ R, w.heap.size = R := ⟨_, rfl⟩
  have hbb : Below w.heap.size w w2 := hb0.trans (hb2.mono hb0.size)
  replace hr0 := (hb2.block _ (lt_of_block hr0)).trans hr0
  rw [hs0] at hr2
  rw [hR] at hr0 hr2
  have k50 := join50 sl sr A n cap zs A2 kn kc ks w2 (h.below hbb (Nat.le_refl _)) (hI.below hbb (Nat.le_refl _)) hc9 hn hk he
  have x0 : w2.cell? ⟨R, 0, none⟩ = some (.int .i64 sl) := by rw [cell_row hr0]; rfl
  have x1 : w2.cell? ⟨R, 1, none⟩ = some (.int .i64 sr) := by rw [cell_row hr0]; rfl
  have x2 : w2.cell? ⟨R, 2, none⟩ = some (.slice A n cap) := by rw [cell_row hr0]; rfl
  have x3 : w2.cell? ⟨R, 3, none⟩ = some (.slice A2 kn kc) := by rw [cell_row hr0]; rfl
  have K50 := Lib.hid k50
  have HB := Lib.hid hbb
  have HW0 := Lib.hid hW0
  have HW2 := Lib.hid hW2
  have HR := Lib.hid hR
  have Hr2 := Lib.hid hr2
  have hsg := shg_of he
  have hzl := h.1
  have Hsg := Lib.hid hsg
  have Hzl := Lib.hid hzl
  clear hsg hzl he
  clear h hI hb0 hr0 hW0 hR k50 hs0 hb2 hr2 hW2 hbb
  go_enter Try.func23, Try.ntmps23
  go_wp2_with fail
  try rw [HW0.out]
  try rw [HW2.out]
  try rw [HR.out]
  try go_wp2_with fail
  refine K50.out.mono ?_
  rintro en w1 ⟨B, M, pt, lk, rfl, hB, hM, hb, hm, hgb, hb1⟩
  have hz : ZOk n zs := by rw [← Hzl.out]; exact Hsg.out.zok
  have hn40 : n ≤ 40 := by have := Hsg.out.n40; have := Hzl.out; omega
  obtain ⟨c, hc, hc12⟩ : ∃ c : Nat, sl = (c : Int) ∧ c ≤ 12 := ⟨sl.toNat, by have := Hsg.out.rng; omega, by have := Hsg.out.rng; omega⟩
  have he0 : ∀ k, k < n → eN zs 0 k < c := fun k hk => by have := Hsg.out.e0 k (by rw [Hzl.out]; exact hk); omega
  obtain ⟨d, hd, hd12⟩ : ∃ d : Nat, sr = (d : Int) ∧ d ≤ 12 := ⟨sr.toNat, by have := Hsg.out.rng; omega, by have := Hsg.out.rng; omega⟩
  have he1 : ∀ k, k < n → eN zs 1 k < d := fun k hk => by have := Hsg.out.e1 k (by rw [Hzl.out]; exact hk); omega
  have k52 := cover52 B sl sr A n cap zs A2 kn kc ks pt (opnL n zs ks) M lk (kNt ks) c d w1 hb hm hgb hn40 hz hc hd hc12 hd12 he0 he1
  have K52 := Lib.hid k52
  have Hgb := Lib.hid hgb
  have Hc := Lib.hid hc
  have hs9 := HB.out.size
  have hRw : w.heap.size ≤ R + 1 := by have := HR.out; omega
  have hR2 : R + 1 < w2.heap.size := lt_of_block Hr2.out
  have HBM := Lib.hid (show w2.heap.size ≤ B ∧ w2.heap.size ≤ M from ⟨hB, hM⟩)
  have Hr3 := Lib.hid ((hb1.block _ (lt_of_block Hr2.out)).trans Hr2.out)
  have HB1 := Lib.hid (HB.out.trans (hb1.mono HB.out.size))
  clear K50 hb1 x0 x1 x2 x3 hb hm hgb hz hc he0 he1 hd k52 hM hB
  go_wp2_with fail
  refine K52.out.mono ?_
  rintro en w3 ⟨lk2, CL, cl, CR, cr, rfl, hco, hiL, hiR, hk3⟩
  have hr4 := (hk3.block _ (lt_of_block Hr3.out) (by have := HBM.out; omega)).trans Hr3.out
  have y0 : w3.cell? ⟨R + 1, 0, none⟩ = some (.slice none 0 0) := by rw [cell_row hr4]; rfl
  have y1 : w3.cell? ⟨R + 1, 1, none⟩ = some (.slice none 0 0) := by rw [cell_row hr4]; rfl
  have fR := fun o : Nat => frozen_row (k := o) hr4
  have Hr4 := Lib.hid hr4
  have Hco := Lib.hid hco
  have HiL := Lib.hid hiL
  have HiR := Lib.hid hiR
  have HB3 := Lib.hid (HB1.out.trans (hk3.below HB1.out.size (fun j hj e => by have := HBM.out; omega)))
  clear K52 hr4 hco hiL hiR hk3
  go_wp2_with fail
  have hkR := (keeps_setCell w3 (R + 1) 0 (.slice CL (cvL n zs (opnL n zs ks) pt lk2).length cl)).trans (keeps_setCell _ (R + 1) 1 (.slice CR (cvR n zs (opnL n zs ks) pt lk2).length cr))
  have hrR := set_same 1 (.slice CR (cvR n zs (opnL n zs ks) pt lk2).length cr) (set_same 0 (.slice CL (cvL n zs (opnL n zs ks) pt lk2).length cl) Hr4.out)
  refine bodyPost_ret (v := .tuple #[.agg #[.slice CL (cvL n zs (opnL n zs ks) pt lk2).length cl, .slice CR (cvR n zs (opnL n zs ks) pt lk2).length cr], .int .i64 0]) (res23 (by rfl) (by rfl) hrR) rfl ⟨pt, lk2, CL, cl, CR, cr, rfl, Hgb.out, by rw [Hc.out]; exact Hco.out, ?_, ?_, HB3.out.trans (hkR.below HB3.out.size (fun j hj e => by omega))⟩
  · exact HiL.out.keepN hkR (fun h0 a e e2 => by
      obtain ⟨b, o, e3, hc⟩ := HiL.out.2 h0
      rw [e] at e3; cases e3
      have e4 : b = R + 1 := e2
      subst e4
      exact no_int Hr4.out (hc 0 h0))
  · exact HiR.out.keepN hkR (fun h0 a e e2 => by
      obtain ⟨b, o, e3, hc⟩ := HiR.out.2 h0
      rw [e] at e3; cases e3
      have e4 : b = R + 1 := e2
      subst e4
      exact no_int Hr4.out (hc 0 h0))
end Go.Proofs.Ytnodkgejggnehaa
