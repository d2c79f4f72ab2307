/- Stage 6: Works. -/
import Derived.Test.YtigohccehllmnaaGl
import Derived.Test.YtigohccehllmnaaEx
import Derived.Test.YtigohccehllmnaaRf
namespace Go.Proofs.Ytigohccehllmnaa
set_option linter.unusedSimpArgs false
set_option linter.unusedVariables false
open Go.RowKit Go.Shelf

theorem ints_row_ {W : World} {Z : Nat} (L : List Int) {t : TypeId} (h : W.heap[Z]? = some (.cells (flatI L).toArray t (0, 0))) : Ints W (some ⟨Z, 0, none⟩) L.length L := ints_row h
theorem ex_lay (a b c : Nat) (ds : List Int) (h : risI 6 ds = true) : layE (exL a b c) ds = 0 := layE_0 (ex_chk a b c) h
theorem ex_cost {S : Int → Bool} (h0 : S 0 = true) (h4 : S 4 = false) : costS exZ S = ind (!S 1) 3 + ind (S 1) 2 + ind (!S 2) 2 + ind (S 2) 4 + ind (S 1 != S 2) 1 + ind (S 3) 1 := by
  unfold costS
  show sumN 6 _ = _
  simp [sumN, cutB, lAt, exZ, h0, h4]
theorem ex_ge {S : Int → Bool} (h : IsSd [0] [4] S) : 5 ≤ costS exZ S ∧ (costS exZ S ≤ 5 → S 2 = false ∧ S 3 = false) := by
  rw [ex_cost (h.1 0 (by simp)) (h.2 4 (by simp))]
  cases S 1 <;> cases S 2 <;> cases S 3 <;> simp [ind]
def exA : Int → Bool := fun x => decide (x = 0)
def exB : Int → Bool := fun x => decide (x = 0) || decide (x = 1)
theorem exA_sd : IsSd [0] [4] exA := ⟨fun y hy => by simp at hy; subst hy; rfl, fun y hy => by simp at hy; subst hy; rfl⟩
theorem exB_sd : IsSd [0] [4] exB := ⟨fun y hy => by simp at hy; subst hy; rfl, fun y hy => by simp at hy; subst hy; rfl⟩
theorem exA_cost : costS exZ exA = 5 := by decide +kernel
theorem exB_cost : costS exZ exB = 5 := by decide +kernel
theorem exA_cheap : Cheap exZ [0] [4] exA := ⟨exA_sd, fun T hT => by rw [exA_cost]; exact (ex_ge hT).1⟩
theorem exB_cheap : Cheap exZ [0] [4] exB := ⟨exB_sd, fun T hT => by rw [exB_cost]; exact (ex_ge hT).1⟩
theorem ex_cheap {S : Int → Bool} (h : Cheap exZ [0] [4] S) : S 2 = false ∧ S 3 = false := (ex_ge h.1).2 (by have := h.2 exA exA_sd; rw [exA_cost] at this; exact this)
section
variable {f : Nat → Int} {S0 : Int → Bool} (hz : OkL 5 exZ) (hf : FlowOk 5 exZ [0] [4] f) (h0 : IsSd [0] [4] S0) (hc0 : ClosedS exZ (opF exZ f) S0)
include hz hf h0 hc0
theorem ex_great : greatF exZ f [0] = 5 := by rw [← great_cheap hz hf h0 hc0 exA_cheap, exA_cost]
theorem ex_R {R : Int → Bool} (hR : RS exZ (opF exZ f) [0] R) : R 0 = true ∧ R 1 = false ∧ R 2 = false ∧ R 3 = false ∧ R 4 = false := by
  have h1 := fun x (e : R x = true) => (rs_all hz hf h0 hc0 hR x).1 e exA exA_cheap
  refine ⟨hR.st 0 (by simp), ?_, ?_, ?_, ?_⟩ <;> (rw [← Bool.not_eq_true]; intro e; have := h1 _ e; simp [exA] at this)
theorem ex_least {R : Int → Bool} (hR : RS exZ (opF exZ f) [0] R) : nmK R 5 = [0] := by
  obtain ⟨a, b, c, d, e⟩ := ex_R hz hf h0 hc0 hR
  simp [nmK, List.range, List.range.loop, a, b, c, d, e]
theorem ex_sides {R R' : Int → Bool} (hR : RS exZ (opF exZ f) [0] R) (hR' : RS exZ (opB exZ f) [4] R') : sdL R R' 5 = [1, 0, -1, -1, -1] := by
  obtain ⟨a, b, c, d, e⟩ := ex_R hz hf h0 hc0 hR
  have h1 := fun x (e : R' x = true) => (rb_none hz hf h0 hc0 hR' x).1 e exB exB_cheap
  have k1 : R' 1 = false := by rw [← Bool.not_eq_true]; intro e; have := h1 _ e; simp [exB] at this
  have k2 : R' 2 = true := (rb_none hz hf h0 hc0 hR' 2).2 fun S hS => (ex_cheap hS).1
  have k3 : R' 3 = true := (rb_none hz hf h0 hc0 hR' 3).2 fun S hS => (ex_cheap hS).2
  have k4 : R' 4 = true := hR'.st 4 (by simp)
  simp [sdL, sdV, List.range, List.range.loop, a, b, c, d, e, k1, k2, k3, k4]
end
theorem ex_grp : dgK (labG exZ [0, 2] 6 5) 5 5 = [[0], [1, 2, 3, 4]] := by decide +kernel
theorem ex_jn0 : jnB (labG exZ [0] 6 5) [0] [4] = true := by decide +kernel
theorem ex_jn2 : jnB (labG exZ [0, 2] 6 5) [0] [4] = false := by decide +kernel
theorem ex_chn0 : chkC (exL 0 0 0) [0] [0, 2, 4] 3 = 0 := by
  rw [chk_hd (ex_lay 0 0 0 [0] rfl)]
  decide +kernel
theorem ex_chn (a b c : Nat) : chkC (exL a b c) [0] [0, 2, 4] 3 = 0 := ex_chn0
theorem ex_cut0 : cutE (exL 0 0 0) [0, 1] = 0 := by
  unfold cutE
  rw [layE_nil, ex_chk]
  decide +kernel
theorem ex_cut (a b c : Nat) : cutE (exL a b c) [0, 1] = 0 := ex_cut0
theorem ex_ctK : ctK exZ [0, 1] 6 = [1, 2, 4] := by decide +kernel
theorem ex_csK : csK exZ [0, 1] 6 = 5 := by decide +kernel
theorem ex_csA : csK exZ [0] 6 = 5 := by decide +kernel
theorem ex_fl0 : flE (exL 0 0 0) 6 [3, 2, 2, 3, 1, 0] = 0 := by
  unfold flE
  rw [layE_nil, ex_chk]
  decide +kernel
theorem ex_fl (a b c : Nat) : flE (exL a b c) 6 [3, 2, 2, 3, 1, 0] = 0 := ex_fl0
theorem ex_gr0 : grE (exL 0 0 0) 6 [3, 2, 2, 3, 1, 0] = 5 := by
  unfold grE
  rw [ex_fl]
  decide +kernel
theorem ex_gr (a b c : Nat) : grE (exL a b c) 6 [3, 2, 2, 3, 1, 0] = 5 := ex_gr0
end Go.Proofs.Ytigohccehllmnaa

namespace Go.Proofs.Ytigohccehllmnaa
set_option linter.unusedSimpArgs false
set_option linter.unusedVariables false
open Go.RowKit Go.Shelf
section
attribute [local go_sem ↓] exec_app at_app
attribute [local go_sem] Oper.semAt_some
set_option maxRecDepth 100000 in
set_option maxHeartbeats 40000000 in
theorem works14 (w : World) : Calls Try.prog 14 #[] w fun en w' => en = .returned (.bool true) ∧ Below w.heap.size w w' := by
  go_enter Try.func14, Try.ntmps14
  go_wp2_with fail
  refine (list40 w).mono ?_
  rintro en w0 ⟨a, b, c, rfl, hn, -, -, -, hb⟩
  obtain ⟨l, hl⟩ : ∃ l, exL a b c = l := ⟨_, rfl⟩
  have hch : chkL l = 0 := by rw [← hl]; exact ex_chk a b c
  have hln : l.n = 6 := by rw [← hl]; rfl
  have hlz : l.zs = exZ := by rw [← hl]; rfl
  have hlN : l.N.toNat = 5 := by rw [← hl]; rfl
  have hll : l.ls = [0] := by rw [← hl]; rfl
  have hlr : l.rs = [4] := by rw [← hl]; rfl
  have e1 : layE l [0, 2] = 0 := by rw [← hl]; exact ex_lay a b c _ rfl
  have e2 : layE l [0] = 0 := by rw [← hl]; exact ex_lay a b c _ rfl
  have e3 : chkC l [0] [0, 2, 4] 3 = 0 := by rw [← hl]; exact ex_chn a b c
  have e4 : cutE l [0, 1] = 0 := by rw [← hl]; exact ex_cut a b c
  have e5 : flE l 6 [3, 2, 2, 3, 1, 0] = 0 := by rw [← hl]; exact ex_fl a b c
  have e6 : grE l 6 [3, 2, 2, 3, 1, 0] = 5 := by rw [← hl]; exact ex_gr a b c
  have hz : OkL 5 exZ := by have := okl_list hn (l := exL a b c) (ex_chk a b c); exact this
  rw [hl] at hn ⊢
  have S := Lib.hid hn
  have B := Lib.hid hb
  have HCH := Lib.hid hch
  have HLN := Lib.hid hln
  have HLZ := Lib.hid hlz
  have HNN := Lib.hid hlN
  have HLL := Lib.hid hll
  have HLR := Lib.hid hlr
  have HE1 := Lib.hid e1
  have HE2 := Lib.hid e2
  have HE3 := Lib.hid e3
  have HE4 := Lib.hid e4
  have HE5 := Lib.hid e5
  have HE6 := Lib.hid e6
  have HOZ := Lib.hid hz
  clear hn hb hch hln hlz hlN hll hlr hl e1 e2 e3 e4 e5 e6 hz a b c
  have hb := below_alloc_ w0 (.cells #[.int .i64 l.N, .slice l.A l.n l.cap, .slice l.LA l.ln l.lc, .slice l.RA l.rn l.rc] 25)
  have hr := heap_alloc_new_ w0 (.cells #[.int .i64 l.N, .slice l.A l.n l.cap, .slice l.LA l.ln l.lc, .slice l.RA l.rn l.rc] 25)
  obtain ⟨w1, hw1⟩ : ∃ v, w0.alloc (.cells #[.int .i64 l.N, .slice l.A l.n l.cap, .slice l.LA l.ln l.lc, .slice l.RA l.rn l.rc] 25) = v := ⟨_, rfl⟩
  obtain ⟨R, hR⟩ : ∃ v, w0.heap.size = v := ⟨_, rfl⟩
  rw [hw1] at hb hr
  rw [hR] at hr
  have Hw1 := Lib.hid hw1
  have HR := Lib.hid hR
  clear hw1 hR
  replace S := Lib.hid (S.out.below hb (Nat.le_refl _))
  replace B := Lib.hid (B.out.trans (hb.mono B.out.size))
  clear hb
  have X := Lib.hid hr
  clear hr
  go_upto_region 2 with fail
  rw [Hw1.out]
  rw [HR.out]
  have ltX : R < w1.heap.size := lt_of_block X.out
  have zX0 : w1.cell? ⟨R, 0, none⟩ = some (.int .i64 l.N) := by rw [cell_row X.out]; rfl
  have zX1 : w1.cell? ⟨R, 1, none⟩ = some (.slice l.A l.n l.cap) := by rw [cell_row X.out]; rfl
  have zX2 : w1.cell? ⟨R, 2, none⟩ = some (.slice l.LA l.ln l.lc) := by rw [cell_row X.out]; rfl
  have zX3 : w1.cell? ⟨R, 3, none⟩ = some (.slice l.RA l.rn l.rc) := by rw [cell_row X.out]; rfl
  go_wp2_with fail
  clear zX0 zX1 zX2 zX3 ltX
  have hb := below_alloc_ w1 (.cells (flatI [0, 2]).toArray 3)
  have hr := heap_alloc_new_ w1 (.cells (flatI [0, 2]).toArray 3)
  obtain ⟨w2, hw2⟩ : ∃ v, w1.alloc (.cells (flatI [0, 2]).toArray 3) = v := ⟨_, rfl⟩
  obtain ⟨Q1, hQ1⟩ : ∃ v, w1.heap.size = v := ⟨_, rfl⟩
  rw [hw2] at hb hr
  rw [hQ1] at hr
  have Hw2 := Lib.hid hw2
  have HQ1 := Lib.hid hQ1
  clear hw2 hQ1
  replace S := Lib.hid (S.out.below hb (Nat.le_refl _))
  replace X := Lib.hid ((hb.block _ (lt_of_block X.out)).trans X.out)
  replace B := Lib.hid (B.out.trans (hb.mono B.out.size))
  clear hb
  have HL1 := Lib.hid (show Ints w2 (some ⟨Q1, 0, none⟩) 2 [0, 2] from ints_row_ [0, 2] hr)
  clear hr
  try rw [show w1.alloc (.cells #[.int .i64 0, .int .i64 2] 3) = w2 from Hw2.out]
  try rw [HQ1.out]
  refine (groups15 l (some ⟨Q1, 0, none⟩) 2 2 [0, 2] w2 S.out HL1.out (Nat.le_refl _) (by omega)).mono ?_
  rintro en w3 ⟨hh, hb⟩
  replace S := Lib.hid (S.out.below hb (Nat.le_refl _))
  replace HL1 := Lib.hid (HL1.out.below hb (Nat.le_refl _))
  replace X := Lib.hid ((hb.block _ (lt_of_block X.out)).trans X.out)
  replace B := Lib.hid (B.out.trans (hb.mono B.out.size))
  rcases hh with ⟨h0, -⟩ | ⟨-, CG, cg, gs, G, rfl, hcg, hR, hG⟩
  · exact absurd HE1.out h0
  have hgs : gs = [[0], [1, 2, 3, 4]] := by
    have := gps_ref S.out HE1.out hG
    rw [HLZ.out, HLN.out, HNN.out] at this
    rw [this]; exact ex_grp
  subst hgs
  have HG := Lib.hid hR
  clear hR hG
  try clear hb
  clear HL1
  have ltX : R < w3.heap.size := lt_of_block X.out
  have zX0 : w3.cell? ⟨R, 0, none⟩ = some (.int .i64 l.N) := by rw [cell_row X.out]; rfl
  have zX1 : w3.cell? ⟨R, 1, none⟩ = some (.slice l.A l.n l.cap) := by rw [cell_row X.out]; rfl
  have zX2 : w3.cell? ⟨R, 2, none⟩ = some (.slice l.LA l.ln l.lc) := by rw [cell_row X.out]; rfl
  have zX3 : w3.cell? ⟨R, 3, none⟩ = some (.slice l.RA l.rn l.rc) := by rw [cell_row X.out]; rfl
  go_wp2_with fail
  clear zX0 zX1 zX2 zX3 ltX
  have hb := below_alloc_ w3 (.cells (flatI [0]).toArray 3)
  have hr := heap_alloc_new_ w3 (.cells (flatI [0]).toArray 3)
  obtain ⟨w4, hw4⟩ : ∃ v, w3.alloc (.cells (flatI [0]).toArray 3) = v := ⟨_, rfl⟩
  obtain ⟨Q2, hQ2⟩ : ∃ v, w3.heap.size = v := ⟨_, rfl⟩
  rw [hw4] at hb hr
  rw [hQ2] at hr
  have Hw4 := Lib.hid hw4
  have HQ2 := Lib.hid hQ2
  clear hw4 hQ2
  replace S := Lib.hid (S.out.below hb (Nat.le_refl _))
  replace HG := Lib.hid (HG.out.below hb (Nat.le_refl _))
  replace X := Lib.hid ((hb.block _ (lt_of_block X.out)).trans X.out)
  replace B := Lib.hid (B.out.trans (hb.mono B.out.size))
  clear hb
  have HL2 := Lib.hid (show Ints w4 (some ⟨Q2, 0, none⟩) 1 [0] from ints_row_ [0] hr)
  clear hr
  try rw [show w3.alloc (.cells #[.int .i64 0] 3) = w4 from Hw4.out]
  try rw [HQ2.out]
  have hb := below_alloc_ w4 (.cells (flatI [0, 2, 4]).toArray 3)
  have hr := heap_alloc_new_ w4 (.cells (flatI [0, 2, 4]).toArray 3)
  obtain ⟨w5, hw5⟩ : ∃ v, w4.alloc (.cells (flatI [0, 2, 4]).toArray 3) = v := ⟨_, rfl⟩
  obtain ⟨Q3, hQ3⟩ : ∃ v, w4.heap.size = v := ⟨_, rfl⟩
  rw [hw5] at hb hr
  rw [hQ3] at hr
  have Hw5 := Lib.hid hw5
  have HQ3 := Lib.hid hQ3
  clear hw5 hQ3
  replace S := Lib.hid (S.out.below hb (Nat.le_refl _))
  replace HG := Lib.hid (HG.out.below hb (Nat.le_refl _))
  replace HL2 := Lib.hid (HL2.out.below hb (Nat.le_refl _))
  replace X := Lib.hid ((hb.block _ (lt_of_block X.out)).trans X.out)
  replace B := Lib.hid (B.out.trans (hb.mono B.out.size))
  clear hb
  have HL3 := Lib.hid (show Ints w5 (some ⟨Q3, 0, none⟩) 3 [0, 2, 4] from ints_row_ [0, 2, 4] hr)
  clear hr
  try rw [show w4.alloc (.cells #[.int .i64 0, .int .i64 2, .int .i64 4] 3) = w5 from Hw5.out]
  try rw [HQ3.out]
  rw [show Q2 + 1 = Q3 from by rw [← HQ3.out, ← Hw4.out, ← HQ2.out]; simp]
  refine (checkChain21 l (some ⟨Q2, 0, none⟩) 1 1 [0] (some ⟨Q3, 0, none⟩) 3 3 [0, 2, 4] w5 S.out HL2.out (Nat.le_refl _) (by omega) HL3.out (Nat.le_refl _) (by omega)).mono ?_
  rintro en w6 ⟨rfl, hb⟩
  replace S := Lib.hid (S.out.below hb (Nat.le_refl _))
  replace HG := Lib.hid (HG.out.below hb (Nat.le_refl _))
  replace HL2 := Lib.hid (HL2.out.below hb (Nat.le_refl _))
  replace HL3 := Lib.hid (HL3.out.below hb (Nat.le_refl _))
  replace X := Lib.hid ((hb.block _ (lt_of_block X.out)).trans X.out)
  replace B := Lib.hid (B.out.trans (hb.mono B.out.size))
  rw [HE3.out]
  try clear hb
  clear HL2
  clear HL3
  have ltX : R < w6.heap.size := lt_of_block X.out
  have zX0 : w6.cell? ⟨R, 0, none⟩ = some (.int .i64 l.N) := by rw [cell_row X.out]; rfl
  have zX1 : w6.cell? ⟨R, 1, none⟩ = some (.slice l.A l.n l.cap) := by rw [cell_row X.out]; rfl
  have zX2 : w6.cell? ⟨R, 2, none⟩ = some (.slice l.LA l.ln l.lc) := by rw [cell_row X.out]; rfl
  have zX3 : w6.cell? ⟨R, 3, none⟩ = some (.slice l.RA l.rn l.rc) := by rw [cell_row X.out]; rfl
  go_wp2_with fail
  clear zX0 zX1 zX2 zX3 ltX
  have hb := below_alloc_ w6 (.cells (flatI [0, 2]).toArray 3)
  have hr := heap_alloc_new_ w6 (.cells (flatI [0, 2]).toArray 3)
  obtain ⟨w7, hw7⟩ : ∃ v, w6.alloc (.cells (flatI [0, 2]).toArray 3) = v := ⟨_, rfl⟩
  obtain ⟨Q4, hQ4⟩ : ∃ v, w6.heap.size = v := ⟨_, rfl⟩
  rw [hw7] at hb hr
  rw [hQ4] at hr
  have Hw7 := Lib.hid hw7
  have HQ4 := Lib.hid hQ4
  clear hw7 hQ4
  replace S := Lib.hid (S.out.below hb (Nat.le_refl _))
  replace HG := Lib.hid (HG.out.below hb (Nat.le_refl _))
  replace X := Lib.hid ((hb.block _ (lt_of_block X.out)).trans X.out)
  replace B := Lib.hid (B.out.trans (hb.mono B.out.size))
  clear hb
  have HL4 := Lib.hid (show Ints w7 (some ⟨Q4, 0, none⟩) 2 [0, 2] from ints_row_ [0, 2] hr)
  clear hr
  try rw [show w6.alloc (.cells #[.int .i64 0, .int .i64 2] 3) = w7 from Hw7.out]
  try rw [HQ4.out]
  refine (chain20 l (some ⟨Q4, 0, none⟩) 2 2 [0, 2] w7 S.out HL4.out (Nat.le_refl _) (by omega)).mono ?_
  rintro en w8 ⟨hh, hb⟩
  replace S := Lib.hid (S.out.below hb (Nat.le_refl _))
  replace HG := Lib.hid (HG.out.below hb (Nat.le_refl _))
  replace HL4 := Lib.hid (HL4.out.below hb (Nat.le_refl _))
  replace X := Lib.hid ((hb.block _ (lt_of_block X.out)).trans X.out)
  replace B := Lib.hid (B.out.trans (hb.mono B.out.size))
  rcases hh with ⟨h0, -⟩ | ⟨-, ⟨C, cap, ws, a, en, -, -, -, ha, he, hp, hw, -⟩ | ⟨rfl, -⟩⟩
  · exact absurd HE1.out h0
  · have := jn_path S.out HE1.out ha he hp hw
    rw [HLZ.out, HLN.out, HNN.out, HLL.out, HLR.out, ex_jn2] at this
    cases this
  try clear hb
  clear HL4
  have ltX : R < w8.heap.size := lt_of_block X.out
  have zX0 : w8.cell? ⟨R, 0, none⟩ = some (.int .i64 l.N) := by rw [cell_row X.out]; rfl
  have zX1 : w8.cell? ⟨R, 1, none⟩ = some (.slice l.A l.n l.cap) := by rw [cell_row X.out]; rfl
  have zX2 : w8.cell? ⟨R, 2, none⟩ = some (.slice l.LA l.ln l.lc) := by rw [cell_row X.out]; rfl
  have zX3 : w8.cell? ⟨R, 3, none⟩ = some (.slice l.RA l.rn l.rc) := by rw [cell_row X.out]; rfl
  go_wp2_with fail
  clear zX0 zX1 zX2 zX3 ltX
  have hb := below_alloc_ w8 (.cells (flatI [0, 1]).toArray 3)
  have hr := heap_alloc_new_ w8 (.cells (flatI [0, 1]).toArray 3)
  obtain ⟨w9, hw9⟩ : ∃ v, w8.alloc (.cells (flatI [0, 1]).toArray 3) = v := ⟨_, rfl⟩
  obtain ⟨Q5, hQ5⟩ : ∃ v, w8.heap.size = v := ⟨_, rfl⟩
  rw [hw9] at hb hr
  rw [hQ5] at hr
  have Hw9 := Lib.hid hw9
  have HQ5 := Lib.hid hQ5
  clear hw9 hQ5
  replace S := Lib.hid (S.out.below hb (Nat.le_refl _))
  replace HG := Lib.hid (HG.out.below hb (Nat.le_refl _))
  replace X := Lib.hid ((hb.block _ (lt_of_block X.out)).trans X.out)
  replace B := Lib.hid (B.out.trans (hb.mono B.out.size))
  clear hb
  have HL5 := Lib.hid (show Ints w9 (some ⟨Q5, 0, none⟩) 2 [0, 1] from ints_row_ [0, 1] hr)
  clear hr
  try rw [show w8.alloc (.cells #[.int .i64 0, .int .i64 1] 3) = w9 from Hw9.out]
  try rw [HQ5.out]
  refine (cut24 l (some ⟨Q5, 0, none⟩) 2 2 [0, 1] w9 S.out HL5.out (Nat.le_refl _) (by omega)).mono ?_
  rintro en w10 ⟨hh, hb⟩
  replace S := Lib.hid (S.out.below hb (Nat.le_refl _))
  replace HG := Lib.hid (HG.out.below hb (Nat.le_refl _))
  replace HL5 := Lib.hid (HL5.out.below hb (Nat.le_refl _))
  replace X := Lib.hid ((hb.block _ (lt_of_block X.out)).trans X.out)
  replace B := Lib.hid (B.out.trans (hb.mono B.out.size))
  rcases hh with ⟨h0, -⟩ | ⟨-, CC, cc, rfl, hcc, hI⟩
  · exact absurd HE4.out h0
  rw [HLZ.out, HLN.out, ex_ctK] at hI hcc
  rw [HLZ.out, HLN.out, ex_ctK, ex_csK]
  have HC := Lib.hid (show Ints w10 CC 3 [1, 2, 4] from hI)
  simp only [List.length_cons, List.length_nil, Nat.reduceAdd]
  clear hI hcc
  try clear hb
  clear HL5
  have ltX : R < w10.heap.size := lt_of_block X.out
  have zX0 : w10.cell? ⟨R, 0, none⟩ = some (.int .i64 l.N) := by rw [cell_row X.out]; rfl
  have zX1 : w10.cell? ⟨R, 1, none⟩ = some (.slice l.A l.n l.cap) := by rw [cell_row X.out]; rfl
  have zX2 : w10.cell? ⟨R, 2, none⟩ = some (.slice l.LA l.ln l.lc) := by rw [cell_row X.out]; rfl
  have zX3 : w10.cell? ⟨R, 3, none⟩ = some (.slice l.RA l.rn l.rc) := by rw [cell_row X.out]; rfl
  go_wp2_with fail
  clear zX0 zX1 zX2 zX3 ltX
  refine (least30 l w10 S.out).mono ?_
  rintro en w11 ⟨hh, hb⟩
  replace S := Lib.hid (S.out.below hb (Nat.le_refl _))
  replace HG := Lib.hid (HG.out.below hb (Nat.le_refl _))
  replace HC := Lib.hid (HC.out.below hb (Nat.le_refl _))
  replace X := Lib.hid ((hb.block _ (lt_of_block X.out)).trans X.out)
  replace B := Lib.hid (B.out.trans (hb.mono B.out.size))
  rcases hh with ⟨h0, -⟩ | ⟨-, f, QL, RL, rfl, hI, hf, ⟨S0, hc0, hs0⟩, hR⟩
  · exact absurd HCH.out h0
  rw [HNN.out, HLZ.out, HLL.out, HLR.out] at hf
  rw [HLZ.out] at hc0 hR
  rw [HLL.out, HLR.out] at hs0
  rw [HLL.out] at hR
  have e := ex_least HOZ.out hf hs0 hc0 hR
  rw [HNN.out, e] at hI
  rw [HNN.out, e, HLZ.out, HLN.out, ex_csA]
  have HL := Lib.hid (show Ints w11 (some ⟨QL, 0, none⟩) 1 [0] from hI)
  simp only [List.length_cons, List.length_nil, Nat.reduceAdd]
  clear hI hf hc0 hs0 hR e
  try clear hb
  have ltX : R < w11.heap.size := lt_of_block X.out
  have zX0 : w11.cell? ⟨R, 0, none⟩ = some (.int .i64 l.N) := by rw [cell_row X.out]; rfl
  have zX1 : w11.cell? ⟨R, 1, none⟩ = some (.slice l.A l.n l.cap) := by rw [cell_row X.out]; rfl
  have zX2 : w11.cell? ⟨R, 2, none⟩ = some (.slice l.LA l.ln l.lc) := by rw [cell_row X.out]; rfl
  have zX3 : w11.cell? ⟨R, 3, none⟩ = some (.slice l.RA l.rn l.rc) := by rw [cell_row X.out]; rfl
  go_wp2_with fail
  clear zX0 zX1 zX2 zX3 ltX
  have hb := below_alloc_ w11 (.cells (flatI [3, 2, 2, 3, 1, 0]).toArray 2)
  have hr := heap_alloc_new_ w11 (.cells (flatI [3, 2, 2, 3, 1, 0]).toArray 2)
  obtain ⟨w12, hw12⟩ : ∃ v, w11.alloc (.cells (flatI [3, 2, 2, 3, 1, 0]).toArray 2) = v := ⟨_, rfl⟩
  obtain ⟨QF, hQF⟩ : ∃ v, w11.heap.size = v := ⟨_, rfl⟩
  rw [hw12] at hb hr
  rw [hQF] at hr
  have Hw12 := Lib.hid hw12
  have HQF := Lib.hid hQF
  clear hw12 hQF
  replace S := Lib.hid (S.out.below hb (Nat.le_refl _))
  replace HG := Lib.hid (HG.out.below hb (Nat.le_refl _))
  replace HC := Lib.hid (HC.out.below hb (Nat.le_refl _))
  replace HL := Lib.hid (HL.out.below hb (Nat.le_refl _))
  replace X := Lib.hid ((hb.block _ (lt_of_block X.out)).trans X.out)
  replace B := Lib.hid (B.out.trans (hb.mono B.out.size))
  clear hb
  have HF := Lib.hid (show Ints w12 (some ⟨QF, 0, none⟩) 6 [3, 2, 2, 3, 1, 0] from ints_row_ [3, 2, 2, 3, 1, 0] hr)
  clear hr
  rw [show w11.alloc (.cells #[.int .i64 3, .int .i64 2, .int .i64 2, .int .i64 3, .int .i64 1, .int .i64 0] 2) = w12 from Hw12.out]
  rw [HQF.out]
  refine (checkFlow26 l (some ⟨QF, 0, none⟩) 6 6 [3, 2, 2, 3, 1, 0] w12 S.out HF.out (Nat.le_refl _)).mono ?_
  rintro en w13 ⟨rfl, hb⟩
  replace S := Lib.hid (S.out.below hb (Nat.le_refl _))
  replace HG := Lib.hid (HG.out.below hb (Nat.le_refl _))
  replace HC := Lib.hid (HC.out.below hb (Nat.le_refl _))
  replace HL := Lib.hid (HL.out.below hb (Nat.le_refl _))
  replace HF := Lib.hid (HF.out.below hb (Nat.le_refl _))
  replace X := Lib.hid ((hb.block _ (lt_of_block X.out)).trans X.out)
  replace B := Lib.hid (B.out.trans (hb.mono B.out.size))
  rw [HE5.out, HE6.out]
  try clear hb
  clear HF
  have ltX : R < w13.heap.size := lt_of_block X.out
  have zX0 : w13.cell? ⟨R, 0, none⟩ = some (.int .i64 l.N) := by rw [cell_row X.out]; rfl
  have zX1 : w13.cell? ⟨R, 1, none⟩ = some (.slice l.A l.n l.cap) := by rw [cell_row X.out]; rfl
  have zX2 : w13.cell? ⟨R, 2, none⟩ = some (.slice l.LA l.ln l.lc) := by rw [cell_row X.out]; rfl
  have zX3 : w13.cell? ⟨R, 3, none⟩ = some (.slice l.RA l.rn l.rc) := by rw [cell_row X.out]; rfl
  go_wp2_with fail
  clear zX0 zX1 zX2 zX3 ltX
  refine (flow29 l w13 S.out).mono ?_
  rintro en w14 ⟨hh, hb⟩
  replace S := Lib.hid (S.out.below hb (Nat.le_refl _))
  replace HG := Lib.hid (HG.out.below hb (Nat.le_refl _))
  replace HC := Lib.hid (HC.out.below hb (Nat.le_refl _))
  replace HL := Lib.hid (HL.out.below hb (Nat.le_refl _))
  replace X := Lib.hid ((hb.block _ (lt_of_block X.out)).trans X.out)
  replace B := Lib.hid (B.out.trans (hb.mono B.out.size))
  rcases hh with ⟨h0, -⟩ | ⟨-, QX, f, rfl, hI, hf, ⟨S0, hc0, hs0⟩⟩
  · exact absurd HCH.out h0
  obtain ⟨t1, t2⟩ := flow_told S.out HCH.out hf
  rw [HNN.out, HLZ.out, HLL.out, HLR.out] at hf
  rw [HLZ.out] at hc0
  rw [HLL.out, HLR.out] at hs0
  rw [HLZ.out, HLL.out, ex_great HOZ.out hf hs0 hc0] at t2
  rw [HLN.out] at hI t1 t2
  obtain ⟨fx, hfx⟩ : ∃ v, flL f 6 = v := ⟨_, rfl⟩
  rw [hfx] at hI t1 t2
  rw [HLN.out]
  have HX := Lib.hid hI
  have HX1 := Lib.hid t1
  have HX2 := Lib.hid t2
  clear hI hf hc0 hs0 t1 t2 hfx f S0
  try clear hb
  have ltX : R < w14.heap.size := lt_of_block X.out
  have zX0 : w14.cell? ⟨R, 0, none⟩ = some (.int .i64 l.N) := by rw [cell_row X.out]; rfl
  have zX1 : w14.cell? ⟨R, 1, none⟩ = some (.slice l.A l.n l.cap) := by rw [cell_row X.out]; rfl
  have zX2 : w14.cell? ⟨R, 2, none⟩ = some (.slice l.LA l.ln l.lc) := by rw [cell_row X.out]; rfl
  have zX3 : w14.cell? ⟨R, 3, none⟩ = some (.slice l.RA l.rn l.rc) := by rw [cell_row X.out]; rfl
  go_wp2_with fail
  clear zX0 zX1 zX2 zX3 ltX
  refine (sides32 l w14 S.out).mono ?_
  rintro en w15 ⟨hh, hb⟩
  replace S := Lib.hid (S.out.below hb (Nat.le_refl _))
  replace HG := Lib.hid (HG.out.below hb (Nat.le_refl _))
  replace HC := Lib.hid (HC.out.below hb (Nat.le_refl _))
  replace HL := Lib.hid (HL.out.below hb (Nat.le_refl _))
  replace HX := Lib.hid (HX.out.below hb (Nat.le_refl _))
  replace X := Lib.hid ((hb.block _ (lt_of_block X.out)).trans X.out)
  replace B := Lib.hid (B.out.trans (hb.mono B.out.size))
  rcases hh with ⟨h0, -⟩ | ⟨-, f, CK, ck, R1, R2, rfl, hck, hI, hf, ⟨S0, hc0, hs0⟩, hR1, hR2⟩
  · exact absurd HCH.out h0
  rw [HNN.out, HLZ.out, HLL.out, HLR.out] at hf
  rw [HLZ.out] at hc0 hR1 hR2
  rw [HLL.out, HLR.out] at hs0
  rw [HLL.out] at hR1
  rw [HLR.out] at hR2
  have e := ex_sides HOZ.out hf hs0 hc0 hR1 hR2
  rw [HNN.out, e] at hI
  rw [HNN.out]
  have HK := Lib.hid (show Ints w15 CK 5 [1, 0, -1, -1, -1] from hI)
  clear hI hf hc0 hs0 hR1 hR2 e hck
  try clear hb
  have ltX : R < w15.heap.size := lt_of_block X.out
  have zX0 : w15.cell? ⟨R, 0, none⟩ = some (.int .i64 l.N) := by rw [cell_row X.out]; rfl
  have zX1 : w15.cell? ⟨R, 1, none⟩ = some (.slice l.A l.n l.cap) := by rw [cell_row X.out]; rfl
  have zX2 : w15.cell? ⟨R, 2, none⟩ = some (.slice l.LA l.ln l.lc) := by rw [cell_row X.out]; rfl
  have zX3 : w15.cell? ⟨R, 3, none⟩ = some (.slice l.RA l.rn l.rc) := by rw [cell_row X.out]; rfl
  go_wp2_with fail
  clear zX0 zX1 zX2 zX3 ltX
  have hb := below_alloc_ w15 (.cells (flatI [0]).toArray 3)
  have hr := heap_alloc_new_ w15 (.cells (flatI [0]).toArray 3)
  obtain ⟨w16, hw16⟩ : ∃ v, w15.alloc (.cells (flatI [0]).toArray 3) = v := ⟨_, rfl⟩
  obtain ⟨Q6, hQ6⟩ : ∃ v, w15.heap.size = v := ⟨_, rfl⟩
  rw [hw16] at hb hr
  rw [hQ6] at hr
  have Hw16 := Lib.hid hw16
  have HQ6 := Lib.hid hQ6
  clear hw16 hQ6
  replace S := Lib.hid (S.out.below hb (Nat.le_refl _))
  replace HG := Lib.hid (HG.out.below hb (Nat.le_refl _))
  replace HC := Lib.hid (HC.out.below hb (Nat.le_refl _))
  replace HL := Lib.hid (HL.out.below hb (Nat.le_refl _))
  replace HX := Lib.hid (HX.out.below hb (Nat.le_refl _))
  replace HK := Lib.hid (HK.out.below hb (Nat.le_refl _))
  replace X := Lib.hid ((hb.block _ (lt_of_block X.out)).trans X.out)
  replace B := Lib.hid (B.out.trans (hb.mono B.out.size))
  clear hb
  have HL6 := Lib.hid (show Ints w16 (some ⟨Q6, 0, none⟩) 1 [0] from ints_row_ [0] hr)
  clear hr
  try rw [show w15.alloc (.cells #[.int .i64 0] 3) = w16 from Hw16.out]
  try rw [HQ6.out]
  refine (chain20 l (some ⟨Q6, 0, none⟩) 1 1 [0] w16 S.out HL6.out (Nat.le_refl _) (by omega)).mono ?_
  rintro en w17 ⟨hh, hb⟩
  replace S := Lib.hid (S.out.below hb (Nat.le_refl _))
  replace HG := Lib.hid (HG.out.below hb (Nat.le_refl _))
  replace HC := Lib.hid (HC.out.below hb (Nat.le_refl _))
  replace HL := Lib.hid (HL.out.below hb (Nat.le_refl _))
  replace HX := Lib.hid (HX.out.below hb (Nat.le_refl _))
  replace HK := Lib.hid (HK.out.below hb (Nat.le_refl _))
  replace HL6 := Lib.hid (HL6.out.below hb (Nat.le_refl _))
  replace X := Lib.hid ((hb.block _ (lt_of_block X.out)).trans X.out)
  replace B := Lib.hid (B.out.trans (hb.mono B.out.size))
  rcases hh with ⟨h0, -⟩ | ⟨-, ⟨CP, cpp, ws, a, en, rfl, hcp, hI, ha, he, hp, hw, hnd, hna, hw0, hw4⟩ | ⟨-, S1, hS1, hS2⟩⟩
  · exact absurd HE2.out h0
  rotate_left
  · have := jn_none S.out HE2.out hS1 hS2
    rw [HLZ.out, HLN.out, HNN.out, HLL.out, HLR.out, ex_jn0] at this
    cases this
  have hck := chn_chk S.out HE2.out ha he hp hw hnd hna hw0
  obtain ⟨np, hnp⟩ : ∃ v, ws.length + 1 = v := ⟨_, rfl⟩
  obtain ⟨ch, hch⟩ : ∃ v, chnL a ws ws.length = v := ⟨_, rfl⟩
  rw [hnp, hch] at hck hI
  rw [hnp] at hcp ⊢
  have HP := Lib.hid hI
  have HPC := Lib.hid hck
  have HP6 := Lib.hid (show np ≤ 1000000 by omega)
  clear hI ha he hp hw hnd hna hw0 hck hcp hw4 hnp hch
  try clear hb
  clear HL6
  have ltX : R < w17.heap.size := lt_of_block X.out
  have zX0 : w17.cell? ⟨R, 0, none⟩ = some (.int .i64 l.N) := by rw [cell_row X.out]; rfl
  have zX1 : w17.cell? ⟨R, 1, none⟩ = some (.slice l.A l.n l.cap) := by rw [cell_row X.out]; rfl
  have zX2 : w17.cell? ⟨R, 2, none⟩ = some (.slice l.LA l.ln l.lc) := by rw [cell_row X.out]; rfl
  have zX3 : w17.cell? ⟨R, 3, none⟩ = some (.slice l.RA l.rn l.rc) := by rw [cell_row X.out]; rfl
  go_wp2_with fail
  clear zX0 zX1 zX2 zX3 ltX
  refine (refCheckFlow27 l (some ⟨QX, 0, none⟩) 6 6 fx w17 S.out HX.out (by omega)).mono ?_
  rintro en w18 ⟨rfl, hb⟩
  replace S := Lib.hid (S.out.below hb (Nat.le_refl _))
  replace HG := Lib.hid (HG.out.below hb (Nat.le_refl _))
  replace HC := Lib.hid (HC.out.below hb (Nat.le_refl _))
  replace HL := Lib.hid (HL.out.below hb (Nat.le_refl _))
  replace HX := Lib.hid (HX.out.below hb (Nat.le_refl _))
  replace HK := Lib.hid (HK.out.below hb (Nat.le_refl _))
  replace HP := Lib.hid (HP.out.below hb (Nat.le_refl _))
  replace X := Lib.hid ((hb.block _ (lt_of_block X.out)).trans X.out)
  replace B := Lib.hid (B.out.trans (hb.mono B.out.size))
  rw [HX1.out, HX2.out]
  try clear hb
  clear HX
  go_wp2_with fail
  have hb := below_alloc_ w18 (.cells (flatI [0]).toArray 3)
  have hr := heap_alloc_new_ w18 (.cells (flatI [0]).toArray 3)
  obtain ⟨w19, hw19⟩ : ∃ v, w18.alloc (.cells (flatI [0]).toArray 3) = v := ⟨_, rfl⟩
  obtain ⟨Q7, hQ7⟩ : ∃ v, w18.heap.size = v := ⟨_, rfl⟩
  rw [hw19] at hb hr
  rw [hQ7] at hr
  have Hw19 := Lib.hid hw19
  have HQ7 := Lib.hid hQ7
  clear hw19 hQ7
  replace S := Lib.hid (S.out.below hb (Nat.le_refl _))
  replace HG := Lib.hid (HG.out.below hb (Nat.le_refl _))
  replace HC := Lib.hid (HC.out.below hb (Nat.le_refl _))
  replace HL := Lib.hid (HL.out.below hb (Nat.le_refl _))
  replace HK := Lib.hid (HK.out.below hb (Nat.le_refl _))
  replace HP := Lib.hid (HP.out.below hb (Nat.le_refl _))
  replace X := Lib.hid ((hb.block _ (lt_of_block X.out)).trans X.out)
  replace B := Lib.hid (B.out.trans (hb.mono B.out.size))
  clear hb
  have HL7 := Lib.hid (show Ints w19 (some ⟨Q7, 0, none⟩) 1 [0] from ints_row_ [0] hr)
  clear hr
  try rw [show w18.alloc (.cells #[.int .i64 0] 3) = w19 from Hw19.out]
  try rw [HQ7.out]
  have hb := below_alloc_ w19 (.cells (flatI [1, 2, 3, 4]).toArray 3)
  have hr := heap_alloc_new_ w19 (.cells (flatI [1, 2, 3, 4]).toArray 3)
  obtain ⟨w20, hw20⟩ : ∃ v, w19.alloc (.cells (flatI [1, 2, 3, 4]).toArray 3) = v := ⟨_, rfl⟩
  obtain ⟨Q8, hQ8⟩ : ∃ v, w19.heap.size = v := ⟨_, rfl⟩
  rw [hw20] at hb hr
  rw [hQ8] at hr
  have Hw20 := Lib.hid hw20
  have HQ8 := Lib.hid hQ8
  clear hw20 hQ8
  replace S := Lib.hid (S.out.below hb (Nat.le_refl _))
  replace HG := Lib.hid (HG.out.below hb (Nat.le_refl _))
  replace HC := Lib.hid (HC.out.below hb (Nat.le_refl _))
  replace HL := Lib.hid (HL.out.below hb (Nat.le_refl _))
  replace HK := Lib.hid (HK.out.below hb (Nat.le_refl _))
  replace HP := Lib.hid (HP.out.below hb (Nat.le_refl _))
  replace HL7 := Lib.hid (HL7.out.below hb (Nat.le_refl _))
  replace X := Lib.hid ((hb.block _ (lt_of_block X.out)).trans X.out)
  replace B := Lib.hid (B.out.trans (hb.mono B.out.size))
  clear hb
  have HL8 := Lib.hid (show Ints w20 (some ⟨Q8, 0, none⟩) 4 [1, 2, 3, 4] from ints_row_ [1, 2, 3, 4] hr)
  clear hr
  try rw [show w19.alloc (.cells #[.int .i64 1, .int .i64 2, .int .i64 3, .int .i64 4] 3) = w20 from Hw20.out]
  try rw [HQ8.out]
  rw [show Q7 + 1 = Q8 from by rw [← HQ8.out, ← Hw19.out, ← HQ7.out]; simp]
  have hb := below_alloc_ w20 (.cells #[.slice (some ⟨Q7, 0, none⟩) 1 1, .slice (some ⟨Q8, 0, none⟩) 4 4] 23)
  have hr := heap_alloc_new_ w20 (.cells #[.slice (some ⟨Q7, 0, none⟩) 1 1, .slice (some ⟨Q8, 0, none⟩) 4 4] 23)
  obtain ⟨w21, hw21⟩ : ∃ v, w20.alloc (.cells #[.slice (some ⟨Q7, 0, none⟩) 1 1, .slice (some ⟨Q8, 0, none⟩) 4 4] 23) = v := ⟨_, rfl⟩
  obtain ⟨QR, hQR⟩ : ∃ v, w20.heap.size = v := ⟨_, rfl⟩
  rw [hw21] at hb hr
  rw [hQR] at hr
  have Hw21 := Lib.hid hw21
  have HQR := Lib.hid hQR
  clear hw21 hQR
  replace S := Lib.hid (S.out.below hb (Nat.le_refl _))
  replace HG := Lib.hid (HG.out.below hb (Nat.le_refl _))
  replace HC := Lib.hid (HC.out.below hb (Nat.le_refl _))
  replace HL := Lib.hid (HL.out.below hb (Nat.le_refl _))
  replace HK := Lib.hid (HK.out.below hb (Nat.le_refl _))
  replace HP := Lib.hid (HP.out.below hb (Nat.le_refl _))
  replace HL7 := Lib.hid (HL7.out.below hb (Nat.le_refl _))
  replace HL8 := Lib.hid (HL8.out.below hb (Nat.le_refl _))
  replace X := Lib.hid ((hb.block _ (lt_of_block X.out)).trans X.out)
  replace B := Lib.hid (B.out.trans (hb.mono B.out.size))
  clear hb
  rw [Hw21.out]
  rw [show Q8 + 1 = QR from by rw [← HQR.out, ← Hw20.out, ← HQ8.out]; simp]
  have HRR := Lib.hid (rows_two hr HL7.out HL8.out (by omega) (by omega) (by omega) (by omega))
  clear hr
  refine (lists19 CG 2 cg [[0], [1, 2, 3, 4]] (some ⟨QR, 0, none⟩) 2 2 [[0], [1, 2, 3, 4]] w21 HG.out HRR.out (by omega) (by decide)).mono ?_
  rintro en w22 ⟨rfl, hb⟩
  replace S := Lib.hid (S.out.below hb (Nat.le_refl _))
  replace HG := Lib.hid (HG.out.below hb (Nat.le_refl _))
  replace HC := Lib.hid (HC.out.below hb (Nat.le_refl _))
  replace HL := Lib.hid (HL.out.below hb (Nat.le_refl _))
  replace HK := Lib.hid (HK.out.below hb (Nat.le_refl _))
  replace HP := Lib.hid (HP.out.below hb (Nat.le_refl _))
  replace HL7 := Lib.hid (HL7.out.below hb (Nat.le_refl _))
  replace HL8 := Lib.hid (HL8.out.below hb (Nat.le_refl _))
  replace HRR := Lib.hid (HRR.out.below hb (Nat.le_refl _))
  replace X := Lib.hid ((hb.block _ (lt_of_block X.out)).trans X.out)
  replace B := Lib.hid (B.out.trans (hb.mono B.out.size))
  rw [decide_eq_true (rfl : ([[0], [1, 2, 3, 4]] : List (List Int)) = [[0], [1, 2, 3, 4]])]
  try clear hb
  clear HRR
  clear HG
  clear HL7
  clear HL8
  have ltX : R < w22.heap.size := lt_of_block X.out
  have zX0 : w22.cell? ⟨R, 0, none⟩ = some (.int .i64 l.N) := by rw [cell_row X.out]; rfl
  have zX1 : w22.cell? ⟨R, 1, none⟩ = some (.slice l.A l.n l.cap) := by rw [cell_row X.out]; rfl
  have zX2 : w22.cell? ⟨R, 2, none⟩ = some (.slice l.LA l.ln l.lc) := by rw [cell_row X.out]; rfl
  have zX3 : w22.cell? ⟨R, 3, none⟩ = some (.slice l.RA l.rn l.rc) := by rw [cell_row X.out]; rfl
  go_wp2_with fail
  clear zX0 zX1 zX2 zX3 ltX
  have hb := below_alloc_ w22 (.cells (flatI [1, 2, 4]).toArray 3)
  have hr := heap_alloc_new_ w22 (.cells (flatI [1, 2, 4]).toArray 3)
  obtain ⟨w23, hw23⟩ : ∃ v, w22.alloc (.cells (flatI [1, 2, 4]).toArray 3) = v := ⟨_, rfl⟩
  obtain ⟨Q9, hQ9⟩ : ∃ v, w22.heap.size = v := ⟨_, rfl⟩
  rw [hw23] at hb hr
  rw [hQ9] at hr
  have Hw23 := Lib.hid hw23
  have HQ9 := Lib.hid hQ9
  clear hw23 hQ9
  replace S := Lib.hid (S.out.below hb (Nat.le_refl _))
  replace HC := Lib.hid (HC.out.below hb (Nat.le_refl _))
  replace HL := Lib.hid (HL.out.below hb (Nat.le_refl _))
  replace HK := Lib.hid (HK.out.below hb (Nat.le_refl _))
  replace HP := Lib.hid (HP.out.below hb (Nat.le_refl _))
  replace X := Lib.hid ((hb.block _ (lt_of_block X.out)).trans X.out)
  replace B := Lib.hid (B.out.trans (hb.mono B.out.size))
  clear hb
  have HL9 := Lib.hid (show Ints w23 (some ⟨Q9, 0, none⟩) 3 [1, 2, 4] from ints_row_ [1, 2, 4] hr)
  clear hr
  try rw [show w22.alloc (.cells #[.int .i64 1, .int .i64 2, .int .i64 4] 3) = w23 from Hw23.out]
  try rw [HQ9.out]
  refine (ints28 CC 3 cc [1, 2, 4] (some ⟨Q9, 0, none⟩) 3 3 [1, 2, 4] w23 HC.out HL9.out (by omega)).mono ?_
  rintro en w24 ⟨rfl, hb⟩
  replace S := Lib.hid (S.out.below hb (Nat.le_refl _))
  replace HC := Lib.hid (HC.out.below hb (Nat.le_refl _))
  replace HL := Lib.hid (HL.out.below hb (Nat.le_refl _))
  replace HK := Lib.hid (HK.out.below hb (Nat.le_refl _))
  replace HP := Lib.hid (HP.out.below hb (Nat.le_refl _))
  replace HL9 := Lib.hid (HL9.out.below hb (Nat.le_refl _))
  replace X := Lib.hid ((hb.block _ (lt_of_block X.out)).trans X.out)
  replace B := Lib.hid (B.out.trans (hb.mono B.out.size))
  rw [decide_eq_true (rfl : ([1, 2, 4] : List Int) = [1, 2, 4])]
  try clear hb
  clear HL9
  clear HC
  have ltX : R < w24.heap.size := lt_of_block X.out
  have zX0 : w24.cell? ⟨R, 0, none⟩ = some (.int .i64 l.N) := by rw [cell_row X.out]; rfl
  have zX1 : w24.cell? ⟨R, 1, none⟩ = some (.slice l.A l.n l.cap) := by rw [cell_row X.out]; rfl
  have zX2 : w24.cell? ⟨R, 2, none⟩ = some (.slice l.LA l.ln l.lc) := by rw [cell_row X.out]; rfl
  have zX3 : w24.cell? ⟨R, 3, none⟩ = some (.slice l.RA l.rn l.rc) := by rw [cell_row X.out]; rfl
  go_wp2_with fail
  clear zX0 zX1 zX2 zX3 ltX
  have hb := below_alloc_ w24 (.cells (flatI [0]).toArray 3)
  have hr := heap_alloc_new_ w24 (.cells (flatI [0]).toArray 3)
  obtain ⟨w25, hw25⟩ : ∃ v, w24.alloc (.cells (flatI [0]).toArray 3) = v := ⟨_, rfl⟩
  obtain ⟨Q10, hQ10⟩ : ∃ v, w24.heap.size = v := ⟨_, rfl⟩
  rw [hw25] at hb hr
  rw [hQ10] at hr
  have Hw25 := Lib.hid hw25
  have HQ10 := Lib.hid hQ10
  clear hw25 hQ10
  replace S := Lib.hid (S.out.below hb (Nat.le_refl _))
  replace HL := Lib.hid (HL.out.below hb (Nat.le_refl _))
  replace HK := Lib.hid (HK.out.below hb (Nat.le_refl _))
  replace HP := Lib.hid (HP.out.below hb (Nat.le_refl _))
  replace X := Lib.hid ((hb.block _ (lt_of_block X.out)).trans X.out)
  replace B := Lib.hid (B.out.trans (hb.mono B.out.size))
  clear hb
  have HL10 := Lib.hid (show Ints w25 (some ⟨Q10, 0, none⟩) 1 [0] from ints_row_ [0] hr)
  clear hr
  try rw [show w24.alloc (.cells #[.int .i64 0] 3) = w25 from Hw25.out]
  try rw [HQ10.out]
  refine (ints28 (some ⟨QL, 0, none⟩) 1 1 [0] (some ⟨Q10, 0, none⟩) 1 1 [0] w25 HL.out HL10.out (by omega)).mono ?_
  rintro en w26 ⟨rfl, hb⟩
  replace S := Lib.hid (S.out.below hb (Nat.le_refl _))
  replace HL := Lib.hid (HL.out.below hb (Nat.le_refl _))
  replace HK := Lib.hid (HK.out.below hb (Nat.le_refl _))
  replace HP := Lib.hid (HP.out.below hb (Nat.le_refl _))
  replace HL10 := Lib.hid (HL10.out.below hb (Nat.le_refl _))
  replace X := Lib.hid ((hb.block _ (lt_of_block X.out)).trans X.out)
  replace B := Lib.hid (B.out.trans (hb.mono B.out.size))
  rw [decide_eq_true (rfl : ([0] : List Int) = [0])]
  try clear hb
  clear HL10
  clear HL
  have ltX : R < w26.heap.size := lt_of_block X.out
  have zX0 : w26.cell? ⟨R, 0, none⟩ = some (.int .i64 l.N) := by rw [cell_row X.out]; rfl
  have zX1 : w26.cell? ⟨R, 1, none⟩ = some (.slice l.A l.n l.cap) := by rw [cell_row X.out]; rfl
  have zX2 : w26.cell? ⟨R, 2, none⟩ = some (.slice l.LA l.ln l.lc) := by rw [cell_row X.out]; rfl
  have zX3 : w26.cell? ⟨R, 3, none⟩ = some (.slice l.RA l.rn l.rc) := by rw [cell_row X.out]; rfl
  go_wp2_with fail
  clear zX0 zX1 zX2 zX3 ltX
  have hb := below_alloc_ w26 (.cells (flatI [1, 0, -1, -1, -1]).toArray 3)
  have hr := heap_alloc_new_ w26 (.cells (flatI [1, 0, -1, -1, -1]).toArray 3)
  obtain ⟨w27, hw27⟩ : ∃ v, w26.alloc (.cells (flatI [1, 0, -1, -1, -1]).toArray 3) = v := ⟨_, rfl⟩
  obtain ⟨Q11, hQ11⟩ : ∃ v, w26.heap.size = v := ⟨_, rfl⟩
  rw [hw27] at hb hr
  rw [hQ11] at hr
  have Hw27 := Lib.hid hw27
  have HQ11 := Lib.hid hQ11
  clear hw27 hQ11
  replace S := Lib.hid (S.out.below hb (Nat.le_refl _))
  replace HK := Lib.hid (HK.out.below hb (Nat.le_refl _))
  replace HP := Lib.hid (HP.out.below hb (Nat.le_refl _))
  replace X := Lib.hid ((hb.block _ (lt_of_block X.out)).trans X.out)
  replace B := Lib.hid (B.out.trans (hb.mono B.out.size))
  clear hb
  have HL11 := Lib.hid (show Ints w27 (some ⟨Q11, 0, none⟩) 5 [1, 0, -1, -1, -1] from ints_row_ [1, 0, -1, -1, -1] hr)
  clear hr
  try rw [show w26.alloc (.cells #[.int .i64 1, .int .i64 0, .int .i64 (-1), .int .i64 (-1), .int .i64 (-1)] 3) = w27 from Hw27.out]
  try rw [HQ11.out]
  refine (ints28 CK 5 ck [1, 0, -1, -1, -1] (some ⟨Q11, 0, none⟩) 5 5 [1, 0, -1, -1, -1] w27 HK.out HL11.out (by omega)).mono ?_
  rintro en w28 ⟨rfl, hb⟩
  replace S := Lib.hid (S.out.below hb (Nat.le_refl _))
  replace HK := Lib.hid (HK.out.below hb (Nat.le_refl _))
  replace HP := Lib.hid (HP.out.below hb (Nat.le_refl _))
  replace HL11 := Lib.hid (HL11.out.below hb (Nat.le_refl _))
  replace X := Lib.hid ((hb.block _ (lt_of_block X.out)).trans X.out)
  replace B := Lib.hid (B.out.trans (hb.mono B.out.size))
  rw [decide_eq_true (rfl : ([1, 0, -1, -1, -1] : List Int) = [1, 0, -1, -1, -1])]
  try clear hb
  clear HL11
  clear HK
  have ltX : R < w28.heap.size := lt_of_block X.out
  have zX0 : w28.cell? ⟨R, 0, none⟩ = some (.int .i64 l.N) := by rw [cell_row X.out]; rfl
  have zX1 : w28.cell? ⟨R, 1, none⟩ = some (.slice l.A l.n l.cap) := by rw [cell_row X.out]; rfl
  have zX2 : w28.cell? ⟨R, 2, none⟩ = some (.slice l.LA l.ln l.lc) := by rw [cell_row X.out]; rfl
  have zX3 : w28.cell? ⟨R, 3, none⟩ = some (.slice l.RA l.rn l.rc) := by rw [cell_row X.out]; rfl
  go_wp2_with fail
  clear zX0 zX1 zX2 zX3 ltX
  have hb := below_alloc_ w28 (.cells (flatI [0]).toArray 3)
  have hr := heap_alloc_new_ w28 (.cells (flatI [0]).toArray 3)
  obtain ⟨w29, hw29⟩ : ∃ v, w28.alloc (.cells (flatI [0]).toArray 3) = v := ⟨_, rfl⟩
  obtain ⟨Q12, hQ12⟩ : ∃ v, w28.heap.size = v := ⟨_, rfl⟩
  rw [hw29] at hb hr
  rw [hQ12] at hr
  have Hw29 := Lib.hid hw29
  have HQ12 := Lib.hid hQ12
  clear hw29 hQ12
  replace S := Lib.hid (S.out.below hb (Nat.le_refl _))
  replace HP := Lib.hid (HP.out.below hb (Nat.le_refl _))
  replace X := Lib.hid ((hb.block _ (lt_of_block X.out)).trans X.out)
  replace B := Lib.hid (B.out.trans (hb.mono B.out.size))
  clear hb
  have HL12 := Lib.hid (show Ints w29 (some ⟨Q12, 0, none⟩) 1 [0] from ints_row_ [0] hr)
  clear hr
  try rw [show w28.alloc (.cells #[.int .i64 0] 3) = w29 from Hw29.out]
  try rw [HQ12.out]
  refine (refCheckChain22 l (some ⟨Q12, 0, none⟩) 1 1 [0] CP np cpp ch w29 S.out HL12.out (by omega) HP.out HP6.out).mono ?_
  rintro en w30 ⟨rfl, hb⟩
  replace S := Lib.hid (S.out.below hb (Nat.le_refl _))
  replace HP := Lib.hid (HP.out.below hb (Nat.le_refl _))
  replace HL12 := Lib.hid (HL12.out.below hb (Nat.le_refl _))
  replace X := Lib.hid ((hb.block _ (lt_of_block X.out)).trans X.out)
  replace B := Lib.hid (B.out.trans (hb.mono B.out.size))
  rw [HPC.out]
  try clear hb
  go_wp2_with fail
  go_ret
  exact ⟨rfl, B.out⟩
end
end Go.Proofs.Ytigohccehllmnaa
