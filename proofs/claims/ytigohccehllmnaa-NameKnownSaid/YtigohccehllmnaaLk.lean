/- Stage 6: NameKnown. -/
import Derived.Test.YtigohccehllmnaaLw
namespace Go.Proofs.Ytigohccehllmnaa
set_option linter.unusedSimpArgs false
set_option linter.unusedVariables false
open Go.RowKit Go.Shelf

theorem kn_cutA0 : cutE (exL 0 0 0) [0] = 0 := by
  unfold cutE
  rw [layE_nil, ex_chk]
  decide +kernel
theorem kn_cutA (a b c : Nat) : cutE (exL a b c) [0] = 0 := kn_cutA0
theorem kn_cutB0 : cutE (exL 0 0 0) [0, 1, 2] = 0 := by
  unfold cutE
  rw [layE_nil, ex_chk]
  decide +kernel
theorem kn_cutB (a b c : Nat) : cutE (exL a b c) [0, 1, 2] = 0 := kn_cutB0
theorem kn_chn0 : chkC (exL 0 0 0) [0] [0, 1, 4] 3 = 14 := by
  rw [chk_hd (ex_lay 0 0 0 [0] rfl)]
  decide +kernel
theorem kn_chn (a b c : Nat) : chkC (exL a b c) [0] [0, 1, 4] 3 = 14 := kn_chn0
theorem kn_fl0 : flE (exL 0 0 0) 6 [3, 3, 2, 2, 0, 0] = 14 := by
  unfold flE
  rw [layE_nil, ex_chk]
  decide +kernel
theorem kn_fl (a b c : Nat) : flE (exL a b c) 6 [3, 3, 2, 2, 0, 0] = 14 := kn_fl0
theorem kn_grp : dgK (labG exZ [0, 1, 2, 3, 4, 5] 6 5) 5 5 = [[0], [1], [2], [3], [4]] := by decide +kernel
theorem kn_ctA : ctK exZ [0] 6 = [0, 2] := by decide +kernel
theorem kn_csA : csK exZ [0] 6 = 5 := by decide +kernel
theorem kn_ctB : ctK exZ [0, 1, 2] 6 = [1, 3] := by decide +kernel
theorem kn_csB : csK exZ [0, 1, 2] 6 = 6 := by decide +kernel
theorem rows_five {W : World} {Q a0 a1 a2 a3 a4 : Nat} {x0 x1 x2 x3 x4 : List Int} {t : TypeId} (h : W.heap[Q]? = some (.cells #[.slice (some ⟨a0, 0, none⟩) 1 1, .slice (some ⟨a1, 0, none⟩) 1 1, .slice (some ⟨a2, 0, none⟩) 1 1, .slice (some ⟨a3, 0, none⟩) 1 1, .slice (some ⟨a4, 0, none⟩) 1 1] t (0, 0)))
    (h0 : Ints W (some ⟨a0, 0, none⟩) 1 x0) (h1 : Ints W (some ⟨a1, 0, none⟩) 1 x1) (h2 : Ints W (some ⟨a2, 0, none⟩) 1 x2) (h3 : Ints W (some ⟨a3, 0, none⟩) 1 x3) (h4 : Ints W (some ⟨a4, 0, none⟩) 1 x4) : Rows W (some ⟨Q, 0, none⟩) 5 [x0, x1, x2, x3, x4] :=
  ⟨rfl, fun _ => ⟨Q, 0, rfl, fun j hj => by
    rcases (by omega : j = 0 ∨ j = 1 ∨ j = 2 ∨ j = 3 ∨ j = 4) with rfl | rfl | rfl | rfl | rfl
    · exact ⟨_, 1, 1, by rw [cell_row h]; rfl, h0, by omega, by omega⟩
    · exact ⟨_, 1, 1, by rw [cell_row h]; rfl, h1, by omega, by omega⟩
    · exact ⟨_, 1, 1, by rw [cell_row h]; rfl, h2, by omega, by omega⟩
    · exact ⟨_, 1, 1, by rw [cell_row h]; rfl, h3, by omega, by omega⟩
    · exact ⟨_, 1, 1, by rw [cell_row h]; rfl, h4, by omega, by omega⟩⟩⟩
section
attribute [local go_sem ↓] exec_app at_app
attribute [local go_sem] Oper.semAt_some
set_option maxRecDepth 100000 in
set_option maxHeartbeats 40000000 in
theorem known12 (w : World) : Calls Try.prog 12 #[] w fun en w' => en = .returned (.bool true) ∧ Below w.heap.size w w' := by
  go_enter Try.func12, Try.ntmps12
  go_wp2_with fail
  refine (list40 w).mono ?_
  rintro en w0 ⟨a, b, c, rfl, hn, -, -, -, hb⟩
  obtain ⟨l, hl⟩ : ∃ l, exL a b c = l := ⟨_, rfl⟩
  have hch : chkL l = 0 := by rw [← hl]; exact ex_chk a b c
  have hln : l.n = 6 := by rw [← hl]; rfl
  have hlz : l.zs = exZ := by rw [← hl]; rfl
  have hlN : l.N.toNat = 5 := by rw [← hl]; rfl
  have hll : l.ls = [0] := by rw [← hl]; rfl
  have hlr : l.rs = [4] := by rw [← hl]; rfl
  have e1 : layE l [0, 1, 2, 3, 4, 5] = 0 := by rw [← hl]; exact ex_lay a b c _ rfl
  have e2 : cutE l [0] = 0 := by rw [← hl]; exact kn_cutA a b c
  have e3 : chkC l [0] [0, 1, 4] 3 = 14 := by rw [← hl]; exact kn_chn a b c
  have e4 : cutE l [0, 1, 2] = 0 := by rw [← hl]; exact kn_cutB a b c
  have e5 : flE l 6 [3, 3, 2, 2, 0, 0] = 14 := by rw [← hl]; exact kn_fl a b c
  have e6 : grE l 6 [3, 3, 2, 2, 0, 0] = 0 := grE_no e5 (by decide)
  have hz : OkL 5 exZ := by have := okl_list hn (l := exL a b c) (ex_chk a b c); exact this
  rw [hl] at hn ⊢
  have S := Lib.hid hn
  have B := Lib.hid hb
  have HCH := Lib.hid hch
  have HLN := Lib.hid hln
  have HLZ := Lib.hid hlz
  have HNN := Lib.hid hlN
  have HLL := Lib.hid hll
  have HLR := Lib.hid hlr
  have HE1 := Lib.hid e1
  have HE2 := Lib.hid e2
  have HE3 := Lib.hid e3
  have HE4 := Lib.hid e4
  have HE5 := Lib.hid e5
  have HE6 := Lib.hid e6
  have HOZ := Lib.hid hz
  clear hn hb hch hln hlz hlN hll hlr hl e1 e2 e3 e4 e5 e6 hz a b c
  have hb := below_alloc_ w0 (.cells #[.int .i64 l.N, .slice l.A l.n l.cap, .slice l.LA l.ln l.lc, .slice l.RA l.rn l.rc] 25)
  have hr := heap_alloc_new_ w0 (.cells #[.int .i64 l.N, .slice l.A l.n l.cap, .slice l.LA l.ln l.lc, .slice l.RA l.rn l.rc] 25)
  obtain ⟨w1, hw1⟩ : ∃ v, w0.alloc (.cells #[.int .i64 l.N, .slice l.A l.n l.cap, .slice l.LA l.ln l.lc, .slice l.RA l.rn l.rc] 25) = v := ⟨_, rfl⟩
  obtain ⟨R, hR⟩ : ∃ v, w0.heap.size = v := ⟨_, rfl⟩
  rw [hw1] at hb hr
  rw [hR] at hr
  have Hw1 := Lib.hid hw1
  have HR := Lib.hid hR
  clear hw1 hR
  replace S := Lib.hid (S.out.below hb (Nat.le_refl _))
  replace B := Lib.hid (B.out.trans (hb.mono B.out.size))
  clear hb
  have X := Lib.hid hr
  clear hr
  go_upto_region 2 with fail
  rw [Hw1.out]
  rw [HR.out]
  have ltX : R < w1.heap.size := lt_of_block X.out
  have zX0 : w1.cell? ⟨R, 0, none⟩ = some (.int .i64 l.N) := by rw [cell_row X.out]; rfl
  have zX1 : w1.cell? ⟨R, 1, none⟩ = some (.slice l.A l.n l.cap) := by rw [cell_row X.out]; rfl
  have zX2 : w1.cell? ⟨R, 2, none⟩ = some (.slice l.LA l.ln l.lc) := by rw [cell_row X.out]; rfl
  have zX3 : w1.cell? ⟨R, 3, none⟩ = some (.slice l.RA l.rn l.rc) := by rw [cell_row X.out]; rfl
  go_wp2_with fail
  clear zX0 zX1 zX2 zX3 ltX
  have hb := below_alloc_ w1 (.cells (flatI [0, 1, 2, 3, 4, 5]).toArray 3)
  have hr := heap_alloc_new_ w1 (.cells (flatI [0, 1, 2, 3, 4, 5]).toArray 3)
  obtain ⟨w2, hw2⟩ : ∃ v, w1.alloc (.cells (flatI [0, 1, 2, 3, 4, 5]).toArray 3) = v := ⟨_, rfl⟩
  obtain ⟨Q1, hQ1⟩ : ∃ v, w1.heap.size = v := ⟨_, rfl⟩
  rw [hw2] at hb hr
  rw [hQ1] at hr
  have Hw2 := Lib.hid hw2
  have HQ1 := Lib.hid hQ1
  clear hw2 hQ1
  replace S := Lib.hid (S.out.below hb (Nat.le_refl _))
  replace X := Lib.hid ((hb.block _ (lt_of_block X.out)).trans X.out)
  replace B := Lib.hid (B.out.trans (hb.mono B.out.size))
  clear hb
  have HL1 := Lib.hid (show Ints w2 (some ⟨Q1, 0, none⟩) 6 [0, 1, 2, 3, 4, 5] from ints_row_ [0, 1, 2, 3, 4, 5] hr)
  clear hr
  try rw [show w1.alloc (.cells #[.int .i64 0, .int .i64 1, .int .i64 2, .int .i64 3, .int .i64 4, .int .i64 5] 3) = w2 from Hw2.out]
  try rw [HQ1.out]
  refine (groups15 l (some ⟨Q1, 0, none⟩) 6 6 [0, 1, 2, 3, 4, 5] w2 S.out HL1.out (Nat.le_refl _) (by omega)).mono ?_
  rintro en w3 ⟨hh, hb⟩
  replace S := Lib.hid (S.out.below hb (Nat.le_refl _))
  replace HL1 := Lib.hid (HL1.out.below hb (Nat.le_refl _))
  replace X := Lib.hid ((hb.block _ (lt_of_block X.out)).trans X.out)
  replace B := Lib.hid (B.out.trans (hb.mono B.out.size))
  rcases hh with ⟨h0, -⟩ | ⟨-, CG, cg, gs, G, rfl, hcg, hR, hG⟩
  · exact absurd HE1.out h0
  have hgs : gs = [[0], [1], [2], [3], [4]] := by
    have := gps_ref S.out HE1.out hG
    rw [HLZ.out, HLN.out, HNN.out] at this
    rw [this]; exact kn_grp
  subst hgs
  have HG := Lib.hid hR
  clear hR hG
  try clear hb
  clear HL1
  have ltX : R < w3.heap.size := lt_of_block X.out
  have zX0 : w3.cell? ⟨R, 0, none⟩ = some (.int .i64 l.N) := by rw [cell_row X.out]; rfl
  have zX1 : w3.cell? ⟨R, 1, none⟩ = some (.slice l.A l.n l.cap) := by rw [cell_row X.out]; rfl
  have zX2 : w3.cell? ⟨R, 2, none⟩ = some (.slice l.LA l.ln l.lc) := by rw [cell_row X.out]; rfl
  have zX3 : w3.cell? ⟨R, 3, none⟩ = some (.slice l.RA l.rn l.rc) := by rw [cell_row X.out]; rfl
  go_wp2_with fail
  clear zX0 zX1 zX2 zX3 ltX
  have hb := below_alloc_ w3 (.cells (flatI [0]).toArray 3)
  have hr := heap_alloc_new_ w3 (.cells (flatI [0]).toArray 3)
  obtain ⟨w4, hw4⟩ : ∃ v, w3.alloc (.cells (flatI [0]).toArray 3) = v := ⟨_, rfl⟩
  obtain ⟨Q2, hQ2⟩ : ∃ v, w3.heap.size = v := ⟨_, rfl⟩
  rw [hw4] at hb hr
  rw [hQ2] at hr
  have Hw4 := Lib.hid hw4
  have HQ2 := Lib.hid hQ2
  clear hw4 hQ2
  replace S := Lib.hid (S.out.below hb (Nat.le_refl _))
  replace HG := Lib.hid (HG.out.below hb (Nat.le_refl _))
  replace X := Lib.hid ((hb.block _ (lt_of_block X.out)).trans X.out)
  replace B := Lib.hid (B.out.trans (hb.mono B.out.size))
  clear hb
  have HL2 := Lib.hid (show Ints w4 (some ⟨Q2, 0, none⟩) 1 [0] from ints_row_ [0] hr)
  clear hr
  try rw [show w3.alloc (.cells #[.int .i64 0] 3) = w4 from Hw4.out]
  try rw [HQ2.out]
  have hb := below_alloc_ w4 (.cells (flatI [0, 1, 4]).toArray 3)
  have hr := heap_alloc_new_ w4 (.cells (flatI [0, 1, 4]).toArray 3)
  obtain ⟨w5, hw5⟩ : ∃ v, w4.alloc (.cells (flatI [0, 1, 4]).toArray 3) = v := ⟨_, rfl⟩
  obtain ⟨Q3, hQ3⟩ : ∃ v, w4.heap.size = v := ⟨_, rfl⟩
  rw [hw5] at hb hr
  rw [hQ3] at hr
  have Hw5 := Lib.hid hw5
  have HQ3 := Lib.hid hQ3
  clear hw5 hQ3
  replace S := Lib.hid (S.out.below hb (Nat.le_refl _))
  replace HG := Lib.hid (HG.out.below hb (Nat.le_refl _))
  replace HL2 := Lib.hid (HL2.out.below hb (Nat.le_refl _))
  replace X := Lib.hid ((hb.block _ (lt_of_block X.out)).trans X.out)
  replace B := Lib.hid (B.out.trans (hb.mono B.out.size))
  clear hb
  have HL3 := Lib.hid (show Ints w5 (some ⟨Q3, 0, none⟩) 3 [0, 1, 4] from ints_row_ [0, 1, 4] hr)
  clear hr
  try rw [show w4.alloc (.cells #[.int .i64 0, .int .i64 1, .int .i64 4] 3) = w5 from Hw5.out]
  try rw [HQ3.out]
  rw [show Q2 + 1 = Q3 from by rw [← HQ3.out, ← Hw4.out, ← HQ2.out]; simp]
  refine (checkChain21 l (some ⟨Q2, 0, none⟩) 1 1 [0] (some ⟨Q3, 0, none⟩) 3 3 [0, 1, 4] w5 S.out HL2.out (Nat.le_refl _) (by omega) HL3.out (Nat.le_refl _) (by omega)).mono ?_
  rintro en w6 ⟨rfl, hb⟩
  replace S := Lib.hid (S.out.below hb (Nat.le_refl _))
  replace HG := Lib.hid (HG.out.below hb (Nat.le_refl _))
  replace HL2 := Lib.hid (HL2.out.below hb (Nat.le_refl _))
  replace HL3 := Lib.hid (HL3.out.below hb (Nat.le_refl _))
  replace X := Lib.hid ((hb.block _ (lt_of_block X.out)).trans X.out)
  replace B := Lib.hid (B.out.trans (hb.mono B.out.size))
  rw [HE3.out]
  try clear hb
  clear HL2
  clear HL3
  have ltX : R < w6.heap.size := lt_of_block X.out
  have zX0 : w6.cell? ⟨R, 0, none⟩ = some (.int .i64 l.N) := by rw [cell_row X.out]; rfl
  have zX1 : w6.cell? ⟨R, 1, none⟩ = some (.slice l.A l.n l.cap) := by rw [cell_row X.out]; rfl
  have zX2 : w6.cell? ⟨R, 2, none⟩ = some (.slice l.LA l.ln l.lc) := by rw [cell_row X.out]; rfl
  have zX3 : w6.cell? ⟨R, 3, none⟩ = some (.slice l.RA l.rn l.rc) := by rw [cell_row X.out]; rfl
  go_wp2_with fail
  clear zX0 zX1 zX2 zX3 ltX
  have hb := below_alloc_ w6 (.cells (flatI [0]).toArray 3)
  have hr := heap_alloc_new_ w6 (.cells (flatI [0]).toArray 3)
  obtain ⟨w7, hw7⟩ : ∃ v, w6.alloc (.cells (flatI [0]).toArray 3) = v := ⟨_, rfl⟩
  obtain ⟨Q4, hQ4⟩ : ∃ v, w6.heap.size = v := ⟨_, rfl⟩
  rw [hw7] at hb hr
  rw [hQ4] at hr
  have Hw7 := Lib.hid hw7
  have HQ4 := Lib.hid hQ4
  clear hw7 hQ4
  replace S := Lib.hid (S.out.below hb (Nat.le_refl _))
  replace HG := Lib.hid (HG.out.below hb (Nat.le_refl _))
  replace X := Lib.hid ((hb.block _ (lt_of_block X.out)).trans X.out)
  replace B := Lib.hid (B.out.trans (hb.mono B.out.size))
  clear hb
  have HL4 := Lib.hid (show Ints w7 (some ⟨Q4, 0, none⟩) 1 [0] from ints_row_ [0] hr)
  clear hr
  try rw [show w6.alloc (.cells #[.int .i64 0] 3) = w7 from Hw7.out]
  try rw [HQ4.out]
  refine (cut24 l (some ⟨Q4, 0, none⟩) 1 1 [0] w7 S.out HL4.out (Nat.le_refl _) (by omega)).mono ?_
  rintro en w8 ⟨hh, hb⟩
  replace S := Lib.hid (S.out.below hb (Nat.le_refl _))
  replace HG := Lib.hid (HG.out.below hb (Nat.le_refl _))
  replace HL4 := Lib.hid (HL4.out.below hb (Nat.le_refl _))
  replace X := Lib.hid ((hb.block _ (lt_of_block X.out)).trans X.out)
  replace B := Lib.hid (B.out.trans (hb.mono B.out.size))
  rcases hh with ⟨h0, -⟩ | ⟨-, CHC, cHC, rfl, hcc, hI⟩
  · exact absurd HE2.out h0
  rw [HLZ.out, HLN.out, kn_ctA] at hI hcc
  rw [HLZ.out, HLN.out, kn_ctA, kn_csA]
  have HC := Lib.hid (show Ints w8 CHC 2 [0, 2] from hI)
  simp only [List.length_cons, List.length_nil, Nat.reduceAdd]
  clear hI hcc
  try clear hb
  clear HL4
  have ltX : R < w8.heap.size := lt_of_block X.out
  have zX0 : w8.cell? ⟨R, 0, none⟩ = some (.int .i64 l.N) := by rw [cell_row X.out]; rfl
  have zX1 : w8.cell? ⟨R, 1, none⟩ = some (.slice l.A l.n l.cap) := by rw [cell_row X.out]; rfl
  have zX2 : w8.cell? ⟨R, 2, none⟩ = some (.slice l.LA l.ln l.lc) := by rw [cell_row X.out]; rfl
  have zX3 : w8.cell? ⟨R, 3, none⟩ = some (.slice l.RA l.rn l.rc) := by rw [cell_row X.out]; rfl
  go_wp2_with fail
  clear zX0 zX1 zX2 zX3 ltX
  have hb := below_alloc_ w8 (.cells (flatI [0, 1, 2]).toArray 3)
  have hr := heap_alloc_new_ w8 (.cells (flatI [0, 1, 2]).toArray 3)
  obtain ⟨w9, hw9⟩ : ∃ v, w8.alloc (.cells (flatI [0, 1, 2]).toArray 3) = v := ⟨_, rfl⟩
  obtain ⟨Q5, hQ5⟩ : ∃ v, w8.heap.size = v := ⟨_, rfl⟩
  rw [hw9] at hb hr
  rw [hQ5] at hr
  have Hw9 := Lib.hid hw9
  have HQ5 := Lib.hid hQ5
  clear hw9 hQ5
  replace S := Lib.hid (S.out.below hb (Nat.le_refl _))
  replace HG := Lib.hid (HG.out.below hb (Nat.le_refl _))
  replace HC := Lib.hid (HC.out.below hb (Nat.le_refl _))
  replace X := Lib.hid ((hb.block _ (lt_of_block X.out)).trans X.out)
  replace B := Lib.hid (B.out.trans (hb.mono B.out.size))
  clear hb
  have HL5 := Lib.hid (show Ints w9 (some ⟨Q5, 0, none⟩) 3 [0, 1, 2] from ints_row_ [0, 1, 2] hr)
  clear hr
  try rw [show w8.alloc (.cells #[.int .i64 0, .int .i64 1, .int .i64 2] 3) = w9 from Hw9.out]
  try rw [HQ5.out]
  refine (cut24 l (some ⟨Q5, 0, none⟩) 3 3 [0, 1, 2] w9 S.out HL5.out (Nat.le_refl _) (by omega)).mono ?_
  rintro en w10 ⟨hh, hb⟩
  replace S := Lib.hid (S.out.below hb (Nat.le_refl _))
  replace HG := Lib.hid (HG.out.below hb (Nat.le_refl _))
  replace HC := Lib.hid (HC.out.below hb (Nat.le_refl _))
  replace HL5 := Lib.hid (HL5.out.below hb (Nat.le_refl _))
  replace X := Lib.hid ((hb.block _ (lt_of_block X.out)).trans X.out)
  replace B := Lib.hid (B.out.trans (hb.mono B.out.size))
  rcases hh with ⟨h0, -⟩ | ⟨-, CHD, cHD, rfl, hcc, hI⟩
  · exact absurd HE4.out h0
  rw [HLZ.out, HLN.out, kn_ctB] at hI hcc
  rw [HLZ.out, HLN.out, kn_ctB, kn_csB]
  have HD := Lib.hid (show Ints w10 CHD 2 [1, 3] from hI)
  simp only [List.length_cons, List.length_nil, Nat.reduceAdd]
  clear hI hcc
  try clear hb
  clear HL5
  have ltX : R < w10.heap.size := lt_of_block X.out
  have zX0 : w10.cell? ⟨R, 0, none⟩ = some (.int .i64 l.N) := by rw [cell_row X.out]; rfl
  have zX1 : w10.cell? ⟨R, 1, none⟩ = some (.slice l.A l.n l.cap) := by rw [cell_row X.out]; rfl
  have zX2 : w10.cell? ⟨R, 2, none⟩ = some (.slice l.LA l.ln l.lc) := by rw [cell_row X.out]; rfl
  have zX3 : w10.cell? ⟨R, 3, none⟩ = some (.slice l.RA l.rn l.rc) := by rw [cell_row X.out]; rfl
  go_wp2_with fail
  clear zX0 zX1 zX2 zX3 ltX
  have hb := below_alloc_ w10 (.cells (flatI [3, 3, 2, 2, 0, 0]).toArray 2)
  have hr := heap_alloc_new_ w10 (.cells (flatI [3, 3, 2, 2, 0, 0]).toArray 2)
  obtain ⟨w11, hw11⟩ : ∃ v, w10.alloc (.cells (flatI [3, 3, 2, 2, 0, 0]).toArray 2) = v := ⟨_, rfl⟩
  obtain ⟨QHF, hQHF⟩ : ∃ v, w10.heap.size = v := ⟨_, rfl⟩
  rw [hw11] at hb hr
  rw [hQHF] at hr
  have Hw11 := Lib.hid hw11
  have HQHF := Lib.hid hQHF
  clear hw11 hQHF
  replace S := Lib.hid (S.out.below hb (Nat.le_refl _))
  replace HG := Lib.hid (HG.out.below hb (Nat.le_refl _))
  replace HC := Lib.hid (HC.out.below hb (Nat.le_refl _))
  replace HD := Lib.hid (HD.out.below hb (Nat.le_refl _))
  replace X := Lib.hid ((hb.block _ (lt_of_block X.out)).trans X.out)
  replace B := Lib.hid (B.out.trans (hb.mono B.out.size))
  clear hb
  have HF := Lib.hid (show Ints w11 (some ⟨QHF, 0, none⟩) 6 [3, 3, 2, 2, 0, 0] from ints_row_ [3, 3, 2, 2, 0, 0] hr)
  clear hr
  rw [show w10.alloc (.cells #[.int .i64 3, .int .i64 3, .int .i64 2, .int .i64 2, .int .i64 0, .int .i64 0] 2) = w11 from Hw11.out]
  rw [HQHF.out]
  refine (checkFlow26 l (some ⟨QHF, 0, none⟩) 6 6 [3, 3, 2, 2, 0, 0] w11 S.out HF.out (Nat.le_refl _)).mono ?_
  rintro en w12 ⟨rfl, hb⟩
  replace S := Lib.hid (S.out.below hb (Nat.le_refl _))
  replace HG := Lib.hid (HG.out.below hb (Nat.le_refl _))
  replace HC := Lib.hid (HC.out.below hb (Nat.le_refl _))
  replace HD := Lib.hid (HD.out.below hb (Nat.le_refl _))
  replace HF := Lib.hid (HF.out.below hb (Nat.le_refl _))
  replace X := Lib.hid ((hb.block _ (lt_of_block X.out)).trans X.out)
  replace B := Lib.hid (B.out.trans (hb.mono B.out.size))
  rw [HE5.out, HE6.out]
  try clear hb
  clear HF
  have ltX : R < w12.heap.size := lt_of_block X.out
  have zX0 : w12.cell? ⟨R, 0, none⟩ = some (.int .i64 l.N) := by rw [cell_row X.out]; rfl
  have zX1 : w12.cell? ⟨R, 1, none⟩ = some (.slice l.A l.n l.cap) := by rw [cell_row X.out]; rfl
  have zX2 : w12.cell? ⟨R, 2, none⟩ = some (.slice l.LA l.ln l.lc) := by rw [cell_row X.out]; rfl
  have zX3 : w12.cell? ⟨R, 3, none⟩ = some (.slice l.RA l.rn l.rc) := by rw [cell_row X.out]; rfl
  go_wp2_with fail
  clear zX0 zX1 zX2 zX3 ltX
  have hb := below_alloc_ w12 (.cells (flatI [0]).toArray 3)
  have hr := heap_alloc_new_ w12 (.cells (flatI [0]).toArray 3)
  obtain ⟨w13, hw13⟩ : ∃ v, w12.alloc (.cells (flatI [0]).toArray 3) = v := ⟨_, rfl⟩
  obtain ⟨Q6, hQ6⟩ : ∃ v, w12.heap.size = v := ⟨_, rfl⟩
  rw [hw13] at hb hr
  rw [hQ6] at hr
  have Hw13 := Lib.hid hw13
  have HQ6 := Lib.hid hQ6
  clear hw13 hQ6
  replace S := Lib.hid (S.out.below hb (Nat.le_refl _))
  replace HG := Lib.hid (HG.out.below hb (Nat.le_refl _))
  replace HC := Lib.hid (HC.out.below hb (Nat.le_refl _))
  replace HD := Lib.hid (HD.out.below hb (Nat.le_refl _))
  replace X := Lib.hid ((hb.block _ (lt_of_block X.out)).trans X.out)
  replace B := Lib.hid (B.out.trans (hb.mono B.out.size))
  clear hb
  have HL6 := Lib.hid (show Ints w13 (some ⟨Q6, 0, none⟩) 1 [0] from ints_row_ [0] hr)
  clear hr
  try rw [show w12.alloc (.cells #[.int .i64 0] 3) = w13 from Hw13.out]
  try rw [HQ6.out]
  have hb := below_alloc_ w13 (.cells (flatI [1]).toArray 3)
  have hr := heap_alloc_new_ w13 (.cells (flatI [1]).toArray 3)
  obtain ⟨w14, hw14⟩ : ∃ v, w13.alloc (.cells (flatI [1]).toArray 3) = v := ⟨_, rfl⟩
  obtain ⟨Q7, hQ7⟩ : ∃ v, w13.heap.size = v := ⟨_, rfl⟩
  rw [hw14] at hb hr
  rw [hQ7] at hr
  have Hw14 := Lib.hid hw14
  have HQ7 := Lib.hid hQ7
  clear hw14 hQ7
  replace S := Lib.hid (S.out.below hb (Nat.le_refl _))
  replace HG := Lib.hid (HG.out.below hb (Nat.le_refl _))
  replace HC := Lib.hid (HC.out.below hb (Nat.le_refl _))
  replace HD := Lib.hid (HD.out.below hb (Nat.le_refl _))
  replace HL6 := Lib.hid (HL6.out.below hb (Nat.le_refl _))
  replace X := Lib.hid ((hb.block _ (lt_of_block X.out)).trans X.out)
  replace B := Lib.hid (B.out.trans (hb.mono B.out.size))
  clear hb
  have HL7 := Lib.hid (show Ints w14 (some ⟨Q7, 0, none⟩) 1 [1] from ints_row_ [1] hr)
  clear hr
  try rw [show w13.alloc (.cells #[.int .i64 1] 3) = w14 from Hw14.out]
  try rw [HQ7.out]
  rw [show Q6 + 1 = Q7 from by rw [← HQ7.out, ← Hw13.out, ← HQ6.out]; simp]
  have hb := below_alloc_ w14 (.cells (flatI [2]).toArray 3)
  have hr := heap_alloc_new_ w14 (.cells (flatI [2]).toArray 3)
  obtain ⟨w15, hw15⟩ : ∃ v, w14.alloc (.cells (flatI [2]).toArray 3) = v := ⟨_, rfl⟩
  obtain ⟨Q8, hQ8⟩ : ∃ v, w14.heap.size = v := ⟨_, rfl⟩
  rw [hw15] at hb hr
  rw [hQ8] at hr
  have Hw15 := Lib.hid hw15
  have HQ8 := Lib.hid hQ8
  clear hw15 hQ8
  replace S := Lib.hid (S.out.below hb (Nat.le_refl _))
  replace HG := Lib.hid (HG.out.below hb (Nat.le_refl _))
  replace HC := Lib.hid (HC.out.below hb (Nat.le_refl _))
  replace HD := Lib.hid (HD.out.below hb (Nat.le_refl _))
  replace HL6 := Lib.hid (HL6.out.below hb (Nat.le_refl _))
  replace HL7 := Lib.hid (HL7.out.below hb (Nat.le_refl _))
  replace X := Lib.hid ((hb.block _ (lt_of_block X.out)).trans X.out)
  replace B := Lib.hid (B.out.trans (hb.mono B.out.size))
  clear hb
  have HL8 := Lib.hid (show Ints w15 (some ⟨Q8, 0, none⟩) 1 [2] from ints_row_ [2] hr)
  clear hr
  try rw [show w14.alloc (.cells #[.int .i64 2] 3) = w15 from Hw15.out]
  try rw [HQ8.out]
  rw [show Q7 + 1 = Q8 from by rw [← HQ8.out, ← Hw14.out, ← HQ7.out]; simp]
  have hb := below_alloc_ w15 (.cells (flatI [3]).toArray 3)
  have hr := heap_alloc_new_ w15 (.cells (flatI [3]).toArray 3)
  obtain ⟨w16, hw16⟩ : ∃ v, w15.alloc (.cells (flatI [3]).toArray 3) = v := ⟨_, rfl⟩
  obtain ⟨Q9, hQ9⟩ : ∃ v, w15.heap.size = v := ⟨_, rfl⟩
  rw [hw16] at hb hr
  rw [hQ9] at hr
  have Hw16 := Lib.hid hw16
  have HQ9 := Lib.hid hQ9
  clear hw16 hQ9
  replace S := Lib.hid (S.out.below hb (Nat.le_refl _))
  replace HG := Lib.hid (HG.out.below hb (Nat.le_refl _))
  replace HC := Lib.hid (HC.out.below hb (Nat.le_refl _))
  replace HD := Lib.hid (HD.out.below hb (Nat.le_refl _))
  replace HL6 := Lib.hid (HL6.out.below hb (Nat.le_refl _))
  replace HL7 := Lib.hid (HL7.out.below hb (Nat.le_refl _))
  replace HL8 := Lib.hid (HL8.out.below hb (Nat.le_refl _))
  replace X := Lib.hid ((hb.block _ (lt_of_block X.out)).trans X.out)
  replace B := Lib.hid (B.out.trans (hb.mono B.out.size))
  clear hb
  have HL9 := Lib.hid (show Ints w16 (some ⟨Q9, 0, none⟩) 1 [3] from ints_row_ [3] hr)
  clear hr
  try rw [show w15.alloc (.cells #[.int .i64 3] 3) = w16 from Hw16.out]
  try rw [HQ9.out]
  rw [show Q8 + 1 = Q9 from by rw [← HQ9.out, ← Hw15.out, ← HQ8.out]; simp]
  have hb := below_alloc_ w16 (.cells (flatI [4]).toArray 3)
  have hr := heap_alloc_new_ w16 (.cells (flatI [4]).toArray 3)
  obtain ⟨w17, hw17⟩ : ∃ v, w16.alloc (.cells (flatI [4]).toArray 3) = v := ⟨_, rfl⟩
  obtain ⟨Q10, hQ10⟩ : ∃ v, w16.heap.size = v := ⟨_, rfl⟩
  rw [hw17] at hb hr
  rw [hQ10] at hr
  have Hw17 := Lib.hid hw17
  have HQ10 := Lib.hid hQ10
  clear hw17 hQ10
  replace S := Lib.hid (S.out.below hb (Nat.le_refl _))
  replace HG := Lib.hid (HG.out.below hb (Nat.le_refl _))
  replace HC := Lib.hid (HC.out.below hb (Nat.le_refl _))
  replace HD := Lib.hid (HD.out.below hb (Nat.le_refl _))
  replace HL6 := Lib.hid (HL6.out.below hb (Nat.le_refl _))
  replace HL7 := Lib.hid (HL7.out.below hb (Nat.le_refl _))
  replace HL8 := Lib.hid (HL8.out.below hb (Nat.le_refl _))
  replace HL9 := Lib.hid (HL9.out.below hb (Nat.le_refl _))
  replace X := Lib.hid ((hb.block _ (lt_of_block X.out)).trans X.out)
  replace B := Lib.hid (B.out.trans (hb.mono B.out.size))
  clear hb
  have HL10 := Lib.hid (show Ints w17 (some ⟨Q10, 0, none⟩) 1 [4] from ints_row_ [4] hr)
  clear hr
  try rw [show w16.alloc (.cells #[.int .i64 4] 3) = w17 from Hw17.out]
  try rw [HQ10.out]
  rw [show Q9 + 1 = Q10 from by rw [← HQ10.out, ← Hw16.out, ← HQ9.out]; simp]
  have hb := below_alloc_ w17 (.cells #[.slice (some ⟨Q6, 0, none⟩) 1 1, .slice (some ⟨Q7, 0, none⟩) 1 1, .slice (some ⟨Q8, 0, none⟩) 1 1, .slice (some ⟨Q9, 0, none⟩) 1 1, .slice (some ⟨Q10, 0, none⟩) 1 1] 23)
  have hr := heap_alloc_new_ w17 (.cells #[.slice (some ⟨Q6, 0, none⟩) 1 1, .slice (some ⟨Q7, 0, none⟩) 1 1, .slice (some ⟨Q8, 0, none⟩) 1 1, .slice (some ⟨Q9, 0, none⟩) 1 1, .slice (some ⟨Q10, 0, none⟩) 1 1] 23)
  obtain ⟨w18, hw18⟩ : ∃ v, w17.alloc (.cells #[.slice (some ⟨Q6, 0, none⟩) 1 1, .slice (some ⟨Q7, 0, none⟩) 1 1, .slice (some ⟨Q8, 0, none⟩) 1 1, .slice (some ⟨Q9, 0, none⟩) 1 1, .slice (some ⟨Q10, 0, none⟩) 1 1] 23) = v := ⟨_, rfl⟩
  obtain ⟨QR, hQR⟩ : ∃ v, w17.heap.size = v := ⟨_, rfl⟩
  rw [hw18] at hb hr
  rw [hQR] at hr
  have Hw18 := Lib.hid hw18
  have HQR := Lib.hid hQR
  clear hw18 hQR
  replace S := Lib.hid (S.out.below hb (Nat.le_refl _))
  replace HG := Lib.hid (HG.out.below hb (Nat.le_refl _))
  replace HC := Lib.hid (HC.out.below hb (Nat.le_refl _))
  replace HD := Lib.hid (HD.out.below hb (Nat.le_refl _))
  replace HL6 := Lib.hid (HL6.out.below hb (Nat.le_refl _))
  replace HL7 := Lib.hid (HL7.out.below hb (Nat.le_refl _))
  replace HL8 := Lib.hid (HL8.out.below hb (Nat.le_refl _))
  replace HL9 := Lib.hid (HL9.out.below hb (Nat.le_refl _))
  replace HL10 := Lib.hid (HL10.out.below hb (Nat.le_refl _))
  replace X := Lib.hid ((hb.block _ (lt_of_block X.out)).trans X.out)
  replace B := Lib.hid (B.out.trans (hb.mono B.out.size))
  clear hb
  rw [Hw18.out]
  rw [show Q10 + 1 = QR from by rw [← HQR.out, ← Hw17.out, ← HQ10.out]; simp]
  have HRR := Lib.hid (rows_five hr HL6.out HL7.out HL8.out HL9.out HL10.out)
  clear hr
  refine (lists19 CG 5 cg [[0], [1], [2], [3], [4]] (some ⟨QR, 0, none⟩) 5 5 [[0], [1], [2], [3], [4]] w18 HG.out HRR.out (by omega) (by decide)).mono ?_
  rintro en w19 ⟨rfl, hb⟩
  replace S := Lib.hid (S.out.below hb (Nat.le_refl _))
  replace HG := Lib.hid (HG.out.below hb (Nat.le_refl _))
  replace HC := Lib.hid (HC.out.below hb (Nat.le_refl _))
  replace HD := Lib.hid (HD.out.below hb (Nat.le_refl _))
  replace HL6 := Lib.hid (HL6.out.below hb (Nat.le_refl _))
  replace HL7 := Lib.hid (HL7.out.below hb (Nat.le_refl _))
  replace HL8 := Lib.hid (HL8.out.below hb (Nat.le_refl _))
  replace HL9 := Lib.hid (HL9.out.below hb (Nat.le_refl _))
  replace HL10 := Lib.hid (HL10.out.below hb (Nat.le_refl _))
  replace HRR := Lib.hid (HRR.out.below hb (Nat.le_refl _))
  replace X := Lib.hid ((hb.block _ (lt_of_block X.out)).trans X.out)
  replace B := Lib.hid (B.out.trans (hb.mono B.out.size))
  rw [decide_eq_true (rfl : ([[0], [1], [2], [3], [4]] : List (List Int)) = [[0], [1], [2], [3], [4]])]
  try clear hb
  clear HRR
  clear HG
  clear HL6
  clear HL7
  clear HL8
  clear HL9
  clear HL10
  have ltX : R < w19.heap.size := lt_of_block X.out
  have zX0 : w19.cell? ⟨R, 0, none⟩ = some (.int .i64 l.N) := by rw [cell_row X.out]; rfl
  have zX1 : w19.cell? ⟨R, 1, none⟩ = some (.slice l.A l.n l.cap) := by rw [cell_row X.out]; rfl
  have zX2 : w19.cell? ⟨R, 2, none⟩ = some (.slice l.LA l.ln l.lc) := by rw [cell_row X.out]; rfl
  have zX3 : w19.cell? ⟨R, 3, none⟩ = some (.slice l.RA l.rn l.rc) := by rw [cell_row X.out]; rfl
  go_wp2_with fail
  clear zX0 zX1 zX2 zX3 ltX
  have hb := below_alloc_ w19 (.cells (flatI [0, 2]).toArray 3)
  have hr := heap_alloc_new_ w19 (.cells (flatI [0, 2]).toArray 3)
  obtain ⟨w20, hw20⟩ : ∃ v, w19.alloc (.cells (flatI [0, 2]).toArray 3) = v := ⟨_, rfl⟩
  obtain ⟨Q11, hQ11⟩ : ∃ v, w19.heap.size = v := ⟨_, rfl⟩
  rw [hw20] at hb hr
  rw [hQ11] at hr
  have Hw20 := Lib.hid hw20
  have HQ11 := Lib.hid hQ11
  clear hw20 hQ11
  replace S := Lib.hid (S.out.below hb (Nat.le_refl _))
  replace HC := Lib.hid (HC.out.below hb (Nat.le_refl _))
  replace HD := Lib.hid (HD.out.below hb (Nat.le_refl _))
  replace X := Lib.hid ((hb.block _ (lt_of_block X.out)).trans X.out)
  replace B := Lib.hid (B.out.trans (hb.mono B.out.size))
  clear hb
  have HL11 := Lib.hid (show Ints w20 (some ⟨Q11, 0, none⟩) 2 [0, 2] from ints_row_ [0, 2] hr)
  clear hr
  try rw [show w19.alloc (.cells #[.int .i64 0, .int .i64 2] 3) = w20 from Hw20.out]
  try rw [HQ11.out]
  refine (ints28 CHC 2 cHC [0, 2] (some ⟨Q11, 0, none⟩) 2 2 [0, 2] w20 HC.out HL11.out (by omega)).mono ?_
  rintro en w21 ⟨rfl, hb⟩
  replace S := Lib.hid (S.out.below hb (Nat.le_refl _))
  replace HC := Lib.hid (HC.out.below hb (Nat.le_refl _))
  replace HD := Lib.hid (HD.out.below hb (Nat.le_refl _))
  replace HL11 := Lib.hid (HL11.out.below hb (Nat.le_refl _))
  replace X := Lib.hid ((hb.block _ (lt_of_block X.out)).trans X.out)
  replace B := Lib.hid (B.out.trans (hb.mono B.out.size))
  rw [decide_eq_true (rfl : ([0, 2] : List Int) = [0, 2])]
  try clear hb
  clear HL11
  clear HC
  have ltX : R < w21.heap.size := lt_of_block X.out
  have zX0 : w21.cell? ⟨R, 0, none⟩ = some (.int .i64 l.N) := by rw [cell_row X.out]; rfl
  have zX1 : w21.cell? ⟨R, 1, none⟩ = some (.slice l.A l.n l.cap) := by rw [cell_row X.out]; rfl
  have zX2 : w21.cell? ⟨R, 2, none⟩ = some (.slice l.LA l.ln l.lc) := by rw [cell_row X.out]; rfl
  have zX3 : w21.cell? ⟨R, 3, none⟩ = some (.slice l.RA l.rn l.rc) := by rw [cell_row X.out]; rfl
  go_wp2_with fail
  clear zX0 zX1 zX2 zX3 ltX
  have hb := below_alloc_ w21 (.cells (flatI [1, 3]).toArray 3)
  have hr := heap_alloc_new_ w21 (.cells (flatI [1, 3]).toArray 3)
  obtain ⟨w22, hw22⟩ : ∃ v, w21.alloc (.cells (flatI [1, 3]).toArray 3) = v := ⟨_, rfl⟩
  obtain ⟨Q12, hQ12⟩ : ∃ v, w21.heap.size = v := ⟨_, rfl⟩
  rw [hw22] at hb hr
  rw [hQ12] at hr
  have Hw22 := Lib.hid hw22
  have HQ12 := Lib.hid hQ12
  clear hw22 hQ12
  replace S := Lib.hid (S.out.below hb (Nat.le_refl _))
  replace HD := Lib.hid (HD.out.below hb (Nat.le_refl _))
  replace X := Lib.hid ((hb.block _ (lt_of_block X.out)).trans X.out)
  replace B := Lib.hid (B.out.trans (hb.mono B.out.size))
  clear hb
  have HL12 := Lib.hid (show Ints w22 (some ⟨Q12, 0, none⟩) 2 [1, 3] from ints_row_ [1, 3] hr)
  clear hr
  try rw [show w21.alloc (.cells #[.int .i64 1, .int .i64 3] 3) = w22 from Hw22.out]
  try rw [HQ12.out]
  refine (ints28 CHD 2 cHD [1, 3] (some ⟨Q12, 0, none⟩) 2 2 [1, 3] w22 HD.out HL12.out (by omega)).mono ?_
  rintro en w23 ⟨rfl, hb⟩
  replace S := Lib.hid (S.out.below hb (Nat.le_refl _))
  replace HD := Lib.hid (HD.out.below hb (Nat.le_refl _))
  replace HL12 := Lib.hid (HL12.out.below hb (Nat.le_refl _))
  replace X := Lib.hid ((hb.block _ (lt_of_block X.out)).trans X.out)
  replace B := Lib.hid (B.out.trans (hb.mono B.out.size))
  rw [decide_eq_true (rfl : ([1, 3] : List Int) = [1, 3])]
  try clear hb
  clear HL12
  clear HD
  have ltX : R < w23.heap.size := lt_of_block X.out
  have zX0 : w23.cell? ⟨R, 0, none⟩ = some (.int .i64 l.N) := by rw [cell_row X.out]; rfl
  have zX1 : w23.cell? ⟨R, 1, none⟩ = some (.slice l.A l.n l.cap) := by rw [cell_row X.out]; rfl
  have zX2 : w23.cell? ⟨R, 2, none⟩ = some (.slice l.LA l.ln l.lc) := by rw [cell_row X.out]; rfl
  have zX3 : w23.cell? ⟨R, 3, none⟩ = some (.slice l.RA l.rn l.rc) := by rw [cell_row X.out]; rfl
  go_wp2_with fail
  clear zX0 zX1 zX2 zX3 ltX
  refine (works14 w23).mono ?_
  rintro en w24 ⟨rfl, hb⟩
  replace B := Lib.hid (B.out.trans (hb.mono B.out.size))
  clear hb
  go_wp2_with fail
  go_ret
  exact ⟨rfl, B.out⟩
end
end Go.Proofs.Ytigohccehllmnaa
