/- Stage 5: ListExamples. -/
import Derived.Test.YtnodkgejggnehaaGt
namespace Go.Proofs.Ytnodkgejggnehaa
set_option linter.unusedSimpArgs false
set_option linter.unusedVariables false
open Go.RowKit Go.Shelf
theorem e_j16 : chkJ 3 3 zE [] [0, 2] = 16 := by decide +kernel
theorem e_c0 : chkC 3 3 zE [] [0, 1, 2] [] = 0 := by decide +kernel
theorem e_s3 : szC 3 3 zE [] [0, 1, 2] [] = 3 := by decide +kernel
theorem e_c14 : chkC 3 3 zE [] [2] [0] = 14 := by decide +kernel
theorem e_s14 : szC 3 3 zE [] [2] [0] = 0 := by decide +kernel
theorem e_chkK : chkS 3 3 zE [0, 3] = 0 := by decide +kernel
theorem e_siz2 : sizeF 5 zE (opnL 5 zE [0, 3]) 2 = 2 := by decide +kernel
theorem e_known {pt : Nat → Int} (hg : GB 5 zE (opnL 5 zE [0, 3]) pt (kNt [0, 3])) : jI 5 zE pt = [0, 3] := by
  have h1 : (jI 5 zE pt).length = sizeF 5 zE (opnL 5 zE [0, 3]) 2 := gb_len (n := 5) (sl := 3) (sr := 3) (zs := zE) (ks := [0, 3]) e_chkK rfl hg
  rw [e_siz2, jI_len] at h1
  have a0 := (hg.jk 0 (by decide)).2.2
  have a3 := (hg.jk 3 (by decide)).2.2
  unfold jI
  unfold jA at h1 ⊢
  generalize hp : (fun k : Nat => pt (0 * 12 + eN zE 0 k) == (k : Int)) = p at h1 ⊢
  have hpk : ∀ k, pt (0 * 12 + eN zE 0 k) = (k : Int) ↔ p k = true := fun k => by rw [← hp]; simp
  rw [hpk] at a0 a3
  rw [show List.range 5 = [0, 1, 2, 3, 4] from rfl] at h1 ⊢
  simp only [List.filter_cons, List.filter_nil] at h1 ⊢
  generalize p 0 = p0, p 1 = p1, p 2 = p2, p 3 = p3, p 4 = p4 at *
  cases p0 <;> cases p1 <;> cases p2 <;> cases p3 <;> cases p4 <;> simp_all
set_option maxRecDepth 100000 in
set_option maxHeartbeats 40000000 in
theorem examples13 (w : World) : Calls Try.prog 13 #[] w fun en w' => en = .returned (.bool true) ∧ Below w.heap.size w w' := by
  go_enter Try.func13, Try.ntmps13
  go_wp2_with fail
  refine (sheet38 w).mono ?_
  rintro en w0 ⟨D, rfl, hD, hrow, hb⟩
  have B := Lib.hid hb
  have X := Lib.hid (show Rgs w0 (some ⟨D, 0, none⟩) 5 zE from flat_rgs zE hrow)
  have HDr := Lib.hid hrow
  clear hb hrow hD
  go_wp2_with fail
  have B0 := B
  have hb := below_alloc_ w0 (.cells #[.int .i64 3, .int .i64 3, .slice (some ⟨D, 0, none⟩) 5 5, .slice none 0 0] 25)
  have hr := heap_alloc_new_ w0 (.cells #[.int .i64 3, .int .i64 3, .slice (some ⟨D, 0, none⟩) 5 5, .slice none 0 0] 25)
  obtain ⟨w1, hw1⟩ : ∃ v, w0.alloc (.cells #[.int .i64 3, .int .i64 3, .slice (some ⟨D, 0, none⟩) 5 5, .slice none 0 0] 25) = v := ⟨_, rfl⟩
  obtain ⟨Z, hZ⟩ : ∃ v, w0.heap.size = v := ⟨_, rfl⟩
  rw [hw1] at hb hr
  rw [hZ] at hr
  have Hw1 := Lib.hid hw1
  have HZ := Lib.hid hZ
  clear hw1 hZ
  replace X := Lib.hid (X.out.below hb (Nat.le_refl _))
  replace HDr := Lib.hid ((hb.block _ (lt_of_block HDr.out)).trans HDr.out)
  replace B := Lib.hid (B.out.trans (hb.mono B.out.size))
  clear hb
  have HZr := Lib.hid hr
  have BZ := Lib.hid B0.out
  clear hr B0
  have zHZr0 : w1.cell? ⟨Z, 0, none⟩ = some (.int .i64 3) := by rw [cell_row HZr.out]; rfl
  have zHZr1 : w1.cell? ⟨Z, 1, none⟩ = some (.int .i64 3) := by rw [cell_row HZr.out]; rfl
  have zHZr2 : w1.cell? ⟨Z, 2, none⟩ = some (.slice (some ⟨D, 0, none⟩) 5 5) := by rw [cell_row HZr.out]; rfl
  have zHZr3 : w1.cell? ⟨Z, 3, none⟩ = some (.slice none 0 0) := by rw [cell_row HZr.out]; rfl
  go_wp2_with fail
  try rw [Hw1.out]
  try rw [HZ.out]
  try go_wp2_with fail
  clear zHZr0 zHZr1 zHZr2 zHZr3
  rw [show Z + 1 = w1.heap.size from by rw [← Hw1.out, ← HZ.out]; simp]
  have hb := below_alloc_ w1 (.cells (flatI [0, 2]).toArray 3)
  have hr := heap_alloc_new_ w1 (.cells (flatI [0, 2]).toArray 3)
  obtain ⟨w2, hw2⟩ : ∃ v, w1.alloc (.cells (flatI [0, 2]).toArray 3) = v := ⟨_, rfl⟩
  obtain ⟨Q, hQ⟩ : ∃ v, w1.heap.size = v := ⟨_, rfl⟩
  rw [hw2] at hb hr
  rw [hQ] at hr
  have Hw2 := Lib.hid hw2
  have HQ := Lib.hid hQ
  clear hw2 hQ
  replace X := Lib.hid (X.out.below hb (Nat.le_refl _))
  replace HDr := Lib.hid ((hb.block _ (lt_of_block HDr.out)).trans HDr.out)
  replace HZr := Lib.hid ((hb.block _ (lt_of_block HZr.out)).trans HZr.out)
  replace B := Lib.hid (B.out.trans (hb.mono B.out.size))
  clear hb
  have FQ := Lib.hid (show Ints w2 (some ⟨Q, 0, none⟩) 2 [0, 2] from ints_row_ [0, 2] hr)
  clear hr
  try rw [show w1.alloc (.cells #[.int .i64 0, .int .i64 2] 3) = w2 from Hw2.out]
  try rw [HQ.out]
  refine (checkJoining20 3 3 (some ⟨D, 0, none⟩) 5 5 zE none 0 0 [] (some ⟨Q, 0, none⟩) 2 2 [0, 2] w2 X.out (ints_nil_ _) FQ.out (Nat.le_refl _) (by omega) (by omega) (by omega)).mono ?_
  rintro en w3 ⟨rfl, hb⟩
  replace X := Lib.hid (X.out.below hb (Nat.le_refl _))
  replace HDr := Lib.hid ((hb.block _ (lt_of_block HDr.out)).trans HDr.out)
  replace HZr := Lib.hid ((hb.block _ (lt_of_block HZr.out)).trans HZr.out)
  replace B := Lib.hid (B.out.trans (hb.mono B.out.size))
  rw [e_j16]
  clear FQ
  try clear hb
  have zHZr0 : w3.cell? ⟨Z, 0, none⟩ = some (.int .i64 3) := by rw [cell_row HZr.out]; rfl
  have zHZr1 : w3.cell? ⟨Z, 1, none⟩ = some (.int .i64 3) := by rw [cell_row HZr.out]; rfl
  have zHZr2 : w3.cell? ⟨Z, 2, none⟩ = some (.slice (some ⟨D, 0, none⟩) 5 5) := by rw [cell_row HZr.out]; rfl
  have zHZr3 : w3.cell? ⟨Z, 3, none⟩ = some (.slice none 0 0) := by rw [cell_row HZr.out]; rfl
  go_wp2_with fail
  clear zHZr0 zHZr1 zHZr2 zHZr3
  have hb := below_alloc_ w3 (.cells (flatI [0, 1, 2]).toArray 3)
  have hr := heap_alloc_new_ w3 (.cells (flatI [0, 1, 2]).toArray 3)
  obtain ⟨w4, hw4⟩ : ∃ v, w3.alloc (.cells (flatI [0, 1, 2]).toArray 3) = v := ⟨_, rfl⟩
  obtain ⟨Q1, hQ1⟩ : ∃ v, w3.heap.size = v := ⟨_, rfl⟩
  rw [hw4] at hb hr
  rw [hQ1] at hr
  have Hw4 := Lib.hid hw4
  have HQ1 := Lib.hid hQ1
  clear hw4 hQ1
  replace X := Lib.hid (X.out.below hb (Nat.le_refl _))
  replace HDr := Lib.hid ((hb.block _ (lt_of_block HDr.out)).trans HDr.out)
  replace HZr := Lib.hid ((hb.block _ (lt_of_block HZr.out)).trans HZr.out)
  replace B := Lib.hid (B.out.trans (hb.mono B.out.size))
  clear hb
  have FQ1 := Lib.hid (show Ints w4 (some ⟨Q1, 0, none⟩) 3 [0, 1, 2] from ints_row_ [0, 1, 2] hr)
  clear hr
  try rw [show w3.alloc (.cells #[.int .i64 0, .int .i64 1, .int .i64 2] 3) = w4 from Hw4.out]
  try rw [HQ1.out]
  refine (checkCover16 3 3 (some ⟨D, 0, none⟩) 5 5 zE none 0 0 [] (some ⟨Q1, 0, none⟩) 3 3 [0, 1, 2] none 0 0 [] w4 X.out (ints_nil_ _) (Nat.le_refl _) FQ1.out (ints_nil_ _) (by omega) (by omega) (by omega) (by omega)).mono ?_
  rintro en w5 ⟨rfl, hb⟩
  replace X := Lib.hid (X.out.below hb (Nat.le_refl _))
  replace HDr := Lib.hid ((hb.block _ (lt_of_block HDr.out)).trans HDr.out)
  replace HZr := Lib.hid ((hb.block _ (lt_of_block HZr.out)).trans HZr.out)
  replace B := Lib.hid (B.out.trans (hb.mono B.out.size))
  rw [e_c0, e_s3]
  clear FQ1
  try clear hb
  have zHZr0 : w5.cell? ⟨Z, 0, none⟩ = some (.int .i64 3) := by rw [cell_row HZr.out]; rfl
  have zHZr1 : w5.cell? ⟨Z, 1, none⟩ = some (.int .i64 3) := by rw [cell_row HZr.out]; rfl
  have zHZr2 : w5.cell? ⟨Z, 2, none⟩ = some (.slice (some ⟨D, 0, none⟩) 5 5) := by rw [cell_row HZr.out]; rfl
  have zHZr3 : w5.cell? ⟨Z, 3, none⟩ = some (.slice none 0 0) := by rw [cell_row HZr.out]; rfl
  go_wp2_with fail
  clear zHZr0 zHZr1 zHZr2 zHZr3
  have hb := below_alloc_ w5 (.cells (flatI [2]).toArray 3)
  have hr := heap_alloc_new_ w5 (.cells (flatI [2]).toArray 3)
  obtain ⟨w6, hw6⟩ : ∃ v, w5.alloc (.cells (flatI [2]).toArray 3) = v := ⟨_, rfl⟩
  obtain ⟨Q2, hQ2⟩ : ∃ v, w5.heap.size = v := ⟨_, rfl⟩
  rw [hw6] at hb hr
  rw [hQ2] at hr
  have Hw6 := Lib.hid hw6
  have HQ2 := Lib.hid hQ2
  clear hw6 hQ2
  replace X := Lib.hid (X.out.below hb (Nat.le_refl _))
  replace HDr := Lib.hid ((hb.block _ (lt_of_block HDr.out)).trans HDr.out)
  replace HZr := Lib.hid ((hb.block _ (lt_of_block HZr.out)).trans HZr.out)
  replace B := Lib.hid (B.out.trans (hb.mono B.out.size))
  clear hb
  have FQ2 := Lib.hid (show Ints w6 (some ⟨Q2, 0, none⟩) 1 [2] from ints_row_ [2] hr)
  clear hr
  try rw [show w5.alloc (.cells #[.int .i64 2] 3) = w6 from Hw6.out]
  try rw [HQ2.out]
  have hb := below_alloc_ w6 (.cells (flatI [0]).toArray 3)
  have hr := heap_alloc_new_ w6 (.cells (flatI [0]).toArray 3)
  obtain ⟨w7, hw7⟩ : ∃ v, w6.alloc (.cells (flatI [0]).toArray 3) = v := ⟨_, rfl⟩
  obtain ⟨Q3, hQ3⟩ : ∃ v, w6.heap.size = v := ⟨_, rfl⟩
  rw [hw7] at hb hr
  rw [hQ3] at hr
  have Hw7 := Lib.hid hw7
  have HQ3 := Lib.hid hQ3
  clear hw7 hQ3
  replace X := Lib.hid (X.out.below hb (Nat.le_refl _))
  replace FQ2 := Lib.hid (FQ2.out.below hb (Nat.le_refl _))
  replace HDr := Lib.hid ((hb.block _ (lt_of_block HDr.out)).trans HDr.out)
  replace HZr := Lib.hid ((hb.block _ (lt_of_block HZr.out)).trans HZr.out)
  replace B := Lib.hid (B.out.trans (hb.mono B.out.size))
  clear hb
  have FQ3 := Lib.hid (show Ints w7 (some ⟨Q3, 0, none⟩) 1 [0] from ints_row_ [0] hr)
  clear hr
  try rw [show w6.alloc (.cells #[.int .i64 0] 3) = w7 from Hw7.out]
  try rw [HQ3.out]
  rw [show Q2 + 1 = Q3 from by rw [← HQ3.out, ← Hw6.out, ← HQ2.out]; simp]
  refine (checkCover16 3 3 (some ⟨D, 0, none⟩) 5 5 zE none 0 0 [] (some ⟨Q2, 0, none⟩) 1 1 [2] (some ⟨Q3, 0, none⟩) 1 1 [0] w7 X.out (ints_nil_ _) (Nat.le_refl _) FQ2.out FQ3.out (by omega) (by omega) (by omega) (by omega)).mono ?_
  rintro en w8 ⟨rfl, hb⟩
  replace X := Lib.hid (X.out.below hb (Nat.le_refl _))
  replace FQ2 := Lib.hid (FQ2.out.below hb (Nat.le_refl _))
  replace HDr := Lib.hid ((hb.block _ (lt_of_block HDr.out)).trans HDr.out)
  replace HZr := Lib.hid ((hb.block _ (lt_of_block HZr.out)).trans HZr.out)
  replace B := Lib.hid (B.out.trans (hb.mono B.out.size))
  rw [e_c14, e_s14]
  clear FQ2 FQ3
  try clear hb
  have zHZr0 : w8.cell? ⟨Z, 0, none⟩ = some (.int .i64 3) := by rw [cell_row HZr.out]; rfl
  have zHZr1 : w8.cell? ⟨Z, 1, none⟩ = some (.int .i64 3) := by rw [cell_row HZr.out]; rfl
  have zHZr2 : w8.cell? ⟨Z, 2, none⟩ = some (.slice (some ⟨D, 0, none⟩) 5 5) := by rw [cell_row HZr.out]; rfl
  have zHZr3 : w8.cell? ⟨Z, 3, none⟩ = some (.slice none 0 0) := by rw [cell_row HZr.out]; rfl
  have fZ := fun o : Nat => frozen_row (k := o) HZr.out
  have hzl := lt_of_block HZr.out
  go_wp2_with fail
  clear zHZr0 zHZr1 zHZr2 zHZr3
  have hDZ : D ≠ Z := fun e => by subst e; have h1 := HDr.out; rw [HZr.out] at h1; cases h1
  have hkS := keeps_setCell w8 Z 3 (.slice (some ⟨w8.heap.size, 0, none⟩) 2 2)
  have hr3 := set_same 3 (.slice (some ⟨w8.heap.size, 0, none⟩) 2 2) HZr.out
  have hd3 := (hkS.block _ (lt_of_block HDr.out) (by simpa using hDZ)).trans HDr.out
  have hs3 : (w8.setCell ⟨Z, 3, none⟩ (.slice (some ⟨w8.heap.size, 0, none⟩) 2 2)).heap.size = w8.heap.size := by simp
  have hZw : w.heap.size ≤ Z := by
    rw [← HZ.out]; exact BZ.out.size
  replace B := Lib.hid (B.out.trans (hkS.below B.out.size (fun j hj e => by have := BZ.out.size; omega)))
  obtain ⟨w9, hw9⟩ : ∃ v, w8.setCell ⟨Z, 3, none⟩ (.slice (some ⟨w8.heap.size, 0, none⟩) 2 2) = v := ⟨_, rfl⟩
  obtain ⟨Y, hY⟩ : ∃ v, w8.heap.size = v := ⟨_, rfl⟩
  rw [hw9] at hr3 hd3 hs3 B
  have Hw9 := Lib.hid hw9
  try rw [hw9]
  rw [hY] at hr3 hs3
  have HY := Lib.hid hY
  try rw [hY]
  clear fZ hzl hkS hw9 hY HZr HDr X
  have HZr := Lib.hid hr3
  have HDr := Lib.hid hd3
  have X := Lib.hid (show Rgs w9 (some ⟨D, 0, none⟩) 5 zE from flat_rgs zE hd3)
  have hsY := hs3
  clear hr3 hd3 hs3
  have hb := below_alloc_ w9 (.cells (flatI [0, 3]).toArray 3)
  have hr := heap_alloc_new_ w9 (.cells (flatI [0, 3]).toArray 3)
  obtain ⟨w10, hw10⟩ : ∃ v, w9.alloc (.cells (flatI [0, 3]).toArray 3) = v := ⟨_, rfl⟩
  obtain ⟨Y2, hY2⟩ : ∃ v, w9.heap.size = v := ⟨_, rfl⟩
  rw [hw10] at hb hr
  rw [hY2] at hr
  have Hw10 := Lib.hid hw10
  have HY2 := Lib.hid hY2
  clear hw10 hY2
  replace X := Lib.hid (X.out.below hb (Nat.le_refl _))
  replace HZr := Lib.hid ((hb.block _ (lt_of_block HZr.out)).trans HZr.out)
  replace HDr := Lib.hid ((hb.block _ (lt_of_block HDr.out)).trans HDr.out)
  replace B := Lib.hid (B.out.trans (hb.mono B.out.size))
  clear hb
  have hii := ints_row_ [0, 3] hr
  clear hr
  obtain rfl : Y = Y2 := by rw [← HY2.out]; exact hsY.symm
  have FY := Lib.hid (show Ints w10 (some ⟨Y, 0, none⟩) 2 [0, 3] from hii)
  clear hii hsY
  try rw [show w9.alloc (.cells #[.int .i64 0, .int .i64 3] 3) = w10 from Hw10.out]
  refine (greatest22 3 3 (some ⟨D, 0, none⟩) 5 5 zE (some ⟨Y, 0, none⟩) 2 2 [0, 3] w10 X.out FY.out (Nat.le_refl _) (by omega) (by omega) e_chkK).mono ?_
  rintro en w11 ⟨QG, pt, rfl, hgb, hQ8, hig, hb⟩
  replace X := Lib.hid (X.out.below hb (Nat.le_refl _))
  replace FY := Lib.hid (FY.out.below hb (Nat.le_refl _))
  replace HZr := Lib.hid ((hb.block _ (lt_of_block HZr.out)).trans HZr.out)
  replace HDr := Lib.hid ((hb.block _ (lt_of_block HDr.out)).trans HDr.out)
  replace B := Lib.hid (B.out.trans (hb.mono B.out.size))
  have hj := e_known hgb
  rw [hj] at hig ⊢
  have HG := Lib.hid (show Ints w11 (some ⟨QG, 0, none⟩) 2 [0, 3] from hig)
  clear hgb hQ8 hig hj FY HDr HZr X
  try clear hb
  go_wp2_with fail
  have hb := below_alloc_ w11 (.cells (flatI [0, 3]).toArray 3)
  have hr := heap_alloc_new_ w11 (.cells (flatI [0, 3]).toArray 3)
  obtain ⟨w12, hw12⟩ : ∃ v, w11.alloc (.cells (flatI [0, 3]).toArray 3) = v := ⟨_, rfl⟩
  obtain ⟨V1, hV1⟩ : ∃ v, w11.heap.size = v := ⟨_, rfl⟩
  rw [hw12] at hb hr
  rw [hV1] at hr
  have Hw12 := Lib.hid hw12
  have HV1 := Lib.hid hV1
  clear hw12 hV1
  replace HG := Lib.hid (HG.out.below hb (Nat.le_refl _))
  replace B := Lib.hid (B.out.trans (hb.mono B.out.size))
  clear hb
  have FV := Lib.hid (show Ints w12 (some ⟨V1, 0, none⟩) 2 [0, 3] from ints_row_ [0, 3] hr)
  clear hr
  try rw [show w11.alloc (.cells #[.int .i64 0, .int .i64 3] 3) = w12 from Hw12.out]
  try rw [HV1.out]
  refine (ints29 (some ⟨QG, 0, none⟩) 2 2 [0, 3] (some ⟨V1, 0, none⟩) 2 2 [0, 3] w12 HG.out FV.out (by omega)).mono ?_
  rintro en w13 ⟨rfl, hb⟩
  replace HG := Lib.hid (HG.out.below hb (Nat.le_refl _))
  replace B := Lib.hid (B.out.trans (hb.mono B.out.size))
  rw [decide_eq_true (rfl : ([0, 3] : List Int) = [0, 3])]
  clear FV HG
  try clear hb
  go_wp2_with fail
  refine (works15 w13).mono ?_
  rintro en w14 ⟨rfl, hb⟩
  replace B := Lib.hid (B.out.trans (hb.mono B.out.size))
  clear hb
  go_wp2_with fail
  go_ret
  exact ⟨rfl, B.out⟩
end Go.Proofs.Ytnodkgejggnehaa
