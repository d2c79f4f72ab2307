/- Stage 5: Works. -/
import Derived.Test.YtnodkgejggnehaaWm
import Derived.Test.YtnodkgejggnehaaKc
import Derived.Test.YtnodkgejggnehaaCz
import Derived.Test.YtnodkgejggnehaaRs
namespace Go.Proofs.Ytnodkgejggnehaa
set_option linter.unusedSimpArgs false
set_option linter.unusedVariables false
open Go.RowKit Go.Shelf
theorem ints_row_ {W : World} {Z : Nat} (L : List Int) {t : TypeId} (h : W.heap[Z]? = some (.cells (flatI L).toArray t (0, 0))) : Ints W (some ⟨Z, 0, none⟩) L.length L := ints_row h
theorem ints_nil_ (W : World) : Ints W none 0 [] := ⟨rfl, fun h => absurd h (by omega)⟩
set_option maxRecDepth 100000 in
set_option maxHeartbeats 40000000 in
theorem works15 (w : World) : Calls Try.prog 15 #[] w fun en w' => en = .returned (.bool true) ∧ Below w.heap.size w w' := by
  go_enter Try.func15, Try.ntmps15
  go_wp2_with fail
  refine (sheet38 w).mono ?_
  rintro en w0 ⟨D, rfl, hD, hrow, hb⟩
  have B := Lib.hid hb
  have X := Lib.hid (show Rgs w0 (some ⟨D, 0, none⟩) 5 zE from flat_rgs zE hrow)
  clear hb hrow hD
  go_wp2_with fail
  have hb := below_alloc_ w0 (.cells #[.int .i64 3, .int .i64 3, .slice (some ⟨D, 0, none⟩) 5 5, .slice none 0 0] 25)
  have hr := heap_alloc_new_ w0 (.cells #[.int .i64 3, .int .i64 3, .slice (some ⟨D, 0, none⟩) 5 5, .slice none 0 0] 25)
  obtain ⟨w1, hw1⟩ : ∃ v, w0.alloc (.cells #[.int .i64 3, .int .i64 3, .slice (some ⟨D, 0, none⟩) 5 5, .slice none 0 0] 25) = v := ⟨_, rfl⟩
  obtain ⟨Z, hZ⟩ : ∃ v, w0.heap.size = v := ⟨_, rfl⟩
  rw [hw1] at hb hr
  rw [hZ] at hr
  have Hw1 := Lib.hid hw1
  have HZ := Lib.hid hZ
  clear hw1 hZ
  replace X := Lib.hid (X.out.below hb (Nat.le_refl _))
  replace B := Lib.hid (B.out.trans (hb.mono B.out.size))
  clear hb
  have HZr := Lib.hid hr
  clear hr
  have zZ0 : w1.cell? ⟨Z, 0, none⟩ = some (.int .i64 3) := by rw [cell_row HZr.out]; rfl
  have zZ1 : w1.cell? ⟨Z, 1, none⟩ = some (.int .i64 3) := by rw [cell_row HZr.out]; rfl
  have zZ2 : w1.cell? ⟨Z, 2, none⟩ = some (.slice (some ⟨D, 0, none⟩) 5 5) := by rw [cell_row HZr.out]; rfl
  have zZ3 : w1.cell? ⟨Z, 3, none⟩ = some (.slice none 0 0) := by rw [cell_row HZr.out]; rfl
  go_wp2_with fail
  try rw [Hw1.out]
  try rw [HZ.out]
  try go_wp2_with fail
  clear zZ0 zZ1 zZ2 zZ3
  have hb := below_alloc_ w1 (.cells (flatI [1, 2, 4]).toArray 3)
  have hr := heap_alloc_new_ w1 (.cells (flatI [1, 2, 4]).toArray 3)
  obtain ⟨w2, hw2⟩ : ∃ v, w1.alloc (.cells (flatI [1, 2, 4]).toArray 3) = v := ⟨_, rfl⟩
  obtain ⟨Q, hQ⟩ : ∃ v, w1.heap.size = v := ⟨_, rfl⟩
  rw [hw2] at hb hr
  rw [hQ] at hr
  have Hw2 := Lib.hid hw2
  have HQ9 := Lib.hid hQ
  clear hw2 hQ
  replace X := Lib.hid (X.out.below hb (Nat.le_refl _))
  replace HZr := Lib.hid ((hb.block _ (lt_of_block HZr.out)).trans HZr.out)
  replace B := Lib.hid (B.out.trans (hb.mono B.out.size))
  clear hb
  have HQ := Lib.hid (show Ints w2 (some ⟨Q, 0, none⟩) 3 [1, 2, 4] from ints_row_ [1, 2, 4] hr)
  clear hr
  rw [show w1.alloc (.cells #[.int .i64 1, .int .i64 2, .int .i64 4] 3) = w2 from Hw2.out, show Z + 1 = Q from by rw [← HQ9.out, ← Hw1.out, ← HZ.out]; simp]
  refine (checkJoining20 3 3 (some ⟨D, 0, none⟩) 5 5 zE none 0 0 [] (some ⟨Q, 0, none⟩) 3 3 [1, 2, 4] w2 X.out (ints_nil_ _) HQ.out (Nat.le_refl _) (by omega) (by omega) (by omega)).mono ?_
  rintro en w3 ⟨rfl, hb⟩
  replace X := Lib.hid (X.out.below hb (Nat.le_refl _))
  replace HZr := Lib.hid ((hb.block _ (lt_of_block HZr.out)).trans HZr.out)
  replace B := Lib.hid (B.out.trans (hb.mono B.out.size))
  rw [e_chkJ]
  clear HQ
  clear hb
  have zZ0 : w3.cell? ⟨Z, 0, none⟩ = some (.int .i64 3) := by rw [cell_row HZr.out]; rfl
  have zZ1 : w3.cell? ⟨Z, 1, none⟩ = some (.int .i64 3) := by rw [cell_row HZr.out]; rfl
  have zZ2 : w3.cell? ⟨Z, 2, none⟩ = some (.slice (some ⟨D, 0, none⟩) 5 5) := by rw [cell_row HZr.out]; rfl
  have zZ3 : w3.cell? ⟨Z, 3, none⟩ = some (.slice none 0 0) := by rw [cell_row HZr.out]; rfl
  go_wp2_with fail
  clear zZ0 zZ1 zZ2 zZ3
  refine (greatest22 3 3 (some ⟨D, 0, none⟩) 5 5 zE none 0 0 [] w3 X.out (ints_nil_ _) (Nat.le_refl _) (by omega) (by omega) e_chkS).mono ?_
  rintro en w4 ⟨QG, pt, rfl, hgb, hQ8, hig, hb⟩
  replace X := Lib.hid (X.out.below hb (Nat.le_refl _))
  replace HZr := Lib.hid ((hb.block _ (lt_of_block HZr.out)).trans HZr.out)
  replace B := Lib.hid (B.out.trans (hb.mono B.out.size))
  have hj := e_great hgb
  rw [hj] at hig ⊢
  have HG := Lib.hid (show Ints w4 (some ⟨QG, 0, none⟩) 3 [1, 2, 4] from hig)
  clear hgb hQ8 hig hj
  clear hb
  have zZ0 : w4.cell? ⟨Z, 0, none⟩ = some (.int .i64 3) := by rw [cell_row HZr.out]; rfl
  have zZ1 : w4.cell? ⟨Z, 1, none⟩ = some (.int .i64 3) := by rw [cell_row HZr.out]; rfl
  have zZ2 : w4.cell? ⟨Z, 2, none⟩ = some (.slice (some ⟨D, 0, none⟩) 5 5) := by rw [cell_row HZr.out]; rfl
  have zZ3 : w4.cell? ⟨Z, 3, none⟩ = some (.slice none 0 0) := by rw [cell_row HZr.out]; rfl
  go_wp2_with fail
  clear zZ0 zZ1 zZ2 zZ3
  refine (cover23 3 3 (some ⟨D, 0, none⟩) 5 5 zE none 0 0 [] w4 X.out (ints_nil_ _) (Nat.le_refl _) (by omega) (by omega) e_chkS).mono ?_
  rintro en w5 ⟨pt2, lk, CL, cl, CR, cr, rfl, hgb, hco, hil, hir, hb⟩
  replace X := Lib.hid (X.out.below hb (Nat.le_refl _))
  replace HG := Lib.hid (HG.out.below hb (Nat.le_refl _))
  replace HZr := Lib.hid ((hb.block _ (lt_of_block HZr.out)).trans HZr.out)
  replace B := Lib.hid (B.out.trans (hb.mono B.out.size))
  obtain ⟨hc0, hc1⟩ := cv_ok (n := 5) e_chkS rfl hgb hco
  rw [show sizeF 5 zE (opnL 5 zE []) ([] : List Int).length = 3 from e_size] at hc1
  have hll : (srtL (cvL 5 zE (opnL 5 zE []) pt2 lk)).length ≤ 100000 := by rw [srtL_len]; have := cv_len 5 zE (opnL 5 zE []) pt2 lk; have : (jL 5 zE (opnL 5 zE []) pt2).length ≤ 5 := Nat.le_trans (List.length_filter_le _ _) (by simp); omega
  have hlr : (srtL (cvR 5 zE (opnL 5 zE []) pt2 lk)).length ≤ 100000 := by rw [srtL_len]; have := cv_len 5 zE (opnL 5 zE []) pt2 lk; have : (jL 5 zE (opnL 5 zE []) pt2).length ≤ 5 := Nat.le_trans (List.length_filter_le _ _) (by simp); omega
  rw [srtL_len] at hll hlr
  obtain ⟨sL, hsL⟩ : ∃ v, srtL (cvL 5 zE (opnL 5 zE []) pt2 lk) = v := ⟨_, rfl⟩
  obtain ⟨sR, hsR⟩ : ∃ v, srtL (cvR 5 zE (opnL 5 zE []) pt2 lk) = v := ⟨_, rfl⟩
  obtain ⟨nL, hnL⟩ : ∃ v, (cvL 5 zE (opnL 5 zE []) pt2 lk).length = v := ⟨_, rfl⟩
  obtain ⟨nR, hnR⟩ : ∃ v, (cvR 5 zE (opnL 5 zE []) pt2 lk).length = v := ⟨_, rfl⟩
  rw [hsL, hnL] at hil
  rw [hsR, hnR] at hir
  rw [hsL, hsR] at hc0 hc1
  rw [hnL] at hll
  rw [hnR] at hlr
  rw [hnL, hnR]
  have HCL := Lib.hid hil
  have HCR := Lib.hid hir
  have HC0 := Lib.hid hc0
  have HC1 := Lib.hid hc1
  clear hgb hco hil hir hc0 hc1 hsL hsR hnL hnR
  clear hb
  have zZ0 : w5.cell? ⟨Z, 0, none⟩ = some (.int .i64 3) := by rw [cell_row HZr.out]; rfl
  have zZ1 : w5.cell? ⟨Z, 1, none⟩ = some (.int .i64 3) := by rw [cell_row HZr.out]; rfl
  have zZ2 : w5.cell? ⟨Z, 2, none⟩ = some (.slice (some ⟨D, 0, none⟩) 5 5) := by rw [cell_row HZr.out]; rfl
  have zZ3 : w5.cell? ⟨Z, 3, none⟩ = some (.slice none 0 0) := by rw [cell_row HZr.out]; rfl
  have hzl := lt_of_block HZr.out
  have hb := below_alloc_ w5 (.cells #[.slice CL nL cl, .slice CR nR cr] 27)
  have hr := heap_alloc_new_ w5 (.cells #[.slice CL nL cl, .slice CR nR cr] 27)
  obtain ⟨w6, hw6⟩ : ∃ v, w5.alloc (.cells #[.slice CL nL cl, .slice CR nR cr] 27) = v := ⟨_, rfl⟩
  obtain ⟨Y, hY⟩ : ∃ v, w5.heap.size = v := ⟨_, rfl⟩
  rw [hw6] at hb hr
  rw [hY] at hr
  have Hw6 := Lib.hid hw6
  have HY := Lib.hid hY
  clear hw6 hY
  replace X := Lib.hid (X.out.below hb (Nat.le_refl _))
  replace HG := Lib.hid (HG.out.below hb (Nat.le_refl _))
  replace HCL := Lib.hid (HCL.out.below hb (Nat.le_refl _))
  replace HCR := Lib.hid (HCR.out.below hb (Nat.le_refl _))
  replace HZr := Lib.hid ((hb.block _ (lt_of_block HZr.out)).trans HZr.out)
  replace B := Lib.hid (B.out.trans (hb.mono B.out.size))
  clear hb
  clear hr
  go_wp2_with fail
  try rw [Hw6.out]
  try rw [HY.out]
  try go_wp2_with fail
  clear hzl
  clear zZ0 zZ1 zZ2 zZ3
  refine (checkCover16_ok 3 3 (some ⟨D, 0, none⟩) 5 5 zE none 0 0 [] CL nL cl sL CR nR cr sR w6 X.out (ints_nil_ _) (Nat.le_refl _) HCL.out HCR.out (by omega) (by omega) hll hlr e_chkS).mono ?_
  rintro en w7 ⟨rfl, hb⟩
  replace X := Lib.hid (X.out.below hb (Nat.le_refl _))
  replace HG := Lib.hid (HG.out.below hb (Nat.le_refl _))
  replace HCL := Lib.hid (HCL.out.below hb (Nat.le_refl _))
  replace HCR := Lib.hid (HCR.out.below hb (Nat.le_refl _))
  replace HZr := Lib.hid ((hb.block _ (lt_of_block HZr.out)).trans HZr.out)
  replace B := Lib.hid (B.out.trans (hb.mono B.out.size))
  rw [HC0.out, HC1.out]
  clear HC0 HC1 HCL HCR hll hlr
  clear hb
  have zZ0 : w7.cell? ⟨Z, 0, none⟩ = some (.int .i64 3) := by rw [cell_row HZr.out]; rfl
  have zZ1 : w7.cell? ⟨Z, 1, none⟩ = some (.int .i64 3) := by rw [cell_row HZr.out]; rfl
  have zZ2 : w7.cell? ⟨Z, 2, none⟩ = some (.slice (some ⟨D, 0, none⟩) 5 5) := by rw [cell_row HZr.out]; rfl
  have zZ3 : w7.cell? ⟨Z, 3, none⟩ = some (.slice none 0 0) := by rw [cell_row HZr.out]; rfl
  go_wp2_with fail
  clear zZ0 zZ1 zZ2 zZ3
  refine (kinds25 3 3 (some ⟨D, 0, none⟩) 5 5 zE none 0 0 [] w7 X.out (ints_nil_ _) (Nat.le_refl _) (by omega) (by omega) e_chkS).mono ?_
  rintro en w8 ⟨CK, ck, rfl, hck, hik, -, hb⟩
  replace X := Lib.hid (X.out.below hb (Nat.le_refl _))
  replace HG := Lib.hid (HG.out.below hb (Nat.le_refl _))
  replace HZr := Lib.hid ((hb.block _ (lt_of_block HZr.out)).trans HZr.out)
  replace B := Lib.hid (B.out.trans (hb.mono B.out.size))
  rw [e_kinds] at hik
  have HK1 := Lib.hid hik
  clear hik hck
  clear hb
  go_wp2_with fail
  refine (open39 w8).mono ?_
  rintro en w9 ⟨O1, O1c, rfl, O1h, O1r, hb⟩
  replace X := Lib.hid (X.out.below hb (Nat.le_refl _))
  replace HG := Lib.hid (HG.out.below hb (Nat.le_refl _))
  replace HK1 := Lib.hid (HK1.out.below hb (Nat.le_refl _))
  replace HZr := Lib.hid ((hb.block _ (lt_of_block HZr.out)).trans HZr.out)
  replace B := Lib.hid (B.out.trans (hb.mono B.out.size))
  have O1R := Lib.hid O1r
  clear O1r
  clear hb
  go_wp2_with fail
  refine (kinds25 3 3 O1 4 O1c oE none 0 0 [] w9 O1R.out (ints_nil_ _) O1h (by omega) (by omega) e_chkO).mono ?_
  rintro en w10 ⟨CM, cm, rfl, hck, hik, -, hb⟩
  replace X := Lib.hid (X.out.below hb (Nat.le_refl _))
  replace HG := Lib.hid (HG.out.below hb (Nat.le_refl _))
  replace HK1 := Lib.hid (HK1.out.below hb (Nat.le_refl _))
  replace O1R := Lib.hid (O1R.out.below hb (Nat.le_refl _))
  replace HZr := Lib.hid ((hb.block _ (lt_of_block HZr.out)).trans HZr.out)
  replace B := Lib.hid (B.out.trans (hb.mono B.out.size))
  rw [e_kindo] at hik
  have HK2 := Lib.hid hik
  clear hik hck
  clear hb
  go_wp2_with fail
  refine (open39 w10).mono ?_
  rintro en w11 ⟨O2, O2c, rfl, O2h, O2r, hb⟩
  replace X := Lib.hid (X.out.below hb (Nat.le_refl _))
  replace HG := Lib.hid (HG.out.below hb (Nat.le_refl _))
  replace HK1 := Lib.hid (HK1.out.below hb (Nat.le_refl _))
  replace O1R := Lib.hid (O1R.out.below hb (Nat.le_refl _))
  replace HK2 := Lib.hid (HK2.out.below hb (Nat.le_refl _))
  replace HZr := Lib.hid ((hb.block _ (lt_of_block HZr.out)).trans HZr.out)
  replace B := Lib.hid (B.out.trans (hb.mono B.out.size))
  have O2R := Lib.hid O2r
  clear O2r
  clear hb
  go_wp2_with fail
  refine (items27 3 3 O2 4 O2c oE none 0 0 [] false w11 O2R.out (ints_nil_ _) O2h (by omega) (by omega) e_chkO).mono ?_
  rintro en w12 ⟨CI, ci, ck3, hci, rfl, hck, hik, -, hb⟩
  replace X := Lib.hid (X.out.below hb (Nat.le_refl _))
  replace HG := Lib.hid (HG.out.below hb (Nat.le_refl _))
  replace HK1 := Lib.hid (HK1.out.below hb (Nat.le_refl _))
  replace O1R := Lib.hid (O1R.out.below hb (Nat.le_refl _))
  replace HK2 := Lib.hid (HK2.out.below hb (Nat.le_refl _))
  replace O2R := Lib.hid (O2R.out.below hb (Nat.le_refl _))
  replace HZr := Lib.hid ((hb.block _ (lt_of_block HZr.out)).trans HZr.out)
  replace B := Lib.hid (B.out.trans (hb.mono B.out.size))
  obtain rfl : ci = 3 := by simp at hci; omega
  rw [if_neg (by simp)] at hik
  rw [e_items] at hik
  have HK3 := Lib.hid hik
  clear hik hck hci
  clear hb
  go_wp2_with fail
  refine (open39 w12).mono ?_
  rintro en w13 ⟨O3, O3c, rfl, O3h, O3r, hb⟩
  replace X := Lib.hid (X.out.below hb (Nat.le_refl _))
  replace HG := Lib.hid (HG.out.below hb (Nat.le_refl _))
  replace HK1 := Lib.hid (HK1.out.below hb (Nat.le_refl _))
  replace O1R := Lib.hid (O1R.out.below hb (Nat.le_refl _))
  replace HK2 := Lib.hid (HK2.out.below hb (Nat.le_refl _))
  replace O2R := Lib.hid (O2R.out.below hb (Nat.le_refl _))
  replace HK3 := Lib.hid (HK3.out.below hb (Nat.le_refl _))
  replace HZr := Lib.hid ((hb.block _ (lt_of_block HZr.out)).trans HZr.out)
  replace B := Lib.hid (B.out.trans (hb.mono B.out.size))
  have O3R := Lib.hid O3r
  clear O3r
  clear hb
  go_wp2_with fail
  refine (ask30 3 3 O3 4 O3c oE none 0 0 [] w13 O3R.out (ints_nil_ _) O3h (by omega) (by omega) e_chkO).mono ?_
  rintro en w14 ⟨rfl, hb⟩
  replace X := Lib.hid (X.out.below hb (Nat.le_refl _))
  replace HG := Lib.hid (HG.out.below hb (Nat.le_refl _))
  replace HK1 := Lib.hid (HK1.out.below hb (Nat.le_refl _))
  replace O1R := Lib.hid (O1R.out.below hb (Nat.le_refl _))
  replace HK2 := Lib.hid (HK2.out.below hb (Nat.le_refl _))
  replace O2R := Lib.hid (O2R.out.below hb (Nat.le_refl _))
  replace HK3 := Lib.hid (HK3.out.below hb (Nat.le_refl _))
  replace O3R := Lib.hid (O3R.out.below hb (Nat.le_refl _))
  replace HZr := Lib.hid ((hb.block _ (lt_of_block HZr.out)).trans HZr.out)
  replace B := Lib.hid (B.out.trans (hb.mono B.out.size))
  rw [e_ask]
  simp only [bestA, bestB, askE, e_rest]
  clear hb
  have zZ0 : w14.cell? ⟨Z, 0, none⟩ = some (.int .i64 3) := by rw [cell_row HZr.out]; rfl
  have zZ1 : w14.cell? ⟨Z, 1, none⟩ = some (.int .i64 3) := by rw [cell_row HZr.out]; rfl
  have zZ2 : w14.cell? ⟨Z, 2, none⟩ = some (.slice (some ⟨D, 0, none⟩) 5 5) := by rw [cell_row HZr.out]; rfl
  have zZ3 : w14.cell? ⟨Z, 3, none⟩ = some (.slice none 0 0) := by rw [cell_row HZr.out]; rfl
  go_wp2_with fail
  clear zZ0 zZ1 zZ2 zZ3
  refine (ask30 3 3 (some ⟨D, 0, none⟩) 5 5 zE none 0 0 [] w14 X.out (ints_nil_ _) (Nat.le_refl _) (by omega) (by omega) e_chkS).mono ?_
  rintro en w15 ⟨rfl, hb⟩
  replace X := Lib.hid (X.out.below hb (Nat.le_refl _))
  replace HG := Lib.hid (HG.out.below hb (Nat.le_refl _))
  replace HK1 := Lib.hid (HK1.out.below hb (Nat.le_refl _))
  replace O1R := Lib.hid (O1R.out.below hb (Nat.le_refl _))
  replace HK2 := Lib.hid (HK2.out.below hb (Nat.le_refl _))
  replace O2R := Lib.hid (O2R.out.below hb (Nat.le_refl _))
  replace HK3 := Lib.hid (HK3.out.below hb (Nat.le_refl _))
  replace O3R := Lib.hid (O3R.out.below hb (Nat.le_refl _))
  replace HZr := Lib.hid ((hb.block _ (lt_of_block HZr.out)).trans HZr.out)
  replace B := Lib.hid (B.out.trans (hb.mono B.out.size))
  rw [e_none]
  simp only [bestA, bestB, askE]
  clear hb
  go_wp2_with fail
  have hb := below_alloc_ w15 (.cells (flatI [1, 2, 4]).toArray 3)
  have hr := heap_alloc_new_ w15 (.cells (flatI [1, 2, 4]).toArray 3)
  obtain ⟨w16, hw16⟩ : ∃ v, w15.alloc (.cells (flatI [1, 2, 4]).toArray 3) = v := ⟨_, rfl⟩
  obtain ⟨V0, hV0⟩ : ∃ v, w15.heap.size = v := ⟨_, rfl⟩
  rw [hw16] at hb hr
  rw [hV0] at hr
  have Hw16 := Lib.hid hw16
  have HV0 := Lib.hid hV0
  clear hw16 hV0
  replace X := Lib.hid (X.out.below hb (Nat.le_refl _))
  replace HG := Lib.hid (HG.out.below hb (Nat.le_refl _))
  replace HK1 := Lib.hid (HK1.out.below hb (Nat.le_refl _))
  replace O1R := Lib.hid (O1R.out.below hb (Nat.le_refl _))
  replace HK2 := Lib.hid (HK2.out.below hb (Nat.le_refl _))
  replace O2R := Lib.hid (O2R.out.below hb (Nat.le_refl _))
  replace HK3 := Lib.hid (HK3.out.below hb (Nat.le_refl _))
  replace O3R := Lib.hid (O3R.out.below hb (Nat.le_refl _))
  replace HZr := Lib.hid ((hb.block _ (lt_of_block HZr.out)).trans HZr.out)
  replace B := Lib.hid (B.out.trans (hb.mono B.out.size))
  clear hb
  have HV := Lib.hid (show Ints w16 (some ⟨V0, 0, none⟩) 3 [1, 2, 4] from ints_row_ [1, 2, 4] hr)
  clear hr
  rw [show w15.alloc (.cells #[.int .i64 1, .int .i64 2, .int .i64 4] 3) = w16 from Hw16.out, HV0.out]
  refine (ints29 (some ⟨QG, 0, none⟩) 3 3 [1, 2, 4] (some ⟨V0, 0, none⟩) 3 3 [1, 2, 4] w16 HG.out HV.out (by omega)).mono ?_
  rintro en w17 ⟨rfl, hb⟩
  replace X := Lib.hid (X.out.below hb (Nat.le_refl _))
  replace HG := Lib.hid (HG.out.below hb (Nat.le_refl _))
  replace HK1 := Lib.hid (HK1.out.below hb (Nat.le_refl _))
  replace O1R := Lib.hid (O1R.out.below hb (Nat.le_refl _))
  replace HK2 := Lib.hid (HK2.out.below hb (Nat.le_refl _))
  replace O2R := Lib.hid (O2R.out.below hb (Nat.le_refl _))
  replace HK3 := Lib.hid (HK3.out.below hb (Nat.le_refl _))
  replace O3R := Lib.hid (O3R.out.below hb (Nat.le_refl _))
  replace HZr := Lib.hid ((hb.block _ (lt_of_block HZr.out)).trans HZr.out)
  replace B := Lib.hid (B.out.trans (hb.mono B.out.size))
  rw [decide_eq_true (rfl : ([1, 2, 4] : List Int) = [1, 2, 4])]
  clear HV HG
  clear hb
  go_wp2_with fail
  have hb := below_alloc_ w17 (.cells (flatI [0, 2, 2, 0, 2]).toArray 3)
  have hr := heap_alloc_new_ w17 (.cells (flatI [0, 2, 2, 0, 2]).toArray 3)
  obtain ⟨w18, hw18⟩ : ∃ v, w17.alloc (.cells (flatI [0, 2, 2, 0, 2]).toArray 3) = v := ⟨_, rfl⟩
  obtain ⟨V1, hV1⟩ : ∃ v, w17.heap.size = v := ⟨_, rfl⟩
  rw [hw18] at hb hr
  rw [hV1] at hr
  have Hw18 := Lib.hid hw18
  have HV1 := Lib.hid hV1
  clear hw18 hV1
  replace X := Lib.hid (X.out.below hb (Nat.le_refl _))
  replace HK1 := Lib.hid (HK1.out.below hb (Nat.le_refl _))
  replace O1R := Lib.hid (O1R.out.below hb (Nat.le_refl _))
  replace HK2 := Lib.hid (HK2.out.below hb (Nat.le_refl _))
  replace O2R := Lib.hid (O2R.out.below hb (Nat.le_refl _))
  replace HK3 := Lib.hid (HK3.out.below hb (Nat.le_refl _))
  replace O3R := Lib.hid (O3R.out.below hb (Nat.le_refl _))
  replace HZr := Lib.hid ((hb.block _ (lt_of_block HZr.out)).trans HZr.out)
  replace B := Lib.hid (B.out.trans (hb.mono B.out.size))
  clear hb
  have HV := Lib.hid (show Ints w18 (some ⟨V1, 0, none⟩) 5 [0, 2, 2, 0, 2] from ints_row_ [0, 2, 2, 0, 2] hr)
  clear hr
  rw [show w17.alloc (.cells #[.int .i64 0, .int .i64 2, .int .i64 2, .int .i64 0, .int .i64 2] 3) = w18 from Hw18.out, HV1.out]
  refine (ints29 CK 5 ck [0, 2, 2, 0, 2] (some ⟨V1, 0, none⟩) 5 5 [0, 2, 2, 0, 2] w18 HK1.out HV.out (by omega)).mono ?_
  rintro en w19 ⟨rfl, hb⟩
  replace X := Lib.hid (X.out.below hb (Nat.le_refl _))
  replace HK1 := Lib.hid (HK1.out.below hb (Nat.le_refl _))
  replace O1R := Lib.hid (O1R.out.below hb (Nat.le_refl _))
  replace HK2 := Lib.hid (HK2.out.below hb (Nat.le_refl _))
  replace O2R := Lib.hid (O2R.out.below hb (Nat.le_refl _))
  replace HK3 := Lib.hid (HK3.out.below hb (Nat.le_refl _))
  replace O3R := Lib.hid (O3R.out.below hb (Nat.le_refl _))
  replace HZr := Lib.hid ((hb.block _ (lt_of_block HZr.out)).trans HZr.out)
  replace B := Lib.hid (B.out.trans (hb.mono B.out.size))
  rw [decide_eq_true (rfl : ([0, 2, 2, 0, 2] : List Int) = [0, 2, 2, 0, 2])]
  clear HV HK1
  clear hb
  go_wp2_with fail
  have hb := below_alloc_ w19 (.cells (flatI [1, 1, 1, 1]).toArray 3)
  have hr := heap_alloc_new_ w19 (.cells (flatI [1, 1, 1, 1]).toArray 3)
  obtain ⟨w20, hw20⟩ : ∃ v, w19.alloc (.cells (flatI [1, 1, 1, 1]).toArray 3) = v := ⟨_, rfl⟩
  obtain ⟨V2, hV2⟩ : ∃ v, w19.heap.size = v := ⟨_, rfl⟩
  rw [hw20] at hb hr
  rw [hV2] at hr
  have Hw20 := Lib.hid hw20
  have HV2 := Lib.hid hV2
  clear hw20 hV2
  replace X := Lib.hid (X.out.below hb (Nat.le_refl _))
  replace O1R := Lib.hid (O1R.out.below hb (Nat.le_refl _))
  replace HK2 := Lib.hid (HK2.out.below hb (Nat.le_refl _))
  replace O2R := Lib.hid (O2R.out.below hb (Nat.le_refl _))
  replace HK3 := Lib.hid (HK3.out.below hb (Nat.le_refl _))
  replace O3R := Lib.hid (O3R.out.below hb (Nat.le_refl _))
  replace HZr := Lib.hid ((hb.block _ (lt_of_block HZr.out)).trans HZr.out)
  replace B := Lib.hid (B.out.trans (hb.mono B.out.size))
  clear hb
  have HV := Lib.hid (show Ints w20 (some ⟨V2, 0, none⟩) 4 [1, 1, 1, 1] from ints_row_ [1, 1, 1, 1] hr)
  clear hr
  rw [show w19.alloc (.cells #[.int .i64 1, .int .i64 1, .int .i64 1, .int .i64 1] 3) = w20 from Hw20.out, HV2.out]
  refine (ints29 CM 4 cm [1, 1, 1, 1] (some ⟨V2, 0, none⟩) 4 4 [1, 1, 1, 1] w20 HK2.out HV.out (by omega)).mono ?_
  rintro en w21 ⟨rfl, hb⟩
  replace X := Lib.hid (X.out.below hb (Nat.le_refl _))
  replace O1R := Lib.hid (O1R.out.below hb (Nat.le_refl _))
  replace HK2 := Lib.hid (HK2.out.below hb (Nat.le_refl _))
  replace O2R := Lib.hid (O2R.out.below hb (Nat.le_refl _))
  replace HK3 := Lib.hid (HK3.out.below hb (Nat.le_refl _))
  replace O3R := Lib.hid (O3R.out.below hb (Nat.le_refl _))
  replace HZr := Lib.hid ((hb.block _ (lt_of_block HZr.out)).trans HZr.out)
  replace B := Lib.hid (B.out.trans (hb.mono B.out.size))
  rw [decide_eq_true (rfl : ([1, 1, 1, 1] : List Int) = [1, 1, 1, 1])]
  clear HV HK2
  clear hb
  go_wp2_with fail
  have hb := below_alloc_ w21 (.cells (flatI [2, 0, 2]).toArray 3)
  have hr := heap_alloc_new_ w21 (.cells (flatI [2, 0, 2]).toArray 3)
  obtain ⟨w22, hw22⟩ : ∃ v, w21.alloc (.cells (flatI [2, 0, 2]).toArray 3) = v := ⟨_, rfl⟩
  obtain ⟨V3, hV3⟩ : ∃ v, w21.heap.size = v := ⟨_, rfl⟩
  rw [hw22] at hb hr
  rw [hV3] at hr
  have Hw22 := Lib.hid hw22
  have HV3 := Lib.hid hV3
  clear hw22 hV3
  replace X := Lib.hid (X.out.below hb (Nat.le_refl _))
  replace O1R := Lib.hid (O1R.out.below hb (Nat.le_refl _))
  replace O2R := Lib.hid (O2R.out.below hb (Nat.le_refl _))
  replace HK3 := Lib.hid (HK3.out.below hb (Nat.le_refl _))
  replace O3R := Lib.hid (O3R.out.below hb (Nat.le_refl _))
  replace HZr := Lib.hid ((hb.block _ (lt_of_block HZr.out)).trans HZr.out)
  replace B := Lib.hid (B.out.trans (hb.mono B.out.size))
  clear hb
  have HV := Lib.hid (show Ints w22 (some ⟨V3, 0, none⟩) 3 [2, 0, 2] from ints_row_ [2, 0, 2] hr)
  clear hr
  rw [show w21.alloc (.cells #[.int .i64 2, .int .i64 0, .int .i64 2] 3) = w22 from Hw22.out, HV3.out]
  refine (ints29 CI 3 ck3 [2, 0, 2] (some ⟨V3, 0, none⟩) 3 3 [2, 0, 2] w22 HK3.out HV.out (by omega)).mono ?_
  rintro en w23 ⟨rfl, hb⟩
  replace X := Lib.hid (X.out.below hb (Nat.le_refl _))
  replace O1R := Lib.hid (O1R.out.below hb (Nat.le_refl _))
  replace O2R := Lib.hid (O2R.out.below hb (Nat.le_refl _))
  replace HK3 := Lib.hid (HK3.out.below hb (Nat.le_refl _))
  replace O3R := Lib.hid (O3R.out.below hb (Nat.le_refl _))
  replace HZr := Lib.hid ((hb.block _ (lt_of_block HZr.out)).trans HZr.out)
  replace B := Lib.hid (B.out.trans (hb.mono B.out.size))
  rw [decide_eq_true (rfl : ([2, 0, 2] : List Int) = [2, 0, 2])]
  clear HV HK3
  clear hb
  go_wp2_with fail
  go_ret
  exact ⟨rfl, B.out⟩
end Go.Proofs.Ytnodkgejggnehaa
