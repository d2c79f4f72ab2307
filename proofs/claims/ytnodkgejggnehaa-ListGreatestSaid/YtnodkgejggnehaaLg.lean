/- Stage 5: ListGreatest. -/
import Derived.Test.YtnodkgejggnehaaZe
import Derived.Test.YtnodkgejggnehaaWo
namespace Go.Proofs.Ytnodkgejggnehaa
set_option linter.unusedSimpArgs false
set_option linter.unusedVariables false
open Go.RowKit Go.Shelf
section
attribute [local go_sem ↓] exec_app at_app
attribute [local go_sem] Oper.semAt_some
set_option maxRecDepth 100000 in
set_option maxHeartbeats 40000000 in
theorem greatest4 (sl sr : Int) (A : Option Addr) (n cap : Nat) (zs : List Rg) (A2 : Option Addr) (kn kc : Nat) (ks : List Int) (w : World) (h : Rgs w A n zs) (hI : Ints w A2 kn ks) (hc9 : n ≤ cap) :
    Calls Try.prog 4 #[.agg #[.int .i64 sl, .int .i64 sr, .slice A n cap, .slice A2 kn kc]] w fun e w' => e = .returned (.bool true) ∧ Below w.heap.size w w' := by
  have hzl := h.1
  have Hzl := Lib.hid hzl
  have Hc9 := Lib.hid hc9
  clear hzl hc9
  obtain ⟨R, hR⟩ : ∃ v, w.heap.size = v := ⟨_, rfl⟩
  have hb0 := below_alloc_ w (.cells #[.int .i64 sl, .int .i64 sr, .slice A n cap, .slice A2 kn kc] 25)
  have hr0 := heap_alloc_new_ w (.cells #[.int .i64 sl, .int .i64 sr, .slice A n cap, .slice A2 kn kc] 25)
  have hz0 : (w.alloc (.cells #[.int .i64 sl, .int .i64 sr, .slice A n cap, .slice A2 kn kc] 25)).heap.size = w.heap.size + 1 := by simp
  obtain ⟨w0, hw0⟩ : ∃ v, w.alloc (.cells #[.int .i64 sl, .int .i64 sr, .slice A n cap, .slice A2 kn kc] 25) = v := ⟨_, rfl⟩
  rw [hw0] at hb0 hr0 hz0
  rw [hR] at hr0 hz0
  have hB := hb0
  have X := Lib.hid (h.below hB (Nat.le_refl _))
  have XI := Lib.hid (hI.below hB (Nat.le_refl _))
  have HS := Lib.hid hr0
  have HW0 := Lib.hid hw0
  have B := Lib.hid hB
  have HR := Lib.hid hR
  clear hB hR hb0 hr0 hz0 hw0 h hI
  have zHS0 : w0.cell? ⟨R, 0, none⟩ = some (.int .i64 sl) := by rw [cell_row HS.out]; rfl
  have zHS1 : w0.cell? ⟨R, 1, none⟩ = some (.int .i64 sr) := by rw [cell_row HS.out]; rfl
  have zHS2 : w0.cell? ⟨R, 2, none⟩ = some (.slice A n cap) := by rw [cell_row HS.out]; rfl
  have zHS3 : w0.cell? ⟨R, 3, none⟩ = some (.slice A2 kn kc) := by rw [cell_row HS.out]; rfl
  go_enter Try.func4, Try.ntmps4
  go_wp2_with fail
  try rw [HW0.out]
  try rw [HR.out]
  try simp only [Nat.add_assoc, Nat.reduceAdd]
  try go_wp2_with fail
  clear zHS0 zHS1 zHS2 zHS3
  refine (great14 sl sr A n cap zs A2 kn kc ks w0).mono ?_
  rintro en w1 ⟨rfl, hb⟩
  replace X := Lib.hid (X.out.below hb (Nat.le_refl _))
  replace XI := Lib.hid (XI.out.below hb (Nat.le_refl _))
  replace HS := Lib.hid ((hb.block _ (lt_of_block HS.out)).trans HS.out)
  replace B := Lib.hid (B.out.trans (hb.mono B.out.size))
  cases hg : grt n kn
  rotate_left
  try clear hb
  · clear hg
    have zHS0 : w1.cell? ⟨R, 0, none⟩ = some (.int .i64 sl) := by rw [cell_row HS.out]; rfl
    have zHS1 : w1.cell? ⟨R, 1, none⟩ = some (.int .i64 sr) := by rw [cell_row HS.out]; rfl
    have zHS2 : w1.cell? ⟨R, 2, none⟩ = some (.slice A n cap) := by rw [cell_row HS.out]; rfl
    have zHS3 : w1.cell? ⟨R, 3, none⟩ = some (.slice A2 kn kc) := by rw [cell_row HS.out]; rfl
    go_wp2_with fail
    clear zHS0 zHS1 zHS2 zHS3
    refine (works15 w1).mono ?_
    rintro en w2 ⟨rfl, hb⟩
    replace B := Lib.hid (B.out.trans (hb.mono B.out.size))
    clear hb
    go_wp2_with fail
    go_ret
    exact ⟨rfl, B.out⟩
  have hn50 := (grt_no hg).1
  have hk50 := (grt_no hg).2
  clear hg
  by_cases he : chkS sl sr zs ks = 0
  rotate_left
  · have Hn := Lib.hid hn50
    have Hk := Lib.hid hk50
    obtain ⟨a, ha⟩ : ∃ v, chkS sl sr zs ks = v := ⟨_, rfl⟩
    have Ha := Lib.hid ha
    have Hne := Lib.hid he
    clear hn50 hk50 ha he
    have zHS0 : w1.cell? ⟨R, 0, none⟩ = some (.int .i64 sl) := by rw [cell_row HS.out]; rfl
    have zHS1 : w1.cell? ⟨R, 1, none⟩ = some (.int .i64 sr) := by rw [cell_row HS.out]; rfl
    have zHS2 : w1.cell? ⟨R, 2, none⟩ = some (.slice A n cap) := by rw [cell_row HS.out]; rfl
    have zHS3 : w1.cell? ⟨R, 3, none⟩ = some (.slice A2 kn kc) := by rw [cell_row HS.out]; rfl
    go_wp2_with fail
    clear zHS0 zHS1 zHS2 zHS3
    refine (greatest22_bad sl sr A n cap zs A2 kn kc ks w1 X.out XI.out Hc9.out (by have := Hn.out; omega) (by have := Hk.out; omega) Hne.out).mono ?_
    rintro en w2 ⟨rfl, hb⟩
    replace X := Lib.hid (X.out.below hb (Nat.le_refl _))
    replace XI := Lib.hid (XI.out.below hb (Nat.le_refl _))
    replace HS := Lib.hid ((hb.block _ (lt_of_block HS.out)).trans HS.out)
    replace B := Lib.hid (B.out.trans (hb.mono B.out.size))
    rw [Ha.out]
    try clear hb
    have zHS0 : w2.cell? ⟨R, 0, none⟩ = some (.int .i64 sl) := by rw [cell_row HS.out]; rfl
    have zHS1 : w2.cell? ⟨R, 1, none⟩ = some (.int .i64 sr) := by rw [cell_row HS.out]; rfl
    have zHS2 : w2.cell? ⟨R, 2, none⟩ = some (.slice A n cap) := by rw [cell_row HS.out]; rfl
    have zHS3 : w2.cell? ⟨R, 3, none⟩ = some (.slice A2 kn kc) := by rw [cell_row HS.out]; rfl
    go_wp2_with fail
    clear zHS0 zHS1 zHS2 zHS3
    refine (cover23_bad sl sr A n cap zs A2 kn kc ks w2 X.out XI.out Hc9.out (by have := Hn.out; omega) (by have := Hk.out; omega) Hne.out).mono ?_
    rintro en w3 ⟨rfl, hb⟩
    replace X := Lib.hid (X.out.below hb (Nat.le_refl _))
    replace XI := Lib.hid (XI.out.below hb (Nat.le_refl _))
    replace HS := Lib.hid ((hb.block _ (lt_of_block HS.out)).trans HS.out)
    replace B := Lib.hid (B.out.trans (hb.mono B.out.size))
    rw [Ha.out]
    try clear hb
    have zHS0 : w3.cell? ⟨R, 0, none⟩ = some (.int .i64 sl) := by rw [cell_row HS.out]; rfl
    have zHS1 : w3.cell? ⟨R, 1, none⟩ = some (.int .i64 sr) := by rw [cell_row HS.out]; rfl
    have zHS2 : w3.cell? ⟨R, 2, none⟩ = some (.slice A n cap) := by rw [cell_row HS.out]; rfl
    have zHS3 : w3.cell? ⟨R, 3, none⟩ = some (.slice A2 kn kc) := by rw [cell_row HS.out]; rfl
    have hzl := lt_of_block HS.out
    have hb := below_alloc_ w3 (.cells #[.slice none 0 0, .slice none 0 0] 27)
    have hr := heap_alloc_new_ w3 (.cells #[.slice none 0 0, .slice none 0 0] 27)
    obtain ⟨w4, hw4⟩ : ∃ v, w3.alloc (.cells #[.slice none 0 0, .slice none 0 0] 27) = v := ⟨_, rfl⟩
    obtain ⟨Y, hY⟩ : ∃ v, w3.heap.size = v := ⟨_, rfl⟩
    rw [hw4] at hb hr
    rw [hY] at hr
    have Hw4 := Lib.hid hw4
    have HY := Lib.hid hY
    clear hw4 hY
    replace X := Lib.hid (X.out.below hb (Nat.le_refl _))
    replace XI := Lib.hid (XI.out.below hb (Nat.le_refl _))
    replace HS := Lib.hid ((hb.block _ (lt_of_block HS.out)).trans HS.out)
    replace B := Lib.hid (B.out.trans (hb.mono B.out.size))
    clear hb
    have HY2 := Lib.hid hr
    clear hr
    go_wp2_with fail
    try rw [Hw4.out]
    try rw [HY.out]
    try go_wp2_with fail
    clear hzl
    clear zHS0 zHS1 zHS2 zHS3
    refine (checkSheet19 sl sr A n cap zs A2 kn kc ks w4 X.out XI.out (by have := Hn.out; omega) (by have := Hk.out; omega)).mono ?_
    rintro en w5 ⟨rfl, hb⟩
    replace X := Lib.hid (X.out.below hb (Nat.le_refl _))
    replace XI := Lib.hid (XI.out.below hb (Nat.le_refl _))
    replace HS := Lib.hid ((hb.block _ (lt_of_block HS.out)).trans HS.out)
    replace HY2 := Lib.hid ((hb.block _ (lt_of_block HY2.out)).trans HY2.out)
    replace B := Lib.hid (B.out.trans (hb.mono B.out.size))
    rw [Ha.out]
    have d9 : (a != 0) = true := by rw [bne_iff_ne]; exact fun e => Hne.out (Ha.out.trans e)
    have d8 : (a == a) = true := by simp
    try clear hb
    have zHS0 : w5.cell? ⟨R, 0, none⟩ = some (.int .i64 sl) := by rw [cell_row HS.out]; rfl
    have zHS1 : w5.cell? ⟨R, 1, none⟩ = some (.int .i64 sr) := by rw [cell_row HS.out]; rfl
    have zHS2 : w5.cell? ⟨R, 2, none⟩ = some (.slice A n cap) := by rw [cell_row HS.out]; rfl
    have zHS3 : w5.cell? ⟨R, 3, none⟩ = some (.slice A2 kn kc) := by rw [cell_row HS.out]; rfl
    have zHY20 : w5.cell? ⟨Y, 0, none⟩ = some (.slice none 0 0) := by rw [cell_row HY2.out]; rfl
    have zHY21 : w5.cell? ⟨Y, 1, none⟩ = some (.slice none 0 0) := by rw [cell_row HY2.out]; rfl
    go_wp2_with fail
    clear zHS0 zHS1 zHS2 zHS3 zHY20 zHY21
    refine (checkSheet19 sl sr A n cap zs A2 kn kc ks w5 X.out XI.out (by have := Hn.out; omega) (by have := Hk.out; omega)).mono ?_
    rintro en w6 ⟨rfl, hb⟩
    replace X := Lib.hid (X.out.below hb (Nat.le_refl _))
    replace XI := Lib.hid (XI.out.below hb (Nat.le_refl _))
    replace HS := Lib.hid ((hb.block _ (lt_of_block HS.out)).trans HS.out)
    replace HY2 := Lib.hid ((hb.block _ (lt_of_block HY2.out)).trans HY2.out)
    replace B := Lib.hid (B.out.trans (hb.mono B.out.size))
    rw [Ha.out]
    try clear hb
    have zHS0 : w6.cell? ⟨R, 0, none⟩ = some (.int .i64 sl) := by rw [cell_row HS.out]; rfl
    have zHS1 : w6.cell? ⟨R, 1, none⟩ = some (.int .i64 sr) := by rw [cell_row HS.out]; rfl
    have zHS2 : w6.cell? ⟨R, 2, none⟩ = some (.slice A n cap) := by rw [cell_row HS.out]; rfl
    have zHS3 : w6.cell? ⟨R, 3, none⟩ = some (.slice A2 kn kc) := by rw [cell_row HS.out]; rfl
    have zHY20 : w6.cell? ⟨Y, 0, none⟩ = some (.slice none 0 0) := by rw [cell_row HY2.out]; rfl
    have zHY21 : w6.cell? ⟨Y, 1, none⟩ = some (.slice none 0 0) := by rw [cell_row HY2.out]; rfl
    go_wp2_with fail
    clear zHS0 zHS1 zHS2 zHS3 zHY20 zHY21
    refine (works15 w6).mono ?_
    rintro en w7 ⟨rfl, hb⟩
    replace B := Lib.hid (B.out.trans (hb.mono B.out.size))
    clear hb
    go_wp2_with fail
    go_ret
    exact ⟨rfl, B.out⟩
  obtain ⟨sN, hsN⟩ : ∃ v, siz n zs ks = v := ⟨_, rfl⟩
  have HsN := Lib.hid hsN
  have hs12 : sN ≤ 10000 := by
    rw [← hsN]
    obtain ⟨p, hp⟩ := gre_ex (shn_of he Hzl.out)
    rw [← hp.2]
    unfold cntP
    have := List.length_filter_le p (List.range n)
    rw [List.length_range] at this
    omega
  have Hs12 := Lib.hid hs12
  have He := Lib.hid he
  have Hn := Lib.hid hn50
  have Hk := Lib.hid hk50
  have HSh := Lib.hid (shn_of he Hzl.out)
  clear hs12 hsN he hn50 hk50
  have zHS0 : w1.cell? ⟨R, 0, none⟩ = some (.int .i64 sl) := by rw [cell_row HS.out]; rfl
  have zHS1 : w1.cell? ⟨R, 1, none⟩ = some (.int .i64 sr) := by rw [cell_row HS.out]; rfl
  have zHS2 : w1.cell? ⟨R, 2, none⟩ = some (.slice A n cap) := by rw [cell_row HS.out]; rfl
  have zHS3 : w1.cell? ⟨R, 3, none⟩ = some (.slice A2 kn kc) := by rw [cell_row HS.out]; rfl
  go_wp2_with fail
  clear zHS0 zHS1 zHS2 zHS3
  refine (greatest22 sl sr A n cap zs A2 kn kc ks w1 X.out XI.out Hc9.out (by have := Hn.out; omega) (by have := Hk.out; omega) He.out).mono ?_
  rintro en w2 ⟨QG, pt, rfl, hgb, hQ8, hig, hb⟩
  replace X := Lib.hid (X.out.below hb (Nat.le_refl _))
  replace XI := Lib.hid (XI.out.below hb (Nat.le_refl _))
  replace HS := Lib.hid ((hb.block _ (lt_of_block HS.out)).trans HS.out)
  replace B := Lib.hid (B.out.trans (hb.mono B.out.size))
  have hlen := gb_len He.out Hzl.out hgb
  have hch := gb_chk He.out Hzl.out hgb
  change _ = siz n zs ks at hlen
  rw [HsN.out] at hlen
  obtain ⟨gl, hgl⟩ : ∃ v, jI n zs pt = v := ⟨_, rfl⟩
  rw [hgl] at hlen hch hig ⊢
  rw [hlen] at hig ⊢
  have HG := Lib.hid hig
  have Hch := Lib.hid hch
  clear hgb hQ8 hig hch hlen hgl
  try clear hb
  have zHS0 : w2.cell? ⟨R, 0, none⟩ = some (.int .i64 sl) := by rw [cell_row HS.out]; rfl
  have zHS1 : w2.cell? ⟨R, 1, none⟩ = some (.int .i64 sr) := by rw [cell_row HS.out]; rfl
  have zHS2 : w2.cell? ⟨R, 2, none⟩ = some (.slice A n cap) := by rw [cell_row HS.out]; rfl
  have zHS3 : w2.cell? ⟨R, 3, none⟩ = some (.slice A2 kn kc) := by rw [cell_row HS.out]; rfl
  go_wp2_with fail
  clear zHS0 zHS1 zHS2 zHS3
  refine (cover23 sl sr A n cap zs A2 kn kc ks w2 X.out XI.out Hc9.out (by have := Hn.out; omega) (by have := Hk.out; omega) He.out).mono ?_
  rintro en w3 ⟨pt2, lk, DL, dl, DR, dr, rfl, hgb, hco, hil, hir, hb⟩
  replace X := Lib.hid (X.out.below hb (Nat.le_refl _))
  replace XI := Lib.hid (XI.out.below hb (Nat.le_refl _))
  replace HG := Lib.hid (HG.out.below hb (Nat.le_refl _))
  replace HS := Lib.hid ((hb.block _ (lt_of_block HS.out)).trans HS.out)
  replace B := Lib.hid (B.out.trans (hb.mono B.out.size))
  obtain ⟨hc0, hc1⟩ := cv_ok He.out Hzl.out hgb hco
  change _ = ((siz n zs ks : Nat) : Int) at hc1
  rw [HsN.out] at hc1
  have hll : (srtL (cvL n zs (opnL n zs ks) pt2 lk)).length ≤ 100000 := by rw [srtL_len]; have := cv_len n zs (opnL n zs ks) pt2 lk; have : (jL n zs (opnL n zs ks) pt2).length ≤ n := Nat.le_trans (List.length_filter_le _ _) (by simp); have := Hn.out; omega
  have hlr : (srtL (cvR n zs (opnL n zs ks) pt2 lk)).length ≤ 100000 := by rw [srtL_len]; have := cv_len n zs (opnL n zs ks) pt2 lk; have : (jL n zs (opnL n zs ks) pt2).length ≤ n := Nat.le_trans (List.length_filter_le _ _) (by simp); have := Hn.out; omega
  rw [srtL_len] at hll hlr
  obtain ⟨tL, htL⟩ : ∃ v, srtL (cvL n zs (opnL n zs ks) pt2 lk) = v := ⟨_, rfl⟩
  obtain ⟨tR, htR⟩ : ∃ v, srtL (cvR n zs (opnL n zs ks) pt2 lk) = v := ⟨_, rfl⟩
  obtain ⟨nL, hnL⟩ : ∃ v, (cvL n zs (opnL n zs ks) pt2 lk).length = v := ⟨_, rfl⟩
  obtain ⟨nR, hnR⟩ : ∃ v, (cvR n zs (opnL n zs ks) pt2 lk).length = v := ⟨_, rfl⟩
  rw [htL, hnL] at hil
  rw [htR, hnR] at hir
  rw [htL, htR] at hc0 hc1
  rw [hnL] at hll
  rw [hnR] at hlr
  rw [hnL, hnR]
  have HCL := Lib.hid hil
  have HCR := Lib.hid hir
  have HC0 := Lib.hid hc0
  have HC1 := Lib.hid hc1
  have Hll := Lib.hid hll
  have Hlr := Lib.hid hlr
  clear hgb hco hil hir hc0 hc1 htL htR hnL hnR hll hlr
  try clear hb
  have zHS0 : w3.cell? ⟨R, 0, none⟩ = some (.int .i64 sl) := by rw [cell_row HS.out]; rfl
  have zHS1 : w3.cell? ⟨R, 1, none⟩ = some (.int .i64 sr) := by rw [cell_row HS.out]; rfl
  have zHS2 : w3.cell? ⟨R, 2, none⟩ = some (.slice A n cap) := by rw [cell_row HS.out]; rfl
  have zHS3 : w3.cell? ⟨R, 3, none⟩ = some (.slice A2 kn kc) := by rw [cell_row HS.out]; rfl
  have hzl := lt_of_block HS.out
  have hb := below_alloc_ w3 (.cells #[.slice DL nL dl, .slice DR nR dr] 27)
  have hr := heap_alloc_new_ w3 (.cells #[.slice DL nL dl, .slice DR nR dr] 27)
  obtain ⟨w4, hw4⟩ : ∃ v, w3.alloc (.cells #[.slice DL nL dl, .slice DR nR dr] 27) = v := ⟨_, rfl⟩
  obtain ⟨Y, hY⟩ : ∃ v, w3.heap.size = v := ⟨_, rfl⟩
  rw [hw4] at hb hr
  rw [hY] at hr
  have Hw4 := Lib.hid hw4
  have HY := Lib.hid hY
  clear hw4 hY
  replace X := Lib.hid (X.out.below hb (Nat.le_refl _))
  replace XI := Lib.hid (XI.out.below hb (Nat.le_refl _))
  replace HG := Lib.hid (HG.out.below hb (Nat.le_refl _))
  replace HCL := Lib.hid (HCL.out.below hb (Nat.le_refl _))
  replace HCR := Lib.hid (HCR.out.below hb (Nat.le_refl _))
  replace HS := Lib.hid ((hb.block _ (lt_of_block HS.out)).trans HS.out)
  replace B := Lib.hid (B.out.trans (hb.mono B.out.size))
  clear hb
  have HY2 := Lib.hid hr
  clear hr
  go_wp2_with fail
  try rw [Hw4.out]
  try rw [HY.out]
  try go_wp2_with fail
  clear hzl
  clear zHS0 zHS1 zHS2 zHS3
  refine (checkSheet19 sl sr A n cap zs A2 kn kc ks w4 X.out XI.out (by have := Hn.out; omega) (by have := Hk.out; omega)).mono ?_
  rintro en w5 ⟨rfl, hb⟩
  replace X := Lib.hid (X.out.below hb (Nat.le_refl _))
  replace XI := Lib.hid (XI.out.below hb (Nat.le_refl _))
  replace HG := Lib.hid (HG.out.below hb (Nat.le_refl _))
  replace HCL := Lib.hid (HCL.out.below hb (Nat.le_refl _))
  replace HCR := Lib.hid (HCR.out.below hb (Nat.le_refl _))
  replace HS := Lib.hid ((hb.block _ (lt_of_block HS.out)).trans HS.out)
  replace HY2 := Lib.hid ((hb.block _ (lt_of_block HY2.out)).trans HY2.out)
  replace B := Lib.hid (B.out.trans (hb.mono B.out.size))
  rw [He.out]
  try clear hb
  have zHS0 : w5.cell? ⟨R, 0, none⟩ = some (.int .i64 sl) := by rw [cell_row HS.out]; rfl
  have zHS1 : w5.cell? ⟨R, 1, none⟩ = some (.int .i64 sr) := by rw [cell_row HS.out]; rfl
  have zHS2 : w5.cell? ⟨R, 2, none⟩ = some (.slice A n cap) := by rw [cell_row HS.out]; rfl
  have zHS3 : w5.cell? ⟨R, 3, none⟩ = some (.slice A2 kn kc) := by rw [cell_row HS.out]; rfl
  have zHY20 : w5.cell? ⟨Y, 0, none⟩ = some (.slice DL nL dl) := by rw [cell_row HY2.out]; rfl
  have zHY21 : w5.cell? ⟨Y, 1, none⟩ = some (.slice DR nR dr) := by rw [cell_row HY2.out]; rfl
  go_wp2_with fail
  clear zHS0 zHS1 zHS2 zHS3 zHY20 zHY21
  refine (checkCover17 sl sr A n cap zs A2 kn kc ks DL nL dl tL DR nR dr tR w5 X.out XI.out HCL.out HCR.out (by have := Hn.out; omega) (by have := Hk.out; omega) Hll.out Hlr.out).mono ?_
  rintro en w6 ⟨rfl, hb⟩
  replace X := Lib.hid (X.out.below hb (Nat.le_refl _))
  replace XI := Lib.hid (XI.out.below hb (Nat.le_refl _))
  replace HG := Lib.hid (HG.out.below hb (Nat.le_refl _))
  replace HCL := Lib.hid (HCL.out.below hb (Nat.le_refl _))
  replace HCR := Lib.hid (HCR.out.below hb (Nat.le_refl _))
  replace HS := Lib.hid ((hb.block _ (lt_of_block HS.out)).trans HS.out)
  replace HY2 := Lib.hid ((hb.block _ (lt_of_block HY2.out)).trans HY2.out)
  replace B := Lib.hid (B.out.trans (hb.mono B.out.size))
  rw [HC0.out, HC1.out]
  clear HC0 HC1 HCL HCR Hll Hlr HY2
  try clear hb
  have zHS0 : w6.cell? ⟨R, 0, none⟩ = some (.int .i64 sl) := by rw [cell_row HS.out]; rfl
  have zHS1 : w6.cell? ⟨R, 1, none⟩ = some (.int .i64 sr) := by rw [cell_row HS.out]; rfl
  have zHS2 : w6.cell? ⟨R, 2, none⟩ = some (.slice A n cap) := by rw [cell_row HS.out]; rfl
  have zHS3 : w6.cell? ⟨R, 3, none⟩ = some (.slice A2 kn kc) := by rw [cell_row HS.out]; rfl
  go_wp2_with fail
  clear zHS0 zHS1 zHS2 zHS3
  refine (checkJoining21 sl sr A n cap zs A2 kn kc ks (some ⟨QG, 0, none⟩) sN sN gl w6 X.out XI.out HG.out (by have := Hn.out; omega) (by have := Hk.out; omega) (by have := Hs12.out; omega)).mono ?_
  rintro en w7 ⟨rfl, hb⟩
  replace X := Lib.hid (X.out.below hb (Nat.le_refl _))
  replace XI := Lib.hid (XI.out.below hb (Nat.le_refl _))
  replace HG := Lib.hid (HG.out.below hb (Nat.le_refl _))
  replace HS := Lib.hid ((hb.block _ (lt_of_block HS.out)).trans HS.out)
  replace B := Lib.hid (B.out.trans (hb.mono B.out.size))
  rw [Hch.out]
  clear Hch HG
  try clear hb
  have zHS0 : w7.cell? ⟨R, 0, none⟩ = some (.int .i64 sl) := by rw [cell_row HS.out]; rfl
  have zHS1 : w7.cell? ⟨R, 1, none⟩ = some (.int .i64 sr) := by rw [cell_row HS.out]; rfl
  have zHS2 : w7.cell? ⟨R, 2, none⟩ = some (.slice A n cap) := by rw [cell_row HS.out]; rfl
  have zHS3 : w7.cell? ⟨R, 3, none⟩ = some (.slice A2 kn kc) := by rw [cell_row HS.out]; rfl
  go_wp2_with fail
  clear zHS0 zHS1 zHS2 zHS3
  refine (size24 sl sr A n cap zs A2 kn kc ks w7 X.out XI.out (by have := Hk.out; omega) He.out).mono ?_
  rintro en w8 ⟨rfl, hb⟩
  replace X := Lib.hid (X.out.below hb (Nat.le_refl _))
  replace XI := Lib.hid (XI.out.below hb (Nat.le_refl _))
  replace HS := Lib.hid ((hb.block _ (lt_of_block HS.out)).trans HS.out)
  replace B := Lib.hid (B.out.trans (hb.mono B.out.size))
  rw [HsN.out]
  have dss : ((sN : Int) == (sN : Int)) = true := by simp
  try clear hb
  have zHS0 : w8.cell? ⟨R, 0, none⟩ = some (.int .i64 sl) := by rw [cell_row HS.out]; rfl
  have zHS1 : w8.cell? ⟨R, 1, none⟩ = some (.int .i64 sr) := by rw [cell_row HS.out]; rfl
  have zHS2 : w8.cell? ⟨R, 2, none⟩ = some (.slice A n cap) := by rw [cell_row HS.out]; rfl
  have zHS3 : w8.cell? ⟨R, 3, none⟩ = some (.slice A2 kn kc) := by rw [cell_row HS.out]; rfl
  go_wp2_with fail
  clear zHS0 zHS1 zHS2 zHS3
  refine (works15 w8).mono ?_
  rintro en w9 ⟨rfl, hb⟩
  replace B := Lib.hid (B.out.trans (hb.mono B.out.size))
  clear hb
  go_wp2_with fail
  go_ret
  exact ⟨rfl, B.out⟩
end
end Go.Proofs.Ytnodkgejggnehaa
