/- Stage 5: ListProved. -/
import Derived.Test.YtnodkgejggnehaaSm
namespace Go.Proofs.Ytnodkgejggnehaa
set_option linter.unusedSimpArgs false
set_option linter.unusedVariables false
open Go.RowKit Go.Shelf
set_option maxRecDepth 100000 in
set_option maxHeartbeats 40000000 in
theorem proved7 (sl sr : Int) (A : Option Addr) (n cap : Nat) (zs : List Rg) (A2 : Option Addr) (kn kc : Nat) (ks : List Int) (U : Option Addr) (nu cu : Nat) (us : List Int) (J : Option Addr) (m mc : Nat) (js : List Int) (CL : Option Addr) (ln lc : Nat) (cl : List Int) (CR : Option Addr) (rn rc : Nat) (cr : List Int) (w : World) (h : Rgs w A n zs) (hI : Ints w A2 kn ks) (hU : IntsU w U nu us) (hJ : Ints w J m js) (hL : Ints w CL ln cl) (hQ : Ints w CR rn cr) (hc9 : n ≤ cap) :
    Calls Try.prog 7 #[.agg #[.int .i64 sl, .int .i64 sr, .slice A n cap, .slice A2 kn kc], .slice U nu cu, .slice J m mc, .agg #[.slice CL ln lc, .slice CR rn rc]] w fun e w' => e = .returned (.bool true) ∧ Below w.heap.size w w' := by
  have hzl := h.1
  have hjl := hJ.1
  have Hzl := Lib.hid hzl
  have Hjl := Lib.hid hjl
  have Hc9 := Lib.hid hc9
  clear hzl hjl hc9
  obtain ⟨R, hR⟩ : ∃ v, w.heap.size = v := ⟨_, rfl⟩
  have hb0 := below_alloc_ w (.cells #[.int .i64 sl, .int .i64 sr, .slice A n cap, .slice A2 kn kc] 25)
  have hr0 := heap_alloc_new_ w (.cells #[.int .i64 sl, .int .i64 sr, .slice A n cap, .slice A2 kn kc] 25)
  have hz0 : (w.alloc (.cells #[.int .i64 sl, .int .i64 sr, .slice A n cap, .slice A2 kn kc] 25)).heap.size = w.heap.size + 1 := by simp
  obtain ⟨wb0, hwb0⟩ : ∃ v, w.alloc (.cells #[.int .i64 sl, .int .i64 sr, .slice A n cap, .slice A2 kn kc] 25) = v := ⟨_, rfl⟩
  rw [hwb0] at hb0 hr0 hz0
  rw [hR] at hr0 hz0
  have hB := hb0
  have hb1 := below_alloc_ wb0 (.cells #[.slice CL ln lc, .slice CR rn rc] 27)
  have hr1 := heap_alloc_new_ wb0 (.cells #[.slice CL ln lc, .slice CR rn rc] 27)
  have hz1 : (wb0.alloc (.cells #[.slice CL ln lc, .slice CR rn rc] 27)).heap.size = wb0.heap.size + 1 := by simp
  obtain ⟨w0, hw0⟩ : ∃ v, wb0.alloc (.cells #[.slice CL ln lc, .slice CR rn rc] 27) = v := ⟨_, rfl⟩
  rw [hw0] at hb1 hr1 hz1
  rw [hz0] at hr1 hz1
  replace hr0 := (hb1.block _ (lt_of_block hr0)).trans hr0
  replace hB := hB.trans (hb1.mono hB.size)
  have X := Lib.hid (h.below hB (Nat.le_refl _))
  have XI := Lib.hid (hI.below hB (Nat.le_refl _))
  have XU := Lib.hid (hU.below hB (Nat.le_refl _))
  have XJ := Lib.hid (hJ.below hB (Nat.le_refl _))
  have XL := Lib.hid (hL.below hB (Nat.le_refl _))
  have XR := Lib.hid (hQ.below hB (Nat.le_refl _))
  have HS := Lib.hid hr0
  have HC := Lib.hid hr1
  have HW0 := Lib.hid hwb0
  have HW1 := Lib.hid hw0
  have B := Lib.hid hB
  have HR := Lib.hid hR
  clear hB hR hb0 hr0 hz0 hwb0 hb1 hr1 hz1 hw0 h hI hU hJ hL hQ
  have zHS0 : w0.cell? ⟨R, 0, none⟩ = some (.int .i64 sl) := by rw [cell_row HS.out]; rfl
  have zHS1 : w0.cell? ⟨R, 1, none⟩ = some (.int .i64 sr) := by rw [cell_row HS.out]; rfl
  have zHS2 : w0.cell? ⟨R, 2, none⟩ = some (.slice A n cap) := by rw [cell_row HS.out]; rfl
  have zHS3 : w0.cell? ⟨R, 3, none⟩ = some (.slice A2 kn kc) := by rw [cell_row HS.out]; rfl
  have zHC0 : w0.cell? ⟨R + 1, 0, none⟩ = some (.slice CL ln lc) := by rw [cell_row HC.out]; rfl
  have zHC1 : w0.cell? ⟨R + 1, 1, none⟩ = some (.slice CR rn rc) := by rw [cell_row HC.out]; rfl
  go_enter Try.func7, Try.ntmps7
  go_wp2_with fail
  try rw [HW0.out]
  try rw [HW1.out]
  try rw [HR.out]
  try simp only [Nat.add_assoc, Nat.reduceAdd]
  try go_wp2_with fail
  clear zHS0 zHS1 zHS2 zHS3 zHC0 zHC1
  refine (fine32 sl sr A n cap zs A2 kn kc ks w0 X.out XI.out Hc9.out).mono ?_
  rintro en w1 ⟨rfl, hb⟩
  replace X := Lib.hid (X.out.below hb (Nat.le_refl _))
  replace XI := Lib.hid (XI.out.below hb (Nat.le_refl _))
  replace XU := Lib.hid (XU.out.below hb (Nat.le_refl _))
  replace XJ := Lib.hid (XJ.out.below hb (Nat.le_refl _))
  replace XL := Lib.hid (XL.out.below hb (Nat.le_refl _))
  replace XR := Lib.hid (XR.out.below hb (Nat.le_refl _))
  replace HS := Lib.hid ((hb.block _ (lt_of_block HS.out)).trans HS.out)
  replace HC := Lib.hid ((hb.block _ (lt_of_block HC.out)).trans HC.out)
  replace B := Lib.hid (B.out.trans (hb.mono B.out.size))
  cases hf : finB sl sr n kn zs ks
  try clear hb
  · clear hf
    have zHS0 : w1.cell? ⟨R, 0, none⟩ = some (.int .i64 sl) := by rw [cell_row HS.out]; rfl
    have zHS1 : w1.cell? ⟨R, 1, none⟩ = some (.int .i64 sr) := by rw [cell_row HS.out]; rfl
    have zHS2 : w1.cell? ⟨R, 2, none⟩ = some (.slice A n cap) := by rw [cell_row HS.out]; rfl
    have zHS3 : w1.cell? ⟨R, 3, none⟩ = some (.slice A2 kn kc) := by rw [cell_row HS.out]; rfl
    have zHC0 : w1.cell? ⟨R + 1, 0, none⟩ = some (.slice CL ln lc) := by rw [cell_row HC.out]; rfl
    have zHC1 : w1.cell? ⟨R + 1, 1, none⟩ = some (.slice CR rn rc) := by rw [cell_row HC.out]; rfl
    go_wp2_with fail
    clear zHS0 zHS1 zHS2 zHS3 zHC0 zHC1
    refine (works15 w1).mono ?_
    rintro en w2 ⟨rfl, hb⟩
    replace B := Lib.hid (B.out.trans (hb.mono B.out.size))
    clear hb
    go_wp2_with fail
    go_ret
    exact ⟨rfl, B.out⟩
  obtain ⟨hn50, hk50, he⟩ := fin_yes hf
  clear hf
  by_cases h0 : 60 < nu
  · have d0 : (60 : Int) < (nu : Int) := by omega
    have zHS0 : w1.cell? ⟨R, 0, none⟩ = some (.int .i64 sl) := by rw [cell_row HS.out]; rfl
    have zHS1 : w1.cell? ⟨R, 1, none⟩ = some (.int .i64 sr) := by rw [cell_row HS.out]; rfl
    have zHS2 : w1.cell? ⟨R, 2, none⟩ = some (.slice A n cap) := by rw [cell_row HS.out]; rfl
    have zHS3 : w1.cell? ⟨R, 3, none⟩ = some (.slice A2 kn kc) := by rw [cell_row HS.out]; rfl
    have zHC0 : w1.cell? ⟨R + 1, 0, none⟩ = some (.slice CL ln lc) := by rw [cell_row HC.out]; rfl
    have zHC1 : w1.cell? ⟨R + 1, 1, none⟩ = some (.slice CR rn rc) := by rw [cell_row HC.out]; rfl
    go_wp2_with fail
    clear zHS0 zHS1 zHS2 zHS3 zHC0 zHC1
    refine (works15 w1).mono ?_
    rintro en w2 ⟨rfl, hb⟩
    replace B := Lib.hid (B.out.trans (hb.mono B.out.size))
    clear hb
    go_wp2_with fail
    go_ret
    exact ⟨rfl, B.out⟩
  have d0 : ¬ (60 : Int) < (nu : Int) := by omega
  by_cases h1 : 60 < m
  · have d1 : (60 : Int) < (m : Int) := by omega
    have zHS0 : w1.cell? ⟨R, 0, none⟩ = some (.int .i64 sl) := by rw [cell_row HS.out]; rfl
    have zHS1 : w1.cell? ⟨R, 1, none⟩ = some (.int .i64 sr) := by rw [cell_row HS.out]; rfl
    have zHS2 : w1.cell? ⟨R, 2, none⟩ = some (.slice A n cap) := by rw [cell_row HS.out]; rfl
    have zHS3 : w1.cell? ⟨R, 3, none⟩ = some (.slice A2 kn kc) := by rw [cell_row HS.out]; rfl
    have zHC0 : w1.cell? ⟨R + 1, 0, none⟩ = some (.slice CL ln lc) := by rw [cell_row HC.out]; rfl
    have zHC1 : w1.cell? ⟨R + 1, 1, none⟩ = some (.slice CR rn rc) := by rw [cell_row HC.out]; rfl
    go_wp2_with fail
    clear zHS0 zHS1 zHS2 zHS3 zHC0 zHC1
    refine (works15 w1).mono ?_
    rintro en w2 ⟨rfl, hb⟩
    replace B := Lib.hid (B.out.trans (hb.mono B.out.size))
    clear hb
    go_wp2_with fail
    go_ret
    exact ⟨rfl, B.out⟩
  have d1 : ¬ (60 : Int) < (m : Int) := by omega
  by_cases h2 : 30 < ln
  · have d2 : (30 : Int) < (ln : Int) := by omega
    have zHS0 : w1.cell? ⟨R, 0, none⟩ = some (.int .i64 sl) := by rw [cell_row HS.out]; rfl
    have zHS1 : w1.cell? ⟨R, 1, none⟩ = some (.int .i64 sr) := by rw [cell_row HS.out]; rfl
    have zHS2 : w1.cell? ⟨R, 2, none⟩ = some (.slice A n cap) := by rw [cell_row HS.out]; rfl
    have zHS3 : w1.cell? ⟨R, 3, none⟩ = some (.slice A2 kn kc) := by rw [cell_row HS.out]; rfl
    have zHC0 : w1.cell? ⟨R + 1, 0, none⟩ = some (.slice CL ln lc) := by rw [cell_row HC.out]; rfl
    have zHC1 : w1.cell? ⟨R + 1, 1, none⟩ = some (.slice CR rn rc) := by rw [cell_row HC.out]; rfl
    go_wp2_with fail
    clear zHS0 zHS1 zHS2 zHS3 zHC0 zHC1
    refine (works15 w1).mono ?_
    rintro en w2 ⟨rfl, hb⟩
    replace B := Lib.hid (B.out.trans (hb.mono B.out.size))
    clear hb
    go_wp2_with fail
    go_ret
    exact ⟨rfl, B.out⟩
  have d2 : ¬ (30 : Int) < (ln : Int) := by omega
  by_cases h3 : 30 < rn
  · have d3 : (30 : Int) < (rn : Int) := by omega
    have zHS0 : w1.cell? ⟨R, 0, none⟩ = some (.int .i64 sl) := by rw [cell_row HS.out]; rfl
    have zHS1 : w1.cell? ⟨R, 1, none⟩ = some (.int .i64 sr) := by rw [cell_row HS.out]; rfl
    have zHS2 : w1.cell? ⟨R, 2, none⟩ = some (.slice A n cap) := by rw [cell_row HS.out]; rfl
    have zHS3 : w1.cell? ⟨R, 3, none⟩ = some (.slice A2 kn kc) := by rw [cell_row HS.out]; rfl
    have zHC0 : w1.cell? ⟨R + 1, 0, none⟩ = some (.slice CL ln lc) := by rw [cell_row HC.out]; rfl
    have zHC1 : w1.cell? ⟨R + 1, 1, none⟩ = some (.slice CR rn rc) := by rw [cell_row HC.out]; rfl
    go_wp2_with fail
    clear zHS0 zHS1 zHS2 zHS3 zHC0 zHC1
    refine (works15 w1).mono ?_
    rintro en w2 ⟨rfl, hb⟩
    replace B := Lib.hid (B.out.trans (hb.mono B.out.size))
    clear hb
    go_wp2_with fail
    go_ret
    exact ⟨rfl, B.out⟩
  have d3 : ¬ (30 : Int) < (rn : Int) := by omega
  have zHS0 : w1.cell? ⟨R, 0, none⟩ = some (.int .i64 sl) := by rw [cell_row HS.out]; rfl
  have zHS1 : w1.cell? ⟨R, 1, none⟩ = some (.int .i64 sr) := by rw [cell_row HS.out]; rfl
  have zHS2 : w1.cell? ⟨R, 2, none⟩ = some (.slice A n cap) := by rw [cell_row HS.out]; rfl
  have zHS3 : w1.cell? ⟨R, 3, none⟩ = some (.slice A2 kn kc) := by rw [cell_row HS.out]; rfl
  have zHC0 : w1.cell? ⟨R + 1, 0, none⟩ = some (.slice CL ln lc) := by rw [cell_row HC.out]; rfl
  have zHC1 : w1.cell? ⟨R + 1, 1, none⟩ = some (.slice CR rn rc) := by rw [cell_row HC.out]; rfl
  go_wp2_with fail
  clear zHS0 zHS1 zHS2 zHS3 zHC0 zHC1
  have Hn := Lib.hid hn50
  have Hk := Lib.hid hk50
  have Hu := Lib.hid (show nu ≤ 60 by omega)
  have Hm := Lib.hid (show m ≤ 60 by omega)
  have Hl := Lib.hid (show ln ≤ 30 by omega)
  have Hr := Lib.hid (show rn ≤ 30 by omega)
  have He := Lib.hid he
  obtain ⟨sN, hsN⟩ : ∃ v, siz n zs ks = v := ⟨_, rfl⟩
  have HsN := Lib.hid hsN
  have hs12 : sN ≤ 10000 := by
    rw [← hsN]
    obtain ⟨p, hp⟩ := gre_ex (shn_of he Hzl.out)
    rw [← hp.2]
    unfold cntP
    have := List.length_filter_le p (List.range n)
    rw [List.length_range] at this
    omega
  have Hs12 := Lib.hid hs12
  clear hn50 hk50 h0 h1 h2 h3 d0 d1 d2 d3 he hsN hs12
  refine (greatest22 sl sr A n cap zs A2 kn kc ks w1 X.out XI.out Hc9.out (by have := Hn.out; omega) (by have := Hk.out; omega) He.out).mono ?_
  rintro en w2 ⟨QG, pt, rfl, hgb, hQ8, hig, hb⟩
  replace X := Lib.hid (X.out.below hb (Nat.le_refl _))
  replace XI := Lib.hid (XI.out.below hb (Nat.le_refl _))
  replace XU := Lib.hid (XU.out.below hb (Nat.le_refl _))
  replace XJ := Lib.hid (XJ.out.below hb (Nat.le_refl _))
  replace XL := Lib.hid (XL.out.below hb (Nat.le_refl _))
  replace XR := Lib.hid (XR.out.below hb (Nat.le_refl _))
  replace HS := Lib.hid ((hb.block _ (lt_of_block HS.out)).trans HS.out)
  replace HC := Lib.hid ((hb.block _ (lt_of_block HC.out)).trans HC.out)
  replace B := Lib.hid (B.out.trans (hb.mono B.out.size))
  have hlen := gb_len He.out Hzl.out hgb
  have hch := gb_chk He.out Hzl.out hgb
  change _ = siz n zs ks at hlen
  rw [HsN.out] at hlen
  obtain ⟨gl, hgl⟩ : ∃ v, jI n zs pt = v := ⟨_, rfl⟩
  rw [hgl] at hlen hch hig ⊢
  rw [hlen] at hig ⊢
  have HG := Lib.hid hig
  have Hch := Lib.hid hch
  clear hgb hQ8 hig hch hlen hgl
  try clear hb
  have zHS0 : w2.cell? ⟨R, 0, none⟩ = some (.int .i64 sl) := by rw [cell_row HS.out]; rfl
  have zHS1 : w2.cell? ⟨R, 1, none⟩ = some (.int .i64 sr) := by rw [cell_row HS.out]; rfl
  have zHS2 : w2.cell? ⟨R, 2, none⟩ = some (.slice A n cap) := by rw [cell_row HS.out]; rfl
  have zHS3 : w2.cell? ⟨R, 3, none⟩ = some (.slice A2 kn kc) := by rw [cell_row HS.out]; rfl
  have zHC0 : w2.cell? ⟨R + 1, 0, none⟩ = some (.slice CL ln lc) := by rw [cell_row HC.out]; rfl
  have zHC1 : w2.cell? ⟨R + 1, 1, none⟩ = some (.slice CR rn rc) := by rw [cell_row HC.out]; rfl
  go_wp2_with fail
  clear zHS0 zHS1 zHS2 zHS3 zHC0 zHC1
  refine (cover23 sl sr A n cap zs A2 kn kc ks w2 X.out XI.out Hc9.out (by have := Hn.out; omega) (by have := Hk.out; omega) He.out).mono ?_
  rintro en w3 ⟨pt2, lk, DL, dl, DR, dr, rfl, hgb, hco, hil, hir, hb⟩
  replace X := Lib.hid (X.out.below hb (Nat.le_refl _))
  replace XI := Lib.hid (XI.out.below hb (Nat.le_refl _))
  replace XU := Lib.hid (XU.out.below hb (Nat.le_refl _))
  replace XJ := Lib.hid (XJ.out.below hb (Nat.le_refl _))
  replace XL := Lib.hid (XL.out.below hb (Nat.le_refl _))
  replace XR := Lib.hid (XR.out.below hb (Nat.le_refl _))
  replace HG := Lib.hid (HG.out.below hb (Nat.le_refl _))
  replace HS := Lib.hid ((hb.block _ (lt_of_block HS.out)).trans HS.out)
  replace HC := Lib.hid ((hb.block _ (lt_of_block HC.out)).trans HC.out)
  replace B := Lib.hid (B.out.trans (hb.mono B.out.size))
  obtain ⟨hc0, hc1⟩ := cv_ok He.out Hzl.out hgb hco
  change _ = ((siz n zs ks : Nat) : Int) at hc1
  rw [HsN.out] at hc1
  have hll : (srtL (cvL n zs (opnL n zs ks) pt2 lk)).length ≤ 100000 := by rw [srtL_len]; have := cv_len n zs (opnL n zs ks) pt2 lk; have : (jL n zs (opnL n zs ks) pt2).length ≤ n := Nat.le_trans (List.length_filter_le _ _) (by simp); have := Hn.out; omega
  have hlr : (srtL (cvR n zs (opnL n zs ks) pt2 lk)).length ≤ 100000 := by rw [srtL_len]; have := cv_len n zs (opnL n zs ks) pt2 lk; have : (jL n zs (opnL n zs ks) pt2).length ≤ n := Nat.le_trans (List.length_filter_le _ _) (by simp); have := Hn.out; omega
  rw [srtL_len] at hll hlr
  obtain ⟨tL, htL⟩ : ∃ v, srtL (cvL n zs (opnL n zs ks) pt2 lk) = v := ⟨_, rfl⟩
  obtain ⟨tR, htR⟩ : ∃ v, srtL (cvR n zs (opnL n zs ks) pt2 lk) = v := ⟨_, rfl⟩
  obtain ⟨nL, hnL⟩ : ∃ v, (cvL n zs (opnL n zs ks) pt2 lk).length = v := ⟨_, rfl⟩
  obtain ⟨nR, hnR⟩ : ∃ v, (cvR n zs (opnL n zs ks) pt2 lk).length = v := ⟨_, rfl⟩
  rw [htL, hnL] at hil
  rw [htR, hnR] at hir
  rw [htL, htR] at hc0 hc1
  rw [hnL] at hll
  rw [hnR] at hlr
  rw [hnL, hnR]
  have HCL := Lib.hid hil
  have HCR := Lib.hid hir
  have HC0 := Lib.hid hc0
  have HC1 := Lib.hid hc1
  have Hll := Lib.hid hll
  have Hlr := Lib.hid hlr
  clear hgb hco hil hir hc0 hc1 htL htR hnL hnR hll hlr
  try clear hb
  have zHS0 : w3.cell? ⟨R, 0, none⟩ = some (.int .i64 sl) := by rw [cell_row HS.out]; rfl
  have zHS1 : w3.cell? ⟨R, 1, none⟩ = some (.int .i64 sr) := by rw [cell_row HS.out]; rfl
  have zHS2 : w3.cell? ⟨R, 2, none⟩ = some (.slice A n cap) := by rw [cell_row HS.out]; rfl
  have zHS3 : w3.cell? ⟨R, 3, none⟩ = some (.slice A2 kn kc) := by rw [cell_row HS.out]; rfl
  have zHC0 : w3.cell? ⟨R + 1, 0, none⟩ = some (.slice CL ln lc) := by rw [cell_row HC.out]; rfl
  have zHC1 : w3.cell? ⟨R + 1, 1, none⟩ = some (.slice CR rn rc) := by rw [cell_row HC.out]; rfl
  have hzl := lt_of_block HS.out
  have hzl2 := lt_of_block HC.out
  have hb := below_alloc_ w3 (.cells #[.slice DL nL dl, .slice DR nR dr] 27)
  have hr := heap_alloc_new_ w3 (.cells #[.slice DL nL dl, .slice DR nR dr] 27)
  obtain ⟨w4, hw4⟩ : ∃ v, w3.alloc (.cells #[.slice DL nL dl, .slice DR nR dr] 27) = v := ⟨_, rfl⟩
  obtain ⟨Y, hY⟩ : ∃ v, w3.heap.size = v := ⟨_, rfl⟩
  rw [hw4] at hb hr
  rw [hY] at hr
  have Hw4 := Lib.hid hw4
  have HY := Lib.hid hY
  clear hw4 hY
  replace X := Lib.hid (X.out.below hb (Nat.le_refl _))
  replace XI := Lib.hid (XI.out.below hb (Nat.le_refl _))
  replace XU := Lib.hid (XU.out.below hb (Nat.le_refl _))
  replace XJ := Lib.hid (XJ.out.below hb (Nat.le_refl _))
  replace XL := Lib.hid (XL.out.below hb (Nat.le_refl _))
  replace XR := Lib.hid (XR.out.below hb (Nat.le_refl _))
  replace HG := Lib.hid (HG.out.below hb (Nat.le_refl _))
  replace HCL := Lib.hid (HCL.out.below hb (Nat.le_refl _))
  replace HCR := Lib.hid (HCR.out.below hb (Nat.le_refl _))
  replace HS := Lib.hid ((hb.block _ (lt_of_block HS.out)).trans HS.out)
  replace HC := Lib.hid ((hb.block _ (lt_of_block HC.out)).trans HC.out)
  replace B := Lib.hid (B.out.trans (hb.mono B.out.size))
  clear hb
  have HY2 := Lib.hid hr
  clear hr
  go_wp2_with fail
  try rw [Hw4.out]
  try rw [HY.out]
  try go_wp2_with fail
  clear hzl hzl2
  clear zHS0 zHS1 zHS2 zHS3 zHC0 zHC1
  refine (checkCover16 sl sr A n cap zs A2 kn kc ks DL nL dl tL DR nR dr tR w4 X.out XI.out Hc9.out HCL.out HCR.out (by have := Hn.out; omega) (by have := Hk.out; omega) Hll.out Hlr.out).mono ?_
  rintro en w5 ⟨rfl, hb⟩
  replace X := Lib.hid (X.out.below hb (Nat.le_refl _))
  replace XI := Lib.hid (XI.out.below hb (Nat.le_refl _))
  replace XU := Lib.hid (XU.out.below hb (Nat.le_refl _))
  replace XJ := Lib.hid (XJ.out.below hb (Nat.le_refl _))
  replace XL := Lib.hid (XL.out.below hb (Nat.le_refl _))
  replace XR := Lib.hid (XR.out.below hb (Nat.le_refl _))
  replace HG := Lib.hid (HG.out.below hb (Nat.le_refl _))
  replace HCL := Lib.hid (HCL.out.below hb (Nat.le_refl _))
  replace HCR := Lib.hid (HCR.out.below hb (Nat.le_refl _))
  replace HS := Lib.hid ((hb.block _ (lt_of_block HS.out)).trans HS.out)
  replace HC := Lib.hid ((hb.block _ (lt_of_block HC.out)).trans HC.out)
  replace HY2 := Lib.hid ((hb.block _ (lt_of_block HY2.out)).trans HY2.out)
  replace B := Lib.hid (B.out.trans (hb.mono B.out.size))
  rw [HC0.out, HC1.out]
  try clear hb
  have zHS0 : w5.cell? ⟨R, 0, none⟩ = some (.int .i64 sl) := by rw [cell_row HS.out]; rfl
  have zHS1 : w5.cell? ⟨R, 1, none⟩ = some (.int .i64 sr) := by rw [cell_row HS.out]; rfl
  have zHS2 : w5.cell? ⟨R, 2, none⟩ = some (.slice A n cap) := by rw [cell_row HS.out]; rfl
  have zHS3 : w5.cell? ⟨R, 3, none⟩ = some (.slice A2 kn kc) := by rw [cell_row HS.out]; rfl
  have zHC0 : w5.cell? ⟨R + 1, 0, none⟩ = some (.slice CL ln lc) := by rw [cell_row HC.out]; rfl
  have zHC1 : w5.cell? ⟨R + 1, 1, none⟩ = some (.slice CR rn rc) := by rw [cell_row HC.out]; rfl
  have zHY20 : w5.cell? ⟨Y, 0, none⟩ = some (.slice DL nL dl) := by rw [cell_row HY2.out]; rfl
  have zHY21 : w5.cell? ⟨Y, 1, none⟩ = some (.slice DR nR dr) := by rw [cell_row HY2.out]; rfl
  go_wp2_with fail
  clear zHS0 zHS1 zHS2 zHS3 zHC0 zHC1 zHY20 zHY21
  refine (checkCover17 sl sr A n cap zs A2 kn kc ks DL nL dl tL DR nR dr tR w5 X.out XI.out HCL.out HCR.out (by have := Hn.out; omega) (by have := Hk.out; omega) Hll.out Hlr.out).mono ?_
  rintro en w6 ⟨rfl, hb⟩
  replace X := Lib.hid (X.out.below hb (Nat.le_refl _))
  replace XI := Lib.hid (XI.out.below hb (Nat.le_refl _))
  replace XU := Lib.hid (XU.out.below hb (Nat.le_refl _))
  replace XJ := Lib.hid (XJ.out.below hb (Nat.le_refl _))
  replace XL := Lib.hid (XL.out.below hb (Nat.le_refl _))
  replace XR := Lib.hid (XR.out.below hb (Nat.le_refl _))
  replace HG := Lib.hid (HG.out.below hb (Nat.le_refl _))
  replace HCL := Lib.hid (HCL.out.below hb (Nat.le_refl _))
  replace HCR := Lib.hid (HCR.out.below hb (Nat.le_refl _))
  replace HS := Lib.hid ((hb.block _ (lt_of_block HS.out)).trans HS.out)
  replace HC := Lib.hid ((hb.block _ (lt_of_block HC.out)).trans HC.out)
  replace HY2 := Lib.hid ((hb.block _ (lt_of_block HY2.out)).trans HY2.out)
  replace B := Lib.hid (B.out.trans (hb.mono B.out.size))
  rw [HC0.out, HC1.out]
  clear HC0 HC1 HCL HCR Hll Hlr HY2
  try clear hb
  have zHS0 : w6.cell? ⟨R, 0, none⟩ = some (.int .i64 sl) := by rw [cell_row HS.out]; rfl
  have zHS1 : w6.cell? ⟨R, 1, none⟩ = some (.int .i64 sr) := by rw [cell_row HS.out]; rfl
  have zHS2 : w6.cell? ⟨R, 2, none⟩ = some (.slice A n cap) := by rw [cell_row HS.out]; rfl
  have zHS3 : w6.cell? ⟨R, 3, none⟩ = some (.slice A2 kn kc) := by rw [cell_row HS.out]; rfl
  have zHC0 : w6.cell? ⟨R + 1, 0, none⟩ = some (.slice CL ln lc) := by rw [cell_row HC.out]; rfl
  have zHC1 : w6.cell? ⟨R + 1, 1, none⟩ = some (.slice CR rn rc) := by rw [cell_row HC.out]; rfl
  go_wp2_with fail
  clear zHS0 zHS1 zHS2 zHS3 zHC0 zHC1
  refine (checkJoining20 sl sr A n cap zs A2 kn kc ks (some ⟨QG, 0, none⟩) sN sN gl w6 X.out XI.out HG.out Hc9.out (by have := Hn.out; omega) (by have := Hk.out; omega) (by have := Hs12.out; omega)).mono ?_
  rintro en w7 ⟨rfl, hb⟩
  replace X := Lib.hid (X.out.below hb (Nat.le_refl _))
  replace XI := Lib.hid (XI.out.below hb (Nat.le_refl _))
  replace XU := Lib.hid (XU.out.below hb (Nat.le_refl _))
  replace XJ := Lib.hid (XJ.out.below hb (Nat.le_refl _))
  replace XL := Lib.hid (XL.out.below hb (Nat.le_refl _))
  replace XR := Lib.hid (XR.out.below hb (Nat.le_refl _))
  replace HG := Lib.hid (HG.out.below hb (Nat.le_refl _))
  replace HS := Lib.hid ((hb.block _ (lt_of_block HS.out)).trans HS.out)
  replace HC := Lib.hid ((hb.block _ (lt_of_block HC.out)).trans HC.out)
  replace B := Lib.hid (B.out.trans (hb.mono B.out.size))
  rw [Hch.out]
  try clear hb
  have zHS0 : w7.cell? ⟨R, 0, none⟩ = some (.int .i64 sl) := by rw [cell_row HS.out]; rfl
  have zHS1 : w7.cell? ⟨R, 1, none⟩ = some (.int .i64 sr) := by rw [cell_row HS.out]; rfl
  have zHS2 : w7.cell? ⟨R, 2, none⟩ = some (.slice A n cap) := by rw [cell_row HS.out]; rfl
  have zHS3 : w7.cell? ⟨R, 3, none⟩ = some (.slice A2 kn kc) := by rw [cell_row HS.out]; rfl
  have zHC0 : w7.cell? ⟨R + 1, 0, none⟩ = some (.slice CL ln lc) := by rw [cell_row HC.out]; rfl
  have zHC1 : w7.cell? ⟨R + 1, 1, none⟩ = some (.slice CR rn rc) := by rw [cell_row HC.out]; rfl
  go_wp2_with fail
  clear zHS0 zHS1 zHS2 zHS3 zHC0 zHC1
  refine (checkJoining21 sl sr A n cap zs A2 kn kc ks (some ⟨QG, 0, none⟩) sN sN gl w7 X.out XI.out HG.out (by have := Hn.out; omega) (by have := Hk.out; omega) (by have := Hs12.out; omega)).mono ?_
  rintro en w8 ⟨rfl, hb⟩
  replace X := Lib.hid (X.out.below hb (Nat.le_refl _))
  replace XI := Lib.hid (XI.out.below hb (Nat.le_refl _))
  replace XU := Lib.hid (XU.out.below hb (Nat.le_refl _))
  replace XJ := Lib.hid (XJ.out.below hb (Nat.le_refl _))
  replace XL := Lib.hid (XL.out.below hb (Nat.le_refl _))
  replace XR := Lib.hid (XR.out.below hb (Nat.le_refl _))
  replace HG := Lib.hid (HG.out.below hb (Nat.le_refl _))
  replace HS := Lib.hid ((hb.block _ (lt_of_block HS.out)).trans HS.out)
  replace HC := Lib.hid ((hb.block _ (lt_of_block HC.out)).trans HC.out)
  replace B := Lib.hid (B.out.trans (hb.mono B.out.size))
  rw [Hch.out]
  clear Hch HG
  try clear hb
  have zHS0 : w8.cell? ⟨R, 0, none⟩ = some (.int .i64 sl) := by rw [cell_row HS.out]; rfl
  have zHS1 : w8.cell? ⟨R, 1, none⟩ = some (.int .i64 sr) := by rw [cell_row HS.out]; rfl
  have zHS2 : w8.cell? ⟨R, 2, none⟩ = some (.slice A n cap) := by rw [cell_row HS.out]; rfl
  have zHS3 : w8.cell? ⟨R, 3, none⟩ = some (.slice A2 kn kc) := by rw [cell_row HS.out]; rfl
  have zHC0 : w8.cell? ⟨R + 1, 0, none⟩ = some (.slice CL ln lc) := by rw [cell_row HC.out]; rfl
  have zHC1 : w8.cell? ⟨R + 1, 1, none⟩ = some (.slice CR rn rc) := by rw [cell_row HC.out]; rfl
  go_wp2_with fail
  clear zHS0 zHS1 zHS2 zHS3 zHC0 zHC1
  refine (by33 sl sr A n cap zs A2 kn kc ks U nu cu us w8 X.out XI.out XU.out Hc9.out Hn.out Hk.out Hu.out He.out).mono ?_
  rintro en w9 ⟨CJ, cj, p, rfl, hcj, hij, hjp, hb⟩
  replace X := Lib.hid (X.out.below hb (Nat.le_refl _))
  replace XI := Lib.hid (XI.out.below hb (Nat.le_refl _))
  replace XU := Lib.hid (XU.out.below hb (Nat.le_refl _))
  replace XJ := Lib.hid (XJ.out.below hb (Nat.le_refl _))
  replace XL := Lib.hid (XL.out.below hb (Nat.le_refl _))
  replace XR := Lib.hid (XR.out.below hb (Nat.le_refl _))
  replace HS := Lib.hid ((hb.block _ (lt_of_block HS.out)).trans HS.out)
  replace HC := Lib.hid ((hb.block _ (lt_of_block HC.out)).trans HC.out)
  replace B := Lib.hid (B.out.trans (hb.mono B.out.size))
  have hch := chj_of He.out Hzl.out hjp
  have hle := chj_len hch Hzl.out
  rw [HsN.out] at hle
  obtain ⟨jl, hjl⟩ : ∃ v, fI p n = v := ⟨_, rfl⟩
  rw [hjl] at hch hle hij hcj ⊢
  obtain ⟨jn, hjn⟩ : ∃ v, jl.length = v := ⟨_, rfl⟩
  rw [hjn] at hle hij hcj ⊢
  have HJ := Lib.hid hij
  have Hch := Lib.hid hch
  have Hle := Lib.hid hle
  clear hjp hij hch hle hjl hjn hcj
  try clear hb
  have zHS0 : w9.cell? ⟨R, 0, none⟩ = some (.int .i64 sl) := by rw [cell_row HS.out]; rfl
  have zHS1 : w9.cell? ⟨R, 1, none⟩ = some (.int .i64 sr) := by rw [cell_row HS.out]; rfl
  have zHS2 : w9.cell? ⟨R, 2, none⟩ = some (.slice A n cap) := by rw [cell_row HS.out]; rfl
  have zHS3 : w9.cell? ⟨R, 3, none⟩ = some (.slice A2 kn kc) := by rw [cell_row HS.out]; rfl
  have zHC0 : w9.cell? ⟨R + 1, 0, none⟩ = some (.slice CL ln lc) := by rw [cell_row HC.out]; rfl
  have zHC1 : w9.cell? ⟨R + 1, 1, none⟩ = some (.slice CR rn rc) := by rw [cell_row HC.out]; rfl
  go_wp2_with fail
  clear zHS0 zHS1 zHS2 zHS3 zHC0 zHC1
  refine (checkJoining20 sl sr A n cap zs A2 kn kc ks CJ jn cj jl w9 X.out XI.out HJ.out Hc9.out (by have := Hn.out; omega) (by have := Hk.out; omega) (by have := Hle.out; have := Hs12.out; omega)).mono ?_
  rintro en w10 ⟨rfl, hb⟩
  replace X := Lib.hid (X.out.below hb (Nat.le_refl _))
  replace XI := Lib.hid (XI.out.below hb (Nat.le_refl _))
  replace XU := Lib.hid (XU.out.below hb (Nat.le_refl _))
  replace XJ := Lib.hid (XJ.out.below hb (Nat.le_refl _))
  replace XL := Lib.hid (XL.out.below hb (Nat.le_refl _))
  replace XR := Lib.hid (XR.out.below hb (Nat.le_refl _))
  replace HJ := Lib.hid (HJ.out.below hb (Nat.le_refl _))
  replace HS := Lib.hid ((hb.block _ (lt_of_block HS.out)).trans HS.out)
  replace HC := Lib.hid ((hb.block _ (lt_of_block HC.out)).trans HC.out)
  replace B := Lib.hid (B.out.trans (hb.mono B.out.size))
  rw [Hch.out]
  have dle : ¬ sN < jn := by have := Hle.out; omega
  have dle2 : ¬ (sN : Int) < (jn : Int) := by have := Hle.out; omega
  clear Hch HJ
  try clear hb
  have zHS0 : w10.cell? ⟨R, 0, none⟩ = some (.int .i64 sl) := by rw [cell_row HS.out]; rfl
  have zHS1 : w10.cell? ⟨R, 1, none⟩ = some (.int .i64 sr) := by rw [cell_row HS.out]; rfl
  have zHS2 : w10.cell? ⟨R, 2, none⟩ = some (.slice A n cap) := by rw [cell_row HS.out]; rfl
  have zHS3 : w10.cell? ⟨R, 3, none⟩ = some (.slice A2 kn kc) := by rw [cell_row HS.out]; rfl
  have zHC0 : w10.cell? ⟨R + 1, 0, none⟩ = some (.slice CL ln lc) := by rw [cell_row HC.out]; rfl
  have zHC1 : w10.cell? ⟨R + 1, 1, none⟩ = some (.slice CR rn rc) := by rw [cell_row HC.out]; rfl
  go_wp2_with fail
  clear zHS0 zHS1 zHS2 zHS3 zHC0 zHC1
  clear dle dle2
  refine (checkJoining20 sl sr A n cap zs A2 kn kc ks J m mc js w10 X.out XI.out XJ.out Hc9.out (by have := Hn.out; omega) (by have := Hk.out; omega) (by have := Hm.out; omega)).mono ?_
  rintro en w11 ⟨rfl, hb⟩
  replace X := Lib.hid (X.out.below hb (Nat.le_refl _))
  replace XI := Lib.hid (XI.out.below hb (Nat.le_refl _))
  replace XU := Lib.hid (XU.out.below hb (Nat.le_refl _))
  replace XJ := Lib.hid (XJ.out.below hb (Nat.le_refl _))
  replace XL := Lib.hid (XL.out.below hb (Nat.le_refl _))
  replace XR := Lib.hid (XR.out.below hb (Nat.le_refl _))
  replace HS := Lib.hid ((hb.block _ (lt_of_block HS.out)).trans HS.out)
  replace HC := Lib.hid ((hb.block _ (lt_of_block HC.out)).trans HC.out)
  replace B := Lib.hid (B.out.trans (hb.mono B.out.size))
  have Hgv := Lib.hid (fun e : chkJ sl sr zs ks js = 0 => (show m ≤ sN by rw [← HsN.out, ← Hjl.out]; exact chj_len e Hzl.out))
  obtain ⟨q, hq⟩ : ∃ v, chkJ sl sr zs ks js = v := ⟨_, rfl⟩
  rw [hq] at Hgv ⊢
  clear hq
  try clear hb
  by_cases hq0 : q = 0
  · have dle := Hgv.out hq0
    have dle1 : ¬ sN < m := by omega
    have dle2 : ¬ (sN : Int) < (m : Int) := by omega
    subst hq0
    clear Hgv
    have zHS0 : w11.cell? ⟨R, 0, none⟩ = some (.int .i64 sl) := by rw [cell_row HS.out]; rfl
    have zHS1 : w11.cell? ⟨R, 1, none⟩ = some (.int .i64 sr) := by rw [cell_row HS.out]; rfl
    have zHS2 : w11.cell? ⟨R, 2, none⟩ = some (.slice A n cap) := by rw [cell_row HS.out]; rfl
    have zHS3 : w11.cell? ⟨R, 3, none⟩ = some (.slice A2 kn kc) := by rw [cell_row HS.out]; rfl
    have zHC0 : w11.cell? ⟨R + 1, 0, none⟩ = some (.slice CL ln lc) := by rw [cell_row HC.out]; rfl
    have zHC1 : w11.cell? ⟨R + 1, 1, none⟩ = some (.slice CR rn rc) := by rw [cell_row HC.out]; rfl
    go_wp2_with fail
    clear zHS0 zHS1 zHS2 zHS3 zHC0 zHC1
    clear dle dle1 dle2
    refine (checkCover16 sl sr A n cap zs A2 kn kc ks CL ln lc cl CR rn rc cr w11 X.out XI.out Hc9.out XL.out XR.out (by have := Hn.out; omega) (by have := Hk.out; omega) (by have := Hl.out; omega) (by have := Hr.out; omega)).mono ?_
    rintro en w12 ⟨rfl, hb⟩
    replace X := Lib.hid (X.out.below hb (Nat.le_refl _))
    replace XI := Lib.hid (XI.out.below hb (Nat.le_refl _))
    replace XU := Lib.hid (XU.out.below hb (Nat.le_refl _))
    replace XJ := Lib.hid (XJ.out.below hb (Nat.le_refl _))
    replace XL := Lib.hid (XL.out.below hb (Nat.le_refl _))
    replace XR := Lib.hid (XR.out.below hb (Nat.le_refl _))
    replace HS := Lib.hid ((hb.block _ (lt_of_block HS.out)).trans HS.out)
    replace HC := Lib.hid ((hb.block _ (lt_of_block HC.out)).trans HC.out)
    replace B := Lib.hid (B.out.trans (hb.mono B.out.size))
    have Hcv := Lib.hid (fun e : chkC sl sr zs ks cl cr = 0 => (show (sN : Int) ≤ szC sl sr zs ks cl cr by rw [← HsN.out]; exact cov_ge e Hzl.out))
    obtain ⟨z, hz⟩ : ∃ v, szC sl sr zs ks cl cr = v := ⟨_, rfl⟩
    obtain ⟨f, hf⟩ : ∃ v, chkC sl sr zs ks cl cr = v := ⟨_, rfl⟩
    rw [hz, hf] at Hcv ⊢
    clear hz hf
    by_cases hf0 : f = 0
    try clear hb
    · have dge := Hcv.out hf0
      subst hf0
      go_wp2_with fail
      refine (works15 w12).mono ?_
      rintro en w13 ⟨rfl, hb⟩
      replace B := Lib.hid (B.out.trans (hb.mono B.out.size))
      clear hb
      go_wp2_with fail
      go_ret
      exact ⟨rfl, B.out⟩
    · have d9 : (f != 0) = true := by rw [bne_iff_ne]; exact hf0
      go_wp2_with fail
      refine (works15 w12).mono ?_
      rintro en w13 ⟨rfl, hb⟩
      replace B := Lib.hid (B.out.trans (hb.mono B.out.size))
      clear hb
      go_wp2_with fail
      go_ret
      exact ⟨rfl, B.out⟩
  · have d9 : (q == 0) = false := by rw [beq_eq_false_iff_ne]; exact hq0
    clear Hgv
    have zHS0 : w11.cell? ⟨R, 0, none⟩ = some (.int .i64 sl) := by rw [cell_row HS.out]; rfl
    have zHS1 : w11.cell? ⟨R, 1, none⟩ = some (.int .i64 sr) := by rw [cell_row HS.out]; rfl
    have zHS2 : w11.cell? ⟨R, 2, none⟩ = some (.slice A n cap) := by rw [cell_row HS.out]; rfl
    have zHS3 : w11.cell? ⟨R, 3, none⟩ = some (.slice A2 kn kc) := by rw [cell_row HS.out]; rfl
    have zHC0 : w11.cell? ⟨R + 1, 0, none⟩ = some (.slice CL ln lc) := by rw [cell_row HC.out]; rfl
    have zHC1 : w11.cell? ⟨R + 1, 1, none⟩ = some (.slice CR rn rc) := by rw [cell_row HC.out]; rfl
    go_wp2_with fail
    clear zHS0 zHS1 zHS2 zHS3 zHC0 zHC1
    refine (checkCover16 sl sr A n cap zs A2 kn kc ks CL ln lc cl CR rn rc cr w11 X.out XI.out Hc9.out XL.out XR.out (by have := Hn.out; omega) (by have := Hk.out; omega) (by have := Hl.out; omega) (by have := Hr.out; omega)).mono ?_
    rintro en w12 ⟨rfl, hb⟩
    replace X := Lib.hid (X.out.below hb (Nat.le_refl _))
    replace XI := Lib.hid (XI.out.below hb (Nat.le_refl _))
    replace XU := Lib.hid (XU.out.below hb (Nat.le_refl _))
    replace XJ := Lib.hid (XJ.out.below hb (Nat.le_refl _))
    replace XL := Lib.hid (XL.out.below hb (Nat.le_refl _))
    replace XR := Lib.hid (XR.out.below hb (Nat.le_refl _))
    replace HS := Lib.hid ((hb.block _ (lt_of_block HS.out)).trans HS.out)
    replace HC := Lib.hid ((hb.block _ (lt_of_block HC.out)).trans HC.out)
    replace B := Lib.hid (B.out.trans (hb.mono B.out.size))
    have Hcv := Lib.hid (fun e : chkC sl sr zs ks cl cr = 0 => (show (sN : Int) ≤ szC sl sr zs ks cl cr by rw [← HsN.out]; exact cov_ge e Hzl.out))
    obtain ⟨z, hz⟩ : ∃ v, szC sl sr zs ks cl cr = v := ⟨_, rfl⟩
    obtain ⟨f, hf⟩ : ∃ v, chkC sl sr zs ks cl cr = v := ⟨_, rfl⟩
    rw [hz, hf] at Hcv ⊢
    clear hz hf
    by_cases hf0 : f = 0
    try clear hb
    · have dge := Hcv.out hf0
      subst hf0
      go_wp2_with fail
      refine (works15 w12).mono ?_
      rintro en w13 ⟨rfl, hb⟩
      replace B := Lib.hid (B.out.trans (hb.mono B.out.size))
      clear hb
      go_wp2_with fail
      go_ret
      exact ⟨rfl, B.out⟩
    · have d9 : (f != 0) = true := by rw [bne_iff_ne]; exact hf0
      go_wp2_with fail
      refine (works15 w12).mono ?_
      rintro en w13 ⟨rfl, hb⟩
      replace B := Lib.hid (B.out.trans (hb.mono B.out.size))
      clear hb
      go_wp2_with fail
      go_ret
      exact ⟨rfl, B.out⟩
end Go.Proofs.Ytnodkgejggnehaa
