/- Stage 5: ListSheets. -/
import Derived.Test.YtnodkgejggnehaaGt
import Derived.Deep.RegionHeld3
namespace Go.Proofs.Ytnodkgejggnehaa
set_option linter.unusedSimpArgs false
set_option linter.unusedVariables false
open Go.RowKit Go.Shelf
section
attribute [local go_sem ↓] exec_app at_app
attribute [local go_sem] Oper.semAt_some
set_option maxRecDepth 100000 in
set_option maxHeartbeats 40000000 in
theorem sheets3 (sl sr : Int) (A : Option Addr) (n cap : Nat) (zs : List Rg) (A2 : Option Addr) (kn kc : Nat) (ks : List Int) (J : Option Addr) (m mc : Nat) (js : List Int) (CL : Option Addr) (ln lc : Nat) (cl : List Int) (CR : Option Addr) (rn rc : Nat) (cr : List Int) (w : World) (h : Rgs w A n zs) (hI : Ints w A2 kn ks) (hJ : Ints w J m js) (hL : Ints w CL ln cl) (hQ : Ints w CR rn cr) (hc9 : n ≤ cap) :
    Calls Try.prog 3 #[.agg #[.int .i64 sl, .int .i64 sr, .slice A n cap, .slice A2 kn kc], .slice J m mc, .agg #[.slice CL ln lc, .slice CR rn rc]] w fun e w' => e = .returned (.bool true) ∧ Below w.heap.size w w' := by
  obtain ⟨R, hR⟩ : ∃ v, w.heap.size = v := ⟨_, rfl⟩
  have hb0 := below_alloc_ w (.cells #[.int .i64 sl, .int .i64 sr, .slice A n cap, .slice A2 kn kc] 25)
  have hr0 := heap_alloc_new_ w (.cells #[.int .i64 sl, .int .i64 sr, .slice A n cap, .slice A2 kn kc] 25)
  have hz0 : (w.alloc (.cells #[.int .i64 sl, .int .i64 sr, .slice A n cap, .slice A2 kn kc] 25)).heap.size = w.heap.size + 1 := by simp
  obtain ⟨wb0, hwb0⟩ : ∃ v, w.alloc (.cells #[.int .i64 sl, .int .i64 sr, .slice A n cap, .slice A2 kn kc] 25) = v := ⟨_, rfl⟩
  rw [hwb0] at hb0 hr0 hz0
  rw [hR] at hr0 hz0
  have hB := hb0
  have hb1 := below_alloc_ wb0 (.cells #[.slice CL ln lc, .slice CR rn rc] 27)
  have hr1 := heap_alloc_new_ wb0 (.cells #[.slice CL ln lc, .slice CR rn rc] 27)
  have hz1 : (wb0.alloc (.cells #[.slice CL ln lc, .slice CR rn rc] 27)).heap.size = wb0.heap.size + 1 := by simp
  obtain ⟨w0, hw0⟩ : ∃ v, wb0.alloc (.cells #[.slice CL ln lc, .slice CR rn rc] 27) = v := ⟨_, rfl⟩
  rw [hw0] at hb1 hr1 hz1
  rw [hz0] at hr1 hz1
  replace hr0 := (hb1.block _ (lt_of_block hr0)).trans hr0
  replace hB := hB.trans (hb1.mono hB.size)
  have X := Lib.hid (h.below hB (Nat.le_refl _))
  have XI := Lib.hid (hI.below hB (Nat.le_refl _))
  have XJ := Lib.hid (hJ.below hB (Nat.le_refl _))
  have XL := Lib.hid (hL.below hB (Nat.le_refl _))
  have XR := Lib.hid (hQ.below hB (Nat.le_refl _))
  have HS := Lib.hid hr0
  have HC := Lib.hid hr1
  have HW0 := Lib.hid hwb0
  have HW1 := Lib.hid hw0
  have B := Lib.hid hB
  have HR := Lib.hid hR
  clear hB hR hb0 hr0 hz0 hwb0 hb1 hr1 hz1 hw0 h hI hJ hL hQ
  have zHS0 : w0.cell? ⟨R, 0, none⟩ = some (.int .i64 sl) := by rw [cell_row HS.out]; rfl
  have zHS1 : w0.cell? ⟨R, 1, none⟩ = some (.int .i64 sr) := by rw [cell_row HS.out]; rfl
  have zHS2 : w0.cell? ⟨R, 2, none⟩ = some (.slice A n cap) := by rw [cell_row HS.out]; rfl
  have zHS3 : w0.cell? ⟨R, 3, none⟩ = some (.slice A2 kn kc) := by rw [cell_row HS.out]; rfl
  have zHC0 : w0.cell? ⟨R + 1, 0, none⟩ = some (.slice CL ln lc) := by rw [cell_row HC.out]; rfl
  have zHC1 : w0.cell? ⟨R + 1, 1, none⟩ = some (.slice CR rn rc) := by rw [cell_row HC.out]; rfl
  go_enter Try.func3, Try.ntmps3
  go_wp2_with fail
  try rw [HW0.out]
  try rw [HW1.out]
  try rw [HR.out]
  try simp only [Nat.add_assoc, Nat.reduceAdd]
  try go_wp2_with fail
  clear zHS0 zHS1 zHS2 zHS3 zHC0 zHC1
  refine (great14 sl sr A n cap zs A2 kn kc ks w0).mono ?_
  rintro en w1 ⟨rfl, hb⟩
  replace X := Lib.hid (X.out.below hb (Nat.le_refl _))
  replace XI := Lib.hid (XI.out.below hb (Nat.le_refl _))
  replace XJ := Lib.hid (XJ.out.below hb (Nat.le_refl _))
  replace XL := Lib.hid (XL.out.below hb (Nat.le_refl _))
  replace XR := Lib.hid (XR.out.below hb (Nat.le_refl _))
  replace HS := Lib.hid ((hb.block _ (lt_of_block HS.out)).trans HS.out)
  replace HC := Lib.hid ((hb.block _ (lt_of_block HC.out)).trans HC.out)
  replace B := Lib.hid (B.out.trans (hb.mono B.out.size))
  cases hg : grt n kn
  rotate_left
  try clear hb
  · clear hg
    have zHS0 : w1.cell? ⟨R, 0, none⟩ = some (.int .i64 sl) := by rw [cell_row HS.out]; rfl
    have zHS1 : w1.cell? ⟨R, 1, none⟩ = some (.int .i64 sr) := by rw [cell_row HS.out]; rfl
    have zHS2 : w1.cell? ⟨R, 2, none⟩ = some (.slice A n cap) := by rw [cell_row HS.out]; rfl
    have zHS3 : w1.cell? ⟨R, 3, none⟩ = some (.slice A2 kn kc) := by rw [cell_row HS.out]; rfl
    have zHC0 : w1.cell? ⟨R + 1, 0, none⟩ = some (.slice CL ln lc) := by rw [cell_row HC.out]; rfl
    have zHC1 : w1.cell? ⟨R + 1, 1, none⟩ = some (.slice CR rn rc) := by rw [cell_row HC.out]; rfl
    go_wp2_with fail
    clear zHS0 zHS1 zHS2 zHS3 zHC0 zHC1
    refine (works15 w1).mono ?_
    rintro en w2 ⟨rfl, hb⟩
    replace B := Lib.hid (B.out.trans (hb.mono B.out.size))
    clear hb
    go_wp2_with fail
    go_ret
    exact ⟨rfl, B.out⟩
  have hn50 := (grt_no hg).1
  have hk50 := (grt_no hg).2
  clear hg
  by_cases h1 : 60 < m
  · have d1 : (60 : Int) < (m : Int) := by omega
    have zHS0 : w1.cell? ⟨R, 0, none⟩ = some (.int .i64 sl) := by rw [cell_row HS.out]; rfl
    have zHS1 : w1.cell? ⟨R, 1, none⟩ = some (.int .i64 sr) := by rw [cell_row HS.out]; rfl
    have zHS2 : w1.cell? ⟨R, 2, none⟩ = some (.slice A n cap) := by rw [cell_row HS.out]; rfl
    have zHS3 : w1.cell? ⟨R, 3, none⟩ = some (.slice A2 kn kc) := by rw [cell_row HS.out]; rfl
    have zHC0 : w1.cell? ⟨R + 1, 0, none⟩ = some (.slice CL ln lc) := by rw [cell_row HC.out]; rfl
    have zHC1 : w1.cell? ⟨R + 1, 1, none⟩ = some (.slice CR rn rc) := by rw [cell_row HC.out]; rfl
    go_wp2_with fail
    clear zHS0 zHS1 zHS2 zHS3 zHC0 zHC1
    refine (works15 w1).mono ?_
    rintro en w2 ⟨rfl, hb⟩
    replace B := Lib.hid (B.out.trans (hb.mono B.out.size))
    clear hb
    go_wp2_with fail
    go_ret
    exact ⟨rfl, B.out⟩
  have d1 : ¬ (60 : Int) < (m : Int) := by omega
  by_cases h2 : 30 < ln
  · have d2 : (30 : Int) < (ln : Int) := by omega
    have zHS0 : w1.cell? ⟨R, 0, none⟩ = some (.int .i64 sl) := by rw [cell_row HS.out]; rfl
    have zHS1 : w1.cell? ⟨R, 1, none⟩ = some (.int .i64 sr) := by rw [cell_row HS.out]; rfl
    have zHS2 : w1.cell? ⟨R, 2, none⟩ = some (.slice A n cap) := by rw [cell_row HS.out]; rfl
    have zHS3 : w1.cell? ⟨R, 3, none⟩ = some (.slice A2 kn kc) := by rw [cell_row HS.out]; rfl
    have zHC0 : w1.cell? ⟨R + 1, 0, none⟩ = some (.slice CL ln lc) := by rw [cell_row HC.out]; rfl
    have zHC1 : w1.cell? ⟨R + 1, 1, none⟩ = some (.slice CR rn rc) := by rw [cell_row HC.out]; rfl
    go_wp2_with fail
    clear zHS0 zHS1 zHS2 zHS3 zHC0 zHC1
    refine (works15 w1).mono ?_
    rintro en w2 ⟨rfl, hb⟩
    replace B := Lib.hid (B.out.trans (hb.mono B.out.size))
    clear hb
    go_wp2_with fail
    go_ret
    exact ⟨rfl, B.out⟩
  have d2 : ¬ (30 : Int) < (ln : Int) := by omega
  by_cases h3 : 30 < rn
  · have d3 : (30 : Int) < (rn : Int) := by omega
    have zHS0 : w1.cell? ⟨R, 0, none⟩ = some (.int .i64 sl) := by rw [cell_row HS.out]; rfl
    have zHS1 : w1.cell? ⟨R, 1, none⟩ = some (.int .i64 sr) := by rw [cell_row HS.out]; rfl
    have zHS2 : w1.cell? ⟨R, 2, none⟩ = some (.slice A n cap) := by rw [cell_row HS.out]; rfl
    have zHS3 : w1.cell? ⟨R, 3, none⟩ = some (.slice A2 kn kc) := by rw [cell_row HS.out]; rfl
    have zHC0 : w1.cell? ⟨R + 1, 0, none⟩ = some (.slice CL ln lc) := by rw [cell_row HC.out]; rfl
    have zHC1 : w1.cell? ⟨R + 1, 1, none⟩ = some (.slice CR rn rc) := by rw [cell_row HC.out]; rfl
    go_wp2_with fail
    clear zHS0 zHS1 zHS2 zHS3 zHC0 zHC1
    refine (works15 w1).mono ?_
    rintro en w2 ⟨rfl, hb⟩
    replace B := Lib.hid (B.out.trans (hb.mono B.out.size))
    clear hb
    go_wp2_with fail
    go_ret
    exact ⟨rfl, B.out⟩
  have d3 : ¬ (30 : Int) < (rn : Int) := by omega
  have zHS0 : w1.cell? ⟨R, 0, none⟩ = some (.int .i64 sl) := by rw [cell_row HS.out]; rfl
  have zHS1 : w1.cell? ⟨R, 1, none⟩ = some (.int .i64 sr) := by rw [cell_row HS.out]; rfl
  have zHS2 : w1.cell? ⟨R, 2, none⟩ = some (.slice A n cap) := by rw [cell_row HS.out]; rfl
  have zHS3 : w1.cell? ⟨R, 3, none⟩ = some (.slice A2 kn kc) := by rw [cell_row HS.out]; rfl
  have zHC0 : w1.cell? ⟨R + 1, 0, none⟩ = some (.slice CL ln lc) := by rw [cell_row HC.out]; rfl
  have zHC1 : w1.cell? ⟨R + 1, 1, none⟩ = some (.slice CR rn rc) := by rw [cell_row HC.out]; rfl
  go_wp2_with fail
  clear zHS0 zHS1 zHS2 zHS3 zHC0 zHC1
  have Hn := Lib.hid hn50
  have Hk := Lib.hid hk50
  have Hm := Lib.hid (show m ≤ 60 by omega)
  have Hl := Lib.hid (show ln ≤ 30 by omega)
  have Hr := Lib.hid (show rn ≤ 30 by omega)
  clear hn50 hk50 h1 h2 h3 d1 d2 d3
  refine (checkCover16 sl sr A n cap zs A2 kn kc ks CL ln lc cl CR rn rc cr w1 X.out XI.out hc9 XL.out XR.out (by have := Hn.out; omega) (by have := Hk.out; omega) (by have := Hl.out; omega) (by have := Hr.out; omega)).mono ?_
  rintro en w2 ⟨rfl, hb⟩
  replace X := Lib.hid (X.out.below hb (Nat.le_refl _))
  replace XI := Lib.hid (XI.out.below hb (Nat.le_refl _))
  replace XJ := Lib.hid (XJ.out.below hb (Nat.le_refl _))
  replace XL := Lib.hid (XL.out.below hb (Nat.le_refl _))
  replace XR := Lib.hid (XR.out.below hb (Nat.le_refl _))
  replace HS := Lib.hid ((hb.block _ (lt_of_block HS.out)).trans HS.out)
  replace HC := Lib.hid ((hb.block _ (lt_of_block HC.out)).trans HC.out)
  replace B := Lib.hid (B.out.trans (hb.mono B.out.size))
  obtain ⟨z, hz⟩ : ∃ v, szC sl sr zs ks cl cr = v := ⟨_, rfl⟩
  obtain ⟨q, hq⟩ : ∃ v, chkC sl sr zs ks cl cr = v := ⟨_, rfl⟩
  rw [hz, hq]
  have Hz := Lib.hid hz
  have Hq := Lib.hid hq
  clear hz hq
  try clear hb
  have zHS0 : w2.cell? ⟨R, 0, none⟩ = some (.int .i64 sl) := by rw [cell_row HS.out]; rfl
  have zHS1 : w2.cell? ⟨R, 1, none⟩ = some (.int .i64 sr) := by rw [cell_row HS.out]; rfl
  have zHS2 : w2.cell? ⟨R, 2, none⟩ = some (.slice A n cap) := by rw [cell_row HS.out]; rfl
  have zHS3 : w2.cell? ⟨R, 3, none⟩ = some (.slice A2 kn kc) := by rw [cell_row HS.out]; rfl
  have zHC0 : w2.cell? ⟨R + 1, 0, none⟩ = some (.slice CL ln lc) := by rw [cell_row HC.out]; rfl
  have zHC1 : w2.cell? ⟨R + 1, 1, none⟩ = some (.slice CR rn rc) := by rw [cell_row HC.out]; rfl
  go_wp2_with fail
  clear zHS0 zHS1 zHS2 zHS3 zHC0 zHC1
  refine (checkCover17 sl sr A n cap zs A2 kn kc ks CL ln lc cl CR rn rc cr w2 X.out XI.out XL.out XR.out (by have := Hn.out; omega) (by have := Hk.out; omega) (by have := Hl.out; omega) (by have := Hr.out; omega)).mono ?_
  rintro en w3 ⟨rfl, hb⟩
  replace X := Lib.hid (X.out.below hb (Nat.le_refl _))
  replace XI := Lib.hid (XI.out.below hb (Nat.le_refl _))
  replace XJ := Lib.hid (XJ.out.below hb (Nat.le_refl _))
  replace XL := Lib.hid (XL.out.below hb (Nat.le_refl _))
  replace XR := Lib.hid (XR.out.below hb (Nat.le_refl _))
  replace HS := Lib.hid ((hb.block _ (lt_of_block HS.out)).trans HS.out)
  replace HC := Lib.hid ((hb.block _ (lt_of_block HC.out)).trans HC.out)
  replace B := Lib.hid (B.out.trans (hb.mono B.out.size))
  rw [Hz.out, Hq.out]
  try clear hb
  have zHS0 : w3.cell? ⟨R, 0, none⟩ = some (.int .i64 sl) := by rw [cell_row HS.out]; rfl
  have zHS1 : w3.cell? ⟨R, 1, none⟩ = some (.int .i64 sr) := by rw [cell_row HS.out]; rfl
  have zHS2 : w3.cell? ⟨R, 2, none⟩ = some (.slice A n cap) := by rw [cell_row HS.out]; rfl
  have zHS3 : w3.cell? ⟨R, 3, none⟩ = some (.slice A2 kn kc) := by rw [cell_row HS.out]; rfl
  have zHC0 : w3.cell? ⟨R + 1, 0, none⟩ = some (.slice CL ln lc) := by rw [cell_row HC.out]; rfl
  have zHC1 : w3.cell? ⟨R + 1, 1, none⟩ = some (.slice CR rn rc) := by rw [cell_row HC.out]; rfl
  go_wp2_with fail
  refine wp_region_held_drew (S := fun w2 => Below w3.heap.size w3 w2) (by kernel_rfl) (drew_b _ _) (fun hS0 => ?_)
  refine wpAnyH_take (i := 0) (oi := { dst := some 43, op := Go.Op.load 25 (Go.Operand.tmp 3), type := 25, pos := "law.go:63", after := #[], guard := none }) (v := .agg #[.int .i64 sl, .int .i64 sr, .slice A n cap, .slice A2 kn kc]) rfl (by kernel_rfl) (by kernel_rfl) (by kernel_rfl) (fun _ _ _ h => h) (Or.inl ⟨by rfl, by intro w2 hSw; (try dsimp only at hSw); have y0 := (hSw.cell (lt_of_cell zHS0)).trans zHS0; have y1 := (hSw.cell (lt_of_cell zHS1)).trans zHS1; have y2 := (hSw.cell (lt_of_cell zHS2)).trans zHS2; have y3 := (hSw.cell (lt_of_cell zHS3)).trans zHS3; go_simp⟩) hS0 ?_
  try simp only [Act.put, List.setIfInBounds_toArray, List.set_cons_zero, List.set_cons_succ]
  refine wpAnyH_take (i := 2) (oi := { dst := some 45, op := Go.Op.load 25 (Go.Operand.tmp 3), type := 25, pos := "law.go:63", after := #[], guard := none }) (v := .agg #[.int .i64 sl, .int .i64 sr, .slice A n cap, .slice A2 kn kc]) rfl (by kernel_rfl) (by kernel_rfl) (by kernel_rfl) (fun _ _ _ h => h) (Or.inl ⟨by rfl, by intro w2 hSw; (try dsimp only at hSw); have y0 := (hSw.cell (lt_of_cell zHS0)).trans zHS0; have y1 := (hSw.cell (lt_of_cell zHS1)).trans zHS1; have y2 := (hSw.cell (lt_of_cell zHS2)).trans zHS2; have y3 := (hSw.cell (lt_of_cell zHS3)).trans zHS3; go_simp⟩) hS0 ?_
  try simp only [Act.put, List.setIfInBounds_toArray, List.set_cons_zero, List.set_cons_succ]
  refine wpAnyH_ready (rs := [1]) (by kernel_rfl) (by simp) ?_
  refine AllReadyH.cons (o := { dst := some 44, op := Go.Op.call { callee := Go.Callee.value (Go.Operand.func 18), args := #[Go.Operand.tmp 43], argTypes := #[25] }, type := 30, pos := "law.go:63", after := #[{ on := 0, ground := Go.Ground.data }], guard := none }) rfl (fun K2 hK => ?_) AllReadyH.nil
  go_simp
  refine (checkSheet18 sl sr A n cap zs A2 kn kc ks _ (X.out.below hS0 (Nat.le_refl _)) (XI.out.below hS0 (Nat.le_refl _)) hc9 (by have := Hn.out; omega) (by have := Hk.out; omega)).mono ?_
  rintro e9 V1 ⟨rfl, hb9⟩
  obtain ⟨a, ha⟩ : ∃ v, chkS sl sr zs ks = v := ⟨_, rfl⟩
  rw [ha]
  have Ha := Lib.hid ha
  clear ha
  (try go_simp)
  refine hK.out _ _ (hS0.trans (hb9.mono hS0.size)) (fun hS1 => ?_)
  clear hK K2 hb9
  try simp only [Act.put, List.setIfInBounds_toArray, List.set_cons_zero, List.set_cons_succ]
  refine wpAnyH_ready (rs := [3]) (by kernel_rfl) (by simp) ?_
  refine AllReadyH.cons (o := { dst := some 46, op := Go.Op.call { callee := Go.Callee.value (Go.Operand.func 19), args := #[Go.Operand.tmp 45], argTypes := #[25] }, type := 30, pos := "law.go:63", after := #[{ on := 2, ground := Go.Ground.data }, { on := 1, ground := Go.Ground.chain }], guard := none }) rfl (fun K2 hK => ?_) AllReadyH.nil
  go_simp
  refine (checkSheet19 sl sr A n cap zs A2 kn kc ks V1 (X.out.below hS1 (Nat.le_refl _)) (XI.out.below hS1 (Nat.le_refl _)) (by have := Hn.out; omega) (by have := Hk.out; omega)).mono ?_
  rintro e9 V2 ⟨rfl, hb9⟩
  rw [Ha.out]
  (try go_simp)
  refine hK.out _ _ (hS1.trans (hb9.mono hS1.size)) (fun hS2 => ?_)
  clear hK K2 hb9
  try simp only [Act.put, List.setIfInBounds_toArray, List.set_cons_zero, List.set_cons_succ]
  refine wpAnyH_take (i := 4) (oi := { dst := some 47, op := Go.Op.binOp Go.BinOp.eql 30 (Go.Operand.tmp 44) (Go.Operand.tmp 46) 30, type := 4, pos := "law.go:63", after := #[{ on := 1, ground := Go.Ground.data }, { on := 3, ground := Go.Ground.data }], guard := none }) (v := .bool true) rfl (by kernel_rfl) (by kernel_rfl) (by kernel_rfl) (fun _ _ _ h => h) (Or.inl ⟨by rfl, by intro w2 hSw; (try dsimp only at hSw); have y0 := (hSw.cell (lt_of_cell zHS0)).trans zHS0; have y1 := (hSw.cell (lt_of_cell zHS1)).trans zHS1; have y2 := (hSw.cell (lt_of_cell zHS2)).trans zHS2; have y3 := (hSw.cell (lt_of_cell zHS3)).trans zHS3; go_simp⟩) hS2 ?_
  try simp only [Act.put, List.setIfInBounds_toArray, List.set_cons_zero, List.set_cons_succ]
  refine wpAnyH_take (i := 5) (oi := { dst := some 48, op := Go.Op.move (Go.Operand.tmp 47), type := 4, pos := "law.go:63", after := #[{ on := 4, ground := Go.Ground.data }, { on := 3, ground := Go.Ground.chain }], guard := none }) (v := .bool true) rfl (by kernel_rfl) (by kernel_rfl) (by kernel_rfl) (fun _ _ _ h => h) (Or.inl ⟨by rfl, by intro w2 hSw; (try dsimp only at hSw); have y0 := (hSw.cell (lt_of_cell zHS0)).trans zHS0; have y1 := (hSw.cell (lt_of_cell zHS1)).trans zHS1; have y2 := (hSw.cell (lt_of_cell zHS2)).trans zHS2; have y3 := (hSw.cell (lt_of_cell zHS3)).trans zHS3; go_simp⟩) hS2 ?_
  try simp only [Act.put, List.setIfInBounds_toArray, List.set_cons_zero, List.set_cons_succ]
  refine wpAnyH_take (i := 6) (oi := { dst := some 49, op := Go.Op.load 25 (Go.Operand.tmp 3), type := 25, pos := "law.go:63", after := #[{ on := 5, ground := Go.Ground.guard }], guard := some (5, true) }) (v := .agg #[.int .i64 sl, .int .i64 sr, .slice A n cap, .slice A2 kn kc]) rfl (by kernel_rfl) (by kernel_rfl) (by kernel_rfl) (fun _ _ _ h => h) (Or.inl ⟨by rfl, by intro w2 hSw; (try dsimp only at hSw); have y0 := (hSw.cell (lt_of_cell zHS0)).trans zHS0; have y1 := (hSw.cell (lt_of_cell zHS1)).trans zHS1; have y2 := (hSw.cell (lt_of_cell zHS2)).trans zHS2; have y3 := (hSw.cell (lt_of_cell zHS3)).trans zHS3; go_simp⟩) hS2 ?_
  try simp only [Act.put, List.setIfInBounds_toArray, List.set_cons_zero, List.set_cons_succ]
  refine wpAnyH_take (i := 7) (oi := { dst := some 50, op := Go.Op.move (Go.Operand.tmp 1), type := 23, pos := "law.go:63", after := #[{ on := 5, ground := Go.Ground.guard }], guard := some (5, true) }) (v := .slice J m mc) rfl (by kernel_rfl) (by kernel_rfl) (by kernel_rfl) (fun _ _ _ h => h) (Or.inl ⟨by rfl, by intro w2 hSw; (try dsimp only at hSw); have y0 := (hSw.cell (lt_of_cell zHS0)).trans zHS0; have y1 := (hSw.cell (lt_of_cell zHS1)).trans zHS1; have y2 := (hSw.cell (lt_of_cell zHS2)).trans zHS2; have y3 := (hSw.cell (lt_of_cell zHS3)).trans zHS3; go_simp⟩) hS2 ?_
  try simp only [Act.put, List.setIfInBounds_toArray, List.set_cons_zero, List.set_cons_succ]
  refine wpAnyH_take (i := 9) (oi := { dst := some 52, op := Go.Op.load 25 (Go.Operand.tmp 3), type := 25, pos := "law.go:63", after := #[{ on := 5, ground := Go.Ground.guard }], guard := some (5, true) }) (v := .agg #[.int .i64 sl, .int .i64 sr, .slice A n cap, .slice A2 kn kc]) rfl (by kernel_rfl) (by kernel_rfl) (by kernel_rfl) (fun _ _ _ h => h) (Or.inl ⟨by rfl, by intro w2 hSw; (try dsimp only at hSw); have y0 := (hSw.cell (lt_of_cell zHS0)).trans zHS0; have y1 := (hSw.cell (lt_of_cell zHS1)).trans zHS1; have y2 := (hSw.cell (lt_of_cell zHS2)).trans zHS2; have y3 := (hSw.cell (lt_of_cell zHS3)).trans zHS3; go_simp⟩) hS2 ?_
  try simp only [Act.put, List.setIfInBounds_toArray, List.set_cons_zero, List.set_cons_succ]
  refine wpAnyH_take (i := 10) (oi := { dst := some 53, op := Go.Op.move (Go.Operand.tmp 1), type := 23, pos := "law.go:63", after := #[{ on := 5, ground := Go.Ground.guard }], guard := some (5, true) }) (v := .slice J m mc) rfl (by kernel_rfl) (by kernel_rfl) (by kernel_rfl) (fun _ _ _ h => h) (Or.inl ⟨by rfl, by intro w2 hSw; (try dsimp only at hSw); have y0 := (hSw.cell (lt_of_cell zHS0)).trans zHS0; have y1 := (hSw.cell (lt_of_cell zHS1)).trans zHS1; have y2 := (hSw.cell (lt_of_cell zHS2)).trans zHS2; have y3 := (hSw.cell (lt_of_cell zHS3)).trans zHS3; go_simp⟩) hS2 ?_
  try simp only [Act.put, List.setIfInBounds_toArray, List.set_cons_zero, List.set_cons_succ]
  refine wpAnyH_ready (rs := [8]) (by kernel_rfl) (by simp) ?_
  refine AllReadyH.cons (o := { dst := some 51, op := Go.Op.call { callee := Go.Callee.value (Go.Operand.func 20), args := #[Go.Operand.tmp 49, Go.Operand.tmp 50], argTypes := #[25, 23] }, type := 30, pos := "law.go:63", after := #[{ on := 6, ground := Go.Ground.data }, { on := 7, ground := Go.Ground.data }, { on := 5, ground := Go.Ground.chain }, { on := 5, ground := Go.Ground.guard }], guard := some (5, true) }) rfl (fun K2 hK => ?_) AllReadyH.nil
  go_simp
  refine (checkJoining20 sl sr A n cap zs A2 kn kc ks J m mc js V2 (X.out.below hS2 (Nat.le_refl _)) (XI.out.below hS2 (Nat.le_refl _)) (XJ.out.below hS2 (Nat.le_refl _)) hc9 (by have := Hn.out; omega) (by have := Hk.out; omega) (by have := Hm.out; omega)).mono ?_
  rintro e9 V3 ⟨rfl, hb9⟩
  obtain ⟨b, hbj⟩ : ∃ v, chkJ sl sr zs ks js = v := ⟨_, rfl⟩
  rw [hbj]
  have Hb := Lib.hid hbj
  clear hbj
  (try go_simp)
  refine hK.out _ _ (hS2.trans (hb9.mono hS2.size)) (fun hS3 => ?_)
  clear hK K2 hb9
  try simp only [Act.put, List.setIfInBounds_toArray, List.set_cons_zero, List.set_cons_succ]
  refine wpAnyH_ready (rs := [11]) (by kernel_rfl) (by simp) ?_
  refine AllReadyH.cons (o := { dst := some 54, op := Go.Op.call { callee := Go.Callee.value (Go.Operand.func 21), args := #[Go.Operand.tmp 52, Go.Operand.tmp 53], argTypes := #[25, 23] }, type := 30, pos := "law.go:63", after := #[{ on := 9, ground := Go.Ground.data }, { on := 10, ground := Go.Ground.data }, { on := 8, ground := Go.Ground.chain }, { on := 5, ground := Go.Ground.guard }], guard := some (5, true) }) rfl (fun K2 hK => ?_) AllReadyH.nil
  go_simp
  refine (checkJoining21 sl sr A n cap zs A2 kn kc ks J m mc js V3 (X.out.below hS3 (Nat.le_refl _)) (XI.out.below hS3 (Nat.le_refl _)) (XJ.out.below hS3 (Nat.le_refl _)) (by have := Hn.out; omega) (by have := Hk.out; omega) (by have := Hm.out; omega)).mono ?_
  rintro e9 V4 ⟨rfl, hb9⟩
  rw [Hb.out]
  (try go_simp)
  refine hK.out _ _ (hS3.trans (hb9.mono hS3.size)) (fun hS4 => ?_)
  clear hK K2 hb9
  try simp only [Act.put, List.setIfInBounds_toArray, List.set_cons_zero, List.set_cons_succ]
  refine wpAnyH_take (i := 12) (oi := { dst := some 55, op := Go.Op.binOp Go.BinOp.eql 30 (Go.Operand.tmp 51) (Go.Operand.tmp 54) 30, type := 4, pos := "law.go:63", after := #[{ on := 8, ground := Go.Ground.data }, { on := 11, ground := Go.Ground.data }, { on := 5, ground := Go.Ground.guard }], guard := some (5, true) }) (v := .bool true) rfl (by kernel_rfl) (by kernel_rfl) (by kernel_rfl) (fun _ _ _ h => h) (Or.inl ⟨by rfl, by intro w2 hSw; (try dsimp only at hSw); have y0 := (hSw.cell (lt_of_cell zHS0)).trans zHS0; have y1 := (hSw.cell (lt_of_cell zHS1)).trans zHS1; have y2 := (hSw.cell (lt_of_cell zHS2)).trans zHS2; have y3 := (hSw.cell (lt_of_cell zHS3)).trans zHS3; go_simp⟩) hS4 ?_
  try simp only [Act.put, List.setIfInBounds_toArray, List.set_cons_zero, List.set_cons_succ]
  refine wpAnyH_take (i := 13) (oi := { dst := some 56, op := Go.Op.pick (Go.Operand.tmp 48) (Go.Operand.tmp 55) (Go.Operand.const (Go.Value.bool false)), type := 4, pos := "law.go:63", after := #[{ on := 5, ground := Go.Ground.data }, { on := 12, ground := Go.Ground.data }], guard := none }) (v := .bool true) rfl (by kernel_rfl) (by kernel_rfl) (by kernel_rfl) (fun _ _ _ h => h) (Or.inl ⟨by rfl, by intro w2 hSw; (try dsimp only at hSw); have y0 := (hSw.cell (lt_of_cell zHS0)).trans zHS0; have y1 := (hSw.cell (lt_of_cell zHS1)).trans zHS1; have y2 := (hSw.cell (lt_of_cell zHS2)).trans zHS2; have y3 := (hSw.cell (lt_of_cell zHS3)).trans zHS3; go_simp⟩) hS4 ?_
  try simp only [Act.put, List.setIfInBounds_toArray, List.set_cons_zero, List.set_cons_succ]
  refine wpAnyH_take (i := 14) (oi := { dst := some 57, op := Go.Op.move (Go.Operand.tmp 56), type := 4, pos := "law.go:63", after := #[{ on := 13, ground := Go.Ground.data }, { on := 11, ground := Go.Ground.chain }], guard := none }) (v := .bool true) rfl (by kernel_rfl) (by kernel_rfl) (by kernel_rfl) (fun _ _ _ h => h) (Or.inl ⟨by rfl, by intro w2 hSw; (try dsimp only at hSw); have y0 := (hSw.cell (lt_of_cell zHS0)).trans zHS0; have y1 := (hSw.cell (lt_of_cell zHS1)).trans zHS1; have y2 := (hSw.cell (lt_of_cell zHS2)).trans zHS2; have y3 := (hSw.cell (lt_of_cell zHS3)).trans zHS3; go_simp⟩) hS4 ?_
  try simp only [Act.put, List.setIfInBounds_toArray, List.set_cons_zero, List.set_cons_succ]
  refine wpAnyH_take (i := 15) (oi := { dst := some 58, op := Go.Op.move (Go.Operand.tmp 7), type := 3, pos := "law.go:63", after := #[{ on := 14, ground := Go.Ground.guard }], guard := some (14, true) }) (v := .int .i64 z) rfl (by kernel_rfl) (by kernel_rfl) (by kernel_rfl) (fun _ _ _ h => h) (Or.inl ⟨by rfl, by intro w2 hSw; (try dsimp only at hSw); have y0 := (hSw.cell (lt_of_cell zHS0)).trans zHS0; have y1 := (hSw.cell (lt_of_cell zHS1)).trans zHS1; have y2 := (hSw.cell (lt_of_cell zHS2)).trans zHS2; have y3 := (hSw.cell (lt_of_cell zHS3)).trans zHS3; go_simp⟩) hS4 ?_
  try simp only [Act.put, List.setIfInBounds_toArray, List.set_cons_zero, List.set_cons_succ]
  refine wpAnyH_take (i := 16) (oi := { dst := some 59, op := Go.Op.move (Go.Operand.tmp 9), type := 3, pos := "law.go:63", after := #[{ on := 14, ground := Go.Ground.guard }], guard := some (14, true) }) (v := .int .i64 z) rfl (by kernel_rfl) (by kernel_rfl) (by kernel_rfl) (fun _ _ _ h => h) (Or.inl ⟨by rfl, by intro w2 hSw; (try dsimp only at hSw); have y0 := (hSw.cell (lt_of_cell zHS0)).trans zHS0; have y1 := (hSw.cell (lt_of_cell zHS1)).trans zHS1; have y2 := (hSw.cell (lt_of_cell zHS2)).trans zHS2; have y3 := (hSw.cell (lt_of_cell zHS3)).trans zHS3; go_simp⟩) hS4 ?_
  try simp only [Act.put, List.setIfInBounds_toArray, List.set_cons_zero, List.set_cons_succ]
  refine wpAnyH_take (i := 17) (oi := { dst := some 60, op := Go.Op.binOp Go.BinOp.eql 3 (Go.Operand.tmp 58) (Go.Operand.tmp 59) 3, type := 4, pos := "law.go:63", after := #[{ on := 15, ground := Go.Ground.data }, { on := 16, ground := Go.Ground.data }, { on := 14, ground := Go.Ground.guard }], guard := some (14, true) }) (v := .bool true) rfl (by kernel_rfl) (by kernel_rfl) (by kernel_rfl) (fun _ _ _ h => h) (Or.inl ⟨by rfl, by intro w2 hSw; (try dsimp only at hSw); have y0 := (hSw.cell (lt_of_cell zHS0)).trans zHS0; have y1 := (hSw.cell (lt_of_cell zHS1)).trans zHS1; have y2 := (hSw.cell (lt_of_cell zHS2)).trans zHS2; have y3 := (hSw.cell (lt_of_cell zHS3)).trans zHS3; go_simp⟩) hS4 ?_
  try simp only [Act.put, List.setIfInBounds_toArray, List.set_cons_zero, List.set_cons_succ]
  refine wpAnyH_take (i := 18) (oi := { dst := some 61, op := Go.Op.pick (Go.Operand.tmp 57) (Go.Operand.tmp 60) (Go.Operand.const (Go.Value.bool false)), type := 4, pos := "law.go:63", after := #[{ on := 14, ground := Go.Ground.data }, { on := 17, ground := Go.Ground.data }], guard := none }) (v := .bool true) rfl (by kernel_rfl) (by kernel_rfl) (by kernel_rfl) (fun _ _ _ h => h) (Or.inl ⟨by rfl, by intro w2 hSw; (try dsimp only at hSw); have y0 := (hSw.cell (lt_of_cell zHS0)).trans zHS0; have y1 := (hSw.cell (lt_of_cell zHS1)).trans zHS1; have y2 := (hSw.cell (lt_of_cell zHS2)).trans zHS2; have y3 := (hSw.cell (lt_of_cell zHS3)).trans zHS3; go_simp⟩) hS4 ?_
  try simp only [Act.put, List.setIfInBounds_toArray, List.set_cons_zero, List.set_cons_succ]
  refine wpAnyH_take (i := 19) (oi := { dst := some 62, op := Go.Op.move (Go.Operand.tmp 61), type := 4, pos := "law.go:63", after := #[{ on := 18, ground := Go.Ground.data }, { on := 14, ground := Go.Ground.chain }], guard := none }) (v := .bool true) rfl (by kernel_rfl) (by kernel_rfl) (by kernel_rfl) (fun _ _ _ h => h) (Or.inl ⟨by rfl, by intro w2 hSw; (try dsimp only at hSw); have y0 := (hSw.cell (lt_of_cell zHS0)).trans zHS0; have y1 := (hSw.cell (lt_of_cell zHS1)).trans zHS1; have y2 := (hSw.cell (lt_of_cell zHS2)).trans zHS2; have y3 := (hSw.cell (lt_of_cell zHS3)).trans zHS3; go_simp⟩) hS4 ?_
  try simp only [Act.put, List.setIfInBounds_toArray, List.set_cons_zero, List.set_cons_succ]
  refine wpAnyH_take (i := 20) (oi := { dst := some 63, op := Go.Op.move (Go.Operand.tmp 8), type := 30, pos := "law.go:63", after := #[{ on := 19, ground := Go.Ground.guard }], guard := some (19, true) }) (v := .int .i64 q) rfl (by kernel_rfl) (by kernel_rfl) (by kernel_rfl) (fun _ _ _ h => h) (Or.inl ⟨by rfl, by intro w2 hSw; (try dsimp only at hSw); have y0 := (hSw.cell (lt_of_cell zHS0)).trans zHS0; have y1 := (hSw.cell (lt_of_cell zHS1)).trans zHS1; have y2 := (hSw.cell (lt_of_cell zHS2)).trans zHS2; have y3 := (hSw.cell (lt_of_cell zHS3)).trans zHS3; go_simp⟩) hS4 ?_
  try simp only [Act.put, List.setIfInBounds_toArray, List.set_cons_zero, List.set_cons_succ]
  refine wpAnyH_take (i := 21) (oi := { dst := some 64, op := Go.Op.move (Go.Operand.tmp 10), type := 30, pos := "law.go:63", after := #[{ on := 19, ground := Go.Ground.guard }], guard := some (19, true) }) (v := .int .i64 q) rfl (by kernel_rfl) (by kernel_rfl) (by kernel_rfl) (fun _ _ _ h => h) (Or.inl ⟨by rfl, by intro w2 hSw; (try dsimp only at hSw); have y0 := (hSw.cell (lt_of_cell zHS0)).trans zHS0; have y1 := (hSw.cell (lt_of_cell zHS1)).trans zHS1; have y2 := (hSw.cell (lt_of_cell zHS2)).trans zHS2; have y3 := (hSw.cell (lt_of_cell zHS3)).trans zHS3; go_simp⟩) hS4 ?_
  try simp only [Act.put, List.setIfInBounds_toArray, List.set_cons_zero, List.set_cons_succ]
  refine wpAnyH_take (i := 22) (oi := { dst := some 65, op := Go.Op.binOp Go.BinOp.eql 30 (Go.Operand.tmp 63) (Go.Operand.tmp 64) 30, type := 4, pos := "law.go:63", after := #[{ on := 20, ground := Go.Ground.data }, { on := 21, ground := Go.Ground.data }, { on := 19, ground := Go.Ground.guard }], guard := some (19, true) }) (v := .bool true) rfl (by kernel_rfl) (by kernel_rfl) (by kernel_rfl) (fun _ _ _ h => h) (Or.inl ⟨by rfl, by intro w2 hSw; (try dsimp only at hSw); have y0 := (hSw.cell (lt_of_cell zHS0)).trans zHS0; have y1 := (hSw.cell (lt_of_cell zHS1)).trans zHS1; have y2 := (hSw.cell (lt_of_cell zHS2)).trans zHS2; have y3 := (hSw.cell (lt_of_cell zHS3)).trans zHS3; go_simp⟩) hS4 ?_
  try simp only [Act.put, List.setIfInBounds_toArray, List.set_cons_zero, List.set_cons_succ]
  refine wpAnyH_take (i := 23) (oi := { dst := some 66, op := Go.Op.pick (Go.Operand.tmp 62) (Go.Operand.tmp 65) (Go.Operand.const (Go.Value.bool false)), type := 4, pos := "law.go:63", after := #[{ on := 19, ground := Go.Ground.data }, { on := 22, ground := Go.Ground.data }], guard := none }) (v := .bool true) rfl (by kernel_rfl) (by kernel_rfl) (by kernel_rfl) (fun _ _ _ h => h) (Or.inl ⟨by rfl, by intro w2 hSw; (try dsimp only at hSw); have y0 := (hSw.cell (lt_of_cell zHS0)).trans zHS0; have y1 := (hSw.cell (lt_of_cell zHS1)).trans zHS1; have y2 := (hSw.cell (lt_of_cell zHS2)).trans zHS2; have y3 := (hSw.cell (lt_of_cell zHS3)).trans zHS3; go_simp⟩) hS4 ?_
  try simp only [Act.put, List.setIfInBounds_toArray, List.set_cons_zero, List.set_cons_succ]
  refine wpAnyH_take (i := 24) (oi := { dst := some 67, op := Go.Op.move (Go.Operand.tmp 66), type := 4, pos := "law.go:63", after := #[{ on := 23, ground := Go.Ground.data }, { on := 19, ground := Go.Ground.chain }], guard := none }) (v := .bool true) rfl (by kernel_rfl) (by kernel_rfl) (by kernel_rfl) (fun _ _ _ h => h) (Or.inl ⟨by rfl, by intro w2 hSw; (try dsimp only at hSw); have y0 := (hSw.cell (lt_of_cell zHS0)).trans zHS0; have y1 := (hSw.cell (lt_of_cell zHS1)).trans zHS1; have y2 := (hSw.cell (lt_of_cell zHS2)).trans zHS2; have y3 := (hSw.cell (lt_of_cell zHS3)).trans zHS3; go_simp⟩) hS4 ?_
  try simp only [Act.put, List.setIfInBounds_toArray, List.set_cons_zero, List.set_cons_succ]
  refine wpAnyH_ready (rs := [25]) (by kernel_rfl) (by simp) ?_
  refine AllReadyH.cons (o := { dst := some 68, op := Go.Op.call { callee := Go.Callee.value (Go.Operand.func 15), args := #[], argTypes := #[] }, type := 4, pos := "law.go:63", after := #[{ on := 24, ground := Go.Ground.chain }, { on := 24, ground := Go.Ground.guard }], guard := some (24, true) }) rfl (fun K2 hK => ?_) AllReadyH.nil
  go_simp
  refine (works15 V4).mono ?_
  rintro e9 V5 ⟨rfl, hb9⟩
  
  (try go_simp)
  refine hK.out _ _ (hS4.trans (hb9.mono hS4.size)) (fun hS5 => ?_)
  clear hK K2 hb9
  try simp only [Act.put, List.setIfInBounds_toArray, List.set_cons_zero, List.set_cons_succ]
  refine wpAnyH_take (i := 26) (oi := { dst := some 69, op := Go.Op.pick (Go.Operand.tmp 67) (Go.Operand.tmp 68) (Go.Operand.const (Go.Value.bool false)), type := 4, pos := "law.go:63", after := #[{ on := 24, ground := Go.Ground.data }, { on := 25, ground := Go.Ground.data }], guard := none }) (v := .bool true) rfl (by kernel_rfl) (by kernel_rfl) (by kernel_rfl) (fun _ _ _ h => h) (Or.inl ⟨by rfl, by intro w2 hSw; (try dsimp only at hSw); have y0 := (hSw.cell (lt_of_cell zHS0)).trans zHS0; have y1 := (hSw.cell (lt_of_cell zHS1)).trans zHS1; have y2 := (hSw.cell (lt_of_cell zHS2)).trans zHS2; have y3 := (hSw.cell (lt_of_cell zHS3)).trans zHS3; go_simp⟩) hS5 ?_
  try simp only [Act.put, List.setIfInBounds_toArray, List.set_cons_zero, List.set_cons_succ]
  refine wpAnyH_take (i := 27) (oi := { dst := some 6, op := Go.Op.assign (Go.Operand.tmp 69), type := 4, pos := "law.go:63", after := #[{ on := 26, ground := Go.Ground.data }, { on := 25, ground := Go.Ground.chain }, { on := 0, ground := Go.Ground.phase }, { on := 1, ground := Go.Ground.phase }, { on := 2, ground := Go.Ground.phase }, { on := 3, ground := Go.Ground.phase }, { on := 4, ground := Go.Ground.phase }, { on := 5, ground := Go.Ground.phase }, { on := 6, ground := Go.Ground.phase }, { on := 7, ground := Go.Ground.phase }, { on := 8, ground := Go.Ground.phase }, { on := 9, ground := Go.Ground.phase }, { on := 10, ground := Go.Ground.phase }, { on := 11, ground := Go.Ground.phase }, { on := 12, ground := Go.Ground.phase }, { on := 13, ground := Go.Ground.phase }, { on := 14, ground := Go.Ground.phase }, { on := 15, ground := Go.Ground.phase }, { on := 16, ground := Go.Ground.phase }, { on := 17, ground := Go.Ground.phase }, { on := 18, ground := Go.Ground.phase }, { on := 19, ground := Go.Ground.phase }, { on := 20, ground := Go.Ground.phase }, { on := 21, ground := Go.Ground.phase }, { on := 22, ground := Go.Ground.phase }, { on := 23, ground := Go.Ground.phase }, { on := 24, ground := Go.Ground.phase }, { on := 25, ground := Go.Ground.phase }, { on := 26, ground := Go.Ground.phase }], guard := none }) (v := .bool true) rfl (by kernel_rfl) (by kernel_rfl) (by kernel_rfl) (fun _ _ _ h => h) (Or.inl ⟨by rfl, by intro w2 hSw; (try dsimp only at hSw); have y0 := (hSw.cell (lt_of_cell zHS0)).trans zHS0; have y1 := (hSw.cell (lt_of_cell zHS1)).trans zHS1; have y2 := (hSw.cell (lt_of_cell zHS2)).trans zHS2; have y3 := (hSw.cell (lt_of_cell zHS3)).trans zHS3; go_simp⟩) hS5 ?_
  try simp only [Act.put, List.setIfInBounds_toArray, List.set_cons_zero, List.set_cons_succ]
  refine wpAnyH_done (by kernel_rfl) ?_ _
  go_wp2_with fail
  go_ret
  exact ⟨rfl, B.out.trans (hS5.mono B.out.size)⟩
end
end Go.Proofs.Ytnodkgejggnehaa
