/- Stage 5: ListAsks. -/
import Derived.Test.YtnodkgejggnehaaRq
import Derived.Test.YtnodkgejggnehaaGt
import Derived.Test.YtnodkgejggnehaaWk
namespace Go.Proofs.Ytnodkgejggnehaa
set_option linter.unusedSimpArgs false
set_option linter.unusedVariables false
open Go.RowKit Go.Shelf
section
attribute [local go_sem ↓] exec_app at_app
attribute [local go_sem] Oper.semAt_some
set_option maxRecDepth 100000 in
set_option maxHeartbeats 40000000 in
theorem ask31_bad (sl sr : Int) (A : Option Addr) (n cap : Nat) (zs : List Rg) (A2 : Option Addr) (kn kc : Nat) (ks : List Int) (w : World) (h : Rgs w A n zs) (hI : Ints w A2 kn ks) (hn : n ≤ 1000000) (hk : kn ≤ 1000) (he : chkS sl sr zs ks ≠ 0) :
    Calls Try.prog 31 #[.agg #[.int .i64 sl, .int .i64 sr, .slice A n cap, .slice A2 kn kc]] w fun e w' => e = .returned (.tuple #[.int .i64 0, .int .i64 0, .int .i64 (chkS sl sr zs ks)]) ∧ Below w.heap.size w w' := by
  have Hn := Lib.hid hn
  have Hk := Lib.hid hk
  clear hn hk
  obtain ⟨R, hR⟩ : ∃ v, w.heap.size = v := ⟨_, rfl⟩
  have hb0 := below_alloc_ w (.cells #[.int .i64 sl, .int .i64 sr, .slice A n cap, .slice A2 kn kc] 25)
  have hr0 := heap_alloc_new_ w (.cells #[.int .i64 sl, .int .i64 sr, .slice A n cap, .slice A2 kn kc] 25)
  have hz0 : (w.alloc (.cells #[.int .i64 sl, .int .i64 sr, .slice A n cap, .slice A2 kn kc] 25)).heap.size = w.heap.size + 1 := by simp
  obtain ⟨w0, hw0⟩ : ∃ v, w.alloc (.cells #[.int .i64 sl, .int .i64 sr, .slice A n cap, .slice A2 kn kc] 25) = v := ⟨_, rfl⟩
  rw [hw0] at hb0 hr0 hz0
  rw [hR] at hr0 hz0
  have hB := hb0
  have X := Lib.hid (h.below hB (Nat.le_refl _))
  have XI := Lib.hid (hI.below hB (Nat.le_refl _))
  have HS := Lib.hid hr0
  have HW0 := Lib.hid hw0
  have B := Lib.hid hB
  have HR := Lib.hid hR
  clear hB hR hb0 hr0 hz0 hw0 h hI
  obtain ⟨a, ha⟩ : ∃ v, chkS sl sr zs ks = v := ⟨_, rfl⟩
  rw [ha] at he
  have Ha := Lib.hid ha
  rw [ha]
  clear ha
  have d9 : (a != 0) = true := by rw [bne_iff_ne]; exact he
  have zHS0 : w0.cell? ⟨R, 0, none⟩ = some (.int .i64 sl) := by rw [cell_row HS.out]; rfl
  have zHS1 : w0.cell? ⟨R, 1, none⟩ = some (.int .i64 sr) := by rw [cell_row HS.out]; rfl
  have zHS2 : w0.cell? ⟨R, 2, none⟩ = some (.slice A n cap) := by rw [cell_row HS.out]; rfl
  have zHS3 : w0.cell? ⟨R, 3, none⟩ = some (.slice A2 kn kc) := by rw [cell_row HS.out]; rfl
  go_enter Try.func31, Try.ntmps31
  go_wp2_with fail
  try rw [HW0.out]
  try rw [HR.out]
  try simp only [Nat.add_assoc, Nat.reduceAdd]
  try go_wp2_with fail
  clear zHS0 zHS1 zHS2 zHS3
  refine (checkSheet19 sl sr A n cap zs A2 kn kc ks w0 X.out XI.out (by have := Hn.out; omega) (by have := Hk.out; omega)).mono ?_
  rintro en w1 ⟨rfl, hb⟩
  replace X := Lib.hid (X.out.below hb (Nat.le_refl _))
  replace XI := Lib.hid (XI.out.below hb (Nat.le_refl _))
  replace HS := Lib.hid ((hb.block _ (lt_of_block HS.out)).trans HS.out)
  replace B := Lib.hid (B.out.trans (hb.mono B.out.size))
  rw [Ha.out]
  try clear hb
  have zHS0 : w1.cell? ⟨R, 0, none⟩ = some (.int .i64 sl) := by rw [cell_row HS.out]; rfl
  have zHS1 : w1.cell? ⟨R, 1, none⟩ = some (.int .i64 sr) := by rw [cell_row HS.out]; rfl
  have zHS2 : w1.cell? ⟨R, 2, none⟩ = some (.slice A n cap) := by rw [cell_row HS.out]; rfl
  have zHS3 : w1.cell? ⟨R, 3, none⟩ = some (.slice A2 kn kc) := by rw [cell_row HS.out]; rfl
  go_wp2_with fail
  clear zHS0 zHS1 zHS2 zHS3
  refine (checkSheet19 sl sr A n cap zs A2 kn kc ks w1 X.out XI.out (by have := Hn.out; omega) (by have := Hk.out; omega)).mono ?_
  rintro en w2 ⟨rfl, hb⟩
  replace X := Lib.hid (X.out.below hb (Nat.le_refl _))
  replace XI := Lib.hid (XI.out.below hb (Nat.le_refl _))
  replace HS := Lib.hid ((hb.block _ (lt_of_block HS.out)).trans HS.out)
  replace B := Lib.hid (B.out.trans (hb.mono B.out.size))
  rw [Ha.out]
  try clear hb
  have zHS0 : w2.cell? ⟨R, 0, none⟩ = some (.int .i64 sl) := by rw [cell_row HS.out]; rfl
  have zHS1 : w2.cell? ⟨R, 1, none⟩ = some (.int .i64 sr) := by rw [cell_row HS.out]; rfl
  have zHS2 : w2.cell? ⟨R, 2, none⟩ = some (.slice A n cap) := by rw [cell_row HS.out]; rfl
  have zHS3 : w2.cell? ⟨R, 3, none⟩ = some (.slice A2 kn kc) := by rw [cell_row HS.out]; rfl
  go_wp2_with fail
  clear zHS0 zHS1 zHS2 zHS3
  go_ret3
  exact ⟨rfl, B.out⟩
theorem asks6 (sl sr : Int) (A : Option Addr) (n cap : Nat) (zs : List Rg) (A2 : Option Addr) (kn kc : Nat) (ks : List Int) (w : World) (h : Rgs w A n zs) (hI : Ints w A2 kn ks) (hc9 : n ≤ cap) :
    Calls Try.prog 6 #[.agg #[.int .i64 sl, .int .i64 sr, .slice A n cap, .slice A2 kn kc]] w fun e w' => e = .returned (.bool true) ∧ Below w.heap.size w w' := by
  have Hc9 := Lib.hid hc9
  have hzl := h.1
  have hkl := hI.1
  have Hzl := Lib.hid hzl
  have Hkl := Lib.hid hkl
  clear hc9 hzl hkl
  obtain ⟨R, hR⟩ : ∃ v, w.heap.size = v := ⟨_, rfl⟩
  have hb0 := below_alloc_ w (.cells #[.int .i64 sl, .int .i64 sr, .slice A n cap, .slice A2 kn kc] 25)
  have hr0 := heap_alloc_new_ w (.cells #[.int .i64 sl, .int .i64 sr, .slice A n cap, .slice A2 kn kc] 25)
  have hz0 : (w.alloc (.cells #[.int .i64 sl, .int .i64 sr, .slice A n cap, .slice A2 kn kc] 25)).heap.size = w.heap.size + 1 := by simp
  obtain ⟨w0, hw0⟩ : ∃ v, w.alloc (.cells #[.int .i64 sl, .int .i64 sr, .slice A n cap, .slice A2 kn kc] 25) = v := ⟨_, rfl⟩
  rw [hw0] at hb0 hr0 hz0
  rw [hR] at hr0 hz0
  have hB := hb0
  have X := Lib.hid (h.below hB (Nat.le_refl _))
  have XI := Lib.hid (hI.below hB (Nat.le_refl _))
  have HS := Lib.hid hr0
  have HW0 := Lib.hid hw0
  have B := Lib.hid hB
  have HR := Lib.hid hR
  clear hB hR hb0 hr0 hz0 hw0 h hI
  have zHS0 : w0.cell? ⟨R, 0, none⟩ = some (.int .i64 sl) := by rw [cell_row HS.out]; rfl
  have zHS1 : w0.cell? ⟨R, 1, none⟩ = some (.int .i64 sr) := by rw [cell_row HS.out]; rfl
  have zHS2 : w0.cell? ⟨R, 2, none⟩ = some (.slice A n cap) := by rw [cell_row HS.out]; rfl
  have zHS3 : w0.cell? ⟨R, 3, none⟩ = some (.slice A2 kn kc) := by rw [cell_row HS.out]; rfl
  go_enter Try.func6, Try.ntmps6
  go_wp2_with fail
  try rw [HW0.out]
  try rw [HR.out]
  try simp only [Nat.add_assoc, Nat.reduceAdd]
  try go_wp2_with fail
  clear zHS0 zHS1 zHS2 zHS3
  refine (great14 sl sr A n cap zs A2 kn kc ks w0).mono ?_
  rintro en w1 ⟨rfl, hb⟩
  replace X := Lib.hid (X.out.below hb (Nat.le_refl _))
  replace XI := Lib.hid (XI.out.below hb (Nat.le_refl _))
  replace HS := Lib.hid ((hb.block _ (lt_of_block HS.out)).trans HS.out)
  replace B := Lib.hid (B.out.trans (hb.mono B.out.size))
  cases hg : grt n kn
  rotate_left
  try clear hb
  · clear hg
    have zHS0 : w1.cell? ⟨R, 0, none⟩ = some (.int .i64 sl) := by rw [cell_row HS.out]; rfl
    have zHS1 : w1.cell? ⟨R, 1, none⟩ = some (.int .i64 sr) := by rw [cell_row HS.out]; rfl
    have zHS2 : w1.cell? ⟨R, 2, none⟩ = some (.slice A n cap) := by rw [cell_row HS.out]; rfl
    have zHS3 : w1.cell? ⟨R, 3, none⟩ = some (.slice A2 kn kc) := by rw [cell_row HS.out]; rfl
    go_wp2_with fail
    clear zHS0 zHS1 zHS2 zHS3
    refine (works15 w1).mono ?_
    rintro en w2 ⟨rfl, hb⟩
    replace B := Lib.hid (B.out.trans (hb.mono B.out.size))
    clear hb
    go_wp2_with fail
    go_ret
    exact ⟨rfl, B.out⟩
  have hn50 := (grt_no hg).1
  have hk50 := (grt_no hg).2
  clear hg
  have Hn := Lib.hid hn50
  have Hk := Lib.hid hk50
  clear hn50 hk50
  have zHS0 : w1.cell? ⟨R, 0, none⟩ = some (.int .i64 sl) := by rw [cell_row HS.out]; rfl
  have zHS1 : w1.cell? ⟨R, 1, none⟩ = some (.int .i64 sr) := by rw [cell_row HS.out]; rfl
  have zHS2 : w1.cell? ⟨R, 2, none⟩ = some (.slice A n cap) := by rw [cell_row HS.out]; rfl
  have zHS3 : w1.cell? ⟨R, 3, none⟩ = some (.slice A2 kn kc) := by rw [cell_row HS.out]; rfl
  go_wp2_with fail
  clear zHS0 zHS1 zHS2 zHS3
  refine (checkSheet19 sl sr A n cap zs A2 kn kc ks w1 X.out XI.out (by have := Hn.out; omega) (by have := Hk.out; omega)).mono ?_
  rintro en w2 ⟨rfl, hb⟩
  replace X := Lib.hid (X.out.below hb (Nat.le_refl _))
  replace XI := Lib.hid (XI.out.below hb (Nat.le_refl _))
  replace HS := Lib.hid ((hb.block _ (lt_of_block HS.out)).trans HS.out)
  replace B := Lib.hid (B.out.trans (hb.mono B.out.size))
  by_cases he : chkS sl sr zs ks = 0
  rotate_left
  try clear hb
  · obtain ⟨a, ha⟩ : ∃ v, chkS sl sr zs ks = v := ⟨_, rfl⟩
    have Ha := Lib.hid ha
    have Hne := Lib.hid he
    rw [ha]
    have d9 : (a == 0) = false := by rw [beq_eq_false_iff_ne]; exact fun e => he (ha.trans e)
    clear ha he
    have zHS0 : w2.cell? ⟨R, 0, none⟩ = some (.int .i64 sl) := by rw [cell_row HS.out]; rfl
    have zHS1 : w2.cell? ⟨R, 1, none⟩ = some (.int .i64 sr) := by rw [cell_row HS.out]; rfl
    have zHS2 : w2.cell? ⟨R, 2, none⟩ = some (.slice A n cap) := by rw [cell_row HS.out]; rfl
    have zHS3 : w2.cell? ⟨R, 3, none⟩ = some (.slice A2 kn kc) := by rw [cell_row HS.out]; rfl
    go_wp2_with fail
    clear zHS0 zHS1 zHS2 zHS3
    refine (ask30_bad sl sr A n cap zs A2 kn kc ks w2 X.out XI.out Hc9.out (by have := Hn.out; omega) (by have := Hk.out; omega) Hne.out).mono ?_
    rintro en w3 ⟨rfl, hb⟩
    replace X := Lib.hid (X.out.below hb (Nat.le_refl _))
    replace XI := Lib.hid (XI.out.below hb (Nat.le_refl _))
    replace HS := Lib.hid ((hb.block _ (lt_of_block HS.out)).trans HS.out)
    replace B := Lib.hid (B.out.trans (hb.mono B.out.size))
    rw [Ha.out]
    try clear hb
    have zHS0 : w3.cell? ⟨R, 0, none⟩ = some (.int .i64 sl) := by rw [cell_row HS.out]; rfl
    have zHS1 : w3.cell? ⟨R, 1, none⟩ = some (.int .i64 sr) := by rw [cell_row HS.out]; rfl
    have zHS2 : w3.cell? ⟨R, 2, none⟩ = some (.slice A n cap) := by rw [cell_row HS.out]; rfl
    have zHS3 : w3.cell? ⟨R, 3, none⟩ = some (.slice A2 kn kc) := by rw [cell_row HS.out]; rfl
    go_wp2_with fail
    clear zHS0 zHS1 zHS2 zHS3
    refine (ask31_bad sl sr A n cap zs A2 kn kc ks w3 X.out XI.out (by have := Hn.out; omega) (by have := Hk.out; omega) Hne.out).mono ?_
    rintro en w4 ⟨rfl, hb⟩
    replace X := Lib.hid (X.out.below hb (Nat.le_refl _))
    replace XI := Lib.hid (XI.out.below hb (Nat.le_refl _))
    replace HS := Lib.hid ((hb.block _ (lt_of_block HS.out)).trans HS.out)
    replace B := Lib.hid (B.out.trans (hb.mono B.out.size))
    rw [Ha.out]
    have d8 : (a == a) = true := by simp
    try clear hb
    have zHS0 : w4.cell? ⟨R, 0, none⟩ = some (.int .i64 sl) := by rw [cell_row HS.out]; rfl
    have zHS1 : w4.cell? ⟨R, 1, none⟩ = some (.int .i64 sr) := by rw [cell_row HS.out]; rfl
    have zHS2 : w4.cell? ⟨R, 2, none⟩ = some (.slice A n cap) := by rw [cell_row HS.out]; rfl
    have zHS3 : w4.cell? ⟨R, 3, none⟩ = some (.slice A2 kn kc) := by rw [cell_row HS.out]; rfl
    go_wp2_with fail
    clear zHS0 zHS1 zHS2 zHS3
    refine (works15 w4).mono ?_
    rintro en w5 ⟨rfl, hb⟩
    replace B := Lib.hid (B.out.trans (hb.mono B.out.size))
    clear hb
    go_wp2_with fail
    go_ret
    exact ⟨rfl, B.out⟩
  rw [he]
  have He := Lib.hid he
  clear he
  by_cases hn12 : 12 < n
  · have d1 : (n : Int) > 12 := by omega
    have d2 : (12 : Int) < (n : Int) := by omega
    have zHS0 : w2.cell? ⟨R, 0, none⟩ = some (.int .i64 sl) := by rw [cell_row HS.out]; rfl
    have zHS1 : w2.cell? ⟨R, 1, none⟩ = some (.int .i64 sr) := by rw [cell_row HS.out]; rfl
    have zHS2 : w2.cell? ⟨R, 2, none⟩ = some (.slice A n cap) := by rw [cell_row HS.out]; rfl
    have zHS3 : w2.cell? ⟨R, 3, none⟩ = some (.slice A2 kn kc) := by rw [cell_row HS.out]; rfl
    go_wp2_with fail
    clear zHS0 zHS1 zHS2 zHS3
    refine (works15 w2).mono ?_
    rintro en w3 ⟨rfl, hb⟩
    replace B := Lib.hid (B.out.trans (hb.mono B.out.size))
    clear hb
    go_wp2_with fail
    go_ret
    exact ⟨rfl, B.out⟩
  have d1 : ¬ (n : Int) > 12 := by omega
  have d2 : ¬ (12 : Int) < (n : Int) := by omega
  by_cases hr6 : 6 < sr
  · have d3 : sr > 6 := hr6
    have zHS0 : w2.cell? ⟨R, 0, none⟩ = some (.int .i64 sl) := by rw [cell_row HS.out]; rfl
    have zHS1 : w2.cell? ⟨R, 1, none⟩ = some (.int .i64 sr) := by rw [cell_row HS.out]; rfl
    have zHS2 : w2.cell? ⟨R, 2, none⟩ = some (.slice A n cap) := by rw [cell_row HS.out]; rfl
    have zHS3 : w2.cell? ⟨R, 3, none⟩ = some (.slice A2 kn kc) := by rw [cell_row HS.out]; rfl
    go_wp2_with fail
    clear zHS0 zHS1 zHS2 zHS3
    refine (works15 w2).mono ?_
    rintro en w3 ⟨rfl, hb⟩
    replace B := Lib.hid (B.out.trans (hb.mono B.out.size))
    clear hb
    go_wp2_with fail
    go_ret
    exact ⟨rfl, B.out⟩
  have d3 : ¬ sr > 6 := hr6
  have zHS0 : w2.cell? ⟨R, 0, none⟩ = some (.int .i64 sl) := by rw [cell_row HS.out]; rfl
  have zHS1 : w2.cell? ⟨R, 1, none⟩ = some (.int .i64 sr) := by rw [cell_row HS.out]; rfl
  have zHS2 : w2.cell? ⟨R, 2, none⟩ = some (.slice A n cap) := by rw [cell_row HS.out]; rfl
  have zHS3 : w2.cell? ⟨R, 3, none⟩ = some (.slice A2 kn kc) := by rw [cell_row HS.out]; rfl
  go_wp2_with fail
  clear zHS0 zHS1 zHS2 zHS3
  clear d1 d2 d3 hn12 hr6
  refine (ask30 sl sr A n cap zs A2 kn kc ks w2 X.out XI.out Hc9.out (by have := Hn.out; omega) (by have := Hk.out; omega) He.out).mono ?_
  rintro en w3 ⟨rfl, hb⟩
  replace X := Lib.hid (X.out.below hb (Nat.le_refl _))
  replace XI := Lib.hid (XI.out.below hb (Nat.le_refl _))
  replace HS := Lib.hid ((hb.block _ (lt_of_block HS.out)).trans HS.out)
  replace B := Lib.hid (B.out.trans (hb.mono B.out.size))
  obtain ⟨hd1, hd2⟩ := ask_doc He.out Hzl.out
  rw [hd2]
  rw [Hkl.out] at hd1 ⊢
  have Hd1 := Lib.hid hd1
  clear hd1 hd2
  obtain ⟨xa, hxa⟩ : ∃ v, bestA (askQ n zs (opnL n zs ks) (kNt ks)) = v := ⟨_, rfl⟩
  obtain ⟨xb, hxb⟩ : ∃ v, bestB (docR n zs ks kn) (askQ n zs (opnL n zs ks) (kNt ks)) = v := ⟨_, rfl⟩
  obtain ⟨xe, hxe⟩ : ∃ v, askE (askQ n zs (opnL n zs ks) (kNt ks)) = v := ⟨_, rfl⟩
  rw [hxa, hxb, hxe]
  have Hxa := Lib.hid hxa
  have Hxb := Lib.hid hxb
  have Hxe := Lib.hid hxe
  clear hxa hxb hxe
  try clear hb
  have zHS0 : w3.cell? ⟨R, 0, none⟩ = some (.int .i64 sl) := by rw [cell_row HS.out]; rfl
  have zHS1 : w3.cell? ⟨R, 1, none⟩ = some (.int .i64 sr) := by rw [cell_row HS.out]; rfl
  have zHS2 : w3.cell? ⟨R, 2, none⟩ = some (.slice A n cap) := by rw [cell_row HS.out]; rfl
  have zHS3 : w3.cell? ⟨R, 3, none⟩ = some (.slice A2 kn kc) := by rw [cell_row HS.out]; rfl
  go_wp2_with fail
  clear zHS0 zHS1 zHS2 zHS3
  refine (ask31 sl sr A n cap zs A2 kn kc ks w3 X.out XI.out (by have := Hk.out; omega) He.out).mono ?_
  rintro en w4 ⟨rfl, hb⟩
  replace X := Lib.hid (X.out.below hb (Nat.le_refl _))
  replace XI := Lib.hid (XI.out.below hb (Nat.le_refl _))
  replace HS := Lib.hid ((hb.block _ (lt_of_block HS.out)).trans HS.out)
  replace B := Lib.hid (B.out.trans (hb.mono B.out.size))
  rw [← Hd1.out, Hxa.out, Hxb.out, Hxe.out]
  have da : (xa == xa) = true := by simp
  have db : (xb == xb) = true := by simp
  have de : (xe == xe) = true := by simp
  try clear hb
  have zHS0 : w4.cell? ⟨R, 0, none⟩ = some (.int .i64 sl) := by rw [cell_row HS.out]; rfl
  have zHS1 : w4.cell? ⟨R, 1, none⟩ = some (.int .i64 sr) := by rw [cell_row HS.out]; rfl
  have zHS2 : w4.cell? ⟨R, 2, none⟩ = some (.slice A n cap) := by rw [cell_row HS.out]; rfl
  have zHS3 : w4.cell? ⟨R, 3, none⟩ = some (.slice A2 kn kc) := by rw [cell_row HS.out]; rfl
  go_wp2_with fail
  clear zHS0 zHS1 zHS2 zHS3
  refine (works15 w4).mono ?_
  rintro en w5 ⟨rfl, hb⟩
  replace B := Lib.hid (B.out.trans (hb.mono B.out.size))
  clear hb
  go_wp2_with fail
  go_ret
  exact ⟨rfl, B.out⟩
end
end Go.Proofs.Ytnodkgejggnehaa
