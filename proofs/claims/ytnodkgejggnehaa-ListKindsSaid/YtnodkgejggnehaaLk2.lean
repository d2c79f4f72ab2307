/- Stage 5: ListKinds. -/
import Derived.Test.YtnodkgejggnehaaI8
import Derived.Test.YtnodkgejggnehaaGt
import Derived.Test.YtnodkgejggnehaaWm
import Derived.Test.YtnodkgejggnehaaWk
namespace Go.Proofs.Ytnodkgejggnehaa
set_option linter.unusedSimpArgs false
set_option linter.unusedVariables false
open Go.RowKit Go.Shelf
section
attribute [local go_sem ↓] exec_app at_app
attribute [local go_sem] Oper.semAt_some
set_option maxRecDepth 100000 in
set_option maxHeartbeats 40000000 in
theorem items28_bad (sl sr : Int) (A : Option Addr) (n cap : Nat) (zs : List Rg) (A2 : Option Addr) (kn kc : Nat) (ks : List Int) (rt : Bool) (w : World) (h : Rgs w A n zs) (hI : Ints w A2 kn ks) (hn : n ≤ 1000000) (hk : kn ≤ 1000) (he : chkS sl sr zs ks ≠ 0) :
    Calls Try.prog 28 #[.agg #[.int .i64 sl, .int .i64 sr, .slice A n cap, .slice A2 kn kc], .bool rt] w fun e w' => e = .returned (.tuple #[.slice none 0 0, .int .i64 (chkS sl sr zs ks)]) ∧ Below w.heap.size w w' := by
  have Hn := Lib.hid hn
  have Hk := Lib.hid hk
  clear hn hk
  obtain ⟨R, hR⟩ : ∃ v, w.heap.size = v := ⟨_, rfl⟩
  have hb0 := below_alloc_ w (.cells #[.int .i64 sl, .int .i64 sr, .slice A n cap, .slice A2 kn kc] 25)
  have hr0 := heap_alloc_new_ w (.cells #[.int .i64 sl, .int .i64 sr, .slice A n cap, .slice A2 kn kc] 25)
  have hz0 : (w.alloc (.cells #[.int .i64 sl, .int .i64 sr, .slice A n cap, .slice A2 kn kc] 25)).heap.size = w.heap.size + 1 := by simp
  obtain ⟨w0, hw0⟩ : ∃ v, w.alloc (.cells #[.int .i64 sl, .int .i64 sr, .slice A n cap, .slice A2 kn kc] 25) = v := ⟨_, rfl⟩
  rw [hw0] at hb0 hr0 hz0
  rw [hR] at hr0 hz0
  have hB := hb0
  have X := Lib.hid (h.below hB (Nat.le_refl _))
  have XI := Lib.hid (hI.below hB (Nat.le_refl _))
  have HS := Lib.hid hr0
  have HW0 := Lib.hid hw0
  have B := Lib.hid hB
  have HR := Lib.hid hR
  clear hB hR hb0 hr0 hz0 hw0 h hI
  obtain ⟨a, ha⟩ : ∃ v, chkS sl sr zs ks = v := ⟨_, rfl⟩
  rw [ha] at he
  have Ha := Lib.hid ha
  rw [ha]
  clear ha
  have d9 : (a != 0) = true := by rw [bne_iff_ne]; exact he
  have zHS0 : w0.cell? ⟨R, 0, none⟩ = some (.int .i64 sl) := by rw [cell_row HS.out]; rfl
  have zHS1 : w0.cell? ⟨R, 1, none⟩ = some (.int .i64 sr) := by rw [cell_row HS.out]; rfl
  have zHS2 : w0.cell? ⟨R, 2, none⟩ = some (.slice A n cap) := by rw [cell_row HS.out]; rfl
  have zHS3 : w0.cell? ⟨R, 3, none⟩ = some (.slice A2 kn kc) := by rw [cell_row HS.out]; rfl
  go_enter Try.func28, Try.ntmps28
  go_wp2_with fail
  try rw [HW0.out]
  try rw [HR.out]
  try simp only [Nat.add_assoc, Nat.reduceAdd]
  try go_wp2_with fail
  clear zHS0 zHS1 zHS2 zHS3
  refine (checkSheet19 sl sr A n cap zs A2 kn kc ks w0 X.out XI.out (by have := Hn.out; omega) (by have := Hk.out; omega)).mono ?_
  rintro en w1 ⟨rfl, hb⟩
  replace X := Lib.hid (X.out.below hb (Nat.le_refl _))
  replace XI := Lib.hid (XI.out.below hb (Nat.le_refl _))
  replace HS := Lib.hid ((hb.block _ (lt_of_block HS.out)).trans HS.out)
  replace B := Lib.hid (B.out.trans (hb.mono B.out.size))
  rw [Ha.out]
  try clear hb
  have zHS0 : w1.cell? ⟨R, 0, none⟩ = some (.int .i64 sl) := by rw [cell_row HS.out]; rfl
  have zHS1 : w1.cell? ⟨R, 1, none⟩ = some (.int .i64 sr) := by rw [cell_row HS.out]; rfl
  have zHS2 : w1.cell? ⟨R, 2, none⟩ = some (.slice A n cap) := by rw [cell_row HS.out]; rfl
  have zHS3 : w1.cell? ⟨R, 3, none⟩ = some (.slice A2 kn kc) := by rw [cell_row HS.out]; rfl
  go_wp2_with fail
  clear zHS0 zHS1 zHS2 zHS3
  refine (checkSheet19 sl sr A n cap zs A2 kn kc ks w1 X.out XI.out (by have := Hn.out; omega) (by have := Hk.out; omega)).mono ?_
  rintro en w2 ⟨rfl, hb⟩
  replace X := Lib.hid (X.out.below hb (Nat.le_refl _))
  replace XI := Lib.hid (XI.out.below hb (Nat.le_refl _))
  replace HS := Lib.hid ((hb.block _ (lt_of_block HS.out)).trans HS.out)
  replace B := Lib.hid (B.out.trans (hb.mono B.out.size))
  rw [Ha.out]
  try clear hb
  have zHS0 : w2.cell? ⟨R, 0, none⟩ = some (.int .i64 sl) := by rw [cell_row HS.out]; rfl
  have zHS1 : w2.cell? ⟨R, 1, none⟩ = some (.int .i64 sr) := by rw [cell_row HS.out]; rfl
  have zHS2 : w2.cell? ⟨R, 2, none⟩ = some (.slice A n cap) := by rw [cell_row HS.out]; rfl
  have zHS3 : w2.cell? ⟨R, 3, none⟩ = some (.slice A2 kn kc) := by rw [cell_row HS.out]; rfl
  go_wp2_with fail
  clear zHS0 zHS1 zHS2 zHS3
  go_ret2
  exact ⟨rfl, B.out⟩
theorem kinds5 (sl sr : Int) (A : Option Addr) (n cap : Nat) (zs : List Rg) (A2 : Option Addr) (kn kc : Nat) (ks : List Int) (rt : Bool) (w : World) (h : Rgs w A n zs) (hI : Ints w A2 kn ks) (hc9 : n ≤ cap) :
    Calls Try.prog 5 #[.agg #[.int .i64 sl, .int .i64 sr, .slice A n cap, .slice A2 kn kc], .bool rt] w fun e w' => e = .returned (.bool true) ∧ Below w.heap.size w w' := by
  have Hc9 := Lib.hid hc9
  clear hc9
  obtain ⟨R, hR⟩ : ∃ v, w.heap.size = v := ⟨_, rfl⟩
  have hb0 := below_alloc_ w (.cells #[.int .i64 sl, .int .i64 sr, .slice A n cap, .slice A2 kn kc] 25)
  have hr0 := heap_alloc_new_ w (.cells #[.int .i64 sl, .int .i64 sr, .slice A n cap, .slice A2 kn kc] 25)
  have hz0 : (w.alloc (.cells #[.int .i64 sl, .int .i64 sr, .slice A n cap, .slice A2 kn kc] 25)).heap.size = w.heap.size + 1 := by simp
  obtain ⟨w0, hw0⟩ : ∃ v, w.alloc (.cells #[.int .i64 sl, .int .i64 sr, .slice A n cap, .slice A2 kn kc] 25) = v := ⟨_, rfl⟩
  rw [hw0] at hb0 hr0 hz0
  rw [hR] at hr0 hz0
  have hB := hb0
  have X := Lib.hid (h.below hB (Nat.le_refl _))
  have XI := Lib.hid (hI.below hB (Nat.le_refl _))
  have HS := Lib.hid hr0
  have HW0 := Lib.hid hw0
  have B := Lib.hid hB
  have HR := Lib.hid hR
  clear hB hR hb0 hr0 hz0 hw0 h hI
  have zHS0 : w0.cell? ⟨R, 0, none⟩ = some (.int .i64 sl) := by rw [cell_row HS.out]; rfl
  have zHS1 : w0.cell? ⟨R, 1, none⟩ = some (.int .i64 sr) := by rw [cell_row HS.out]; rfl
  have zHS2 : w0.cell? ⟨R, 2, none⟩ = some (.slice A n cap) := by rw [cell_row HS.out]; rfl
  have zHS3 : w0.cell? ⟨R, 3, none⟩ = some (.slice A2 kn kc) := by rw [cell_row HS.out]; rfl
  go_enter Try.func5, Try.ntmps5
  go_wp2_with fail
  try rw [HW0.out]
  try rw [HR.out]
  try simp only [Nat.add_assoc, Nat.reduceAdd]
  try go_wp2_with fail
  clear zHS0 zHS1 zHS2 zHS3
  refine (great14 sl sr A n cap zs A2 kn kc ks w0).mono ?_
  rintro en w1 ⟨rfl, hb⟩
  replace X := Lib.hid (X.out.below hb (Nat.le_refl _))
  replace XI := Lib.hid (XI.out.below hb (Nat.le_refl _))
  replace HS := Lib.hid ((hb.block _ (lt_of_block HS.out)).trans HS.out)
  replace B := Lib.hid (B.out.trans (hb.mono B.out.size))
  cases hg : grt n kn
  rotate_left
  try clear hb
  · clear hg
    have zHS0 : w1.cell? ⟨R, 0, none⟩ = some (.int .i64 sl) := by rw [cell_row HS.out]; rfl
    have zHS1 : w1.cell? ⟨R, 1, none⟩ = some (.int .i64 sr) := by rw [cell_row HS.out]; rfl
    have zHS2 : w1.cell? ⟨R, 2, none⟩ = some (.slice A n cap) := by rw [cell_row HS.out]; rfl
    have zHS3 : w1.cell? ⟨R, 3, none⟩ = some (.slice A2 kn kc) := by rw [cell_row HS.out]; rfl
    go_wp2_with fail
    clear zHS0 zHS1 zHS2 zHS3
    refine (works15 w1).mono ?_
    rintro en w2 ⟨rfl, hb⟩
    replace B := Lib.hid (B.out.trans (hb.mono B.out.size))
    clear hb
    go_wp2_with fail
    go_ret
    exact ⟨rfl, B.out⟩
  have hn50 := (grt_no hg).1
  have hk50 := (grt_no hg).2
  clear hg
  have Hn := Lib.hid hn50
  have Hk := Lib.hid hk50
  clear hn50 hk50
  by_cases he : chkS sl sr zs ks = 0
  rotate_left
  · obtain ⟨a, ha⟩ : ∃ v, chkS sl sr zs ks = v := ⟨_, rfl⟩
    have Ha := Lib.hid ha
    have Hne := Lib.hid he
    clear ha he
    have zHS0 : w1.cell? ⟨R, 0, none⟩ = some (.int .i64 sl) := by rw [cell_row HS.out]; rfl
    have zHS1 : w1.cell? ⟨R, 1, none⟩ = some (.int .i64 sr) := by rw [cell_row HS.out]; rfl
    have zHS2 : w1.cell? ⟨R, 2, none⟩ = some (.slice A n cap) := by rw [cell_row HS.out]; rfl
    have zHS3 : w1.cell? ⟨R, 3, none⟩ = some (.slice A2 kn kc) := by rw [cell_row HS.out]; rfl
    go_wp2_with fail
    clear zHS0 zHS1 zHS2 zHS3
    refine (kinds25_bad sl sr A n cap zs A2 kn kc ks w1 X.out XI.out Hc9.out (by have := Hn.out; omega) (by have := Hk.out; omega) Hne.out).mono ?_
    rintro en w2 ⟨rfl, hb⟩
    replace X := Lib.hid (X.out.below hb (Nat.le_refl _))
    replace XI := Lib.hid (XI.out.below hb (Nat.le_refl _))
    replace HS := Lib.hid ((hb.block _ (lt_of_block HS.out)).trans HS.out)
    replace B := Lib.hid (B.out.trans (hb.mono B.out.size))
    rw [Ha.out]
    try clear hb
    have zHS0 : w2.cell? ⟨R, 0, none⟩ = some (.int .i64 sl) := by rw [cell_row HS.out]; rfl
    have zHS1 : w2.cell? ⟨R, 1, none⟩ = some (.int .i64 sr) := by rw [cell_row HS.out]; rfl
    have zHS2 : w2.cell? ⟨R, 2, none⟩ = some (.slice A n cap) := by rw [cell_row HS.out]; rfl
    have zHS3 : w2.cell? ⟨R, 3, none⟩ = some (.slice A2 kn kc) := by rw [cell_row HS.out]; rfl
    go_wp2_with fail
    clear zHS0 zHS1 zHS2 zHS3
    refine (kinds26_bad sl sr A n cap zs A2 kn kc ks w2 X.out XI.out (by have := Hn.out; omega) (by have := Hk.out; omega) Hne.out).mono ?_
    rintro en w3 ⟨rfl, hb⟩
    replace X := Lib.hid (X.out.below hb (Nat.le_refl _))
    replace XI := Lib.hid (XI.out.below hb (Nat.le_refl _))
    replace HS := Lib.hid ((hb.block _ (lt_of_block HS.out)).trans HS.out)
    replace B := Lib.hid (B.out.trans (hb.mono B.out.size))
    rw [Ha.out]
    try clear hb
    have zHS0 : w3.cell? ⟨R, 0, none⟩ = some (.int .i64 sl) := by rw [cell_row HS.out]; rfl
    have zHS1 : w3.cell? ⟨R, 1, none⟩ = some (.int .i64 sr) := by rw [cell_row HS.out]; rfl
    have zHS2 : w3.cell? ⟨R, 2, none⟩ = some (.slice A n cap) := by rw [cell_row HS.out]; rfl
    have zHS3 : w3.cell? ⟨R, 3, none⟩ = some (.slice A2 kn kc) := by rw [cell_row HS.out]; rfl
    go_wp2_with fail
    clear zHS0 zHS1 zHS2 zHS3
    refine (items27_bad sl sr A n cap zs A2 kn kc ks rt w3 X.out XI.out Hc9.out (by have := Hn.out; omega) (by have := Hk.out; omega) Hne.out).mono ?_
    rintro en w4 ⟨rfl, hb⟩
    replace X := Lib.hid (X.out.below hb (Nat.le_refl _))
    replace XI := Lib.hid (XI.out.below hb (Nat.le_refl _))
    replace HS := Lib.hid ((hb.block _ (lt_of_block HS.out)).trans HS.out)
    replace B := Lib.hid (B.out.trans (hb.mono B.out.size))
    rw [Ha.out]
    try clear hb
    have zHS0 : w4.cell? ⟨R, 0, none⟩ = some (.int .i64 sl) := by rw [cell_row HS.out]; rfl
    have zHS1 : w4.cell? ⟨R, 1, none⟩ = some (.int .i64 sr) := by rw [cell_row HS.out]; rfl
    have zHS2 : w4.cell? ⟨R, 2, none⟩ = some (.slice A n cap) := by rw [cell_row HS.out]; rfl
    have zHS3 : w4.cell? ⟨R, 3, none⟩ = some (.slice A2 kn kc) := by rw [cell_row HS.out]; rfl
    go_wp2_with fail
    clear zHS0 zHS1 zHS2 zHS3
    refine (items28_bad sl sr A n cap zs A2 kn kc ks rt w4 X.out XI.out (by have := Hn.out; omega) (by have := Hk.out; omega) Hne.out).mono ?_
    rintro en w5 ⟨rfl, hb⟩
    replace X := Lib.hid (X.out.below hb (Nat.le_refl _))
    replace XI := Lib.hid (XI.out.below hb (Nat.le_refl _))
    replace HS := Lib.hid ((hb.block _ (lt_of_block HS.out)).trans HS.out)
    replace B := Lib.hid (B.out.trans (hb.mono B.out.size))
    rw [Ha.out]
    have d8 : (a == a) = true := by simp
    try clear hb
    have zHS0 : w5.cell? ⟨R, 0, none⟩ = some (.int .i64 sl) := by rw [cell_row HS.out]; rfl
    have zHS1 : w5.cell? ⟨R, 1, none⟩ = some (.int .i64 sr) := by rw [cell_row HS.out]; rfl
    have zHS2 : w5.cell? ⟨R, 2, none⟩ = some (.slice A n cap) := by rw [cell_row HS.out]; rfl
    have zHS3 : w5.cell? ⟨R, 3, none⟩ = some (.slice A2 kn kc) := by rw [cell_row HS.out]; rfl
    go_wp2_with fail
    clear zHS0 zHS1 zHS2 zHS3
    refine (ints29 none 0 0 [] none 0 0 [] w5 (ints_nil_ _) (ints_nil_ _) (by omega)).mono ?_
    rintro en w6 ⟨rfl, hb⟩
    replace X := Lib.hid (X.out.below hb (Nat.le_refl _))
    replace XI := Lib.hid (XI.out.below hb (Nat.le_refl _))
    replace HS := Lib.hid ((hb.block _ (lt_of_block HS.out)).trans HS.out)
    replace B := Lib.hid (B.out.trans (hb.mono B.out.size))
    rw [decide_eq_true rfl]
    try clear hb
    have zHS0 : w6.cell? ⟨R, 0, none⟩ = some (.int .i64 sl) := by rw [cell_row HS.out]; rfl
    have zHS1 : w6.cell? ⟨R, 1, none⟩ = some (.int .i64 sr) := by rw [cell_row HS.out]; rfl
    have zHS2 : w6.cell? ⟨R, 2, none⟩ = some (.slice A n cap) := by rw [cell_row HS.out]; rfl
    have zHS3 : w6.cell? ⟨R, 3, none⟩ = some (.slice A2 kn kc) := by rw [cell_row HS.out]; rfl
    go_wp2_with fail
    clear zHS0 zHS1 zHS2 zHS3
    refine (ints29 none 0 0 [] none 0 0 [] w6 (ints_nil_ _) (ints_nil_ _) (by omega)).mono ?_
    rintro en w7 ⟨rfl, hb⟩
    replace X := Lib.hid (X.out.below hb (Nat.le_refl _))
    replace XI := Lib.hid (XI.out.below hb (Nat.le_refl _))
    replace HS := Lib.hid ((hb.block _ (lt_of_block HS.out)).trans HS.out)
    replace B := Lib.hid (B.out.trans (hb.mono B.out.size))
    rw [decide_eq_true rfl]
    try clear hb
    have zHS0 : w7.cell? ⟨R, 0, none⟩ = some (.int .i64 sl) := by rw [cell_row HS.out]; rfl
    have zHS1 : w7.cell? ⟨R, 1, none⟩ = some (.int .i64 sr) := by rw [cell_row HS.out]; rfl
    have zHS2 : w7.cell? ⟨R, 2, none⟩ = some (.slice A n cap) := by rw [cell_row HS.out]; rfl
    have zHS3 : w7.cell? ⟨R, 3, none⟩ = some (.slice A2 kn kc) := by rw [cell_row HS.out]; rfl
    go_wp2_with fail
    clear zHS0 zHS1 zHS2 zHS3
    refine (works15 w7).mono ?_
    rintro en w8 ⟨rfl, hb⟩
    replace B := Lib.hid (B.out.trans (hb.mono B.out.size))
    clear hb
    go_wp2_with fail
    go_ret
    exact ⟨rfl, B.out⟩
  have hrng := (shg_of he).rng
  obtain ⟨c, hc, hc12⟩ : ∃ c : Nat, (if rt = true then sr else sl) = (c : Int) ∧ c ≤ 12 := by
    by_cases e : rt = true
    · rw [if_pos e]; exact ⟨sr.toNat, by omega, by omega⟩
    · rw [if_neg e]; exact ⟨sl.toNat, by omega, by omega⟩
  have Hc := Lib.hid hc
  have He := Lib.hid he
  have Hc12 := Lib.hid hc12
  obtain ⟨l, hl⟩ : ∃ l : Nat, (if rt = true then 1 else 0) = l := ⟨_, rfl⟩
  have Hl := Lib.hid hl
  clear hc he hrng hc12 hl
  have zHS0 : w1.cell? ⟨R, 0, none⟩ = some (.int .i64 sl) := by rw [cell_row HS.out]; rfl
  have zHS1 : w1.cell? ⟨R, 1, none⟩ = some (.int .i64 sr) := by rw [cell_row HS.out]; rfl
  have zHS2 : w1.cell? ⟨R, 2, none⟩ = some (.slice A n cap) := by rw [cell_row HS.out]; rfl
  have zHS3 : w1.cell? ⟨R, 3, none⟩ = some (.slice A2 kn kc) := by rw [cell_row HS.out]; rfl
  go_wp2_with fail
  clear zHS0 zHS1 zHS2 zHS3
  refine (kinds25 sl sr A n cap zs A2 kn kc ks w1 X.out XI.out Hc9.out (by have := Hn.out; omega) (by have := Hk.out; omega) He.out).mono ?_
  rintro en w2 ⟨CK, ck, rfl, hck, hik, -, hb⟩
  replace X := Lib.hid (X.out.below hb (Nat.le_refl _))
  replace XI := Lib.hid (XI.out.below hb (Nat.le_refl _))
  replace HS := Lib.hid ((hb.block _ (lt_of_block HS.out)).trans HS.out)
  replace B := Lib.hid (B.out.trans (hb.mono B.out.size))
  obtain ⟨ka, hka⟩ : ∃ v, kindsK n zs (opnL n zs ks) (kNt ks) n = v := ⟨_, rfl⟩
  rw [hka] at hik
  have HKA := Lib.hid hik
  have Hka := Lib.hid hka
  clear hik hck hka
  try clear hb
  have zHS0 : w2.cell? ⟨R, 0, none⟩ = some (.int .i64 sl) := by rw [cell_row HS.out]; rfl
  have zHS1 : w2.cell? ⟨R, 1, none⟩ = some (.int .i64 sr) := by rw [cell_row HS.out]; rfl
  have zHS2 : w2.cell? ⟨R, 2, none⟩ = some (.slice A n cap) := by rw [cell_row HS.out]; rfl
  have zHS3 : w2.cell? ⟨R, 3, none⟩ = some (.slice A2 kn kc) := by rw [cell_row HS.out]; rfl
  go_wp2_with fail
  clear zHS0 zHS1 zHS2 zHS3
  refine (kinds26 sl sr A n cap zs A2 kn kc ks w2 X.out XI.out (by have := Hk.out; omega) He.out).mono ?_
  rintro en w3 ⟨CL, cl, rfl, hck, hik, hb⟩
  replace X := Lib.hid (X.out.below hb (Nat.le_refl _))
  replace XI := Lib.hid (XI.out.below hb (Nat.le_refl _))
  replace HKA := Lib.hid (HKA.out.below hb (Nat.le_refl _))
  replace HS := Lib.hid ((hb.block _ (lt_of_block HS.out)).trans HS.out)
  replace B := Lib.hid (B.out.trans (hb.mono B.out.size))
  rw [Hka.out] at hik
  have HKB := Lib.hid hik
  clear hik hck
  try clear hb
  have zHS0 : w3.cell? ⟨R, 0, none⟩ = some (.int .i64 sl) := by rw [cell_row HS.out]; rfl
  have zHS1 : w3.cell? ⟨R, 1, none⟩ = some (.int .i64 sr) := by rw [cell_row HS.out]; rfl
  have zHS2 : w3.cell? ⟨R, 2, none⟩ = some (.slice A n cap) := by rw [cell_row HS.out]; rfl
  have zHS3 : w3.cell? ⟨R, 3, none⟩ = some (.slice A2 kn kc) := by rw [cell_row HS.out]; rfl
  go_wp2_with fail
  clear zHS0 zHS1 zHS2 zHS3
  refine (items27 sl sr A n cap zs A2 kn kc ks rt w3 X.out XI.out Hc9.out (by have := Hn.out; omega) (by have := Hk.out; omega) He.out).mono ?_
  rintro en w4 ⟨CI, c', ci, hc', rfl, hci', hii, -, hb⟩
  replace X := Lib.hid (X.out.below hb (Nat.le_refl _))
  replace XI := Lib.hid (XI.out.below hb (Nat.le_refl _))
  replace HKA := Lib.hid (HKA.out.below hb (Nat.le_refl _))
  replace HKB := Lib.hid (HKB.out.below hb (Nat.le_refl _))
  replace HS := Lib.hid ((hb.block _ (lt_of_block HS.out)).trans HS.out)
  replace B := Lib.hid (B.out.trans (hb.mono B.out.size))
  obtain rfl : c = c' := by have := Hc.out.symm.trans hc'; omega
  rw [Hl.out] at hii
  obtain ⟨ia, hia⟩ : ∃ v, ikL n zs (opnL n zs ks) (kNt ks) l c = v := ⟨_, rfl⟩
  rw [hia] at hii
  have HIA := Lib.hid hii
  have Hia := Lib.hid hia
  clear hii hc' hci' hia
  try clear hb
  have zHS0 : w4.cell? ⟨R, 0, none⟩ = some (.int .i64 sl) := by rw [cell_row HS.out]; rfl
  have zHS1 : w4.cell? ⟨R, 1, none⟩ = some (.int .i64 sr) := by rw [cell_row HS.out]; rfl
  have zHS2 : w4.cell? ⟨R, 2, none⟩ = some (.slice A n cap) := by rw [cell_row HS.out]; rfl
  have zHS3 : w4.cell? ⟨R, 3, none⟩ = some (.slice A2 kn kc) := by rw [cell_row HS.out]; rfl
  go_wp2_with fail
  clear zHS0 zHS1 zHS2 zHS3
  refine (items28 sl sr A n cap zs A2 kn kc ks rt w4 X.out XI.out (by have := Hk.out; omega) He.out).mono ?_
  rintro en w5 ⟨CJ, c', cj, hc', rfl, hci', hii, hb⟩
  replace X := Lib.hid (X.out.below hb (Nat.le_refl _))
  replace XI := Lib.hid (XI.out.below hb (Nat.le_refl _))
  replace HKA := Lib.hid (HKA.out.below hb (Nat.le_refl _))
  replace HKB := Lib.hid (HKB.out.below hb (Nat.le_refl _))
  replace HIA := Lib.hid (HIA.out.below hb (Nat.le_refl _))
  replace HS := Lib.hid ((hb.block _ (lt_of_block HS.out)).trans HS.out)
  replace B := Lib.hid (B.out.trans (hb.mono B.out.size))
  obtain rfl : c = c' := by have := Hc.out.symm.trans hc'; omega
  rw [Hl.out, Hia.out] at hii
  have HIB := Lib.hid hii
  clear hii hc' hci'
  try clear hb
  have zHS0 : w5.cell? ⟨R, 0, none⟩ = some (.int .i64 sl) := by rw [cell_row HS.out]; rfl
  have zHS1 : w5.cell? ⟨R, 1, none⟩ = some (.int .i64 sr) := by rw [cell_row HS.out]; rfl
  have zHS2 : w5.cell? ⟨R, 2, none⟩ = some (.slice A n cap) := by rw [cell_row HS.out]; rfl
  have zHS3 : w5.cell? ⟨R, 3, none⟩ = some (.slice A2 kn kc) := by rw [cell_row HS.out]; rfl
  go_wp2_with fail
  clear zHS0 zHS1 zHS2 zHS3
  refine (ints29 CK n ck ka CL n cl ka w5 HKA.out HKB.out (by have := Hn.out; omega)).mono ?_
  rintro en w6 ⟨rfl, hb⟩
  replace X := Lib.hid (X.out.below hb (Nat.le_refl _))
  replace XI := Lib.hid (XI.out.below hb (Nat.le_refl _))
  replace HKA := Lib.hid (HKA.out.below hb (Nat.le_refl _))
  replace HKB := Lib.hid (HKB.out.below hb (Nat.le_refl _))
  replace HIA := Lib.hid (HIA.out.below hb (Nat.le_refl _))
  replace HIB := Lib.hid (HIB.out.below hb (Nat.le_refl _))
  replace HS := Lib.hid ((hb.block _ (lt_of_block HS.out)).trans HS.out)
  replace B := Lib.hid (B.out.trans (hb.mono B.out.size))
  rw [decide_eq_true rfl]
  try clear hb
  have zHS0 : w6.cell? ⟨R, 0, none⟩ = some (.int .i64 sl) := by rw [cell_row HS.out]; rfl
  have zHS1 : w6.cell? ⟨R, 1, none⟩ = some (.int .i64 sr) := by rw [cell_row HS.out]; rfl
  have zHS2 : w6.cell? ⟨R, 2, none⟩ = some (.slice A n cap) := by rw [cell_row HS.out]; rfl
  have zHS3 : w6.cell? ⟨R, 3, none⟩ = some (.slice A2 kn kc) := by rw [cell_row HS.out]; rfl
  go_wp2_with fail
  clear zHS0 zHS1 zHS2 zHS3
  refine (ints29 CI c ci ia CJ c cj ia w6 HIA.out HIB.out (by have := Hc12.out; omega)).mono ?_
  rintro en w7 ⟨rfl, hb⟩
  replace X := Lib.hid (X.out.below hb (Nat.le_refl _))
  replace XI := Lib.hid (XI.out.below hb (Nat.le_refl _))
  replace HKA := Lib.hid (HKA.out.below hb (Nat.le_refl _))
  replace HKB := Lib.hid (HKB.out.below hb (Nat.le_refl _))
  replace HIA := Lib.hid (HIA.out.below hb (Nat.le_refl _))
  replace HIB := Lib.hid (HIB.out.below hb (Nat.le_refl _))
  replace HS := Lib.hid ((hb.block _ (lt_of_block HS.out)).trans HS.out)
  replace B := Lib.hid (B.out.trans (hb.mono B.out.size))
  rw [decide_eq_true rfl]
  try clear hb
  have zHS0 : w7.cell? ⟨R, 0, none⟩ = some (.int .i64 sl) := by rw [cell_row HS.out]; rfl
  have zHS1 : w7.cell? ⟨R, 1, none⟩ = some (.int .i64 sr) := by rw [cell_row HS.out]; rfl
  have zHS2 : w7.cell? ⟨R, 2, none⟩ = some (.slice A n cap) := by rw [cell_row HS.out]; rfl
  have zHS3 : w7.cell? ⟨R, 3, none⟩ = some (.slice A2 kn kc) := by rw [cell_row HS.out]; rfl
  go_wp2_with fail
  clear zHS0 zHS1 zHS2 zHS3
  refine (works15 w7).mono ?_
  rintro en w8 ⟨rfl, hb⟩
  replace B := Lib.hid (B.out.trans (hb.mono B.out.size))
  clear hb
  go_wp2_with fail
  go_ret
  exact ⟨rfl, B.out⟩
end
end Go.Proofs.Ytnodkgejggnehaa
