/- Stage 5: too many parts; valid sheets. -/
import Derived.Test.YtnodkgejggnehaaWk
namespace Go.Proofs.Ytnodkgejggnehaa
set_option linter.unusedSimpArgs false
set_option linter.unusedVariables false
open Go.RowKit Go.Shelf
/-- Too many parts for a statement. -/
def grt (n kn : Nat) : Bool := decide (50 < n) || decide (50 < kn)
set_option maxRecDepth 100000 in
set_option maxHeartbeats 16000000 in
theorem great14 (sl sr : Int) (A : Option Addr) (n cap : Nat) (zs : List Rg) (A2 : Option Addr) (kn kc : Nat) (ks : List Int) (w : World) : Calls Try.prog 14 #[.agg #[.int .i64 sl, .int .i64 sr, .slice A n cap, .slice A2 kn kc]] w fun e w' => e = .returned (.bool (grt n kn)) ∧ Below w.heap.size w w' := by
  obtain ⟨R, hR⟩ : ∃ v, w.heap.size = v := ⟨_, rfl⟩
  have hb0 := below_alloc_ w (.cells #[.int .i64 sl, .int .i64 sr, .slice A n cap, .slice A2 kn kc] 25)
  have hr0 := heap_alloc_new_ w (.cells #[.int .i64 sl, .int .i64 sr, .slice A n cap, .slice A2 kn kc] 25)
  have hz0 : (w.alloc (.cells #[.int .i64 sl, .int .i64 sr, .slice A n cap, .slice A2 kn kc] 25)).heap.size = w.heap.size + 1 := by simp
  obtain ⟨w0, hw0⟩ : ∃ v, w.alloc (.cells #[.int .i64 sl, .int .i64 sr, .slice A n cap, .slice A2 kn kc] 25) = v := ⟨_, rfl⟩
  rw [hw0] at hb0 hr0 hz0
  rw [hR] at hr0 hz0
  have hB := hb0
  have HS := Lib.hid hr0
  have HW0 := Lib.hid hw0
  have B := Lib.hid hB
  have HR := Lib.hid hR
  clear hB hR hb0 hr0 hz0 hw0 
  have z0 : w0.cell? ⟨R, 2, none⟩ = some (.slice A n cap) := by rw [cell_row HS.out]; rfl
  have z1 : w0.cell? ⟨R, 3, none⟩ = some (.slice A2 kn kc) := by rw [cell_row HS.out]; rfl
  by_cases h1 : 50 < n
  · have d1 : (50 : Int) < (n : Int) := by omega
    have hg := Lib.hid (show grt n kn = true by unfold grt; rw [decide_eq_true h1]; rfl)
    go_enter Try.func14, Try.ntmps14
    go_wp2_with fail
    try rw [HW0.out]
    try rw [HR.out]
    try simp only [Nat.add_assoc, Nat.reduceAdd]
    try go_wp2_with fail

    go_ret
    exact ⟨by rw [hg.out]; rfl, by rw [← HR.out]; exact B.out⟩
  · have d1 : ¬ (50 : Int) < (n : Int) := by omega
    by_cases h2 : 50 < kn
    · have d2 : (50 : Int) < (kn : Int) := by omega
      have hg := Lib.hid (show grt n kn = true by unfold grt; rw [decide_eq_true h2]; simp)
      go_enter Try.func14, Try.ntmps14
      go_wp2_with fail
      try rw [HW0.out]
      try rw [HR.out]
      try simp only [Nat.add_assoc, Nat.reduceAdd]
      try go_wp2_with fail

      go_ret
      exact ⟨by rw [hg.out]; rfl, by rw [← HR.out]; exact B.out⟩
    · have d2 : ¬ (50 : Int) < (kn : Int) := by omega
      have hg := Lib.hid (show grt n kn = false by unfold grt; rw [decide_eq_false h1, decide_eq_false h2]; rfl)
      go_enter Try.func14, Try.ntmps14
      go_wp2_with fail
      try rw [HW0.out]
      try rw [HR.out]
      try simp only [Nat.add_assoc, Nat.reduceAdd]
      try go_wp2_with fail

      go_ret
      exact ⟨by rw [hg.out]; rfl, by rw [← HR.out]; exact B.out⟩
theorem grt_no {n kn : Nat} (h : grt n kn = false) : n ≤ 50 ∧ kn ≤ 50 := by
  unfold grt at h
  rw [Bool.or_eq_false_iff, decide_eq_false_iff_not, decide_eq_false_iff_not] at h
  omega
/-- A valid sheet, small enough. -/
def finB (sl sr : Int) (n kn : Nat) (zs : List Rg) (ks : List Int) : Bool := !grt n kn && decide (chkS sl sr zs ks = 0)
theorem fin_yes {sl sr : Int} {n kn : Nat} {zs : List Rg} {ks : List Int} (h : finB sl sr n kn zs ks = true) : n ≤ 50 ∧ kn ≤ 50 ∧ chkS sl sr zs ks = 0 := by
  unfold finB at h
  rw [Bool.and_eq_true, Bool.not_eq_true', decide_eq_true_eq] at h
  exact ⟨(grt_no h.1).1, (grt_no h.1).2, h.2⟩
set_option maxRecDepth 100000 in
set_option maxHeartbeats 16000000 in
theorem fine32 (sl sr : Int) (A : Option Addr) (n cap : Nat) (zs : List Rg) (A2 : Option Addr) (kn kc : Nat) (ks : List Int) (w : World) (h : Rgs w A n zs) (hI : Ints w A2 kn ks) (hc9 : n ≤ cap) : Calls Try.prog 32 #[.agg #[.int .i64 sl, .int .i64 sr, .slice A n cap, .slice A2 kn kc]] w fun e w' => e = .returned (.bool (finB sl sr n kn zs ks)) ∧ Below w.heap.size w w' := by
  obtain ⟨R, hR⟩ : ∃ v, w.heap.size = v := ⟨_, rfl⟩
  have hb0 := below_alloc_ w (.cells #[.int .i64 sl, .int .i64 sr, .slice A n cap, .slice A2 kn kc] 25)
  have hr0 := heap_alloc_new_ w (.cells #[.int .i64 sl, .int .i64 sr, .slice A n cap, .slice A2 kn kc] 25)
  have hz0 : (w.alloc (.cells #[.int .i64 sl, .int .i64 sr, .slice A n cap, .slice A2 kn kc] 25)).heap.size = w.heap.size + 1 := by simp
  obtain ⟨w0, hw0⟩ : ∃ v, w.alloc (.cells #[.int .i64 sl, .int .i64 sr, .slice A n cap, .slice A2 kn kc] 25) = v := ⟨_, rfl⟩
  rw [hw0] at hb0 hr0 hz0
  rw [hR] at hr0 hz0
  have hB := hb0
  have X := Lib.hid (h.below hB (Nat.le_refl _))
  have XI := Lib.hid (hI.below hB (Nat.le_refl _))
  have HS := Lib.hid hr0
  have HW0 := Lib.hid hw0
  have B := Lib.hid hB
  have HR := Lib.hid hR
  clear hB hR hb0 hr0 hz0 hw0 h hI
  have zHS0 : w0.cell? ⟨R, 0, none⟩ = some (.int .i64 sl) := by rw [cell_row HS.out]; rfl
  have zHS1 : w0.cell? ⟨R, 1, none⟩ = some (.int .i64 sr) := by rw [cell_row HS.out]; rfl
  have zHS2 : w0.cell? ⟨R, 2, none⟩ = some (.slice A n cap) := by rw [cell_row HS.out]; rfl
  have zHS3 : w0.cell? ⟨R, 3, none⟩ = some (.slice A2 kn kc) := by rw [cell_row HS.out]; rfl
  go_enter Try.func32, Try.ntmps32
  go_wp2_with fail
  try rw [HW0.out]
  try rw [HR.out]
  try simp only [Nat.add_assoc, Nat.reduceAdd]
  try go_wp2_with fail
  clear zHS0 zHS1 zHS2 zHS3
  refine (great14 sl sr A n cap zs A2 kn kc ks w0).mono ?_
  rintro en w1 ⟨rfl, hb⟩
  replace X := Lib.hid (X.out.below hb (Nat.le_refl _))
  replace XI := Lib.hid (XI.out.below hb (Nat.le_refl _))
  replace HS := Lib.hid ((hb.block _ (lt_of_block HS.out)).trans HS.out)
  replace B := Lib.hid (B.out.trans (hb.mono B.out.size))
  obtain ⟨g, hg⟩ : ∃ g, grt n kn = g := ⟨_, rfl⟩
  rw [hg]
  have Hg := Lib.hid hg
  clear hg
  rcases g with _ | _
  rotate_left
  try clear hb
  · have zHS0 : w1.cell? ⟨R, 0, none⟩ = some (.int .i64 sl) := by rw [cell_row HS.out]; rfl
    have zHS1 : w1.cell? ⟨R, 1, none⟩ = some (.int .i64 sr) := by rw [cell_row HS.out]; rfl
    have zHS2 : w1.cell? ⟨R, 2, none⟩ = some (.slice A n cap) := by rw [cell_row HS.out]; rfl
    have zHS3 : w1.cell? ⟨R, 3, none⟩ = some (.slice A2 kn kc) := by rw [cell_row HS.out]; rfl
    go_wp2_with fail
    clear zHS0 zHS1 zHS2 zHS3
    go_ret
    exact ⟨by unfold finB; rw [Hg.out]; rfl, B.out⟩
  have zHS0 : w1.cell? ⟨R, 0, none⟩ = some (.int .i64 sl) := by rw [cell_row HS.out]; rfl
  have zHS1 : w1.cell? ⟨R, 1, none⟩ = some (.int .i64 sr) := by rw [cell_row HS.out]; rfl
  have zHS2 : w1.cell? ⟨R, 2, none⟩ = some (.slice A n cap) := by rw [cell_row HS.out]; rfl
  have zHS3 : w1.cell? ⟨R, 3, none⟩ = some (.slice A2 kn kc) := by rw [cell_row HS.out]; rfl
  go_wp2_with fail
  clear zHS0 zHS1 zHS2 zHS3
  refine (checkSheet19 sl sr A n cap zs A2 kn kc ks w1 X.out XI.out (by have := (grt_no Hg.out).1; omega) (by have := (grt_no Hg.out).2; omega)).mono ?_
  rintro en w2 ⟨rfl, hb⟩
  replace X := Lib.hid (X.out.below hb (Nat.le_refl _))
  replace XI := Lib.hid (XI.out.below hb (Nat.le_refl _))
  replace HS := Lib.hid ((hb.block _ (lt_of_block HS.out)).trans HS.out)
  replace B := Lib.hid (B.out.trans (hb.mono B.out.size))
  obtain ⟨c, hc⟩ : ∃ c, chkS sl sr zs ks = c := ⟨_, rfl⟩
  rw [hc]
  have Hc := Lib.hid hc
  clear hc
  try clear hb
  go_wp2_with fail
  go_ret
  exact ⟨by unfold finB; rw [Hg.out, Hc.out]; simp; rfl, B.out⟩
theorem checkCover16 (sl sr : Int) (A : Option Addr) (n cap : Nat) (zs : List Rg) (A2 : Option Addr) (kn kc : Nat) (ks : List Int) (CL : Option Addr) (ln lc : Nat) (cl : List Int) (CR : Option Addr) (rn rc : Nat) (cr : List Int) (w : World) (h : Rgs w A n zs) (hI : Ints w A2 kn ks) (hc9 : n ≤ cap) (hL : Ints w CL ln cl) (hR9 : Ints w CR rn cr) (hn : n ≤ 1000000) (hk : kn ≤ 100000) (hl : ln ≤ 100000) (hr : rn ≤ 100000) :
    Calls Try.prog 16 #[.agg #[.int .i64 sl, .int .i64 sr, .slice A n cap, .slice A2 kn kc], .agg #[.slice CL ln lc, .slice CR rn rc]] w fun e w' => e = .returned (.tuple #[.int .i64 (szC sl sr zs ks cl cr), .int .i64 (chkC sl sr zs ks cl cr)]) ∧ Below w.heap.size w w' := by
  by_cases he : chkS sl sr zs ks = 0
  · exact checkCover16_ok sl sr A n cap zs A2 kn kc ks CL ln lc cl CR rn rc cr w h hI hc9 hL hR9 hn hk hl hr he
  · exact checkCover16_bad sl sr A n cap zs A2 kn kc ks CL ln lc cl CR rn rc cr w h hI hc9 hL hR9 hn hk hl hr he
/-- A slice of n small numbers reads as zs. -/
def IntsU (w : World) (A : Option Addr) (n : Nat) (zs : List Int) : Prop :=
  zs.length = n ∧ (∀ j, 0 ≤ iAt zs j ∧ iAt zs j ≤ 255) ∧ (0 < n → ∃ b o, A = some ⟨b, o, none⟩ ∧ ∀ j, j < n → w.cell? ⟨b, o + j, none⟩ = some (.int .u8 (iAt zs j)))
theorem IntsU.below {w w' : World} {A : Option Addr} {n B : Nat} {zs : List Int} (h : IntsU w A n zs) (hb : Below B w w') (hB : w.heap.size ≤ B) : IntsU w' A n zs := by
  refine ⟨h.1, h.2.1, fun hn => ?_⟩
  obtain ⟨b, o, rfl, hc⟩ := h.2.2 hn
  exact ⟨b, o, rfl, fun j hj => (hb.cell (p := ⟨b, o + j, none⟩) (by have := lt_of_cell (hc j hj); simp; omega)).trans (hc j hj)⟩
end Go.Proofs.Ytnodkgejggnehaa
