/- Stage 5: Kinds, of the document. -/
import Derived.Test.YtnodkgejggnehaaK5
namespace Go.Proofs.Ytnodkgejggnehaa
set_option linter.unusedSimpArgs false
set_option linter.unusedVariables false
open Go.RowKit Go.Shelf
section
attribute [local go_sem ↓] exec_app at_app
attribute [local go_sem] Oper.semAt_some
set_option maxRecDepth 100000 in
set_option maxHeartbeats 40000000 in
theorem kinds26_bad (sl sr : Int) (A : Option Addr) (n cap : Nat) (zs : List Rg) (A2 : Option Addr) (kn kc : Nat) (ks : List Int) (w : World) (h : Rgs w A n zs) (hI : Ints w A2 kn ks) (hn : n ≤ 1000000) (hk : kn ≤ 1000) (he : chkS sl sr zs ks ≠ 0) :
    Calls Try.prog 26 #[.agg #[.int .i64 sl, .int .i64 sr, .slice A n cap, .slice A2 kn kc]] w fun e w' => e = .returned (.tuple #[.slice none 0 0, .int .i64 (chkS sl sr zs ks)]) ∧ Below w.heap.size w w' := by
  have Hn := Lib.hid hn
  have Hk := Lib.hid hk
  clear hn hk
  obtain ⟨R, hR⟩ : ∃ v, w.heap.size = v := ⟨_, rfl⟩
  have hb0 := below_alloc_ w (.cells #[.int .i64 sl, .int .i64 sr, .slice A n cap, .slice A2 kn kc] 25)
  have hr0 := heap_alloc_new_ w (.cells #[.int .i64 sl, .int .i64 sr, .slice A n cap, .slice A2 kn kc] 25)
  have hz0 : (w.alloc (.cells #[.int .i64 sl, .int .i64 sr, .slice A n cap, .slice A2 kn kc] 25)).heap.size = w.heap.size + 1 := by simp
  obtain ⟨w0, hw0⟩ : ∃ v, w.alloc (.cells #[.int .i64 sl, .int .i64 sr, .slice A n cap, .slice A2 kn kc] 25) = v := ⟨_, rfl⟩
  rw [hw0] at hb0 hr0 hz0
  rw [hR] at hr0 hz0
  have hB := hb0
  have X := Lib.hid (h.below hB (Nat.le_refl _))
  have XI := Lib.hid (hI.below hB (Nat.le_refl _))
  have HS := Lib.hid hr0
  have HW0 := Lib.hid hw0
  have B := Lib.hid hB
  have HR := Lib.hid hR
  clear hB hR hb0 hr0 hz0 hw0 h hI
  obtain ⟨a, ha⟩ : ∃ v, chkS sl sr zs ks = v := ⟨_, rfl⟩
  rw [ha] at he
  have Ha := Lib.hid ha
  rw [ha]
  clear ha
  have d9 : (a != 0) = true := by rw [bne_iff_ne]; exact he
  have zHS0 : w0.cell? ⟨R, 0, none⟩ = some (.int .i64 sl) := by rw [cell_row HS.out]; rfl
  have zHS1 : w0.cell? ⟨R, 1, none⟩ = some (.int .i64 sr) := by rw [cell_row HS.out]; rfl
  have zHS2 : w0.cell? ⟨R, 2, none⟩ = some (.slice A n cap) := by rw [cell_row HS.out]; rfl
  have zHS3 : w0.cell? ⟨R, 3, none⟩ = some (.slice A2 kn kc) := by rw [cell_row HS.out]; rfl
  go_enter Try.func26, Try.ntmps26
  go_wp2_with fail
  try rw [HW0.out]
  try rw [HR.out]
  try simp only [Nat.add_assoc, Nat.reduceAdd]
  try go_wp2_with fail
  clear zHS0 zHS1 zHS2 zHS3
  refine (checkSheet19 sl sr A n cap zs A2 kn kc ks w0 X.out XI.out (by have := Hn.out; omega) (by have := Hk.out; omega)).mono ?_
  rintro en w1 ⟨rfl, hb⟩
  replace X := Lib.hid (X.out.below hb (Nat.le_refl _))
  replace XI := Lib.hid (XI.out.below hb (Nat.le_refl _))
  replace HS := Lib.hid ((hb.block _ (lt_of_block HS.out)).trans HS.out)
  replace B := Lib.hid (B.out.trans (hb.mono B.out.size))
  rw [Ha.out]
  try clear hb
  have zHS0 : w1.cell? ⟨R, 0, none⟩ = some (.int .i64 sl) := by rw [cell_row HS.out]; rfl
  have zHS1 : w1.cell? ⟨R, 1, none⟩ = some (.int .i64 sr) := by rw [cell_row HS.out]; rfl
  have zHS2 : w1.cell? ⟨R, 2, none⟩ = some (.slice A n cap) := by rw [cell_row HS.out]; rfl
  have zHS3 : w1.cell? ⟨R, 3, none⟩ = some (.slice A2 kn kc) := by rw [cell_row HS.out]; rfl
  go_wp2_with fail
  clear zHS0 zHS1 zHS2 zHS3
  refine (checkSheet19 sl sr A n cap zs A2 kn kc ks w1 X.out XI.out (by have := Hn.out; omega) (by have := Hk.out; omega)).mono ?_
  rintro en w2 ⟨rfl, hb⟩
  replace X := Lib.hid (X.out.below hb (Nat.le_refl _))
  replace XI := Lib.hid (XI.out.below hb (Nat.le_refl _))
  replace HS := Lib.hid ((hb.block _ (lt_of_block HS.out)).trans HS.out)
  replace B := Lib.hid (B.out.trans (hb.mono B.out.size))
  rw [Ha.out]
  try clear hb
  have zHS0 : w2.cell? ⟨R, 0, none⟩ = some (.int .i64 sl) := by rw [cell_row HS.out]; rfl
  have zHS1 : w2.cell? ⟨R, 1, none⟩ = some (.int .i64 sr) := by rw [cell_row HS.out]; rfl
  have zHS2 : w2.cell? ⟨R, 2, none⟩ = some (.slice A n cap) := by rw [cell_row HS.out]; rfl
  have zHS3 : w2.cell? ⟨R, 3, none⟩ = some (.slice A2 kn kc) := by rw [cell_row HS.out]; rfl
  go_wp2_with fail
  clear zHS0 zHS1 zHS2 zHS3
  go_ret2
  exact ⟨rfl, B.out⟩
theorem kinds26 (sl sr : Int) (A : Option Addr) (n cap : Nat) (zs : List Rg) (A2 : Option Addr) (kn kc : Nat) (ks : List Int) (w : World) (h : Rgs w A n zs) (hI : Ints w A2 kn ks) (hk : kn ≤ 1000) (he : chkS sl sr zs ks = 0) :
    Calls Try.prog 26 #[.agg #[.int .i64 sl, .int .i64 sr, .slice A n cap, .slice A2 kn kc]] w fun e w' => ∃ C cp, e = .returned (.tuple #[.slice C n cp, .int .i64 0]) ∧ n ≤ cp ∧ Ints w' C n (kindsK n zs (opnL n zs ks) (kNt ks) n) ∧ Below w.heap.size w w' := by
  have hzl := h.1
  have hn40 : n ≤ 40 := by rw [← hzl]; exact (shg_of he).n40
  have Hn := Lib.hid hn40
  have He := Lib.hid he
  have Hk := Lib.hid hk
  clear he hzl hn40 hk
  obtain ⟨R, hR⟩ : ∃ v, w.heap.size = v := ⟨_, rfl⟩
  have hb0 := below_alloc_ w (.cells #[.int .i64 sl, .int .i64 sr, .slice A n cap, .slice A2 kn kc] 25)
  have hr0 := heap_alloc_new_ w (.cells #[.int .i64 sl, .int .i64 sr, .slice A n cap, .slice A2 kn kc] 25)
  have hz0 : (w.alloc (.cells #[.int .i64 sl, .int .i64 sr, .slice A n cap, .slice A2 kn kc] 25)).heap.size = w.heap.size + 1 := by simp
  obtain ⟨w0, hw0⟩ : ∃ v, w.alloc (.cells #[.int .i64 sl, .int .i64 sr, .slice A n cap, .slice A2 kn kc] 25) = v := ⟨_, rfl⟩
  rw [hw0] at hb0 hr0 hz0
  rw [hR] at hr0 hz0
  have hB := hb0
  have X := Lib.hid (h.below hB (Nat.le_refl _))
  have XI := Lib.hid (hI.below hB (Nat.le_refl _))
  have HS := Lib.hid hr0
  have HW0 := Lib.hid hw0
  have B := Lib.hid hB
  have HR := Lib.hid hR
  clear hB hR hb0 hr0 hz0 hw0 h hI
  have zHS0 : w0.cell? ⟨R, 0, none⟩ = some (.int .i64 sl) := by rw [cell_row HS.out]; rfl
  have zHS1 : w0.cell? ⟨R, 1, none⟩ = some (.int .i64 sr) := by rw [cell_row HS.out]; rfl
  have zHS2 : w0.cell? ⟨R, 2, none⟩ = some (.slice A n cap) := by rw [cell_row HS.out]; rfl
  have zHS3 : w0.cell? ⟨R, 3, none⟩ = some (.slice A2 kn kc) := by rw [cell_row HS.out]; rfl
  go_enter Try.func26, Try.ntmps26
  go_wp2_with fail
  try rw [HW0.out]
  try rw [HR.out]
  try simp only [Nat.add_assoc, Nat.reduceAdd]
  try go_wp2_with fail
  clear zHS0 zHS1 zHS2 zHS3
  refine (checkSheet19 sl sr A n cap zs A2 kn kc ks w0 X.out XI.out (by have := Hn.out; omega) (by have := Hk.out; omega)).mono ?_
  rintro en w1 ⟨rfl, hb⟩
  replace X := Lib.hid (X.out.below hb (Nat.le_refl _))
  replace XI := Lib.hid (XI.out.below hb (Nat.le_refl _))
  replace HS := Lib.hid ((hb.block _ (lt_of_block HS.out)).trans HS.out)
  replace B := Lib.hid (B.out.trans (hb.mono B.out.size))
  rw [He.out]
  try clear hb
  have zHS0 : w1.cell? ⟨R, 0, none⟩ = some (.int .i64 sl) := by rw [cell_row HS.out]; rfl
  have zHS1 : w1.cell? ⟨R, 1, none⟩ = some (.int .i64 sr) := by rw [cell_row HS.out]; rfl
  have zHS2 : w1.cell? ⟨R, 2, none⟩ = some (.slice A n cap) := by rw [cell_row HS.out]; rfl
  have zHS3 : w1.cell? ⟨R, 3, none⟩ = some (.slice A2 kn kc) := by rw [cell_row HS.out]; rfl
  go_wp2_with fail
  clear zHS0 zHS1 zHS2 zHS3
  have XA := X
  have IA := XI
  have SA := HS
  have BA := B
  have HV0 := Lib.hid (show w1.ownsRow 0 3 1 (Value.slice none 0 0) 0 (flatI (kindsK n zs (opnL n zs ks) (kNt ks) 0)) ∧ (∀ g, ((Value.slice none 0 0)).ownBlock = some g → w1.heap.size ≤ g) ∧ Below w1.heap.size w1 w1 from ⟨own_nil _ _ _, fun g e => (by cases e), Below.refl _ _⟩)
  clear X XI HS B
  go_loopw [4, 5] (fun v kv wr => ∃ q : Nat, q ≤ n ∧ kv = .int .i64 (q : Int) ∧ Hid (wr.ownsRow 0 3 1 v q (flatI (kindsK n zs (opnL n zs ks) (kNt ks) q)) ∧ (∀ g, (v).ownBlock = some g → w1.heap.size ≤ g) ∧ Below w1.heap.size w1 wr)) (fun _ v _ => n - (intOf v).toNat)
  case atStart => exact ⟨0, Nat.zero_le _, rfl, HV0⟩
  case round =>
    obtain ⟨q, hq, rfl, HV⟩ := hrel
    obtain ⟨w2, rfl⟩ : ∃ v, v = wr := ⟨_, rfl⟩
    have hb := HV.out.2.2
    have X := Lib.hid (XA.out.below hb (Nat.le_refl _))
    have XI := Lib.hid (IA.out.below hb (Nat.le_refl _))
    have HS := Lib.hid ((hb.block _ (lt_of_block SA.out)).trans SA.out)
    have B := Lib.hid (BA.out.trans (hb.mono BA.out.size))
    clear hb HV0
    by_cases hlt : q < n
    · have hnb := Hn.out
      have zHS0 : w2.cell? ⟨R, 0, none⟩ = some (.int .i64 sl) := by rw [cell_row HS.out]; rfl
      have zHS1 : w2.cell? ⟨R, 1, none⟩ = some (.int .i64 sr) := by rw [cell_row HS.out]; rfl
      have zHS2 : w2.cell? ⟨R, 2, none⟩ = some (.slice A n cap) := by rw [cell_row HS.out]; rfl
      have zHS3 : w2.cell? ⟨R, 3, none⟩ = some (.slice A2 kn kc) := by rw [cell_row HS.out]; rfl
      go_wp2_with fail
      clear zHS0 zHS1 zHS2 zHS3
      refine (kind54 sl sr A n cap zs A2 kn kc ks q w2 X.out XI.out hlt Hk.out He.out).mono ?_
      rintro en w3 ⟨rfl, hb⟩
      replace X := Lib.hid (X.out.below hb (Nat.le_refl _))
      replace XI := Lib.hid (XI.out.below hb (Nat.le_refl _))
      replace HS := Lib.hid ((hb.block _ (lt_of_block HS.out)).trans HS.out)
      replace B := Lib.hid (B.out.trans (hb.mono B.out.size))
      have hown := own_keep HV.out.1 (Keeps.of_new (Mut := fun _ => False) hb) (fun _ _ e => e)
      have hsz := HV.out.2.2.size
      have hB2 := HV.out.2.2.trans (hb.mono hsz)
      have hsz2 := hB2.size
      have hks := kindsK_succ n zs (opnL n zs ks) (kNt ks) q
      obtain ⟨x, hx⟩ : ∃ x, kindS n zs (opnL n zs ks) (kNt ks) q = x := ⟨_, rfl⟩
      rw [hx] at hks ⊢
      obtain ⟨C, c, W1, hrun, hown2, hkp, hnew⟩ := app_int hown x (by have := Hn.out; omega)
      rw [← hks] at hown2
      have HN := Lib.hid (show W1.ownsRow 0 3 1 (Value.slice C (q + 1) c) (q + 1) (flatI (kindsK n zs (opnL n zs ks) (kNt ks) (q + 1))) ∧ (∀ g, ((Value.slice C (q + 1) c)).ownBlock = some g → w1.heap.size ≤ g) ∧ Below w1.heap.size w1 W1 from ⟨hown2, fun g e => by
        rcases hnew g e with e2 | e2
        · exact HV.out.2.1 g e2
        · omega, hB2.trans (hkp.below hsz2 (fun j hj e => by have := HV.out.2.1 j e; omega))⟩)
      clear hown hsz hB2 hsz2 hks hx hown2 hkp hnew HV
      try clear hb
      have zHS0 : w3.cell? ⟨R, 0, none⟩ = some (.int .i64 sl) := by rw [cell_row HS.out]; rfl
      have zHS1 : w3.cell? ⟨R, 1, none⟩ = some (.int .i64 sr) := by rw [cell_row HS.out]; rfl
      have zHS2 : w3.cell? ⟨R, 2, none⟩ = some (.slice A n cap) := by rw [cell_row HS.out]; rfl
      have zHS3 : w3.cell? ⟨R, 3, none⟩ = some (.slice A2 kn kc) := by rw [cell_row HS.out]; rfl
      go_wp2_with fail
      try (rw [hrun]; go_wp2_with fail)
      clear zHS0 zHS1 zHS2 zHS3
      go_roundw
      case rel => exact ⟨q + 1, by omega, by go_num, HN⟩
      case measure => simp [intOf]; omega
    · obtain rfl : n = q := by omega
      obtain ⟨C, c, rfl, hc, hi, -⟩ := ints_own (kindsK_len n zs (opnL n zs ks) (kNt ks) n) HV.out.1
      have HI := Lib.hid hi
      have Hc := Lib.hid hc
      clear hi hc
      have zHS0 : w2.cell? ⟨R, 0, none⟩ = some (.int .i64 sl) := by rw [cell_row HS.out]; rfl
      have zHS1 : w2.cell? ⟨R, 1, none⟩ = some (.int .i64 sr) := by rw [cell_row HS.out]; rfl
      have zHS2 : w2.cell? ⟨R, 2, none⟩ = some (.slice A n cap) := by rw [cell_row HS.out]; rfl
      have zHS3 : w2.cell? ⟨R, 3, none⟩ = some (.slice A2 kn kc) := by rw [cell_row HS.out]; rfl
      go_wp2_with fail
      clear zHS0 zHS1 zHS2 zHS3
      go_ret2
      exact ⟨C, c, rfl, Hc.out, HI.out, B.out⟩
end
end Go.Proofs.Ytnodkgejggnehaa
