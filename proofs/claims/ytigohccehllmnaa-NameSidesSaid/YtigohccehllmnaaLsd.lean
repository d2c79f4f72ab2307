/- Stage 6: NameSides. -/
import Derived.Test.YtigohccehllmnaaLw
import Derived.Test.YtigohccehllmnaaCm
import Derived.Test.YtigohccehllmnaaLe
namespace Go.Proofs.Ytigohccehllmnaa
set_option linter.unusedSimpArgs false
set_option linter.unusedVariables false
open Go.RowKit Go.Shelf

/-- What both functions of sides return. -/
theorem leastX (l : NL) (w : World) (h : NLs w l) : Calls Try.prog 30 #[.agg #[.int .i64 l.N, .slice l.A l.n l.cap, .slice l.LA l.ln l.lc, .slice l.RA l.rn l.rc]] w fun e w' => ∃ C cap n s q, e = .returned (.tuple #[.slice C n cap, .int .i64 q, .int .i64 (chkL l)]) ∧ Ints w' C n s ∧ n ≤ 10000 ∧ (chkL l ≠ 0 → s = [] ∧ q = 0) ∧ (chkL l = 0 → ∃ R, AllC l R ∧ Cheap l.zs l.ls l.rs R ∧ s = nmK R l.N.toNat ∧ q = costS l.zs R) ∧ Below w.heap.size w w' := by
  by_cases hch : chkL l = 0
  · refine (leastA l w h hch).mono ?_
    rintro e w' ⟨Q, R, rfl, hI, hC, hA, hb⟩
    rw [hch]
    have hN := (chk_zero hch).1
    exact ⟨_, _, _, _, _, rfl, hI, by have := nmK_len R l.N.toNat; omega, fun e => absurd rfl e, fun _ => ⟨R, hA, hC, rfl, rfl⟩, hb⟩
  · refine (least30 l w h).mono ?_
    rintro e w' ⟨hh, hb⟩
    rcases hh with ⟨h0, rfl⟩ | ⟨h0, -⟩
    · exact ⟨none, 0, 0, [], 0, rfl, ⟨rfl, fun h => absurd h (by omega)⟩, by omega, fun _ => ⟨rfl, rfl⟩, fun e => absurd e hch, hb⟩
    · exact absurd h0 hch
theorem leastY (l : NL) (w : World) (h : NLs w l) (h9 : chkL l = 0 → l.N ≤ 9) : Calls Try.prog 31 #[.agg #[.int .i64 l.N, .slice l.A l.n l.cap, .slice l.LA l.ln l.lc, .slice l.RA l.rn l.rc]] w fun e w' => ∃ C cap n s q, e = .returned (.tuple #[.slice C n cap, .int .i64 q, .int .i64 (chkL l)]) ∧ Ints w' C n s ∧ n ≤ 10000 ∧ (chkL l ≠ 0 → s = [] ∧ q = 0) ∧ (chkL l = 0 → ∀ R, AllC l R → Cheap l.zs l.ls l.rs R → s = nmK R l.N.toNat ∧ q = costS l.zs R) ∧ Below w.heap.size w w' := by
  refine (refLeast31 l w h h9).mono ?_
  rintro e w' ⟨hh, hb⟩
  rcases hh with ⟨h0, rfl⟩ | ⟨h0, C, cap, rfl, hcap, hI⟩
  · exact ⟨none, 0, 0, [], 0, rfl, ⟨rfl, fun h => absurd h (by omega)⟩, by omega, fun _ => ⟨rfl, rfl⟩, fun e => absurd e h0, hb⟩
  · have hN := (chk_zero h0).1
    have hc : l.N = (l.N.toNat : Int) := by omega
    rw [h0]
    refine ⟨C, cap, _, _, _, rfl, hI, by have := nmK_len (onB (skL (chL l l.N.toNat) l.N.toNat)) l.N.toNat; omega, fun e => absurd rfl e, fun _ R hA hC => ?_, hb⟩
    have hz := okl_list h h0
    obtain ⟨R', hR'⟩ : ∃ R', NoneC l R' := ⟨fun x => @decide (∀ S, Cheap l.zs l.ls l.rs S → S x = false) (Classical.propDecidable _), fun x => @decide_eq_true_iff _ (Classical.propDecidable _)⟩
    have e1 := sk_sd h h0 hc hA hR'
    exact ⟨by rw [e1, onB_sd], ((ch_facts h h0 hc).2 R hC).2.symm⟩
theorem sidesX (l : NL) (w : World) (h : NLs w l) : Calls Try.prog 32 #[.agg #[.int .i64 l.N, .slice l.A l.n l.cap, .slice l.LA l.ln l.lc, .slice l.RA l.rn l.rc]] w fun e w' => ∃ C cap n s, e = .returned (.tuple #[.slice C n cap, .int .i64 (chkL l)]) ∧ Ints w' C n s ∧ n ≤ 10000 ∧ (chkL l ≠ 0 → s = []) ∧ (chkL l = 0 → ∃ R R', AllC l R ∧ NoneC l R' ∧ s = sdL R R' l.N.toNat) ∧ Below w.heap.size w w' := by
  by_cases hch : chkL l = 0
  · refine (sidesA l w h hch).mono ?_
    rintro e w' ⟨C, cap, R, R', rfl, hcap, hI, hA, hNn, -, -, hb⟩
    rw [hch]
    have hN := (chk_zero hch).1
    exact ⟨_, _, _, _, rfl, hI, by omega, fun e => absurd rfl e, fun _ => ⟨R, R', hA, hNn, rfl⟩, hb⟩
  · refine (sides32 l w h).mono ?_
    rintro e w' ⟨hh, hb⟩
    rcases hh with ⟨h0, rfl⟩ | ⟨h0, -⟩
    · exact ⟨none, 0, 0, [], rfl, ⟨rfl, fun h => absurd h (by omega)⟩, by omega, fun _ => rfl, fun e => absurd e hch, hb⟩
    · exact absurd h0 hch
theorem sidesY (l : NL) (w : World) (h : NLs w l) (h9 : chkL l = 0 → l.N ≤ 9) : Calls Try.prog 33 #[.agg #[.int .i64 l.N, .slice l.A l.n l.cap, .slice l.LA l.ln l.lc, .slice l.RA l.rn l.rc]] w fun e w' => ∃ C cap n s, e = .returned (.tuple #[.slice C n cap, .int .i64 (chkL l)]) ∧ Ints w' C n s ∧ n ≤ 10000 ∧ (chkL l ≠ 0 → s = []) ∧ (chkL l = 0 → ∀ R R', AllC l R → NoneC l R' → s = sdL R R' l.N.toNat) ∧ Below w.heap.size w w' := by
  refine (refSides33 l w h h9).mono ?_
  rintro e w' ⟨hh, hb⟩
  rcases hh with ⟨h0, rfl⟩ | ⟨h0, C, cap, rfl, hcap, hI⟩
  · exact ⟨none, 0, 0, [], rfl, ⟨rfl, fun h => absurd h (by omega)⟩, by omega, fun _ => rfl, fun e => absurd e h0, hb⟩
  · have hN := (chk_zero h0).1
    rw [h0]
    exact ⟨C, cap, _, _, rfl, hI, by omega, fun e => absurd rfl e, fun _ R R' hA hB => sk_sd h h0 (by omega) hA hB, hb⟩
section
attribute [local go_sem ↓] exec_app at_app
attribute [local go_sem] Oper.semAt_some
set_option maxRecDepth 100000 in
set_option maxHeartbeats 16000000 in
theorem sides6 (l : NL) (w : World) (h : NLo w l) :
    Calls Try.prog 6 #[.agg #[.int .i64 l.N, .slice l.A l.n l.cap, .slice l.LA l.ln l.lc, .slice l.RA l.rn l.rc]] w fun e w' => e = .returned (.bool true) ∧ Below w.heap.size w w' := by
  obtain ⟨R, hR⟩ : ∃ v, w.heap.size = v := ⟨_, rfl⟩
  have hb0 := below_alloc_ w (.cells #[.int .i64 l.N, .slice l.A l.n l.cap, .slice l.LA l.ln l.lc, .slice l.RA l.rn l.rc] 25)
  have hr0 := heap_alloc_new_ w (.cells #[.int .i64 l.N, .slice l.A l.n l.cap, .slice l.LA l.ln l.lc, .slice l.RA l.rn l.rc] 25)
  have hz0 : (w.alloc (.cells #[.int .i64 l.N, .slice l.A l.n l.cap, .slice l.LA l.ln l.lc, .slice l.RA l.rn l.rc] 25)).heap.size = w.heap.size + 1 := by simp
  obtain ⟨w0, hw0⟩ : ∃ v, w.alloc (.cells #[.int .i64 l.N, .slice l.A l.n l.cap, .slice l.LA l.ln l.lc, .slice l.RA l.rn l.rc] 25) = v := ⟨_, rfl⟩
  rw [hw0] at hb0 hr0 hz0
  rw [hR] at hr0 hz0
  have hB := hb0
  have LO := Lib.hid (h.below hB (Nat.le_refl _))
  have X := Lib.hid hr0
  have HW0 := Lib.hid hw0
  have B := Lib.hid hB
  have HR := Lib.hid hR
  clear hB hR hb0 hr0 hz0 hw0 h
  have ltX : R < w0.heap.size := lt_of_block X.out
  have zX0 : w0.cell? ⟨R, 0, none⟩ = some (.int .i64 l.N) := by rw [cell_row X.out]; rfl
  have zX1 : w0.cell? ⟨R, 1, none⟩ = some (.slice l.A l.n l.cap) := by rw [cell_row X.out]; rfl
  have zX2 : w0.cell? ⟨R, 2, none⟩ = some (.slice l.LA l.ln l.lc) := by rw [cell_row X.out]; rfl
  have zX3 : w0.cell? ⟨R, 3, none⟩ = some (.slice l.RA l.rn l.rc) := by rw [cell_row X.out]; rfl
  go_enter Try.func6, Try.ntmps6
  go_wp2_with fail
  try rw [HW0.out]
  try rw [HR.out]
  try simp only [Nat.add_assoc, Nat.reduceAdd]
  try go_wp2_with fail
  clear zX0 zX1 zX2 zX3 ltX
  refine (great13 l w0).mono ?_
  rintro en w1 ⟨rfl, hb⟩
  replace LO := Lib.hid (LO.out.below hb (Nat.le_refl _))
  replace X := Lib.hid ((hb.block _ (lt_of_block X.out)).trans X.out)
  replace B := Lib.hid (B.out.trans (hb.mono B.out.size))
  cases hg : grtL l
  rotate_left
  try clear hb
  · clear hg
    have ltX : R < w1.heap.size := lt_of_block X.out
    have zX0 : w1.cell? ⟨R, 0, none⟩ = some (.int .i64 l.N) := by rw [cell_row X.out]; rfl
    have zX1 : w1.cell? ⟨R, 1, none⟩ = some (.slice l.A l.n l.cap) := by rw [cell_row X.out]; rfl
    have zX2 : w1.cell? ⟨R, 2, none⟩ = some (.slice l.LA l.ln l.lc) := by rw [cell_row X.out]; rfl
    have zX3 : w1.cell? ⟨R, 3, none⟩ = some (.slice l.RA l.rn l.rc) := by rw [cell_row X.out]; rfl
    go_wp2_with fail
    clear zX0 zX1 zX2 zX3 ltX
    refine (works14 w1).mono ?_
    rintro en w2 ⟨rfl, hb⟩
    replace B := Lib.hid (B.out.trans (hb.mono B.out.size))
    clear hb
    go_wp2_with fail
    go_ret
    exact ⟨rfl, B.out⟩
  have S := Lib.hid (LO.out.nls hg)
  clear hg
  by_cases h1 : 9 < l.N ∧ l.N ≤ 40
  · have d1 : decide (9 < l.N) = true := decide_eq_true h1.1
    have d2 : decide (l.N ≤ 40) = true := decide_eq_true h1.2
    have d3 : 9 < l.N := h1.1
    have d4 : l.N ≤ 40 := h1.2
    clear h1
    have ltX : R < w1.heap.size := lt_of_block X.out
    have zX0 : w1.cell? ⟨R, 0, none⟩ = some (.int .i64 l.N) := by rw [cell_row X.out]; rfl
    have zX1 : w1.cell? ⟨R, 1, none⟩ = some (.slice l.A l.n l.cap) := by rw [cell_row X.out]; rfl
    have zX2 : w1.cell? ⟨R, 2, none⟩ = some (.slice l.LA l.ln l.lc) := by rw [cell_row X.out]; rfl
    have zX3 : w1.cell? ⟨R, 3, none⟩ = some (.slice l.RA l.rn l.rc) := by rw [cell_row X.out]; rfl
    go_wp2_with fail
    clear zX0 zX1 zX2 zX3 ltX
    refine (works14 w1).mono ?_
    rintro en w2 ⟨rfl, hb⟩
    replace B := Lib.hid (B.out.trans (hb.mono B.out.size))
    clear hb
    go_wp2_with fail
    go_ret
    exact ⟨rfl, B.out⟩
  have H9 := Lib.hid (show chkL l = 0 → l.N ≤ 9 from fun e => by have := (chk_zero e).1; omega)
  by_cases h2 : 9 < l.N
  · have d1 : decide (9 < l.N) = true := decide_eq_true h2
    have d2 : decide (l.N ≤ 40) = false := decide_eq_false (fun h => h1 ⟨h2, h⟩)
    have d4 : ¬ l.N ≤ 40 := fun h => h1 ⟨h2, h⟩
    clear h1
    have ltX : R < w1.heap.size := lt_of_block X.out
    have zX0 : w1.cell? ⟨R, 0, none⟩ = some (.int .i64 l.N) := by rw [cell_row X.out]; rfl
    have zX1 : w1.cell? ⟨R, 1, none⟩ = some (.slice l.A l.n l.cap) := by rw [cell_row X.out]; rfl
    have zX2 : w1.cell? ⟨R, 2, none⟩ = some (.slice l.LA l.ln l.lc) := by rw [cell_row X.out]; rfl
    have zX3 : w1.cell? ⟨R, 3, none⟩ = some (.slice l.RA l.rn l.rc) := by rw [cell_row X.out]; rfl
    go_wp2_with fail
    clear zX0 zX1 zX2 zX3 ltX
    refine (leastX l w1 S.out).mono ?_
    rintro en w2 ⟨C1, c1, n1, s1, q1, rfl, hI, hn8, hz, hk, hb⟩
    replace LO := Lib.hid (LO.out.below hb (Nat.le_refl _))
    replace S := Lib.hid (S.out.below hb (Nat.le_refl _))
    replace X := Lib.hid ((hb.block _ (lt_of_block X.out)).trans X.out)
    replace B := Lib.hid (B.out.trans (hb.mono B.out.size))
    obtain ⟨el, hel⟩ : ∃ v, chkL l = v := ⟨_, rfl⟩
    rw [hel] at hz hk ⊢
    have HEL := Lib.hid hel
    have HI1 := Lib.hid hI
    have HZ1 := Lib.hid hz
    have HK1 := Lib.hid hk
    have HN1 := Lib.hid hn8
    clear hel hI hz hk hn8
    try clear hb
    have ltX : R < w2.heap.size := lt_of_block X.out
    have zX0 : w2.cell? ⟨R, 0, none⟩ = some (.int .i64 l.N) := by rw [cell_row X.out]; rfl
    have zX1 : w2.cell? ⟨R, 1, none⟩ = some (.slice l.A l.n l.cap) := by rw [cell_row X.out]; rfl
    have zX2 : w2.cell? ⟨R, 2, none⟩ = some (.slice l.LA l.ln l.lc) := by rw [cell_row X.out]; rfl
    have zX3 : w2.cell? ⟨R, 3, none⟩ = some (.slice l.RA l.rn l.rc) := by rw [cell_row X.out]; rfl
    go_wp2_with fail
    clear zX0 zX1 zX2 zX3 ltX
    refine (leastY l w2 S.out H9.out).mono ?_
    rintro en w3 ⟨C2, c2, n2, s2, q2, rfl, hI, hn8, hz, hk, hb⟩
    replace LO := Lib.hid (LO.out.below hb (Nat.le_refl _))
    replace S := Lib.hid (S.out.below hb (Nat.le_refl _))
    replace HI1 := Lib.hid (HI1.out.below hb (Nat.le_refl _))
    replace X := Lib.hid ((hb.block _ (lt_of_block X.out)).trans X.out)
    replace B := Lib.hid (B.out.trans (hb.mono B.out.size))
    rw [HEL.out] at hz hk ⊢
    have hqs : q2 = q1 ∧ s2 = s1 := by
      by_cases e0 : el = 0
      · obtain ⟨R9, a, b, d, e⟩ := HK1.out e0
        obtain ⟨f, g⟩ := hk e0 R9 a b
        exact ⟨by rw [g, e], by rw [f, d]⟩
      · obtain ⟨a, b⟩ := HZ1.out e0
        obtain ⟨d, e⟩ := hz e0
        exact ⟨by rw [b, e], by rw [a, d]⟩
    obtain ⟨rfl, rfl⟩ := hqs
    have HI2 := Lib.hid hI
    clear hI hz hk hn8
    try clear hb
    have ltX : R < w3.heap.size := lt_of_block X.out
    have zX0 : w3.cell? ⟨R, 0, none⟩ = some (.int .i64 l.N) := by rw [cell_row X.out]; rfl
    have zX1 : w3.cell? ⟨R, 1, none⟩ = some (.slice l.A l.n l.cap) := by rw [cell_row X.out]; rfl
    have zX2 : w3.cell? ⟨R, 2, none⟩ = some (.slice l.LA l.ln l.lc) := by rw [cell_row X.out]; rfl
    have zX3 : w3.cell? ⟨R, 3, none⟩ = some (.slice l.RA l.rn l.rc) := by rw [cell_row X.out]; rfl
    go_wp2_with fail
    clear zX0 zX1 zX2 zX3 ltX
    refine (sidesX l w3 S.out).mono ?_
    rintro en w4 ⟨C3, c3, n3, s3, rfl, hI, hn8, hz, hk, hb⟩
    replace LO := Lib.hid (LO.out.below hb (Nat.le_refl _))
    replace S := Lib.hid (S.out.below hb (Nat.le_refl _))
    replace HI1 := Lib.hid (HI1.out.below hb (Nat.le_refl _))
    replace HI2 := Lib.hid (HI2.out.below hb (Nat.le_refl _))
    replace X := Lib.hid ((hb.block _ (lt_of_block X.out)).trans X.out)
    replace B := Lib.hid (B.out.trans (hb.mono B.out.size))
    rw [HEL.out] at hz hk ⊢
    have HI3 := Lib.hid hI
    have HZ3 := Lib.hid hz
    have HK3 := Lib.hid hk
    have HN3 := Lib.hid hn8
    clear hI hz hk hn8
    try clear hb
    have ltX : R < w4.heap.size := lt_of_block X.out
    have zX0 : w4.cell? ⟨R, 0, none⟩ = some (.int .i64 l.N) := by rw [cell_row X.out]; rfl
    have zX1 : w4.cell? ⟨R, 1, none⟩ = some (.slice l.A l.n l.cap) := by rw [cell_row X.out]; rfl
    have zX2 : w4.cell? ⟨R, 2, none⟩ = some (.slice l.LA l.ln l.lc) := by rw [cell_row X.out]; rfl
    have zX3 : w4.cell? ⟨R, 3, none⟩ = some (.slice l.RA l.rn l.rc) := by rw [cell_row X.out]; rfl
    go_wp2_with fail
    clear zX0 zX1 zX2 zX3 ltX
    refine (sidesY l w4 S.out H9.out).mono ?_
    rintro en w5 ⟨C4, c4, n4, s4, rfl, hI, hn8, hz, hk, hb⟩
    replace LO := Lib.hid (LO.out.below hb (Nat.le_refl _))
    replace S := Lib.hid (S.out.below hb (Nat.le_refl _))
    replace HI1 := Lib.hid (HI1.out.below hb (Nat.le_refl _))
    replace HI2 := Lib.hid (HI2.out.below hb (Nat.le_refl _))
    replace HI3 := Lib.hid (HI3.out.below hb (Nat.le_refl _))
    replace X := Lib.hid ((hb.block _ (lt_of_block X.out)).trans X.out)
    replace B := Lib.hid (B.out.trans (hb.mono B.out.size))
    rw [HEL.out] at hz hk ⊢
    have hqs : s4 = s3 := by
      by_cases e0 : el = 0
      · obtain ⟨R9, R8, a, b, d⟩ := HK3.out e0
        rw [hk e0 R9 R8 a b, d]
      · rw [HZ3.out e0, hz e0]
    obtain rfl := hqs
    have HI4 := Lib.hid hI
    clear hI hz hk hn8
    try clear hb
    have ltX : R < w5.heap.size := lt_of_block X.out
    have zX0 : w5.cell? ⟨R, 0, none⟩ = some (.int .i64 l.N) := by rw [cell_row X.out]; rfl
    have zX1 : w5.cell? ⟨R, 1, none⟩ = some (.slice l.A l.n l.cap) := by rw [cell_row X.out]; rfl
    have zX2 : w5.cell? ⟨R, 2, none⟩ = some (.slice l.LA l.ln l.lc) := by rw [cell_row X.out]; rfl
    have zX3 : w5.cell? ⟨R, 3, none⟩ = some (.slice l.RA l.rn l.rc) := by rw [cell_row X.out]; rfl
    go_wp2_with fail
    clear zX0 zX1 zX2 zX3 ltX
    refine (ints28 C1 n1 c1 s2 C2 n2 c2 s2 w5 HI1.out HI2.out HN1.out).mono ?_
    rintro en w6 ⟨rfl, hb⟩
    replace LO := Lib.hid (LO.out.below hb (Nat.le_refl _))
    replace S := Lib.hid (S.out.below hb (Nat.le_refl _))
    replace HI1 := Lib.hid (HI1.out.below hb (Nat.le_refl _))
    replace HI2 := Lib.hid (HI2.out.below hb (Nat.le_refl _))
    replace HI3 := Lib.hid (HI3.out.below hb (Nat.le_refl _))
    replace HI4 := Lib.hid (HI4.out.below hb (Nat.le_refl _))
    replace X := Lib.hid ((hb.block _ (lt_of_block X.out)).trans X.out)
    replace B := Lib.hid (B.out.trans (hb.mono B.out.size))
    rw [decide_eq_true (rfl : s2 = s2)]
    try clear hb
    have ltX : R < w6.heap.size := lt_of_block X.out
    have zX0 : w6.cell? ⟨R, 0, none⟩ = some (.int .i64 l.N) := by rw [cell_row X.out]; rfl
    have zX1 : w6.cell? ⟨R, 1, none⟩ = some (.slice l.A l.n l.cap) := by rw [cell_row X.out]; rfl
    have zX2 : w6.cell? ⟨R, 2, none⟩ = some (.slice l.LA l.ln l.lc) := by rw [cell_row X.out]; rfl
    have zX3 : w6.cell? ⟨R, 3, none⟩ = some (.slice l.RA l.rn l.rc) := by rw [cell_row X.out]; rfl
    go_wp2_with fail
    clear zX0 zX1 zX2 zX3 ltX
    refine (ints28 C3 n3 c3 s4 C4 n4 c4 s4 w6 HI3.out HI4.out HN3.out).mono ?_
    rintro en w7 ⟨rfl, hb⟩
    replace LO := Lib.hid (LO.out.below hb (Nat.le_refl _))
    replace S := Lib.hid (S.out.below hb (Nat.le_refl _))
    replace HI1 := Lib.hid (HI1.out.below hb (Nat.le_refl _))
    replace HI2 := Lib.hid (HI2.out.below hb (Nat.le_refl _))
    replace HI3 := Lib.hid (HI3.out.below hb (Nat.le_refl _))
    replace HI4 := Lib.hid (HI4.out.below hb (Nat.le_refl _))
    replace X := Lib.hid ((hb.block _ (lt_of_block X.out)).trans X.out)
    replace B := Lib.hid (B.out.trans (hb.mono B.out.size))
    rw [decide_eq_true (rfl : s4 = s4)]
    try clear hb
    have ltX : R < w7.heap.size := lt_of_block X.out
    have zX0 : w7.cell? ⟨R, 0, none⟩ = some (.int .i64 l.N) := by rw [cell_row X.out]; rfl
    have zX1 : w7.cell? ⟨R, 1, none⟩ = some (.slice l.A l.n l.cap) := by rw [cell_row X.out]; rfl
    have zX2 : w7.cell? ⟨R, 2, none⟩ = some (.slice l.LA l.ln l.lc) := by rw [cell_row X.out]; rfl
    have zX3 : w7.cell? ⟨R, 3, none⟩ = some (.slice l.RA l.rn l.rc) := by rw [cell_row X.out]; rfl
    go_wp2_with fail
    clear zX0 zX1 zX2 zX3 ltX
    refine (works14 w7).mono ?_
    rintro en w8 ⟨rfl, hb⟩
    replace B := Lib.hid (B.out.trans (hb.mono B.out.size))
    clear hb
    go_wp2_with fail
    go_ret
    exact ⟨rfl, B.out⟩
  have d1 : decide (9 < l.N) = false := decide_eq_false h2
  clear h1
  have ltX : R < w1.heap.size := lt_of_block X.out
  have zX0 : w1.cell? ⟨R, 0, none⟩ = some (.int .i64 l.N) := by rw [cell_row X.out]; rfl
  have zX1 : w1.cell? ⟨R, 1, none⟩ = some (.slice l.A l.n l.cap) := by rw [cell_row X.out]; rfl
  have zX2 : w1.cell? ⟨R, 2, none⟩ = some (.slice l.LA l.ln l.lc) := by rw [cell_row X.out]; rfl
  have zX3 : w1.cell? ⟨R, 3, none⟩ = some (.slice l.RA l.rn l.rc) := by rw [cell_row X.out]; rfl
  go_wp2_with fail
  clear zX0 zX1 zX2 zX3 ltX
  refine (leastX l w1 S.out).mono ?_
  rintro en w2 ⟨C1, c1, n1, s1, q1, rfl, hI, hn8, hz, hk, hb⟩
  replace LO := Lib.hid (LO.out.below hb (Nat.le_refl _))
  replace S := Lib.hid (S.out.below hb (Nat.le_refl _))
  replace X := Lib.hid ((hb.block _ (lt_of_block X.out)).trans X.out)
  replace B := Lib.hid (B.out.trans (hb.mono B.out.size))
  obtain ⟨el, hel⟩ : ∃ v, chkL l = v := ⟨_, rfl⟩
  rw [hel] at hz hk ⊢
  have HEL := Lib.hid hel
  have HI1 := Lib.hid hI
  have HZ1 := Lib.hid hz
  have HK1 := Lib.hid hk
  have HN1 := Lib.hid hn8
  clear hel hI hz hk hn8
  try clear hb
  have ltX : R < w2.heap.size := lt_of_block X.out
  have zX0 : w2.cell? ⟨R, 0, none⟩ = some (.int .i64 l.N) := by rw [cell_row X.out]; rfl
  have zX1 : w2.cell? ⟨R, 1, none⟩ = some (.slice l.A l.n l.cap) := by rw [cell_row X.out]; rfl
  have zX2 : w2.cell? ⟨R, 2, none⟩ = some (.slice l.LA l.ln l.lc) := by rw [cell_row X.out]; rfl
  have zX3 : w2.cell? ⟨R, 3, none⟩ = some (.slice l.RA l.rn l.rc) := by rw [cell_row X.out]; rfl
  go_wp2_with fail
  clear zX0 zX1 zX2 zX3 ltX
  refine (leastY l w2 S.out H9.out).mono ?_
  rintro en w3 ⟨C2, c2, n2, s2, q2, rfl, hI, hn8, hz, hk, hb⟩
  replace LO := Lib.hid (LO.out.below hb (Nat.le_refl _))
  replace S := Lib.hid (S.out.below hb (Nat.le_refl _))
  replace HI1 := Lib.hid (HI1.out.below hb (Nat.le_refl _))
  replace X := Lib.hid ((hb.block _ (lt_of_block X.out)).trans X.out)
  replace B := Lib.hid (B.out.trans (hb.mono B.out.size))
  rw [HEL.out] at hz hk ⊢
  have hqs : q2 = q1 ∧ s2 = s1 := by
    by_cases e0 : el = 0
    · obtain ⟨R9, a, b, d, e⟩ := HK1.out e0
      obtain ⟨f, g⟩ := hk e0 R9 a b
      exact ⟨by rw [g, e], by rw [f, d]⟩
    · obtain ⟨a, b⟩ := HZ1.out e0
      obtain ⟨d, e⟩ := hz e0
      exact ⟨by rw [b, e], by rw [a, d]⟩
  obtain ⟨rfl, rfl⟩ := hqs
  have HI2 := Lib.hid hI
  clear hI hz hk hn8
  try clear hb
  have ltX : R < w3.heap.size := lt_of_block X.out
  have zX0 : w3.cell? ⟨R, 0, none⟩ = some (.int .i64 l.N) := by rw [cell_row X.out]; rfl
  have zX1 : w3.cell? ⟨R, 1, none⟩ = some (.slice l.A l.n l.cap) := by rw [cell_row X.out]; rfl
  have zX2 : w3.cell? ⟨R, 2, none⟩ = some (.slice l.LA l.ln l.lc) := by rw [cell_row X.out]; rfl
  have zX3 : w3.cell? ⟨R, 3, none⟩ = some (.slice l.RA l.rn l.rc) := by rw [cell_row X.out]; rfl
  go_wp2_with fail
  clear zX0 zX1 zX2 zX3 ltX
  refine (sidesX l w3 S.out).mono ?_
  rintro en w4 ⟨C3, c3, n3, s3, rfl, hI, hn8, hz, hk, hb⟩
  replace LO := Lib.hid (LO.out.below hb (Nat.le_refl _))
  replace S := Lib.hid (S.out.below hb (Nat.le_refl _))
  replace HI1 := Lib.hid (HI1.out.below hb (Nat.le_refl _))
  replace HI2 := Lib.hid (HI2.out.below hb (Nat.le_refl _))
  replace X := Lib.hid ((hb.block _ (lt_of_block X.out)).trans X.out)
  replace B := Lib.hid (B.out.trans (hb.mono B.out.size))
  rw [HEL.out] at hz hk ⊢
  have HI3 := Lib.hid hI
  have HZ3 := Lib.hid hz
  have HK3 := Lib.hid hk
  have HN3 := Lib.hid hn8
  clear hI hz hk hn8
  try clear hb
  have ltX : R < w4.heap.size := lt_of_block X.out
  have zX0 : w4.cell? ⟨R, 0, none⟩ = some (.int .i64 l.N) := by rw [cell_row X.out]; rfl
  have zX1 : w4.cell? ⟨R, 1, none⟩ = some (.slice l.A l.n l.cap) := by rw [cell_row X.out]; rfl
  have zX2 : w4.cell? ⟨R, 2, none⟩ = some (.slice l.LA l.ln l.lc) := by rw [cell_row X.out]; rfl
  have zX3 : w4.cell? ⟨R, 3, none⟩ = some (.slice l.RA l.rn l.rc) := by rw [cell_row X.out]; rfl
  go_wp2_with fail
  clear zX0 zX1 zX2 zX3 ltX
  refine (sidesY l w4 S.out H9.out).mono ?_
  rintro en w5 ⟨C4, c4, n4, s4, rfl, hI, hn8, hz, hk, hb⟩
  replace LO := Lib.hid (LO.out.below hb (Nat.le_refl _))
  replace S := Lib.hid (S.out.below hb (Nat.le_refl _))
  replace HI1 := Lib.hid (HI1.out.below hb (Nat.le_refl _))
  replace HI2 := Lib.hid (HI2.out.below hb (Nat.le_refl _))
  replace HI3 := Lib.hid (HI3.out.below hb (Nat.le_refl _))
  replace X := Lib.hid ((hb.block _ (lt_of_block X.out)).trans X.out)
  replace B := Lib.hid (B.out.trans (hb.mono B.out.size))
  rw [HEL.out] at hz hk ⊢
  have hqs : s4 = s3 := by
    by_cases e0 : el = 0
    · obtain ⟨R9, R8, a, b, d⟩ := HK3.out e0
      rw [hk e0 R9 R8 a b, d]
    · rw [HZ3.out e0, hz e0]
  obtain rfl := hqs
  have HI4 := Lib.hid hI
  clear hI hz hk hn8
  try clear hb
  have ltX : R < w5.heap.size := lt_of_block X.out
  have zX0 : w5.cell? ⟨R, 0, none⟩ = some (.int .i64 l.N) := by rw [cell_row X.out]; rfl
  have zX1 : w5.cell? ⟨R, 1, none⟩ = some (.slice l.A l.n l.cap) := by rw [cell_row X.out]; rfl
  have zX2 : w5.cell? ⟨R, 2, none⟩ = some (.slice l.LA l.ln l.lc) := by rw [cell_row X.out]; rfl
  have zX3 : w5.cell? ⟨R, 3, none⟩ = some (.slice l.RA l.rn l.rc) := by rw [cell_row X.out]; rfl
  go_wp2_with fail
  clear zX0 zX1 zX2 zX3 ltX
  refine (ints28 C1 n1 c1 s2 C2 n2 c2 s2 w5 HI1.out HI2.out HN1.out).mono ?_
  rintro en w6 ⟨rfl, hb⟩
  replace LO := Lib.hid (LO.out.below hb (Nat.le_refl _))
  replace S := Lib.hid (S.out.below hb (Nat.le_refl _))
  replace HI1 := Lib.hid (HI1.out.below hb (Nat.le_refl _))
  replace HI2 := Lib.hid (HI2.out.below hb (Nat.le_refl _))
  replace HI3 := Lib.hid (HI3.out.below hb (Nat.le_refl _))
  replace HI4 := Lib.hid (HI4.out.below hb (Nat.le_refl _))
  replace X := Lib.hid ((hb.block _ (lt_of_block X.out)).trans X.out)
  replace B := Lib.hid (B.out.trans (hb.mono B.out.size))
  rw [decide_eq_true (rfl : s2 = s2)]
  try clear hb
  have ltX : R < w6.heap.size := lt_of_block X.out
  have zX0 : w6.cell? ⟨R, 0, none⟩ = some (.int .i64 l.N) := by rw [cell_row X.out]; rfl
  have zX1 : w6.cell? ⟨R, 1, none⟩ = some (.slice l.A l.n l.cap) := by rw [cell_row X.out]; rfl
  have zX2 : w6.cell? ⟨R, 2, none⟩ = some (.slice l.LA l.ln l.lc) := by rw [cell_row X.out]; rfl
  have zX3 : w6.cell? ⟨R, 3, none⟩ = some (.slice l.RA l.rn l.rc) := by rw [cell_row X.out]; rfl
  go_wp2_with fail
  clear zX0 zX1 zX2 zX3 ltX
  refine (ints28 C3 n3 c3 s4 C4 n4 c4 s4 w6 HI3.out HI4.out HN3.out).mono ?_
  rintro en w7 ⟨rfl, hb⟩
  replace LO := Lib.hid (LO.out.below hb (Nat.le_refl _))
  replace S := Lib.hid (S.out.below hb (Nat.le_refl _))
  replace HI1 := Lib.hid (HI1.out.below hb (Nat.le_refl _))
  replace HI2 := Lib.hid (HI2.out.below hb (Nat.le_refl _))
  replace HI3 := Lib.hid (HI3.out.below hb (Nat.le_refl _))
  replace HI4 := Lib.hid (HI4.out.below hb (Nat.le_refl _))
  replace X := Lib.hid ((hb.block _ (lt_of_block X.out)).trans X.out)
  replace B := Lib.hid (B.out.trans (hb.mono B.out.size))
  rw [decide_eq_true (rfl : s4 = s4)]
  try clear hb
  have ltX : R < w7.heap.size := lt_of_block X.out
  have zX0 : w7.cell? ⟨R, 0, none⟩ = some (.int .i64 l.N) := by rw [cell_row X.out]; rfl
  have zX1 : w7.cell? ⟨R, 1, none⟩ = some (.slice l.A l.n l.cap) := by rw [cell_row X.out]; rfl
  have zX2 : w7.cell? ⟨R, 2, none⟩ = some (.slice l.LA l.ln l.lc) := by rw [cell_row X.out]; rfl
  have zX3 : w7.cell? ⟨R, 3, none⟩ = some (.slice l.RA l.rn l.rc) := by rw [cell_row X.out]; rfl
  go_wp2_with fail
  clear zX0 zX1 zX2 zX3 ltX
  refine (works14 w7).mono ?_
  rintro en w8 ⟨rfl, hb⟩
  replace B := Lib.hid (B.out.trans (hb.mono B.out.size))
  clear hb
  go_wp2_with fail
  go_ret
  exact ⟨rfl, B.out⟩
end
end Go.Proofs.Ytigohccehllmnaa
