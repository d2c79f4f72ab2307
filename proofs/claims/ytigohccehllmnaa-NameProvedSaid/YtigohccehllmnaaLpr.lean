/- Stage 6: NameProved. -/
import Derived.Test.YtigohccehllmnaaSde
import Derived.Test.YtigohccehllmnaaLf
namespace Go.Proofs.Ytigohccehllmnaa
set_option linter.unusedSimpArgs false
set_option linter.unusedVariables false
open Go.RowKit Go.Shelf

theorem fine_yes {l : NL} (h : fineL l = true) : grtL l = false ∧ chkL l = 0 := by
  unfold fineL at h
  simpa using h
theorem ctS_ris (l : NL) (S : Int → Bool) : risI (l.n : Int) (ctS l S) = true := nmK_ris _ _ _ (Nat.le_refl _)
theorem flowB (l : NL) (w : World) (h : NLs w l) (hch : chkL l = 0) {R : Int → Bool} (hR : Cheap l.zs l.ls l.rs R) :
    Calls Try.prog 29 #[.agg #[.int .i64 l.N, .slice l.A l.n l.cap, .slice l.LA l.ln l.lc, .slice l.RA l.rn l.rc]] w fun e w' => ∃ C fs, e = .returned (.tuple #[.slice C l.n l.n, .int .i64 0]) ∧ Ints w' C l.n fs ∧ flE l l.n fs = 0 ∧ grE l l.n fs = costS l.zs R ∧ Below w.heap.size w w' := by
  refine (flow29 l w h).mono ?_
  rintro e w' ⟨hh, hb⟩
  rcases hh with ⟨h0, -⟩ | ⟨-, F, f, rfl, hI, hf, S0, hc0, hs0⟩
  · exact absurd hch h0
  · obtain ⟨a, b⟩ := flow_told h hch hf
    exact ⟨_, _, rfl, hI, a, by rw [b, great_cheap (okl_list h hch) hf hs0 hc0 hR], hb⟩
theorem flow_le {l : NL} {W : World} (hn : NLs W l) {fn : Nat} {fs : List Int} (h : flE l fn fs = 0) {R : Int → Bool} (hR : Cheap l.zs l.ls l.rs R) : grE l fn fs ≤ costS l.zs R := by
  obtain ⟨a, b, c⟩ := told_flow hn h
  rw [c]
  exact great_min (okl_list hn a) b hR.1
section
attribute [local go_sem ↓] exec_app at_app
attribute [local go_sem] Oper.semAt_some
set_option maxRecDepth 100000 in
set_option maxHeartbeats 16000000 in
theorem proved7 (l : NL) (x : Nat) (FA : Option Addr) (fn fc : Nat) (fs : List Int) (w : World) (h : NLo w l) (hx : x ≤ 18446744073709551615) (hF : Ints w FA fn fs) (hfc : fn ≤ fc) (hfw : ∀ z ∈ fs, -9223372036854775808 ≤ z ∧ z ≤ 9223372036854775807) :
    Calls Try.prog 7 #[.agg #[.int .i64 l.N, .slice l.A l.n l.cap, .slice l.LA l.ln l.lc, .slice l.RA l.rn l.rc], .int .u64 (x : Int), .slice FA fn fc] w fun e w' => e = .returned (.bool true) ∧ Below w.heap.size w w' := by
  obtain ⟨R, hR⟩ : ∃ v, w.heap.size = v := ⟨_, rfl⟩
  have hb0 := below_alloc_ w (.cells #[.int .i64 l.N, .slice l.A l.n l.cap, .slice l.LA l.ln l.lc, .slice l.RA l.rn l.rc] 25)
  have hr0 := heap_alloc_new_ w (.cells #[.int .i64 l.N, .slice l.A l.n l.cap, .slice l.LA l.ln l.lc, .slice l.RA l.rn l.rc] 25)
  have hz0 : (w.alloc (.cells #[.int .i64 l.N, .slice l.A l.n l.cap, .slice l.LA l.ln l.lc, .slice l.RA l.rn l.rc] 25)).heap.size = w.heap.size + 1 := by simp
  obtain ⟨w0, hw0⟩ : ∃ v, w.alloc (.cells #[.int .i64 l.N, .slice l.A l.n l.cap, .slice l.LA l.ln l.lc, .slice l.RA l.rn l.rc] 25) = v := ⟨_, rfl⟩
  rw [hw0] at hb0 hr0 hz0
  rw [hR] at hr0 hz0
  have hB := hb0
  have LO := Lib.hid (h.below hB (Nat.le_refl _))
  have SF := Lib.hid (hF.below hB (Nat.le_refl _))
  have X := Lib.hid hr0
  have HW0 := Lib.hid hw0
  have B := Lib.hid hB
  have HR := Lib.hid hR
  clear hB hR hb0 hr0 hz0 hw0 h hF
  have Hfc := Lib.hid hfc
  have Hx := Lib.hid hx
  clear hfc hfw hx
  have ltX : R < w0.heap.size := lt_of_block X.out
  have zX0 : w0.cell? ⟨R, 0, none⟩ = some (.int .i64 l.N) := by rw [cell_row X.out]; rfl
  have zX1 : w0.cell? ⟨R, 1, none⟩ = some (.slice l.A l.n l.cap) := by rw [cell_row X.out]; rfl
  have zX2 : w0.cell? ⟨R, 2, none⟩ = some (.slice l.LA l.ln l.lc) := by rw [cell_row X.out]; rfl
  have zX3 : w0.cell? ⟨R, 3, none⟩ = some (.slice l.RA l.rn l.rc) := by rw [cell_row X.out]; rfl
  go_enter Try.func7, Try.ntmps7
  go_wp2_with fail
  try rw [HW0.out]
  try rw [HR.out]
  try simp only [Nat.add_assoc, Nat.reduceAdd]
  try go_wp2_with fail
  clear zX0 zX1 zX2 zX3 ltX
  refine (fineO l w0 LO.out).mono ?_
  rintro en w1 ⟨rfl, hb⟩
  replace LO := Lib.hid (LO.out.below hb (Nat.le_refl _))
  replace SF := Lib.hid (SF.out.below hb (Nat.le_refl _))
  replace X := Lib.hid ((hb.block _ (lt_of_block X.out)).trans X.out)
  replace B := Lib.hid (B.out.trans (hb.mono B.out.size))
  cases hg : fineL l
  try clear hb
  · clear hg
    have ltX : R < w1.heap.size := lt_of_block X.out
    have zX0 : w1.cell? ⟨R, 0, none⟩ = some (.int .i64 l.N) := by rw [cell_row X.out]; rfl
    have zX1 : w1.cell? ⟨R, 1, none⟩ = some (.slice l.A l.n l.cap) := by rw [cell_row X.out]; rfl
    have zX2 : w1.cell? ⟨R, 2, none⟩ = some (.slice l.LA l.ln l.lc) := by rw [cell_row X.out]; rfl
    have zX3 : w1.cell? ⟨R, 3, none⟩ = some (.slice l.RA l.rn l.rc) := by rw [cell_row X.out]; rfl
    go_wp2_with fail
    clear zX0 zX1 zX2 zX3 ltX
    refine (works14 w1).mono ?_
    rintro en w2 ⟨rfl, hb⟩
    replace B := Lib.hid (B.out.trans (hb.mono B.out.size))
    clear hb
    go_wp2_with fail
    go_ret
    exact ⟨rfl, B.out⟩
  have S := Lib.hid (LO.out.nls (fine_yes hg).1)
  have HCH := Lib.hid (fine_yes hg).2
  clear hg
  by_cases h2 : 140 < fn
  · have d2 : (140 : Int) < (fn : Int) := by omega
    have ltX : R < w1.heap.size := lt_of_block X.out
    have zX0 : w1.cell? ⟨R, 0, none⟩ = some (.int .i64 l.N) := by rw [cell_row X.out]; rfl
    have zX1 : w1.cell? ⟨R, 1, none⟩ = some (.slice l.A l.n l.cap) := by rw [cell_row X.out]; rfl
    have zX2 : w1.cell? ⟨R, 2, none⟩ = some (.slice l.LA l.ln l.lc) := by rw [cell_row X.out]; rfl
    have zX3 : w1.cell? ⟨R, 3, none⟩ = some (.slice l.RA l.rn l.rc) := by rw [cell_row X.out]; rfl
    go_wp2_with fail
    clear zX0 zX1 zX2 zX3 ltX
    refine (works14 w1).mono ?_
    rintro en w2 ⟨rfl, hb⟩
    replace B := Lib.hid (B.out.trans (hb.mono B.out.size))
    clear hb
    go_wp2_with fail
    go_ret
    exact ⟨rfl, B.out⟩
  have d2 : ¬ (140 : Int) < (fn : Int) := by omega
  have Hf6 := Lib.hid (show fn ≤ 1000000 by omega)
  have ltX : R < w1.heap.size := lt_of_block X.out
  have zX0 : w1.cell? ⟨R, 0, none⟩ = some (.int .i64 l.N) := by rw [cell_row X.out]; rfl
  have zX1 : w1.cell? ⟨R, 1, none⟩ = some (.slice l.A l.n l.cap) := by rw [cell_row X.out]; rfl
  have zX2 : w1.cell? ⟨R, 2, none⟩ = some (.slice l.LA l.ln l.lc) := by rw [cell_row X.out]; rfl
  have zX3 : w1.cell? ⟨R, 3, none⟩ = some (.slice l.RA l.rn l.rc) := by rw [cell_row X.out]; rfl
  go_wp2_with fail
  clear zX0 zX1 zX2 zX3 ltX
  clear h2 d2
  go_loopw [7] (fun i wr => ∃ k : Nat, k ≤ fn ∧ i = .int .i64 (k : Int) ∧ wr = w1) (fun i _ => fn - (intOf i).toNat)
  case atStart => exact ⟨0, Nat.zero_le _, rfl, rfl⟩
  case round =>
    obtain ⟨k, hk9, rfl, hw9⟩ := hrel
    subst wr
    have hf6 := Hf6.out
    by_cases hlt : k < fn
    · obtain ⟨bf, of_, hA, hcf⟩ := SF.out.2 (by omega)
      have v0 := hcf k hlt
      subst hA
      obtain ⟨fk, hfk⟩ : ∃ v, iAt fs k = v := ⟨_, rfl⟩
      rw [hfk] at v0
      have i0 : (0 : Int) ≤ (k : Int) := by omega
      have i1 : (k : Int) < (fn : Int) := by omega
      clear hcf hfk
      by_cases C1 : fk < -1099511627776
      · have d1 : decide (fk < -1099511627776) = true := decide_eq_true C1
        go_wp2_with fail
        refine (works14 w1).mono ?_
        rintro en w8 ⟨rfl, hb⟩
        replace B := Lib.hid (B.out.trans (hb.mono B.out.size))
        clear hb
        go_wp2_with fail
        go_ret
        exact ⟨rfl, B.out⟩
      have d1 : decide (fk < -1099511627776) = false := decide_eq_false C1
      by_cases C2 : 1099511627776 < fk
      · have d2 : decide (1099511627776 < fk) = true := decide_eq_true C2
        go_wp2_with fail
        refine (works14 w1).mono ?_
        rintro en w8 ⟨rfl, hb⟩
        replace B := Lib.hid (B.out.trans (hb.mono B.out.size))
        clear hb
        go_wp2_with fail
        go_ret
        exact ⟨rfl, B.out⟩
      have d2 : decide (1099511627776 < fk) = false := decide_eq_false C2
      go_wp2_with fail
      go_roundw
      case rel => exact ⟨k + 1, by omega, by go_num, trivial⟩
      case measure => simp [intOf]; omega
    obtain rfl : k = fn := by omega
    clear hk9 hlt hf6
    have hN := (chk_zero HCH.out).1
    obtain ⟨c, hcN⟩ : ∃ c : Nat, l.N = (c : Int) := ⟨l.N.toNat, by omega⟩
    have HCN := Lib.hid hcN
    have HTO := Lib.hid (show l.N.toNat = c by omega)
    have HC40 := Lib.hid (show c ≤ 40 by omega)
    have HN12 := Lib.hid (chk_zero HCH.out).2.1
    clear hN hcN
    have ltX : R < w1.heap.size := lt_of_block X.out
    have zX0 : w1.cell? ⟨R, 0, none⟩ = some (.int .i64 l.N) := by rw [cell_row X.out]; rfl
    have zX1 : w1.cell? ⟨R, 1, none⟩ = some (.slice l.A l.n l.cap) := by rw [cell_row X.out]; rfl
    have zX2 : w1.cell? ⟨R, 2, none⟩ = some (.slice l.LA l.ln l.lc) := by rw [cell_row X.out]; rfl
    have zX3 : w1.cell? ⟨R, 3, none⟩ = some (.slice l.RA l.rn l.rc) := by rw [cell_row X.out]; rfl
    go_wp2_with fail
    clear zX0 zX1 zX2 zX3 ltX
    refine (leastA l w1 S.out HCH.out).mono ?_
    rintro en w2 ⟨QL, R1, rfl, hI, hCh, hAl, hb⟩
    replace LO := Lib.hid (LO.out.below hb (Nat.le_refl _))
    replace SF := Lib.hid (SF.out.below hb (Nat.le_refl _))
    replace S := Lib.hid (S.out.below hb (Nat.le_refl _))
    replace X := Lib.hid ((hb.block _ (lt_of_block X.out)).trans X.out)
    replace B := Lib.hid (B.out.trans (hb.mono B.out.size))
    rw [HTO.out] at hI ⊢
    have HQ := Lib.hid hI
    have HCR := Lib.hid hCh
    have HAR := Lib.hid hAl
    obtain ⟨sR, hsR⟩ : ∃ v, nmK R1 c = v := ⟨_, rfl⟩
    obtain ⟨nR, hnR⟩ : ∃ v, sR.length = v := ⟨_, rfl⟩
    rw [hsR, hnR] at HQ ⊢
    have HSR := Lib.hid hsR
    obtain ⟨q, hq⟩ : ∃ v, costS l.zs R1 = v := ⟨_, rfl⟩
    rw [hq]
    have HQV := Lib.hid hq
    clear hI hCh hAl hsR hnR hq
    try clear hb
    have ltX : R < w2.heap.size := lt_of_block X.out
    have zX0 : w2.cell? ⟨R, 0, none⟩ = some (.int .i64 l.N) := by rw [cell_row X.out]; rfl
    have zX1 : w2.cell? ⟨R, 1, none⟩ = some (.slice l.A l.n l.cap) := by rw [cell_row X.out]; rfl
    have zX2 : w2.cell? ⟨R, 2, none⟩ = some (.slice l.LA l.ln l.lc) := by rw [cell_row X.out]; rfl
    have zX3 : w2.cell? ⟨R, 3, none⟩ = some (.slice l.RA l.rn l.rc) := by rw [cell_row X.out]; rfl
    go_wp2_with fail
    clear zX0 zX1 zX2 zX3 ltX
    refine (flowB l w2 S.out HCH.out HCR.out).mono ?_
    rintro en w3 ⟨CX, fx, rfl, hI, h1, h2, hb⟩
    replace LO := Lib.hid (LO.out.below hb (Nat.le_refl _))
    replace SF := Lib.hid (SF.out.below hb (Nat.le_refl _))
    replace S := Lib.hid (S.out.below hb (Nat.le_refl _))
    replace HQ := Lib.hid (HQ.out.below hb (Nat.le_refl _))
    replace X := Lib.hid ((hb.block _ (lt_of_block X.out)).trans X.out)
    replace B := Lib.hid (B.out.trans (hb.mono B.out.size))
    rw [HQV.out] at h2
    have HX := Lib.hid hI
    have HX1 := Lib.hid h1
    have HX2 := Lib.hid h2
    clear hI h1 h2
    try clear hb
    have ltX : R < w3.heap.size := lt_of_block X.out
    have zX0 : w3.cell? ⟨R, 0, none⟩ = some (.int .i64 l.N) := by rw [cell_row X.out]; rfl
    have zX1 : w3.cell? ⟨R, 1, none⟩ = some (.slice l.A l.n l.cap) := by rw [cell_row X.out]; rfl
    have zX2 : w3.cell? ⟨R, 2, none⟩ = some (.slice l.LA l.ln l.lc) := by rw [cell_row X.out]; rfl
    have zX3 : w3.cell? ⟨R, 3, none⟩ = some (.slice l.RA l.rn l.rc) := by rw [cell_row X.out]; rfl
    go_wp2_with fail
    clear zX0 zX1 zX2 zX3 ltX
    refine (checkFlow26 l CX l.n l.n fx w3 S.out HX.out (Nat.le_refl _)).mono ?_
    rintro en w4 ⟨rfl, hb⟩
    replace LO := Lib.hid (LO.out.below hb (Nat.le_refl _))
    replace SF := Lib.hid (SF.out.below hb (Nat.le_refl _))
    replace S := Lib.hid (S.out.below hb (Nat.le_refl _))
    replace HQ := Lib.hid (HQ.out.below hb (Nat.le_refl _))
    replace HX := Lib.hid (HX.out.below hb (Nat.le_refl _))
    replace X := Lib.hid ((hb.block _ (lt_of_block X.out)).trans X.out)
    replace B := Lib.hid (B.out.trans (hb.mono B.out.size))
    rw [HX1.out, HX2.out]
    try clear hb
    have ltX : R < w4.heap.size := lt_of_block X.out
    have zX0 : w4.cell? ⟨R, 0, none⟩ = some (.int .i64 l.N) := by rw [cell_row X.out]; rfl
    have zX1 : w4.cell? ⟨R, 1, none⟩ = some (.slice l.A l.n l.cap) := by rw [cell_row X.out]; rfl
    have zX2 : w4.cell? ⟨R, 2, none⟩ = some (.slice l.LA l.ln l.lc) := by rw [cell_row X.out]; rfl
    have zX3 : w4.cell? ⟨R, 3, none⟩ = some (.slice l.RA l.rn l.rc) := by rw [cell_row X.out]; rfl
    go_wp2_with fail
    clear zX0 zX1 zX2 zX3 ltX
    refine (refCheckFlow27 l CX l.n l.n fx w4 S.out HX.out (by have := HN12.out; omega)).mono ?_
    rintro en w5 ⟨rfl, hb⟩
    replace LO := Lib.hid (LO.out.below hb (Nat.le_refl _))
    replace SF := Lib.hid (SF.out.below hb (Nat.le_refl _))
    replace S := Lib.hid (S.out.below hb (Nat.le_refl _))
    replace HQ := Lib.hid (HQ.out.below hb (Nat.le_refl _))
    replace HX := Lib.hid (HX.out.below hb (Nat.le_refl _))
    replace X := Lib.hid ((hb.block _ (lt_of_block X.out)).trans X.out)
    replace B := Lib.hid (B.out.trans (hb.mono B.out.size))
    rw [HX1.out, HX2.out]
    try clear hb
    have ltX : R < w5.heap.size := lt_of_block X.out
    have zX0 : w5.cell? ⟨R, 0, none⟩ = some (.int .i64 l.N) := by rw [cell_row X.out]; rfl
    have zX1 : w5.cell? ⟨R, 1, none⟩ = some (.slice l.A l.n l.cap) := by rw [cell_row X.out]; rfl
    have zX2 : w5.cell? ⟨R, 2, none⟩ = some (.slice l.LA l.ln l.lc) := by rw [cell_row X.out]; rfl
    have zX3 : w5.cell? ⟨R, 3, none⟩ = some (.slice l.RA l.rn l.rc) := by rw [cell_row X.out]; rfl
    go_wp2_with fail
    clear zX0 zX1 zX2 zX3 ltX
    refine (cutS l R1 c (some ⟨QL, 0, none⟩) nR nR sR w5 S.out HCH.out HCN.out HSR.out.symm HQ.out (Nat.le_refl _) HCR.out.1).mono ?_
    rintro en w6 ⟨CC, cc, rfl, hcc, hI, hb⟩
    replace LO := Lib.hid (LO.out.below hb (Nat.le_refl _))
    replace SF := Lib.hid (SF.out.below hb (Nat.le_refl _))
    replace S := Lib.hid (S.out.below hb (Nat.le_refl _))
    replace HQ := Lib.hid (HQ.out.below hb (Nat.le_refl _))
    replace HX := Lib.hid (HX.out.below hb (Nat.le_refl _))
    replace X := Lib.hid ((hb.block _ (lt_of_block X.out)).trans X.out)
    replace B := Lib.hid (B.out.trans (hb.mono B.out.size))
    rw [HQV.out]
    obtain ⟨nc, hnc⟩ : ∃ v, (ctS l R1).length = v := ⟨_, rfl⟩
    rw [hnc] at hI hcc ⊢
    have HC := Lib.hid hI
    have HC6 := Lib.hid (show nc ≤ 1000000 by rw [← hnc]; have := nmK_len (fun x => cutB l.zs R1 x.toNat) l.n; have := HN12.out; unfold ctS; omega)
    clear hI hnc hcc
    try clear hb
    have ltX : R < w6.heap.size := lt_of_block X.out
    have zX0 : w6.cell? ⟨R, 0, none⟩ = some (.int .i64 l.N) := by rw [cell_row X.out]; rfl
    have zX1 : w6.cell? ⟨R, 1, none⟩ = some (.slice l.A l.n l.cap) := by rw [cell_row X.out]; rfl
    have zX2 : w6.cell? ⟨R, 2, none⟩ = some (.slice l.LA l.ln l.lc) := by rw [cell_row X.out]; rfl
    have zX3 : w6.cell? ⟨R, 3, none⟩ = some (.slice l.RA l.rn l.rc) := by rw [cell_row X.out]; rfl
    go_wp2_with fail
    clear zX0 zX1 zX2 zX3 ltX
    refine (cutS25 l R1 c (some ⟨QL, 0, none⟩) nR nR sR w6 S.out HCH.out HCN.out HSR.out.symm HQ.out HCR.out.1).mono ?_
    rintro en w7 ⟨C5, c5, rfl, hcc, hI, hb⟩
    replace LO := Lib.hid (LO.out.below hb (Nat.le_refl _))
    replace SF := Lib.hid (SF.out.below hb (Nat.le_refl _))
    replace S := Lib.hid (S.out.below hb (Nat.le_refl _))
    replace HQ := Lib.hid (HQ.out.below hb (Nat.le_refl _))
    replace HX := Lib.hid (HX.out.below hb (Nat.le_refl _))
    replace HC := Lib.hid (HC.out.below hb (Nat.le_refl _))
    replace X := Lib.hid ((hb.block _ (lt_of_block X.out)).trans X.out)
    replace B := Lib.hid (B.out.trans (hb.mono B.out.size))
    rw [HQV.out]
    obtain ⟨n5, hn5⟩ : ∃ v, (ctS l R1).length = v := ⟨_, rfl⟩
    rw [hn5]
    clear hI hcc hn5
    try clear hb
    have ltX : R < w7.heap.size := lt_of_block X.out
    have zX0 : w7.cell? ⟨R, 0, none⟩ = some (.int .i64 l.N) := by rw [cell_row X.out]; rfl
    have zX1 : w7.cell? ⟨R, 1, none⟩ = some (.slice l.A l.n l.cap) := by rw [cell_row X.out]; rfl
    have zX2 : w7.cell? ⟨R, 2, none⟩ = some (.slice l.LA l.ln l.lc) := by rw [cell_row X.out]; rfl
    have zX3 : w7.cell? ⟨R, 3, none⟩ = some (.slice l.RA l.rn l.rc) := by rw [cell_row X.out]; rfl
    go_wp2_with fail
    clear zX0 zX1 zX2 zX3 ltX
    refine (rising35 CC nc cc (ctS l R1) (l.n : Int) w7 HC.out HC6.out).mono ?_
    rintro en w8 ⟨rfl, hb⟩
    replace LO := Lib.hid (LO.out.below hb (Nat.le_refl _))
    replace SF := Lib.hid (SF.out.below hb (Nat.le_refl _))
    replace S := Lib.hid (S.out.below hb (Nat.le_refl _))
    replace HQ := Lib.hid (HQ.out.below hb (Nat.le_refl _))
    replace HX := Lib.hid (HX.out.below hb (Nat.le_refl _))
    replace HC := Lib.hid (HC.out.below hb (Nat.le_refl _))
    replace X := Lib.hid ((hb.block _ (lt_of_block X.out)).trans X.out)
    replace B := Lib.hid (B.out.trans (hb.mono B.out.size))
    rw [ctS_ris]
    try clear hb
    have ltX : R < w8.heap.size := lt_of_block X.out
    have zX0 : w8.cell? ⟨R, 0, none⟩ = some (.int .i64 l.N) := by rw [cell_row X.out]; rfl
    have zX1 : w8.cell? ⟨R, 1, none⟩ = some (.slice l.A l.n l.cap) := by rw [cell_row X.out]; rfl
    have zX2 : w8.cell? ⟨R, 2, none⟩ = some (.slice l.LA l.ln l.lc) := by rw [cell_row X.out]; rfl
    have zX3 : w8.cell? ⟨R, 3, none⟩ = some (.slice l.RA l.rn l.rc) := by rw [cell_row X.out]; rfl
    go_upto_region 16 with fail
    refine wp_region_held_drew (S := fun wS => Below w8.heap.size w8 wS) (by kernel_rfl) (drew_b _ _) (fun hS0 => ?_)
    refine wpAnyH_take (i := 0) (oi := { dst := some 142, op := Go.Op.load 25 (Go.Operand.tmp 3), type := 25, pos := "outright.go:42", after := #[], guard := none }) (v := .agg #[.int .i64 l.N, .slice l.A l.n l.cap, .slice l.LA l.ln l.lc, .slice l.RA l.rn l.rc]) rfl (by kernel_rfl) (by kernel_rfl) (by kernel_rfl) (fun _ _ _ h => h) (Or.inl ⟨by rfl, by intro wS hSw; (try dsimp only at hSw); have yX0 := (hSw.cell (lt_of_cell zX0)).trans zX0; have yX1 := (hSw.cell (lt_of_cell zX1)).trans zX1; have yX2 := (hSw.cell (lt_of_cell zX2)).trans zX2; have yX3 := (hSw.cell (lt_of_cell zX3)).trans zX3;   go_simp⟩) hS0 ?_
    try simp only [Act.put, List.setIfInBounds_toArray, List.set_cons_zero, List.set_cons_succ]
    refine wpAnyH_take (i := 1) (oi := { dst := some 143, op := Go.Op.load 25 (Go.Operand.tmp 3), type := 25, pos := "outright.go:42", after := #[], guard := none }) (v := .agg #[.int .i64 l.N, .slice l.A l.n l.cap, .slice l.LA l.ln l.lc, .slice l.RA l.rn l.rc]) rfl (by kernel_rfl) (by kernel_rfl) (by kernel_rfl) (fun _ _ _ h => h) (Or.inl ⟨by rfl, by intro wS hSw; (try dsimp only at hSw); have yX0 := (hSw.cell (lt_of_cell zX0)).trans zX0; have yX1 := (hSw.cell (lt_of_cell zX1)).trans zX1; have yX2 := (hSw.cell (lt_of_cell zX2)).trans zX2; have yX3 := (hSw.cell (lt_of_cell zX3)).trans zX3;   go_simp⟩) hS0 ?_
    try simp only [Act.put, List.setIfInBounds_toArray, List.set_cons_zero, List.set_cons_succ]
    refine wpAnyH_take (i := 2) (oi := { dst := some 144, op := Go.Op.move (Go.Operand.tmp 1), type := 52, pos := "outright.go:42", after := #[], guard := none }) (v := .int .u64 (x : Int)) rfl (by kernel_rfl) (by kernel_rfl) (by kernel_rfl) (fun _ _ _ h => h) (Or.inl ⟨by rfl, by intro wS hSw; (try dsimp only at hSw); have yX0 := (hSw.cell (lt_of_cell zX0)).trans zX0; have yX1 := (hSw.cell (lt_of_cell zX1)).trans zX1; have yX2 := (hSw.cell (lt_of_cell zX2)).trans zX2; have yX3 := (hSw.cell (lt_of_cell zX3)).trans zX3;   go_simp⟩) hS0 ?_
    try simp only [Act.put, List.setIfInBounds_toArray, List.set_cons_zero, List.set_cons_succ]
    refine wpAnyH_ready (rs := [3]) (by kernel_rfl) (by simp) ?_
    refine AllReadyH.cons (o := { dst := some 145, op := Go.Op.call { callee := Go.Callee.value (Go.Operand.func 36), args := #[Go.Operand.tmp 143, Go.Operand.tmp 144], argTypes := #[25, 52] }, type := 23, pos := "outright.go:42", after := #[{ on := 1, ground := Go.Ground.data }, { on := 2, ground := Go.Ground.data }], guard := none }) rfl (fun K2 hK => ?_) AllReadyH.nil
    go_simp
    refine (side36 l x c _ (S.out.below hS0 (Nat.le_refl _)) HCH.out HCN.out Hx.out).mono ?_
    rintro e9 w8v1 ⟨C6, c6, rfl, hc6, hI6, hb9⟩
    have H6 := Lib.hid hI6
    have Hc6 := Lib.hid hc6
    obtain ⟨n6, hn6⟩ : ∃ v, (nmK (sdP l x) c).length = v := ⟨_, rfl⟩
    rw [hn6] at H6 Hc6 ⊢
    clear hI6 hc6 hn6
    (try go_simp)
    refine hK.out _ _ (hS0.trans (hb9.mono hS0.size)) (fun hS1 => ?_)
    clear hK K2 hb9
    try simp only [Act.put, List.setIfInBounds_toArray, List.set_cons_zero, List.set_cons_succ]
    refine wpAnyH_ready (rs := [4]) (by kernel_rfl) (by simp) ?_
    refine AllReadyH.cons (o := { dst := some 146, op := Go.Op.call { callee := Go.Callee.value (Go.Operand.func 24), args := #[Go.Operand.tmp 142, Go.Operand.tmp 145], argTypes := #[25, 23] }, type := 42, pos := "outright.go:42", after := #[{ on := 0, ground := Go.Ground.data }, { on := 3, ground := Go.Ground.data }, { on := 3, ground := Go.Ground.chain }], guard := none }) rfl (fun K2 hK => ?_) AllReadyH.nil
    go_simp
    refine (cutS l (sdP l x) c C6 n6 c6 (nmK (sdP l x) c) w8v1 (S.out.below hS1 (Nat.le_refl _)) HCH.out HCN.out rfl H6.out Hc6.out (sdP_side HCH.out x)).mono ?_
    rintro e9 w8v2 ⟨C7, c7, rfl, -, -, hb9⟩
    obtain ⟨n7, hn7⟩ : ∃ v, (ctS l (sdP l x)).length = v := ⟨_, rfl⟩
    obtain ⟨z7, hz7⟩ : ∃ v, costS l.zs (sdP l x) = v := ⟨_, rfl⟩
    have HGE := Lib.hid (HCR.out.2 _ (sdP_side HCH.out x))
    rw [HQV.out, hz7] at HGE
    rw [hn7, hz7]
    clear hn7 hz7
    (try go_simp)
    refine hK.out _ _ (hS1.trans (hb9.mono hS1.size)) (fun hS2 => ?_)
    clear hK K2 hb9
    try simp only [Act.put, List.setIfInBounds_toArray, List.set_cons_zero, List.set_cons_succ]
    refine wpAnyH_take (i := 5) (oi := { dst := some 141, op := Go.Op.move (Go.Operand.tmp 146), type := 42, pos := "outright.go:42", after := #[{ on := 4, ground := Go.Ground.data }], guard := none }) (v := .tuple #[.slice C7 n7 c7, .int .i64 z7, .int .i64 0]) rfl (by kernel_rfl) (by kernel_rfl) (by kernel_rfl) (fun _ _ _ h => h) (Or.inl ⟨by rfl, by intro wS hSw; (try dsimp only at hSw); have yX0 := (hSw.cell (lt_of_cell zX0)).trans zX0; have yX1 := (hSw.cell (lt_of_cell zX1)).trans zX1; have yX2 := (hSw.cell (lt_of_cell zX2)).trans zX2; have yX3 := (hSw.cell (lt_of_cell zX3)).trans zX3;   go_simp⟩) hS2 ?_
    try simp only [Act.put, List.setIfInBounds_toArray, List.set_cons_zero, List.set_cons_succ]
    refine wpAnyH_take (i := 6) (oi := { dst := some 147, op := Go.Op.extract (Go.Operand.tmp 141) 0, type := 23, pos := "outright.go:42", after := #[{ on := 5, ground := Go.Ground.data }], guard := none }) (v := .slice C7 n7 c7) rfl (by kernel_rfl) (by kernel_rfl) (by kernel_rfl) (fun _ _ _ h => h) (Or.inl ⟨by rfl, by intro wS hSw; (try dsimp only at hSw); have yX0 := (hSw.cell (lt_of_cell zX0)).trans zX0; have yX1 := (hSw.cell (lt_of_cell zX1)).trans zX1; have yX2 := (hSw.cell (lt_of_cell zX2)).trans zX2; have yX3 := (hSw.cell (lt_of_cell zX3)).trans zX3;   go_simp⟩) hS2 ?_
    try simp only [Act.put, List.setIfInBounds_toArray, List.set_cons_zero, List.set_cons_succ]
    refine wpAnyH_take (i := 7) (oi := { dst := some 148, op := Go.Op.extract (Go.Operand.tmp 141) 1, type := 2, pos := "outright.go:42", after := #[{ on := 5, ground := Go.Ground.data }, { on := 9, ground := Go.Ground.gcOnly Go.Departure.lateStores }], guard := none }) (v := .int .i64 z7) rfl (by kernel_rfl) (by kernel_rfl) (by kernel_rfl) (fun _ _ _ h => h) (Or.inl ⟨by rfl, by intro wS hSw; (try dsimp only at hSw); have yX0 := (hSw.cell (lt_of_cell zX0)).trans zX0; have yX1 := (hSw.cell (lt_of_cell zX1)).trans zX1; have yX2 := (hSw.cell (lt_of_cell zX2)).trans zX2; have yX3 := (hSw.cell (lt_of_cell zX3)).trans zX3;   go_simp⟩) hS2 ?_
    try simp only [Act.put, List.setIfInBounds_toArray, List.set_cons_zero, List.set_cons_succ]
    refine wpAnyH_take (i := 8) (oi := { dst := some 149, op := Go.Op.extract (Go.Operand.tmp 141) 2, type := 29, pos := "outright.go:42", after := #[{ on := 5, ground := Go.Ground.data }, { on := 10, ground := Go.Ground.gcOnly Go.Departure.lateStores }], guard := none }) (v := .int .i64 0) rfl (by kernel_rfl) (by kernel_rfl) (by kernel_rfl) (fun _ _ _ h => h) (Or.inl ⟨by rfl, by intro wS hSw; (try dsimp only at hSw); have yX0 := (hSw.cell (lt_of_cell zX0)).trans zX0; have yX1 := (hSw.cell (lt_of_cell zX1)).trans zX1; have yX2 := (hSw.cell (lt_of_cell zX2)).trans zX2; have yX3 := (hSw.cell (lt_of_cell zX3)).trans zX3;   go_simp⟩) hS2 ?_
    try simp only [Act.put, List.setIfInBounds_toArray, List.set_cons_zero, List.set_cons_succ]
    refine wpAnyH_take (i := 9) (oi := { dst := some 23, op := Go.Op.assign (Go.Operand.tmp 147), type := 23, pos := "outright.go:42", after := #[{ on := 6, ground := Go.Ground.data }, { on := 4, ground := Go.Ground.chain }, { on := 0, ground := Go.Ground.phase }, { on := 1, ground := Go.Ground.phase }, { on := 2, ground := Go.Ground.phase }, { on := 3, ground := Go.Ground.phase }, { on := 4, ground := Go.Ground.phase }, { on := 5, ground := Go.Ground.phase }, { on := 6, ground := Go.Ground.phase }, { on := 7, ground := Go.Ground.textOnly Go.Departure.lateStores }, { on := 8, ground := Go.Ground.textOnly Go.Departure.lateStores }], guard := none }) (v := .slice C7 n7 c7) rfl (by kernel_rfl) (by kernel_rfl) (by kernel_rfl) (fun _ _ _ h => h) (Or.inl ⟨by rfl, by intro wS hSw; (try dsimp only at hSw); have yX0 := (hSw.cell (lt_of_cell zX0)).trans zX0; have yX1 := (hSw.cell (lt_of_cell zX1)).trans zX1; have yX2 := (hSw.cell (lt_of_cell zX2)).trans zX2; have yX3 := (hSw.cell (lt_of_cell zX3)).trans zX3;   go_simp⟩) hS2 ?_
    try simp only [Act.put, List.setIfInBounds_toArray, List.set_cons_zero, List.set_cons_succ]
    refine wpAnyH_take (i := 10) (oi := { dst := some 24, op := Go.Op.assign (Go.Operand.tmp 148), type := 2, pos := "outright.go:42", after := #[{ on := 7, ground := Go.Ground.data }, { on := 9, ground := Go.Ground.chain }, { on := 0, ground := Go.Ground.phase }, { on := 1, ground := Go.Ground.phase }, { on := 2, ground := Go.Ground.phase }, { on := 3, ground := Go.Ground.phase }, { on := 4, ground := Go.Ground.phase }, { on := 5, ground := Go.Ground.phase }, { on := 6, ground := Go.Ground.phase }, { on := 7, ground := Go.Ground.phase }, { on := 8, ground := Go.Ground.textOnly Go.Departure.lateStores }, { on := 9, ground := Go.Ground.phase }], guard := none }) (v := .int .i64 z7) rfl (by kernel_rfl) (by kernel_rfl) (by kernel_rfl) (fun _ _ _ h => h) (Or.inl ⟨by rfl, by intro wS hSw; (try dsimp only at hSw); have yX0 := (hSw.cell (lt_of_cell zX0)).trans zX0; have yX1 := (hSw.cell (lt_of_cell zX1)).trans zX1; have yX2 := (hSw.cell (lt_of_cell zX2)).trans zX2; have yX3 := (hSw.cell (lt_of_cell zX3)).trans zX3;   go_simp⟩) hS2 ?_
    try simp only [Act.put, List.setIfInBounds_toArray, List.set_cons_zero, List.set_cons_succ]
    refine wpAnyH_take (i := 11) (oi := { dst := some 10, op := Go.Op.assign (Go.Operand.tmp 149), type := 29, pos := "outright.go:42", after := #[{ on := 8, ground := Go.Ground.data }, { on := 10, ground := Go.Ground.chain }, { on := 0, ground := Go.Ground.phase }, { on := 1, ground := Go.Ground.phase }, { on := 2, ground := Go.Ground.phase }, { on := 3, ground := Go.Ground.phase }, { on := 4, ground := Go.Ground.phase }, { on := 5, ground := Go.Ground.phase }, { on := 6, ground := Go.Ground.phase }, { on := 7, ground := Go.Ground.phase }, { on := 8, ground := Go.Ground.phase }, { on := 9, ground := Go.Ground.phase }, { on := 10, ground := Go.Ground.phase }], guard := none }) (v := .int .i64 0) rfl (by kernel_rfl) (by kernel_rfl) (by kernel_rfl) (fun _ _ _ h => h) (Or.inl ⟨by rfl, by intro wS hSw; (try dsimp only at hSw); have yX0 := (hSw.cell (lt_of_cell zX0)).trans zX0; have yX1 := (hSw.cell (lt_of_cell zX1)).trans zX1; have yX2 := (hSw.cell (lt_of_cell zX2)).trans zX2; have yX3 := (hSw.cell (lt_of_cell zX3)).trans zX3;   go_simp⟩) hS2 ?_
    try simp only [Act.put, List.setIfInBounds_toArray, List.set_cons_zero, List.set_cons_succ]
    refine wpAnyH_done (by kernel_rfl) ?_ _
    clear zX0 zX1 zX2 zX3 ltX
    have hb := hS2
    clear hS0 hS1 hS2
    replace LO := Lib.hid (LO.out.below hb (Nat.le_refl _))
    replace SF := Lib.hid (SF.out.below hb (Nat.le_refl _))
    replace S := Lib.hid (S.out.below hb (Nat.le_refl _))
    replace HQ := Lib.hid (HQ.out.below hb (Nat.le_refl _))
    replace HX := Lib.hid (HX.out.below hb (Nat.le_refl _))
    replace HC := Lib.hid (HC.out.below hb (Nat.le_refl _))
    replace X := Lib.hid ((hb.block _ (lt_of_block X.out)).trans X.out)
    replace B := Lib.hid (B.out.trans (hb.mono B.out.size))
    clear hb
    have ltX : R < w8v2.heap.size := lt_of_block X.out
    have zX0 : w8v2.cell? ⟨R, 0, none⟩ = some (.int .i64 l.N) := by rw [cell_row X.out]; rfl
    have zX1 : w8v2.cell? ⟨R, 1, none⟩ = some (.slice l.A l.n l.cap) := by rw [cell_row X.out]; rfl
    have zX2 : w8v2.cell? ⟨R, 2, none⟩ = some (.slice l.LA l.ln l.lc) := by rw [cell_row X.out]; rfl
    have zX3 : w8v2.cell? ⟨R, 3, none⟩ = some (.slice l.RA l.rn l.rc) := by rw [cell_row X.out]; rfl
    go_wp2_with fail
    clear zX0 zX1 zX2 zX3 ltX
    refine (checkFlow26 l FA k fc fs w8v2 S.out SF.out Hfc.out).mono ?_
    rintro en w8v3 ⟨rfl, hb⟩
    replace LO := Lib.hid (LO.out.below hb (Nat.le_refl _))
    replace SF := Lib.hid (SF.out.below hb (Nat.le_refl _))
    replace S := Lib.hid (S.out.below hb (Nat.le_refl _))
    replace HQ := Lib.hid (HQ.out.below hb (Nat.le_refl _))
    replace HX := Lib.hid (HX.out.below hb (Nat.le_refl _))
    replace HC := Lib.hid (HC.out.below hb (Nat.le_refl _))
    replace X := Lib.hid ((hb.block _ (lt_of_block X.out)).trans X.out)
    replace B := Lib.hid (B.out.trans (hb.mono B.out.size))
    have HLE := Lib.hid (show flE l k fs = 0 → grE l k fs ≤ q from fun e => by rw [← HQV.out]; exact flow_le S.out e HCR.out)
    obtain ⟨fg, hfg⟩ : ∃ v, grE l k fs = v := ⟨_, rfl⟩
    obtain ⟨fe, hfe⟩ : ∃ v, flE l k fs = v := ⟨_, rfl⟩
    rw [hfg, hfe] at HLE ⊢
    clear hfg hfe
    have dge : decide (q ≤ z7) = true := decide_eq_true HGE.out
    have pge : q ≤ z7 := HGE.out
    by_cases h0 : fe = 0
    rotate_left
    try clear hb
    · have d0 : (fe != 0) = true := by rw [bne_iff_ne]; exact h0
      clear h0
      have ltX : R < w8v3.heap.size := lt_of_block X.out
      have zX0 : w8v3.cell? ⟨R, 0, none⟩ = some (.int .i64 l.N) := by rw [cell_row X.out]; rfl
      have zX1 : w8v3.cell? ⟨R, 1, none⟩ = some (.slice l.A l.n l.cap) := by rw [cell_row X.out]; rfl
      have zX2 : w8v3.cell? ⟨R, 2, none⟩ = some (.slice l.LA l.ln l.lc) := by rw [cell_row X.out]; rfl
      have zX3 : w8v3.cell? ⟨R, 3, none⟩ = some (.slice l.RA l.rn l.rc) := by rw [cell_row X.out]; rfl
      go_wp2_with fail
      clear zX0 zX1 zX2 zX3 ltX
      clear d0 dge pge
      refine (works14 w8v3).mono ?_
      rintro en w8v4 ⟨rfl, hb⟩
      replace B := Lib.hid (B.out.trans (hb.mono B.out.size))
      clear hb
      go_wp2_with fail
      go_ret
      exact ⟨rfl, B.out⟩
    have dle : decide (fg ≤ q) = true := decide_eq_true (HLE.out h0)
    have ple : fg ≤ q := HLE.out h0
    subst h0
    have ltX : R < w8v3.heap.size := lt_of_block X.out
    have zX0 : w8v3.cell? ⟨R, 0, none⟩ = some (.int .i64 l.N) := by rw [cell_row X.out]; rfl
    have zX1 : w8v3.cell? ⟨R, 1, none⟩ = some (.slice l.A l.n l.cap) := by rw [cell_row X.out]; rfl
    have zX2 : w8v3.cell? ⟨R, 2, none⟩ = some (.slice l.LA l.ln l.lc) := by rw [cell_row X.out]; rfl
    have zX3 : w8v3.cell? ⟨R, 3, none⟩ = some (.slice l.RA l.rn l.rc) := by rw [cell_row X.out]; rfl
    go_wp2_with fail
    clear zX0 zX1 zX2 zX3 ltX
    clear dge pge dle ple
    refine (works14 w8v3).mono ?_
    rintro en w8v4 ⟨rfl, hb⟩
    replace B := Lib.hid (B.out.trans (hb.mono B.out.size))
    clear hb
    go_wp2_with fail
    go_ret
    exact ⟨rfl, B.out⟩
end
end Go.Proofs.Ytigohccehllmnaa
