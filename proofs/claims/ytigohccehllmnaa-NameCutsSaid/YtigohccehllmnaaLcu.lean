/- Stage 6: NameCuts. -/
import Derived.Test.YtigohccehllmnaaLw
import Derived.Test.YtigohccehllmnaaDk9
namespace Go.Proofs.Ytigohccehllmnaa
set_option linter.unusedSimpArgs false
set_option linter.unusedVariables false
open Go.RowKit Go.Shelf

/-- The links that a side cuts, and what it costs, as they are asked for. -/
def ctL (l : NL) (ss : List Int) : List Int := if cutE l ss ≠ 0 then [] else ctK l.zs ss l.n
def csL (l : NL) (ss : List Int) : Int := if cutE l ss ≠ 0 then 0 else csK l.zs ss l.n
theorem ctL_len {l : NL} {ss : List Int} : (ctL l ss).length ≤ 10000 := by
  unfold ctL
  split
  · simp
  · rename_i h
    have := ctK_len l.zs ss l.n
    have h2 : cutE l ss = 0 := by omega
    unfold cutE at h2
    rw [layE_nil] at h2
    have := (chk_zero (l := l) (by split at h2 <;> omega)).2.1
    omega
theorem cutA (l : NL) (SA : Option Addr) (sn sc : Nat) (ss : List Int) (w : World) (h : NLs w l) (hS : Ints w SA sn ss) (hsc : sn ≤ sc) (hs6 : sn ≤ 1000000) :
    Calls Try.prog 24 #[.agg #[.int .i64 l.N, .slice l.A l.n l.cap, .slice l.LA l.ln l.lc, .slice l.RA l.rn l.rc], .slice SA sn sc] w fun e w' => ∃ C cp, e = .returned (.tuple #[.slice C (ctL l ss).length cp, .int .i64 (csL l ss), .int .i64 (cutE l ss)]) ∧ (ctL l ss).length ≤ cp ∧ Ints w' C (ctL l ss).length (ctL l ss) ∧ Below w.heap.size w w' := by
  refine (cut24 l SA sn sc ss w h hS hsc hs6).mono ?_
  rintro e w' ⟨hh, hb⟩
  have hnil : Ints w' none 0 [] := ⟨rfl, fun h => absurd h (by omega)⟩
  unfold ctL csL
  rcases hh with ⟨h0, rfl⟩ | ⟨h0, C, cp, rfl, hc, hI⟩
  · rw [if_pos h0, if_pos h0]; exact ⟨none, 0, rfl, Nat.le_refl _, hnil, hb⟩
  · rw [h0, if_neg (by decide), if_neg (by decide)]; exact ⟨C, cp, rfl, hc, hI, hb⟩
theorem cutB2 (l : NL) (SA : Option Addr) (sn sc : Nat) (ss : List Int) (w : World) (h : NLs w l) (hS : Ints w SA sn ss) (hs6 : sn ≤ 1000000) :
    Calls Try.prog 25 #[.agg #[.int .i64 l.N, .slice l.A l.n l.cap, .slice l.LA l.ln l.lc, .slice l.RA l.rn l.rc], .slice SA sn sc] w fun e w' => ∃ C cp, e = .returned (.tuple #[.slice C (ctL l ss).length cp, .int .i64 (csL l ss), .int .i64 (cutE l ss)]) ∧ (ctL l ss).length ≤ cp ∧ Ints w' C (ctL l ss).length (ctL l ss) ∧ Below w.heap.size w w' := by
  refine (refCut25 l SA sn sc ss w h hS hs6).mono ?_
  rintro e w' ⟨hh, hb⟩
  have hnil : Ints w' none 0 [] := ⟨rfl, fun h => absurd h (by omega)⟩
  unfold ctL csL
  rcases hh with ⟨h0, rfl⟩ | ⟨h0, C, cp, rfl, hc, hI⟩
  · rw [if_pos h0, if_pos h0]; exact ⟨none, 0, rfl, Nat.le_refl _, hnil, hb⟩
  · rw [h0, if_neg (by decide), if_neg (by decide)]; exact ⟨C, cp, rfl, hc, hI, hb⟩
/-- The flow that is returned. -/
theorem flowA (l : NL) (w : World) (h : NLs w l) :
    Calls Try.prog 29 #[.agg #[.int .i64 l.N, .slice l.A l.n l.cap, .slice l.LA l.ln l.lc, .slice l.RA l.rn l.rc]] w fun e w' => ∃ C n fs, e = .returned (.tuple #[.slice C n n, .int .i64 (chkL l)]) ∧ n ≤ 1000000 ∧ Ints w' C n fs ∧ (chkL l ≠ 0 → n = 0) ∧ (chkL l = 0 → flE l n fs = 0) ∧ Below w.heap.size w w' := by
  refine (flow29 l w h).mono ?_
  rintro e w' ⟨hh, hb⟩
  have hnil : Ints w' none 0 [] := ⟨rfl, fun h => absurd h (by omega)⟩
  rcases hh with ⟨h0, rfl⟩ | ⟨h0, F, f, rfl, hI, hf, hc⟩
  · exact ⟨none, 0, [], rfl, by omega, hnil, fun _ => rfl, fun e => absurd e h0, hb⟩
  · have := (flow_told h h0 hf).1
    rw [h0]
    exact ⟨_, _, _, rfl, h.n6, hI, fun e => absurd rfl e, fun _ => this, hb⟩
section
attribute [local go_sem ↓] exec_app at_app
attribute [local go_sem] Oper.semAt_some
set_option maxRecDepth 100000 in
set_option maxHeartbeats 16000000 in
theorem cuts5 (l : NL) (SA : Option Addr) (sn sc : Nat) (ss : List Int) (FA : Option Addr) (fn fc : Nat) (fs : List Int) (w : World) (h : NLo w l) (hS : Ints w SA sn ss) (hsc : sn ≤ sc) (hF : Ints w FA fn fs) (hfc : fn ≤ fc) (hfw : ∀ z ∈ fs, -9223372036854775808 ≤ z ∧ z ≤ 9223372036854775807) :
    Calls Try.prog 5 #[.agg #[.int .i64 l.N, .slice l.A l.n l.cap, .slice l.LA l.ln l.lc, .slice l.RA l.rn l.rc], .slice SA sn sc, .slice FA fn fc] w fun e w' => e = .returned (.bool true) ∧ Below w.heap.size w w' := by
  obtain ⟨R, hR⟩ : ∃ v, w.heap.size = v := ⟨_, rfl⟩
  have hb0 := below_alloc_ w (.cells #[.int .i64 l.N, .slice l.A l.n l.cap, .slice l.LA l.ln l.lc, .slice l.RA l.rn l.rc] 25)
  have hr0 := heap_alloc_new_ w (.cells #[.int .i64 l.N, .slice l.A l.n l.cap, .slice l.LA l.ln l.lc, .slice l.RA l.rn l.rc] 25)
  have hz0 : (w.alloc (.cells #[.int .i64 l.N, .slice l.A l.n l.cap, .slice l.LA l.ln l.lc, .slice l.RA l.rn l.rc] 25)).heap.size = w.heap.size + 1 := by simp
  obtain ⟨w0, hw0⟩ : ∃ v, w.alloc (.cells #[.int .i64 l.N, .slice l.A l.n l.cap, .slice l.LA l.ln l.lc, .slice l.RA l.rn l.rc] 25) = v := ⟨_, rfl⟩
  rw [hw0] at hb0 hr0 hz0
  rw [hR] at hr0 hz0
  have hB := hb0
  have LO := Lib.hid (h.below hB (Nat.le_refl _))
  have SS := Lib.hid (hS.below hB (Nat.le_refl _))
  have SF := Lib.hid (hF.below hB (Nat.le_refl _))
  have X := Lib.hid hr0
  have HW0 := Lib.hid hw0
  have B := Lib.hid hB
  have HR := Lib.hid hR
  clear hB hR hb0 hr0 hz0 hw0 h hS hF
  have Hsc := Lib.hid hsc
  have Hfc := Lib.hid hfc
  clear hsc hfc hfw
  have ltX : R < w0.heap.size := lt_of_block X.out
  have zX0 : w0.cell? ⟨R, 0, none⟩ = some (.int .i64 l.N) := by rw [cell_row X.out]; rfl
  have zX1 : w0.cell? ⟨R, 1, none⟩ = some (.slice l.A l.n l.cap) := by rw [cell_row X.out]; rfl
  have zX2 : w0.cell? ⟨R, 2, none⟩ = some (.slice l.LA l.ln l.lc) := by rw [cell_row X.out]; rfl
  have zX3 : w0.cell? ⟨R, 3, none⟩ = some (.slice l.RA l.rn l.rc) := by rw [cell_row X.out]; rfl
  go_enter Try.func5, Try.ntmps5
  go_wp2_with fail
  try rw [HW0.out]
  try rw [HR.out]
  try simp only [Nat.add_assoc, Nat.reduceAdd]
  try go_wp2_with fail
  clear zX0 zX1 zX2 zX3 ltX
  refine (great13 l w0).mono ?_
  rintro en w1 ⟨rfl, hb⟩
  replace LO := Lib.hid (LO.out.below hb (Nat.le_refl _))
  replace SS := Lib.hid (SS.out.below hb (Nat.le_refl _))
  replace SF := Lib.hid (SF.out.below hb (Nat.le_refl _))
  replace X := Lib.hid ((hb.block _ (lt_of_block X.out)).trans X.out)
  replace B := Lib.hid (B.out.trans (hb.mono B.out.size))
  cases hg : grtL l
  rotate_left
  try clear hb
  · clear hg
    have ltX : R < w1.heap.size := lt_of_block X.out
    have zX0 : w1.cell? ⟨R, 0, none⟩ = some (.int .i64 l.N) := by rw [cell_row X.out]; rfl
    have zX1 : w1.cell? ⟨R, 1, none⟩ = some (.slice l.A l.n l.cap) := by rw [cell_row X.out]; rfl
    have zX2 : w1.cell? ⟨R, 2, none⟩ = some (.slice l.LA l.ln l.lc) := by rw [cell_row X.out]; rfl
    have zX3 : w1.cell? ⟨R, 3, none⟩ = some (.slice l.RA l.rn l.rc) := by rw [cell_row X.out]; rfl
    go_wp2_with fail
    clear zX0 zX1 zX2 zX3 ltX
    refine (works14 w1).mono ?_
    rintro en w2 ⟨rfl, hb⟩
    replace B := Lib.hid (B.out.trans (hb.mono B.out.size))
    clear hb
    go_wp2_with fail
    go_ret
    exact ⟨rfl, B.out⟩
  have S := Lib.hid (LO.out.nls hg)
  clear hg
  by_cases h1 : 50 < sn
  · have d1 : (50 : Int) < (sn : Int) := by omega
    have ltX : R < w1.heap.size := lt_of_block X.out
    have zX0 : w1.cell? ⟨R, 0, none⟩ = some (.int .i64 l.N) := by rw [cell_row X.out]; rfl
    have zX1 : w1.cell? ⟨R, 1, none⟩ = some (.slice l.A l.n l.cap) := by rw [cell_row X.out]; rfl
    have zX2 : w1.cell? ⟨R, 2, none⟩ = some (.slice l.LA l.ln l.lc) := by rw [cell_row X.out]; rfl
    have zX3 : w1.cell? ⟨R, 3, none⟩ = some (.slice l.RA l.rn l.rc) := by rw [cell_row X.out]; rfl
    go_wp2_with fail
    clear zX0 zX1 zX2 zX3 ltX
    refine (works14 w1).mono ?_
    rintro en w2 ⟨rfl, hb⟩
    replace B := Lib.hid (B.out.trans (hb.mono B.out.size))
    clear hb
    go_wp2_with fail
    go_ret
    exact ⟨rfl, B.out⟩
  have d1 : ¬ (50 : Int) < (sn : Int) := by omega
  by_cases h2 : 140 < fn
  · have d2 : (140 : Int) < (fn : Int) := by omega
    have ltX : R < w1.heap.size := lt_of_block X.out
    have zX0 : w1.cell? ⟨R, 0, none⟩ = some (.int .i64 l.N) := by rw [cell_row X.out]; rfl
    have zX1 : w1.cell? ⟨R, 1, none⟩ = some (.slice l.A l.n l.cap) := by rw [cell_row X.out]; rfl
    have zX2 : w1.cell? ⟨R, 2, none⟩ = some (.slice l.LA l.ln l.lc) := by rw [cell_row X.out]; rfl
    have zX3 : w1.cell? ⟨R, 3, none⟩ = some (.slice l.RA l.rn l.rc) := by rw [cell_row X.out]; rfl
    go_wp2_with fail
    clear zX0 zX1 zX2 zX3 ltX
    refine (works14 w1).mono ?_
    rintro en w2 ⟨rfl, hb⟩
    replace B := Lib.hid (B.out.trans (hb.mono B.out.size))
    clear hb
    go_wp2_with fail
    go_ret
    exact ⟨rfl, B.out⟩
  have d2 : ¬ (140 : Int) < (fn : Int) := by omega
  have Hs6 := Lib.hid (show sn ≤ 1000000 by omega)
  have Hf6 := Lib.hid (show fn ≤ 1000000 by omega)
  have ltX : R < w1.heap.size := lt_of_block X.out
  have zX0 : w1.cell? ⟨R, 0, none⟩ = some (.int .i64 l.N) := by rw [cell_row X.out]; rfl
  have zX1 : w1.cell? ⟨R, 1, none⟩ = some (.slice l.A l.n l.cap) := by rw [cell_row X.out]; rfl
  have zX2 : w1.cell? ⟨R, 2, none⟩ = some (.slice l.LA l.ln l.lc) := by rw [cell_row X.out]; rfl
  have zX3 : w1.cell? ⟨R, 3, none⟩ = some (.slice l.RA l.rn l.rc) := by rw [cell_row X.out]; rfl
  go_wp2_with fail
  clear zX0 zX1 zX2 zX3 ltX
  clear h1 d1 h2 d2
  go_loopw [7] (fun i wr => ∃ k : Nat, k ≤ fn ∧ i = .int .i64 (k : Int) ∧ wr = w1) (fun i _ => fn - (intOf i).toNat)
  case atStart => exact ⟨0, Nat.zero_le _, rfl, rfl⟩
  case round =>
    obtain ⟨k, hk9, rfl, hw9⟩ := hrel
    subst wr
    have hf6 := Hf6.out
    by_cases hlt : k < fn
    · obtain ⟨bf, of_, hA, hcf⟩ := SF.out.2 (by omega)
      have v0 := hcf k hlt
      subst hA
      obtain ⟨fk, hfk⟩ : ∃ v, iAt fs k = v := ⟨_, rfl⟩
      rw [hfk] at v0
      have i0 : (0 : Int) ≤ (k : Int) := by omega
      have i1 : (k : Int) < (fn : Int) := by omega
      clear hcf hfk
      by_cases C1 : fk < -1099511627776
      · have d1 : decide (fk < -1099511627776) = true := decide_eq_true C1
        go_wp2_with fail
        refine (works14 w1).mono ?_
        rintro en w8 ⟨rfl, hb⟩
        replace B := Lib.hid (B.out.trans (hb.mono B.out.size))
        clear hb
        go_wp2_with fail
        go_ret
        exact ⟨rfl, B.out⟩
      have d1 : decide (fk < -1099511627776) = false := decide_eq_false C1
      by_cases C2 : 1099511627776 < fk
      · have d2 : decide (1099511627776 < fk) = true := decide_eq_true C2
        go_wp2_with fail
        refine (works14 w1).mono ?_
        rintro en w8 ⟨rfl, hb⟩
        replace B := Lib.hid (B.out.trans (hb.mono B.out.size))
        clear hb
        go_wp2_with fail
        go_ret
        exact ⟨rfl, B.out⟩
      have d2 : decide (1099511627776 < fk) = false := decide_eq_false C2
      go_wp2_with fail
      go_roundw
      case rel => exact ⟨k + 1, by omega, by go_num, trivial⟩
      case measure => simp [intOf]; omega
    obtain rfl : k = fn := by omega
    clear hk9 hlt hf6
    have ltX : R < w1.heap.size := lt_of_block X.out
    have zX0 : w1.cell? ⟨R, 0, none⟩ = some (.int .i64 l.N) := by rw [cell_row X.out]; rfl
    have zX1 : w1.cell? ⟨R, 1, none⟩ = some (.slice l.A l.n l.cap) := by rw [cell_row X.out]; rfl
    have zX2 : w1.cell? ⟨R, 2, none⟩ = some (.slice l.LA l.ln l.lc) := by rw [cell_row X.out]; rfl
    have zX3 : w1.cell? ⟨R, 3, none⟩ = some (.slice l.RA l.rn l.rc) := by rw [cell_row X.out]; rfl
    go_wp2_with fail
    clear zX0 zX1 zX2 zX3 ltX
    refine (cutA l SA sn sc ss w1 S.out SS.out Hsc.out Hs6.out).mono ?_
    rintro en w2 ⟨C1, cp1, rfl, hcp, hI, hb⟩
    replace LO := Lib.hid (LO.out.below hb (Nat.le_refl _))
    replace SS := Lib.hid (SS.out.below hb (Nat.le_refl _))
    replace SF := Lib.hid (SF.out.below hb (Nat.le_refl _))
    replace S := Lib.hid (S.out.below hb (Nat.le_refl _))
    replace X := Lib.hid ((hb.block _ (lt_of_block X.out)).trans X.out)
    replace B := Lib.hid (B.out.trans (hb.mono B.out.size))
    have hcl := ctL_len (l := l) (ss := ss)
    obtain ⟨cl, hcl9⟩ : ∃ v, ctL l ss = v := ⟨_, rfl⟩
    obtain ⟨cs, hcs9⟩ : ∃ v, csL l ss = v := ⟨_, rfl⟩
    obtain ⟨ce, hce9⟩ : ∃ v, cutE l ss = v := ⟨_, rfl⟩
    rw [hcl9] at hcl hcp hI ⊢
    rw [hcs9, hce9]
    have HCL := Lib.hid hcl9
    have HCS := Lib.hid hcs9
    have HCE := Lib.hid hce9
    have HC6 := Lib.hid hcl
    have HI1 := Lib.hid hI
    clear hcl hcl9 hcs9 hce9 hI hcp
    try clear hb
    have ltX : R < w2.heap.size := lt_of_block X.out
    have zX0 : w2.cell? ⟨R, 0, none⟩ = some (.int .i64 l.N) := by rw [cell_row X.out]; rfl
    have zX1 : w2.cell? ⟨R, 1, none⟩ = some (.slice l.A l.n l.cap) := by rw [cell_row X.out]; rfl
    have zX2 : w2.cell? ⟨R, 2, none⟩ = some (.slice l.LA l.ln l.lc) := by rw [cell_row X.out]; rfl
    have zX3 : w2.cell? ⟨R, 3, none⟩ = some (.slice l.RA l.rn l.rc) := by rw [cell_row X.out]; rfl
    go_wp2_with fail
    clear zX0 zX1 zX2 zX3 ltX
    refine (cutB2 l SA sn sc ss w2 S.out SS.out Hs6.out).mono ?_
    rintro en w3 ⟨C2, cp2, rfl, hcp, hI, hb⟩
    replace LO := Lib.hid (LO.out.below hb (Nat.le_refl _))
    replace SS := Lib.hid (SS.out.below hb (Nat.le_refl _))
    replace SF := Lib.hid (SF.out.below hb (Nat.le_refl _))
    replace S := Lib.hid (S.out.below hb (Nat.le_refl _))
    replace HI1 := Lib.hid (HI1.out.below hb (Nat.le_refl _))
    replace X := Lib.hid ((hb.block _ (lt_of_block X.out)).trans X.out)
    replace B := Lib.hid (B.out.trans (hb.mono B.out.size))
    rw [HCL.out] at hcp hI ⊢
    rw [HCS.out, HCE.out]
    have HI2 := Lib.hid hI
    clear hI hcp
    try clear hb
    have ltX : R < w3.heap.size := lt_of_block X.out
    have zX0 : w3.cell? ⟨R, 0, none⟩ = some (.int .i64 l.N) := by rw [cell_row X.out]; rfl
    have zX1 : w3.cell? ⟨R, 1, none⟩ = some (.slice l.A l.n l.cap) := by rw [cell_row X.out]; rfl
    have zX2 : w3.cell? ⟨R, 2, none⟩ = some (.slice l.LA l.ln l.lc) := by rw [cell_row X.out]; rfl
    have zX3 : w3.cell? ⟨R, 3, none⟩ = some (.slice l.RA l.rn l.rc) := by rw [cell_row X.out]; rfl
    go_wp2_with fail
    clear zX0 zX1 zX2 zX3 ltX
    refine (checkFlow26 l FA k fc fs w3 S.out SF.out Hfc.out).mono ?_
    rintro en w4 ⟨rfl, hb⟩
    replace LO := Lib.hid (LO.out.below hb (Nat.le_refl _))
    replace SS := Lib.hid (SS.out.below hb (Nat.le_refl _))
    replace SF := Lib.hid (SF.out.below hb (Nat.le_refl _))
    replace S := Lib.hid (S.out.below hb (Nat.le_refl _))
    replace HI1 := Lib.hid (HI1.out.below hb (Nat.le_refl _))
    replace HI2 := Lib.hid (HI2.out.below hb (Nat.le_refl _))
    replace X := Lib.hid ((hb.block _ (lt_of_block X.out)).trans X.out)
    replace B := Lib.hid (B.out.trans (hb.mono B.out.size))
    obtain ⟨fg, hfg⟩ : ∃ v, grE l k fs = v := ⟨_, rfl⟩
    obtain ⟨fe, hfe⟩ : ∃ v, flE l k fs = v := ⟨_, rfl⟩
    rw [hfg, hfe]
    have HFG := Lib.hid hfg
    have HFE := Lib.hid hfe
    clear hfg hfe
    try clear hb
    have ltX : R < w4.heap.size := lt_of_block X.out
    have zX0 : w4.cell? ⟨R, 0, none⟩ = some (.int .i64 l.N) := by rw [cell_row X.out]; rfl
    have zX1 : w4.cell? ⟨R, 1, none⟩ = some (.slice l.A l.n l.cap) := by rw [cell_row X.out]; rfl
    have zX2 : w4.cell? ⟨R, 2, none⟩ = some (.slice l.LA l.ln l.lc) := by rw [cell_row X.out]; rfl
    have zX3 : w4.cell? ⟨R, 3, none⟩ = some (.slice l.RA l.rn l.rc) := by rw [cell_row X.out]; rfl
    go_wp2_with fail
    clear zX0 zX1 zX2 zX3 ltX
    refine (refCheckFlow27 l FA k fc fs w4 S.out SF.out Hf6.out).mono ?_
    rintro en w5 ⟨rfl, hb⟩
    replace LO := Lib.hid (LO.out.below hb (Nat.le_refl _))
    replace SS := Lib.hid (SS.out.below hb (Nat.le_refl _))
    replace SF := Lib.hid (SF.out.below hb (Nat.le_refl _))
    replace S := Lib.hid (S.out.below hb (Nat.le_refl _))
    replace HI1 := Lib.hid (HI1.out.below hb (Nat.le_refl _))
    replace HI2 := Lib.hid (HI2.out.below hb (Nat.le_refl _))
    replace X := Lib.hid ((hb.block _ (lt_of_block X.out)).trans X.out)
    replace B := Lib.hid (B.out.trans (hb.mono B.out.size))
    rw [HFG.out, HFE.out]
    try clear hb
    have ltX : R < w5.heap.size := lt_of_block X.out
    have zX0 : w5.cell? ⟨R, 0, none⟩ = some (.int .i64 l.N) := by rw [cell_row X.out]; rfl
    have zX1 : w5.cell? ⟨R, 1, none⟩ = some (.slice l.A l.n l.cap) := by rw [cell_row X.out]; rfl
    have zX2 : w5.cell? ⟨R, 2, none⟩ = some (.slice l.LA l.ln l.lc) := by rw [cell_row X.out]; rfl
    have zX3 : w5.cell? ⟨R, 3, none⟩ = some (.slice l.RA l.rn l.rc) := by rw [cell_row X.out]; rfl
    go_wp2_with fail
    clear zX0 zX1 zX2 zX3 ltX
    refine (ints28 C1 cl.length cp1 cl C2 cl.length cp2 cl w5 HI1.out HI2.out HC6.out).mono ?_
    rintro en w6 ⟨rfl, hb⟩
    replace LO := Lib.hid (LO.out.below hb (Nat.le_refl _))
    replace SS := Lib.hid (SS.out.below hb (Nat.le_refl _))
    replace SF := Lib.hid (SF.out.below hb (Nat.le_refl _))
    replace S := Lib.hid (S.out.below hb (Nat.le_refl _))
    replace HI1 := Lib.hid (HI1.out.below hb (Nat.le_refl _))
    replace HI2 := Lib.hid (HI2.out.below hb (Nat.le_refl _))
    replace X := Lib.hid ((hb.block _ (lt_of_block X.out)).trans X.out)
    replace B := Lib.hid (B.out.trans (hb.mono B.out.size))
    rw [decide_eq_true (rfl : cl = cl)]
    try clear hb
    have ltX : R < w6.heap.size := lt_of_block X.out
    have zX0 : w6.cell? ⟨R, 0, none⟩ = some (.int .i64 l.N) := by rw [cell_row X.out]; rfl
    have zX1 : w6.cell? ⟨R, 1, none⟩ = some (.slice l.A l.n l.cap) := by rw [cell_row X.out]; rfl
    have zX2 : w6.cell? ⟨R, 2, none⟩ = some (.slice l.LA l.ln l.lc) := by rw [cell_row X.out]; rfl
    have zX3 : w6.cell? ⟨R, 3, none⟩ = some (.slice l.RA l.rn l.rc) := by rw [cell_row X.out]; rfl
    go_wp2_with fail
    clear zX0 zX1 zX2 zX3 ltX
    refine (flowA l w6 S.out).mono ?_
    rintro en w7 ⟨CX, nx, fx, rfl, hn6, hI, hz, hk, hb⟩
    replace LO := Lib.hid (LO.out.below hb (Nat.le_refl _))
    replace SS := Lib.hid (SS.out.below hb (Nat.le_refl _))
    replace SF := Lib.hid (SF.out.below hb (Nat.le_refl _))
    replace S := Lib.hid (S.out.below hb (Nat.le_refl _))
    replace HI1 := Lib.hid (HI1.out.below hb (Nat.le_refl _))
    replace HI2 := Lib.hid (HI2.out.below hb (Nat.le_refl _))
    replace X := Lib.hid ((hb.block _ (lt_of_block X.out)).trans X.out)
    replace B := Lib.hid (B.out.trans (hb.mono B.out.size))
    have HX := Lib.hid hI
    have HX6 := Lib.hid hn6
    have HXZ := Lib.hid hz
    have HXK := Lib.hid hk
    obtain ⟨el, hel⟩ : ∃ v, chkL l = v := ⟨_, rfl⟩
    rw [hel] at HXZ HXK ⊢
    have HEL := Lib.hid hel
    clear hI hn6 hz hk hel
    try clear hb
    have ltX : R < w7.heap.size := lt_of_block X.out
    have zX0 : w7.cell? ⟨R, 0, none⟩ = some (.int .i64 l.N) := by rw [cell_row X.out]; rfl
    have zX1 : w7.cell? ⟨R, 1, none⟩ = some (.slice l.A l.n l.cap) := by rw [cell_row X.out]; rfl
    have zX2 : w7.cell? ⟨R, 2, none⟩ = some (.slice l.LA l.ln l.lc) := by rw [cell_row X.out]; rfl
    have zX3 : w7.cell? ⟨R, 3, none⟩ = some (.slice l.RA l.rn l.rc) := by rw [cell_row X.out]; rfl
    go_wp2_with fail
    clear zX0 zX1 zX2 zX3 ltX
    refine (checkList18 l w7 S.out).mono ?_
    rintro en w8 ⟨rfl, hb⟩
    replace LO := Lib.hid (LO.out.below hb (Nat.le_refl _))
    replace SS := Lib.hid (SS.out.below hb (Nat.le_refl _))
    replace SF := Lib.hid (SF.out.below hb (Nat.le_refl _))
    replace S := Lib.hid (S.out.below hb (Nat.le_refl _))
    replace HI1 := Lib.hid (HI1.out.below hb (Nat.le_refl _))
    replace HI2 := Lib.hid (HI2.out.below hb (Nat.le_refl _))
    replace HX := Lib.hid (HX.out.below hb (Nat.le_refl _))
    replace X := Lib.hid ((hb.block _ (lt_of_block X.out)).trans X.out)
    replace B := Lib.hid (B.out.trans (hb.mono B.out.size))
    rw [HEL.out]
    by_cases h0 : el = 0
    rotate_left
    try clear hb
    · have d0 : (el != 0) = true := by rw [bne_iff_ne]; exact h0
      obtain rfl := HXZ.out h0
      clear h0
      have ltX : R < w8.heap.size := lt_of_block X.out
      have zX0 : w8.cell? ⟨R, 0, none⟩ = some (.int .i64 l.N) := by rw [cell_row X.out]; rfl
      have zX1 : w8.cell? ⟨R, 1, none⟩ = some (.slice l.A l.n l.cap) := by rw [cell_row X.out]; rfl
      have zX2 : w8.cell? ⟨R, 2, none⟩ = some (.slice l.LA l.ln l.lc) := by rw [cell_row X.out]; rfl
      have zX3 : w8.cell? ⟨R, 3, none⟩ = some (.slice l.RA l.rn l.rc) := by rw [cell_row X.out]; rfl
      go_wp2_with fail
      clear zX0 zX1 zX2 zX3 ltX
      refine (checkList18 l w8 S.out).mono ?_
      rintro en w9 ⟨rfl, hb⟩
      replace LO := Lib.hid (LO.out.below hb (Nat.le_refl _))
      replace SS := Lib.hid (SS.out.below hb (Nat.le_refl _))
      replace SF := Lib.hid (SF.out.below hb (Nat.le_refl _))
      replace S := Lib.hid (S.out.below hb (Nat.le_refl _))
      replace HI1 := Lib.hid (HI1.out.below hb (Nat.le_refl _))
      replace HI2 := Lib.hid (HI2.out.below hb (Nat.le_refl _))
      replace HX := Lib.hid (HX.out.below hb (Nat.le_refl _))
      replace X := Lib.hid ((hb.block _ (lt_of_block X.out)).trans X.out)
      replace B := Lib.hid (B.out.trans (hb.mono B.out.size))
      rw [HEL.out]
      try clear hb
      clear d0
      have ltX : R < w9.heap.size := lt_of_block X.out
      have zX0 : w9.cell? ⟨R, 0, none⟩ = some (.int .i64 l.N) := by rw [cell_row X.out]; rfl
      have zX1 : w9.cell? ⟨R, 1, none⟩ = some (.slice l.A l.n l.cap) := by rw [cell_row X.out]; rfl
      have zX2 : w9.cell? ⟨R, 2, none⟩ = some (.slice l.LA l.ln l.lc) := by rw [cell_row X.out]; rfl
      have zX3 : w9.cell? ⟨R, 3, none⟩ = some (.slice l.RA l.rn l.rc) := by rw [cell_row X.out]; rfl
      go_wp2_with fail
      clear zX0 zX1 zX2 zX3 ltX
      refine (works14 w9).mono ?_
      rintro en w10 ⟨rfl, hb⟩
      replace B := Lib.hid (B.out.trans (hb.mono B.out.size))
      clear hb
      go_wp2_with fail
      go_ret
      exact ⟨rfl, B.out⟩
    subst h0
    have HK0 := Lib.hid (HXK.out rfl)
    have ltX : R < w8.heap.size := lt_of_block X.out
    have zX0 : w8.cell? ⟨R, 0, none⟩ = some (.int .i64 l.N) := by rw [cell_row X.out]; rfl
    have zX1 : w8.cell? ⟨R, 1, none⟩ = some (.slice l.A l.n l.cap) := by rw [cell_row X.out]; rfl
    have zX2 : w8.cell? ⟨R, 2, none⟩ = some (.slice l.LA l.ln l.lc) := by rw [cell_row X.out]; rfl
    have zX3 : w8.cell? ⟨R, 3, none⟩ = some (.slice l.RA l.rn l.rc) := by rw [cell_row X.out]; rfl
    go_wp2_with fail
    clear zX0 zX1 zX2 zX3 ltX
    refine (refCheckFlow27 l CX nx nx fx w8 S.out HX.out HX6.out).mono ?_
    rintro en w9 ⟨rfl, hb⟩
    replace LO := Lib.hid (LO.out.below hb (Nat.le_refl _))
    replace SS := Lib.hid (SS.out.below hb (Nat.le_refl _))
    replace SF := Lib.hid (SF.out.below hb (Nat.le_refl _))
    replace S := Lib.hid (S.out.below hb (Nat.le_refl _))
    replace HI1 := Lib.hid (HI1.out.below hb (Nat.le_refl _))
    replace HI2 := Lib.hid (HI2.out.below hb (Nat.le_refl _))
    replace HX := Lib.hid (HX.out.below hb (Nat.le_refl _))
    replace X := Lib.hid ((hb.block _ (lt_of_block X.out)).trans X.out)
    replace B := Lib.hid (B.out.trans (hb.mono B.out.size))
    rw [HK0.out]
    try clear hb
    have ltX : R < w9.heap.size := lt_of_block X.out
    have zX0 : w9.cell? ⟨R, 0, none⟩ = some (.int .i64 l.N) := by rw [cell_row X.out]; rfl
    have zX1 : w9.cell? ⟨R, 1, none⟩ = some (.slice l.A l.n l.cap) := by rw [cell_row X.out]; rfl
    have zX2 : w9.cell? ⟨R, 2, none⟩ = some (.slice l.LA l.ln l.lc) := by rw [cell_row X.out]; rfl
    have zX3 : w9.cell? ⟨R, 3, none⟩ = some (.slice l.RA l.rn l.rc) := by rw [cell_row X.out]; rfl
    go_wp2_with fail
    clear zX0 zX1 zX2 zX3 ltX
    refine (works14 w9).mono ?_
    rintro en w10 ⟨rfl, hb⟩
    replace B := Lib.hid (B.out.trans (hb.mono B.out.size))
    clear hb
    go_wp2_with fail
    go_ret
    exact ⟨rfl, B.out⟩
end
end Go.Proofs.Ytigohccehllmnaa
