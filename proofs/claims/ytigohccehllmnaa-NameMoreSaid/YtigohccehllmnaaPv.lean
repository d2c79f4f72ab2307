/- Stage 6: groups, chains and cuts, as they are asked for. -/
import Derived.Test.YtigohccehllmnaaPu
import Derived.Test.YtigohccehllmnaaIc
namespace Go.Proofs.Ytigohccehllmnaa
set_option linter.unusedSimpArgs false
set_option linter.unusedVariables false
open Go.RowKit Go.Shelf

/-- What a list with a drop is told. -/
def layE (l : NL) (ds : List Int) : Int := if chkL l ≠ 0 then chkL l else if risI (l.n : Int) ds = true then 0 else 3
theorem layE_bad {l : NL} {ds : List Int} (h : chkL l ≠ 0) : layE l ds = chkL l := if_pos h
theorem layE_3 {l : NL} {ds : List Int} (h : chkL l = 0) (hr : risI (l.n : Int) ds = false) : layE l ds = 3 := by unfold layE; rw [if_neg (by omega), hr]; rfl
theorem layE_0 {l : NL} {ds : List Int} (h : chkL l = 0) (hr : risI (l.n : Int) ds = true) : layE l ds = 0 := by unfold layE; rw [if_neg (by omega), hr]; rfl
theorem layE_ok {l : NL} {ds : List Int} (h : layE l ds = 0) : chkL l = 0 ∧ risI (l.n : Int) ds = true := by
  unfold layE at h
  by_cases h0 : chkL l = 0
  · rw [if_neg (by omega)] at h
    by_cases h1 : risI (l.n : Int) ds = true
    · exact ⟨h0, h1⟩
    · rw [if_neg h1] at h; cases h
  · rw [if_pos h0] at h; exact absurd h h0
theorem lay41E (l : NL) (DA : Option Addr) (dn dc : Nat) (ds : List Int) (w : World) (h : NLs w l) (hD : Ints w DA dn ds) (hdc : dn ≤ dc) (hd6 : dn ≤ 1000000) :
    Calls Try.prog 41 #[.agg #[.int .i64 l.N, .slice l.A l.n l.cap, .slice l.LA l.ln l.lc, .slice l.RA l.rn l.rc], .slice DA dn dc] w fun e w' => (layE l ds ≠ 0 ∧ e = .returned (.tuple #[.pointer none, .int .i64 (layE l ds)]) ∨
      layE l ds = 0 ∧ ∃ B F Z, e = .returned (.tuple #[.pointer (some ⟨B, 0, none⟩), .int .i64 0]) ∧ Bd w' ⟨B, F, Z, l, dropF l.zs ds⟩ (fun _ => 0) ∧ BdOk ⟨B, F, Z, l, dropF l.zs ds⟩ ∧ w.heap.size ≤ F) ∧ Below w.heap.size w w' := by
  refine (lay41 l DA dn dc ds w h hD hdc hd6).mono ?_
  rintro e w' ⟨hh, hb⟩
  refine ⟨?_, hb⟩
  rcases hh with ⟨h0, rfl⟩ | ⟨h0, h1, rfl⟩ | ⟨h0, h1, B, F, Z, rfl, hbd, hF⟩
  · exact .inl ⟨by rw [layE_bad h0]; exact h0, by rw [layE_bad h0]⟩
  · exact .inl ⟨by rw [layE_3 h0 h1]; decide, by rw [layE_3 h0 h1]⟩
  · exact .inr ⟨layE_0 h0 h1, B, F, Z, rfl, hbd, bd_ok h0 h ds h1 B F Z, hF⟩
theorem small_zero (b : BD) : Small b (fun _ => 0) := fun k _ => by simp only; omega
section
attribute [local go_sem ↓] exec_app at_app
attribute [local go_sem] Oper.semAt_some
set_option maxRecDepth 100000 in
set_option maxHeartbeats 16000000 in
theorem groups15 (l : NL) (DA : Option Addr) (dn dc : Nat) (ds : List Int) (w : World) (h : NLs w l) (hD : Ints w DA dn ds) (hdc : dn ≤ dc) (hd6 : dn ≤ 1000000) :
    Calls Try.prog 15 #[.agg #[.int .i64 l.N, .slice l.A l.n l.cap, .slice l.LA l.ln l.lc, .slice l.RA l.rn l.rc], .slice DA dn dc] w fun e w' => (layE l ds ≠ 0 ∧ e = .returned (.tuple #[.slice none 0 0, .int .i64 (layE l ds)]) ∨
      layE l ds = 0 ∧ ∃ C cap gs G, e = .returned (.tuple #[.slice C gs.length cap, .int .i64 0]) ∧ gs.length ≤ cap ∧ Rows w' C gs.length gs ∧ Gps (dropF l.zs ds) (opF (dropF l.zs ds) (fun _ => 0)) l.N.toNat l.N.toNat gs G) ∧ Below w.heap.size w w' := by
  obtain ⟨R, hR⟩ : ∃ v, w.heap.size = v := ⟨_, rfl⟩
  have hb0 := below_alloc_ w (.cells #[.int .i64 l.N, .slice l.A l.n l.cap, .slice l.LA l.ln l.lc, .slice l.RA l.rn l.rc] 25)
  have hr0 := heap_alloc_new_ w (.cells #[.int .i64 l.N, .slice l.A l.n l.cap, .slice l.LA l.ln l.lc, .slice l.RA l.rn l.rc] 25)
  have hz0 : (w.alloc (.cells #[.int .i64 l.N, .slice l.A l.n l.cap, .slice l.LA l.ln l.lc, .slice l.RA l.rn l.rc] 25)).heap.size = w.heap.size + 1 := by simp
  obtain ⟨w0, hw0⟩ : ∃ v, w.alloc (.cells #[.int .i64 l.N, .slice l.A l.n l.cap, .slice l.LA l.ln l.lc, .slice l.RA l.rn l.rc] 25) = v := ⟨_, rfl⟩
  rw [hw0] at hb0 hr0 hz0
  rw [hR] at hr0 hz0
  have hB := hb0
  have S := Lib.hid (h.below hB (Nat.le_refl _))
  have SD := Lib.hid (hD.below hB (Nat.le_refl _))
  have X := Lib.hid hr0
  have HW0 := Lib.hid hw0
  have B := Lib.hid hB
  have HR := Lib.hid hR
  clear hB hR hb0 hr0 hz0 hw0 h hD
  have Hdc := Lib.hid hdc
  have Hd6 := Lib.hid hd6
  clear hdc hd6
  have ltX : R < w0.heap.size := lt_of_block X.out
  have zX0 : w0.cell? ⟨R, 0, none⟩ = some (.int .i64 l.N) := by rw [cell_row X.out]; rfl
  have zX1 : w0.cell? ⟨R, 1, none⟩ = some (.slice l.A l.n l.cap) := by rw [cell_row X.out]; rfl
  have zX2 : w0.cell? ⟨R, 2, none⟩ = some (.slice l.LA l.ln l.lc) := by rw [cell_row X.out]; rfl
  have zX3 : w0.cell? ⟨R, 3, none⟩ = some (.slice l.RA l.rn l.rc) := by rw [cell_row X.out]; rfl
  go_enter Try.func15, Try.ntmps15
  go_wp2_with fail
  try rw [HW0.out]
  try rw [HR.out]
  try simp only [Nat.add_assoc, Nat.reduceAdd]
  try go_wp2_with fail
  clear zX0 zX1 zX2 zX3 ltX
  refine (lay41E l DA dn dc ds w0 S.out SD.out Hdc.out Hd6.out).mono ?_
  rintro en w1 ⟨hh, hb⟩
  rcases hh with ⟨h0, rfl⟩ | ⟨h0, B1, F, Z, rfl, hbd, hok, hF⟩
  · obtain ⟨c, hc⟩ : ∃ v, layE l ds = v := ⟨_, rfl⟩
    rw [hc] at h0 ⊢
    have d0 : (c != 0) = true := by rw [bne_iff_ne]; exact h0
    have H0 := Lib.hid h0
    have HC := Lib.hid hc
    replace B := Lib.hid (B.out.trans (hb.mono B.out.size))
    clear h0 hc hb
    go_wp2_with fail
    go_ret2
    exact ⟨.inl ⟨by rw [HC.out]; exact H0.out, by rw [HC.out]; rfl⟩, B.out⟩
  · obtain ⟨b, hbe⟩ : ∃ b : BD, (⟨B1, F, Z, l, dropF l.zs ds⟩ : BD) = b := ⟨_, rfl⟩
    have e1 : b.l = l := by rw [← hbe]
    have e2 : b.zs = dropF l.zs ds := by rw [← hbe]
    have e3 : b.B = B1 := by rw [← hbe]
    rw [hbe] at hbd hok
    have D := Lib.hid hbd
    have Hok := Lib.hid hok
    have H0 := Lib.hid h0
    have E1 := Lib.hid e1
    have E2 := Lib.hid e2
    have Hbe := Lib.hid hbe
    replace S := Lib.hid (S.out.below hb (Nat.le_refl _))
    replace SD := Lib.hid (SD.out.below hb (Nat.le_refl _))
    replace X := Lib.hid ((hb.block _ (lt_of_block X.out)).trans X.out)
    replace B := Lib.hid (B.out.trans (hb.mono B.out.size))
    rw [← e3]
    clear hbd hok h0 hb hF e1 e2 e3 hbe
    obtain ⟨c, hc⟩ := int_nat (x := b.l.N) (by have := Hok.out.N; omega)
    have hcN : l.N.toNat = c := by rw [← E1.out, hc]; omega
    have k42 := Lib.hid (groups42 b (fun _ => 0) c w1 D.out Hok.out (small_zero b) hc)
    have HCN := Lib.hid hcN
    clear hc hcN
    go_wp2_with fail
    refine k42.out.mono ?_
    rintro en w2 ⟨C, cap, gs, G, rfl, hcap, hR, hG, hb⟩
    rw [E2.out] at hG
    have HX := Lib.hid (show gs.length ≤ cap ∧ Rows w2 C gs.length gs ∧ Gps (dropF l.zs ds) (opF (dropF l.zs ds) (fun _ => 0)) c c gs G from ⟨hcap, hR, hG⟩)
    replace B := Lib.hid (B.out.trans (hb.mono B.out.size))
    clear hcap hR hG hb k42
    go_wp2_with fail
    go_ret2
    rw [HCN.out]
    exact ⟨.inr ⟨H0.out, C, cap, gs, G, rfl, HX.out⟩, B.out⟩
/-- What a chain is told. -/
def chkC (l : NL) (ds ch : List Int) (n : Nat) : Int := if layE l ds ≠ 0 then layE l ds else if inB 2 40 (n : Int) = false then 6 else if withI 0 (l.N - 1) ch = false then 3 else if isCh ⟨0, 0, 0, l, dropF l.zs ds⟩ (fun _ => 0) ch n = true then 0 else 14
set_option maxRecDepth 100000 in
set_option maxHeartbeats 16000000 in
theorem checkChain21 (l : NL) (DA : Option Addr) (dn dc : Nat) (ds : List Int) (CA : Option Addr) (cn cc : Nat) (ch : List Int) (w : World) (h : NLs w l) (hD : Ints w DA dn ds) (hdc : dn ≤ dc) (hd6 : dn ≤ 1000000) (hC : Ints w CA cn ch) (hcc : cn ≤ cc) (hc6 : cn ≤ 1000000) :
    Calls Try.prog 21 #[.agg #[.int .i64 l.N, .slice l.A l.n l.cap, .slice l.LA l.ln l.lc, .slice l.RA l.rn l.rc], .slice DA dn dc, .slice CA cn cc] w fun e w' => e = .returned (.int .i64 (chkC l ds ch cn)) ∧ Below w.heap.size w w' := by
  obtain ⟨R, hR⟩ : ∃ v, w.heap.size = v := ⟨_, rfl⟩
  have hb0 := below_alloc_ w (.cells #[.int .i64 l.N, .slice l.A l.n l.cap, .slice l.LA l.ln l.lc, .slice l.RA l.rn l.rc] 25)
  have hr0 := heap_alloc_new_ w (.cells #[.int .i64 l.N, .slice l.A l.n l.cap, .slice l.LA l.ln l.lc, .slice l.RA l.rn l.rc] 25)
  have hz0 : (w.alloc (.cells #[.int .i64 l.N, .slice l.A l.n l.cap, .slice l.LA l.ln l.lc, .slice l.RA l.rn l.rc] 25)).heap.size = w.heap.size + 1 := by simp
  obtain ⟨w0, hw0⟩ : ∃ v, w.alloc (.cells #[.int .i64 l.N, .slice l.A l.n l.cap, .slice l.LA l.ln l.lc, .slice l.RA l.rn l.rc] 25) = v := ⟨_, rfl⟩
  rw [hw0] at hb0 hr0 hz0
  rw [hR] at hr0 hz0
  have hB := hb0
  have S := Lib.hid (h.below hB (Nat.le_refl _))
  have SD := Lib.hid (hD.below hB (Nat.le_refl _))
  have SC := Lib.hid (hC.below hB (Nat.le_refl _))
  have X := Lib.hid hr0
  have HW0 := Lib.hid hw0
  have B := Lib.hid hB
  have HR := Lib.hid hR
  clear hB hR hb0 hr0 hz0 hw0 h hD hC
  have Hdc := Lib.hid hdc
  have Hd6 := Lib.hid hd6
  have Hcc := Lib.hid hcc
  have Hc6 := Lib.hid hc6
  clear hdc hd6 hcc hc6
  have ltX : R < w0.heap.size := lt_of_block X.out
  have zX0 : w0.cell? ⟨R, 0, none⟩ = some (.int .i64 l.N) := by rw [cell_row X.out]; rfl
  have zX1 : w0.cell? ⟨R, 1, none⟩ = some (.slice l.A l.n l.cap) := by rw [cell_row X.out]; rfl
  have zX2 : w0.cell? ⟨R, 2, none⟩ = some (.slice l.LA l.ln l.lc) := by rw [cell_row X.out]; rfl
  have zX3 : w0.cell? ⟨R, 3, none⟩ = some (.slice l.RA l.rn l.rc) := by rw [cell_row X.out]; rfl
  go_enter Try.func21, Try.ntmps21
  go_wp2_with fail
  try rw [HW0.out]
  try rw [HR.out]
  try simp only [Nat.add_assoc, Nat.reduceAdd]
  try go_wp2_with fail
  clear zX0 zX1 zX2 zX3 ltX
  refine (lay41E l DA dn dc ds w0 S.out SD.out Hdc.out Hd6.out).mono ?_
  rintro en w1 ⟨hh, hb⟩
  rcases hh with ⟨h0, rfl⟩ | ⟨h0, B1, F, Z, rfl, hbd, hok, hF⟩
  · obtain ⟨c, hc⟩ : ∃ v, layE l ds = v := ⟨_, rfl⟩
    rw [hc] at h0 ⊢
    have d0 : (c != 0) = true := by rw [bne_iff_ne]; exact h0
    have H0 := Lib.hid h0
    have HC := Lib.hid hc
    replace B := Lib.hid (B.out.trans (hb.mono B.out.size))
    clear h0 hc hb
    go_wp2_with fail
    go_ret
    exact ⟨by unfold chkC; rw [if_pos (by rw [HC.out]; exact H0.out), HC.out] <;> rfl, B.out⟩
  · obtain ⟨b, hbe⟩ : ∃ b : BD, (⟨B1, F, Z, l, dropF l.zs ds⟩ : BD) = b := ⟨_, rfl⟩
    have e1 : b.l = l := by rw [← hbe]
    have e2 : b.zs = dropF l.zs ds := by rw [← hbe]
    have e3 : b.B = B1 := by rw [← hbe]
    rw [hbe] at hbd hok
    have D := Lib.hid hbd
    have Hok := Lib.hid hok
    have H0 := Lib.hid h0
    have E1 := Lib.hid e1
    have E2 := Lib.hid e2
    have Hbe := Lib.hid hbe
    replace S := Lib.hid (S.out.below hb (Nat.le_refl _))
    replace SD := Lib.hid (SD.out.below hb (Nat.le_refl _))
    replace X := Lib.hid ((hb.block _ (lt_of_block X.out)).trans X.out)
    replace B := Lib.hid (B.out.trans (hb.mono B.out.size))
    have Hb1 := Lib.hid hb
    rw [← e3]
    clear hbd hok h0 hb hF e1 e2 e3 hbe
    replace SC := Lib.hid (SC.out.below Hb1.out (Nat.le_refl _))
    have hbU := below_alloc_ w1 (.cells #[.int .i64 (cn : Int)] 3)
    have hrU := heap_alloc_new_ w1 (.cells #[.int .i64 (cn : Int)] 3)
    have kA := within45 (some ⟨w1.heap.size, 0, none⟩) 1 1 [(cn : Int)] 2 40 _ (ints_one hrU) (by omega)
    rw [withI_one] at kA
    obtain ⟨j1, hj1⟩ : ∃ v, inB 2 40 (cn : Int) = v := ⟨_, rfl⟩
    rw [hj1] at kA
    have KA := Lib.hid kA
    have J1 := Lib.hid hj1
    have HE := Lib.hid (show chkC l ds ch cn = if inB 2 40 (cn : Int) = false then 6 else if withI 0 (l.N - 1) ch = false then 3 else if isCh ⟨0, 0, 0, l, dropF l.zs ds⟩ (fun _ => 0) ch cn = true then 0 else 14 by unfold chkC; rw [H0.out]; rfl)
    clear kA hrU hj1
    have y0 : w1.cell? ⟨R, 0, none⟩ = some (.int .i64 l.N) := by rw [cell_row X.out]; rfl
    go_wp2_with fail
    clear y0
    refine KA.out.mono ?_
    rintro en w2 ⟨rfl, rfl⟩
    obtain ⟨w2, hw2⟩ : ∃ v, w1.alloc (.cells #[.int .i64 (cn : Int)] 3) = v := ⟨_, rfl⟩
    rw [hw2] at hbU ⊢
    replace D := Lib.hid (D.out.below hbU (Nat.le_refl _))
    replace SC := Lib.hid (SC.out.below hbU (Nat.le_refl _))
    replace X := Lib.hid ((hbU.block _ (lt_of_block X.out)).trans X.out)
    replace B := Lib.hid (B.out.trans (hbU.mono B.out.size))
    clear hw2 hbU KA
    have y0 : w2.cell? ⟨R, 0, none⟩ = some (.int .i64 l.N) := by rw [cell_row X.out]; rfl
    have hN := Hok.out.N
    rw [E1.out] at hN
    have hwn : IntKind.i64.wrap (l.N - 1) = l.N - 1 := IntWalk.i64_in _ (by omega)
    rcases j1 with _ | _
    · go_wp2_with fail
      go_ret
      exact ⟨by rw [HE.out, if_pos J1.out] <;> rfl, B.out⟩
    have hI1 := inB_iff.1 J1.out
    have HI1 := Lib.hid hI1
    have kA := within45 CA cn cc ch 0 (l.N - 1) w2 SC.out (by omega)
    obtain ⟨j2, hj2⟩ : ∃ v, withI 0 (l.N - 1) ch = v := ⟨_, rfl⟩
    rw [hj2] at kA
    have KA := Lib.hid kA
    have J2 := Lib.hid hj2
    clear kA hj2 hI1 hN
    go_wp2_with fail
    refine KA.out.mono ?_
    rintro en w3 ⟨rfl, rfl⟩
    clear y0 hwn KA
    rcases j2 with _ | _
    · go_wp2_with fail
      go_ret
      exact ⟨by rw [HE.out, if_neg (by rw [J1.out]; decide), if_pos J2.out] <;> rfl, B.out⟩
    have kA := isChain51 b (fun _ => 0) CA cn cc ch _ D.out Hok.out (small_zero b) SC.out (by have := HI1.out; omega) (by have := HI1.out; omega) Hcc.out
    obtain ⟨j3, hj3⟩ : ∃ v, isCh b (fun _ => 0) ch cn = v := ⟨_, rfl⟩
    rw [hj3] at kA
    have KA := Lib.hid kA
    have J3 := Lib.hid (show isCh ⟨0, 0, 0, l, dropF l.zs ds⟩ (fun _ => 0) ch cn = j3 by rw [← hj3, ← Hbe.out]; rfl)
    clear kA hj3
    go_wp2_with fail
    refine KA.out.mono ?_
    rintro en w4 ⟨rfl, hb⟩
    replace B := Lib.hid (B.out.trans (hb.mono B.out.size))
    clear hb KA
    rcases j3 with _ | _
    · go_wp2_with fail
      go_ret
      exact ⟨by rw [HE.out, if_neg (by rw [J1.out]; decide), if_neg (by rw [J2.out]; decide), J3.out] <;> rfl, B.out⟩
    · go_wp2_with fail
      go_ret
      exact ⟨by rw [HE.out, if_neg (by rw [J1.out]; decide), if_neg (by rw [J2.out]; decide), J3.out] <;> rfl, B.out⟩
end
end Go.Proofs.Ytigohccehllmnaa
