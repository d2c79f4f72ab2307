/- Stage 6: a cut, as it is asked for. -/
import Derived.Test.YtigohccehllmnaaPv
namespace Go.Proofs.Ytigohccehllmnaa
set_option linter.unusedSimpArgs false
set_option linter.unusedVariables false
open Go.RowKit Go.Shelf
abbrev opPx0 : Oper := { dst := some 25, op := Go.Op.move (Go.Operand.tmp 1), type := 23, pos := "name.go:88", after := #[], guard := none }
abbrev opPx1 : Oper := { dst := some 26, op := Go.Op.fieldAddr 25 (Go.Operand.tmp 2) 2, type := 0, pos := "name.go:88", after := #[], guard := none }
abbrev opPx2 : Oper := { dst := some 27, op := Go.Op.load 23 (Go.Operand.tmp 26), type := 23, pos := "name.go:88", after := #[{ on := 1, ground := Go.Ground.data }], guard := none }
abbrev opPx3 : Oper := { dst := some 28, op := Go.Op.call { callee := Go.Callee.value (Go.Operand.func 53), args := #[Go.Operand.tmp 25, Go.Operand.tmp 27], argTypes := #[23, 23] }, type := 4, pos := "name.go:88", after := #[{ on := 0, ground := Go.Ground.data }, { on := 2, ground := Go.Ground.data }], guard := none }
abbrev opPx4 : Oper := { dst := some 29, op := Go.Op.unOp Go.UnOp.not 4 (Go.Operand.tmp 28), type := 4, pos := "name.go:88", after := #[{ on := 3, ground := Go.Ground.data }], guard := none }
abbrev opPx5 : Oper := { dst := some 30, op := Go.Op.move (Go.Operand.tmp 29), type := 4, pos := "name.go:88", after := #[{ on := 4, ground := Go.Ground.data }, { on := 3, ground := Go.Ground.chain }], guard := none }
abbrev opPx6 : Oper := { dst := some 31, op := Go.Op.fieldAddr 25 (Go.Operand.tmp 2) 3, type := 0, pos := "name.go:88", after := #[{ on := 5, ground := Go.Ground.guard }], guard := some (5, false) }
abbrev opPx7 : Oper := { dst := some 32, op := Go.Op.load 23 (Go.Operand.tmp 31), type := 23, pos := "name.go:88", after := #[{ on := 6, ground := Go.Ground.data }, { on := 5, ground := Go.Ground.guard }], guard := some (5, false) }
abbrev opPx8 : Oper := { dst := some 33, op := Go.Op.move (Go.Operand.tmp 1), type := 23, pos := "name.go:88", after := #[{ on := 5, ground := Go.Ground.guard }], guard := some (5, false) }
abbrev opPx9 : Oper := { dst := some 34, op := Go.Op.call { callee := Go.Callee.value (Go.Operand.func 49), args := #[Go.Operand.tmp 33], argTypes := #[23] }, type := 73, pos := "name.go:88", after := #[{ on := 8, ground := Go.Ground.data }, { on := 5, ground := Go.Ground.chain }, { on := 5, ground := Go.Ground.guard }], guard := some (5, false) }
abbrev opPx10 : Oper := { dst := some 35, op := Go.Op.call { callee := Go.Callee.value (Go.Operand.func 48), args := #[Go.Operand.tmp 32, Go.Operand.tmp 34], argTypes := #[23, 73] }, type := 4, pos := "name.go:88", after := #[{ on := 7, ground := Go.Ground.data }, { on := 9, ground := Go.Ground.data }, { on := 9, ground := Go.Ground.chain }, { on := 5, ground := Go.Ground.guard }], guard := some (5, false) }
abbrev opPx11 : Oper := { dst := some 36, op := Go.Op.pick (Go.Operand.tmp 30) (Go.Operand.const (Go.Value.bool true)) (Go.Operand.tmp 35), type := 4, pos := "name.go:88", after := #[{ on := 5, ground := Go.Ground.data }, { on := 10, ground := Go.Ground.data }], guard := none }

theorem layE_nil (l : NL) : layE l [] = chkL l := by
  unfold layE
  by_cases h : chkL l = 0
  · rw [if_neg (by omega), h]; rfl
  · rw [if_pos h]
/-- What a side is told. -/
def cutE (l : NL) (ss : List Int) : Int := if layE l [] ≠ 0 then layE l [] else if risI l.N ss = false then 3 else if (!subI ss l.ls || l.rs.any (fun x => decide (x ∈ ss))) = true then 16 else 0
section
attribute [local go_sem ↓] exec_app at_app
attribute [local go_sem] Oper.semAt_some
set_option maxRecDepth 100000 in
set_option maxHeartbeats 16000000 in
theorem cut24 (l : NL) (SA : Option Addr) (sn sc : Nat) (ss : List Int) (w : World) (h : NLs w l) (hS : Ints w SA sn ss) (hsc : sn ≤ sc) (hs6 : sn ≤ 1000000) :
    Calls Try.prog 24 #[.agg #[.int .i64 l.N, .slice l.A l.n l.cap, .slice l.LA l.ln l.lc, .slice l.RA l.rn l.rc], .slice SA sn sc] w fun e w' => (cutE l ss ≠ 0 ∧ e = .returned (.tuple #[.slice none 0 0, .int .i64 0, .int .i64 (cutE l ss)]) ∨
      cutE l ss = 0 ∧ ∃ C cp, e = .returned (.tuple #[.slice C (ctK l.zs ss l.n).length cp, .int .i64 (csK l.zs ss l.n), .int .i64 0]) ∧ (ctK l.zs ss l.n).length ≤ cp ∧ Ints w' C (ctK l.zs ss l.n).length (ctK l.zs ss l.n)) ∧ Below w.heap.size w w' := by
  obtain ⟨R, hR⟩ : ∃ v, w.heap.size = v := ⟨_, rfl⟩
  have hb0 := below_alloc_ w (.cells #[.int .i64 l.N, .slice l.A l.n l.cap, .slice l.LA l.ln l.lc, .slice l.RA l.rn l.rc] 25)
  have hr0 := heap_alloc_new_ w (.cells #[.int .i64 l.N, .slice l.A l.n l.cap, .slice l.LA l.ln l.lc, .slice l.RA l.rn l.rc] 25)
  have hz0 : (w.alloc (.cells #[.int .i64 l.N, .slice l.A l.n l.cap, .slice l.LA l.ln l.lc, .slice l.RA l.rn l.rc] 25)).heap.size = w.heap.size + 1 := by simp
  obtain ⟨w0, hw0⟩ : ∃ v, w.alloc (.cells #[.int .i64 l.N, .slice l.A l.n l.cap, .slice l.LA l.ln l.lc, .slice l.RA l.rn l.rc] 25) = v := ⟨_, rfl⟩
  rw [hw0] at hb0 hr0 hz0
  rw [hR] at hr0 hz0
  have hB := hb0
  have S := Lib.hid (h.below hB (Nat.le_refl _))
  have SS := Lib.hid (hS.below hB (Nat.le_refl _))
  have X := Lib.hid hr0
  have HW0 := Lib.hid hw0
  have B := Lib.hid hB
  have HR := Lib.hid hR
  clear hB hR hb0 hr0 hz0 hw0 h hS
  have Hsc := Lib.hid hsc
  have Hs6 := Lib.hid hs6
  have SD := Lib.hid (show Ints w0 none 0 [] from ⟨rfl, fun h => by omega⟩)
  have Hdc := Lib.hid (Nat.le_refl 0)
  have Hd6 := Lib.hid (Nat.zero_le 1000000)
  clear hsc hs6
  have ltX : R < w0.heap.size := lt_of_block X.out
  have zX0 : w0.cell? ⟨R, 0, none⟩ = some (.int .i64 l.N) := by rw [cell_row X.out]; rfl
  have zX1 : w0.cell? ⟨R, 1, none⟩ = some (.slice l.A l.n l.cap) := by rw [cell_row X.out]; rfl
  have zX2 : w0.cell? ⟨R, 2, none⟩ = some (.slice l.LA l.ln l.lc) := by rw [cell_row X.out]; rfl
  have zX3 : w0.cell? ⟨R, 3, none⟩ = some (.slice l.RA l.rn l.rc) := by rw [cell_row X.out]; rfl
  go_enter Try.func24, Try.ntmps24
  go_wp2_with fail
  try rw [HW0.out]
  try rw [HR.out]
  try simp only [Nat.add_assoc, Nat.reduceAdd]
  try go_wp2_with fail
  clear zX0 zX1 zX2 zX3 ltX
  refine (lay41E l none 0 0 [] w0 S.out SD.out Hdc.out Hd6.out).mono ?_
  rintro en w1 ⟨hh, hb⟩
  rcases hh with ⟨h0, rfl⟩ | ⟨h0, B1, F, Z, rfl, hbd, hok, hF⟩
  · obtain ⟨c, hc⟩ : ∃ v, layE l [] = v := ⟨_, rfl⟩
    rw [hc] at h0 ⊢
    have d0 : (c != 0) = true := by rw [bne_iff_ne]; exact h0
    have H0 := Lib.hid h0
    have HC := Lib.hid hc
    replace B := Lib.hid (B.out.trans (hb.mono B.out.size))
    clear h0 hc hb
    go_wp2_with fail
    go_ret3
    exact ⟨.inl ⟨by unfold cutE; rw [if_pos (by rw [HC.out]; exact H0.out), HC.out]; exact H0.out, by unfold cutE; rw [if_pos (by rw [HC.out]; exact H0.out), HC.out] <;> rfl⟩, B.out⟩
  · obtain ⟨b, hbe⟩ : ∃ b : BD, (⟨B1, F, Z, l, dropF l.zs []⟩ : BD) = b := ⟨_, rfl⟩
    have e1 : b.l = l := by rw [← hbe]
    have e2 : b.zs = dropF l.zs [] := by rw [← hbe]
    have e3 : b.B = B1 := by rw [← hbe]
    rw [hbe] at hbd hok
    have D := Lib.hid hbd
    have Hok := Lib.hid hok
    have H0 := Lib.hid h0
    have E1 := Lib.hid e1
    have E2 := Lib.hid e2
    have Hbe := Lib.hid hbe
    replace S := Lib.hid (S.out.below hb (Nat.le_refl _))
    replace SD := Lib.hid (SD.out.below hb (Nat.le_refl _))
    replace X := Lib.hid ((hb.block _ (lt_of_block X.out)).trans X.out)
    replace B := Lib.hid (B.out.trans (hb.mono B.out.size))
    have Hb1 := Lib.hid hb
    rw [← e3]
    clear hbd hok h0 hb hF e1 e2 e3 hbe
    replace SS := Lib.hid (SS.out.below Hb1.out (Nat.le_refl _))
    have HE := Lib.hid (show cutE l ss = if risI l.N ss = false then 3 else if (!subI ss l.ls || l.rs.any (fun x => decide (x ∈ ss))) = true then 16 else 0 by unfold cutE; rw [H0.out]; rfl)
    obtain ⟨j0, hj0⟩ : ∃ v, risI l.N ss = v := ⟨_, rfl⟩
    obtain ⟨j1, hj1⟩ : ∃ v, subI ss l.ls = v := ⟨_, rfl⟩
    obtain ⟨j2, hj2⟩ : ∃ v, l.rs.any (fun x => decide (x ∈ ss)) = v := ⟨_, rfl⟩
    rw [hj0, hj1, hj2] at HE
    have J1 := Lib.hid hj1
    have J2 := Lib.hid hj2
    have hr2 := heap_alloc_new_ w1 (.cells #[.slice SA sn sc] 23)
    have hb := below_alloc_ w1 (.cells #[.slice SA sn sc] 23)
    have k2 := rising47 (some ⟨w1.heap.size, 0, none⟩) 1 1 [ss] l.N _ (rows_one hr2 (SS.out.below hb (Nat.le_refl _)) Hsc.out Hs6.out) (by omega)
    rw [show [ss].all (risI l.N) = risI l.N ss by simp, hj0] at k2
    have K2 := Lib.hid k2
    clear k2 hr2 hb hj0 hj1 hj2
    have ltX : R < w1.heap.size := lt_of_block X.out
    have zX0 : w1.cell? ⟨R, 0, none⟩ = some (.int .i64 l.N) := by rw [cell_row X.out]; rfl
    have zX1 : w1.cell? ⟨R, 1, none⟩ = some (.slice l.A l.n l.cap) := by rw [cell_row X.out]; rfl
    have zX2 : w1.cell? ⟨R, 2, none⟩ = some (.slice l.LA l.ln l.lc) := by rw [cell_row X.out]; rfl
    have zX3 : w1.cell? ⟨R, 3, none⟩ = some (.slice l.RA l.rn l.rc) := by rw [cell_row X.out]; rfl
    go_wp2_with fail
    refine K2.out.mono ?_
    rintro en w8 ⟨rfl, rfl⟩
    have hb := below_alloc_ w1 (.cells #[.slice SA sn sc] 23)
    obtain ⟨w5, hw5⟩ : ∃ v, w1.alloc (.cells #[.slice SA sn sc] 23) = v := ⟨_, rfl⟩
    rw [hw5] at hb ⊢
    clear hw5 K2
    clear zX0 zX1 zX2 zX3 ltX
    replace S := Lib.hid (S.out.below hb (Nat.le_refl _))
    replace SS := Lib.hid (SS.out.below hb (Nat.le_refl _))
    replace D := Lib.hid (D.out.below hb (Nat.le_refl _))
    replace X := Lib.hid ((hb.block _ (lt_of_block X.out)).trans X.out)
    replace B := Lib.hid (B.out.trans (hb.mono B.out.size))
    clear hb
    have ltX : R < w5.heap.size := lt_of_block X.out
    have zX0 : w5.cell? ⟨R, 0, none⟩ = some (.int .i64 l.N) := by rw [cell_row X.out]; rfl
    have zX1 : w5.cell? ⟨R, 1, none⟩ = some (.slice l.A l.n l.cap) := by rw [cell_row X.out]; rfl
    have zX2 : w5.cell? ⟨R, 2, none⟩ = some (.slice l.LA l.ln l.lc) := by rw [cell_row X.out]; rfl
    have zX3 : w5.cell? ⟨R, 3, none⟩ = some (.slice l.RA l.rn l.rc) := by rw [cell_row X.out]; rfl
    rcases j0 with _ | _
    · go_wp2_with fail
      go_ret3
      exact ⟨.inl ⟨by rw [HE.out, if_pos trivial]; decide, by rw [HE.out] <;> rfl⟩, B.out⟩
    go_wp2_with fail
    rcases j1 with _ | _
    · refine wp_region_held_drew (S := fun w2 => Below w5.heap.size w5 w2) (by kernel_rfl) (drew_b _ _) (fun hS0 => ?_)
      refine wpAnyH_take (i := 0) (oi := opPx0) (v := .slice SA sn sc) rfl (by kernel_rfl) (by kernel_rfl) (by kernel_rfl) (fun _ _ _ h => h) (Or.inl ⟨by rfl, by intro w2 hSw; (try dsimp only at hSw); have yX0 := (hSw.cell (lt_of_cell zX0)).trans zX0; have yX1 := (hSw.cell (lt_of_cell zX1)).trans zX1; have yX2 := (hSw.cell (lt_of_cell zX2)).trans zX2; have yX3 := (hSw.cell (lt_of_cell zX3)).trans zX3;   go_simp⟩) hS0 ?_
      try simp only [Act.put, List.setIfInBounds_toArray, List.set_cons_zero, List.set_cons_succ]
      refine wpAnyH_take (i := 1) (oi := opPx1) (v := .pointer (some ⟨R, 2, none⟩)) rfl (by kernel_rfl) (by kernel_rfl) (by kernel_rfl) (fun _ _ _ h => h) (Or.inl ⟨by rfl, by intro w2 hSw; (try dsimp only at hSw); have yX0 := (hSw.cell (lt_of_cell zX0)).trans zX0; have yX1 := (hSw.cell (lt_of_cell zX1)).trans zX1; have yX2 := (hSw.cell (lt_of_cell zX2)).trans zX2; have yX3 := (hSw.cell (lt_of_cell zX3)).trans zX3;   go_simp⟩) hS0 ?_
      try simp only [Act.put, List.setIfInBounds_toArray, List.set_cons_zero, List.set_cons_succ]
      refine wpAnyH_take (i := 2) (oi := opPx2) (v := .slice l.LA l.ln l.lc) rfl (by kernel_rfl) (by kernel_rfl) (by kernel_rfl) (fun _ _ _ h => h) (Or.inl ⟨by rfl, by intro w2 hSw; (try dsimp only at hSw); have yX0 := (hSw.cell (lt_of_cell zX0)).trans zX0; have yX1 := (hSw.cell (lt_of_cell zX1)).trans zX1; have yX2 := (hSw.cell (lt_of_cell zX2)).trans zX2; have yX3 := (hSw.cell (lt_of_cell zX3)).trans zX3;   go_simp⟩) hS0 ?_
      try simp only [Act.put, List.setIfInBounds_toArray, List.set_cons_zero, List.set_cons_succ]
      refine wpAnyH_ready (rs := [3]) (by kernel_rfl) (by simp) ?_
      refine AllReadyH.cons (o := opPx3) rfl (fun K2 hK => ?_) AllReadyH.nil
      go_simp
      refine (contains53 SA sn sc ss l.LA l.ln l.lc l.ls _ (SS.out.below hS0 (Nat.le_refl _)) (S.out.below hS0 (Nat.le_refl _)).ls Hs6.out S.out.l6).mono ?_
      rintro e9 w5v1 ⟨rfl, hb9⟩
      replace hb9 := below_eq hb9
      rw [J1.out]
      (try go_simp)
      refine hK.out _ _ (hS0.trans (hb9.mono hS0.size)) (fun hS1 => ?_)
      clear hK K2 hb9
      try simp only [Act.put, List.setIfInBounds_toArray, List.set_cons_zero, List.set_cons_succ]
      refine wpAnyH_take (i := 4) (oi := opPx4) (v := .bool true) rfl (by kernel_rfl) (by kernel_rfl) (by kernel_rfl) (fun _ _ _ h => h) (Or.inl ⟨by rfl, by intro w2 hSw; (try dsimp only at hSw); have yX0 := (hSw.cell (lt_of_cell zX0)).trans zX0; have yX1 := (hSw.cell (lt_of_cell zX1)).trans zX1; have yX2 := (hSw.cell (lt_of_cell zX2)).trans zX2; have yX3 := (hSw.cell (lt_of_cell zX3)).trans zX3;   go_simp⟩) hS1 ?_
      try simp only [Act.put, List.setIfInBounds_toArray, List.set_cons_zero, List.set_cons_succ]
      refine wpAnyH_take (i := 5) (oi := opPx5) (v := .bool true) rfl (by kernel_rfl) (by kernel_rfl) (by kernel_rfl) (fun _ _ _ h => h) (Or.inl ⟨by rfl, by intro w2 hSw; (try dsimp only at hSw); have yX0 := (hSw.cell (lt_of_cell zX0)).trans zX0; have yX1 := (hSw.cell (lt_of_cell zX1)).trans zX1; have yX2 := (hSw.cell (lt_of_cell zX2)).trans zX2; have yX3 := (hSw.cell (lt_of_cell zX3)).trans zX3;   go_simp⟩) hS1 ?_
      try simp only [Act.put, List.setIfInBounds_toArray, List.set_cons_zero, List.set_cons_succ]
      refine wpAnyH_take (i := 6) (oi := opPx6) (v := undef) rfl (by kernel_rfl) (by kernel_rfl) (by kernel_rfl) (fun _ _ _ h => h) (Or.inr ⟨by rfl, rfl⟩) hS1 ?_
      try simp only [Act.put, List.setIfInBounds_toArray, List.set_cons_zero, List.set_cons_succ]
      refine wpAnyH_take (i := 7) (oi := opPx7) (v := undef) rfl (by kernel_rfl) (by kernel_rfl) (by kernel_rfl) (fun _ _ _ h => h) (Or.inr ⟨by rfl, rfl⟩) hS1 ?_
      try simp only [Act.put, List.setIfInBounds_toArray, List.set_cons_zero, List.set_cons_succ]
      refine wpAnyH_take (i := 8) (oi := opPx8) (v := undef) rfl (by kernel_rfl) (by kernel_rfl) (by kernel_rfl) (fun _ _ _ h => h) (Or.inr ⟨by rfl, rfl⟩) hS1 ?_
      try simp only [Act.put, List.setIfInBounds_toArray, List.set_cons_zero, List.set_cons_succ]
      refine wpAnyH_take (i := 9) (oi := opPx9) (v := undef) rfl (by kernel_rfl) (by kernel_rfl) (by kernel_rfl) (fun _ _ _ h => h) (Or.inr ⟨by rfl, rfl⟩) hS1 ?_
      try simp only [Act.put, List.setIfInBounds_toArray, List.set_cons_zero, List.set_cons_succ]
      refine wpAnyH_take (i := 10) (oi := opPx10) (v := undef) rfl (by kernel_rfl) (by kernel_rfl) (by kernel_rfl) (fun _ _ _ h => h) (Or.inr ⟨by rfl, rfl⟩) hS1 ?_
      try simp only [Act.put, List.setIfInBounds_toArray, List.set_cons_zero, List.set_cons_succ]
      refine wpAnyH_take (i := 11) (oi := opPx11) (v := .bool true) rfl (by kernel_rfl) (by kernel_rfl) (by kernel_rfl) (fun _ _ _ h => h) (Or.inl ⟨by rfl, by intro w2 hSw; (try dsimp only at hSw); have yX0 := (hSw.cell (lt_of_cell zX0)).trans zX0; have yX1 := (hSw.cell (lt_of_cell zX1)).trans zX1; have yX2 := (hSw.cell (lt_of_cell zX2)).trans zX2; have yX3 := (hSw.cell (lt_of_cell zX3)).trans zX3;   go_simp⟩) hS1 ?_
      try simp only [Act.put, List.setIfInBounds_toArray, List.set_cons_zero, List.set_cons_succ]
      refine wpAnyH_done (by kernel_rfl) ?_ _
      clear zX0 zX1 zX2 zX3 ltX
      have hb := hS1
      clear hS0 hS1
      replace S := Lib.hid (S.out.below hb (Nat.le_refl _))
      replace SS := Lib.hid (SS.out.below hb (Nat.le_refl _))
      replace D := Lib.hid (D.out.below hb (Nat.le_refl _))
      replace X := Lib.hid ((hb.block _ (lt_of_block X.out)).trans X.out)
      replace B := Lib.hid (B.out.trans (hb.mono B.out.size))
      clear hb
      have HE2 := Lib.hid (show cutE l ss = 16 by rw [HE.out]; rfl)
      go_wp2_with fail
      go_ret3
      exact ⟨.inl ⟨by rw [HE2.out]; decide, by rw [HE2.out] <;> rfl⟩, B.out⟩
    refine wp_region_held_drew (S := fun w2 => Below w5.heap.size w5 w2) (by kernel_rfl) (drew_b _ _) (fun hS0 => ?_)
    refine wpAnyH_take (i := 0) (oi := opPx0) (v := .slice SA sn sc) rfl (by kernel_rfl) (by kernel_rfl) (by kernel_rfl) (fun _ _ _ h => h) (Or.inl ⟨by rfl, by intro w2 hSw; (try dsimp only at hSw); have yX0 := (hSw.cell (lt_of_cell zX0)).trans zX0; have yX1 := (hSw.cell (lt_of_cell zX1)).trans zX1; have yX2 := (hSw.cell (lt_of_cell zX2)).trans zX2; have yX3 := (hSw.cell (lt_of_cell zX3)).trans zX3;   go_simp⟩) hS0 ?_
    try simp only [Act.put, List.setIfInBounds_toArray, List.set_cons_zero, List.set_cons_succ]
    refine wpAnyH_take (i := 1) (oi := opPx1) (v := .pointer (some ⟨R, 2, none⟩)) rfl (by kernel_rfl) (by kernel_rfl) (by kernel_rfl) (fun _ _ _ h => h) (Or.inl ⟨by rfl, by intro w2 hSw; (try dsimp only at hSw); have yX0 := (hSw.cell (lt_of_cell zX0)).trans zX0; have yX1 := (hSw.cell (lt_of_cell zX1)).trans zX1; have yX2 := (hSw.cell (lt_of_cell zX2)).trans zX2; have yX3 := (hSw.cell (lt_of_cell zX3)).trans zX3;   go_simp⟩) hS0 ?_
    try simp only [Act.put, List.setIfInBounds_toArray, List.set_cons_zero, List.set_cons_succ]
    refine wpAnyH_take (i := 2) (oi := opPx2) (v := .slice l.LA l.ln l.lc) rfl (by kernel_rfl) (by kernel_rfl) (by kernel_rfl) (fun _ _ _ h => h) (Or.inl ⟨by rfl, by intro w2 hSw; (try dsimp only at hSw); have yX0 := (hSw.cell (lt_of_cell zX0)).trans zX0; have yX1 := (hSw.cell (lt_of_cell zX1)).trans zX1; have yX2 := (hSw.cell (lt_of_cell zX2)).trans zX2; have yX3 := (hSw.cell (lt_of_cell zX3)).trans zX3;   go_simp⟩) hS0 ?_
    try simp only [Act.put, List.setIfInBounds_toArray, List.set_cons_zero, List.set_cons_succ]
    refine wpAnyH_ready (rs := [3]) (by kernel_rfl) (by simp) ?_
    refine AllReadyH.cons (o := opPx3) rfl (fun K2 hK => ?_) AllReadyH.nil
    go_simp
    refine (contains53 SA sn sc ss l.LA l.ln l.lc l.ls _ (SS.out.below hS0 (Nat.le_refl _)) (S.out.below hS0 (Nat.le_refl _)).ls Hs6.out S.out.l6).mono ?_
    rintro e9 w5v1 ⟨rfl, hb9⟩
    replace hb9 := below_eq hb9
    rw [J1.out]
    (try go_simp)
    refine hK.out _ _ (hS0.trans (hb9.mono hS0.size)) (fun hS1 => ?_)
    clear hK K2 hb9
    try simp only [Act.put, List.setIfInBounds_toArray, List.set_cons_zero, List.set_cons_succ]
    refine wpAnyH_take (i := 4) (oi := opPx4) (v := .bool false) rfl (by kernel_rfl) (by kernel_rfl) (by kernel_rfl) (fun _ _ _ h => h) (Or.inl ⟨by rfl, by intro w2 hSw; (try dsimp only at hSw); have yX0 := (hSw.cell (lt_of_cell zX0)).trans zX0; have yX1 := (hSw.cell (lt_of_cell zX1)).trans zX1; have yX2 := (hSw.cell (lt_of_cell zX2)).trans zX2; have yX3 := (hSw.cell (lt_of_cell zX3)).trans zX3;   go_simp⟩) hS1 ?_
    try simp only [Act.put, List.setIfInBounds_toArray, List.set_cons_zero, List.set_cons_succ]
    refine wpAnyH_take (i := 5) (oi := opPx5) (v := .bool false) rfl (by kernel_rfl) (by kernel_rfl) (by kernel_rfl) (fun _ _ _ h => h) (Or.inl ⟨by rfl, by intro w2 hSw; (try dsimp only at hSw); have yX0 := (hSw.cell (lt_of_cell zX0)).trans zX0; have yX1 := (hSw.cell (lt_of_cell zX1)).trans zX1; have yX2 := (hSw.cell (lt_of_cell zX2)).trans zX2; have yX3 := (hSw.cell (lt_of_cell zX3)).trans zX3;   go_simp⟩) hS1 ?_
    try simp only [Act.put, List.setIfInBounds_toArray, List.set_cons_zero, List.set_cons_succ]
    refine wpAnyH_take (i := 6) (oi := opPx6) (v := .pointer (some ⟨R, 3, none⟩)) rfl (by kernel_rfl) (by kernel_rfl) (by kernel_rfl) (fun _ _ _ h => h) (Or.inl ⟨by rfl, by intro w2 hSw; (try dsimp only at hSw); have yX0 := (hSw.cell (lt_of_cell zX0)).trans zX0; have yX1 := (hSw.cell (lt_of_cell zX1)).trans zX1; have yX2 := (hSw.cell (lt_of_cell zX2)).trans zX2; have yX3 := (hSw.cell (lt_of_cell zX3)).trans zX3;   go_simp⟩) hS1 ?_
    try simp only [Act.put, List.setIfInBounds_toArray, List.set_cons_zero, List.set_cons_succ]
    refine wpAnyH_take (i := 7) (oi := opPx7) (v := .slice l.RA l.rn l.rc) rfl (by kernel_rfl) (by kernel_rfl) (by kernel_rfl) (fun _ _ _ h => h) (Or.inl ⟨by rfl, by intro w2 hSw; (try dsimp only at hSw); have yX0 := (hSw.cell (lt_of_cell zX0)).trans zX0; have yX1 := (hSw.cell (lt_of_cell zX1)).trans zX1; have yX2 := (hSw.cell (lt_of_cell zX2)).trans zX2; have yX3 := (hSw.cell (lt_of_cell zX3)).trans zX3;   go_simp⟩) hS1 ?_
    try simp only [Act.put, List.setIfInBounds_toArray, List.set_cons_zero, List.set_cons_succ]
    refine wpAnyH_take (i := 8) (oi := opPx8) (v := .slice SA sn sc) rfl (by kernel_rfl) (by kernel_rfl) (by kernel_rfl) (fun _ _ _ h => h) (Or.inl ⟨by rfl, by intro w2 hSw; (try dsimp only at hSw); have yX0 := (hSw.cell (lt_of_cell zX0)).trans zX0; have yX1 := (hSw.cell (lt_of_cell zX1)).trans zX1; have yX2 := (hSw.cell (lt_of_cell zX2)).trans zX2; have yX3 := (hSw.cell (lt_of_cell zX3)).trans zX3;   go_simp⟩) hS1 ?_
    try simp only [Act.put, List.setIfInBounds_toArray, List.set_cons_zero, List.set_cons_succ]
    refine wpAnyH_ready (rs := [9]) (by kernel_rfl) (by simp) ?_
    refine AllReadyH.cons (o := opPx9) rfl (fun K2 hK => ?_) AllReadyH.nil
    go_simp
    refine (in49 SA sn sc ss w5v1 (SS.out.below hS1 (Nat.le_refl _)) Hs6.out).mono ?_
    rintro e9 w5v2 ⟨fv, rfl, hT, hb9⟩
    have HT := Lib.hid (hT (fun _ => True))
    clear hT
    (try go_simp)
    refine hK.out _ _ (hS1.trans (hb9.mono hS1.size)) (fun hS2 => ?_)
    clear hK K2 hb9
    try simp only [Act.put, List.setIfInBounds_toArray, List.set_cons_zero, List.set_cons_succ]
    refine wpAnyH_ready (rs := [10]) (by kernel_rfl) (by simp) ?_
    refine AllReadyH.cons (o := opPx10) rfl (fun K2 hK => ?_) AllReadyH.nil
    go_simp
    refine (containsFunc48 l.RA l.rn l.rc l.rs fv _ w5v2 (S.out.below hS2 (Nat.le_refl _)).rs S.out.r6 HT.out).mono ?_
    rintro e9 w5v3 ⟨rfl, hb9⟩
    rw [J2.out]
    (try go_simp)
    refine hK.out _ _ (hS2.trans (hb9.mono hS2.size)) (fun hS3 => ?_)
    clear hK K2 hb9
    try simp only [Act.put, List.setIfInBounds_toArray, List.set_cons_zero, List.set_cons_succ]
    refine wpAnyH_take (i := 11) (oi := opPx11) (v := .bool j2) rfl (by kernel_rfl) (by kernel_rfl) (by kernel_rfl) (fun _ _ _ h => h) (Or.inl ⟨by rfl, by intro w2 hSw; (try dsimp only at hSw); have yX0 := (hSw.cell (lt_of_cell zX0)).trans zX0; have yX1 := (hSw.cell (lt_of_cell zX1)).trans zX1; have yX2 := (hSw.cell (lt_of_cell zX2)).trans zX2; have yX3 := (hSw.cell (lt_of_cell zX3)).trans zX3;   go_simp⟩) hS3 ?_
    try simp only [Act.put, List.setIfInBounds_toArray, List.set_cons_zero, List.set_cons_succ]
    refine wpAnyH_done (by kernel_rfl) ?_ _
    clear zX0 zX1 zX2 zX3 ltX
    have hb := hS3
    clear hS0 hS1 hS2 hS3
    replace S := Lib.hid (S.out.below hb (Nat.le_refl _))
    replace SS := Lib.hid (SS.out.below hb (Nat.le_refl _))
    replace D := Lib.hid (D.out.below hb (Nat.le_refl _))
    replace X := Lib.hid ((hb.block _ (lt_of_block X.out)).trans X.out)
    replace B := Lib.hid (B.out.trans (hb.mono B.out.size))
    clear hb
    rcases j2 with _ | _
    rotate_left
    · have HE2 := Lib.hid (show cutE l ss = 16 by rw [HE.out]; rfl)
      go_wp2_with fail
      go_ret3
      exact ⟨.inl ⟨by rw [HE2.out]; decide, by rw [HE2.out] <;> rfl⟩, B.out⟩
    have HE2 := Lib.hid (show cutE l ss = 0 by rw [HE.out]; rfl)
    have k54 := Lib.hid (cut54 b (fun _ => 0) SA sn sc ss w5v3 D.out Hok.out SS.out Hs6.out)
    go_wp2_with fail
    refine k54.out.mono ?_
    rintro en w9 ⟨C, cp, rfl, hcp, hI, hb⟩
    have e2 : b.zs = l.zs := E2.out
    rw [e2, E1.out] at hcp hI
    have HX := Lib.hid (And.intro hcp hI)
    replace B := Lib.hid (B.out.trans (hb.mono B.out.size))
    clear hcp hI hb k54 e2
    go_wp2_with fail
    go_ret3
    exact ⟨.inr ⟨HE2.out, C, cp, by rw [show b.zs = l.zs from E2.out, E1.out] <;> rfl, HX.out.1, HX.out.2⟩, B.out⟩
end
end Go.Proofs.Ytigohccehllmnaa
