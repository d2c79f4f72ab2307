/- Stage 6: NameLists. -/
import Derived.Test.YtigohccehllmnaaLw
import Derived.Test.YtigohccehllmnaaG69
namespace Go.Proofs.Ytigohccehllmnaa
set_option linter.unusedSimpArgs false
set_option linter.unusedVariables false
open Go.RowKit Go.Shelf

/-- The groups that are asked for. -/
def docG (l : NL) (ds : List Int) : List (List Int) := if layE l ds ≠ 0 then [] else dgK (labG l.zs ds l.n l.N.toNat) l.N.toNat l.N.toNat
theorem docG_bad {l : NL} {ds : List Int} (h : layE l ds ≠ 0) : docG l ds = [] := by unfold docG; rw [if_pos h]
theorem docG_ok {l : NL} {ds : List Int} (h : layE l ds = 0) : docG l ds = dgK (labG l.zs ds l.n l.N.toNat) l.N.toNat l.N.toNat := by unfold docG; rw [if_neg (by omega)]
theorem rows_nil (W : World) : Rows W none 0 [] := ⟨rfl, fun h => absurd h (by omega)⟩
theorem docG_small {l : NL} {ds : List Int} : (docG l ds).length ≤ 10000 ∧ ∀ x ∈ docG l ds, x.length ≤ 10000 := by
  unfold docG
  split
  · exact ⟨by simp, fun x hx => by cases hx⟩
  · rename_i h
    have hN := (chk_zero (layE_ok (l := l) (ds := ds) (by omega)).1).1
    exact ⟨by have := dgK_len (labG l.zs ds l.n l.N.toNat) l.N.toNat l.N.toNat; omega, fun x hx => by have := dg_small _ _ _ x hx; omega⟩
/-- What both functions of groups return. -/
theorem groupsA (l : NL) (DA : Option Addr) (dn dc : Nat) (ds : List Int) (w : World) (h : NLs w l) (hD : Ints w DA dn ds) (hdc : dn ≤ dc) (hd6 : dn ≤ 1000000) :
    Calls Try.prog 15 #[.agg #[.int .i64 l.N, .slice l.A l.n l.cap, .slice l.LA l.ln l.lc, .slice l.RA l.rn l.rc], .slice DA dn dc] w fun e w' => ∃ C cap, e = .returned (.tuple #[.slice C (docG l ds).length cap, .int .i64 (layE l ds)]) ∧ (docG l ds).length ≤ cap ∧ Rows w' C (docG l ds).length (docG l ds) ∧ Below w.heap.size w w' := by
  refine (groups15 l DA dn dc ds w h hD hdc hd6).mono ?_
  rintro e w' ⟨hh, hb⟩
  rcases hh with ⟨h0, rfl⟩ | ⟨h0, C, cap, gs, G, rfl, hc, hR, hG⟩
  · rw [docG_bad h0]
    exact ⟨none, 0, rfl, Nat.le_refl _, rows_nil _, hb⟩
  · have := gps_ref h h0 hG
    rw [docG_ok h0, ← this, h0]
    exact ⟨C, cap, rfl, hc, hR, hb⟩
theorem groupsB (l : NL) (DA : Option Addr) (dn dc : Nat) (ds : List Int) (w : World) (h : NLs w l) (hD : Ints w DA dn ds) (hd6 : dn ≤ 1000000) :
    Calls Try.prog 16 #[.agg #[.int .i64 l.N, .slice l.A l.n l.cap, .slice l.LA l.ln l.lc, .slice l.RA l.rn l.rc], .slice DA dn dc] w fun e w' => ∃ C cap, e = .returned (.tuple #[.slice C (docG l ds).length cap, .int .i64 (layE l ds)]) ∧ (docG l ds).length ≤ cap ∧ Rows w' C (docG l ds).length (docG l ds) ∧ Below w.heap.size w w' := by
  refine (refGroups16 l DA dn dc ds w h hD hd6).mono ?_
  rintro e w' ⟨hh, hb⟩
  rcases hh with ⟨h0, rfl⟩ | ⟨h0, C, cap, rfl, hc, hR⟩
  · rw [docG_bad h0]
    exact ⟨none, 0, rfl, Nat.le_refl _, rows_nil _, hb⟩
  · rw [docG_ok h0, h0]
    exact ⟨C, cap, rfl, hc, hR, hb⟩
section
attribute [local go_sem ↓] exec_app at_app
attribute [local go_sem] Oper.semAt_some
set_option maxRecDepth 100000 in
set_option maxHeartbeats 16000000 in
theorem lists3 (l : NL) (DA : Option Addr) (dn dc : Nat) (ds : List Int) (w : World) (h : NLo w l) (hS : Ints w DA dn ds) (hdc : dn ≤ dc) :
    Calls Try.prog 3 #[.agg #[.int .i64 l.N, .slice l.A l.n l.cap, .slice l.LA l.ln l.lc, .slice l.RA l.rn l.rc], .slice DA dn dc] w fun e w' => e = .returned (.bool true) ∧ Below w.heap.size w w' := by
  obtain ⟨R, hR⟩ : ∃ v, w.heap.size = v := ⟨_, rfl⟩
  have hb0 := below_alloc_ w (.cells #[.int .i64 l.N, .slice l.A l.n l.cap, .slice l.LA l.ln l.lc, .slice l.RA l.rn l.rc] 25)
  have hr0 := heap_alloc_new_ w (.cells #[.int .i64 l.N, .slice l.A l.n l.cap, .slice l.LA l.ln l.lc, .slice l.RA l.rn l.rc] 25)
  have hz0 : (w.alloc (.cells #[.int .i64 l.N, .slice l.A l.n l.cap, .slice l.LA l.ln l.lc, .slice l.RA l.rn l.rc] 25)).heap.size = w.heap.size + 1 := by simp
  obtain ⟨w0, hw0⟩ : ∃ v, w.alloc (.cells #[.int .i64 l.N, .slice l.A l.n l.cap, .slice l.LA l.ln l.lc, .slice l.RA l.rn l.rc] 25) = v := ⟨_, rfl⟩
  rw [hw0] at hb0 hr0 hz0
  rw [hR] at hr0 hz0
  have hB := hb0
  have LO := Lib.hid (h.below hB (Nat.le_refl _))
  have SD := Lib.hid (hS.below hB (Nat.le_refl _))
  have X := Lib.hid hr0
  have HW0 := Lib.hid hw0
  have B := Lib.hid hB
  have HR := Lib.hid hR
  clear hB hR hb0 hr0 hz0 hw0 h hS
  have Hdc := Lib.hid hdc
  clear hdc
  have ltX : R < w0.heap.size := lt_of_block X.out
  have zX0 : w0.cell? ⟨R, 0, none⟩ = some (.int .i64 l.N) := by rw [cell_row X.out]; rfl
  have zX1 : w0.cell? ⟨R, 1, none⟩ = some (.slice l.A l.n l.cap) := by rw [cell_row X.out]; rfl
  have zX2 : w0.cell? ⟨R, 2, none⟩ = some (.slice l.LA l.ln l.lc) := by rw [cell_row X.out]; rfl
  have zX3 : w0.cell? ⟨R, 3, none⟩ = some (.slice l.RA l.rn l.rc) := by rw [cell_row X.out]; rfl
  go_enter Try.func3, Try.ntmps3
  go_wp2_with fail
  try rw [HW0.out]
  try rw [HR.out]
  try simp only [Nat.add_assoc, Nat.reduceAdd]
  try go_wp2_with fail
  clear zX0 zX1 zX2 zX3 ltX
  refine (great13 l w0).mono ?_
  rintro en w1 ⟨rfl, hb⟩
  replace LO := Lib.hid (LO.out.below hb (Nat.le_refl _))
  replace SD := Lib.hid (SD.out.below hb (Nat.le_refl _))
  replace X := Lib.hid ((hb.block _ (lt_of_block X.out)).trans X.out)
  replace B := Lib.hid (B.out.trans (hb.mono B.out.size))
  cases hg : grtL l
  rotate_left
  try clear hb
  · clear hg
    have ltX : R < w1.heap.size := lt_of_block X.out
    have zX0 : w1.cell? ⟨R, 0, none⟩ = some (.int .i64 l.N) := by rw [cell_row X.out]; rfl
    have zX1 : w1.cell? ⟨R, 1, none⟩ = some (.slice l.A l.n l.cap) := by rw [cell_row X.out]; rfl
    have zX2 : w1.cell? ⟨R, 2, none⟩ = some (.slice l.LA l.ln l.lc) := by rw [cell_row X.out]; rfl
    have zX3 : w1.cell? ⟨R, 3, none⟩ = some (.slice l.RA l.rn l.rc) := by rw [cell_row X.out]; rfl
    go_wp2_with fail
    clear zX0 zX1 zX2 zX3 ltX
    refine (works14 w1).mono ?_
    rintro en w2 ⟨rfl, hb⟩
    replace B := Lib.hid (B.out.trans (hb.mono B.out.size))
    clear hb
    go_wp2_with fail
    go_ret
    exact ⟨rfl, B.out⟩
  have S := Lib.hid (LO.out.nls hg)
  clear hg
  by_cases h1 : 140 < dn
  · have d1 : (140 : Int) < (dn : Int) := by omega
    have ltX : R < w1.heap.size := lt_of_block X.out
    have zX0 : w1.cell? ⟨R, 0, none⟩ = some (.int .i64 l.N) := by rw [cell_row X.out]; rfl
    have zX1 : w1.cell? ⟨R, 1, none⟩ = some (.slice l.A l.n l.cap) := by rw [cell_row X.out]; rfl
    have zX2 : w1.cell? ⟨R, 2, none⟩ = some (.slice l.LA l.ln l.lc) := by rw [cell_row X.out]; rfl
    have zX3 : w1.cell? ⟨R, 3, none⟩ = some (.slice l.RA l.rn l.rc) := by rw [cell_row X.out]; rfl
    go_wp2_with fail
    clear zX0 zX1 zX2 zX3 ltX
    refine (works14 w1).mono ?_
    rintro en w2 ⟨rfl, hb⟩
    replace B := Lib.hid (B.out.trans (hb.mono B.out.size))
    clear hb
    go_wp2_with fail
    go_ret
    exact ⟨rfl, B.out⟩
  have d1 : ¬ (140 : Int) < (dn : Int) := by omega
  have Hd6 := Lib.hid (show dn ≤ 1000000 by omega)
  have ltX : R < w1.heap.size := lt_of_block X.out
  have zX0 : w1.cell? ⟨R, 0, none⟩ = some (.int .i64 l.N) := by rw [cell_row X.out]; rfl
  have zX1 : w1.cell? ⟨R, 1, none⟩ = some (.slice l.A l.n l.cap) := by rw [cell_row X.out]; rfl
  have zX2 : w1.cell? ⟨R, 2, none⟩ = some (.slice l.LA l.ln l.lc) := by rw [cell_row X.out]; rfl
  have zX3 : w1.cell? ⟨R, 3, none⟩ = some (.slice l.RA l.rn l.rc) := by rw [cell_row X.out]; rfl
  go_wp2_with fail
  clear zX0 zX1 zX2 zX3 ltX
  clear h1 d1
  refine (groupsA l DA dn dc ds w1 S.out SD.out Hdc.out Hd6.out).mono ?_
  rintro en w2 ⟨CG, cg, rfl, hcg, hR, hb⟩
  replace LO := Lib.hid (LO.out.below hb (Nat.le_refl _))
  replace SD := Lib.hid (SD.out.below hb (Nat.le_refl _))
  replace S := Lib.hid (S.out.below hb (Nat.le_refl _))
  replace X := Lib.hid ((hb.block _ (lt_of_block X.out)).trans X.out)
  replace B := Lib.hid (B.out.trans (hb.mono B.out.size))
  obtain ⟨gl, hgl⟩ : ∃ v, docG l ds = v := ⟨_, rfl⟩
  obtain ⟨el, hel⟩ : ∃ v, layE l ds = v := ⟨_, rfl⟩
  have hsm := docG_small (l := l) (ds := ds)
  rw [hgl] at hcg hR hsm ⊢
  rw [hel]
  have HGL := Lib.hid hgl
  have HEL := Lib.hid hel
  have HSM := Lib.hid hsm
  have HR1 := Lib.hid hR
  clear hgl hel hR hsm hcg
  try clear hb
  have ltX : R < w2.heap.size := lt_of_block X.out
  have zX0 : w2.cell? ⟨R, 0, none⟩ = some (.int .i64 l.N) := by rw [cell_row X.out]; rfl
  have zX1 : w2.cell? ⟨R, 1, none⟩ = some (.slice l.A l.n l.cap) := by rw [cell_row X.out]; rfl
  have zX2 : w2.cell? ⟨R, 2, none⟩ = some (.slice l.LA l.ln l.lc) := by rw [cell_row X.out]; rfl
  have zX3 : w2.cell? ⟨R, 3, none⟩ = some (.slice l.RA l.rn l.rc) := by rw [cell_row X.out]; rfl
  go_wp2_with fail
  clear zX0 zX1 zX2 zX3 ltX
  refine (groupsB l DA dn dc ds w2 S.out SD.out Hd6.out).mono ?_
  rintro en w3 ⟨CD, cd, rfl, hcg, hR, hb⟩
  replace LO := Lib.hid (LO.out.below hb (Nat.le_refl _))
  replace SD := Lib.hid (SD.out.below hb (Nat.le_refl _))
  replace S := Lib.hid (S.out.below hb (Nat.le_refl _))
  replace HR1 := Lib.hid (HR1.out.below hb (Nat.le_refl _))
  replace X := Lib.hid ((hb.block _ (lt_of_block X.out)).trans X.out)
  replace B := Lib.hid (B.out.trans (hb.mono B.out.size))
  rw [HGL.out] at hcg hR ⊢
  rw [HEL.out]
  have HR2 := Lib.hid hR
  clear hR hcg
  try clear hb
  have ltX : R < w3.heap.size := lt_of_block X.out
  have zX0 : w3.cell? ⟨R, 0, none⟩ = some (.int .i64 l.N) := by rw [cell_row X.out]; rfl
  have zX1 : w3.cell? ⟨R, 1, none⟩ = some (.slice l.A l.n l.cap) := by rw [cell_row X.out]; rfl
  have zX2 : w3.cell? ⟨R, 2, none⟩ = some (.slice l.LA l.ln l.lc) := by rw [cell_row X.out]; rfl
  have zX3 : w3.cell? ⟨R, 3, none⟩ = some (.slice l.RA l.rn l.rc) := by rw [cell_row X.out]; rfl
  go_wp2_with fail
  refine wp_region_held_drew (S := fun w2 => Below w3.heap.size w3 w2) (by kernel_rfl) (drew_b _ _) (fun hS0 => ?_)
  refine wpAnyH_take (i := 0) (oi := { dst := some 29, op := Go.Op.load 25 (Go.Operand.tmp 2), type := 25, pos := "law.go:72", after := #[], guard := none }) (v := .agg #[.int .i64 l.N, .slice l.A l.n l.cap, .slice l.LA l.ln l.lc, .slice l.RA l.rn l.rc]) rfl (by kernel_rfl) (by kernel_rfl) (by kernel_rfl) (fun _ _ _ h => h) (Or.inl ⟨by rfl, by intro w2 hSw; (try dsimp only at hSw); have yX0 := (hSw.cell (lt_of_cell zX0)).trans zX0; have yX1 := (hSw.cell (lt_of_cell zX1)).trans zX1; have yX2 := (hSw.cell (lt_of_cell zX2)).trans zX2; have yX3 := (hSw.cell (lt_of_cell zX3)).trans zX3;   go_simp⟩) hS0 ?_
  try simp only [Act.put, List.setIfInBounds_toArray, List.set_cons_zero, List.set_cons_succ]
  refine wpAnyH_take (i := 2) (oi := { dst := some 31, op := Go.Op.load 25 (Go.Operand.tmp 2), type := 25, pos := "law.go:72", after := #[], guard := none }) (v := .agg #[.int .i64 l.N, .slice l.A l.n l.cap, .slice l.LA l.ln l.lc, .slice l.RA l.rn l.rc]) rfl (by kernel_rfl) (by kernel_rfl) (by kernel_rfl) (fun _ _ _ h => h) (Or.inl ⟨by rfl, by intro w2 hSw; (try dsimp only at hSw); have yX0 := (hSw.cell (lt_of_cell zX0)).trans zX0; have yX1 := (hSw.cell (lt_of_cell zX1)).trans zX1; have yX2 := (hSw.cell (lt_of_cell zX2)).trans zX2; have yX3 := (hSw.cell (lt_of_cell zX3)).trans zX3;   go_simp⟩) hS0 ?_
  try simp only [Act.put, List.setIfInBounds_toArray, List.set_cons_zero, List.set_cons_succ]
  refine wpAnyH_ready (rs := [1]) (by kernel_rfl) (by simp) ?_
  refine AllReadyH.cons (o := { dst := some 30, op := Go.Op.call { callee := Go.Callee.value (Go.Operand.func 17), args := #[Go.Operand.tmp 29], argTypes := #[25] }, type := 29, pos := "law.go:72", after := #[{ on := 0, ground := Go.Ground.data }], guard := none }) rfl (fun K2 hK => ?_) AllReadyH.nil
  go_simp
  refine (checkList17 l _ (S.out.below hS0 (Nat.le_refl _))).mono ?_
  rintro e9 w3v1 ⟨rfl, hb9⟩
  obtain ⟨a, ha⟩ : ∃ v, chkL l = v := ⟨_, rfl⟩
  rw [ha]
  have HA := Lib.hid ha
  clear ha
  (try go_simp)
  refine hK.out _ _ (hS0.trans (hb9.mono hS0.size)) (fun hS1 => ?_)
  clear hK K2 hb9
  try simp only [Act.put, List.setIfInBounds_toArray, List.set_cons_zero, List.set_cons_succ]
  refine wpAnyH_ready (rs := [3]) (by kernel_rfl) (by simp) ?_
  refine AllReadyH.cons (o := { dst := some 32, op := Go.Op.call { callee := Go.Callee.value (Go.Operand.func 18), args := #[Go.Operand.tmp 31], argTypes := #[25] }, type := 29, pos := "law.go:72", after := #[{ on := 2, ground := Go.Ground.data }, { on := 1, ground := Go.Ground.chain }], guard := none }) rfl (fun K2 hK => ?_) AllReadyH.nil
  go_simp
  refine (checkList18 l w3v1 (S.out.below hS1 (Nat.le_refl _))).mono ?_
  rintro e9 w3v2 ⟨rfl, hb9⟩
  rw [HA.out]
  (try go_simp)
  refine hK.out _ _ (hS1.trans (hb9.mono hS1.size)) (fun hS2 => ?_)
  clear hK K2 hb9
  try simp only [Act.put, List.setIfInBounds_toArray, List.set_cons_zero, List.set_cons_succ]
  refine wpAnyH_take (i := 4) (oi := { dst := some 33, op := Go.Op.binOp Go.BinOp.eql 29 (Go.Operand.tmp 30) (Go.Operand.tmp 32) 29, type := 4, pos := "law.go:72", after := #[{ on := 1, ground := Go.Ground.data }, { on := 3, ground := Go.Ground.data }], guard := none }) (v := .bool true) rfl (by kernel_rfl) (by kernel_rfl) (by kernel_rfl) (fun _ _ _ h => h) (Or.inl ⟨by rfl, by intro w2 hSw; (try dsimp only at hSw); have yX0 := (hSw.cell (lt_of_cell zX0)).trans zX0; have yX1 := (hSw.cell (lt_of_cell zX1)).trans zX1; have yX2 := (hSw.cell (lt_of_cell zX2)).trans zX2; have yX3 := (hSw.cell (lt_of_cell zX3)).trans zX3;   go_simp⟩) hS2 ?_
  try simp only [Act.put, List.setIfInBounds_toArray, List.set_cons_zero, List.set_cons_succ]
  refine wpAnyH_take (i := 5) (oi := { dst := some 34, op := Go.Op.move (Go.Operand.tmp 33), type := 4, pos := "law.go:72", after := #[{ on := 4, ground := Go.Ground.data }, { on := 3, ground := Go.Ground.chain }], guard := none }) (v := .bool true) rfl (by kernel_rfl) (by kernel_rfl) (by kernel_rfl) (fun _ _ _ h => h) (Or.inl ⟨by rfl, by intro w2 hSw; (try dsimp only at hSw); have yX0 := (hSw.cell (lt_of_cell zX0)).trans zX0; have yX1 := (hSw.cell (lt_of_cell zX1)).trans zX1; have yX2 := (hSw.cell (lt_of_cell zX2)).trans zX2; have yX3 := (hSw.cell (lt_of_cell zX3)).trans zX3;   go_simp⟩) hS2 ?_
  try simp only [Act.put, List.setIfInBounds_toArray, List.set_cons_zero, List.set_cons_succ]
  refine wpAnyH_take (i := 6) (oi := { dst := some 35, op := Go.Op.move (Go.Operand.tmp 5), type := 28, pos := "law.go:72", after := #[{ on := 5, ground := Go.Ground.guard }], guard := some (5, true) }) (v := .slice CG gl.length cg) rfl (by kernel_rfl) (by kernel_rfl) (by kernel_rfl) (fun _ _ _ h => h) (Or.inl ⟨by rfl, by intro w2 hSw; (try dsimp only at hSw); have yX0 := (hSw.cell (lt_of_cell zX0)).trans zX0; have yX1 := (hSw.cell (lt_of_cell zX1)).trans zX1; have yX2 := (hSw.cell (lt_of_cell zX2)).trans zX2; have yX3 := (hSw.cell (lt_of_cell zX3)).trans zX3;   go_simp⟩) hS2 ?_
  try simp only [Act.put, List.setIfInBounds_toArray, List.set_cons_zero, List.set_cons_succ]
  refine wpAnyH_take (i := 7) (oi := { dst := some 36, op := Go.Op.move (Go.Operand.tmp 7), type := 28, pos := "law.go:72", after := #[{ on := 5, ground := Go.Ground.guard }], guard := some (5, true) }) (v := .slice CD gl.length cd) rfl (by kernel_rfl) (by kernel_rfl) (by kernel_rfl) (fun _ _ _ h => h) (Or.inl ⟨by rfl, by intro w2 hSw; (try dsimp only at hSw); have yX0 := (hSw.cell (lt_of_cell zX0)).trans zX0; have yX1 := (hSw.cell (lt_of_cell zX1)).trans zX1; have yX2 := (hSw.cell (lt_of_cell zX2)).trans zX2; have yX3 := (hSw.cell (lt_of_cell zX3)).trans zX3;   go_simp⟩) hS2 ?_
  try simp only [Act.put, List.setIfInBounds_toArray, List.set_cons_zero, List.set_cons_succ]
  refine wpAnyH_ready (rs := [8]) (by kernel_rfl) (by simp) ?_
  refine AllReadyH.cons (o := { dst := some 37, op := Go.Op.call { callee := Go.Callee.value (Go.Operand.func 19), args := #[Go.Operand.tmp 35, Go.Operand.tmp 36], argTypes := #[28, 28] }, type := 4, pos := "law.go:72", after := #[{ on := 6, ground := Go.Ground.data }, { on := 7, ground := Go.Ground.data }, { on := 5, ground := Go.Ground.chain }, { on := 5, ground := Go.Ground.guard }], guard := some (5, true) }) rfl (fun K2 hK => ?_) AllReadyH.nil
  go_simp
  refine (lists19 CG gl.length cg gl CD gl.length cd gl w3v2 (HR1.out.below hS2 (Nat.le_refl _)) (HR2.out.below hS2 (Nat.le_refl _)) HSM.out.1 HSM.out.2).mono ?_
  rintro e9 w3v3 ⟨rfl, hb9⟩
  rw [decide_eq_true (rfl : gl = gl)]
  (try go_simp)
  refine hK.out _ _ (hS2.trans (hb9.mono hS2.size)) (fun hS3 => ?_)
  clear hK K2 hb9
  try simp only [Act.put, List.setIfInBounds_toArray, List.set_cons_zero, List.set_cons_succ]
  refine wpAnyH_take (i := 9) (oi := { dst := some 38, op := Go.Op.pick (Go.Operand.tmp 34) (Go.Operand.tmp 37) (Go.Operand.const (Go.Value.bool false)), type := 4, pos := "law.go:72", after := #[{ on := 5, ground := Go.Ground.data }, { on := 8, ground := Go.Ground.data }], guard := none }) (v := .bool true) rfl (by kernel_rfl) (by kernel_rfl) (by kernel_rfl) (fun _ _ _ h => h) (Or.inl ⟨by rfl, by intro w2 hSw; (try dsimp only at hSw); have yX0 := (hSw.cell (lt_of_cell zX0)).trans zX0; have yX1 := (hSw.cell (lt_of_cell zX1)).trans zX1; have yX2 := (hSw.cell (lt_of_cell zX2)).trans zX2; have yX3 := (hSw.cell (lt_of_cell zX3)).trans zX3;   go_simp⟩) hS3 ?_
  try simp only [Act.put, List.setIfInBounds_toArray, List.set_cons_zero, List.set_cons_succ]
  refine wpAnyH_take (i := 10) (oi := { dst := some 39, op := Go.Op.move (Go.Operand.tmp 38), type := 4, pos := "law.go:72", after := #[{ on := 9, ground := Go.Ground.data }, { on := 8, ground := Go.Ground.chain }], guard := none }) (v := .bool true) rfl (by kernel_rfl) (by kernel_rfl) (by kernel_rfl) (fun _ _ _ h => h) (Or.inl ⟨by rfl, by intro w2 hSw; (try dsimp only at hSw); have yX0 := (hSw.cell (lt_of_cell zX0)).trans zX0; have yX1 := (hSw.cell (lt_of_cell zX1)).trans zX1; have yX2 := (hSw.cell (lt_of_cell zX2)).trans zX2; have yX3 := (hSw.cell (lt_of_cell zX3)).trans zX3;   go_simp⟩) hS3 ?_
  try simp only [Act.put, List.setIfInBounds_toArray, List.set_cons_zero, List.set_cons_succ]
  refine wpAnyH_take (i := 11) (oi := { dst := some 40, op := Go.Op.move (Go.Operand.tmp 6), type := 29, pos := "law.go:72", after := #[{ on := 10, ground := Go.Ground.guard }], guard := some (10, true) }) (v := .int .i64 el) rfl (by kernel_rfl) (by kernel_rfl) (by kernel_rfl) (fun _ _ _ h => h) (Or.inl ⟨by rfl, by intro w2 hSw; (try dsimp only at hSw); have yX0 := (hSw.cell (lt_of_cell zX0)).trans zX0; have yX1 := (hSw.cell (lt_of_cell zX1)).trans zX1; have yX2 := (hSw.cell (lt_of_cell zX2)).trans zX2; have yX3 := (hSw.cell (lt_of_cell zX3)).trans zX3;   go_simp⟩) hS3 ?_
  try simp only [Act.put, List.setIfInBounds_toArray, List.set_cons_zero, List.set_cons_succ]
  refine wpAnyH_take (i := 12) (oi := { dst := some 41, op := Go.Op.move (Go.Operand.tmp 8), type := 29, pos := "law.go:72", after := #[{ on := 10, ground := Go.Ground.guard }], guard := some (10, true) }) (v := .int .i64 el) rfl (by kernel_rfl) (by kernel_rfl) (by kernel_rfl) (fun _ _ _ h => h) (Or.inl ⟨by rfl, by intro w2 hSw; (try dsimp only at hSw); have yX0 := (hSw.cell (lt_of_cell zX0)).trans zX0; have yX1 := (hSw.cell (lt_of_cell zX1)).trans zX1; have yX2 := (hSw.cell (lt_of_cell zX2)).trans zX2; have yX3 := (hSw.cell (lt_of_cell zX3)).trans zX3;   go_simp⟩) hS3 ?_
  try simp only [Act.put, List.setIfInBounds_toArray, List.set_cons_zero, List.set_cons_succ]
  refine wpAnyH_take (i := 13) (oi := { dst := some 42, op := Go.Op.binOp Go.BinOp.eql 29 (Go.Operand.tmp 40) (Go.Operand.tmp 41) 29, type := 4, pos := "law.go:72", after := #[{ on := 11, ground := Go.Ground.data }, { on := 12, ground := Go.Ground.data }, { on := 10, ground := Go.Ground.guard }], guard := some (10, true) }) (v := .bool true) rfl (by kernel_rfl) (by kernel_rfl) (by kernel_rfl) (fun _ _ _ h => h) (Or.inl ⟨by rfl, by intro w2 hSw; (try dsimp only at hSw); have yX0 := (hSw.cell (lt_of_cell zX0)).trans zX0; have yX1 := (hSw.cell (lt_of_cell zX1)).trans zX1; have yX2 := (hSw.cell (lt_of_cell zX2)).trans zX2; have yX3 := (hSw.cell (lt_of_cell zX3)).trans zX3;   go_simp⟩) hS3 ?_
  try simp only [Act.put, List.setIfInBounds_toArray, List.set_cons_zero, List.set_cons_succ]
  refine wpAnyH_take (i := 14) (oi := { dst := some 43, op := Go.Op.pick (Go.Operand.tmp 39) (Go.Operand.tmp 42) (Go.Operand.const (Go.Value.bool false)), type := 4, pos := "law.go:72", after := #[{ on := 10, ground := Go.Ground.data }, { on := 13, ground := Go.Ground.data }], guard := none }) (v := .bool true) rfl (by kernel_rfl) (by kernel_rfl) (by kernel_rfl) (fun _ _ _ h => h) (Or.inl ⟨by rfl, by intro w2 hSw; (try dsimp only at hSw); have yX0 := (hSw.cell (lt_of_cell zX0)).trans zX0; have yX1 := (hSw.cell (lt_of_cell zX1)).trans zX1; have yX2 := (hSw.cell (lt_of_cell zX2)).trans zX2; have yX3 := (hSw.cell (lt_of_cell zX3)).trans zX3;   go_simp⟩) hS3 ?_
  try simp only [Act.put, List.setIfInBounds_toArray, List.set_cons_zero, List.set_cons_succ]
  refine wpAnyH_take (i := 15) (oi := { dst := some 44, op := Go.Op.move (Go.Operand.tmp 43), type := 4, pos := "law.go:72", after := #[{ on := 14, ground := Go.Ground.data }, { on := 10, ground := Go.Ground.chain }], guard := none }) (v := .bool true) rfl (by kernel_rfl) (by kernel_rfl) (by kernel_rfl) (fun _ _ _ h => h) (Or.inl ⟨by rfl, by intro w2 hSw; (try dsimp only at hSw); have yX0 := (hSw.cell (lt_of_cell zX0)).trans zX0; have yX1 := (hSw.cell (lt_of_cell zX1)).trans zX1; have yX2 := (hSw.cell (lt_of_cell zX2)).trans zX2; have yX3 := (hSw.cell (lt_of_cell zX3)).trans zX3;   go_simp⟩) hS3 ?_
  try simp only [Act.put, List.setIfInBounds_toArray, List.set_cons_zero, List.set_cons_succ]
  refine wpAnyH_ready (rs := [16]) (by kernel_rfl) (by simp) ?_
  refine AllReadyH.cons (o := { dst := some 45, op := Go.Op.call { callee := Go.Callee.value (Go.Operand.func 14), args := #[], argTypes := #[] }, type := 4, pos := "law.go:72", after := #[{ on := 15, ground := Go.Ground.chain }, { on := 15, ground := Go.Ground.guard }], guard := some (15, true) }) rfl (fun K2 hK => ?_) AllReadyH.nil
  go_simp
  refine (works14 w3v3).mono ?_
  rintro e9 w3v4 ⟨rfl, hb9⟩
  (try go_simp)
  refine hK.out _ _ (hS3.trans (hb9.mono hS3.size)) (fun hS4 => ?_)
  clear hK K2 hb9
  try simp only [Act.put, List.setIfInBounds_toArray, List.set_cons_zero, List.set_cons_succ]
  refine wpAnyH_take (i := 17) (oi := { dst := some 46, op := Go.Op.pick (Go.Operand.tmp 44) (Go.Operand.tmp 45) (Go.Operand.const (Go.Value.bool false)), type := 4, pos := "law.go:72", after := #[{ on := 15, ground := Go.Ground.data }, { on := 16, ground := Go.Ground.data }], guard := none }) (v := .bool true) rfl (by kernel_rfl) (by kernel_rfl) (by kernel_rfl) (fun _ _ _ h => h) (Or.inl ⟨by rfl, by intro w2 hSw; (try dsimp only at hSw); have yX0 := (hSw.cell (lt_of_cell zX0)).trans zX0; have yX1 := (hSw.cell (lt_of_cell zX1)).trans zX1; have yX2 := (hSw.cell (lt_of_cell zX2)).trans zX2; have yX3 := (hSw.cell (lt_of_cell zX3)).trans zX3;   go_simp⟩) hS4 ?_
  try simp only [Act.put, List.setIfInBounds_toArray, List.set_cons_zero, List.set_cons_succ]
  refine wpAnyH_take (i := 18) (oi := { dst := some 4, op := Go.Op.assign (Go.Operand.tmp 46), type := 4, pos := "law.go:72", after := #[{ on := 17, ground := Go.Ground.data }, { on := 16, ground := Go.Ground.chain }, { on := 0, ground := Go.Ground.phase }, { on := 1, ground := Go.Ground.phase }, { on := 2, ground := Go.Ground.phase }, { on := 3, ground := Go.Ground.phase }, { on := 4, ground := Go.Ground.phase }, { on := 5, ground := Go.Ground.phase }, { on := 6, ground := Go.Ground.phase }, { on := 7, ground := Go.Ground.phase }, { on := 8, ground := Go.Ground.phase }, { on := 9, ground := Go.Ground.phase }, { on := 10, ground := Go.Ground.phase }, { on := 11, ground := Go.Ground.phase }, { on := 12, ground := Go.Ground.phase }, { on := 13, ground := Go.Ground.phase }, { on := 14, ground := Go.Ground.phase }, { on := 15, ground := Go.Ground.phase }, { on := 16, ground := Go.Ground.phase }, { on := 17, ground := Go.Ground.phase }], guard := none }) (v := .bool true) rfl (by kernel_rfl) (by kernel_rfl) (by kernel_rfl) (fun _ _ _ h => h) (Or.inl ⟨by rfl, by intro w2 hSw; (try dsimp only at hSw); have yX0 := (hSw.cell (lt_of_cell zX0)).trans zX0; have yX1 := (hSw.cell (lt_of_cell zX1)).trans zX1; have yX2 := (hSw.cell (lt_of_cell zX2)).trans zX2; have yX3 := (hSw.cell (lt_of_cell zX3)).trans zX3;   go_simp⟩) hS4 ?_
  try simp only [Act.put, List.setIfInBounds_toArray, List.set_cons_zero, List.set_cons_succ]
  refine wpAnyH_done (by kernel_rfl) ?_ _
  clear zX0 zX1 zX2 zX3 ltX
  have hb := hS4
  clear hS0 hS1 hS2 hS3 hS4
  replace LO := Lib.hid (LO.out.below hb (Nat.le_refl _))
  replace SD := Lib.hid (SD.out.below hb (Nat.le_refl _))
  replace S := Lib.hid (S.out.below hb (Nat.le_refl _))
  replace HR1 := Lib.hid (HR1.out.below hb (Nat.le_refl _))
  replace HR2 := Lib.hid (HR2.out.below hb (Nat.le_refl _))
  replace X := Lib.hid ((hb.block _ (lt_of_block X.out)).trans X.out)
  replace B := Lib.hid (B.out.trans (hb.mono B.out.size))
  clear hb
  go_wp2_with fail
  go_ret
  exact ⟨rfl, B.out⟩
end
end Go.Proofs.Ytigohccehllmnaa
