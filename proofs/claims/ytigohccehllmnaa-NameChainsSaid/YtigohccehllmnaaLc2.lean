/- Stage 6: NameChains. -/
import Derived.Test.YtigohccehllmnaaLw
import Derived.Test.YtigohccehllmnaaJd9
namespace Go.Proofs.Ytigohccehllmnaa
set_option linter.unusedSimpArgs false
set_option linter.unusedVariables false
open Go.RowKit Go.Shelf

theorem chE_bad {l : NL} {ds : List Int} (h : layE l ds ≠ 0) : chE l ds = layE l ds := by unfold chE; rw [if_pos h]
theorem chE_ok {l : NL} {ds : List Int} (h : layE l ds = 0) : chE l ds = if jnB (labG l.zs ds l.n l.N.toNat) l.ls l.rs = true then 0 else 5 := by unfold chE; rw [if_neg (by omega)]
/-- What is returned for a chain. -/
theorem chainA (l : NL) (DA : Option Addr) (dn dc : Nat) (ds : List Int) (w : World) (h : NLs w l) (hD : Ints w DA dn ds) (hdc : dn ≤ dc) (hd6 : dn ≤ 1000000) :
    Calls Try.prog 20 #[.agg #[.int .i64 l.N, .slice l.A l.n l.cap, .slice l.LA l.ln l.lc, .slice l.RA l.rn l.rc], .slice DA dn dc] w fun e w' => ∃ C n cap ch, e = .returned (.tuple #[.slice C n cap, .int .i64 (chE l ds)]) ∧ n ≤ cap ∧ n ≤ 1000000 ∧ Ints w' C n ch ∧ (chE l ds ≠ 0 → n = 0) ∧ (chE l ds = 0 → layE l ds = 0 ∧ chkC l ds ch n = 0) ∧ Below w.heap.size w w' := by
  refine (chain20 l DA dn dc ds w h hD hdc hd6).mono ?_
  rintro e w' ⟨hh, hb⟩
  have hnil : Ints w' none 0 [] := ⟨rfl, fun h => absurd h (by omega)⟩
  rcases hh with ⟨h0, rfl⟩ | ⟨h0, ⟨C, cap, ws, a, en, rfl, hcp, hI, ha, he, hp, hw, hnd, hna, hw0, hw4⟩ | ⟨rfl, S1, hS1, hS2⟩⟩
  · rw [chE_bad h0]
    exact ⟨none, 0, 0, [], rfl, Nat.le_refl _, by omega, hnil, fun _ => rfl, fun e => absurd e h0, hb⟩
  · rw [chE_ok h0, jn_path h h0 ha he hp hw, if_pos rfl]
    exact ⟨C, _, cap, _, rfl, hcp, by omega, hI, fun e => absurd rfl e, fun _ => ⟨h0, chn_chk h h0 ha he hp hw hnd hna hw0⟩, hb⟩
  · rw [chE_ok h0, jn_none h h0 hS1 hS2, if_neg (by decide)]
    exact ⟨none, 0, 0, [], rfl, Nat.le_refl _, by omega, hnil, fun _ => rfl, fun e => absurd e (by decide), hb⟩
section
attribute [local go_sem ↓] exec_app at_app
attribute [local go_sem] Oper.semAt_some
set_option maxRecDepth 100000 in
set_option maxHeartbeats 16000000 in
theorem chains4 (l : NL) (DA : Option Addr) (dn dc : Nat) (ds : List Int) (CA : Option Addr) (cn cc : Nat) (ch : List Int) (w : World) (h : NLo w l) (hS : Ints w DA dn ds) (hdc : dn ≤ dc) (hC : Ints w CA cn ch) (hcc : cn ≤ cc) :
    Calls Try.prog 4 #[.agg #[.int .i64 l.N, .slice l.A l.n l.cap, .slice l.LA l.ln l.lc, .slice l.RA l.rn l.rc], .slice DA dn dc, .slice CA cn cc] w fun e w' => e = .returned (.bool true) ∧ Below w.heap.size w w' := by
  obtain ⟨R, hR⟩ : ∃ v, w.heap.size = v := ⟨_, rfl⟩
  have hb0 := below_alloc_ w (.cells #[.int .i64 l.N, .slice l.A l.n l.cap, .slice l.LA l.ln l.lc, .slice l.RA l.rn l.rc] 25)
  have hr0 := heap_alloc_new_ w (.cells #[.int .i64 l.N, .slice l.A l.n l.cap, .slice l.LA l.ln l.lc, .slice l.RA l.rn l.rc] 25)
  have hz0 : (w.alloc (.cells #[.int .i64 l.N, .slice l.A l.n l.cap, .slice l.LA l.ln l.lc, .slice l.RA l.rn l.rc] 25)).heap.size = w.heap.size + 1 := by simp
  obtain ⟨w0, hw0⟩ : ∃ v, w.alloc (.cells #[.int .i64 l.N, .slice l.A l.n l.cap, .slice l.LA l.ln l.lc, .slice l.RA l.rn l.rc] 25) = v := ⟨_, rfl⟩
  rw [hw0] at hb0 hr0 hz0
  rw [hR] at hr0 hz0
  have hB := hb0
  have LO := Lib.hid (h.below hB (Nat.le_refl _))
  have SD := Lib.hid (hS.below hB (Nat.le_refl _))
  have SC := Lib.hid (hC.below hB (Nat.le_refl _))
  have X := Lib.hid hr0
  have HW0 := Lib.hid hw0
  have B := Lib.hid hB
  have HR := Lib.hid hR
  clear hB hR hb0 hr0 hz0 hw0 h hS hC
  have Hdc := Lib.hid hdc
  have Hcc := Lib.hid hcc
  clear hdc hcc
  have ltX : R < w0.heap.size := lt_of_block X.out
  have zX0 : w0.cell? ⟨R, 0, none⟩ = some (.int .i64 l.N) := by rw [cell_row X.out]; rfl
  have zX1 : w0.cell? ⟨R, 1, none⟩ = some (.slice l.A l.n l.cap) := by rw [cell_row X.out]; rfl
  have zX2 : w0.cell? ⟨R, 2, none⟩ = some (.slice l.LA l.ln l.lc) := by rw [cell_row X.out]; rfl
  have zX3 : w0.cell? ⟨R, 3, none⟩ = some (.slice l.RA l.rn l.rc) := by rw [cell_row X.out]; rfl
  go_enter Try.func4, Try.ntmps4
  go_wp2_with fail
  try rw [HW0.out]
  try rw [HR.out]
  try simp only [Nat.add_assoc, Nat.reduceAdd]
  try go_wp2_with fail
  clear zX0 zX1 zX2 zX3 ltX
  refine (great13 l w0).mono ?_
  rintro en w1 ⟨rfl, hb⟩
  replace LO := Lib.hid (LO.out.below hb (Nat.le_refl _))
  replace SD := Lib.hid (SD.out.below hb (Nat.le_refl _))
  replace SC := Lib.hid (SC.out.below hb (Nat.le_refl _))
  replace X := Lib.hid ((hb.block _ (lt_of_block X.out)).trans X.out)
  replace B := Lib.hid (B.out.trans (hb.mono B.out.size))
  cases hg : grtL l
  rotate_left
  try clear hb
  · clear hg
    have ltX : R < w1.heap.size := lt_of_block X.out
    have zX0 : w1.cell? ⟨R, 0, none⟩ = some (.int .i64 l.N) := by rw [cell_row X.out]; rfl
    have zX1 : w1.cell? ⟨R, 1, none⟩ = some (.slice l.A l.n l.cap) := by rw [cell_row X.out]; rfl
    have zX2 : w1.cell? ⟨R, 2, none⟩ = some (.slice l.LA l.ln l.lc) := by rw [cell_row X.out]; rfl
    have zX3 : w1.cell? ⟨R, 3, none⟩ = some (.slice l.RA l.rn l.rc) := by rw [cell_row X.out]; rfl
    go_wp2_with fail
    clear zX0 zX1 zX2 zX3 ltX
    refine (works14 w1).mono ?_
    rintro en w2 ⟨rfl, hb⟩
    replace B := Lib.hid (B.out.trans (hb.mono B.out.size))
    clear hb
    go_wp2_with fail
    go_ret
    exact ⟨rfl, B.out⟩
  have S := Lib.hid (LO.out.nls hg)
  clear hg
  by_cases h1 : 140 < dn
  · have d1 : (140 : Int) < (dn : Int) := by omega
    have ltX : R < w1.heap.size := lt_of_block X.out
    have zX0 : w1.cell? ⟨R, 0, none⟩ = some (.int .i64 l.N) := by rw [cell_row X.out]; rfl
    have zX1 : w1.cell? ⟨R, 1, none⟩ = some (.slice l.A l.n l.cap) := by rw [cell_row X.out]; rfl
    have zX2 : w1.cell? ⟨R, 2, none⟩ = some (.slice l.LA l.ln l.lc) := by rw [cell_row X.out]; rfl
    have zX3 : w1.cell? ⟨R, 3, none⟩ = some (.slice l.RA l.rn l.rc) := by rw [cell_row X.out]; rfl
    go_wp2_with fail
    clear zX0 zX1 zX2 zX3 ltX
    refine (works14 w1).mono ?_
    rintro en w2 ⟨rfl, hb⟩
    replace B := Lib.hid (B.out.trans (hb.mono B.out.size))
    clear hb
    go_wp2_with fail
    go_ret
    exact ⟨rfl, B.out⟩
  have d1 : ¬ (140 : Int) < (dn : Int) := by omega
  by_cases h2 : 50 < cn
  · have d2 : (50 : Int) < (cn : Int) := by omega
    have ltX : R < w1.heap.size := lt_of_block X.out
    have zX0 : w1.cell? ⟨R, 0, none⟩ = some (.int .i64 l.N) := by rw [cell_row X.out]; rfl
    have zX1 : w1.cell? ⟨R, 1, none⟩ = some (.slice l.A l.n l.cap) := by rw [cell_row X.out]; rfl
    have zX2 : w1.cell? ⟨R, 2, none⟩ = some (.slice l.LA l.ln l.lc) := by rw [cell_row X.out]; rfl
    have zX3 : w1.cell? ⟨R, 3, none⟩ = some (.slice l.RA l.rn l.rc) := by rw [cell_row X.out]; rfl
    go_wp2_with fail
    clear zX0 zX1 zX2 zX3 ltX
    refine (works14 w1).mono ?_
    rintro en w2 ⟨rfl, hb⟩
    replace B := Lib.hid (B.out.trans (hb.mono B.out.size))
    clear hb
    go_wp2_with fail
    go_ret
    exact ⟨rfl, B.out⟩
  have d2 : ¬ (50 : Int) < (cn : Int) := by omega
  have Hd6 := Lib.hid (show dn ≤ 1000000 by omega)
  have Hc6 := Lib.hid (show cn ≤ 1000000 by omega)
  have ltX : R < w1.heap.size := lt_of_block X.out
  have zX0 : w1.cell? ⟨R, 0, none⟩ = some (.int .i64 l.N) := by rw [cell_row X.out]; rfl
  have zX1 : w1.cell? ⟨R, 1, none⟩ = some (.slice l.A l.n l.cap) := by rw [cell_row X.out]; rfl
  have zX2 : w1.cell? ⟨R, 2, none⟩ = some (.slice l.LA l.ln l.lc) := by rw [cell_row X.out]; rfl
  have zX3 : w1.cell? ⟨R, 3, none⟩ = some (.slice l.RA l.rn l.rc) := by rw [cell_row X.out]; rfl
  go_wp2_with fail
  clear zX0 zX1 zX2 zX3 ltX
  clear h1 d1 h2 d2
  refine (chainA l DA dn dc ds w1 S.out SD.out Hdc.out Hd6.out).mono ?_
  rintro en w2 ⟨CP, np, cpp, ps, rfl, hcp, hp6, hI, hz, hk, hb⟩
  replace LO := Lib.hid (LO.out.below hb (Nat.le_refl _))
  replace SD := Lib.hid (SD.out.below hb (Nat.le_refl _))
  replace SC := Lib.hid (SC.out.below hb (Nat.le_refl _))
  replace S := Lib.hid (S.out.below hb (Nat.le_refl _))
  replace X := Lib.hid ((hb.block _ (lt_of_block X.out)).trans X.out)
  replace B := Lib.hid (B.out.trans (hb.mono B.out.size))
  obtain ⟨el, hel⟩ : ∃ v, chE l ds = v := ⟨_, rfl⟩
  rw [hel] at hz hk ⊢
  have HEL := Lib.hid hel
  have HP := Lib.hid hI
  have HZ := Lib.hid hz
  have HK := Lib.hid hk
  have HP6 := Lib.hid hp6
  clear hel hI hz hk hcp hp6
  try clear hb
  have ltX : R < w2.heap.size := lt_of_block X.out
  have zX0 : w2.cell? ⟨R, 0, none⟩ = some (.int .i64 l.N) := by rw [cell_row X.out]; rfl
  have zX1 : w2.cell? ⟨R, 1, none⟩ = some (.slice l.A l.n l.cap) := by rw [cell_row X.out]; rfl
  have zX2 : w2.cell? ⟨R, 2, none⟩ = some (.slice l.LA l.ln l.lc) := by rw [cell_row X.out]; rfl
  have zX3 : w2.cell? ⟨R, 3, none⟩ = some (.slice l.RA l.rn l.rc) := by rw [cell_row X.out]; rfl
  go_upto_region 4 with fail
  refine wp_region_held_drew (S := fun wS => Below w2.heap.size w2 wS) (by kernel_rfl) (drew_b _ _) (fun hS0 => ?_)
  refine wpAnyH_take (i := 0) (oi := { dst := some 28, op := Go.Op.load 25 (Go.Operand.tmp 3), type := 25, pos := "law.go:81", after := #[], guard := none }) (v := .agg #[.int .i64 l.N, .slice l.A l.n l.cap, .slice l.LA l.ln l.lc, .slice l.RA l.rn l.rc]) rfl (by kernel_rfl) (by kernel_rfl) (by kernel_rfl) (fun _ _ _ h => h) (Or.inl ⟨by rfl, by intro wS hSw; (try dsimp only at hSw); have yX0 := (hSw.cell (lt_of_cell zX0)).trans zX0; have yX1 := (hSw.cell (lt_of_cell zX1)).trans zX1; have yX2 := (hSw.cell (lt_of_cell zX2)).trans zX2; have yX3 := (hSw.cell (lt_of_cell zX3)).trans zX3;   go_simp⟩) hS0 ?_
  try simp only [Act.put, List.setIfInBounds_toArray, List.set_cons_zero, List.set_cons_succ]
  refine wpAnyH_take (i := 1) (oi := { dst := some 29, op := Go.Op.move (Go.Operand.tmp 1), type := 23, pos := "law.go:81", after := #[], guard := none }) (v := .slice DA dn dc) rfl (by kernel_rfl) (by kernel_rfl) (by kernel_rfl) (fun _ _ _ h => h) (Or.inl ⟨by rfl, by intro wS hSw; (try dsimp only at hSw); have yX0 := (hSw.cell (lt_of_cell zX0)).trans zX0; have yX1 := (hSw.cell (lt_of_cell zX1)).trans zX1; have yX2 := (hSw.cell (lt_of_cell zX2)).trans zX2; have yX3 := (hSw.cell (lt_of_cell zX3)).trans zX3;   go_simp⟩) hS0 ?_
  try simp only [Act.put, List.setIfInBounds_toArray, List.set_cons_zero, List.set_cons_succ]
  refine wpAnyH_take (i := 2) (oi := { dst := some 30, op := Go.Op.move (Go.Operand.tmp 2), type := 23, pos := "law.go:81", after := #[], guard := none }) (v := .slice CA cn cc) rfl (by kernel_rfl) (by kernel_rfl) (by kernel_rfl) (fun _ _ _ h => h) (Or.inl ⟨by rfl, by intro wS hSw; (try dsimp only at hSw); have yX0 := (hSw.cell (lt_of_cell zX0)).trans zX0; have yX1 := (hSw.cell (lt_of_cell zX1)).trans zX1; have yX2 := (hSw.cell (lt_of_cell zX2)).trans zX2; have yX3 := (hSw.cell (lt_of_cell zX3)).trans zX3;   go_simp⟩) hS0 ?_
  try simp only [Act.put, List.setIfInBounds_toArray, List.set_cons_zero, List.set_cons_succ]
  refine wpAnyH_take (i := 4) (oi := { dst := some 32, op := Go.Op.load 25 (Go.Operand.tmp 3), type := 25, pos := "law.go:81", after := #[], guard := none }) (v := .agg #[.int .i64 l.N, .slice l.A l.n l.cap, .slice l.LA l.ln l.lc, .slice l.RA l.rn l.rc]) rfl (by kernel_rfl) (by kernel_rfl) (by kernel_rfl) (fun _ _ _ h => h) (Or.inl ⟨by rfl, by intro wS hSw; (try dsimp only at hSw); have yX0 := (hSw.cell (lt_of_cell zX0)).trans zX0; have yX1 := (hSw.cell (lt_of_cell zX1)).trans zX1; have yX2 := (hSw.cell (lt_of_cell zX2)).trans zX2; have yX3 := (hSw.cell (lt_of_cell zX3)).trans zX3;   go_simp⟩) hS0 ?_
  try simp only [Act.put, List.setIfInBounds_toArray, List.set_cons_zero, List.set_cons_succ]
  refine wpAnyH_take (i := 5) (oi := { dst := some 33, op := Go.Op.move (Go.Operand.tmp 1), type := 23, pos := "law.go:81", after := #[], guard := none }) (v := .slice DA dn dc) rfl (by kernel_rfl) (by kernel_rfl) (by kernel_rfl) (fun _ _ _ h => h) (Or.inl ⟨by rfl, by intro wS hSw; (try dsimp only at hSw); have yX0 := (hSw.cell (lt_of_cell zX0)).trans zX0; have yX1 := (hSw.cell (lt_of_cell zX1)).trans zX1; have yX2 := (hSw.cell (lt_of_cell zX2)).trans zX2; have yX3 := (hSw.cell (lt_of_cell zX3)).trans zX3;   go_simp⟩) hS0 ?_
  try simp only [Act.put, List.setIfInBounds_toArray, List.set_cons_zero, List.set_cons_succ]
  refine wpAnyH_take (i := 6) (oi := { dst := some 34, op := Go.Op.move (Go.Operand.tmp 2), type := 23, pos := "law.go:81", after := #[], guard := none }) (v := .slice CA cn cc) rfl (by kernel_rfl) (by kernel_rfl) (by kernel_rfl) (fun _ _ _ h => h) (Or.inl ⟨by rfl, by intro wS hSw; (try dsimp only at hSw); have yX0 := (hSw.cell (lt_of_cell zX0)).trans zX0; have yX1 := (hSw.cell (lt_of_cell zX1)).trans zX1; have yX2 := (hSw.cell (lt_of_cell zX2)).trans zX2; have yX3 := (hSw.cell (lt_of_cell zX3)).trans zX3;   go_simp⟩) hS0 ?_
  try simp only [Act.put, List.setIfInBounds_toArray, List.set_cons_zero, List.set_cons_succ]
  refine wpAnyH_ready (rs := [3]) (by kernel_rfl) (by simp) ?_
  refine AllReadyH.cons (o := { dst := some 31, op := Go.Op.call { callee := Go.Callee.value (Go.Operand.func 21), args := #[Go.Operand.tmp 28, Go.Operand.tmp 29, Go.Operand.tmp 30], argTypes := #[25, 23, 23] }, type := 29, pos := "law.go:81", after := #[{ on := 0, ground := Go.Ground.data }, { on := 1, ground := Go.Ground.data }, { on := 2, ground := Go.Ground.data }], guard := none }) rfl (fun K2 hK => ?_) AllReadyH.nil
  go_simp
  refine (checkChain21 l DA dn dc ds CA cn cc ch _ (S.out.below hS0 (Nat.le_refl _)) (SD.out.below hS0 (Nat.le_refl _)) Hdc.out Hd6.out (SC.out.below hS0 (Nat.le_refl _)) Hcc.out Hc6.out).mono ?_
  rintro e9 w2v1 ⟨rfl, hb9⟩
  obtain ⟨a, ha⟩ : ∃ v, chkC l ds ch cn = v := ⟨_, rfl⟩
  rw [ha]
  have HA := Lib.hid ha
  clear ha
  (try go_simp)
  refine hK.out _ _ (hS0.trans (hb9.mono hS0.size)) (fun hS1 => ?_)
  clear hK K2 hb9
  try simp only [Act.put, List.setIfInBounds_toArray, List.set_cons_zero, List.set_cons_succ]
  refine wpAnyH_ready (rs := [7]) (by kernel_rfl) (by simp) ?_
  refine AllReadyH.cons (o := { dst := some 35, op := Go.Op.call { callee := Go.Callee.value (Go.Operand.func 22), args := #[Go.Operand.tmp 32, Go.Operand.tmp 33, Go.Operand.tmp 34], argTypes := #[25, 23, 23] }, type := 29, pos := "law.go:81", after := #[{ on := 4, ground := Go.Ground.data }, { on := 5, ground := Go.Ground.data }, { on := 6, ground := Go.Ground.data }, { on := 3, ground := Go.Ground.chain }], guard := none }) rfl (fun K2 hK => ?_) AllReadyH.nil
  go_simp
  refine (refCheckChain22 l DA dn dc ds CA cn cc ch w2v1 (S.out.below hS1 (Nat.le_refl _)) (SD.out.below hS1 (Nat.le_refl _)) Hd6.out (SC.out.below hS1 (Nat.le_refl _)) Hc6.out).mono ?_
  rintro e9 w2v2 ⟨rfl, hb9⟩
  rw [HA.out]
  (try go_simp)
  refine hK.out _ _ (hS1.trans (hb9.mono hS1.size)) (fun hS2 => ?_)
  clear hK K2 hb9
  try simp only [Act.put, List.setIfInBounds_toArray, List.set_cons_zero, List.set_cons_succ]
  refine wpAnyH_take (i := 8) (oi := { dst := some 36, op := Go.Op.binOp Go.BinOp.neq 29 (Go.Operand.tmp 31) (Go.Operand.tmp 35) 29, type := 4, pos := "law.go:81", after := #[{ on := 3, ground := Go.Ground.data }, { on := 7, ground := Go.Ground.data }], guard := none }) (v := .bool false) rfl (by kernel_rfl) (by kernel_rfl) (by kernel_rfl) (fun _ _ _ h => h) (Or.inl ⟨by rfl, by intro wS hSw; (try dsimp only at hSw); have yX0 := (hSw.cell (lt_of_cell zX0)).trans zX0; have yX1 := (hSw.cell (lt_of_cell zX1)).trans zX1; have yX2 := (hSw.cell (lt_of_cell zX2)).trans zX2; have yX3 := (hSw.cell (lt_of_cell zX3)).trans zX3;   go_simp⟩) hS2 ?_
  try simp only [Act.put, List.setIfInBounds_toArray, List.set_cons_zero, List.set_cons_succ]
  refine wpAnyH_take (i := 9) (oi := { dst := some 37, op := Go.Op.move (Go.Operand.tmp 36), type := 4, pos := "law.go:81", after := #[{ on := 8, ground := Go.Ground.data }, { on := 7, ground := Go.Ground.chain }], guard := none }) (v := .bool false) rfl (by kernel_rfl) (by kernel_rfl) (by kernel_rfl) (fun _ _ _ h => h) (Or.inl ⟨by rfl, by intro wS hSw; (try dsimp only at hSw); have yX0 := (hSw.cell (lt_of_cell zX0)).trans zX0; have yX1 := (hSw.cell (lt_of_cell zX1)).trans zX1; have yX2 := (hSw.cell (lt_of_cell zX2)).trans zX2; have yX3 := (hSw.cell (lt_of_cell zX3)).trans zX3;   go_simp⟩) hS2 ?_
  try simp only [Act.put, List.setIfInBounds_toArray, List.set_cons_zero, List.set_cons_succ]
  refine wpAnyH_take (i := 10) (oi := { dst := some 38, op := Go.Op.move (Go.Operand.tmp 8), type := 29, pos := "law.go:81", after := #[{ on := 9, ground := Go.Ground.guard }], guard := some (9, false) }) (v := .int .i64 el) rfl (by kernel_rfl) (by kernel_rfl) (by kernel_rfl) (fun _ _ _ h => h) (Or.inl ⟨by rfl, by intro wS hSw; (try dsimp only at hSw); have yX0 := (hSw.cell (lt_of_cell zX0)).trans zX0; have yX1 := (hSw.cell (lt_of_cell zX1)).trans zX1; have yX2 := (hSw.cell (lt_of_cell zX2)).trans zX2; have yX3 := (hSw.cell (lt_of_cell zX3)).trans zX3;   go_simp⟩) hS2 ?_
  try simp only [Act.put, List.setIfInBounds_toArray, List.set_cons_zero, List.set_cons_succ]
  refine wpAnyH_take (i := 11) (oi := { dst := some 39, op := Go.Op.load 25 (Go.Operand.tmp 3), type := 25, pos := "law.go:81", after := #[{ on := 9, ground := Go.Ground.guard }], guard := some (9, false) }) (v := .agg #[.int .i64 l.N, .slice l.A l.n l.cap, .slice l.LA l.ln l.lc, .slice l.RA l.rn l.rc]) rfl (by kernel_rfl) (by kernel_rfl) (by kernel_rfl) (fun _ _ _ h => h) (Or.inl ⟨by rfl, by intro wS hSw; (try dsimp only at hSw); have yX0 := (hSw.cell (lt_of_cell zX0)).trans zX0; have yX1 := (hSw.cell (lt_of_cell zX1)).trans zX1; have yX2 := (hSw.cell (lt_of_cell zX2)).trans zX2; have yX3 := (hSw.cell (lt_of_cell zX3)).trans zX3;   go_simp⟩) hS2 ?_
  try simp only [Act.put, List.setIfInBounds_toArray, List.set_cons_zero, List.set_cons_succ]
  refine wpAnyH_take (i := 12) (oi := { dst := some 40, op := Go.Op.move (Go.Operand.tmp 1), type := 23, pos := "law.go:81", after := #[{ on := 9, ground := Go.Ground.guard }], guard := some (9, false) }) (v := .slice DA dn dc) rfl (by kernel_rfl) (by kernel_rfl) (by kernel_rfl) (fun _ _ _ h => h) (Or.inl ⟨by rfl, by intro wS hSw; (try dsimp only at hSw); have yX0 := (hSw.cell (lt_of_cell zX0)).trans zX0; have yX1 := (hSw.cell (lt_of_cell zX1)).trans zX1; have yX2 := (hSw.cell (lt_of_cell zX2)).trans zX2; have yX3 := (hSw.cell (lt_of_cell zX3)).trans zX3;   go_simp⟩) hS2 ?_
  try simp only [Act.put, List.setIfInBounds_toArray, List.set_cons_zero, List.set_cons_succ]
  refine wpAnyH_ready (rs := [13]) (by kernel_rfl) (by simp) ?_
  refine AllReadyH.cons (o := { dst := some 41, op := Go.Op.call { callee := Go.Callee.value (Go.Operand.func 23), args := #[Go.Operand.tmp 39, Go.Operand.tmp 40], argTypes := #[25, 23] }, type := 29, pos := "law.go:81", after := #[{ on := 11, ground := Go.Ground.data }, { on := 12, ground := Go.Ground.data }, { on := 9, ground := Go.Ground.chain }, { on := 9, ground := Go.Ground.guard }], guard := some (9, false) }) rfl (fun K2 hK => ?_) AllReadyH.nil
  go_simp
  refine (chainError23 l DA dn dc ds w2v2 (S.out.below hS2 (Nat.le_refl _)) (SD.out.below hS2 (Nat.le_refl _)) Hd6.out).mono ?_
  rintro e9 w2v3 ⟨rfl, hb9⟩
  rw [HEL.out]
  (try go_simp)
  refine hK.out _ _ (hS2.trans (hb9.mono hS2.size)) (fun hS3 => ?_)
  clear hK K2 hb9
  try simp only [Act.put, List.setIfInBounds_toArray, List.set_cons_zero, List.set_cons_succ]
  refine wpAnyH_take (i := 14) (oi := { dst := some 42, op := Go.Op.binOp Go.BinOp.neq 29 (Go.Operand.tmp 38) (Go.Operand.tmp 41) 29, type := 4, pos := "law.go:81", after := #[{ on := 10, ground := Go.Ground.data }, { on := 13, ground := Go.Ground.data }, { on := 9, ground := Go.Ground.guard }], guard := some (9, false) }) (v := .bool false) rfl (by kernel_rfl) (by kernel_rfl) (by kernel_rfl) (fun _ _ _ h => h) (Or.inl ⟨by rfl, by intro wS hSw; (try dsimp only at hSw); have yX0 := (hSw.cell (lt_of_cell zX0)).trans zX0; have yX1 := (hSw.cell (lt_of_cell zX1)).trans zX1; have yX2 := (hSw.cell (lt_of_cell zX2)).trans zX2; have yX3 := (hSw.cell (lt_of_cell zX3)).trans zX3;   go_simp⟩) hS3 ?_
  try simp only [Act.put, List.setIfInBounds_toArray, List.set_cons_zero, List.set_cons_succ]
  refine wpAnyH_take (i := 15) (oi := { dst := some 43, op := Go.Op.pick (Go.Operand.tmp 37) (Go.Operand.const (Go.Value.bool true)) (Go.Operand.tmp 42), type := 4, pos := "law.go:81", after := #[{ on := 9, ground := Go.Ground.data }, { on := 14, ground := Go.Ground.data }], guard := none }) (v := .bool false) rfl (by kernel_rfl) (by kernel_rfl) (by kernel_rfl) (fun _ _ _ h => h) (Or.inl ⟨by rfl, by intro wS hSw; (try dsimp only at hSw); have yX0 := (hSw.cell (lt_of_cell zX0)).trans zX0; have yX1 := (hSw.cell (lt_of_cell zX1)).trans zX1; have yX2 := (hSw.cell (lt_of_cell zX2)).trans zX2; have yX3 := (hSw.cell (lt_of_cell zX3)).trans zX3;   go_simp⟩) hS3 ?_
  try simp only [Act.put, List.setIfInBounds_toArray, List.set_cons_zero, List.set_cons_succ]
  refine wpAnyH_done (by kernel_rfl) ?_ _
  clear zX0 zX1 zX2 zX3 ltX
  have hb := hS3
  clear hS0 hS1 hS2 hS3
  replace LO := Lib.hid (LO.out.below hb (Nat.le_refl _))
  replace SD := Lib.hid (SD.out.below hb (Nat.le_refl _))
  replace SC := Lib.hid (SC.out.below hb (Nat.le_refl _))
  replace S := Lib.hid (S.out.below hb (Nat.le_refl _))
  replace HP := Lib.hid (HP.out.below hb (Nat.le_refl _))
  replace X := Lib.hid ((hb.block _ (lt_of_block X.out)).trans X.out)
  replace B := Lib.hid (B.out.trans (hb.mono B.out.size))
  clear hb
  by_cases h0 : el = 0
  rotate_left
  · have d0 : (el != 0) = true := by rw [bne_iff_ne]; exact h0
    obtain rfl := HZ.out h0
    clear h0
    have ltX : R < w2v3.heap.size := lt_of_block X.out
    have zX0 : w2v3.cell? ⟨R, 0, none⟩ = some (.int .i64 l.N) := by rw [cell_row X.out]; rfl
    have zX1 : w2v3.cell? ⟨R, 1, none⟩ = some (.slice l.A l.n l.cap) := by rw [cell_row X.out]; rfl
    have zX2 : w2v3.cell? ⟨R, 2, none⟩ = some (.slice l.LA l.ln l.lc) := by rw [cell_row X.out]; rfl
    have zX3 : w2v3.cell? ⟨R, 3, none⟩ = some (.slice l.RA l.rn l.rc) := by rw [cell_row X.out]; rfl
    go_wp2_with fail
    clear zX0 zX1 zX2 zX3 ltX
    refine (works14 w2v3).mono ?_
    rintro en w2v4 ⟨rfl, hb⟩
    replace B := Lib.hid (B.out.trans (hb.mono B.out.size))
    clear hb
    go_wp2_with fail
    go_ret
    exact ⟨rfl, B.out⟩
  subst h0
  have HL0 := Lib.hid (HK.out rfl).1
  have HC0 := Lib.hid (HK.out rfl).2
  have ltX : R < w2v3.heap.size := lt_of_block X.out
  have zX0 : w2v3.cell? ⟨R, 0, none⟩ = some (.int .i64 l.N) := by rw [cell_row X.out]; rfl
  have zX1 : w2v3.cell? ⟨R, 1, none⟩ = some (.slice l.A l.n l.cap) := by rw [cell_row X.out]; rfl
  have zX2 : w2v3.cell? ⟨R, 2, none⟩ = some (.slice l.LA l.ln l.lc) := by rw [cell_row X.out]; rfl
  have zX3 : w2v3.cell? ⟨R, 3, none⟩ = some (.slice l.RA l.rn l.rc) := by rw [cell_row X.out]; rfl
  go_wp2_with fail
  clear zX0 zX1 zX2 zX3 ltX
  refine (refCheckChain22 l DA dn dc ds CP np cpp ps w2v3 S.out SD.out Hd6.out HP.out HP6.out).mono ?_
  rintro en w2v4 ⟨rfl, hb⟩
  replace LO := Lib.hid (LO.out.below hb (Nat.le_refl _))
  replace SD := Lib.hid (SD.out.below hb (Nat.le_refl _))
  replace SC := Lib.hid (SC.out.below hb (Nat.le_refl _))
  replace S := Lib.hid (S.out.below hb (Nat.le_refl _))
  replace HP := Lib.hid (HP.out.below hb (Nat.le_refl _))
  replace X := Lib.hid ((hb.block _ (lt_of_block X.out)).trans X.out)
  replace B := Lib.hid (B.out.trans (hb.mono B.out.size))
  rw [HC0.out]
  try clear hb
  have ltX : R < w2v4.heap.size := lt_of_block X.out
  have zX0 : w2v4.cell? ⟨R, 0, none⟩ = some (.int .i64 l.N) := by rw [cell_row X.out]; rfl
  have zX1 : w2v4.cell? ⟨R, 1, none⟩ = some (.slice l.A l.n l.cap) := by rw [cell_row X.out]; rfl
  have zX2 : w2v4.cell? ⟨R, 2, none⟩ = some (.slice l.LA l.ln l.lc) := by rw [cell_row X.out]; rfl
  have zX3 : w2v4.cell? ⟨R, 3, none⟩ = some (.slice l.RA l.rn l.rc) := by rw [cell_row X.out]; rfl
  go_wp2_with fail
  clear zX0 zX1 zX2 zX3 ltX
  refine (works14 w2v4).mono ?_
  rintro en w2v5 ⟨rfl, hb⟩
  replace B := Lib.hid (B.out.trans (hb.mono B.out.size))
  clear hb
  go_wp2_with fail
  go_ret
  exact ⟨rfl, B.out⟩
end
end Go.Proofs.Ytigohccehllmnaa
