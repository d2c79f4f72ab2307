/- Stage 6: the laws' helpers; a drop that is asked for. -/
import Derived.Test.YtigohccehllmnaaLj
import Derived.BigQuiet
import Derived.Deep.QuietTactic
namespace Go.Proofs.Ytigohccehllmnaa
set_option linter.unusedSimpArgs false
set_option linter.unusedVariables false
open Go.RowKit Go.Shelf
section
attribute [local go_sem ↓] exec_app at_app
attribute [local go_sem] Oper.semAt_some
def eqB (a b : List Int) (k : Nat) : Bool := (List.range k).all fun i => decide (iAt a i = iAt b i)
theorem eqB_succ (a b : List Int) (k : Nat) : eqB a b (k + 1) = (eqB a b k && decide (iAt a k = iAt b k)) := by simp [eqB, List.range_succ]
theorem eqB_iff {a b : List Int} {n : Nat} (hp : a.length = n) (hq : b.length = n) : eqB a b n = true ↔ a = b := by
  unfold eqB
  rw [List.all_eq_true]
  constructor
  · intro h
    apply List.ext_getElem (by omega)
    intro i h1 h2
    have := h i (List.mem_range.2 (by omega))
    rw [decide_eq_true_iff, iAt_eq h1, iAt_eq h2] at this
    exact this
  · rintro rfl i _
    simp
set_option maxRecDepth 100000 in
set_option maxHeartbeats 8000000 in
theorem ints28 (A : Option Addr) (n c : Nat) (a : List Int) (A2 : Option Addr) (n2 c2 : Nat) (b : List Int) (w : World) (h : Ints w A n a) (h2 : Ints w A2 n2 b) (hn8 : n ≤ 10000) :
    Calls Try.prog 28 #[.slice A n c, .slice A2 n2 c2] w fun e w' => e = .returned (.bool (decide (a = b))) ∧ Below w.heap.size w w' := by
  have HA := Lib.hid h
  have HB := Lib.hid h2
  clear h h2
  by_cases hnn : n = n2
  rotate_left
  · have d0 : ((n : Int) != (n2 : Int)) = true := by rw [bne_iff_ne]; omega
    have HF := Lib.hid (show decide (a = b) = false from decide_eq_false (fun e => hnn (by rw [← HA.out.1, ← HB.out.1, e])))
    clear hnn
    go_enter Try.func28, Try.ntmps28
    go_wp2_with fail
    go_ret
    exact ⟨by rw [HF.out] <;> rfl, Below.refl _ _⟩
  subst hnn
  have Heq := Lib.hid (eqB_iff HA.out.1 HB.out.1)
  go_enter Try.func28, Try.ntmps28
  go_wp2_with fail
  go_loopw [5] (fun i wr => ∃ k : Nat, k ≤ n ∧ i = .int .i64 (k : Int) ∧ Hid (eqB a b k = true) ∧ Below w.heap.size w wr) (fun i _ => n - (intOf i).toNat)
  case atStart => exact ⟨0, Nat.zero_le _, rfl, Lib.hid rfl, Below.refl _ _⟩
  case round =>
    obtain ⟨k, hk, rfl, HT, hb⟩ := hrel
    by_cases hlt : k < n
    · obtain ⟨ab, ao, rfl, ac⟩ := HA.out.2 (by omega)
      obtain ⟨bb, bo, rfl, bc⟩ := HB.out.2 (by omega)
      have x0 := (hb.cell (p := ⟨ab, ao + k, none⟩) (lt_of_cell (ac k hlt))).trans (ac k hlt)
      have y0 := (hb.cell (p := ⟨bb, bo + k, none⟩) (lt_of_cell (bc k hlt))).trans (bc k hlt)
      have Hs := Lib.hid (eqB_succ a b k)
      rw [HT.out, Bool.true_and] at Hs
      obtain ⟨x, hx⟩ : ∃ x, iAt a k = x := ⟨_, rfl⟩
      obtain ⟨y, hy⟩ : ∃ y, iAt b k = y := ⟨_, rfl⟩
      have Hf := Lib.hid (show x ≠ y → a ≠ b from fun e e2 => e (by rw [← hx, ← hy, e2]))
      rw [hx] at x0 Hs
      rw [hy] at y0 Hs
      have HB0 := Lib.hid hb
      have i0 : (0 : Int) ≤ (k : Int) := by omega
      have i1 : (k : Int) < (n : Int) := by omega
      clear ac bc hx hy hb HT
      by_cases hxy : x = y
      · rw [decide_eq_true hxy] at Hs
        subst hxy
        clear Hf
        go_wp2_with fail
        go_quiet (fail)
        have HN := Lib.hid (HB0.out.trans ((drew_b wr nq).mono HB0.out.size))
        go_wp2_with fail
        go_roundw
        case rel => exact ⟨k + 1, by omega, by go_num, Lib.hid Hs.out, HN.out⟩
        case measure => simp [intOf]; omega
      · have HF := Lib.hid (show decide (a = b) = false from decide_eq_false (Hf.out hxy))
        have d1 : (x != y) = true := by rw [bne_iff_ne]; exact hxy
        clear Hf Hs
        go_wp2_with fail
        go_quiet (fail)
        have HN := Lib.hid (HB0.out.trans ((drew_b wr nq).mono HB0.out.size))
        go_wp2_with fail
        go_ret
        exact ⟨by rw [HF.out] <;> rfl, HN.out⟩
    · obtain rfl : k = n := by omega
      have HB0 := Lib.hid hb
      clear hb
      go_wp2_with fail
      go_ret
      exact ⟨by rw [decide_eq_true (Heq.out.1 HT.out)] <;> rfl, HB0.out⟩
/-- All the same lists. -/
def eqL (a b : List (List Int)) (k : Nat) : Bool := (List.range k).all fun i => decide (a.getD i [] = b.getD i [])
theorem eqL_succ (a b : List (List Int)) (k : Nat) : eqL a b (k + 1) = (eqL a b k && decide (a.getD k [] = b.getD k [])) := by simp [eqL, List.range_succ]
theorem eqL_iff {a b : List (List Int)} {n : Nat} (hp : a.length = n) (hq : b.length = n) : eqL a b n = true ↔ a = b := by
  unfold eqL
  rw [List.all_eq_true]
  constructor
  · intro h
    apply List.ext_getElem (by omega)
    intro i h1 h2
    have := h i (List.mem_range.2 (by omega))
    rw [decide_eq_true_iff, getD_eq h1, getD_eq h2] at this
    exact this
  · rintro rfl i _
    simp
set_option maxRecDepth 100000 in
set_option maxHeartbeats 16000000 in
theorem lists19 (A : Option Addr) (n c : Nat) (a : List (List Int)) (A2 : Option Addr) (n2 c2 : Nat) (b : List (List Int)) (w : World) (h : Rows w A n a) (h2 : Rows w A2 n2 b) (hn8 : n ≤ 10000) (hm : ∀ x ∈ a, x.length ≤ 10000) :
    Calls Try.prog 19 #[.slice A n c, .slice A2 n2 c2] w fun e w' => e = .returned (.bool (decide (a = b))) ∧ Below w.heap.size w w' := by
  have HA := Lib.hid h
  have HB := Lib.hid h2
  have Hm := Lib.hid hm
  clear h h2 hm
  by_cases hnn : n = n2
  rotate_left
  · have d0 : ((n : Int) != (n2 : Int)) = true := by rw [bne_iff_ne]; omega
    have HF := Lib.hid (show decide (a = b) = false from decide_eq_false (fun e => hnn (by rw [← HA.out.1, ← HB.out.1, e])))
    clear hnn
    go_enter Try.func19, Try.ntmps19
    go_wp2_with fail
    go_ret
    exact ⟨by rw [HF.out] <;> rfl, Below.refl _ _⟩
  subst hnn
  have Heq := Lib.hid (eqL_iff HA.out.1 HB.out.1)
  go_enter Try.func19, Try.ntmps19
  go_wp2_with fail
  go_loopw [5] (fun i wr => ∃ k : Nat, k ≤ n ∧ i = .int .i64 (k : Int) ∧ Hid (eqL a b k = true) ∧ Hid (Below w.heap.size w wr)) (fun i _ => n - (intOf i).toNat)
  case atStart => exact ⟨0, Nat.zero_le _, rfl, Lib.hid rfl, Lib.hid (Below.refl _ _)⟩
  case round =>
    obtain ⟨k, hk, rfl, HT, Hb⟩ := hrel
    obtain ⟨wk, rfl⟩ : ∃ wk, wk = wr := ⟨_, rfl⟩
    by_cases hlt : k < n
    · obtain ⟨ab, ao, rfl, ac⟩ := (HA.out.below Hb.out (Nat.le_refl _)).2 (by omega)
      obtain ⟨bb, bo, rfl, bc⟩ := (HB.out.below Hb.out (Nat.le_refl _)).2 (by omega)
      obtain ⟨C1, m1, e1, x0, x1, x2, x3⟩ := ac k hlt
      obtain ⟨C2, m2, e2, y0, y1, y2, y3⟩ := bc k hlt
      have Hs := Lib.hid (eqL_succ a b k)
      rw [HT.out, Bool.true_and] at Hs
      have hlm := Hm.out (a.getD k []) (by rw [getD_eq (by rw [HA.out.1]; exact hlt)]; exact List.getElem_mem _)
      have X1 := Lib.hid x1
      have Y1 := Lib.hid y1
      have Hl := Lib.hid (show m1 ≤ 10000 by rw [← x1.1]; exact hlm)
      have i0 : (0 : Int) ≤ (k : Int) := by omega
      have i1 : (k : Int) < (n : Int) := by omega
      obtain ⟨jq, hjq⟩ : ∃ v, decide (a.getD k [] = b.getD k []) = v := ⟨_, rfl⟩
      rw [hjq] at Hs
      have Hf := Lib.hid (show jq = false → decide (a = b) = false from fun e => decide_eq_false (fun e2 => by rw [← hjq, e2] at e; simp at e))
      have HJ := Lib.hid hjq
      have q0 := lt_of_cell x0
      have q1 := lt_of_cell y0
      clear ac bc hlm x1 y1 x2 y2 x3 y3 hjq
      go_wp2_with fail
      refine wp_region_held_drew (S := fun w2 => Below wk.heap.size wk w2) (by kernel_rfl) (drew_b _ _) (fun hS0 => ?_)
      refine wpAnyH_take (i := 0) (oi := { dst := some 17, op := Go.Op.move (Go.Operand.tmp 0), type := 28, pos := "law.go:53", after := #[], guard := none }) (v := .slice (some ⟨ab, ao, none⟩) n c) rfl (by kernel_rfl) (by kernel_rfl) (by kernel_rfl) (fun _ _ _ h => h) (Or.inl ⟨by rfl, by intro w2 hSw; (try dsimp only at hSw);  have yx0 := (hSw.cell (lt_of_cell x0)).trans x0; have yy0 := (hSw.cell (lt_of_cell y0)).trans y0;  go_simp⟩) hS0 ?_
      try simp only [Act.put, List.setIfInBounds_toArray, List.set_cons_zero, List.set_cons_succ]
      refine wpAnyH_take (i := 1) (oi := { dst := some 18, op := Go.Op.move (Go.Operand.tmp 5), type := 3, pos := "law.go:53", after := #[], guard := none }) (v := .int .i64 (k : Int)) rfl (by kernel_rfl) (by kernel_rfl) (by kernel_rfl) (fun _ _ _ h => h) (Or.inl ⟨by rfl, by intro w2 hSw; (try dsimp only at hSw);  have yx0 := (hSw.cell (lt_of_cell x0)).trans x0; have yy0 := (hSw.cell (lt_of_cell y0)).trans y0;  go_simp⟩) hS0 ?_
      try simp only [Act.put, List.setIfInBounds_toArray, List.set_cons_zero, List.set_cons_succ]
      refine wpAnyH_take (i := 2) (oi := { dst := some 19, op := Go.Op.indexAddr 28 (Go.Operand.tmp 17) (Go.Operand.tmp 18), type := 0, pos := "law.go:53", after := #[{ on := 0, ground := Go.Ground.data }, { on := 1, ground := Go.Ground.data }], guard := none }) (v := .pointer (some ⟨ab, ao + k, none⟩)) rfl (by kernel_rfl) (by kernel_rfl) (by kernel_rfl) (fun _ _ _ h => h) (Or.inl ⟨by rfl, by intro w2 hSw; (try dsimp only at hSw);  have yx0 := (hSw.cell (lt_of_cell x0)).trans x0; have yy0 := (hSw.cell (lt_of_cell y0)).trans y0;  go_simp⟩) hS0 ?_
      try simp only [Act.put, List.setIfInBounds_toArray, List.set_cons_zero, List.set_cons_succ]
      refine wpAnyH_take (i := 3) (oi := { dst := some 20, op := Go.Op.load 23 (Go.Operand.tmp 19), type := 23, pos := "law.go:53", after := #[{ on := 2, ground := Go.Ground.data }], guard := none }) (v := .slice C1 m1 e1) rfl (by kernel_rfl) (by kernel_rfl) (by kernel_rfl) (fun _ _ _ h => h) (Or.inl ⟨by rfl, by intro w2 hSw; (try dsimp only at hSw);  have yx0 := (hSw.cell (lt_of_cell x0)).trans x0; have yy0 := (hSw.cell (lt_of_cell y0)).trans y0;  go_simp⟩) hS0 ?_
      try simp only [Act.put, List.setIfInBounds_toArray, List.set_cons_zero, List.set_cons_succ]
      refine wpAnyH_take (i := 4) (oi := { dst := some 21, op := Go.Op.move (Go.Operand.tmp 1), type := 28, pos := "law.go:53", after := #[], guard := none }) (v := .slice (some ⟨bb, bo, none⟩) n c2) rfl (by kernel_rfl) (by kernel_rfl) (by kernel_rfl) (fun _ _ _ h => h) (Or.inl ⟨by rfl, by intro w2 hSw; (try dsimp only at hSw);  have yx0 := (hSw.cell (lt_of_cell x0)).trans x0; have yy0 := (hSw.cell (lt_of_cell y0)).trans y0;  go_simp⟩) hS0 ?_
      try simp only [Act.put, List.setIfInBounds_toArray, List.set_cons_zero, List.set_cons_succ]
      refine wpAnyH_take (i := 5) (oi := { dst := some 22, op := Go.Op.move (Go.Operand.tmp 5), type := 3, pos := "law.go:53", after := #[], guard := none }) (v := .int .i64 (k : Int)) rfl (by kernel_rfl) (by kernel_rfl) (by kernel_rfl) (fun _ _ _ h => h) (Or.inl ⟨by rfl, by intro w2 hSw; (try dsimp only at hSw);  have yx0 := (hSw.cell (lt_of_cell x0)).trans x0; have yy0 := (hSw.cell (lt_of_cell y0)).trans y0;  go_simp⟩) hS0 ?_
      try simp only [Act.put, List.setIfInBounds_toArray, List.set_cons_zero, List.set_cons_succ]
      refine wpAnyH_take (i := 6) (oi := { dst := some 23, op := Go.Op.indexAddr 28 (Go.Operand.tmp 21) (Go.Operand.tmp 22), type := 0, pos := "law.go:53", after := #[{ on := 4, ground := Go.Ground.data }, { on := 5, ground := Go.Ground.data }], guard := none }) (v := .pointer (some ⟨bb, bo + k, none⟩)) rfl (by kernel_rfl) (by kernel_rfl) (by kernel_rfl) (fun _ _ _ h => h) (Or.inl ⟨by rfl, by intro w2 hSw; (try dsimp only at hSw);  have yx0 := (hSw.cell (lt_of_cell x0)).trans x0; have yy0 := (hSw.cell (lt_of_cell y0)).trans y0;  go_simp⟩) hS0 ?_
      try simp only [Act.put, List.setIfInBounds_toArray, List.set_cons_zero, List.set_cons_succ]
      refine wpAnyH_take (i := 7) (oi := { dst := some 24, op := Go.Op.load 23 (Go.Operand.tmp 23), type := 23, pos := "law.go:53", after := #[{ on := 6, ground := Go.Ground.data }], guard := none }) (v := .slice C2 m2 e2) rfl (by kernel_rfl) (by kernel_rfl) (by kernel_rfl) (fun _ _ _ h => h) (Or.inl ⟨by rfl, by intro w2 hSw; (try dsimp only at hSw);  have yx0 := (hSw.cell (lt_of_cell x0)).trans x0; have yy0 := (hSw.cell (lt_of_cell y0)).trans y0;  go_simp⟩) hS0 ?_
      try simp only [Act.put, List.setIfInBounds_toArray, List.set_cons_zero, List.set_cons_succ]
      refine wpAnyH_ready (rs := [8]) (by kernel_rfl) (by simp) ?_
      refine AllReadyH.cons (o := { dst := some 25, op := Go.Op.call { callee := Go.Callee.value (Go.Operand.func 28), args := #[Go.Operand.tmp 20, Go.Operand.tmp 24], argTypes := #[23, 23] }, type := 4, pos := "law.go:53", after := #[{ on := 3, ground := Go.Ground.data }, { on := 7, ground := Go.Ground.data }], guard := none }) rfl (fun K2 hK => ?_) AllReadyH.nil
      go_simp
      refine (ints28 C1 m1 e1 (a.getD k []) C2 m2 e2 (b.getD k []) _ (X1.out.below hS0 (Nat.le_refl _)) (Y1.out.below hS0 (Nat.le_refl _)) Hl.out).mono ?_
      rintro e9 wkv1 ⟨rfl, hb9⟩
      rw [HJ.out]
      (try go_simp)
      refine hK.out _ _ (hS0.trans (hb9.mono hS0.size)) (fun hS1 => ?_)
      clear hK K2 hb9
      try simp only [Act.put, List.setIfInBounds_toArray, List.set_cons_zero, List.set_cons_succ]
      refine wpAnyH_take (i := 9) (oi := { dst := some 26, op := Go.Op.unOp Go.UnOp.not 4 (Go.Operand.tmp 25), type := 4, pos := "law.go:53", after := #[{ on := 8, ground := Go.Ground.data }], guard := none }) (v := .bool (!jq)) rfl (by kernel_rfl) (by kernel_rfl) (by kernel_rfl) (fun _ _ _ h => h) (Or.inl ⟨by rfl, by intro w2 hSw; (try dsimp only at hSw);  have yx0 := (hSw.cell (lt_of_cell x0)).trans x0; have yy0 := (hSw.cell (lt_of_cell y0)).trans y0;  go_simp⟩) hS1 ?_
      try simp only [Act.put, List.setIfInBounds_toArray, List.set_cons_zero, List.set_cons_succ]
      refine wpAnyH_done (by kernel_rfl) ?_ _
      clear x0 y0
      have hb := hS1
      clear hS0 hS1
      replace X1 := Lib.hid (X1.out.below hb (Nat.le_refl _))
      replace Y1 := Lib.hid (Y1.out.below hb (Nat.le_refl _))
      replace Hb := Lib.hid (Hb.out.trans (hb.mono Hb.out.size))
      clear hb
      rcases jq with _ | _
      · go_wp2_with fail
        go_ret
        exact ⟨by rw [Hf.out trivial] <;> rfl, Hb.out⟩
      · go_wp2_with fail
        go_roundw
        case rel => exact ⟨k + 1, by omega, by go_num, Lib.hid Hs.out, Hb⟩
        case measure => simp [intOf]; omega
    · obtain rfl : k = n := by omega
      go_wp2_with fail
      go_ret
      exact ⟨by rw [decide_eq_true (Heq.out.1 HT.out)] <;> rfl, Hb.out⟩
/-- A list with more than the example's bounds. -/
def grtL (l : NL) : Bool := decide (130 < l.n) || decide (20 < l.ln) || decide (20 < l.rn)
set_option maxRecDepth 100000 in
set_option maxHeartbeats 16000000 in
theorem great13 (l : NL) (w : World) : Calls Try.prog 13 #[.agg #[.int .i64 l.N, .slice l.A l.n l.cap, .slice l.LA l.ln l.lc, .slice l.RA l.rn l.rc]] w fun e w' => e = .returned (.bool (grtL l)) ∧ Below w.heap.size w w' := by
  obtain ⟨R, hR⟩ : ∃ v, w.heap.size = v := ⟨_, rfl⟩
  have hb0 := below_alloc_ w (.cells #[.int .i64 l.N, .slice l.A l.n l.cap, .slice l.LA l.ln l.lc, .slice l.RA l.rn l.rc] 25)
  have hr0 := heap_alloc_new_ w (.cells #[.int .i64 l.N, .slice l.A l.n l.cap, .slice l.LA l.ln l.lc, .slice l.RA l.rn l.rc] 25)
  have hz0 : (w.alloc (.cells #[.int .i64 l.N, .slice l.A l.n l.cap, .slice l.LA l.ln l.lc, .slice l.RA l.rn l.rc] 25)).heap.size = w.heap.size + 1 := by simp
  obtain ⟨w0, hw0⟩ : ∃ v, w.alloc (.cells #[.int .i64 l.N, .slice l.A l.n l.cap, .slice l.LA l.ln l.lc, .slice l.RA l.rn l.rc] 25) = v := ⟨_, rfl⟩
  rw [hw0] at hb0 hr0 hz0
  rw [hR] at hr0 hz0
  have hB := hb0
  have X := Lib.hid hr0
  have HW0 := Lib.hid hw0
  have B := Lib.hid hB
  have HR := Lib.hid hR
  clear hB hR hb0 hr0 hz0 hw0 
  have ltX : R < w0.heap.size := lt_of_block X.out
  have zX0 : w0.cell? ⟨R, 0, none⟩ = some (.int .i64 l.N) := by rw [cell_row X.out]; rfl
  have zX1 : w0.cell? ⟨R, 1, none⟩ = some (.slice l.A l.n l.cap) := by rw [cell_row X.out]; rfl
  have zX2 : w0.cell? ⟨R, 2, none⟩ = some (.slice l.LA l.ln l.lc) := by rw [cell_row X.out]; rfl
  have zX3 : w0.cell? ⟨R, 3, none⟩ = some (.slice l.RA l.rn l.rc) := by rw [cell_row X.out]; rfl
  by_cases h1 : 130 < l.n
  · have d1 : (130 : Int) < (l.n : Int) := by omega
    have hg := Lib.hid (show grtL l = true by unfold grtL; rw [decide_eq_true h1]; rfl)
    go_enter Try.func13, Try.ntmps13
    go_wp2_with fail
    try rw [HW0.out]
    try rw [HR.out]
    try simp only [Nat.add_assoc, Nat.reduceAdd]
    try go_wp2_with fail
    go_ret
    exact ⟨by rw [hg.out] <;> rfl, by rw [← HR.out]; exact B.out⟩
  · have d1 : ¬ (130 : Int) < (l.n : Int) := by omega
    by_cases h2 : 20 < l.ln
    · have d2 : (20 : Int) < (l.ln : Int) := by omega
      have hg := Lib.hid (show grtL l = true by unfold grtL; rw [decide_eq_true h2, Bool.or_true]; rfl)
      go_enter Try.func13, Try.ntmps13
      go_wp2_with fail
      try rw [HW0.out]
      try rw [HR.out]
      try simp only [Nat.add_assoc, Nat.reduceAdd]
      try go_wp2_with fail
      go_ret
      exact ⟨by rw [hg.out] <;> rfl, by rw [← HR.out]; exact B.out⟩
    · have d2 : ¬ (20 : Int) < (l.ln : Int) := by omega
      by_cases h3 : 20 < l.rn
      · have d3 : (20 : Int) < (l.rn : Int) := by omega
        have hg := Lib.hid (show grtL l = true by unfold grtL; rw [decide_eq_true h3, Bool.or_true])
        go_enter Try.func13, Try.ntmps13
        go_wp2_with fail
        try rw [HW0.out]
        try rw [HR.out]
        try simp only [Nat.add_assoc, Nat.reduceAdd]
        try go_wp2_with fail
        go_ret
        exact ⟨by rw [hg.out] <;> rfl, by rw [← HR.out]; exact B.out⟩
      · have d3 : ¬ (20 : Int) < (l.rn : Int) := by omega
        have hg := Lib.hid (show grtL l = false by unfold grtL; rw [decide_eq_false h1, decide_eq_false h2, decide_eq_false h3]; rfl)
        go_enter Try.func13, Try.ntmps13
        go_wp2_with fail
        try rw [HW0.out]
        try rw [HR.out]
        try simp only [Nat.add_assoc, Nat.reduceAdd]
        try go_wp2_with fail
        go_ret
        exact ⟨by rw [hg.out] <;> rfl, by rw [← HR.out]; exact B.out⟩
end
end Go.Proofs.Ytigohccehllmnaa
