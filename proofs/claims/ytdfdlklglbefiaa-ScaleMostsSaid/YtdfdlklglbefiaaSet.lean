/- Stage 3: set: the board of a song. -/
import Derived.Test.YtdfdlklglbefiaaBd
import Derived.Deep.RegionHeld3
import Derived.Control
namespace Go.Proofs.Ytdfdlklglbefiaa
set_option linter.unusedSimpArgs false
set_option linter.unusedVariables false
open Go.RowKit Go.Shelf
attribute [local go_sem ↓] exec_build76
attribute [local go_sem ↓] exec_app
attribute [local go_sem ↓] at_app

/-- The board grows. -/
structure SetI (w : World) (B : Nat) (zs : List Rg) (k : Nat) (v : Value) (W : World) : Prop where
  below : Below w.heap.size w W
  row : W.heap[B]? = some (.cells (brdV v (fun _ => false) (fun i => decide (i < k))) 76 (0, 0))
  own : W.ownsRow 0 78 3 v k (flatT (tnK zs k))
  apart : ∀ j, v.ownBlock = some j → w.heap.size ≤ j ∧ j ≠ B
theorem SetI.next {w : World} {B : Nat} {zs : List Rg} {k : Nat} {v : Value} {W W' : World} (h : SetI w B zs k v W) (hb : Below W.heap.size W W') : SetI w B zs k v W' :=
  ⟨h.below.trans (hb.mono h.below.size), (hb.block _ (lt_of_block h.row)).trans h.row, own_keep h.own (Keeps.of_new (Mut := fun _ => False) hb) (fun _ _ e => e), h.apart⟩
theorem mark_lt (k : Nat) : mark (fun i => decide (i < k)) k = fun i => decide (i < k + 1) := by
  funext i
  unfold mark
  by_cases h : i < k
  · simp [h]; omega
  · by_cases e : i = k
    · simp [e]
    · simp [h, e]; omega
theorem SetI.mark {w : World} {B : Nat} {zs : List Rg} {k : Nat} {v : Value} {W : World} (hB : w.heap.size ≤ B) (hk : k < 24) (b : Below w.heap.size w W) (row : W.heap[B]? = some (.cells (brdV v (fun _ => false) (fun i => decide (i < k))) 76 (0, 0))) (own : W.ownsRow 0 78 3 v (k + 1) (flatT (tnK zs (k + 1)))) (apart : ∀ j, v.ownBlock = some j → w.heap.size ≤ j ∧ j ≠ B) :
    SetI w B zs (k + 1) v (W.setCell ⟨B, 25 + k, none⟩ (.bool true)) := by
  have hk2 := keeps_setCell W B (25 + k) (.bool true)
  refine ⟨b.trans (hk2.below b.size (fun i hi e => by omega)), ?_, own_keep own hk2 (fun j hj e => (apart j hj).2 e), apart⟩
  rw [set_same _ _ row, brdV_markAll _ _ _ _ hk, mark_lt]
theorem own_one {W : World} {e : TypeId} {size n : Nat} {v : Value} {xs : List Value} (h : W.ownsRow 0 e size v n xs) : v.oneCell' = true := by
  rcases h.2 with ⟨rfl, _⟩ | ⟨g, cap, cur, rfl, _⟩ <;> rfl
theorem tns_own' {W : World} {v : Value} {l : List Tn} {n : Nat} (hl : l.length = n) (h : W.ownsRow 0 78 3 v n (flatT l)) : ∃ C cap, v = .slice C n cap ∧ n ≤ cap ∧ Tns W C n l ∧ (∀ b o, C = some ⟨b, o, none⟩ → v.ownBlock = some b ∧ o = 0) := by
  subst hl
  exact tns_own h
theorem tnK_flat (zs : List Rg) (k : Nat) : flatT (tnK zs (k + 1)) = flatT (tnK zs k) ++ [.int .i64 (gAt zs k).lo, .int .i64 (gAt zs k).hi, .int .i64 (k : Int)] := by
  rw [tnK_succ]; simp [flatT, cellT]

set_option maxRecDepth 100000 in
set_option maxHeartbeats 4000000 in
theorem set56 (A : Option Addr) (n cap : Nat) (zs : List Rg) (w : World) (h : Rgs w A n zs) (hn : n ≤ 24) :
    Calls Try.prog 56 #[.slice A n cap] w fun e w' => ∃ B C cp, e = .returned (.pointer (some ⟨B, 0, none⟩)) ∧ Below w.heap.size w w' ∧ w.heap.size ≤ B ∧ (∀ b o, C = some ⟨b, o, none⟩ → w.heap.size ≤ b) ∧ Bd w' B C n cp zs (fun _ => false) := by
  go_enter Try.func56, Try.ntmps56
  go_wp2_with fail
  have I0 : SetI w w.heap.size zs 0 (.slice none 0 0) (w.alloc (.cells brd0 76)) := ⟨below_alloc_ _ _, heap_alloc_new_ _ _, own_nil _ _ _, fun j e => by cases e⟩
  obtain ⟨W0, hW0⟩ : ∃ W0, w.alloc (.cells brd0 76) = W0 := ⟨_, rfl⟩
  rw [hW0] at I0 ⊢
  obtain ⟨B, hB⟩ : ∃ B, w.heap.size = B := ⟨_, rfl⟩
  have HB := Lib.hid hB
  have HI0 := Lib.hid (show SetI w B zs 0 (.slice none 0 0) W0 by rw [← hB]; exact I0)
  rw [hB]
  clear hW0 hB I0
  go_loopw [10] (fun i wr => ∃ (k : Nat) (v : Value), k ≤ n ∧ i = .int .i64 (k : Int) ∧ SetI w B zs k v wr) (fun i _ => n - (intOf i).toNat)
  case atStart => exact ⟨0, .slice none 0 0, Nat.zero_le _, rfl, HI0.out⟩
  case round =>
    obtain ⟨k, v, hk, rfl, hI⟩ := hrel
    obtain ⟨wk, rfl⟩ : ∃ wk, wk = wr := ⟨_, rfl⟩
    by_cases hlt : k < n
    · obtain ⟨hl, hc⟩ := h.below hI.below (Nat.le_refl _)
      obtain ⟨b, o, rfl, hc2⟩ := hc (by omega)
      obtain ⟨c0, c1⟩ := hc2 k hlt
      have Hfl := Lib.hid (tnK_flat zs k)
      obtain ⟨g, hg⟩ : ∃ g, gAt zs k = g := ⟨_, rfl⟩
      rw [hg] at c0 c1 Hfl
      have i0 : (0 : Int) ≤ (k : Int) := by omega
      have i1 : (k : Int) < (n : Int) := by omega
      have i2 : (k : Int) < 24 := by omega
      have hI2 := hI.next (below_alloc_ wk (.cells #[.int .i64 g.lo, .int .i64 g.hi] 56))
      have HR := Lib.hid (show (wk.alloc (.cells #[.int .i64 g.lo, .int .i64 g.hi] 56)).heap[wk.heap.size]? = some (.cells #[.int .i64 g.lo, .int .i64 g.hi] 56 (0, 0)) from heap_alloc_new_ _ _)
      have HI := Lib.hid hI2
      have hRB : wk.heap.size ≠ B := by have := lt_of_block hI.row; omega
      have hRv0 : ¬ v.ownBlock = some wk.heap.size := fun e => by have := own_lt hI.own _ e; omega
      clear hc hc2 hl hg hI hI2
      go_wp2_with fail
      obtain ⟨W1, hW1⟩ : ∃ W1, wk.alloc (.cells #[.int .i64 g.lo, .int .i64 g.hi] 56) = W1 := ⟨_, rfl⟩
      rw [hW1] at HR HI ⊢
      obtain ⟨R, hR⟩ : ∃ R, wk.heap.size = R := ⟨_, rfl⟩
      rw [hR] at HR hRB hRv0 ⊢
      clear hW1 hR c0 c1
      have HBl := Lib.hid (lt_of_block HI.out.row)
      have HRl := Lib.hid (lt_of_block HR.out)
      have HRB := Lib.hid (show R ≠ B from hRB)
      have hRv := Lib.hid (show ¬ v.ownBlock = some R from hRv0)
      clear hRB hRv0
      refine wp_region_held_drew (S := fun w2 => w2.heap[R]? = some (.cells #[.int .i64 g.lo, .int .i64 g.hi] 56 (0, 0))) (by kernel_rfl) (((drew_b W1 1).block _ HRl.out).trans HR.out) (fun hS0 => ?_)
      refine wpAnyH_take (i := 0) (oi := { dst := some 15, op := Go.Op.move (Go.Operand.tmp 3), type := 69, pos := "board.go:46", after := #[], guard := none }) (v := .pointer (some ⟨B, 0, none⟩)) rfl (by kernel_rfl) (by kernel_rfl) (by kernel_rfl) (fun _ _ _ h => h) (Or.inl ⟨by rfl, by intro w2 hSw; (try dsimp only at hSw); have r0 : w2.cell? ⟨R, 0, none⟩ = some (.int .i64 g.lo) := (by rw [cell_row hSw]; rfl); have r1 : w2.cell? ⟨R, 1, none⟩ = some (.int .i64 g.hi) := (by rw [cell_row hSw]; rfl); go_simp⟩) hS0 ?_
      try simp only [Act.put, List.setIfInBounds_toArray, List.set_cons_zero, List.set_cons_succ]
      refine wpAnyH_take (i := 1) (oi := { dst := some 16, op := Go.Op.move (Go.Operand.tmp 3), type := 69, pos := "board.go:46", after := #[], guard := none }) (v := .pointer (some ⟨B, 0, none⟩)) rfl (by kernel_rfl) (by kernel_rfl) (by kernel_rfl) (fun _ _ _ h => h) (Or.inl ⟨by rfl, by intro w2 hSw; (try dsimp only at hSw); have r0 : w2.cell? ⟨R, 0, none⟩ = some (.int .i64 g.lo) := (by rw [cell_row hSw]; rfl); have r1 : w2.cell? ⟨R, 1, none⟩ = some (.int .i64 g.hi) := (by rw [cell_row hSw]; rfl); go_simp⟩) hS0 ?_
      try simp only [Act.put, List.setIfInBounds_toArray, List.set_cons_zero, List.set_cons_succ]
      refine wpAnyH_take (i := 2) (oi := { dst := some 17, op := Go.Op.nilCheck (Go.Operand.tmp 16), type := 0, pos := "board.go:46", after := #[{ on := 1, ground := Go.Ground.data }], guard := none }) (v := .pointer (some ⟨B, 0, none⟩)) rfl (by kernel_rfl) (by kernel_rfl) (by kernel_rfl) (fun _ _ _ h => h) (Or.inl ⟨by rfl, by intro w2 hSw; (try dsimp only at hSw); have r0 : w2.cell? ⟨R, 0, none⟩ = some (.int .i64 g.lo) := (by rw [cell_row hSw]; rfl); have r1 : w2.cell? ⟨R, 1, none⟩ = some (.int .i64 g.hi) := (by rw [cell_row hSw]; rfl); go_simp⟩) hS0 ?_
      try simp only [Act.put, List.setIfInBounds_toArray, List.set_cons_zero, List.set_cons_succ]
      refine wpAnyH_take (i := 3) (oi := { dst := some 18, op := Go.Op.fieldAddr 76 (Go.Operand.tmp 17) 0, type := 0, pos := "board.go:46", after := #[{ on := 2, ground := Go.Ground.data }], guard := none }) (v := .pointer (some ⟨B, 0, none⟩)) rfl (by kernel_rfl) (by kernel_rfl) (by kernel_rfl) (fun _ _ _ h => h) (Or.inl ⟨by rfl, by intro w2 hSw; (try dsimp only at hSw); have r0 : w2.cell? ⟨R, 0, none⟩ = some (.int .i64 g.lo) := (by rw [cell_row hSw]; rfl); have r1 : w2.cell? ⟨R, 1, none⟩ = some (.int .i64 g.hi) := (by rw [cell_row hSw]; rfl); go_simp⟩) hS0 ?_
      try simp only [Act.put, List.setIfInBounds_toArray, List.set_cons_zero, List.set_cons_succ]
      refine wpAnyH_take (i := 5) (oi := { dst := some 20, op := Go.Op.load 56 (Go.Operand.tmp 5), type := 56, pos := "board.go:46", after := #[], guard := none }) (v := .agg #[.int .i64 g.lo, .int .i64 g.hi]) rfl (by kernel_rfl) (by kernel_rfl) (by kernel_rfl) (fun _ _ _ h => h) (Or.inl ⟨by rfl, by intro w2 hSw; (try dsimp only at hSw); have r0 : w2.cell? ⟨R, 0, none⟩ = some (.int .i64 g.lo) := (by rw [cell_row hSw]; rfl); have r1 : w2.cell? ⟨R, 1, none⟩ = some (.int .i64 g.hi) := (by rw [cell_row hSw]; rfl); go_simp⟩) hS0 ?_
      try simp only [Act.put, List.setIfInBounds_toArray, List.set_cons_zero, List.set_cons_succ]
      refine wpAnyH_take (i := 6) (oi := { dst := some 21, op := Go.Op.move (Go.Operand.tmp 4), type := 3, pos := "board.go:46", after := #[], guard := none }) (v := .int .i64 (k : Int)) rfl (by kernel_rfl) (by kernel_rfl) (by kernel_rfl) (fun _ _ _ h => h) (Or.inl ⟨by rfl, by intro w2 hSw; (try dsimp only at hSw); have r0 : w2.cell? ⟨R, 0, none⟩ = some (.int .i64 g.lo) := (by rw [cell_row hSw]; rfl); have r1 : w2.cell? ⟨R, 1, none⟩ = some (.int .i64 g.hi) := (by rw [cell_row hSw]; rfl); go_simp⟩) hS0 ?_
      try simp only [Act.put, List.setIfInBounds_toArray, List.set_cons_zero, List.set_cons_succ]
      refine wpAnyH_take (i := 7) (oi := { dst := some 22, op := Go.Op.build 78 #[(0, Go.Operand.tmp 20), (1, Go.Operand.tmp 21)], type := 78, pos := "board.go:46", after := #[{ on := 5, ground := Go.Ground.data }, { on := 6, ground := Go.Ground.data }], guard := none }) (v := .agg #[.int .i64 g.lo, .int .i64 g.hi, .int .i64 (k : Int)]) rfl (by kernel_rfl) (by kernel_rfl) (by kernel_rfl) (fun _ _ _ h => h) (Or.inl ⟨by rfl, by intro w2 hSw; (try dsimp only at hSw); have r0 : w2.cell? ⟨R, 0, none⟩ = some (.int .i64 g.lo) := (by rw [cell_row hSw]; rfl); have r1 : w2.cell? ⟨R, 1, none⟩ = some (.int .i64 g.hi) := (by rw [cell_row hSw]; rfl); go_simp⟩) hS0 ?_
      try simp only [Act.put, List.setIfInBounds_toArray, List.set_cons_zero, List.set_cons_succ]
      have hI0 : SetI w B zs k v W1.drew := HI.out.next (drew_b W1 1)
      generalize W1.drew = V0 at hS0 hI0 ⊢
      refine wpAnyH_ready (rs := [4, 8]) (by kernel_rfl) (by simp) ?_
      refine AllReadyH.cons (o := { dst := some 19, op := Go.Op.load 72 (Go.Operand.tmp 18), type := 72, pos := "board.go:46", after := #[{ on := 3, ground := Go.Ground.data }], guard := none }) rfl (fun K2 hK => ?_) ?_
      · have hb0 : V0.cell? ⟨B, 0, none⟩ = some v := by rw [cell_row hI0.row]; exact brdV_0 _ _ _
        go_simp
        refine hK.out _ _ hS0 (fun hS0 => ?_)
        clear hK K2 hb0
        try simp only [Act.put, List.setIfInBounds_toArray, List.set_cons_zero, List.set_cons_succ]
        refine wpAnyH_ready (rs := [8]) (by kernel_rfl) (by simp) ?_
        refine AllReadyH.cons (o := { dst := some 23, op := Go.Op.buildSlice 72 1 #[(0, Go.Operand.tmp 22)], type := 72, pos := "board.go:46", after := #[{ on := 7, ground := Go.Ground.data }], guard := none }) rfl (fun K2 hK => ?_) AllReadyH.nil
        go_simp
        have hz1 := heap_alloc_new_ V0 (.cells #[.int .i64 g.lo, .int .i64 g.hi, .int .i64 (k : Int)] 78)
        have hb1 := below_alloc_ V0 (.cells #[.int .i64 g.lo, .int .i64 g.hi, .int .i64 (k : Int)] 78)
        have hI1 := hI0.next hb1
        have hS1 := (hb1.block _ (lt_of_block hS0)).trans hS0
        generalize V0.alloc (.cells #[.int .i64 g.lo, .int .i64 g.hi, .int .i64 (k : Int)] 78) = V1 at *
        obtain ⟨Z, hZ⟩ : ∃ Z, V0.heap.size = Z := ⟨_, rfl⟩
        rw [hZ] at hz1 ⊢
        have hZR : R ≠ Z := by have := lt_of_block hS0; omega
        refine hK.out _ _ hS1 (fun _ => ?_)
        clear hK K2 hZ hb1 hS0 hI0
        try simp only [Act.put, List.setIfInBounds_toArray, List.set_cons_zero, List.set_cons_succ]
        refine wpAnyH_ready (rs := [9]) (by kernel_rfl) (by simp) ?_
        refine AllReadyH.cons (o := { dst := some 24, op := Go.Op.call { callee := Go.Callee.builtin Go.Builtin.append, args := #[Go.Operand.tmp 19, Go.Operand.tmp 23], argTypes := #[72, 72] }, type := 72, pos := "board.go:46", after := #[{ on := 4, ground := Go.Ground.data }, { on := 8, ground := Go.Ground.data }], guard := none }) rfl (fun K2 hK => ?_) AllReadyH.nil
        obtain ⟨v', V2, hrun, hown2, hK2, hv1⟩ := app_one Try.underlying72 info78_ rfl (by omega) (by omega) hI1.own (vals := [.int .i64 g.lo, .int .i64 g.hi, .int .i64 (k : Int)]) rfl hz1 (by simp [Value.oneCell']) (by omega)
        rw [← Hfl.out] at hown2
        obtain ⟨C2, cp2, hv2, -, -, -⟩ := tns_own' (tnK_len zs (k + 1)) hown2
        subst hv2
        have hrow2 := (hK2.block _ (lt_of_block hI1.row) (fun e => (hI1.apart _ e).2 rfl)).trans hI1.row
        have hbel2 := hI1.below.trans (hK2.below hI1.below.size (fun j hj e => by have := (hI1.apart j e).1; omega))
        have hap2 : ∀ j, (Value.slice C2 (k + 1) cp2).ownBlock = some j → w.heap.size ≤ j ∧ j ≠ B := by
          intro j hj
          rcases hv1 with e | ⟨e, e2⟩
          · rw [e] at hj; exact hI1.apart j hj
          · rw [e] at hj; cases hj; have h1 := lt_of_block hI1.row; have h2 := hI1.below.size; exact ⟨h2, by omega⟩
        have hS2 := (hK2.block _ (lt_of_block hS1) (hRv.out)).trans hS1
        replace hrun := run_app hrun
        have hb02 : V2.cell? ⟨B, 0, none⟩ = some v := by rw [cell_row hrow2]; exact brdV_0 _ _ _
        have hf02 : V2.frozen? ⟨B, 0, none⟩ = false := frozen_row hrow2
        go_simp
        refine hK.out _ _ hS2 (fun _ => ?_)
        clear hK K2 hrun hz1 hI1 hK2 hv1 hS1
        try simp only [Act.put, List.setIfInBounds_toArray, List.set_cons_zero, List.set_cons_succ]
        refine wpAnyH_take (i := 10) (oi := { dst := some 25, op := Go.Op.nilCheck (Go.Operand.tmp 15), type := 0, pos := "board.go:46", after := #[{ on := 0, ground := Go.Ground.data }, { on := 0, ground := Go.Ground.phase }, { on := 1, ground := Go.Ground.phase }, { on := 2, ground := Go.Ground.phase }, { on := 3, ground := Go.Ground.phase }, { on := 4, ground := Go.Ground.phase }, { on := 5, ground := Go.Ground.phase }, { on := 6, ground := Go.Ground.phase }, { on := 7, ground := Go.Ground.phase }, { on := 8, ground := Go.Ground.phase }, { on := 9, ground := Go.Ground.phase }], guard := none }) (v := .pointer (some ⟨B, 0, none⟩)) rfl (by kernel_rfl) (by kernel_rfl) (by kernel_rfl) (fun _ _ _ h => h) (Or.inl ⟨by rfl, by intro w2 hSw; (try dsimp only at hSw); go_simp⟩) hS2 ?_
        try simp only [Act.put, List.setIfInBounds_toArray, List.set_cons_zero, List.set_cons_succ]
        refine wpAnyH_take (i := 11) (oi := { dst := some 26, op := Go.Op.fieldAddr 76 (Go.Operand.tmp 25) 0, type := 0, pos := "board.go:46", after := #[{ on := 10, ground := Go.Ground.data }, { on := 0, ground := Go.Ground.phase }, { on := 1, ground := Go.Ground.phase }, { on := 2, ground := Go.Ground.phase }, { on := 3, ground := Go.Ground.phase }, { on := 4, ground := Go.Ground.phase }, { on := 5, ground := Go.Ground.phase }, { on := 6, ground := Go.Ground.phase }, { on := 7, ground := Go.Ground.phase }, { on := 8, ground := Go.Ground.phase }, { on := 9, ground := Go.Ground.phase }], guard := none }) (v := .pointer (some ⟨B, 0, none⟩)) rfl (by kernel_rfl) (by kernel_rfl) (by kernel_rfl) (fun _ _ _ h => h) (Or.inl ⟨by rfl, by intro w2 hSw; (try dsimp only at hSw); go_simp⟩) hS2 ?_
        try simp only [Act.put, List.setIfInBounds_toArray, List.set_cons_zero, List.set_cons_succ]
        refine wpAnyH_ready (rs := [12]) (by kernel_rfl) (by simp) ?_
        refine AllReadyH.cons (o := { dst := none, op := Go.Op.store 72 (Go.Operand.tmp 26) (Go.Operand.tmp 24), type := 0, pos := "board.go:46", after := #[{ on := 11, ground := Go.Ground.data }, { on := 9, ground := Go.Ground.data }, { on := 9, ground := Go.Ground.chain }, { on := 0, ground := Go.Ground.phase }, { on := 1, ground := Go.Ground.phase }, { on := 2, ground := Go.Ground.phase }, { on := 3, ground := Go.Ground.phase }, { on := 4, ground := Go.Ground.phase }, { on := 5, ground := Go.Ground.phase }, { on := 6, ground := Go.Ground.phase }, { on := 7, ground := Go.Ground.phase }, { on := 8, ground := Go.Ground.phase }, { on := 9, ground := Go.Ground.phase }], guard := none }) rfl (fun K2 hK => ?_) AllReadyH.nil
        have hrow3 : (V2.setCell ⟨B, 0, none⟩ (.slice C2 (k + 1) cp2)).heap[B]? = some (.cells (brdV (.slice C2 (k + 1) cp2) (fun _ => false) (fun i => decide (i < k))) 76 (0, 0)) := by rw [set_same _ _ hrow2, brdV_set0]
        have hK3 := keeps_setCell V2 B 0 (.slice C2 (k + 1) cp2)
        have hown3 := own_keep hown2 hK3 (fun j hj e => (hap2 j hj).2 e)
        have hbel3 := hbel2.trans (hK3.below hbel2.size (fun j hj e => by have := HB.out; omega))
        have hS3 := (hK3.block _ (lt_of_block hS2) HRB.out).trans hS2
        have HRow3 := Lib.hid hrow3
        have HOwn3 := Lib.hid hown3
        have HBel3 := Lib.hid hbel3
        clear hown2 hrow3 hown3 hbel3
        go_simp
        refine hK.out _ _ hS3 (fun _ => ?_)
        clear hK K2 hK3 hrow2 hbel2 hb02 hf02 hS2 hS3
        generalize V2.setCell ⟨B, 0, none⟩ (.slice C2 (k + 1) cp2) = V3 at *
        have hrow3 := HRow3.out
        have hown3 := HOwn3.out
        have hbel3 := HBel3.out
        try simp only [Act.put, List.setIfInBounds_toArray, List.set_cons_zero, List.set_cons_succ]
        refine wpAnyH_done (by kernel_rfl) ?_ _
        have d1 : V3.cell? ⟨B, 25 + k, none⟩ = some (.bool false) := by rw [cell_row hrow3, brdV_all _ _ _ _ (by omega)]; simp
        have d2 : V3.frozen? ⟨B, 25 + k, none⟩ = false := frozen_row hrow3
        have HI3 := Lib.hid (SetI.mark (zs := zs) (Nat.le_of_eq HB.out) (show k < 24 by omega) hbel3 hrow3 hown3 hap2)
        clear hrow3 hown3 hap2 hbel3 HRow3 HOwn3 HBel3
        go_wp2_with fail
        go_roundw
        case rel => exact ⟨k + 1, (.slice C2 (k + 1) cp2), by omega, by go_num, HI3.out⟩
        case measure => simp [intOf]; omega
      refine AllReadyH.cons (o := { dst := some 23, op := Go.Op.buildSlice 72 1 #[(0, Go.Operand.tmp 22)], type := 72, pos := "board.go:46", after := #[{ on := 7, ground := Go.Ground.data }], guard := none }) rfl (fun K2 hK => ?_) AllReadyH.nil
      go_simp
      have hz1 := heap_alloc_new_ V0 (.cells #[.int .i64 g.lo, .int .i64 g.hi, .int .i64 (k : Int)] 78)
      have hb1 := below_alloc_ V0 (.cells #[.int .i64 g.lo, .int .i64 g.hi, .int .i64 (k : Int)] 78)
      have hI1 := hI0.next hb1
      have hS1 := (hb1.block _ (lt_of_block hS0)).trans hS0
      generalize V0.alloc (.cells #[.int .i64 g.lo, .int .i64 g.hi, .int .i64 (k : Int)] 78) = V1 at *
      obtain ⟨Z, hZ⟩ : ∃ Z, V0.heap.size = Z := ⟨_, rfl⟩
      rw [hZ] at hz1 ⊢
      have hZR : R ≠ Z := by have := lt_of_block hS0; omega
      refine hK.out _ _ hS1 (fun _ => ?_)
      clear hK K2 hZ hb1 hS0 hI0
      try simp only [Act.put, List.setIfInBounds_toArray, List.set_cons_zero, List.set_cons_succ]
      refine wpAnyH_ready (rs := [4]) (by kernel_rfl) (by simp) ?_
      refine AllReadyH.cons (o := { dst := some 19, op := Go.Op.load 72 (Go.Operand.tmp 18), type := 72, pos := "board.go:46", after := #[{ on := 3, ground := Go.Ground.data }], guard := none }) rfl (fun K2 hK => ?_) AllReadyH.nil
      have hb0 : V1.cell? ⟨B, 0, none⟩ = some v := by rw [cell_row hI1.row]; exact brdV_0 _ _ _
      go_simp
      refine hK.out _ _ hS1 (fun _ => ?_)
      clear hK K2 hb0
      try simp only [Act.put, List.setIfInBounds_toArray, List.set_cons_zero, List.set_cons_succ]
      refine wpAnyH_ready (rs := [9]) (by kernel_rfl) (by simp) ?_
      refine AllReadyH.cons (o := { dst := some 24, op := Go.Op.call { callee := Go.Callee.builtin Go.Builtin.append, args := #[Go.Operand.tmp 19, Go.Operand.tmp 23], argTypes := #[72, 72] }, type := 72, pos := "board.go:46", after := #[{ on := 4, ground := Go.Ground.data }, { on := 8, ground := Go.Ground.data }], guard := none }) rfl (fun K2 hK => ?_) AllReadyH.nil
      obtain ⟨v', V2, hrun, hown2, hK2, hv1⟩ := app_one Try.underlying72 info78_ rfl (by omega) (by omega) hI1.own (vals := [.int .i64 g.lo, .int .i64 g.hi, .int .i64 (k : Int)]) rfl hz1 (by simp [Value.oneCell']) (by omega)
      rw [← Hfl.out] at hown2
      obtain ⟨C2, cp2, hv2, -, -, -⟩ := tns_own' (tnK_len zs (k + 1)) hown2
      subst hv2
      have hrow2 := (hK2.block _ (lt_of_block hI1.row) (fun e => (hI1.apart _ e).2 rfl)).trans hI1.row
      have hbel2 := hI1.below.trans (hK2.below hI1.below.size (fun j hj e => by have := (hI1.apart j e).1; omega))
      have hap2 : ∀ j, (Value.slice C2 (k + 1) cp2).ownBlock = some j → w.heap.size ≤ j ∧ j ≠ B := by
        intro j hj
        rcases hv1 with e | ⟨e, e2⟩
        · rw [e] at hj; exact hI1.apart j hj
        · rw [e] at hj; cases hj; have h1 := lt_of_block hI1.row; have h2 := hI1.below.size; exact ⟨h2, by omega⟩
      have hS2 := (hK2.block _ (lt_of_block hS1) (hRv.out)).trans hS1
      replace hrun := run_app hrun
      have hb02 : V2.cell? ⟨B, 0, none⟩ = some v := by rw [cell_row hrow2]; exact brdV_0 _ _ _
      have hf02 : V2.frozen? ⟨B, 0, none⟩ = false := frozen_row hrow2
      go_simp
      refine hK.out _ _ hS2 (fun _ => ?_)
      clear hK K2 hrun hz1 hI1 hK2 hv1 hS1
      try simp only [Act.put, List.setIfInBounds_toArray, List.set_cons_zero, List.set_cons_succ]
      refine wpAnyH_take (i := 10) (oi := { dst := some 25, op := Go.Op.nilCheck (Go.Operand.tmp 15), type := 0, pos := "board.go:46", after := #[{ on := 0, ground := Go.Ground.data }, { on := 0, ground := Go.Ground.phase }, { on := 1, ground := Go.Ground.phase }, { on := 2, ground := Go.Ground.phase }, { on := 3, ground := Go.Ground.phase }, { on := 4, ground := Go.Ground.phase }, { on := 5, ground := Go.Ground.phase }, { on := 6, ground := Go.Ground.phase }, { on := 7, ground := Go.Ground.phase }, { on := 8, ground := Go.Ground.phase }, { on := 9, ground := Go.Ground.phase }], guard := none }) (v := .pointer (some ⟨B, 0, none⟩)) rfl (by kernel_rfl) (by kernel_rfl) (by kernel_rfl) (fun _ _ _ h => h) (Or.inl ⟨by rfl, by intro w2 hSw; (try dsimp only at hSw); go_simp⟩) hS2 ?_
      try simp only [Act.put, List.setIfInBounds_toArray, List.set_cons_zero, List.set_cons_succ]
      refine wpAnyH_take (i := 11) (oi := { dst := some 26, op := Go.Op.fieldAddr 76 (Go.Operand.tmp 25) 0, type := 0, pos := "board.go:46", after := #[{ on := 10, ground := Go.Ground.data }, { on := 0, ground := Go.Ground.phase }, { on := 1, ground := Go.Ground.phase }, { on := 2, ground := Go.Ground.phase }, { on := 3, ground := Go.Ground.phase }, { on := 4, ground := Go.Ground.phase }, { on := 5, ground := Go.Ground.phase }, { on := 6, ground := Go.Ground.phase }, { on := 7, ground := Go.Ground.phase }, { on := 8, ground := Go.Ground.phase }, { on := 9, ground := Go.Ground.phase }], guard := none }) (v := .pointer (some ⟨B, 0, none⟩)) rfl (by kernel_rfl) (by kernel_rfl) (by kernel_rfl) (fun _ _ _ h => h) (Or.inl ⟨by rfl, by intro w2 hSw; (try dsimp only at hSw); go_simp⟩) hS2 ?_
      try simp only [Act.put, List.setIfInBounds_toArray, List.set_cons_zero, List.set_cons_succ]
      refine wpAnyH_ready (rs := [12]) (by kernel_rfl) (by simp) ?_
      refine AllReadyH.cons (o := { dst := none, op := Go.Op.store 72 (Go.Operand.tmp 26) (Go.Operand.tmp 24), type := 0, pos := "board.go:46", after := #[{ on := 11, ground := Go.Ground.data }, { on := 9, ground := Go.Ground.data }, { on := 9, ground := Go.Ground.chain }, { on := 0, ground := Go.Ground.phase }, { on := 1, ground := Go.Ground.phase }, { on := 2, ground := Go.Ground.phase }, { on := 3, ground := Go.Ground.phase }, { on := 4, ground := Go.Ground.phase }, { on := 5, ground := Go.Ground.phase }, { on := 6, ground := Go.Ground.phase }, { on := 7, ground := Go.Ground.phase }, { on := 8, ground := Go.Ground.phase }, { on := 9, ground := Go.Ground.phase }], guard := none }) rfl (fun K2 hK => ?_) AllReadyH.nil
      have hrow3 : (V2.setCell ⟨B, 0, none⟩ (.slice C2 (k + 1) cp2)).heap[B]? = some (.cells (brdV (.slice C2 (k + 1) cp2) (fun _ => false) (fun i => decide (i < k))) 76 (0, 0)) := by rw [set_same _ _ hrow2, brdV_set0]
      have hK3 := keeps_setCell V2 B 0 (.slice C2 (k + 1) cp2)
      have hown3 := own_keep hown2 hK3 (fun j hj e => (hap2 j hj).2 e)
      have hbel3 := hbel2.trans (hK3.below hbel2.size (fun j hj e => by have := HB.out; omega))
      have hS3 := (hK3.block _ (lt_of_block hS2) HRB.out).trans hS2
      have HRow3 := Lib.hid hrow3
      have HOwn3 := Lib.hid hown3
      have HBel3 := Lib.hid hbel3
      clear hown2 hrow3 hown3 hbel3
      go_simp
      refine hK.out _ _ hS3 (fun _ => ?_)
      clear hK K2 hK3 hrow2 hbel2 hb02 hf02 hS2 hS3
      generalize V2.setCell ⟨B, 0, none⟩ (.slice C2 (k + 1) cp2) = V3 at *
      have hrow3 := HRow3.out
      have hown3 := HOwn3.out
      have hbel3 := HBel3.out
      try simp only [Act.put, List.setIfInBounds_toArray, List.set_cons_zero, List.set_cons_succ]
      refine wpAnyH_done (by kernel_rfl) ?_ _
      have d1 : V3.cell? ⟨B, 25 + k, none⟩ = some (.bool false) := by rw [cell_row hrow3, brdV_all _ _ _ _ (by omega)]; simp
      have d2 : V3.frozen? ⟨B, 25 + k, none⟩ = false := frozen_row hrow3
      have HI3 := Lib.hid (SetI.mark (zs := zs) (Nat.le_of_eq HB.out) (show k < 24 by omega) hbel3 hrow3 hown3 hap2)
      clear hrow3 hown3 hap2 hbel3 HRow3 HOwn3 HBel3
      go_wp2_with fail
      go_roundw
      case rel => exact ⟨k + 1, (.slice C2 (k + 1) cp2), by omega, by go_num, HI3.out⟩
      case measure => simp [intOf]; omega
    · have e : k = n := by omega
      subst e
      go_wp2_with fail
      go_ret
      have hz : zs.length = k := h.1
      obtain ⟨C, cp, rfl, hcp, ht, hC⟩ := tns_own' (tnK_len zs k) hI.own
      refine ⟨B, C, cp, rfl, hI.below, Nat.le_of_eq HB.out, fun b o e => (hI.apart b (hC b o e).1).1, ⟨hI.row, ?_, hcp, fun b o e => (hI.apart b (hC b o e).1).2⟩⟩
      unfold tnOf; rw [hz]; exact ht
end Go.Proofs.Ytdfdlklglbefiaa
