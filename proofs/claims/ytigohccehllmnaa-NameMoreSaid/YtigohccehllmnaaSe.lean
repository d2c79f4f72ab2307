/- Stage 6: ways: open ones, the way back, what is sent. -/
import Derived.Test.YtigohccehllmnaaLj
import Derived.Test.YtigohccehllmnaaSc
import Derived.Laws.ResultCell
namespace Go.Proofs.Ytigohccehllmnaa
set_option linter.unusedSimpArgs false
set_option linter.unusedVariables false
open Go.RowKit Go.Shelf

/-- Where a board lies. -/
structure BD where
  B : Nat
  F : Nat
  Z : Nat
  l : NL
  zs : List Nl
/-- What memory holds of a board with a flow. -/
structure Bd (W : World) (b : BD) (f : Nat → Int) : Prop where
  c0 : W.cell? ⟨b.B, 0, none⟩ = some (.int .i64 b.l.N)
  c1 : W.cell? ⟨b.B, 1, none⟩ = some (.slice (some ⟨b.Z, 0, none⟩) b.l.n b.l.n)
  c2 : W.cell? ⟨b.B, 2, none⟩ = some (.slice b.l.LA b.l.ln b.l.lc)
  c3 : W.cell? ⟨b.B, 3, none⟩ = some (.slice b.l.RA b.l.rn b.l.rc)
  c4 : W.cell? ⟨b.B, 4, none⟩ = some (.slice (some ⟨b.F, 0, none⟩) b.l.n b.l.n)
  z : ∀ j, j < b.l.n → W.cell? ⟨b.Z, j * 3, none⟩ = some (.int .i64 (lAt b.zs j).one) ∧ W.cell? ⟨b.Z, j * 3 + 1, none⟩ = some (.int .i64 (lAt b.zs j).two) ∧ W.cell? ⟨b.Z, j * 3 + 2, none⟩ = some (.int .i64 (lAt b.zs j).tr)
  fl : ∀ j, j < b.l.n → W.cell? ⟨b.F, j, none⟩ = some (.int .i64 (f j))
  row : ∃ X, W.heap[b.F]? = some (.cells X 2 (0, 0)) ∧ X.size = b.l.n
  ls : Ints W b.l.LA b.l.ln b.l.ls
  rs : Ints W b.l.RA b.l.rn b.l.rs
  nB : b.B ≠ b.F
  nZ : b.Z ≠ b.F
  nL : 0 < b.l.ln → ∀ a, b.l.LA = some a → a.block ≠ b.F
  nR : 0 < b.l.rn → ∀ a, b.l.RA = some a → a.block ≠ b.F
/-- What a valid list says. -/
structure BdOk (b : BD) : Prop where
  N : 2 ≤ b.l.N ∧ b.l.N ≤ 40
  n : b.l.n ≤ 120
  ln : 1 ≤ b.l.ln ∧ b.l.ln ≤ 10
  rn : 1 ≤ b.l.rn ∧ b.l.rn ≤ 10
  lc : b.l.ln ≤ b.l.lc
  rc : b.l.rn ≤ b.l.rc
  zl : b.zs.length = b.l.n
  ok : ∀ k, k < b.l.n → (0 ≤ (lAt b.zs k).one ∧ (lAt b.zs k).one < b.l.N) ∧ (0 ≤ (lAt b.zs k).two ∧ (lAt b.zs k).two < b.l.N) ∧ (lAt b.zs k).one ≠ (lAt b.zs k).two ∧ 0 ≤ (lAt b.zs k).tr ∧ (lAt b.zs k).tr ≤ 1000000
  lr : risI b.l.N b.l.ls = true
  rr : risI b.l.N b.l.rs = true
  lL : b.l.ls.length = b.l.ln
  rL : b.l.rs.length = b.l.rn
  dj : ∀ y ∈ b.l.ls, y ∉ b.l.rs
theorem Bd.keep {W W' : World} {b : BD} {f : Nat → Int} {Mut : Nat → Prop} (h : Bd W b f) (hK : Keeps Mut W W') (hm : ∀ k, k < W.heap.size → ¬ Mut k) : Bd W' b f := by
  obtain ⟨X, hX, hs⟩ := h.row
  have k : ∀ p o v, W.cell? ⟨p, o, none⟩ = some v → W'.cell? ⟨p, o, none⟩ = some v := fun p o v hv => (keep_cells hK (lt_of_cell hv) (hm _ (lt_of_cell hv)) o).trans hv
  refine ⟨k _ _ _ h.c0, k _ _ _ h.c1, k _ _ _ h.c2, k _ _ _ h.c3, k _ _ _ h.c4, fun j hj => ⟨k _ _ _ (h.z j hj).1, k _ _ _ (h.z j hj).2.1, k _ _ _ (h.z j hj).2.2⟩, fun j hj => k _ _ _ (h.fl j hj), ⟨X, (hK.block _ (lt_of_block hX) (hm _ (lt_of_block hX))).trans hX, hs⟩, ⟨h.ls.1, fun hn => ?_⟩, ⟨h.rs.1, fun hn => ?_⟩, h.nB, h.nZ, h.nL, h.nR⟩
  · obtain ⟨b, o, e, hc⟩ := h.ls.2 hn
    exact ⟨b, o, e, fun j hj => k _ _ _ (hc j hj)⟩
  · obtain ⟨b, o, e, hc⟩ := h.rs.2 hn
    exact ⟨b, o, e, fun j hj => k _ _ _ (hc j hj)⟩
theorem Bd.below {W W' : World} {b : BD} {f : Nat → Int} {Bs : Nat} (h : Bd W b f) (hb : Below Bs W W') (hB : W.heap.size ≤ Bs) : Bd W' b f :=
  h.keep (Keeps.of_below (hb.mono hB) (Nat.le_refl _)) (fun k hk e => by omega)
def wV (w : Wy) : Value := .agg #[.int .i64 (w.link : Int), .int .i64 w.fr, .int .i64 w.to]
/-- A flow that memory can hold. -/
def Small (b : BD) (f : Nat → Int) : Prop := ∀ k, k < b.l.n → -1000000 ≤ f k ∧ f k ≤ 1000000
section
attribute [local go_sem ↓] exec_app at_app
attribute [local go_sem] Oper.semAt_some
set_option maxRecDepth 100000 in
set_option maxHeartbeats 16000000 in
theorem room82 (b : BD) (f : Nat → Int) (x : Nat) (fr to : Int) (w : World) (h : Bd w b f) (hok : BdOk b) (hx : x < b.l.n) (hf : Small b f) :
    Calls Try.prog 82 #[.pointer (some ⟨b.B, 0, none⟩), .agg #[.int .i64 (x : Int), .int .i64 fr, .int .i64 to]] w fun e w' => e = .returned (.int .i64 (roomW b.zs f ⟨x, fr, to⟩)) ∧ Below w.heap.size w w' := by
  have hn := hok.n
  obtain ⟨R, hR⟩ : ∃ v, w.heap.size = v := ⟨_, rfl⟩
  have hb0 := below_alloc_ w (.cells #[.int .i64 (x : Int), .int .i64 fr, .int .i64 to] 79)
  have hr0 := heap_alloc_new_ w (.cells #[.int .i64 (x : Int), .int .i64 fr, .int .i64 to] 79)
  have hz0 : (w.alloc (.cells #[.int .i64 (x : Int), .int .i64 fr, .int .i64 to] 79)).heap.size = w.heap.size + 1 := by simp
  obtain ⟨w0, hw0⟩ : ∃ v, w.alloc (.cells #[.int .i64 (x : Int), .int .i64 fr, .int .i64 to] 79) = v := ⟨_, rfl⟩
  rw [hw0] at hb0 hr0 hz0
  rw [hR] at hr0 hz0
  have hB := hb0
  have D := Lib.hid (h.below hB (Nat.le_refl _))
  have X := Lib.hid hr0
  have HW0 := Lib.hid hw0
  have B := Lib.hid hB
  have HR := Lib.hid hR
  clear hB hR hb0 hr0 hz0 hw0 h
  obtain ⟨g, hg⟩ : ∃ g, lAt b.zs x = g := ⟨_, rfl⟩
  obtain ⟨fx, hfx⟩ : ∃ g, f x = g := ⟨_, rfl⟩
  have hb1 := hok.ok x hx
  have hb2 := hf x hx
  have hr : roomW b.zs f ⟨x, fr, to⟩ = if fr = g.one then g.tr - fx else g.tr + fx := by unfold roomW; simp only [hg, hfx]
  rw [hg] at hb1
  rw [hfx] at hb2
  obtain ⟨go, gw, gt⟩ := g
  simp only at hb1 hr
  have HR2 := Lib.hid hr
  have HG := Lib.hid hg
  have HF := Lib.hid hfx
  have w1 : IntKind.i64.wrap (gt - fx) = gt - fx := IntWalk.i64_in _ (by omega)
  have w2' : IntKind.i64.wrap (gt + fx) = gt + fx := IntWalk.i64_in _ (by omega)
  have i0 : (0 : Int) ≤ (x : Int) := by omega
  have i1 : (x : Int) < (b.l.n : Int) := by omega
  clear hr hg hfx hb1 hb2 hok hf
  have ltX : R < w0.heap.size := lt_of_block X.out
  have zX0 : w0.cell? ⟨R, 0, none⟩ = some (.int .i64 (x : Int)) := by rw [cell_row X.out]; rfl
  have zX1 : w0.cell? ⟨R, 1, none⟩ = some (.int .i64 fr) := by rw [cell_row X.out]; rfl
  have zX2 : w0.cell? ⟨R, 2, none⟩ = some (.int .i64 to) := by rw [cell_row X.out]; rfl
  have b1 := D.out.c1
  have b4 := D.out.c4
  have g0 : w0.cell? ⟨b.Z, x * 3, none⟩ = some (.int .i64 go) := (D.out.z x hx).1.trans (by rw [HG.out])
  have g1 : w0.cell? ⟨b.Z, x * 3 + 1, none⟩ = some (.int .i64 gw) := (D.out.z x hx).2.1.trans (by rw [HG.out])
  have g2 : w0.cell? ⟨b.Z, x * 3 + 2, none⟩ = some (.int .i64 gt) := (D.out.z x hx).2.2.trans (by rw [HG.out])
  have gf : w0.cell? ⟨b.F, x, none⟩ = some (.int .i64 fx) := (D.out.fl x hx).trans (by rw [HF.out])
  go_enter Try.func82, Try.ntmps82
  go_wp2_with fail
  try rw [HW0.out]
  try rw [HR.out]
  try simp only [Nat.add_assoc, Nat.reduceAdd]
  try go_wp2_with fail
  refine wp_region_held_drew (S := fun w2 => Below w0.heap.size w0 w2) (by kernel_rfl) (drew_b _ _) (fun hS0 => ?_)
  refine wpAnyH_take (i := 0) (oi := { dst := some 6, op := Go.Op.move (Go.Operand.tmp 0), type := 64, pos := "board.go:63", after := #[], guard := none }) (v := .pointer (some ⟨b.B, 0, none⟩)) rfl (by kernel_rfl) (by kernel_rfl) (by kernel_rfl) (fun _ _ _ h => h) (Or.inl ⟨by rfl, by intro w2 hSw; (try dsimp only at hSw); have yX0 := (hSw.cell (lt_of_cell zX0)).trans zX0; have yX1 := (hSw.cell (lt_of_cell zX1)).trans zX1; have yX2 := (hSw.cell (lt_of_cell zX2)).trans zX2; have yb1 := (hSw.cell (lt_of_cell b1)).trans b1; have yb4 := (hSw.cell (lt_of_cell b4)).trans b4; have yg0 := (hSw.cell (lt_of_cell g0)).trans g0; have yg1 := (hSw.cell (lt_of_cell g1)).trans g1; have yg2 := (hSw.cell (lt_of_cell g2)).trans g2; have ygf := (hSw.cell (lt_of_cell gf)).trans gf;  go_simp⟩) hS0 ?_
  try simp only [Act.put, List.setIfInBounds_toArray, List.set_cons_zero, List.set_cons_succ]
  refine wpAnyH_take (i := 1) (oi := { dst := some 7, op := Go.Op.nilCheck (Go.Operand.tmp 6), type := 0, pos := "board.go:63", after := #[{ on := 0, ground := Go.Ground.data }], guard := none }) (v := .pointer (some ⟨b.B, 0, none⟩)) rfl (by kernel_rfl) (by kernel_rfl) (by kernel_rfl) (fun _ _ _ h => h) (Or.inl ⟨by rfl, by intro w2 hSw; (try dsimp only at hSw); have yX0 := (hSw.cell (lt_of_cell zX0)).trans zX0; have yX1 := (hSw.cell (lt_of_cell zX1)).trans zX1; have yX2 := (hSw.cell (lt_of_cell zX2)).trans zX2; have yb1 := (hSw.cell (lt_of_cell b1)).trans b1; have yb4 := (hSw.cell (lt_of_cell b4)).trans b4; have yg0 := (hSw.cell (lt_of_cell g0)).trans g0; have yg1 := (hSw.cell (lt_of_cell g1)).trans g1; have yg2 := (hSw.cell (lt_of_cell g2)).trans g2; have ygf := (hSw.cell (lt_of_cell gf)).trans gf;  go_simp⟩) hS0 ?_
  try simp only [Act.put, List.setIfInBounds_toArray, List.set_cons_zero, List.set_cons_succ]
  refine wpAnyH_take (i := 2) (oi := { dst := some 8, op := Go.Op.fieldAddr 87 (Go.Operand.tmp 7) 0, type := 0, pos := "board.go:63", after := #[{ on := 1, ground := Go.Ground.data }], guard := none }) (v := .pointer (some ⟨b.B, 0, none⟩)) rfl (by kernel_rfl) (by kernel_rfl) (by kernel_rfl) (fun _ _ _ h => h) (Or.inl ⟨by rfl, by intro w2 hSw; (try dsimp only at hSw); have yX0 := (hSw.cell (lt_of_cell zX0)).trans zX0; have yX1 := (hSw.cell (lt_of_cell zX1)).trans zX1; have yX2 := (hSw.cell (lt_of_cell zX2)).trans zX2; have yb1 := (hSw.cell (lt_of_cell b1)).trans b1; have yb4 := (hSw.cell (lt_of_cell b4)).trans b4; have yg0 := (hSw.cell (lt_of_cell g0)).trans g0; have yg1 := (hSw.cell (lt_of_cell g1)).trans g1; have yg2 := (hSw.cell (lt_of_cell g2)).trans g2; have ygf := (hSw.cell (lt_of_cell gf)).trans gf;  go_simp⟩) hS0 ?_
  try simp only [Act.put, List.setIfInBounds_toArray, List.set_cons_zero, List.set_cons_succ]
  refine wpAnyH_take (i := 3) (oi := { dst := some 9, op := Go.Op.fieldAddr 25 (Go.Operand.tmp 8) 1, type := 0, pos := "board.go:63", after := #[{ on := 2, ground := Go.Ground.data }], guard := none }) (v := .pointer (some ⟨b.B, 1, none⟩)) rfl (by kernel_rfl) (by kernel_rfl) (by kernel_rfl) (fun _ _ _ h => h) (Or.inl ⟨by rfl, by intro w2 hSw; (try dsimp only at hSw); have yX0 := (hSw.cell (lt_of_cell zX0)).trans zX0; have yX1 := (hSw.cell (lt_of_cell zX1)).trans zX1; have yX2 := (hSw.cell (lt_of_cell zX2)).trans zX2; have yb1 := (hSw.cell (lt_of_cell b1)).trans b1; have yb4 := (hSw.cell (lt_of_cell b4)).trans b4; have yg0 := (hSw.cell (lt_of_cell g0)).trans g0; have yg1 := (hSw.cell (lt_of_cell g1)).trans g1; have yg2 := (hSw.cell (lt_of_cell g2)).trans g2; have ygf := (hSw.cell (lt_of_cell gf)).trans gf;  go_simp⟩) hS0 ?_
  try simp only [Act.put, List.setIfInBounds_toArray, List.set_cons_zero, List.set_cons_succ]
  refine wpAnyH_take (i := 4) (oi := { dst := some 10, op := Go.Op.load 22 (Go.Operand.tmp 9), type := 22, pos := "board.go:63", after := #[{ on := 3, ground := Go.Ground.data }], guard := none }) (v := .slice (some ⟨b.Z, 0, none⟩) b.l.n b.l.n) rfl (by kernel_rfl) (by kernel_rfl) (by kernel_rfl) (fun _ _ _ h => h) (Or.inl ⟨by rfl, by intro w2 hSw; (try dsimp only at hSw); have yX0 := (hSw.cell (lt_of_cell zX0)).trans zX0; have yX1 := (hSw.cell (lt_of_cell zX1)).trans zX1; have yX2 := (hSw.cell (lt_of_cell zX2)).trans zX2; have yb1 := (hSw.cell (lt_of_cell b1)).trans b1; have yb4 := (hSw.cell (lt_of_cell b4)).trans b4; have yg0 := (hSw.cell (lt_of_cell g0)).trans g0; have yg1 := (hSw.cell (lt_of_cell g1)).trans g1; have yg2 := (hSw.cell (lt_of_cell g2)).trans g2; have ygf := (hSw.cell (lt_of_cell gf)).trans gf;  go_simp⟩) hS0 ?_
  try simp only [Act.put, List.setIfInBounds_toArray, List.set_cons_zero, List.set_cons_succ]
  refine wpAnyH_take (i := 5) (oi := { dst := some 11, op := Go.Op.fieldAddr 79 (Go.Operand.tmp 3) 0, type := 0, pos := "board.go:63", after := #[], guard := none }) (v := .pointer (some ⟨R, 0, none⟩)) rfl (by kernel_rfl) (by kernel_rfl) (by kernel_rfl) (fun _ _ _ h => h) (Or.inl ⟨by rfl, by intro w2 hSw; (try dsimp only at hSw); have yX0 := (hSw.cell (lt_of_cell zX0)).trans zX0; have yX1 := (hSw.cell (lt_of_cell zX1)).trans zX1; have yX2 := (hSw.cell (lt_of_cell zX2)).trans zX2; have yb1 := (hSw.cell (lt_of_cell b1)).trans b1; have yb4 := (hSw.cell (lt_of_cell b4)).trans b4; have yg0 := (hSw.cell (lt_of_cell g0)).trans g0; have yg1 := (hSw.cell (lt_of_cell g1)).trans g1; have yg2 := (hSw.cell (lt_of_cell g2)).trans g2; have ygf := (hSw.cell (lt_of_cell gf)).trans gf;  go_simp⟩) hS0 ?_
  try simp only [Act.put, List.setIfInBounds_toArray, List.set_cons_zero, List.set_cons_succ]
  refine wpAnyH_take (i := 6) (oi := { dst := some 12, op := Go.Op.load 3 (Go.Operand.tmp 11), type := 3, pos := "board.go:63", after := #[{ on := 5, ground := Go.Ground.data }], guard := none }) (v := .int .i64 (x : Int)) rfl (by kernel_rfl) (by kernel_rfl) (by kernel_rfl) (fun _ _ _ h => h) (Or.inl ⟨by rfl, by intro w2 hSw; (try dsimp only at hSw); have yX0 := (hSw.cell (lt_of_cell zX0)).trans zX0; have yX1 := (hSw.cell (lt_of_cell zX1)).trans zX1; have yX2 := (hSw.cell (lt_of_cell zX2)).trans zX2; have yb1 := (hSw.cell (lt_of_cell b1)).trans b1; have yb4 := (hSw.cell (lt_of_cell b4)).trans b4; have yg0 := (hSw.cell (lt_of_cell g0)).trans g0; have yg1 := (hSw.cell (lt_of_cell g1)).trans g1; have yg2 := (hSw.cell (lt_of_cell g2)).trans g2; have ygf := (hSw.cell (lt_of_cell gf)).trans gf;  go_simp⟩) hS0 ?_
  try simp only [Act.put, List.setIfInBounds_toArray, List.set_cons_zero, List.set_cons_succ]
  refine wpAnyH_take (i := 7) (oi := { dst := some 13, op := Go.Op.indexAddr 22 (Go.Operand.tmp 10) (Go.Operand.tmp 12), type := 0, pos := "board.go:63", after := #[{ on := 4, ground := Go.Ground.data }, { on := 6, ground := Go.Ground.data }], guard := none }) (v := .pointer (some ⟨b.Z, x * 3, none⟩)) rfl (by kernel_rfl) (by kernel_rfl) (by kernel_rfl) (fun _ _ _ h => h) (Or.inl ⟨by rfl, by intro w2 hSw; (try dsimp only at hSw); have yX0 := (hSw.cell (lt_of_cell zX0)).trans zX0; have yX1 := (hSw.cell (lt_of_cell zX1)).trans zX1; have yX2 := (hSw.cell (lt_of_cell zX2)).trans zX2; have yb1 := (hSw.cell (lt_of_cell b1)).trans b1; have yb4 := (hSw.cell (lt_of_cell b4)).trans b4; have yg0 := (hSw.cell (lt_of_cell g0)).trans g0; have yg1 := (hSw.cell (lt_of_cell g1)).trans g1; have yg2 := (hSw.cell (lt_of_cell g2)).trans g2; have ygf := (hSw.cell (lt_of_cell gf)).trans gf;  go_simp⟩) hS0 ?_
  try simp only [Act.put, List.setIfInBounds_toArray, List.set_cons_zero, List.set_cons_succ]
  refine wpAnyH_take (i := 8) (oi := { dst := some 14, op := Go.Op.load 60 (Go.Operand.tmp 13), type := 60, pos := "board.go:63", after := #[{ on := 7, ground := Go.Ground.data }], guard := none }) (v := .agg #[.int .i64 go, .int .i64 gw, .int .i64 gt]) rfl (by kernel_rfl) (by kernel_rfl) (by kernel_rfl) (fun _ _ _ h => h) (Or.inl ⟨by rfl, by intro w2 hSw; (try dsimp only at hSw); have yX0 := (hSw.cell (lt_of_cell zX0)).trans zX0; have yX1 := (hSw.cell (lt_of_cell zX1)).trans zX1; have yX2 := (hSw.cell (lt_of_cell zX2)).trans zX2; have yb1 := (hSw.cell (lt_of_cell b1)).trans b1; have yb4 := (hSw.cell (lt_of_cell b4)).trans b4; have yg0 := (hSw.cell (lt_of_cell g0)).trans g0; have yg1 := (hSw.cell (lt_of_cell g1)).trans g1; have yg2 := (hSw.cell (lt_of_cell g2)).trans g2; have ygf := (hSw.cell (lt_of_cell gf)).trans gf;  go_simp⟩) hS0 ?_
  try simp only [Act.put, List.setIfInBounds_toArray, List.set_cons_zero, List.set_cons_succ]
  generalize w0.drew = w0g at hS0 ⊢
  refine wpAnyH_ready (rs := [9]) (by kernel_rfl) (by simp) ?_
  refine AllReadyH.cons (o := { dst := some 5, op := Go.Op.alloc 60, type := 0, pos := "board.go:63", after := #[], guard := none }) rfl (fun K2 hK => ?_) AllReadyH.nil
  go_simp
  refine hK.out _ _ (hS0.trans ((below_alloc_ _ _).mono hS0.size)) (fun hS1 => ?_)
  clear hK K2
  try simp only [Act.put, List.setIfInBounds_toArray, List.set_cons_zero, List.set_cons_succ]
  refine wpAnyH_ready (rs := [10]) (by kernel_rfl) (by simp) ?_
  refine AllReadyH.cons (o := { dst := none, op := Go.Op.store 60 (Go.Operand.tmp 5) (Go.Operand.tmp 14), type := 0, pos := "board.go:63", after := #[{ on := 9, ground := Go.Ground.data }, { on := 8, ground := Go.Ground.data }, { on := 0, ground := Go.Ground.phase }, { on := 1, ground := Go.Ground.phase }, { on := 2, ground := Go.Ground.phase }, { on := 3, ground := Go.Ground.phase }, { on := 4, ground := Go.Ground.phase }, { on := 5, ground := Go.Ground.phase }, { on := 6, ground := Go.Ground.phase }, { on := 7, ground := Go.Ground.phase }, { on := 8, ground := Go.Ground.phase }, { on := 9, ground := Go.Ground.phase }], guard := none }) rfl (fun K2 hK => ?_) AllReadyH.nil
  go_simp
  refine hK.out _ _ (hS0.trans ((below_alloc_ _ _).mono hS0.size)) (fun hS2 => ?_)
  clear hK K2
  try simp only [Act.put, List.setIfInBounds_toArray, List.set_cons_zero, List.set_cons_succ]
  refine wpAnyH_done (by kernel_rfl) ?_ _
  clear zX0 zX1 zX2 ltX b1 b4 g0 g1 g2 gf
  have hrP := heap_alloc_new_ w0g (.cells #[.int .i64 go, .int .i64 gw, .int .i64 gt] 60)
  obtain ⟨w0a, hwa⟩ : ∃ v, w0g.alloc (.cells #[.int .i64 go, .int .i64 gw, .int .i64 gt] 60) = v := ⟨_, rfl⟩
  obtain ⟨P, hZa⟩ : ∃ v, w0g.heap.size = v := ⟨_, rfl⟩
  have hb := hS2
  rw [hwa] at hb hrP ⊢
  rw [hZa] at hrP ⊢
  have Y := Lib.hid hrP
  clear hwa hZa hrP hS0 hS1 hS2
  replace D := Lib.hid (D.out.below hb (Nat.le_refl _))
  replace X := Lib.hid ((hb.block _ (lt_of_block X.out)).trans X.out)
  replace B := Lib.hid (B.out.trans (hb.mono B.out.size))
  clear hb
  have ltX : R < w0a.heap.size := lt_of_block X.out
  have zX0 : w0a.cell? ⟨R, 0, none⟩ = some (.int .i64 (x : Int)) := by rw [cell_row X.out]; rfl
  have zX1 : w0a.cell? ⟨R, 1, none⟩ = some (.int .i64 fr) := by rw [cell_row X.out]; rfl
  have zX2 : w0a.cell? ⟨R, 2, none⟩ = some (.int .i64 to) := by rw [cell_row X.out]; rfl
  have ltY : P < w0a.heap.size := lt_of_block Y.out
  have zY0 : w0a.cell? ⟨P, 0, none⟩ = some (.int .i64 go) := by rw [cell_row Y.out]; rfl
  have zY1 : w0a.cell? ⟨P, 1, none⟩ = some (.int .i64 gw) := by rw [cell_row Y.out]; rfl
  have zY2 : w0a.cell? ⟨P, 2, none⟩ = some (.int .i64 gt) := by rw [cell_row Y.out]; rfl
  have b1 := D.out.c1
  have b4 := D.out.c4
  have g0 : w0a.cell? ⟨b.Z, x * 3, none⟩ = some (.int .i64 go) := (D.out.z x hx).1.trans (by rw [HG.out])
  have g1 : w0a.cell? ⟨b.Z, x * 3 + 1, none⟩ = some (.int .i64 gw) := (D.out.z x hx).2.1.trans (by rw [HG.out])
  have g2 : w0a.cell? ⟨b.Z, x * 3 + 2, none⟩ = some (.int .i64 gt) := (D.out.z x hx).2.2.trans (by rw [HG.out])
  have gf : w0a.cell? ⟨b.F, x, none⟩ = some (.int .i64 fx) := (D.out.fl x hx).trans (by rw [HF.out])
  by_cases he : fr = go
  · have HE := Lib.hid he
    have de : (fr == go) = true := by rw [beq_iff_eq]; exact he
    clear he
    go_wp2_with fail
    refine wp_region_held_drew (S := fun w2 => Below w0a.heap.size w0a w2) (by kernel_rfl) (drew_b _ _) (fun hS0 => ?_)
    refine wpAnyH_take (i := 0) (oi := { dst := some 20, op := Go.Op.fieldAddr 60 (Go.Operand.tmp 5) 2, type := 0, pos := "board.go:65", after := #[], guard := none }) (v := .pointer (some ⟨P, 2, none⟩)) rfl (by kernel_rfl) (by kernel_rfl) (by kernel_rfl) (fun _ _ _ h => h) (Or.inl ⟨by rfl, by intro w2 hSw; (try dsimp only at hSw); have yX0 := (hSw.cell (lt_of_cell zX0)).trans zX0; have yX1 := (hSw.cell (lt_of_cell zX1)).trans zX1; have yX2 := (hSw.cell (lt_of_cell zX2)).trans zX2; have yY0 := (hSw.cell (lt_of_cell zY0)).trans zY0; have yY1 := (hSw.cell (lt_of_cell zY1)).trans zY1; have yY2 := (hSw.cell (lt_of_cell zY2)).trans zY2; have yb1 := (hSw.cell (lt_of_cell b1)).trans b1; have yb4 := (hSw.cell (lt_of_cell b4)).trans b4; have yg0 := (hSw.cell (lt_of_cell g0)).trans g0; have yg1 := (hSw.cell (lt_of_cell g1)).trans g1; have yg2 := (hSw.cell (lt_of_cell g2)).trans g2; have ygf := (hSw.cell (lt_of_cell gf)).trans gf;  go_simp⟩) hS0 ?_
    try simp only [Act.put, List.setIfInBounds_toArray, List.set_cons_zero, List.set_cons_succ]
    refine wpAnyH_take (i := 1) (oi := { dst := some 21, op := Go.Op.load 2 (Go.Operand.tmp 20), type := 2, pos := "board.go:65", after := #[{ on := 0, ground := Go.Ground.data }], guard := none }) (v := .int .i64 gt) rfl (by kernel_rfl) (by kernel_rfl) (by kernel_rfl) (fun _ _ _ h => h) (Or.inl ⟨by rfl, by intro w2 hSw; (try dsimp only at hSw); have yX0 := (hSw.cell (lt_of_cell zX0)).trans zX0; have yX1 := (hSw.cell (lt_of_cell zX1)).trans zX1; have yX2 := (hSw.cell (lt_of_cell zX2)).trans zX2; have yY0 := (hSw.cell (lt_of_cell zY0)).trans zY0; have yY1 := (hSw.cell (lt_of_cell zY1)).trans zY1; have yY2 := (hSw.cell (lt_of_cell zY2)).trans zY2; have yb1 := (hSw.cell (lt_of_cell b1)).trans b1; have yb4 := (hSw.cell (lt_of_cell b4)).trans b4; have yg0 := (hSw.cell (lt_of_cell g0)).trans g0; have yg1 := (hSw.cell (lt_of_cell g1)).trans g1; have yg2 := (hSw.cell (lt_of_cell g2)).trans g2; have ygf := (hSw.cell (lt_of_cell gf)).trans gf;  go_simp⟩) hS0 ?_
    try simp only [Act.put, List.setIfInBounds_toArray, List.set_cons_zero, List.set_cons_succ]
    refine wpAnyH_take (i := 2) (oi := { dst := some 22, op := Go.Op.move (Go.Operand.tmp 0), type := 64, pos := "board.go:65", after := #[], guard := none }) (v := .pointer (some ⟨b.B, 0, none⟩)) rfl (by kernel_rfl) (by kernel_rfl) (by kernel_rfl) (fun _ _ _ h => h) (Or.inl ⟨by rfl, by intro w2 hSw; (try dsimp only at hSw); have yX0 := (hSw.cell (lt_of_cell zX0)).trans zX0; have yX1 := (hSw.cell (lt_of_cell zX1)).trans zX1; have yX2 := (hSw.cell (lt_of_cell zX2)).trans zX2; have yY0 := (hSw.cell (lt_of_cell zY0)).trans zY0; have yY1 := (hSw.cell (lt_of_cell zY1)).trans zY1; have yY2 := (hSw.cell (lt_of_cell zY2)).trans zY2; have yb1 := (hSw.cell (lt_of_cell b1)).trans b1; have yb4 := (hSw.cell (lt_of_cell b4)).trans b4; have yg0 := (hSw.cell (lt_of_cell g0)).trans g0; have yg1 := (hSw.cell (lt_of_cell g1)).trans g1; have yg2 := (hSw.cell (lt_of_cell g2)).trans g2; have ygf := (hSw.cell (lt_of_cell gf)).trans gf;  go_simp⟩) hS0 ?_
    try simp only [Act.put, List.setIfInBounds_toArray, List.set_cons_zero, List.set_cons_succ]
    refine wpAnyH_take (i := 3) (oi := { dst := some 23, op := Go.Op.nilCheck (Go.Operand.tmp 22), type := 0, pos := "board.go:65", after := #[{ on := 2, ground := Go.Ground.data }], guard := none }) (v := .pointer (some ⟨b.B, 0, none⟩)) rfl (by kernel_rfl) (by kernel_rfl) (by kernel_rfl) (fun _ _ _ h => h) (Or.inl ⟨by rfl, by intro w2 hSw; (try dsimp only at hSw); have yX0 := (hSw.cell (lt_of_cell zX0)).trans zX0; have yX1 := (hSw.cell (lt_of_cell zX1)).trans zX1; have yX2 := (hSw.cell (lt_of_cell zX2)).trans zX2; have yY0 := (hSw.cell (lt_of_cell zY0)).trans zY0; have yY1 := (hSw.cell (lt_of_cell zY1)).trans zY1; have yY2 := (hSw.cell (lt_of_cell zY2)).trans zY2; have yb1 := (hSw.cell (lt_of_cell b1)).trans b1; have yb4 := (hSw.cell (lt_of_cell b4)).trans b4; have yg0 := (hSw.cell (lt_of_cell g0)).trans g0; have yg1 := (hSw.cell (lt_of_cell g1)).trans g1; have yg2 := (hSw.cell (lt_of_cell g2)).trans g2; have ygf := (hSw.cell (lt_of_cell gf)).trans gf;  go_simp⟩) hS0 ?_
    try simp only [Act.put, List.setIfInBounds_toArray, List.set_cons_zero, List.set_cons_succ]
    refine wpAnyH_take (i := 4) (oi := { dst := some 24, op := Go.Op.fieldAddr 87 (Go.Operand.tmp 23) 1, type := 0, pos := "board.go:65", after := #[{ on := 3, ground := Go.Ground.data }], guard := none }) (v := .pointer (some ⟨b.B, 4, none⟩)) rfl (by kernel_rfl) (by kernel_rfl) (by kernel_rfl) (fun _ _ _ h => h) (Or.inl ⟨by rfl, by intro w2 hSw; (try dsimp only at hSw); have yX0 := (hSw.cell (lt_of_cell zX0)).trans zX0; have yX1 := (hSw.cell (lt_of_cell zX1)).trans zX1; have yX2 := (hSw.cell (lt_of_cell zX2)).trans zX2; have yY0 := (hSw.cell (lt_of_cell zY0)).trans zY0; have yY1 := (hSw.cell (lt_of_cell zY1)).trans zY1; have yY2 := (hSw.cell (lt_of_cell zY2)).trans zY2; have yb1 := (hSw.cell (lt_of_cell b1)).trans b1; have yb4 := (hSw.cell (lt_of_cell b4)).trans b4; have yg0 := (hSw.cell (lt_of_cell g0)).trans g0; have yg1 := (hSw.cell (lt_of_cell g1)).trans g1; have yg2 := (hSw.cell (lt_of_cell g2)).trans g2; have ygf := (hSw.cell (lt_of_cell gf)).trans gf;  go_simp⟩) hS0 ?_
    try simp only [Act.put, List.setIfInBounds_toArray, List.set_cons_zero, List.set_cons_succ]
    refine wpAnyH_take (i := 5) (oi := { dst := some 25, op := Go.Op.load 41 (Go.Operand.tmp 24), type := 41, pos := "board.go:65", after := #[{ on := 4, ground := Go.Ground.data }], guard := none }) (v := .slice (some ⟨b.F, 0, none⟩) b.l.n b.l.n) rfl (by kernel_rfl) (by kernel_rfl) (by kernel_rfl) (fun _ _ _ h => h) (Or.inl ⟨by rfl, by intro w2 hSw; (try dsimp only at hSw); have yX0 := (hSw.cell (lt_of_cell zX0)).trans zX0; have yX1 := (hSw.cell (lt_of_cell zX1)).trans zX1; have yX2 := (hSw.cell (lt_of_cell zX2)).trans zX2; have yY0 := (hSw.cell (lt_of_cell zY0)).trans zY0; have yY1 := (hSw.cell (lt_of_cell zY1)).trans zY1; have yY2 := (hSw.cell (lt_of_cell zY2)).trans zY2; have yb1 := (hSw.cell (lt_of_cell b1)).trans b1; have yb4 := (hSw.cell (lt_of_cell b4)).trans b4; have yg0 := (hSw.cell (lt_of_cell g0)).trans g0; have yg1 := (hSw.cell (lt_of_cell g1)).trans g1; have yg2 := (hSw.cell (lt_of_cell g2)).trans g2; have ygf := (hSw.cell (lt_of_cell gf)).trans gf;  go_simp⟩) hS0 ?_
    try simp only [Act.put, List.setIfInBounds_toArray, List.set_cons_zero, List.set_cons_succ]
    refine wpAnyH_take (i := 6) (oi := { dst := some 26, op := Go.Op.fieldAddr 79 (Go.Operand.tmp 3) 0, type := 0, pos := "board.go:65", after := #[], guard := none }) (v := .pointer (some ⟨R, 0, none⟩)) rfl (by kernel_rfl) (by kernel_rfl) (by kernel_rfl) (fun _ _ _ h => h) (Or.inl ⟨by rfl, by intro w2 hSw; (try dsimp only at hSw); have yX0 := (hSw.cell (lt_of_cell zX0)).trans zX0; have yX1 := (hSw.cell (lt_of_cell zX1)).trans zX1; have yX2 := (hSw.cell (lt_of_cell zX2)).trans zX2; have yY0 := (hSw.cell (lt_of_cell zY0)).trans zY0; have yY1 := (hSw.cell (lt_of_cell zY1)).trans zY1; have yY2 := (hSw.cell (lt_of_cell zY2)).trans zY2; have yb1 := (hSw.cell (lt_of_cell b1)).trans b1; have yb4 := (hSw.cell (lt_of_cell b4)).trans b4; have yg0 := (hSw.cell (lt_of_cell g0)).trans g0; have yg1 := (hSw.cell (lt_of_cell g1)).trans g1; have yg2 := (hSw.cell (lt_of_cell g2)).trans g2; have ygf := (hSw.cell (lt_of_cell gf)).trans gf;  go_simp⟩) hS0 ?_
    try simp only [Act.put, List.setIfInBounds_toArray, List.set_cons_zero, List.set_cons_succ]
    refine wpAnyH_take (i := 7) (oi := { dst := some 27, op := Go.Op.load 3 (Go.Operand.tmp 26), type := 3, pos := "board.go:65", after := #[{ on := 6, ground := Go.Ground.data }], guard := none }) (v := .int .i64 (x : Int)) rfl (by kernel_rfl) (by kernel_rfl) (by kernel_rfl) (fun _ _ _ h => h) (Or.inl ⟨by rfl, by intro w2 hSw; (try dsimp only at hSw); have yX0 := (hSw.cell (lt_of_cell zX0)).trans zX0; have yX1 := (hSw.cell (lt_of_cell zX1)).trans zX1; have yX2 := (hSw.cell (lt_of_cell zX2)).trans zX2; have yY0 := (hSw.cell (lt_of_cell zY0)).trans zY0; have yY1 := (hSw.cell (lt_of_cell zY1)).trans zY1; have yY2 := (hSw.cell (lt_of_cell zY2)).trans zY2; have yb1 := (hSw.cell (lt_of_cell b1)).trans b1; have yb4 := (hSw.cell (lt_of_cell b4)).trans b4; have yg0 := (hSw.cell (lt_of_cell g0)).trans g0; have yg1 := (hSw.cell (lt_of_cell g1)).trans g1; have yg2 := (hSw.cell (lt_of_cell g2)).trans g2; have ygf := (hSw.cell (lt_of_cell gf)).trans gf;  go_simp⟩) hS0 ?_
    try simp only [Act.put, List.setIfInBounds_toArray, List.set_cons_zero, List.set_cons_succ]
    refine wpAnyH_take (i := 8) (oi := { dst := some 28, op := Go.Op.indexAddr 41 (Go.Operand.tmp 25) (Go.Operand.tmp 27), type := 0, pos := "board.go:65", after := #[{ on := 5, ground := Go.Ground.data }, { on := 7, ground := Go.Ground.data }], guard := none }) (v := .pointer (some ⟨b.F, x, none⟩)) rfl (by kernel_rfl) (by kernel_rfl) (by kernel_rfl) (fun _ _ _ h => h) (Or.inl ⟨by rfl, by intro w2 hSw; (try dsimp only at hSw); have yX0 := (hSw.cell (lt_of_cell zX0)).trans zX0; have yX1 := (hSw.cell (lt_of_cell zX1)).trans zX1; have yX2 := (hSw.cell (lt_of_cell zX2)).trans zX2; have yY0 := (hSw.cell (lt_of_cell zY0)).trans zY0; have yY1 := (hSw.cell (lt_of_cell zY1)).trans zY1; have yY2 := (hSw.cell (lt_of_cell zY2)).trans zY2; have yb1 := (hSw.cell (lt_of_cell b1)).trans b1; have yb4 := (hSw.cell (lt_of_cell b4)).trans b4; have yg0 := (hSw.cell (lt_of_cell g0)).trans g0; have yg1 := (hSw.cell (lt_of_cell g1)).trans g1; have yg2 := (hSw.cell (lt_of_cell g2)).trans g2; have ygf := (hSw.cell (lt_of_cell gf)).trans gf;  go_simp⟩) hS0 ?_
    try simp only [Act.put, List.setIfInBounds_toArray, List.set_cons_zero, List.set_cons_succ]
    refine wpAnyH_take (i := 9) (oi := { dst := some 29, op := Go.Op.load 2 (Go.Operand.tmp 28), type := 2, pos := "board.go:65", after := #[{ on := 8, ground := Go.Ground.data }], guard := none }) (v := .int .i64 fx) rfl (by kernel_rfl) (by kernel_rfl) (by kernel_rfl) (fun _ _ _ h => h) (Or.inl ⟨by rfl, by intro w2 hSw; (try dsimp only at hSw); have yX0 := (hSw.cell (lt_of_cell zX0)).trans zX0; have yX1 := (hSw.cell (lt_of_cell zX1)).trans zX1; have yX2 := (hSw.cell (lt_of_cell zX2)).trans zX2; have yY0 := (hSw.cell (lt_of_cell zY0)).trans zY0; have yY1 := (hSw.cell (lt_of_cell zY1)).trans zY1; have yY2 := (hSw.cell (lt_of_cell zY2)).trans zY2; have yb1 := (hSw.cell (lt_of_cell b1)).trans b1; have yb4 := (hSw.cell (lt_of_cell b4)).trans b4; have yg0 := (hSw.cell (lt_of_cell g0)).trans g0; have yg1 := (hSw.cell (lt_of_cell g1)).trans g1; have yg2 := (hSw.cell (lt_of_cell g2)).trans g2; have ygf := (hSw.cell (lt_of_cell gf)).trans gf;  go_simp⟩) hS0 ?_
    try simp only [Act.put, List.setIfInBounds_toArray, List.set_cons_zero, List.set_cons_succ]
    refine wpAnyH_take (i := 10) (oi := { dst := some 30, op := Go.Op.binOp Go.BinOp.sub 2 (Go.Operand.tmp 21) (Go.Operand.tmp 29) 2, type := 2, pos := "board.go:65", after := #[{ on := 1, ground := Go.Ground.data }, { on := 9, ground := Go.Ground.data }], guard := none }) (v := .int .i64 (gt - fx)) rfl (by kernel_rfl) (by kernel_rfl) (by kernel_rfl) (fun _ _ _ h => h) (Or.inl ⟨by rfl, by intro w2 hSw; (try dsimp only at hSw); have yX0 := (hSw.cell (lt_of_cell zX0)).trans zX0; have yX1 := (hSw.cell (lt_of_cell zX1)).trans zX1; have yX2 := (hSw.cell (lt_of_cell zX2)).trans zX2; have yY0 := (hSw.cell (lt_of_cell zY0)).trans zY0; have yY1 := (hSw.cell (lt_of_cell zY1)).trans zY1; have yY2 := (hSw.cell (lt_of_cell zY2)).trans zY2; have yb1 := (hSw.cell (lt_of_cell b1)).trans b1; have yb4 := (hSw.cell (lt_of_cell b4)).trans b4; have yg0 := (hSw.cell (lt_of_cell g0)).trans g0; have yg1 := (hSw.cell (lt_of_cell g1)).trans g1; have yg2 := (hSw.cell (lt_of_cell g2)).trans g2; have ygf := (hSw.cell (lt_of_cell gf)).trans gf;  go_simp⟩) hS0 ?_
    try simp only [Act.put, List.setIfInBounds_toArray, List.set_cons_zero, List.set_cons_succ]
    refine wpAnyH_take (i := 11) (oi := { dst := some 4, op := Go.Op.assign (Go.Operand.tmp 30), type := 2, pos := "board.go:65", after := #[{ on := 10, ground := Go.Ground.data }, { on := 0, ground := Go.Ground.phase }, { on := 1, ground := Go.Ground.phase }, { on := 2, ground := Go.Ground.phase }, { on := 3, ground := Go.Ground.phase }, { on := 4, ground := Go.Ground.phase }, { on := 5, ground := Go.Ground.phase }, { on := 6, ground := Go.Ground.phase }, { on := 7, ground := Go.Ground.phase }, { on := 8, ground := Go.Ground.phase }, { on := 9, ground := Go.Ground.phase }, { on := 10, ground := Go.Ground.phase }], guard := none }) (v := .int .i64 (gt - fx)) rfl (by kernel_rfl) (by kernel_rfl) (by kernel_rfl) (fun _ _ _ h => h) (Or.inl ⟨by rfl, by intro w2 hSw; (try dsimp only at hSw); have yX0 := (hSw.cell (lt_of_cell zX0)).trans zX0; have yX1 := (hSw.cell (lt_of_cell zX1)).trans zX1; have yX2 := (hSw.cell (lt_of_cell zX2)).trans zX2; have yY0 := (hSw.cell (lt_of_cell zY0)).trans zY0; have yY1 := (hSw.cell (lt_of_cell zY1)).trans zY1; have yY2 := (hSw.cell (lt_of_cell zY2)).trans zY2; have yb1 := (hSw.cell (lt_of_cell b1)).trans b1; have yb4 := (hSw.cell (lt_of_cell b4)).trans b4; have yg0 := (hSw.cell (lt_of_cell g0)).trans g0; have yg1 := (hSw.cell (lt_of_cell g1)).trans g1; have yg2 := (hSw.cell (lt_of_cell g2)).trans g2; have ygf := (hSw.cell (lt_of_cell gf)).trans gf;  go_simp⟩) hS0 ?_
    try simp only [Act.put, List.setIfInBounds_toArray, List.set_cons_zero, List.set_cons_succ]
    refine wpAnyH_done (by kernel_rfl) ?_ _
    clear zX0 zX1 zX2 zY0 zY1 zY2 ltX ltY b1 b4 g0 g1 g2 gf
    obtain ⟨w0ad, hwd⟩ : ∃ v, w0a.drew = v := ⟨_, rfl⟩
    have hb := hS0
    rw [hwd] at hb ⊢
    clear hS0 hwd
    replace D := Lib.hid (D.out.below hb (Nat.le_refl _))
    replace X := Lib.hid ((hb.block _ (lt_of_block X.out)).trans X.out)
    replace Y := Lib.hid ((hb.block _ (lt_of_block Y.out)).trans Y.out)
    replace B := Lib.hid (B.out.trans (hb.mono B.out.size))
    clear hb
    go_wp2_with fail
    go_ret
    exact ⟨by rw [HR2.out, if_pos HE.out] <;> rfl, B.out⟩
  · have HE := Lib.hid he
    have de : (fr == go) = false := by rw [beq_eq_false_iff_ne]; exact he
    clear he
    go_wp2_with fail
    refine wp_region_held_drew (S := fun w2 => Below w0a.heap.size w0a w2) (by kernel_rfl) (drew_b _ _) (fun hS0 => ?_)
    refine wpAnyH_take (i := 0) (oi := { dst := some 31, op := Go.Op.fieldAddr 60 (Go.Operand.tmp 5) 2, type := 0, pos := "board.go:67", after := #[], guard := none }) (v := .pointer (some ⟨P, 2, none⟩)) rfl (by kernel_rfl) (by kernel_rfl) (by kernel_rfl) (fun _ _ _ h => h) (Or.inl ⟨by rfl, by intro w2 hSw; (try dsimp only at hSw); have yX0 := (hSw.cell (lt_of_cell zX0)).trans zX0; have yX1 := (hSw.cell (lt_of_cell zX1)).trans zX1; have yX2 := (hSw.cell (lt_of_cell zX2)).trans zX2; have yY0 := (hSw.cell (lt_of_cell zY0)).trans zY0; have yY1 := (hSw.cell (lt_of_cell zY1)).trans zY1; have yY2 := (hSw.cell (lt_of_cell zY2)).trans zY2; have yb1 := (hSw.cell (lt_of_cell b1)).trans b1; have yb4 := (hSw.cell (lt_of_cell b4)).trans b4; have yg0 := (hSw.cell (lt_of_cell g0)).trans g0; have yg1 := (hSw.cell (lt_of_cell g1)).trans g1; have yg2 := (hSw.cell (lt_of_cell g2)).trans g2; have ygf := (hSw.cell (lt_of_cell gf)).trans gf;  go_simp⟩) hS0 ?_
    try simp only [Act.put, List.setIfInBounds_toArray, List.set_cons_zero, List.set_cons_succ]
    refine wpAnyH_take (i := 1) (oi := { dst := some 32, op := Go.Op.load 2 (Go.Operand.tmp 31), type := 2, pos := "board.go:67", after := #[{ on := 0, ground := Go.Ground.data }], guard := none }) (v := .int .i64 gt) rfl (by kernel_rfl) (by kernel_rfl) (by kernel_rfl) (fun _ _ _ h => h) (Or.inl ⟨by rfl, by intro w2 hSw; (try dsimp only at hSw); have yX0 := (hSw.cell (lt_of_cell zX0)).trans zX0; have yX1 := (hSw.cell (lt_of_cell zX1)).trans zX1; have yX2 := (hSw.cell (lt_of_cell zX2)).trans zX2; have yY0 := (hSw.cell (lt_of_cell zY0)).trans zY0; have yY1 := (hSw.cell (lt_of_cell zY1)).trans zY1; have yY2 := (hSw.cell (lt_of_cell zY2)).trans zY2; have yb1 := (hSw.cell (lt_of_cell b1)).trans b1; have yb4 := (hSw.cell (lt_of_cell b4)).trans b4; have yg0 := (hSw.cell (lt_of_cell g0)).trans g0; have yg1 := (hSw.cell (lt_of_cell g1)).trans g1; have yg2 := (hSw.cell (lt_of_cell g2)).trans g2; have ygf := (hSw.cell (lt_of_cell gf)).trans gf;  go_simp⟩) hS0 ?_
    try simp only [Act.put, List.setIfInBounds_toArray, List.set_cons_zero, List.set_cons_succ]
    refine wpAnyH_take (i := 2) (oi := { dst := some 33, op := Go.Op.move (Go.Operand.tmp 0), type := 64, pos := "board.go:67", after := #[], guard := none }) (v := .pointer (some ⟨b.B, 0, none⟩)) rfl (by kernel_rfl) (by kernel_rfl) (by kernel_rfl) (fun _ _ _ h => h) (Or.inl ⟨by rfl, by intro w2 hSw; (try dsimp only at hSw); have yX0 := (hSw.cell (lt_of_cell zX0)).trans zX0; have yX1 := (hSw.cell (lt_of_cell zX1)).trans zX1; have yX2 := (hSw.cell (lt_of_cell zX2)).trans zX2; have yY0 := (hSw.cell (lt_of_cell zY0)).trans zY0; have yY1 := (hSw.cell (lt_of_cell zY1)).trans zY1; have yY2 := (hSw.cell (lt_of_cell zY2)).trans zY2; have yb1 := (hSw.cell (lt_of_cell b1)).trans b1; have yb4 := (hSw.cell (lt_of_cell b4)).trans b4; have yg0 := (hSw.cell (lt_of_cell g0)).trans g0; have yg1 := (hSw.cell (lt_of_cell g1)).trans g1; have yg2 := (hSw.cell (lt_of_cell g2)).trans g2; have ygf := (hSw.cell (lt_of_cell gf)).trans gf;  go_simp⟩) hS0 ?_
    try simp only [Act.put, List.setIfInBounds_toArray, List.set_cons_zero, List.set_cons_succ]
    refine wpAnyH_take (i := 3) (oi := { dst := some 34, op := Go.Op.nilCheck (Go.Operand.tmp 33), type := 0, pos := "board.go:67", after := #[{ on := 2, ground := Go.Ground.data }], guard := none }) (v := .pointer (some ⟨b.B, 0, none⟩)) rfl (by kernel_rfl) (by kernel_rfl) (by kernel_rfl) (fun _ _ _ h => h) (Or.inl ⟨by rfl, by intro w2 hSw; (try dsimp only at hSw); have yX0 := (hSw.cell (lt_of_cell zX0)).trans zX0; have yX1 := (hSw.cell (lt_of_cell zX1)).trans zX1; have yX2 := (hSw.cell (lt_of_cell zX2)).trans zX2; have yY0 := (hSw.cell (lt_of_cell zY0)).trans zY0; have yY1 := (hSw.cell (lt_of_cell zY1)).trans zY1; have yY2 := (hSw.cell (lt_of_cell zY2)).trans zY2; have yb1 := (hSw.cell (lt_of_cell b1)).trans b1; have yb4 := (hSw.cell (lt_of_cell b4)).trans b4; have yg0 := (hSw.cell (lt_of_cell g0)).trans g0; have yg1 := (hSw.cell (lt_of_cell g1)).trans g1; have yg2 := (hSw.cell (lt_of_cell g2)).trans g2; have ygf := (hSw.cell (lt_of_cell gf)).trans gf;  go_simp⟩) hS0 ?_
    try simp only [Act.put, List.setIfInBounds_toArray, List.set_cons_zero, List.set_cons_succ]
    refine wpAnyH_take (i := 4) (oi := { dst := some 35, op := Go.Op.fieldAddr 87 (Go.Operand.tmp 34) 1, type := 0, pos := "board.go:67", after := #[{ on := 3, ground := Go.Ground.data }], guard := none }) (v := .pointer (some ⟨b.B, 4, none⟩)) rfl (by kernel_rfl) (by kernel_rfl) (by kernel_rfl) (fun _ _ _ h => h) (Or.inl ⟨by rfl, by intro w2 hSw; (try dsimp only at hSw); have yX0 := (hSw.cell (lt_of_cell zX0)).trans zX0; have yX1 := (hSw.cell (lt_of_cell zX1)).trans zX1; have yX2 := (hSw.cell (lt_of_cell zX2)).trans zX2; have yY0 := (hSw.cell (lt_of_cell zY0)).trans zY0; have yY1 := (hSw.cell (lt_of_cell zY1)).trans zY1; have yY2 := (hSw.cell (lt_of_cell zY2)).trans zY2; have yb1 := (hSw.cell (lt_of_cell b1)).trans b1; have yb4 := (hSw.cell (lt_of_cell b4)).trans b4; have yg0 := (hSw.cell (lt_of_cell g0)).trans g0; have yg1 := (hSw.cell (lt_of_cell g1)).trans g1; have yg2 := (hSw.cell (lt_of_cell g2)).trans g2; have ygf := (hSw.cell (lt_of_cell gf)).trans gf;  go_simp⟩) hS0 ?_
    try simp only [Act.put, List.setIfInBounds_toArray, List.set_cons_zero, List.set_cons_succ]
    refine wpAnyH_take (i := 5) (oi := { dst := some 36, op := Go.Op.load 41 (Go.Operand.tmp 35), type := 41, pos := "board.go:67", after := #[{ on := 4, ground := Go.Ground.data }], guard := none }) (v := .slice (some ⟨b.F, 0, none⟩) b.l.n b.l.n) rfl (by kernel_rfl) (by kernel_rfl) (by kernel_rfl) (fun _ _ _ h => h) (Or.inl ⟨by rfl, by intro w2 hSw; (try dsimp only at hSw); have yX0 := (hSw.cell (lt_of_cell zX0)).trans zX0; have yX1 := (hSw.cell (lt_of_cell zX1)).trans zX1; have yX2 := (hSw.cell (lt_of_cell zX2)).trans zX2; have yY0 := (hSw.cell (lt_of_cell zY0)).trans zY0; have yY1 := (hSw.cell (lt_of_cell zY1)).trans zY1; have yY2 := (hSw.cell (lt_of_cell zY2)).trans zY2; have yb1 := (hSw.cell (lt_of_cell b1)).trans b1; have yb4 := (hSw.cell (lt_of_cell b4)).trans b4; have yg0 := (hSw.cell (lt_of_cell g0)).trans g0; have yg1 := (hSw.cell (lt_of_cell g1)).trans g1; have yg2 := (hSw.cell (lt_of_cell g2)).trans g2; have ygf := (hSw.cell (lt_of_cell gf)).trans gf;  go_simp⟩) hS0 ?_
    try simp only [Act.put, List.setIfInBounds_toArray, List.set_cons_zero, List.set_cons_succ]
    refine wpAnyH_take (i := 6) (oi := { dst := some 37, op := Go.Op.fieldAddr 79 (Go.Operand.tmp 3) 0, type := 0, pos := "board.go:67", after := #[], guard := none }) (v := .pointer (some ⟨R, 0, none⟩)) rfl (by kernel_rfl) (by kernel_rfl) (by kernel_rfl) (fun _ _ _ h => h) (Or.inl ⟨by rfl, by intro w2 hSw; (try dsimp only at hSw); have yX0 := (hSw.cell (lt_of_cell zX0)).trans zX0; have yX1 := (hSw.cell (lt_of_cell zX1)).trans zX1; have yX2 := (hSw.cell (lt_of_cell zX2)).trans zX2; have yY0 := (hSw.cell (lt_of_cell zY0)).trans zY0; have yY1 := (hSw.cell (lt_of_cell zY1)).trans zY1; have yY2 := (hSw.cell (lt_of_cell zY2)).trans zY2; have yb1 := (hSw.cell (lt_of_cell b1)).trans b1; have yb4 := (hSw.cell (lt_of_cell b4)).trans b4; have yg0 := (hSw.cell (lt_of_cell g0)).trans g0; have yg1 := (hSw.cell (lt_of_cell g1)).trans g1; have yg2 := (hSw.cell (lt_of_cell g2)).trans g2; have ygf := (hSw.cell (lt_of_cell gf)).trans gf;  go_simp⟩) hS0 ?_
    try simp only [Act.put, List.setIfInBounds_toArray, List.set_cons_zero, List.set_cons_succ]
    refine wpAnyH_take (i := 7) (oi := { dst := some 38, op := Go.Op.load 3 (Go.Operand.tmp 37), type := 3, pos := "board.go:67", after := #[{ on := 6, ground := Go.Ground.data }], guard := none }) (v := .int .i64 (x : Int)) rfl (by kernel_rfl) (by kernel_rfl) (by kernel_rfl) (fun _ _ _ h => h) (Or.inl ⟨by rfl, by intro w2 hSw; (try dsimp only at hSw); have yX0 := (hSw.cell (lt_of_cell zX0)).trans zX0; have yX1 := (hSw.cell (lt_of_cell zX1)).trans zX1; have yX2 := (hSw.cell (lt_of_cell zX2)).trans zX2; have yY0 := (hSw.cell (lt_of_cell zY0)).trans zY0; have yY1 := (hSw.cell (lt_of_cell zY1)).trans zY1; have yY2 := (hSw.cell (lt_of_cell zY2)).trans zY2; have yb1 := (hSw.cell (lt_of_cell b1)).trans b1; have yb4 := (hSw.cell (lt_of_cell b4)).trans b4; have yg0 := (hSw.cell (lt_of_cell g0)).trans g0; have yg1 := (hSw.cell (lt_of_cell g1)).trans g1; have yg2 := (hSw.cell (lt_of_cell g2)).trans g2; have ygf := (hSw.cell (lt_of_cell gf)).trans gf;  go_simp⟩) hS0 ?_
    try simp only [Act.put, List.setIfInBounds_toArray, List.set_cons_zero, List.set_cons_succ]
    refine wpAnyH_take (i := 8) (oi := { dst := some 39, op := Go.Op.indexAddr 41 (Go.Operand.tmp 36) (Go.Operand.tmp 38), type := 0, pos := "board.go:67", after := #[{ on := 5, ground := Go.Ground.data }, { on := 7, ground := Go.Ground.data }], guard := none }) (v := .pointer (some ⟨b.F, x, none⟩)) rfl (by kernel_rfl) (by kernel_rfl) (by kernel_rfl) (fun _ _ _ h => h) (Or.inl ⟨by rfl, by intro w2 hSw; (try dsimp only at hSw); have yX0 := (hSw.cell (lt_of_cell zX0)).trans zX0; have yX1 := (hSw.cell (lt_of_cell zX1)).trans zX1; have yX2 := (hSw.cell (lt_of_cell zX2)).trans zX2; have yY0 := (hSw.cell (lt_of_cell zY0)).trans zY0; have yY1 := (hSw.cell (lt_of_cell zY1)).trans zY1; have yY2 := (hSw.cell (lt_of_cell zY2)).trans zY2; have yb1 := (hSw.cell (lt_of_cell b1)).trans b1; have yb4 := (hSw.cell (lt_of_cell b4)).trans b4; have yg0 := (hSw.cell (lt_of_cell g0)).trans g0; have yg1 := (hSw.cell (lt_of_cell g1)).trans g1; have yg2 := (hSw.cell (lt_of_cell g2)).trans g2; have ygf := (hSw.cell (lt_of_cell gf)).trans gf;  go_simp⟩) hS0 ?_
    try simp only [Act.put, List.setIfInBounds_toArray, List.set_cons_zero, List.set_cons_succ]
    refine wpAnyH_take (i := 9) (oi := { dst := some 40, op := Go.Op.load 2 (Go.Operand.tmp 39), type := 2, pos := "board.go:67", after := #[{ on := 8, ground := Go.Ground.data }], guard := none }) (v := .int .i64 fx) rfl (by kernel_rfl) (by kernel_rfl) (by kernel_rfl) (fun _ _ _ h => h) (Or.inl ⟨by rfl, by intro w2 hSw; (try dsimp only at hSw); have yX0 := (hSw.cell (lt_of_cell zX0)).trans zX0; have yX1 := (hSw.cell (lt_of_cell zX1)).trans zX1; have yX2 := (hSw.cell (lt_of_cell zX2)).trans zX2; have yY0 := (hSw.cell (lt_of_cell zY0)).trans zY0; have yY1 := (hSw.cell (lt_of_cell zY1)).trans zY1; have yY2 := (hSw.cell (lt_of_cell zY2)).trans zY2; have yb1 := (hSw.cell (lt_of_cell b1)).trans b1; have yb4 := (hSw.cell (lt_of_cell b4)).trans b4; have yg0 := (hSw.cell (lt_of_cell g0)).trans g0; have yg1 := (hSw.cell (lt_of_cell g1)).trans g1; have yg2 := (hSw.cell (lt_of_cell g2)).trans g2; have ygf := (hSw.cell (lt_of_cell gf)).trans gf;  go_simp⟩) hS0 ?_
    try simp only [Act.put, List.setIfInBounds_toArray, List.set_cons_zero, List.set_cons_succ]
    refine wpAnyH_take (i := 10) (oi := { dst := some 41, op := Go.Op.binOp Go.BinOp.add 2 (Go.Operand.tmp 32) (Go.Operand.tmp 40) 2, type := 2, pos := "board.go:67", after := #[{ on := 1, ground := Go.Ground.data }, { on := 9, ground := Go.Ground.data }], guard := none }) (v := .int .i64 (gt + fx)) rfl (by kernel_rfl) (by kernel_rfl) (by kernel_rfl) (fun _ _ _ h => h) (Or.inl ⟨by rfl, by intro w2 hSw; (try dsimp only at hSw); have yX0 := (hSw.cell (lt_of_cell zX0)).trans zX0; have yX1 := (hSw.cell (lt_of_cell zX1)).trans zX1; have yX2 := (hSw.cell (lt_of_cell zX2)).trans zX2; have yY0 := (hSw.cell (lt_of_cell zY0)).trans zY0; have yY1 := (hSw.cell (lt_of_cell zY1)).trans zY1; have yY2 := (hSw.cell (lt_of_cell zY2)).trans zY2; have yb1 := (hSw.cell (lt_of_cell b1)).trans b1; have yb4 := (hSw.cell (lt_of_cell b4)).trans b4; have yg0 := (hSw.cell (lt_of_cell g0)).trans g0; have yg1 := (hSw.cell (lt_of_cell g1)).trans g1; have yg2 := (hSw.cell (lt_of_cell g2)).trans g2; have ygf := (hSw.cell (lt_of_cell gf)).trans gf;  go_simp⟩) hS0 ?_
    try simp only [Act.put, List.setIfInBounds_toArray, List.set_cons_zero, List.set_cons_succ]
    refine wpAnyH_take (i := 11) (oi := { dst := some 4, op := Go.Op.assign (Go.Operand.tmp 41), type := 2, pos := "board.go:67", after := #[{ on := 10, ground := Go.Ground.data }, { on := 0, ground := Go.Ground.phase }, { on := 1, ground := Go.Ground.phase }, { on := 2, ground := Go.Ground.phase }, { on := 3, ground := Go.Ground.phase }, { on := 4, ground := Go.Ground.phase }, { on := 5, ground := Go.Ground.phase }, { on := 6, ground := Go.Ground.phase }, { on := 7, ground := Go.Ground.phase }, { on := 8, ground := Go.Ground.phase }, { on := 9, ground := Go.Ground.phase }, { on := 10, ground := Go.Ground.phase }], guard := none }) (v := .int .i64 (gt + fx)) rfl (by kernel_rfl) (by kernel_rfl) (by kernel_rfl) (fun _ _ _ h => h) (Or.inl ⟨by rfl, by intro w2 hSw; (try dsimp only at hSw); have yX0 := (hSw.cell (lt_of_cell zX0)).trans zX0; have yX1 := (hSw.cell (lt_of_cell zX1)).trans zX1; have yX2 := (hSw.cell (lt_of_cell zX2)).trans zX2; have yY0 := (hSw.cell (lt_of_cell zY0)).trans zY0; have yY1 := (hSw.cell (lt_of_cell zY1)).trans zY1; have yY2 := (hSw.cell (lt_of_cell zY2)).trans zY2; have yb1 := (hSw.cell (lt_of_cell b1)).trans b1; have yb4 := (hSw.cell (lt_of_cell b4)).trans b4; have yg0 := (hSw.cell (lt_of_cell g0)).trans g0; have yg1 := (hSw.cell (lt_of_cell g1)).trans g1; have yg2 := (hSw.cell (lt_of_cell g2)).trans g2; have ygf := (hSw.cell (lt_of_cell gf)).trans gf;  go_simp⟩) hS0 ?_
    try simp only [Act.put, List.setIfInBounds_toArray, List.set_cons_zero, List.set_cons_succ]
    refine wpAnyH_done (by kernel_rfl) ?_ _
    clear zX0 zX1 zX2 zY0 zY1 zY2 ltX ltY b1 b4 g0 g1 g2 gf
    obtain ⟨w0ad, hwd⟩ : ∃ v, w0a.drew = v := ⟨_, rfl⟩
    have hb := hS0
    rw [hwd] at hb ⊢
    clear hS0 hwd
    replace D := Lib.hid (D.out.below hb (Nat.le_refl _))
    replace X := Lib.hid ((hb.block _ (lt_of_block X.out)).trans X.out)
    replace Y := Lib.hid ((hb.block _ (lt_of_block Y.out)).trans Y.out)
    replace B := Lib.hid (B.out.trans (hb.mono B.out.size))
    clear hb
    go_wp2_with fail
    go_ret
    exact ⟨by rw [HR2.out, if_neg HE.out] <;> rfl, B.out⟩
end
end Go.Proofs.Ytigohccehllmnaa

namespace Go.Proofs.Ytigohccehllmnaa
set_option linter.unusedSimpArgs false
set_option linter.unusedVariables false
open Go.RowKit Go.Shelf
abbrev opSe0 : Oper := { dst := some 6, op := Go.Op.fieldAddr 79 (Go.Operand.tmp 4) 1, type := 0, pos := "board.go:78", after := #[], guard := none }
abbrev opSe1 : Oper := { dst := some 7, op := Go.Op.load 3 (Go.Operand.tmp 6), type := 3, pos := "board.go:78", after := #[{ on := 0, ground := Go.Ground.data }], guard := none }
abbrev opSe2 : Oper := { dst := some 8, op := Go.Op.move (Go.Operand.tmp 0), type := 64, pos := "board.go:78", after := #[], guard := none }
abbrev opSe3 : Oper := { dst := some 9, op := Go.Op.nilCheck (Go.Operand.tmp 8), type := 0, pos := "board.go:78", after := #[{ on := 2, ground := Go.Ground.data }], guard := none }
abbrev opSe4 : Oper := { dst := some 10, op := Go.Op.fieldAddr 87 (Go.Operand.tmp 9) 0, type := 0, pos := "board.go:78", after := #[{ on := 3, ground := Go.Ground.data }], guard := none }
abbrev opSe5 : Oper := { dst := some 11, op := Go.Op.fieldAddr 25 (Go.Operand.tmp 10) 1, type := 0, pos := "board.go:78", after := #[{ on := 4, ground := Go.Ground.data }], guard := none }
abbrev opSe6 : Oper := { dst := some 12, op := Go.Op.load 22 (Go.Operand.tmp 11), type := 22, pos := "board.go:78", after := #[{ on := 5, ground := Go.Ground.data }], guard := none }
abbrev opSe7 : Oper := { dst := some 13, op := Go.Op.fieldAddr 79 (Go.Operand.tmp 4) 0, type := 0, pos := "board.go:78", after := #[], guard := none }
abbrev opSe8 : Oper := { dst := some 14, op := Go.Op.load 3 (Go.Operand.tmp 13), type := 3, pos := "board.go:78", after := #[{ on := 7, ground := Go.Ground.data }], guard := none }
abbrev opSe9 : Oper := { dst := some 15, op := Go.Op.indexAddr 22 (Go.Operand.tmp 12) (Go.Operand.tmp 14), type := 0, pos := "board.go:78", after := #[{ on := 6, ground := Go.Ground.data }, { on := 8, ground := Go.Ground.data }], guard := none }
abbrev opSe10 : Oper := { dst := some 16, op := Go.Op.fieldAddr 60 (Go.Operand.tmp 15) 0, type := 0, pos := "board.go:78", after := #[{ on := 9, ground := Go.Ground.data }], guard := none }
abbrev opSe11 : Oper := { dst := some 17, op := Go.Op.load 3 (Go.Operand.tmp 16), type := 3, pos := "board.go:78", after := #[{ on := 10, ground := Go.Ground.data }], guard := none }
abbrev opSe12 : Oper := { dst := some 18, op := Go.Op.binOp Go.BinOp.eql 3 (Go.Operand.tmp 7) (Go.Operand.tmp 17) 3, type := 4, pos := "board.go:78", after := #[{ on := 1, ground := Go.Ground.data }, { on := 11, ground := Go.Ground.data }], guard := none }

theorem Bd.frozen {W : World} {b : BD} {f : Nat → Int} (h : Bd W b f) (o : Nat) : W.frozen? ⟨b.F, o, none⟩ = false := by
  obtain ⟨X, hX, -⟩ := h.row; exact frozen_row hX
theorem Bd.set {W : World} {b : BD} {f g : Nat → Int} (h : Bd W b f) {x : Nat} (hx : x < b.l.n) {v : Int} (hv : g x = v) (hg : ∀ k, k ≠ x → g k = f k) : Bd (W.setCell ⟨b.F, x, none⟩ (.int .i64 v)) b g := by
  obtain ⟨X, hX, hs⟩ := h.row
  have hK := keeps_setCell W b.F x (.int .i64 v)
  have hl := lt_of_block hX
  have k : ∀ p o v', p ≠ b.F → W.cell? ⟨p, o, none⟩ = some v' → (W.setCell ⟨b.F, x, none⟩ (.int .i64 v)).cell? ⟨p, o, none⟩ = some v' := fun p o v' hp hv => (keep_cells hK (lt_of_cell hv) hp o).trans hv
  have hset := set_same x (.int .i64 v) hX
  refine ⟨k _ _ _ h.nB h.c0, k _ _ _ h.nB h.c1, k _ _ _ h.nB h.c2, k _ _ _ h.nB h.c3, k _ _ _ h.nB h.c4, fun j hj => ⟨k _ _ _ h.nZ (h.z j hj).1, k _ _ _ h.nZ (h.z j hj).2.1, k _ _ _ h.nZ (h.z j hj).2.2⟩, fun j hj => ?_, ⟨_, hset, by simpa using hs⟩, h.ls.keepN hK h.nL, h.rs.keepN hK h.nR, h.nB, h.nZ, h.nL, h.nR⟩
  rw [cell_row hset]
  by_cases e : j = x
  · subst e
    rw [Array.getElem?_setIfInBounds, if_pos rfl, if_pos (by omega), hv]
  · rw [Array.getElem?_setIfInBounds, if_neg (Ne.symm e), hg j e, ← cell_row hX]
    exact h.fl j hj
section
attribute [local go_sem ↓] exec_app at_app
attribute [local go_sem] Oper.semAt_some
set_option maxRecDepth 100000 in
set_option maxHeartbeats 4000000 in
theorem open66 (b : BD) (f : Nat → Int) (x : Nat) (fr to : Int) (w : World) (h : Bd w b f) (hok : BdOk b) (hx : x < b.l.n) (hf : Small b f) :
    Calls Try.prog 66 #[.pointer (some ⟨b.B, 0, none⟩), .agg #[.int .i64 (x : Int), .int .i64 fr, .int .i64 to]] w fun e w' => e = .returned (.bool (opF b.zs f ⟨x, fr, to⟩)) ∧ Below w.heap.size w w' := by
  obtain ⟨R, hR⟩ : ∃ v, w.heap.size = v := ⟨_, rfl⟩
  have hb0 := below_alloc_ w (.cells #[.int .i64 (x : Int), .int .i64 fr, .int .i64 to] 79)
  have hr0 := heap_alloc_new_ w (.cells #[.int .i64 (x : Int), .int .i64 fr, .int .i64 to] 79)
  have hz0 : (w.alloc (.cells #[.int .i64 (x : Int), .int .i64 fr, .int .i64 to] 79)).heap.size = w.heap.size + 1 := by simp
  obtain ⟨w0, hw0⟩ : ∃ v, w.alloc (.cells #[.int .i64 (x : Int), .int .i64 fr, .int .i64 to] 79) = v := ⟨_, rfl⟩
  rw [hw0] at hb0 hr0 hz0
  rw [hR] at hr0 hz0
  have hB := hb0
  have D := Lib.hid (h.below hB (Nat.le_refl _))
  have X := Lib.hid hr0
  have HW0 := Lib.hid hw0
  have B := Lib.hid hB
  have HR := Lib.hid hR
  clear hB hR hb0 hr0 hz0 hw0 h
  have ltX : R < w0.heap.size := lt_of_block X.out
  have zX0 : w0.cell? ⟨R, 0, none⟩ = some (.int .i64 (x : Int)) := by rw [cell_row X.out]; rfl
  have zX1 : w0.cell? ⟨R, 1, none⟩ = some (.int .i64 fr) := by rw [cell_row X.out]; rfl
  have zX2 : w0.cell? ⟨R, 2, none⟩ = some (.int .i64 to) := by rw [cell_row X.out]; rfl
  go_enter Try.func66, Try.ntmps66
  go_wp2_with fail
  try rw [HW0.out]
  try rw [HR.out]
  try simp only [Nat.add_assoc, Nat.reduceAdd]
  try go_wp2_with fail
  clear zX0 zX1 zX2 ltX
  refine (room82 b f x fr to w0 D.out hok hx hf).mono ?_
  rintro en w1 ⟨rfl, hb⟩
  replace D := Lib.hid (D.out.below hb (Nat.le_refl _))
  replace X := Lib.hid ((hb.block _ (lt_of_block X.out)).trans X.out)
  replace B := Lib.hid (B.out.trans (hb.mono B.out.size))
  obtain ⟨r, hr⟩ : ∃ r, roomW b.zs f ⟨x, fr, to⟩ = r := ⟨_, rfl⟩
  have HO := Lib.hid (show opF b.zs f ⟨x, fr, to⟩ = decide (0 < r) by unfold opF; rw [hr])
  rw [hr]
  clear hr
  try clear hb
  go_wp2_with fail
  go_ret
  exact ⟨by rw [HO.out] <;> rfl, B.out⟩
set_option maxRecDepth 100000 in
set_option maxHeartbeats 4000000 in
theorem back87 (x : Nat) (fr to : Int) (w : World) :
    Calls Try.prog 87 #[.agg #[.int .i64 (x : Int), .int .i64 fr, .int .i64 to]] w fun e w' => e = .returned (.agg #[.int .i64 (x : Int), .int .i64 to, .int .i64 fr]) ∧ Below w.heap.size w w' := by
  have hk := (below_alloc_ w (.cells #[.int .i64 (x : Int), .int .i64 fr, .int .i64 to] 79)).trans ((below_alloc_ (w.alloc (.cells #[.int .i64 (x : Int), .int .i64 fr, .int .i64 to] 79)) (.cells #[.int .i64 (x : Int), .int .i64 to, .int .i64 fr] 79)).mono (by simp))
  have hr1 := heap_alloc_new_ (w.alloc (.cells #[.int .i64 (x : Int), .int .i64 fr, .int .i64 to] 79)) (.cells #[.int .i64 (x : Int), .int .i64 to, .int .i64 fr] 79)
  have HK := Lib.hid hk
  obtain ⟨w1, hw1⟩ : ∃ w1, (w.alloc (.cells #[.int .i64 (x : Int), .int .i64 fr, .int .i64 to] 79)).alloc (.cells #[.int .i64 (x : Int), .int .i64 to, .int .i64 fr] 79) = w1 := ⟨_, rfl⟩
  have HW := Lib.hid hw1
  have hs : (w.alloc (.cells #[.int .i64 (x : Int), .int .i64 fr, .int .i64 to] 79)).heap.size = w.heap.size + 1 := by simp
  rw [hw1, hs] at hr1
  have HR := Lib.hid hr1
  clear hk hr1 hw1 hs
  go_enter Try.func87, Try.ntmps87
  go_wp2_with fail
  try rw [HW.out]
  have y0 : w1.cell? ⟨w.heap.size + 1, 0, none⟩ = some (.int .i64 (x : Int)) := by rw [cell_row HR.out]; rfl
  have y1 : w1.cell? ⟨w.heap.size + 1, 1, none⟩ = some (.int .i64 to) := by rw [cell_row HR.out]; rfl
  have y2 : w1.cell? ⟨w.heap.size + 1, 2, none⟩ = some (.int .i64 fr) := by rw [cell_row HR.out]; rfl
  refine bodyPost_ret (v := .agg #[.int .i64 (x : Int), .int .i64 to, .int .i64 fr]) (by simp [results, Try.results87, go_sem, y0, y1, y2]) rfl ?_
  exact ⟨rfl, by rw [← HW.out]; exact HK.out⟩
set_option maxRecDepth 100000 in
set_option maxHeartbeats 4000000 in
theorem openBack81 (b : BD) (f : Nat → Int) (x : Nat) (fr to : Int) (w : World) (h : Bd w b f) (hok : BdOk b) (hx : x < b.l.n) (hf : Small b f) :
    Calls Try.prog 81 #[.pointer (some ⟨b.B, 0, none⟩), .agg #[.int .i64 (x : Int), .int .i64 fr, .int .i64 to]] w fun e w' => e = .returned (.bool (opB b.zs f ⟨x, fr, to⟩)) ∧ Below w.heap.size w w' := by
  obtain ⟨R, hR⟩ : ∃ v, w.heap.size = v := ⟨_, rfl⟩
  have hb0 := below_alloc_ w (.cells #[.int .i64 (x : Int), .int .i64 fr, .int .i64 to] 79)
  have hr0 := heap_alloc_new_ w (.cells #[.int .i64 (x : Int), .int .i64 fr, .int .i64 to] 79)
  have hz0 : (w.alloc (.cells #[.int .i64 (x : Int), .int .i64 fr, .int .i64 to] 79)).heap.size = w.heap.size + 1 := by simp
  obtain ⟨w0, hw0⟩ : ∃ v, w.alloc (.cells #[.int .i64 (x : Int), .int .i64 fr, .int .i64 to] 79) = v := ⟨_, rfl⟩
  rw [hw0] at hb0 hr0 hz0
  rw [hR] at hr0 hz0
  have hB := hb0
  have D := Lib.hid (h.below hB (Nat.le_refl _))
  have X := Lib.hid hr0
  have HW0 := Lib.hid hw0
  have B := Lib.hid hB
  have HR := Lib.hid hR
  clear hB hR hb0 hr0 hz0 hw0 h
  have ltX : R < w0.heap.size := lt_of_block X.out
  have zX0 : w0.cell? ⟨R, 0, none⟩ = some (.int .i64 (x : Int)) := by rw [cell_row X.out]; rfl
  have zX1 : w0.cell? ⟨R, 1, none⟩ = some (.int .i64 fr) := by rw [cell_row X.out]; rfl
  have zX2 : w0.cell? ⟨R, 2, none⟩ = some (.int .i64 to) := by rw [cell_row X.out]; rfl
  go_enter Try.func81, Try.ntmps81
  go_wp2_with fail
  try rw [HW0.out]
  try rw [HR.out]
  try simp only [Nat.add_assoc, Nat.reduceAdd]
  try go_wp2_with fail
  clear zX0 zX1 zX2 ltX
  refine (back87 x fr to w0).mono ?_
  rintro en w1 ⟨rfl, hb⟩
  replace D := Lib.hid (D.out.below hb (Nat.le_refl _))
  replace X := Lib.hid ((hb.block _ (lt_of_block X.out)).trans X.out)
  replace B := Lib.hid (B.out.trans (hb.mono B.out.size))
  try clear hb
  have ltX : R < w1.heap.size := lt_of_block X.out
  have zX0 : w1.cell? ⟨R, 0, none⟩ = some (.int .i64 (x : Int)) := by rw [cell_row X.out]; rfl
  have zX1 : w1.cell? ⟨R, 1, none⟩ = some (.int .i64 fr) := by rw [cell_row X.out]; rfl
  have zX2 : w1.cell? ⟨R, 2, none⟩ = some (.int .i64 to) := by rw [cell_row X.out]; rfl
  go_wp2_with fail
  clear zX0 zX1 zX2 ltX
  refine (open66 b f x to fr w1 D.out hok hx hf).mono ?_
  rintro en w2 ⟨rfl, hb⟩
  replace D := Lib.hid (D.out.below hb (Nat.le_refl _))
  replace X := Lib.hid ((hb.block _ (lt_of_block X.out)).trans X.out)
  replace B := Lib.hid (B.out.trans (hb.mono B.out.size))
  try clear hb
  go_wp2_with fail
  go_ret
  exact ⟨rfl, B.out⟩
set_option maxRecDepth 100000 in
set_option maxHeartbeats 16000000 in
theorem send88 (b : BD) (f : Nat → Int) (x : Nat) (fr to t : Int) (w : World) (h : Bd w b f) (hok : BdOk b) (hx : x < b.l.n) (hf : Small b f) (ht : -1000000000 ≤ t ∧ t ≤ 1000000000) :
    Calls Try.prog 88 #[.pointer (some ⟨b.B, 0, none⟩), .agg #[.int .i64 (x : Int), .int .i64 fr, .int .i64 to], .int .i64 t] w fun e w' => e = .returned (.tuple #[]) ∧ Bd w' b (sendF b.zs f ⟨x, fr, to⟩ t) ∧ Keeps (fun k => k = b.F) w w' := by
  have hn := hok.n
  obtain ⟨R, hR⟩ : ∃ v, w.heap.size = v := ⟨_, rfl⟩
  have hb0 := below_alloc_ w (.cells #[.int .i64 (x : Int), .int .i64 fr, .int .i64 to] 79)
  have hr0 := heap_alloc_new_ w (.cells #[.int .i64 (x : Int), .int .i64 fr, .int .i64 to] 79)
  have hz0 : (w.alloc (.cells #[.int .i64 (x : Int), .int .i64 fr, .int .i64 to] 79)).heap.size = w.heap.size + 1 := by simp
  obtain ⟨w0, hw0⟩ : ∃ v, w.alloc (.cells #[.int .i64 (x : Int), .int .i64 fr, .int .i64 to] 79) = v := ⟨_, rfl⟩
  rw [hw0] at hb0 hr0 hz0
  rw [hR] at hr0 hz0
  have hB := hb0
  have D := Lib.hid (h.below hB (Nat.le_refl _))
  have X := Lib.hid hr0
  have HW0 := Lib.hid hw0
  have B := Lib.hid hB
  have HR := Lib.hid hR
  clear hB hR hb0 hr0 hz0 hw0 h
  obtain ⟨g, hg⟩ : ∃ g, lAt b.zs x = g := ⟨_, rfl⟩
  obtain ⟨fx, hfx⟩ : ∃ g, f x = g := ⟨_, rfl⟩
  have hb2 := hf x hx
  rw [hfx] at hb2
  obtain ⟨go, gw, gt⟩ := g
  have HG := Lib.hid hg
  have HF := Lib.hid hfx
  have w1 : IntKind.i64.wrap (fx - t) = fx - t := IntWalk.i64_in _ (by omega)
  have w2' : IntKind.i64.wrap (fx + t) = fx + t := IntWalk.i64_in _ (by omega)
  have i0 : (0 : Int) ≤ (x : Int) := by omega
  have i1 : (x : Int) < (b.l.n : Int) := by omega
  have HS1 := Lib.hid (fun k (hk : k ≠ x) => show sendF b.zs f ⟨x, fr, to⟩ t k = f k from if_neg hk)
  have HS2 := Lib.hid (show fr = go → sendF b.zs f ⟨x, fr, to⟩ t x = fx + t from fun e => by unfold sendF; rw [if_pos rfl, hg, if_pos e, hfx])
  have HS3 := Lib.hid (show fr ≠ go → sendF b.zs f ⟨x, fr, to⟩ t x = fx - t from fun e => by unfold sendF; rw [if_pos rfl, hg, if_neg e, hfx])
  clear hg hfx hb2 hok hf ht
  have ltX : R < w0.heap.size := lt_of_block X.out
  have zX0 : w0.cell? ⟨R, 0, none⟩ = some (.int .i64 (x : Int)) := by rw [cell_row X.out]; rfl
  have zX1 : w0.cell? ⟨R, 1, none⟩ = some (.int .i64 fr) := by rw [cell_row X.out]; rfl
  have zX2 : w0.cell? ⟨R, 2, none⟩ = some (.int .i64 to) := by rw [cell_row X.out]; rfl
  have b1 := D.out.c1
  have b4 := D.out.c4
  have g0 : w0.cell? ⟨b.Z, x * 3, none⟩ = some (.int .i64 go) := (D.out.z x hx).1.trans (by rw [HG.out])
  have gf : w0.cell? ⟨b.F, x, none⟩ = some (.int .i64 fx) := (D.out.fl x hx).trans (by rw [HF.out])
  go_enter Try.func88, Try.ntmps88
  go_wp2_with fail
  try rw [HW0.out]
  try rw [HR.out]
  try simp only [Nat.add_assoc, Nat.reduceAdd]
  try go_wp2_with fail
  by_cases he : fr = go
  · have HE := Lib.hid he
    have de : (fr == go) = true := by rw [beq_iff_eq]; exact he
    clear he
    refine wp_region_held_drew (S := fun w2 => Below w0.heap.size w0 w2) (by kernel_rfl) (drew_b _ _) (fun hS0 => ?_)
    refine wpAnyH_take (i := 0) (oi := opSe0) (v := .pointer (some ⟨R, 1, none⟩)) rfl (by kernel_rfl) (by kernel_rfl) (by kernel_rfl) (fun _ _ _ h => h) (Or.inl ⟨by rfl, by intro w2 hSw; (try dsimp only at hSw); have yX0 := (hSw.cell (lt_of_cell zX0)).trans zX0; have yX1 := (hSw.cell (lt_of_cell zX1)).trans zX1; have yX2 := (hSw.cell (lt_of_cell zX2)).trans zX2; have yb1 := (hSw.cell (lt_of_cell b1)).trans b1; have yb4 := (hSw.cell (lt_of_cell b4)).trans b4; have yg0 := (hSw.cell (lt_of_cell g0)).trans g0; have ygf := (hSw.cell (lt_of_cell gf)).trans gf;  go_simp⟩) hS0 ?_
    try simp only [Act.put, List.setIfInBounds_toArray, List.set_cons_zero, List.set_cons_succ]
    refine wpAnyH_take (i := 1) (oi := opSe1) (v := .int .i64 fr) rfl (by kernel_rfl) (by kernel_rfl) (by kernel_rfl) (fun _ _ _ h => h) (Or.inl ⟨by rfl, by intro w2 hSw; (try dsimp only at hSw); have yX0 := (hSw.cell (lt_of_cell zX0)).trans zX0; have yX1 := (hSw.cell (lt_of_cell zX1)).trans zX1; have yX2 := (hSw.cell (lt_of_cell zX2)).trans zX2; have yb1 := (hSw.cell (lt_of_cell b1)).trans b1; have yb4 := (hSw.cell (lt_of_cell b4)).trans b4; have yg0 := (hSw.cell (lt_of_cell g0)).trans g0; have ygf := (hSw.cell (lt_of_cell gf)).trans gf;  go_simp⟩) hS0 ?_
    try simp only [Act.put, List.setIfInBounds_toArray, List.set_cons_zero, List.set_cons_succ]
    refine wpAnyH_take (i := 2) (oi := opSe2) (v := .pointer (some ⟨b.B, 0, none⟩)) rfl (by kernel_rfl) (by kernel_rfl) (by kernel_rfl) (fun _ _ _ h => h) (Or.inl ⟨by rfl, by intro w2 hSw; (try dsimp only at hSw); have yX0 := (hSw.cell (lt_of_cell zX0)).trans zX0; have yX1 := (hSw.cell (lt_of_cell zX1)).trans zX1; have yX2 := (hSw.cell (lt_of_cell zX2)).trans zX2; have yb1 := (hSw.cell (lt_of_cell b1)).trans b1; have yb4 := (hSw.cell (lt_of_cell b4)).trans b4; have yg0 := (hSw.cell (lt_of_cell g0)).trans g0; have ygf := (hSw.cell (lt_of_cell gf)).trans gf;  go_simp⟩) hS0 ?_
    try simp only [Act.put, List.setIfInBounds_toArray, List.set_cons_zero, List.set_cons_succ]
    refine wpAnyH_take (i := 3) (oi := opSe3) (v := .pointer (some ⟨b.B, 0, none⟩)) rfl (by kernel_rfl) (by kernel_rfl) (by kernel_rfl) (fun _ _ _ h => h) (Or.inl ⟨by rfl, by intro w2 hSw; (try dsimp only at hSw); have yX0 := (hSw.cell (lt_of_cell zX0)).trans zX0; have yX1 := (hSw.cell (lt_of_cell zX1)).trans zX1; have yX2 := (hSw.cell (lt_of_cell zX2)).trans zX2; have yb1 := (hSw.cell (lt_of_cell b1)).trans b1; have yb4 := (hSw.cell (lt_of_cell b4)).trans b4; have yg0 := (hSw.cell (lt_of_cell g0)).trans g0; have ygf := (hSw.cell (lt_of_cell gf)).trans gf;  go_simp⟩) hS0 ?_
    try simp only [Act.put, List.setIfInBounds_toArray, List.set_cons_zero, List.set_cons_succ]
    refine wpAnyH_take (i := 4) (oi := opSe4) (v := .pointer (some ⟨b.B, 0, none⟩)) rfl (by kernel_rfl) (by kernel_rfl) (by kernel_rfl) (fun _ _ _ h => h) (Or.inl ⟨by rfl, by intro w2 hSw; (try dsimp only at hSw); have yX0 := (hSw.cell (lt_of_cell zX0)).trans zX0; have yX1 := (hSw.cell (lt_of_cell zX1)).trans zX1; have yX2 := (hSw.cell (lt_of_cell zX2)).trans zX2; have yb1 := (hSw.cell (lt_of_cell b1)).trans b1; have yb4 := (hSw.cell (lt_of_cell b4)).trans b4; have yg0 := (hSw.cell (lt_of_cell g0)).trans g0; have ygf := (hSw.cell (lt_of_cell gf)).trans gf;  go_simp⟩) hS0 ?_
    try simp only [Act.put, List.setIfInBounds_toArray, List.set_cons_zero, List.set_cons_succ]
    refine wpAnyH_take (i := 5) (oi := opSe5) (v := .pointer (some ⟨b.B, 1, none⟩)) rfl (by kernel_rfl) (by kernel_rfl) (by kernel_rfl) (fun _ _ _ h => h) (Or.inl ⟨by rfl, by intro w2 hSw; (try dsimp only at hSw); have yX0 := (hSw.cell (lt_of_cell zX0)).trans zX0; have yX1 := (hSw.cell (lt_of_cell zX1)).trans zX1; have yX2 := (hSw.cell (lt_of_cell zX2)).trans zX2; have yb1 := (hSw.cell (lt_of_cell b1)).trans b1; have yb4 := (hSw.cell (lt_of_cell b4)).trans b4; have yg0 := (hSw.cell (lt_of_cell g0)).trans g0; have ygf := (hSw.cell (lt_of_cell gf)).trans gf;  go_simp⟩) hS0 ?_
    try simp only [Act.put, List.setIfInBounds_toArray, List.set_cons_zero, List.set_cons_succ]
    refine wpAnyH_take (i := 6) (oi := opSe6) (v := .slice (some ⟨b.Z, 0, none⟩) b.l.n b.l.n) rfl (by kernel_rfl) (by kernel_rfl) (by kernel_rfl) (fun _ _ _ h => h) (Or.inl ⟨by rfl, by intro w2 hSw; (try dsimp only at hSw); have yX0 := (hSw.cell (lt_of_cell zX0)).trans zX0; have yX1 := (hSw.cell (lt_of_cell zX1)).trans zX1; have yX2 := (hSw.cell (lt_of_cell zX2)).trans zX2; have yb1 := (hSw.cell (lt_of_cell b1)).trans b1; have yb4 := (hSw.cell (lt_of_cell b4)).trans b4; have yg0 := (hSw.cell (lt_of_cell g0)).trans g0; have ygf := (hSw.cell (lt_of_cell gf)).trans gf;  go_simp⟩) hS0 ?_
    try simp only [Act.put, List.setIfInBounds_toArray, List.set_cons_zero, List.set_cons_succ]
    refine wpAnyH_take (i := 7) (oi := opSe7) (v := .pointer (some ⟨R, 0, none⟩)) rfl (by kernel_rfl) (by kernel_rfl) (by kernel_rfl) (fun _ _ _ h => h) (Or.inl ⟨by rfl, by intro w2 hSw; (try dsimp only at hSw); have yX0 := (hSw.cell (lt_of_cell zX0)).trans zX0; have yX1 := (hSw.cell (lt_of_cell zX1)).trans zX1; have yX2 := (hSw.cell (lt_of_cell zX2)).trans zX2; have yb1 := (hSw.cell (lt_of_cell b1)).trans b1; have yb4 := (hSw.cell (lt_of_cell b4)).trans b4; have yg0 := (hSw.cell (lt_of_cell g0)).trans g0; have ygf := (hSw.cell (lt_of_cell gf)).trans gf;  go_simp⟩) hS0 ?_
    try simp only [Act.put, List.setIfInBounds_toArray, List.set_cons_zero, List.set_cons_succ]
    refine wpAnyH_take (i := 8) (oi := opSe8) (v := .int .i64 (x : Int)) rfl (by kernel_rfl) (by kernel_rfl) (by kernel_rfl) (fun _ _ _ h => h) (Or.inl ⟨by rfl, by intro w2 hSw; (try dsimp only at hSw); have yX0 := (hSw.cell (lt_of_cell zX0)).trans zX0; have yX1 := (hSw.cell (lt_of_cell zX1)).trans zX1; have yX2 := (hSw.cell (lt_of_cell zX2)).trans zX2; have yb1 := (hSw.cell (lt_of_cell b1)).trans b1; have yb4 := (hSw.cell (lt_of_cell b4)).trans b4; have yg0 := (hSw.cell (lt_of_cell g0)).trans g0; have ygf := (hSw.cell (lt_of_cell gf)).trans gf;  go_simp⟩) hS0 ?_
    try simp only [Act.put, List.setIfInBounds_toArray, List.set_cons_zero, List.set_cons_succ]
    refine wpAnyH_take (i := 9) (oi := opSe9) (v := .pointer (some ⟨b.Z, x * 3, none⟩)) rfl (by kernel_rfl) (by kernel_rfl) (by kernel_rfl) (fun _ _ _ h => h) (Or.inl ⟨by rfl, by intro w2 hSw; (try dsimp only at hSw); have yX0 := (hSw.cell (lt_of_cell zX0)).trans zX0; have yX1 := (hSw.cell (lt_of_cell zX1)).trans zX1; have yX2 := (hSw.cell (lt_of_cell zX2)).trans zX2; have yb1 := (hSw.cell (lt_of_cell b1)).trans b1; have yb4 := (hSw.cell (lt_of_cell b4)).trans b4; have yg0 := (hSw.cell (lt_of_cell g0)).trans g0; have ygf := (hSw.cell (lt_of_cell gf)).trans gf;  go_simp⟩) hS0 ?_
    try simp only [Act.put, List.setIfInBounds_toArray, List.set_cons_zero, List.set_cons_succ]
    refine wpAnyH_take (i := 10) (oi := opSe10) (v := .pointer (some ⟨b.Z, x * 3, none⟩)) rfl (by kernel_rfl) (by kernel_rfl) (by kernel_rfl) (fun _ _ _ h => h) (Or.inl ⟨by rfl, by intro w2 hSw; (try dsimp only at hSw); have yX0 := (hSw.cell (lt_of_cell zX0)).trans zX0; have yX1 := (hSw.cell (lt_of_cell zX1)).trans zX1; have yX2 := (hSw.cell (lt_of_cell zX2)).trans zX2; have yb1 := (hSw.cell (lt_of_cell b1)).trans b1; have yb4 := (hSw.cell (lt_of_cell b4)).trans b4; have yg0 := (hSw.cell (lt_of_cell g0)).trans g0; have ygf := (hSw.cell (lt_of_cell gf)).trans gf;  go_simp⟩) hS0 ?_
    try simp only [Act.put, List.setIfInBounds_toArray, List.set_cons_zero, List.set_cons_succ]
    refine wpAnyH_take (i := 11) (oi := opSe11) (v := .int .i64 go) rfl (by kernel_rfl) (by kernel_rfl) (by kernel_rfl) (fun _ _ _ h => h) (Or.inl ⟨by rfl, by intro w2 hSw; (try dsimp only at hSw); have yX0 := (hSw.cell (lt_of_cell zX0)).trans zX0; have yX1 := (hSw.cell (lt_of_cell zX1)).trans zX1; have yX2 := (hSw.cell (lt_of_cell zX2)).trans zX2; have yb1 := (hSw.cell (lt_of_cell b1)).trans b1; have yb4 := (hSw.cell (lt_of_cell b4)).trans b4; have yg0 := (hSw.cell (lt_of_cell g0)).trans g0; have ygf := (hSw.cell (lt_of_cell gf)).trans gf;  go_simp⟩) hS0 ?_
    try simp only [Act.put, List.setIfInBounds_toArray, List.set_cons_zero, List.set_cons_succ]
    refine wpAnyH_take (i := 12) (oi := opSe12) (v := .bool true) rfl (by kernel_rfl) (by kernel_rfl) (by kernel_rfl) (fun _ _ _ h => h) (Or.inl ⟨by rfl, by intro w2 hSw; (try dsimp only at hSw); have yX0 := (hSw.cell (lt_of_cell zX0)).trans zX0; have yX1 := (hSw.cell (lt_of_cell zX1)).trans zX1; have yX2 := (hSw.cell (lt_of_cell zX2)).trans zX2; have yb1 := (hSw.cell (lt_of_cell b1)).trans b1; have yb4 := (hSw.cell (lt_of_cell b4)).trans b4; have yg0 := (hSw.cell (lt_of_cell g0)).trans g0; have ygf := (hSw.cell (lt_of_cell gf)).trans gf;  go_simp⟩) hS0 ?_
    try simp only [Act.put, List.setIfInBounds_toArray, List.set_cons_zero, List.set_cons_succ]
    refine wpAnyH_done (by kernel_rfl) ?_ _
    clear zX0 zX1 zX2 ltX b1 b4 g0 gf
    obtain ⟨w0d, hwd⟩ : ∃ v, w0.drew = v := ⟨_, rfl⟩
    have hb := hS0
    rw [hwd] at hb ⊢
    clear hS0 hwd
    replace D := Lib.hid (D.out.below hb (Nat.le_refl _))
    replace X := Lib.hid ((hb.block _ (lt_of_block X.out)).trans X.out)
    replace B := Lib.hid (B.out.trans (hb.mono B.out.size))
    clear hb
    have ltX : R < w0d.heap.size := lt_of_block X.out
    have zX0 : w0d.cell? ⟨R, 0, none⟩ = some (.int .i64 (x : Int)) := by rw [cell_row X.out]; rfl
    have zX1 : w0d.cell? ⟨R, 1, none⟩ = some (.int .i64 fr) := by rw [cell_row X.out]; rfl
    have zX2 : w0d.cell? ⟨R, 2, none⟩ = some (.int .i64 to) := by rw [cell_row X.out]; rfl
    have b1 := D.out.c1
    have b4 := D.out.c4
    have g0 : w0d.cell? ⟨b.Z, x * 3, none⟩ = some (.int .i64 go) := (D.out.z x hx).1.trans (by rw [HG.out])
    have gf : w0d.cell? ⟨b.F, x, none⟩ = some (.int .i64 fx) := (D.out.fl x hx).trans (by rw [HF.out])
    go_wp2_with fail
    refine Zed.region_z (z := 11) (S := fun w2 => Below w0d.heap.size w0d w2) (by kernel_rfl) (drew_b _ _) (fun hS0 => ?_)
    refine Zed.anyZ_take (i := 0) (oi := { dst := some 19, op := Go.Op.move (Go.Operand.tmp 0), type := 64, pos := "board.go:79", after := #[], guard := none }) (v := .pointer (some ⟨b.B, 0, none⟩)) rfl (by decide) (by kernel_rfl) (by kernel_rfl) (by kernel_rfl) (by kernel_rfl) (fun _ _ _ h => h) (Or.inl ⟨by rfl, by intro w2 hSw; (try dsimp only at hSw); have yX0 := (hSw.cell (lt_of_cell zX0)).trans zX0; have yX1 := (hSw.cell (lt_of_cell zX1)).trans zX1; have yX2 := (hSw.cell (lt_of_cell zX2)).trans zX2; have yb1 := (hSw.cell (lt_of_cell b1)).trans b1; have yb4 := (hSw.cell (lt_of_cell b4)).trans b4; have yg0 := (hSw.cell (lt_of_cell g0)).trans g0; have ygf := (hSw.cell (lt_of_cell gf)).trans gf; go_simp⟩) hS0 ?_
    try simp only [Act.put, List.setIfInBounds_toArray, List.set_cons_zero, List.set_cons_succ]
    refine Zed.anyZ_take (i := 1) (oi := { dst := some 20, op := Go.Op.nilCheck (Go.Operand.tmp 19), type := 0, pos := "board.go:79", after := #[{ on := 0, ground := Go.Ground.data }], guard := none }) (v := .pointer (some ⟨b.B, 0, none⟩)) rfl (by decide) (by kernel_rfl) (by kernel_rfl) (by kernel_rfl) (by kernel_rfl) (fun _ _ _ h => h) (Or.inl ⟨by rfl, by intro w2 hSw; (try dsimp only at hSw); have yX0 := (hSw.cell (lt_of_cell zX0)).trans zX0; have yX1 := (hSw.cell (lt_of_cell zX1)).trans zX1; have yX2 := (hSw.cell (lt_of_cell zX2)).trans zX2; have yb1 := (hSw.cell (lt_of_cell b1)).trans b1; have yb4 := (hSw.cell (lt_of_cell b4)).trans b4; have yg0 := (hSw.cell (lt_of_cell g0)).trans g0; have ygf := (hSw.cell (lt_of_cell gf)).trans gf; go_simp⟩) hS0 ?_
    try simp only [Act.put, List.setIfInBounds_toArray, List.set_cons_zero, List.set_cons_succ]
    refine Zed.anyZ_take (i := 2) (oi := { dst := some 21, op := Go.Op.fieldAddr 87 (Go.Operand.tmp 20) 1, type := 0, pos := "board.go:79", after := #[{ on := 1, ground := Go.Ground.data }], guard := none }) (v := .pointer (some ⟨b.B, 4, none⟩)) rfl (by decide) (by kernel_rfl) (by kernel_rfl) (by kernel_rfl) (by kernel_rfl) (fun _ _ _ h => h) (Or.inl ⟨by rfl, by intro w2 hSw; (try dsimp only at hSw); have yX0 := (hSw.cell (lt_of_cell zX0)).trans zX0; have yX1 := (hSw.cell (lt_of_cell zX1)).trans zX1; have yX2 := (hSw.cell (lt_of_cell zX2)).trans zX2; have yb1 := (hSw.cell (lt_of_cell b1)).trans b1; have yb4 := (hSw.cell (lt_of_cell b4)).trans b4; have yg0 := (hSw.cell (lt_of_cell g0)).trans g0; have ygf := (hSw.cell (lt_of_cell gf)).trans gf; go_simp⟩) hS0 ?_
    try simp only [Act.put, List.setIfInBounds_toArray, List.set_cons_zero, List.set_cons_succ]
    refine Zed.anyZ_take (i := 3) (oi := { dst := some 22, op := Go.Op.load 41 (Go.Operand.tmp 21), type := 41, pos := "board.go:79", after := #[{ on := 2, ground := Go.Ground.data }], guard := none }) (v := .slice (some ⟨b.F, 0, none⟩) b.l.n b.l.n) rfl (by decide) (by kernel_rfl) (by kernel_rfl) (by kernel_rfl) (by kernel_rfl) (fun _ _ _ h => h) (Or.inl ⟨by rfl, by intro w2 hSw; (try dsimp only at hSw); have yX0 := (hSw.cell (lt_of_cell zX0)).trans zX0; have yX1 := (hSw.cell (lt_of_cell zX1)).trans zX1; have yX2 := (hSw.cell (lt_of_cell zX2)).trans zX2; have yb1 := (hSw.cell (lt_of_cell b1)).trans b1; have yb4 := (hSw.cell (lt_of_cell b4)).trans b4; have yg0 := (hSw.cell (lt_of_cell g0)).trans g0; have ygf := (hSw.cell (lt_of_cell gf)).trans gf; go_simp⟩) hS0 ?_
    try simp only [Act.put, List.setIfInBounds_toArray, List.set_cons_zero, List.set_cons_succ]
    refine Zed.anyZ_take (i := 4) (oi := { dst := some 23, op := Go.Op.fieldAddr 79 (Go.Operand.tmp 4) 0, type := 0, pos := "board.go:79", after := #[], guard := none }) (v := .pointer (some ⟨R, 0, none⟩)) rfl (by decide) (by kernel_rfl) (by kernel_rfl) (by kernel_rfl) (by kernel_rfl) (fun _ _ _ h => h) (Or.inl ⟨by rfl, by intro w2 hSw; (try dsimp only at hSw); have yX0 := (hSw.cell (lt_of_cell zX0)).trans zX0; have yX1 := (hSw.cell (lt_of_cell zX1)).trans zX1; have yX2 := (hSw.cell (lt_of_cell zX2)).trans zX2; have yb1 := (hSw.cell (lt_of_cell b1)).trans b1; have yb4 := (hSw.cell (lt_of_cell b4)).trans b4; have yg0 := (hSw.cell (lt_of_cell g0)).trans g0; have ygf := (hSw.cell (lt_of_cell gf)).trans gf; go_simp⟩) hS0 ?_
    try simp only [Act.put, List.setIfInBounds_toArray, List.set_cons_zero, List.set_cons_succ]
    refine Zed.anyZ_take (i := 5) (oi := { dst := some 24, op := Go.Op.load 3 (Go.Operand.tmp 23), type := 3, pos := "board.go:79", after := #[{ on := 4, ground := Go.Ground.data }], guard := none }) (v := .int .i64 (x : Int)) rfl (by decide) (by kernel_rfl) (by kernel_rfl) (by kernel_rfl) (by kernel_rfl) (fun _ _ _ h => h) (Or.inl ⟨by rfl, by intro w2 hSw; (try dsimp only at hSw); have yX0 := (hSw.cell (lt_of_cell zX0)).trans zX0; have yX1 := (hSw.cell (lt_of_cell zX1)).trans zX1; have yX2 := (hSw.cell (lt_of_cell zX2)).trans zX2; have yb1 := (hSw.cell (lt_of_cell b1)).trans b1; have yb4 := (hSw.cell (lt_of_cell b4)).trans b4; have yg0 := (hSw.cell (lt_of_cell g0)).trans g0; have ygf := (hSw.cell (lt_of_cell gf)).trans gf; go_simp⟩) hS0 ?_
    try simp only [Act.put, List.setIfInBounds_toArray, List.set_cons_zero, List.set_cons_succ]
    refine Zed.anyZ_take (i := 6) (oi := { dst := some 25, op := Go.Op.indexAddr 41 (Go.Operand.tmp 22) (Go.Operand.tmp 24), type := 0, pos := "board.go:79", after := #[{ on := 3, ground := Go.Ground.data }, { on := 5, ground := Go.Ground.data }], guard := none }) (v := .pointer (some ⟨b.F, x, none⟩)) rfl (by decide) (by kernel_rfl) (by kernel_rfl) (by kernel_rfl) (by kernel_rfl) (fun _ _ _ h => h) (Or.inl ⟨by rfl, by intro w2 hSw; (try dsimp only at hSw); have yX0 := (hSw.cell (lt_of_cell zX0)).trans zX0; have yX1 := (hSw.cell (lt_of_cell zX1)).trans zX1; have yX2 := (hSw.cell (lt_of_cell zX2)).trans zX2; have yb1 := (hSw.cell (lt_of_cell b1)).trans b1; have yb4 := (hSw.cell (lt_of_cell b4)).trans b4; have yg0 := (hSw.cell (lt_of_cell g0)).trans g0; have ygf := (hSw.cell (lt_of_cell gf)).trans gf; go_simp⟩) hS0 ?_
    try simp only [Act.put, List.setIfInBounds_toArray, List.set_cons_zero, List.set_cons_succ]
    refine Zed.anyZ_take (i := 7) (oi := { dst := some 26, op := Go.Op.load 2 (Go.Operand.tmp 25), type := 2, pos := "board.go:79", after := #[{ on := 6, ground := Go.Ground.data }], guard := none }) (v := .int .i64 fx) rfl (by decide) (by kernel_rfl) (by kernel_rfl) (by kernel_rfl) (by kernel_rfl) (fun _ _ _ h => h) (Or.inl ⟨by rfl, by intro w2 hSw; (try dsimp only at hSw); have yX0 := (hSw.cell (lt_of_cell zX0)).trans zX0; have yX1 := (hSw.cell (lt_of_cell zX1)).trans zX1; have yX2 := (hSw.cell (lt_of_cell zX2)).trans zX2; have yb1 := (hSw.cell (lt_of_cell b1)).trans b1; have yb4 := (hSw.cell (lt_of_cell b4)).trans b4; have yg0 := (hSw.cell (lt_of_cell g0)).trans g0; have ygf := (hSw.cell (lt_of_cell gf)).trans gf; go_simp⟩) hS0 ?_
    try simp only [Act.put, List.setIfInBounds_toArray, List.set_cons_zero, List.set_cons_succ]
    refine Zed.anyZ_take (i := 8) (oi := { dst := some 27, op := Go.Op.move (Go.Operand.tmp 2), type := 2, pos := "board.go:79", after := #[], guard := none }) (v := .int .i64 t) rfl (by decide) (by kernel_rfl) (by kernel_rfl) (by kernel_rfl) (by kernel_rfl) (fun _ _ _ h => h) (Or.inl ⟨by rfl, by intro w2 hSw; (try dsimp only at hSw); have yX0 := (hSw.cell (lt_of_cell zX0)).trans zX0; have yX1 := (hSw.cell (lt_of_cell zX1)).trans zX1; have yX2 := (hSw.cell (lt_of_cell zX2)).trans zX2; have yb1 := (hSw.cell (lt_of_cell b1)).trans b1; have yb4 := (hSw.cell (lt_of_cell b4)).trans b4; have yg0 := (hSw.cell (lt_of_cell g0)).trans g0; have ygf := (hSw.cell (lt_of_cell gf)).trans gf; go_simp⟩) hS0 ?_
    try simp only [Act.put, List.setIfInBounds_toArray, List.set_cons_zero, List.set_cons_succ]
    refine Zed.anyZ_take (i := 9) (oi := { dst := some 28, op := Go.Op.binOp Go.BinOp.add 2 (Go.Operand.tmp 26) (Go.Operand.tmp 27) 2, type := 2, pos := "board.go:79", after := #[{ on := 7, ground := Go.Ground.data }, { on := 8, ground := Go.Ground.data }], guard := none }) (v := .int .i64 (fx + t)) rfl (by decide) (by kernel_rfl) (by kernel_rfl) (by kernel_rfl) (by kernel_rfl) (fun _ _ _ h => h) (Or.inl ⟨by rfl, by intro w2 hSw; (try dsimp only at hSw); have yX0 := (hSw.cell (lt_of_cell zX0)).trans zX0; have yX1 := (hSw.cell (lt_of_cell zX1)).trans zX1; have yX2 := (hSw.cell (lt_of_cell zX2)).trans zX2; have yb1 := (hSw.cell (lt_of_cell b1)).trans b1; have yb4 := (hSw.cell (lt_of_cell b4)).trans b4; have yg0 := (hSw.cell (lt_of_cell g0)).trans g0; have ygf := (hSw.cell (lt_of_cell gf)).trans gf; go_simp⟩) hS0 ?_
    try simp only [Act.put, List.setIfInBounds_toArray, List.set_cons_zero, List.set_cons_succ]
    refine Zed.anyZ_take (i := 10) (oi := { dst := some 29, op := Go.Op.indexAddr 41 (Go.Operand.tmp 22) (Go.Operand.tmp 24), type := 0, pos := "board.go:79", after := #[{ on := 3, ground := Go.Ground.data }, { on := 5, ground := Go.Ground.data }, { on := 0, ground := Go.Ground.phase }, { on := 1, ground := Go.Ground.phase }, { on := 2, ground := Go.Ground.phase }, { on := 3, ground := Go.Ground.phase }, { on := 4, ground := Go.Ground.phase }, { on := 5, ground := Go.Ground.phase }, { on := 6, ground := Go.Ground.phase }, { on := 7, ground := Go.Ground.phase }, { on := 8, ground := Go.Ground.phase }, { on := 9, ground := Go.Ground.phase }], guard := none }) (v := .pointer (some ⟨b.F, x, none⟩)) rfl (by decide) (by kernel_rfl) (by kernel_rfl) (by kernel_rfl) (by kernel_rfl) (fun _ _ _ h => h) (Or.inl ⟨by rfl, by intro w2 hSw; (try dsimp only at hSw); have yX0 := (hSw.cell (lt_of_cell zX0)).trans zX0; have yX1 := (hSw.cell (lt_of_cell zX1)).trans zX1; have yX2 := (hSw.cell (lt_of_cell zX2)).trans zX2; have yb1 := (hSw.cell (lt_of_cell b1)).trans b1; have yb4 := (hSw.cell (lt_of_cell b4)).trans b4; have yg0 := (hSw.cell (lt_of_cell g0)).trans g0; have ygf := (hSw.cell (lt_of_cell gf)).trans gf; go_simp⟩) hS0 ?_
    try simp only [Act.put, List.setIfInBounds_toArray, List.set_cons_zero, List.set_cons_succ]
    generalize w0d.drew = V0 at hS0 ⊢
    have D9 := D.out.below hS0 (Nat.le_refl _)
    have xf : V0.cell? ⟨b.F, x, none⟩ = some (.int .i64 fx) := (hS0.cell (p := ⟨b.F, x, none⟩) (lt_of_cell gf)).trans gf
    have ff := D9.frozen x
    have HD9 := Lib.hid D9
    have HS9 := Lib.hid (B.out.trans (hS0.mono B.out.size))
    clear D9 hS0
    refine Zed.anyZ_ready (rs := [11]) (by kernel_rfl) (by simp) ?_
    refine Zed.AllZ.cons (o := { dst := none, op := Go.Op.store 2 (Go.Operand.tmp 29) (Go.Operand.tmp 28), type := 0, pos := "board.go:79", after := #[{ on := 10, ground := Go.Ground.data }, { on := 9, ground := Go.Ground.data }, { on := 0, ground := Go.Ground.phase }, { on := 1, ground := Go.Ground.phase }, { on := 2, ground := Go.Ground.phase }, { on := 3, ground := Go.Ground.phase }, { on := 4, ground := Go.Ground.phase }, { on := 5, ground := Go.Ground.phase }, { on := 6, ground := Go.Ground.phase }, { on := 7, ground := Go.Ground.phase }, { on := 8, ground := Go.Ground.phase }, { on := 9, ground := Go.Ground.phase }], guard := none }) rfl (fun K2 hK => ?_) Zed.AllZ.nil
    go_simp
    refine hK.out _ _ (fun h => absurd rfl h) (fun _ => ?_)
    clear hK K2
    try simp only [Act.put, List.setIfInBounds_toArray, List.set_cons_zero, List.set_cons_succ]
    refine Zed.anyZ_done (by kernel_rfl) ?_ _
    clear zX0 zX1 zX2 ltX b1 b4 g0 gf
    clear xf ff
    have HQ := Lib.hid (HD9.out.set hx (HS2.out HE.out) HS1.out)
    have HK := Lib.hid ((Keeps.of_new HS9.out).trans (keeps_setCell V0 b.F x (.int .i64 (fx + t))))
    go_wp2_with fail
    (try simp only [Exit.inBlock, Exit.then])
    refine bodyPost_end (results_none rfl _ _ _) rfl ?_
    exact ⟨rfl, HQ.out, HK.out⟩
  · have HE := Lib.hid he
    have de : (fr == go) = false := by rw [beq_eq_false_iff_ne]; exact he
    clear he
    refine wp_region_held_drew (S := fun w2 => Below w0.heap.size w0 w2) (by kernel_rfl) (drew_b _ _) (fun hS0 => ?_)
    refine wpAnyH_take (i := 0) (oi := opSe0) (v := .pointer (some ⟨R, 1, none⟩)) rfl (by kernel_rfl) (by kernel_rfl) (by kernel_rfl) (fun _ _ _ h => h) (Or.inl ⟨by rfl, by intro w2 hSw; (try dsimp only at hSw); have yX0 := (hSw.cell (lt_of_cell zX0)).trans zX0; have yX1 := (hSw.cell (lt_of_cell zX1)).trans zX1; have yX2 := (hSw.cell (lt_of_cell zX2)).trans zX2; have yb1 := (hSw.cell (lt_of_cell b1)).trans b1; have yb4 := (hSw.cell (lt_of_cell b4)).trans b4; have yg0 := (hSw.cell (lt_of_cell g0)).trans g0; have ygf := (hSw.cell (lt_of_cell gf)).trans gf;  go_simp⟩) hS0 ?_
    try simp only [Act.put, List.setIfInBounds_toArray, List.set_cons_zero, List.set_cons_succ]
    refine wpAnyH_take (i := 1) (oi := opSe1) (v := .int .i64 fr) rfl (by kernel_rfl) (by kernel_rfl) (by kernel_rfl) (fun _ _ _ h => h) (Or.inl ⟨by rfl, by intro w2 hSw; (try dsimp only at hSw); have yX0 := (hSw.cell (lt_of_cell zX0)).trans zX0; have yX1 := (hSw.cell (lt_of_cell zX1)).trans zX1; have yX2 := (hSw.cell (lt_of_cell zX2)).trans zX2; have yb1 := (hSw.cell (lt_of_cell b1)).trans b1; have yb4 := (hSw.cell (lt_of_cell b4)).trans b4; have yg0 := (hSw.cell (lt_of_cell g0)).trans g0; have ygf := (hSw.cell (lt_of_cell gf)).trans gf;  go_simp⟩) hS0 ?_
    try simp only [Act.put, List.setIfInBounds_toArray, List.set_cons_zero, List.set_cons_succ]
    refine wpAnyH_take (i := 2) (oi := opSe2) (v := .pointer (some ⟨b.B, 0, none⟩)) rfl (by kernel_rfl) (by kernel_rfl) (by kernel_rfl) (fun _ _ _ h => h) (Or.inl ⟨by rfl, by intro w2 hSw; (try dsimp only at hSw); have yX0 := (hSw.cell (lt_of_cell zX0)).trans zX0; have yX1 := (hSw.cell (lt_of_cell zX1)).trans zX1; have yX2 := (hSw.cell (lt_of_cell zX2)).trans zX2; have yb1 := (hSw.cell (lt_of_cell b1)).trans b1; have yb4 := (hSw.cell (lt_of_cell b4)).trans b4; have yg0 := (hSw.cell (lt_of_cell g0)).trans g0; have ygf := (hSw.cell (lt_of_cell gf)).trans gf;  go_simp⟩) hS0 ?_
    try simp only [Act.put, List.setIfInBounds_toArray, List.set_cons_zero, List.set_cons_succ]
    refine wpAnyH_take (i := 3) (oi := opSe3) (v := .pointer (some ⟨b.B, 0, none⟩)) rfl (by kernel_rfl) (by kernel_rfl) (by kernel_rfl) (fun _ _ _ h => h) (Or.inl ⟨by rfl, by intro w2 hSw; (try dsimp only at hSw); have yX0 := (hSw.cell (lt_of_cell zX0)).trans zX0; have yX1 := (hSw.cell (lt_of_cell zX1)).trans zX1; have yX2 := (hSw.cell (lt_of_cell zX2)).trans zX2; have yb1 := (hSw.cell (lt_of_cell b1)).trans b1; have yb4 := (hSw.cell (lt_of_cell b4)).trans b4; have yg0 := (hSw.cell (lt_of_cell g0)).trans g0; have ygf := (hSw.cell (lt_of_cell gf)).trans gf;  go_simp⟩) hS0 ?_
    try simp only [Act.put, List.setIfInBounds_toArray, List.set_cons_zero, List.set_cons_succ]
    refine wpAnyH_take (i := 4) (oi := opSe4) (v := .pointer (some ⟨b.B, 0, none⟩)) rfl (by kernel_rfl) (by kernel_rfl) (by kernel_rfl) (fun _ _ _ h => h) (Or.inl ⟨by rfl, by intro w2 hSw; (try dsimp only at hSw); have yX0 := (hSw.cell (lt_of_cell zX0)).trans zX0; have yX1 := (hSw.cell (lt_of_cell zX1)).trans zX1; have yX2 := (hSw.cell (lt_of_cell zX2)).trans zX2; have yb1 := (hSw.cell (lt_of_cell b1)).trans b1; have yb4 := (hSw.cell (lt_of_cell b4)).trans b4; have yg0 := (hSw.cell (lt_of_cell g0)).trans g0; have ygf := (hSw.cell (lt_of_cell gf)).trans gf;  go_simp⟩) hS0 ?_
    try simp only [Act.put, List.setIfInBounds_toArray, List.set_cons_zero, List.set_cons_succ]
    refine wpAnyH_take (i := 5) (oi := opSe5) (v := .pointer (some ⟨b.B, 1, none⟩)) rfl (by kernel_rfl) (by kernel_rfl) (by kernel_rfl) (fun _ _ _ h => h) (Or.inl ⟨by rfl, by intro w2 hSw; (try dsimp only at hSw); have yX0 := (hSw.cell (lt_of_cell zX0)).trans zX0; have yX1 := (hSw.cell (lt_of_cell zX1)).trans zX1; have yX2 := (hSw.cell (lt_of_cell zX2)).trans zX2; have yb1 := (hSw.cell (lt_of_cell b1)).trans b1; have yb4 := (hSw.cell (lt_of_cell b4)).trans b4; have yg0 := (hSw.cell (lt_of_cell g0)).trans g0; have ygf := (hSw.cell (lt_of_cell gf)).trans gf;  go_simp⟩) hS0 ?_
    try simp only [Act.put, List.setIfInBounds_toArray, List.set_cons_zero, List.set_cons_succ]
    refine wpAnyH_take (i := 6) (oi := opSe6) (v := .slice (some ⟨b.Z, 0, none⟩) b.l.n b.l.n) rfl (by kernel_rfl) (by kernel_rfl) (by kernel_rfl) (fun _ _ _ h => h) (Or.inl ⟨by rfl, by intro w2 hSw; (try dsimp only at hSw); have yX0 := (hSw.cell (lt_of_cell zX0)).trans zX0; have yX1 := (hSw.cell (lt_of_cell zX1)).trans zX1; have yX2 := (hSw.cell (lt_of_cell zX2)).trans zX2; have yb1 := (hSw.cell (lt_of_cell b1)).trans b1; have yb4 := (hSw.cell (lt_of_cell b4)).trans b4; have yg0 := (hSw.cell (lt_of_cell g0)).trans g0; have ygf := (hSw.cell (lt_of_cell gf)).trans gf;  go_simp⟩) hS0 ?_
    try simp only [Act.put, List.setIfInBounds_toArray, List.set_cons_zero, List.set_cons_succ]
    refine wpAnyH_take (i := 7) (oi := opSe7) (v := .pointer (some ⟨R, 0, none⟩)) rfl (by kernel_rfl) (by kernel_rfl) (by kernel_rfl) (fun _ _ _ h => h) (Or.inl ⟨by rfl, by intro w2 hSw; (try dsimp only at hSw); have yX0 := (hSw.cell (lt_of_cell zX0)).trans zX0; have yX1 := (hSw.cell (lt_of_cell zX1)).trans zX1; have yX2 := (hSw.cell (lt_of_cell zX2)).trans zX2; have yb1 := (hSw.cell (lt_of_cell b1)).trans b1; have yb4 := (hSw.cell (lt_of_cell b4)).trans b4; have yg0 := (hSw.cell (lt_of_cell g0)).trans g0; have ygf := (hSw.cell (lt_of_cell gf)).trans gf;  go_simp⟩) hS0 ?_
    try simp only [Act.put, List.setIfInBounds_toArray, List.set_cons_zero, List.set_cons_succ]
    refine wpAnyH_take (i := 8) (oi := opSe8) (v := .int .i64 (x : Int)) rfl (by kernel_rfl) (by kernel_rfl) (by kernel_rfl) (fun _ _ _ h => h) (Or.inl ⟨by rfl, by intro w2 hSw; (try dsimp only at hSw); have yX0 := (hSw.cell (lt_of_cell zX0)).trans zX0; have yX1 := (hSw.cell (lt_of_cell zX1)).trans zX1; have yX2 := (hSw.cell (lt_of_cell zX2)).trans zX2; have yb1 := (hSw.cell (lt_of_cell b1)).trans b1; have yb4 := (hSw.cell (lt_of_cell b4)).trans b4; have yg0 := (hSw.cell (lt_of_cell g0)).trans g0; have ygf := (hSw.cell (lt_of_cell gf)).trans gf;  go_simp⟩) hS0 ?_
    try simp only [Act.put, List.setIfInBounds_toArray, List.set_cons_zero, List.set_cons_succ]
    refine wpAnyH_take (i := 9) (oi := opSe9) (v := .pointer (some ⟨b.Z, x * 3, none⟩)) rfl (by kernel_rfl) (by kernel_rfl) (by kernel_rfl) (fun _ _ _ h => h) (Or.inl ⟨by rfl, by intro w2 hSw; (try dsimp only at hSw); have yX0 := (hSw.cell (lt_of_cell zX0)).trans zX0; have yX1 := (hSw.cell (lt_of_cell zX1)).trans zX1; have yX2 := (hSw.cell (lt_of_cell zX2)).trans zX2; have yb1 := (hSw.cell (lt_of_cell b1)).trans b1; have yb4 := (hSw.cell (lt_of_cell b4)).trans b4; have yg0 := (hSw.cell (lt_of_cell g0)).trans g0; have ygf := (hSw.cell (lt_of_cell gf)).trans gf;  go_simp⟩) hS0 ?_
    try simp only [Act.put, List.setIfInBounds_toArray, List.set_cons_zero, List.set_cons_succ]
    refine wpAnyH_take (i := 10) (oi := opSe10) (v := .pointer (some ⟨b.Z, x * 3, none⟩)) rfl (by kernel_rfl) (by kernel_rfl) (by kernel_rfl) (fun _ _ _ h => h) (Or.inl ⟨by rfl, by intro w2 hSw; (try dsimp only at hSw); have yX0 := (hSw.cell (lt_of_cell zX0)).trans zX0; have yX1 := (hSw.cell (lt_of_cell zX1)).trans zX1; have yX2 := (hSw.cell (lt_of_cell zX2)).trans zX2; have yb1 := (hSw.cell (lt_of_cell b1)).trans b1; have yb4 := (hSw.cell (lt_of_cell b4)).trans b4; have yg0 := (hSw.cell (lt_of_cell g0)).trans g0; have ygf := (hSw.cell (lt_of_cell gf)).trans gf;  go_simp⟩) hS0 ?_
    try simp only [Act.put, List.setIfInBounds_toArray, List.set_cons_zero, List.set_cons_succ]
    refine wpAnyH_take (i := 11) (oi := opSe11) (v := .int .i64 go) rfl (by kernel_rfl) (by kernel_rfl) (by kernel_rfl) (fun _ _ _ h => h) (Or.inl ⟨by rfl, by intro w2 hSw; (try dsimp only at hSw); have yX0 := (hSw.cell (lt_of_cell zX0)).trans zX0; have yX1 := (hSw.cell (lt_of_cell zX1)).trans zX1; have yX2 := (hSw.cell (lt_of_cell zX2)).trans zX2; have yb1 := (hSw.cell (lt_of_cell b1)).trans b1; have yb4 := (hSw.cell (lt_of_cell b4)).trans b4; have yg0 := (hSw.cell (lt_of_cell g0)).trans g0; have ygf := (hSw.cell (lt_of_cell gf)).trans gf;  go_simp⟩) hS0 ?_
    try simp only [Act.put, List.setIfInBounds_toArray, List.set_cons_zero, List.set_cons_succ]
    refine wpAnyH_take (i := 12) (oi := opSe12) (v := .bool false) rfl (by kernel_rfl) (by kernel_rfl) (by kernel_rfl) (fun _ _ _ h => h) (Or.inl ⟨by rfl, by intro w2 hSw; (try dsimp only at hSw); have yX0 := (hSw.cell (lt_of_cell zX0)).trans zX0; have yX1 := (hSw.cell (lt_of_cell zX1)).trans zX1; have yX2 := (hSw.cell (lt_of_cell zX2)).trans zX2; have yb1 := (hSw.cell (lt_of_cell b1)).trans b1; have yb4 := (hSw.cell (lt_of_cell b4)).trans b4; have yg0 := (hSw.cell (lt_of_cell g0)).trans g0; have ygf := (hSw.cell (lt_of_cell gf)).trans gf;  go_simp⟩) hS0 ?_
    try simp only [Act.put, List.setIfInBounds_toArray, List.set_cons_zero, List.set_cons_succ]
    refine wpAnyH_done (by kernel_rfl) ?_ _
    clear zX0 zX1 zX2 ltX b1 b4 g0 gf
    obtain ⟨w0d, hwd⟩ : ∃ v, w0.drew = v := ⟨_, rfl⟩
    have hb := hS0
    rw [hwd] at hb ⊢
    clear hS0 hwd
    replace D := Lib.hid (D.out.below hb (Nat.le_refl _))
    replace X := Lib.hid ((hb.block _ (lt_of_block X.out)).trans X.out)
    replace B := Lib.hid (B.out.trans (hb.mono B.out.size))
    clear hb
    have ltX : R < w0d.heap.size := lt_of_block X.out
    have zX0 : w0d.cell? ⟨R, 0, none⟩ = some (.int .i64 (x : Int)) := by rw [cell_row X.out]; rfl
    have zX1 : w0d.cell? ⟨R, 1, none⟩ = some (.int .i64 fr) := by rw [cell_row X.out]; rfl
    have zX2 : w0d.cell? ⟨R, 2, none⟩ = some (.int .i64 to) := by rw [cell_row X.out]; rfl
    have b1 := D.out.c1
    have b4 := D.out.c4
    have g0 : w0d.cell? ⟨b.Z, x * 3, none⟩ = some (.int .i64 go) := (D.out.z x hx).1.trans (by rw [HG.out])
    have gf : w0d.cell? ⟨b.F, x, none⟩ = some (.int .i64 fx) := (D.out.fl x hx).trans (by rw [HF.out])
    go_wp2_with fail
    refine Zed.region_z (z := 11) (S := fun w2 => Below w0d.heap.size w0d w2) (by kernel_rfl) (drew_b _ _) (fun hS0 => ?_)
    refine Zed.anyZ_take (i := 0) (oi := { dst := some 30, op := Go.Op.move (Go.Operand.tmp 0), type := 64, pos := "board.go:81", after := #[], guard := none }) (v := .pointer (some ⟨b.B, 0, none⟩)) rfl (by decide) (by kernel_rfl) (by kernel_rfl) (by kernel_rfl) (by kernel_rfl) (fun _ _ _ h => h) (Or.inl ⟨by rfl, by intro w2 hSw; (try dsimp only at hSw); have yX0 := (hSw.cell (lt_of_cell zX0)).trans zX0; have yX1 := (hSw.cell (lt_of_cell zX1)).trans zX1; have yX2 := (hSw.cell (lt_of_cell zX2)).trans zX2; have yb1 := (hSw.cell (lt_of_cell b1)).trans b1; have yb4 := (hSw.cell (lt_of_cell b4)).trans b4; have yg0 := (hSw.cell (lt_of_cell g0)).trans g0; have ygf := (hSw.cell (lt_of_cell gf)).trans gf; go_simp⟩) hS0 ?_
    try simp only [Act.put, List.setIfInBounds_toArray, List.set_cons_zero, List.set_cons_succ]
    refine Zed.anyZ_take (i := 1) (oi := { dst := some 31, op := Go.Op.nilCheck (Go.Operand.tmp 30), type := 0, pos := "board.go:81", after := #[{ on := 0, ground := Go.Ground.data }], guard := none }) (v := .pointer (some ⟨b.B, 0, none⟩)) rfl (by decide) (by kernel_rfl) (by kernel_rfl) (by kernel_rfl) (by kernel_rfl) (fun _ _ _ h => h) (Or.inl ⟨by rfl, by intro w2 hSw; (try dsimp only at hSw); have yX0 := (hSw.cell (lt_of_cell zX0)).trans zX0; have yX1 := (hSw.cell (lt_of_cell zX1)).trans zX1; have yX2 := (hSw.cell (lt_of_cell zX2)).trans zX2; have yb1 := (hSw.cell (lt_of_cell b1)).trans b1; have yb4 := (hSw.cell (lt_of_cell b4)).trans b4; have yg0 := (hSw.cell (lt_of_cell g0)).trans g0; have ygf := (hSw.cell (lt_of_cell gf)).trans gf; go_simp⟩) hS0 ?_
    try simp only [Act.put, List.setIfInBounds_toArray, List.set_cons_zero, List.set_cons_succ]
    refine Zed.anyZ_take (i := 2) (oi := { dst := some 32, op := Go.Op.fieldAddr 87 (Go.Operand.tmp 31) 1, type := 0, pos := "board.go:81", after := #[{ on := 1, ground := Go.Ground.data }], guard := none }) (v := .pointer (some ⟨b.B, 4, none⟩)) rfl (by decide) (by kernel_rfl) (by kernel_rfl) (by kernel_rfl) (by kernel_rfl) (fun _ _ _ h => h) (Or.inl ⟨by rfl, by intro w2 hSw; (try dsimp only at hSw); have yX0 := (hSw.cell (lt_of_cell zX0)).trans zX0; have yX1 := (hSw.cell (lt_of_cell zX1)).trans zX1; have yX2 := (hSw.cell (lt_of_cell zX2)).trans zX2; have yb1 := (hSw.cell (lt_of_cell b1)).trans b1; have yb4 := (hSw.cell (lt_of_cell b4)).trans b4; have yg0 := (hSw.cell (lt_of_cell g0)).trans g0; have ygf := (hSw.cell (lt_of_cell gf)).trans gf; go_simp⟩) hS0 ?_
    try simp only [Act.put, List.setIfInBounds_toArray, List.set_cons_zero, List.set_cons_succ]
    refine Zed.anyZ_take (i := 3) (oi := { dst := some 33, op := Go.Op.load 41 (Go.Operand.tmp 32), type := 41, pos := "board.go:81", after := #[{ on := 2, ground := Go.Ground.data }], guard := none }) (v := .slice (some ⟨b.F, 0, none⟩) b.l.n b.l.n) rfl (by decide) (by kernel_rfl) (by kernel_rfl) (by kernel_rfl) (by kernel_rfl) (fun _ _ _ h => h) (Or.inl ⟨by rfl, by intro w2 hSw; (try dsimp only at hSw); have yX0 := (hSw.cell (lt_of_cell zX0)).trans zX0; have yX1 := (hSw.cell (lt_of_cell zX1)).trans zX1; have yX2 := (hSw.cell (lt_of_cell zX2)).trans zX2; have yb1 := (hSw.cell (lt_of_cell b1)).trans b1; have yb4 := (hSw.cell (lt_of_cell b4)).trans b4; have yg0 := (hSw.cell (lt_of_cell g0)).trans g0; have ygf := (hSw.cell (lt_of_cell gf)).trans gf; go_simp⟩) hS0 ?_
    try simp only [Act.put, List.setIfInBounds_toArray, List.set_cons_zero, List.set_cons_succ]
    refine Zed.anyZ_take (i := 4) (oi := { dst := some 34, op := Go.Op.fieldAddr 79 (Go.Operand.tmp 4) 0, type := 0, pos := "board.go:81", after := #[], guard := none }) (v := .pointer (some ⟨R, 0, none⟩)) rfl (by decide) (by kernel_rfl) (by kernel_rfl) (by kernel_rfl) (by kernel_rfl) (fun _ _ _ h => h) (Or.inl ⟨by rfl, by intro w2 hSw; (try dsimp only at hSw); have yX0 := (hSw.cell (lt_of_cell zX0)).trans zX0; have yX1 := (hSw.cell (lt_of_cell zX1)).trans zX1; have yX2 := (hSw.cell (lt_of_cell zX2)).trans zX2; have yb1 := (hSw.cell (lt_of_cell b1)).trans b1; have yb4 := (hSw.cell (lt_of_cell b4)).trans b4; have yg0 := (hSw.cell (lt_of_cell g0)).trans g0; have ygf := (hSw.cell (lt_of_cell gf)).trans gf; go_simp⟩) hS0 ?_
    try simp only [Act.put, List.setIfInBounds_toArray, List.set_cons_zero, List.set_cons_succ]
    refine Zed.anyZ_take (i := 5) (oi := { dst := some 35, op := Go.Op.load 3 (Go.Operand.tmp 34), type := 3, pos := "board.go:81", after := #[{ on := 4, ground := Go.Ground.data }], guard := none }) (v := .int .i64 (x : Int)) rfl (by decide) (by kernel_rfl) (by kernel_rfl) (by kernel_rfl) (by kernel_rfl) (fun _ _ _ h => h) (Or.inl ⟨by rfl, by intro w2 hSw; (try dsimp only at hSw); have yX0 := (hSw.cell (lt_of_cell zX0)).trans zX0; have yX1 := (hSw.cell (lt_of_cell zX1)).trans zX1; have yX2 := (hSw.cell (lt_of_cell zX2)).trans zX2; have yb1 := (hSw.cell (lt_of_cell b1)).trans b1; have yb4 := (hSw.cell (lt_of_cell b4)).trans b4; have yg0 := (hSw.cell (lt_of_cell g0)).trans g0; have ygf := (hSw.cell (lt_of_cell gf)).trans gf; go_simp⟩) hS0 ?_
    try simp only [Act.put, List.setIfInBounds_toArray, List.set_cons_zero, List.set_cons_succ]
    refine Zed.anyZ_take (i := 6) (oi := { dst := some 36, op := Go.Op.indexAddr 41 (Go.Operand.tmp 33) (Go.Operand.tmp 35), type := 0, pos := "board.go:81", after := #[{ on := 3, ground := Go.Ground.data }, { on := 5, ground := Go.Ground.data }], guard := none }) (v := .pointer (some ⟨b.F, x, none⟩)) rfl (by decide) (by kernel_rfl) (by kernel_rfl) (by kernel_rfl) (by kernel_rfl) (fun _ _ _ h => h) (Or.inl ⟨by rfl, by intro w2 hSw; (try dsimp only at hSw); have yX0 := (hSw.cell (lt_of_cell zX0)).trans zX0; have yX1 := (hSw.cell (lt_of_cell zX1)).trans zX1; have yX2 := (hSw.cell (lt_of_cell zX2)).trans zX2; have yb1 := (hSw.cell (lt_of_cell b1)).trans b1; have yb4 := (hSw.cell (lt_of_cell b4)).trans b4; have yg0 := (hSw.cell (lt_of_cell g0)).trans g0; have ygf := (hSw.cell (lt_of_cell gf)).trans gf; go_simp⟩) hS0 ?_
    try simp only [Act.put, List.setIfInBounds_toArray, List.set_cons_zero, List.set_cons_succ]
    refine Zed.anyZ_take (i := 7) (oi := { dst := some 37, op := Go.Op.load 2 (Go.Operand.tmp 36), type := 2, pos := "board.go:81", after := #[{ on := 6, ground := Go.Ground.data }], guard := none }) (v := .int .i64 fx) rfl (by decide) (by kernel_rfl) (by kernel_rfl) (by kernel_rfl) (by kernel_rfl) (fun _ _ _ h => h) (Or.inl ⟨by rfl, by intro w2 hSw; (try dsimp only at hSw); have yX0 := (hSw.cell (lt_of_cell zX0)).trans zX0; have yX1 := (hSw.cell (lt_of_cell zX1)).trans zX1; have yX2 := (hSw.cell (lt_of_cell zX2)).trans zX2; have yb1 := (hSw.cell (lt_of_cell b1)).trans b1; have yb4 := (hSw.cell (lt_of_cell b4)).trans b4; have yg0 := (hSw.cell (lt_of_cell g0)).trans g0; have ygf := (hSw.cell (lt_of_cell gf)).trans gf; go_simp⟩) hS0 ?_
    try simp only [Act.put, List.setIfInBounds_toArray, List.set_cons_zero, List.set_cons_succ]
    refine Zed.anyZ_take (i := 8) (oi := { dst := some 38, op := Go.Op.move (Go.Operand.tmp 2), type := 2, pos := "board.go:81", after := #[], guard := none }) (v := .int .i64 t) rfl (by decide) (by kernel_rfl) (by kernel_rfl) (by kernel_rfl) (by kernel_rfl) (fun _ _ _ h => h) (Or.inl ⟨by rfl, by intro w2 hSw; (try dsimp only at hSw); have yX0 := (hSw.cell (lt_of_cell zX0)).trans zX0; have yX1 := (hSw.cell (lt_of_cell zX1)).trans zX1; have yX2 := (hSw.cell (lt_of_cell zX2)).trans zX2; have yb1 := (hSw.cell (lt_of_cell b1)).trans b1; have yb4 := (hSw.cell (lt_of_cell b4)).trans b4; have yg0 := (hSw.cell (lt_of_cell g0)).trans g0; have ygf := (hSw.cell (lt_of_cell gf)).trans gf; go_simp⟩) hS0 ?_
    try simp only [Act.put, List.setIfInBounds_toArray, List.set_cons_zero, List.set_cons_succ]
    refine Zed.anyZ_take (i := 9) (oi := { dst := some 39, op := Go.Op.binOp Go.BinOp.sub 2 (Go.Operand.tmp 37) (Go.Operand.tmp 38) 2, type := 2, pos := "board.go:81", after := #[{ on := 7, ground := Go.Ground.data }, { on := 8, ground := Go.Ground.data }], guard := none }) (v := .int .i64 (fx - t)) rfl (by decide) (by kernel_rfl) (by kernel_rfl) (by kernel_rfl) (by kernel_rfl) (fun _ _ _ h => h) (Or.inl ⟨by rfl, by intro w2 hSw; (try dsimp only at hSw); have yX0 := (hSw.cell (lt_of_cell zX0)).trans zX0; have yX1 := (hSw.cell (lt_of_cell zX1)).trans zX1; have yX2 := (hSw.cell (lt_of_cell zX2)).trans zX2; have yb1 := (hSw.cell (lt_of_cell b1)).trans b1; have yb4 := (hSw.cell (lt_of_cell b4)).trans b4; have yg0 := (hSw.cell (lt_of_cell g0)).trans g0; have ygf := (hSw.cell (lt_of_cell gf)).trans gf; go_simp⟩) hS0 ?_
    try simp only [Act.put, List.setIfInBounds_toArray, List.set_cons_zero, List.set_cons_succ]
    refine Zed.anyZ_take (i := 10) (oi := { dst := some 40, op := Go.Op.indexAddr 41 (Go.Operand.tmp 33) (Go.Operand.tmp 35), type := 0, pos := "board.go:81", after := #[{ on := 3, ground := Go.Ground.data }, { on := 5, ground := Go.Ground.data }, { on := 0, ground := Go.Ground.phase }, { on := 1, ground := Go.Ground.phase }, { on := 2, ground := Go.Ground.phase }, { on := 3, ground := Go.Ground.phase }, { on := 4, ground := Go.Ground.phase }, { on := 5, ground := Go.Ground.phase }, { on := 6, ground := Go.Ground.phase }, { on := 7, ground := Go.Ground.phase }, { on := 8, ground := Go.Ground.phase }, { on := 9, ground := Go.Ground.phase }], guard := none }) (v := .pointer (some ⟨b.F, x, none⟩)) rfl (by decide) (by kernel_rfl) (by kernel_rfl) (by kernel_rfl) (by kernel_rfl) (fun _ _ _ h => h) (Or.inl ⟨by rfl, by intro w2 hSw; (try dsimp only at hSw); have yX0 := (hSw.cell (lt_of_cell zX0)).trans zX0; have yX1 := (hSw.cell (lt_of_cell zX1)).trans zX1; have yX2 := (hSw.cell (lt_of_cell zX2)).trans zX2; have yb1 := (hSw.cell (lt_of_cell b1)).trans b1; have yb4 := (hSw.cell (lt_of_cell b4)).trans b4; have yg0 := (hSw.cell (lt_of_cell g0)).trans g0; have ygf := (hSw.cell (lt_of_cell gf)).trans gf; go_simp⟩) hS0 ?_
    try simp only [Act.put, List.setIfInBounds_toArray, List.set_cons_zero, List.set_cons_succ]
    generalize w0d.drew = V0 at hS0 ⊢
    have D9 := D.out.below hS0 (Nat.le_refl _)
    have xf : V0.cell? ⟨b.F, x, none⟩ = some (.int .i64 fx) := (hS0.cell (p := ⟨b.F, x, none⟩) (lt_of_cell gf)).trans gf
    have ff := D9.frozen x
    have HD9 := Lib.hid D9
    have HS9 := Lib.hid (B.out.trans (hS0.mono B.out.size))
    clear D9 hS0
    refine Zed.anyZ_ready (rs := [11]) (by kernel_rfl) (by simp) ?_
    refine Zed.AllZ.cons (o := { dst := none, op := Go.Op.store 2 (Go.Operand.tmp 40) (Go.Operand.tmp 39), type := 0, pos := "board.go:81", after := #[{ on := 10, ground := Go.Ground.data }, { on := 9, ground := Go.Ground.data }, { on := 0, ground := Go.Ground.phase }, { on := 1, ground := Go.Ground.phase }, { on := 2, ground := Go.Ground.phase }, { on := 3, ground := Go.Ground.phase }, { on := 4, ground := Go.Ground.phase }, { on := 5, ground := Go.Ground.phase }, { on := 6, ground := Go.Ground.phase }, { on := 7, ground := Go.Ground.phase }, { on := 8, ground := Go.Ground.phase }, { on := 9, ground := Go.Ground.phase }], guard := none }) rfl (fun K2 hK => ?_) Zed.AllZ.nil
    go_simp
    refine hK.out _ _ (fun h => absurd rfl h) (fun _ => ?_)
    clear hK K2
    try simp only [Act.put, List.setIfInBounds_toArray, List.set_cons_zero, List.set_cons_succ]
    refine Zed.anyZ_done (by kernel_rfl) ?_ _
    clear zX0 zX1 zX2 ltX b1 b4 g0 gf
    clear xf ff
    have HQ := Lib.hid (HD9.out.set hx (HS3.out HE.out) HS1.out)
    have HK := Lib.hid ((Keeps.of_new HS9.out).trans (keeps_setCell V0 b.F x (.int .i64 (fx - t))))
    go_wp2_with fail
    (try simp only [Exit.inBlock, Exit.then])
    refine bodyPost_end (results_none rfl _ _ _) rfl ?_
    exact ⟨rfl, HQ.out, HK.out⟩
end
end Go.Proofs.Ytigohccehllmnaa
