/- Stage 5: rows of sides that grow; the items of a list. -/
import Derived.Test.YtnodkgejggnehaaCv
import Derived.Deep.Cut
namespace Go.Proofs.Ytnodkgejggnehaa
set_option linter.unusedSimpArgs false
set_option linter.unusedVariables false
open Go.RowKit Go.Shelf
/-- A board in memory: its sheet, the partners of its items, its open links, its map. -/
structure Brd (W : World) (B : Nat) (sl sr : Int) (A : Option Addr) (n cap : Nat) (zs : List Rg) (A2 : Option Addr) (kn kc : Nat) (ks : List Int) (pt : Nat → Int) (op : Nat → Bool) (mp : Value) : Prop where
  c0 : W.cell? ⟨B, 0, none⟩ = some (.int .i64 sl)
  c1 : W.cell? ⟨B, 1, none⟩ = some (.int .i64 sr)
  c2 : W.cell? ⟨B, 2, none⟩ = some (.slice A n cap)
  c3 : W.cell? ⟨B, 3, none⟩ = some (.slice A2 kn kc)
  hp : ∀ j, j < 24 → W.cell? ⟨B, 4 + j, none⟩ = some (.int .i64 (pt j))
  ho : ∀ j, j < 40 → W.cell? ⟨B, 28 + j, none⟩ = some (.bool (op j))
  cm : W.cell? ⟨B, 68, none⟩ = some mp
  rs : Rgs W A n zs
  is : Ints W A2 kn ks
  row : ∃ X : Array Value, W.heap[B]? = some (.cells X 91 (0, 0)) ∧ X.size = 69
  da : 0 < n → ∀ a, A = some a → a.block ≠ B
  dk : 0 < kn → ∀ a, A2 = some a → a.block ≠ B
section
variable {W W' : World} {B : Nat} {sl sr : Int} {A : Option Addr} {n cap : Nat} {zs : List Rg} {A2 : Option Addr} {kn kc : Nat} {ks : List Int} {pt : Nat → Int} {op : Nat → Bool} {mp : Value}
theorem Brd.below {Bs : Nat} (h : Brd W B sl sr A n cap zs A2 kn kc ks pt op mp) (hb : Below Bs W W') (hB : W.heap.size ≤ Bs) : Brd W' B sl sr A n cap zs A2 kn kc ks pt op mp :=
  have k : ∀ o v, W.cell? ⟨B, o, none⟩ = some v → W'.cell? ⟨B, o, none⟩ = some v := fun o v hv => (hb.cell (p := ⟨B, o, none⟩) (Nat.lt_of_lt_of_le (lt_of_cell hv) hB)).trans hv
  ⟨k _ _ h.c0, k _ _ h.c1, k _ _ h.c2, k _ _ h.c3, fun j hj => k _ _ (h.hp j hj), fun j hj => k _ _ (h.ho j hj), k _ _ h.cm, h.rs.below hb hB, h.is.below hb hB, (by
    obtain ⟨X, hX, hs⟩ := h.row
    exact ⟨X, (hb.block B (Nat.lt_of_lt_of_le (lt_of_block hX) hB)).trans hX, hs⟩), h.da, h.dk⟩
theorem Rgs.keep {Mut : Nat → Prop} (h : Rgs W A n zs) (hK : Keeps Mut W W') (hm : ∀ a, A = some a → ¬ Mut a.block) : Rgs W' A n zs := by
  refine ⟨h.1, fun hn => ?_⟩
  obtain ⟨b, o, e, hc⟩ := h.2 hn
  have hl : b < W.heap.size := lt_of_cell (hc 0 hn).1
  exact ⟨b, o, e, fun j hj => ⟨(keep_cells hK hl (hm _ e) _).trans (hc j hj).1, (keep_cells hK hl (hm _ e) _).trans (hc j hj).2⟩⟩
theorem Ints.keep {Mut : Nat → Prop} (h : Ints W A2 kn ks) (hK : Keeps Mut W W') (hm : ∀ a, A2 = some a → ¬ Mut a.block) : Ints W' A2 kn ks := by
  refine ⟨h.1, fun hn => ?_⟩
  obtain ⟨b, o, e, hc⟩ := h.2 hn
  have hl : b < W.heap.size := lt_of_cell (hc 0 hn)
  exact ⟨b, o, e, fun j hj => (keep_cells hK hl (hm _ e) _).trans (hc j hj)⟩
theorem Rgs.keepN {Mut : Nat → Prop} (h : Rgs W A n zs) (hK : Keeps Mut W W') (hm : 0 < n → ∀ a, A = some a → ¬ Mut a.block) : Rgs W' A n zs := by
  rcases Nat.eq_zero_or_pos n with e | e
  · exact ⟨h.1, fun hn => by omega⟩
  · exact h.keep hK (hm e)
theorem Ints.keepN {Mut : Nat → Prop} (h : Ints W A2 kn ks) (hK : Keeps Mut W W') (hm : 0 < kn → ∀ a, A2 = some a → ¬ Mut a.block) : Ints W' A2 kn ks := by
  rcases Nat.eq_zero_or_pos kn with e | e
  · exact ⟨h.1, fun hn => by omega⟩
  · exact h.keep hK (hm e)
/-- What else changes keeps the board. -/
theorem Brd.keep {Mut : Nat → Prop} (h : Brd W B sl sr A n cap zs A2 kn kc ks pt op mp) (hK : Keeps Mut W W') (hB : ¬ Mut B) (hA : ∀ a, A = some a → ¬ Mut a.block) (hA2 : ∀ a, A2 = some a → ¬ Mut a.block) : Brd W' B sl sr A n cap zs A2 kn kc ks pt op mp := by
  obtain ⟨X, hX, hs⟩ := h.row
  have hl := lt_of_block hX
  have k : ∀ o v, W.cell? ⟨B, o, none⟩ = some v → W'.cell? ⟨B, o, none⟩ = some v := fun o v hv => (keep_cells hK hl hB o).trans hv
  exact ⟨k _ _ h.c0, k _ _ h.c1, k _ _ h.c2, k _ _ h.c3, fun j hj => k _ _ (h.hp j hj), fun j hj => k _ _ (h.ho j hj), k _ _ h.cm, h.rs.keep hK hA, h.is.keep hK hA2, ⟨X, (hK.block B hl hB).trans hX, hs⟩, h.da, h.dk⟩
theorem cell_set {W : World} {B : Nat} {X : Array Value} {t : TypeId} {o : Nat} {v : Value} (hX : W.heap[B]? = some (.cells X t (0, 0))) (ho : o < X.size) (i : Nat) : (W.setCell ⟨B, o, none⟩ v).cell? ⟨B, i, none⟩ = if i = o then some v else W.cell? ⟨B, i, none⟩ := by
  rw [cell_row (set_same o v hX), cell_row hX, Array.getElem?_setIfInBounds]
  by_cases h : o = i
  · rw [if_pos h, if_pos h.symm, if_pos ho]
  · rw [if_neg h, if_neg (fun e => h e.symm)]
/-- A partner is set. -/
theorem Brd.setP (h : Brd W B sl sr A n cap zs A2 kn kc ks pt op mp) (j : Nat) (p : Int) (hj : j < 24) : Brd (W.setCell ⟨B, 4 + j, none⟩ (.int .i64 p)) B sl sr A n cap zs A2 kn kc ks (fun i => if i = j then p else pt i) op mp := by
  obtain ⟨X, hX, hs⟩ := h.row
  have c := fun i => cell_set (v := .int .i64 p) hX (show 4 + j < X.size by omega) i
  have hK := keeps_setCell W B (4 + j) (.int .i64 p)
  refine ⟨?_, ?_, ?_, ?_, fun i hi => ?_, fun i hi => ?_, ?_, h.rs.keepN hK h.da, h.is.keepN hK h.dk, ⟨_, set_same _ _ hX, by simpa using hs⟩, h.da, h.dk⟩
  · rw [c, if_neg (by omega)]; exact h.c0
  · rw [c, if_neg (by omega)]; exact h.c1
  · rw [c, if_neg (by omega)]; exact h.c2
  · rw [c, if_neg (by omega)]; exact h.c3
  · rw [c]
    by_cases e : i = j
    · rw [if_pos (by omega)]; simp only [if_pos e]
    · rw [if_neg (by omega)]; simp only [if_neg e]; exact h.hp i hi
  · rw [c, if_neg (by omega)]; exact h.ho i hi
  · rw [c, if_neg (by omega)]; exact h.cm
/-- A link is opened or closed. -/
theorem Brd.setO (h : Brd W B sl sr A n cap zs A2 kn kc ks pt op mp) (j : Nat) (p : Bool) (hj : j < 40) : Brd (W.setCell ⟨B, 28 + j, none⟩ (.bool p)) B sl sr A n cap zs A2 kn kc ks pt (fun i => if i = j then p else op i) mp := by
  obtain ⟨X, hX, hs⟩ := h.row
  have c := fun i => cell_set (v := .bool p) hX (show 28 + j < X.size by omega) i
  have hK := keeps_setCell W B (28 + j) (.bool p)
  refine ⟨?_, ?_, ?_, ?_, fun i hi => ?_, fun i hi => ?_, ?_, h.rs.keepN hK h.da, h.is.keepN hK h.dk, ⟨_, set_same _ _ hX, by simpa using hs⟩, h.da, h.dk⟩
  · rw [c, if_neg (by omega)]; exact h.c0
  · rw [c, if_neg (by omega)]; exact h.c1
  · rw [c, if_neg (by omega)]; exact h.c2
  · rw [c, if_neg (by omega)]; exact h.c3
  · rw [c, if_neg (by omega)]; exact h.hp i hi
  · rw [c]
    by_cases e : i = j
    · rw [if_pos (by omega)]; simp only [if_pos e]
    · rw [if_neg (by omega)]; simp only [if_neg e]; exact h.ho i hi
  · rw [c, if_neg (by omega)]; exact h.cm
theorem Brd.frozen (h : Brd W B sl sr A n cap zs A2 kn kc ks pt op mp) (o : Nat) : W.frozen? ⟨B, o, none⟩ = false := by
  obtain ⟨X, hX, -⟩ := h.row
  exact frozen_row hX
end
section
attribute [local go_sem ↓] exec_app at_app
attribute [local go_sem] Oper.semAt_some
set_option maxRecDepth 100000 in
set_option maxHeartbeats 4000000 in
theorem isOpen84 (B : Nat) (sl sr : Int) (A : Option Addr) (n cap : Nat) (zs : List Rg) (A2 : Option Addr) (kn kc : Nat) (ks : List Int) (pt : Nat → Int) (op : Nat → Bool) (mp : Value) (k : Nat) (w : World) (h : Brd w B sl sr A n cap zs A2 kn kc ks pt op mp) (hk : k < 40) :
    Calls Try.prog 84 #[.pointer (some ⟨B, 0, none⟩), .int .i64 (k : Int)] w fun e w' => e = .returned (.bool (op k)) ∧ w' = w := by
  have x := h.ho k hk
  have i0 : (0 : Int) ≤ (k : Int) := by omega
  have i1 : (k : Int) < 40 := by omega
  go_enter Try.func84, Try.ntmps84
  go_wp2_with fail
  go_ret
  exact ⟨rfl, rfl⟩
set_option maxRecDepth 100000 in
set_option maxHeartbeats 4000000 in
theorem partner70 (B : Nat) (sl sr : Int) (A : Option Addr) (n cap : Nat) (zs : List Rg) (A2 : Option Addr) (kn kc : Nat) (ks : List Int) (pt : Nat → Int) (op : Nat → Bool) (mp : Value) (l i : Nat) (w : World) (h : Brd w B sl sr A n cap zs A2 kn kc ks pt op mp) (hl : l < 2) (hi : i < 12) :
    Calls Try.prog 70 #[.pointer (some ⟨B, 0, none⟩), .agg #[.int .i64 (l : Int), .int .i64 (i : Int)]] w fun e w' => e = .returned (.int .i64 (pt (l * 12 + i))) ∧ Below w.heap.size w w' := by
  have hb0 := below_alloc_ w (.cells #[.int .i64 (l : Int), .int .i64 (i : Int)] 100)
  have hr0 := heap_alloc_new_ w (.cells #[.int .i64 (l : Int), .int .i64 (i : Int)] 100)
  obtain ⟨w0, hW0⟩ : ∃ w0, w.alloc (.cells #[.int .i64 (l : Int), .int .i64 (i : Int)] 100) = w0 := ⟨_, rfl⟩
  obtain ⟨R, hR⟩ : ∃ R, w.heap.size = R := ⟨_, rfl⟩
  rw [hW0] at hb0 hr0
  have xp := (h.below hb0 (Nat.le_refl _)).hp (l * 12 + i) (by omega)
  rw [← Nat.add_assoc] at xp
  obtain ⟨p, hp⟩ : ∃ p, pt (l * 12 + i) = p := ⟨_, rfl⟩
  rw [hp] at xp ⊢
  rw [hR] at hr0
  have x0 : w0.cell? ⟨R, 0, none⟩ = some (.int .i64 (l : Int)) := by rw [cell_row hr0]; rfl
  have x1 : w0.cell? ⟨R, 1, none⟩ = some (.int .i64 (i : Int)) := by rw [cell_row hr0]; rfl
  have i0 : (0 : Int) ≤ (l : Int) := by omega
  have i1 : (l : Int) < 2 := by omega
  have i2 : (0 : Int) ≤ (i : Int) := by omega
  have i3 : (i : Int) < 12 := by omega
  have HB := Lib.hid hb0
  have HW0 := Lib.hid hW0
  have HR := Lib.hid hR
  clear h hb0 hr0 hW0 hR hp
  go_enter Try.func70, Try.ntmps70
  go_wp2_with fail
  rw [HW0.out]
  try rw [HR.out]
  try go_wp2_with fail
  refine wp_region_held_drew (S := fun w2 => Below w0.heap.size w0 w2) (by kernel_rfl) (drew_b _ _) (fun hS0 => ?_)
  refine wpAnyH_take (i := 0) (oi := { dst := some 5, op := Go.Op.move (Go.Operand.tmp 0), type := 61, pos := "board.go:96", after := #[], guard := none }) (v := .pointer (some ⟨B, 0, none⟩)) rfl (by kernel_rfl) (by kernel_rfl) (by kernel_rfl) (fun _ _ _ h => h) (Or.inl ⟨by rfl, by intro w2 hSw; (try dsimp only at hSw); go_simp⟩) hS0 ?_
  try simp only [Act.put, List.setIfInBounds_toArray, List.set_cons_zero, List.set_cons_succ]
  refine wpAnyH_take (i := 1) (oi := { dst := some 6, op := Go.Op.fieldAddr 100 (Go.Operand.tmp 3) 0, type := 0, pos := "board.go:96", after := #[], guard := none }) (v := .pointer (some ⟨R, 0, none⟩)) rfl (by kernel_rfl) (by kernel_rfl) (by kernel_rfl) (fun _ _ _ h => h) (Or.inl ⟨by rfl, by intro w2 hSw; (try dsimp only at hSw); go_simp⟩) hS0 ?_
  try simp only [Act.put, List.setIfInBounds_toArray, List.set_cons_zero, List.set_cons_succ]
  refine wpAnyH_take (i := 2) (oi := { dst := some 7, op := Go.Op.load 3 (Go.Operand.tmp 6), type := 3, pos := "board.go:96", after := #[{ on := 1, ground := Go.Ground.data }], guard := none }) (v := .int .i64 (l : Int)) rfl (by kernel_rfl) (by kernel_rfl) (by kernel_rfl) (fun _ _ _ h => h) (Or.inl ⟨by rfl, by intro w2 hSw; (try dsimp only at hSw); have z0 := (hSw.cell (lt_of_cell x0)).trans x0; go_simp⟩) hS0 ?_
  try simp only [Act.put, List.setIfInBounds_toArray, List.set_cons_zero, List.set_cons_succ]
  refine wpAnyH_take (i := 3) (oi := { dst := some 8, op := Go.Op.fieldAddr 100 (Go.Operand.tmp 3) 1, type := 0, pos := "board.go:96", after := #[], guard := none }) (v := .pointer (some ⟨R, 1, none⟩)) rfl (by kernel_rfl) (by kernel_rfl) (by kernel_rfl) (fun _ _ _ h => h) (Or.inl ⟨by rfl, by intro w2 hSw; (try dsimp only at hSw); go_simp⟩) hS0 ?_
  try simp only [Act.put, List.setIfInBounds_toArray, List.set_cons_zero, List.set_cons_succ]
  refine wpAnyH_take (i := 4) (oi := { dst := some 9, op := Go.Op.load 3 (Go.Operand.tmp 8), type := 3, pos := "board.go:96", after := #[{ on := 3, ground := Go.Ground.data }], guard := none }) (v := .int .i64 (i : Int)) rfl (by kernel_rfl) (by kernel_rfl) (by kernel_rfl) (fun _ _ _ h => h) (Or.inl ⟨by rfl, by intro w2 hSw; (try dsimp only at hSw); have z0 := (hSw.cell (lt_of_cell x1)).trans x1; go_simp⟩) hS0 ?_
  try simp only [Act.put, List.setIfInBounds_toArray, List.set_cons_zero, List.set_cons_succ]
  refine wpAnyH_take (i := 5) (oi := { dst := some 10, op := Go.Op.nilCheck (Go.Operand.tmp 5), type := 0, pos := "board.go:96", after := #[{ on := 0, ground := Go.Ground.data }], guard := none }) (v := .pointer (some ⟨B, 0, none⟩)) rfl (by kernel_rfl) (by kernel_rfl) (by kernel_rfl) (fun _ _ _ h => h) (Or.inl ⟨by rfl, by intro w2 hSw; (try dsimp only at hSw); go_simp⟩) hS0 ?_
  try simp only [Act.put, List.setIfInBounds_toArray, List.set_cons_zero, List.set_cons_succ]
  refine wpAnyH_take (i := 6) (oi := { dst := some 11, op := Go.Op.fieldAddr 91 (Go.Operand.tmp 10) 1, type := 0, pos := "board.go:96", after := #[{ on := 5, ground := Go.Ground.data }], guard := none }) (v := .pointer (some ⟨B, 4, none⟩)) rfl (by kernel_rfl) (by kernel_rfl) (by kernel_rfl) (fun _ _ _ h => h) (Or.inl ⟨by rfl, by intro w2 hSw; (try dsimp only at hSw); go_simp⟩) hS0 ?_
  try simp only [Act.put, List.setIfInBounds_toArray, List.set_cons_zero, List.set_cons_succ]
  refine wpAnyH_take (i := 7) (oi := { dst := some 12, op := Go.Op.indexAddr 88 (Go.Operand.tmp 11) (Go.Operand.tmp 7), type := 0, pos := "board.go:96", after := #[{ on := 6, ground := Go.Ground.data }, { on := 2, ground := Go.Ground.data }], guard := none }) (v := .pointer (some ⟨B, 4 + l * 12, none⟩)) rfl (by kernel_rfl) (by kernel_rfl) (by kernel_rfl) (fun _ _ _ h => h) (Or.inl ⟨by rfl, by intro w2 hSw; (try dsimp only at hSw); go_simp⟩) hS0 ?_
  try simp only [Act.put, List.setIfInBounds_toArray, List.set_cons_zero, List.set_cons_succ]
  refine wpAnyH_take (i := 8) (oi := { dst := some 13, op := Go.Op.indexAddr 86 (Go.Operand.tmp 12) (Go.Operand.tmp 9), type := 0, pos := "board.go:96", after := #[{ on := 7, ground := Go.Ground.data }, { on := 4, ground := Go.Ground.data }], guard := none }) (v := .pointer (some ⟨B, 4 + l * 12 + i, none⟩)) rfl (by kernel_rfl) (by kernel_rfl) (by kernel_rfl) (fun _ _ _ h => h) (Or.inl ⟨by rfl, by intro w2 hSw; (try dsimp only at hSw); go_simp⟩) hS0 ?_
  try simp only [Act.put, List.setIfInBounds_toArray, List.set_cons_zero, List.set_cons_succ]
  refine wpAnyH_take (i := 9) (oi := { dst := some 14, op := Go.Op.load 3 (Go.Operand.tmp 13), type := 3, pos := "board.go:96", after := #[{ on := 8, ground := Go.Ground.data }], guard := none }) (v := .int .i64 p) rfl (by kernel_rfl) (by kernel_rfl) (by kernel_rfl) (fun _ _ _ h => h) (Or.inl ⟨by rfl, by intro w2 hSw; (try dsimp only at hSw); have z0 := (hSw.cell (lt_of_cell xp)).trans xp; go_simp⟩) hS0 ?_
  try simp only [Act.put, List.setIfInBounds_toArray, List.set_cons_zero, List.set_cons_succ]
  refine wpAnyH_take (i := 10) (oi := { dst := some 4, op := Go.Op.assign (Go.Operand.tmp 14), type := 3, pos := "board.go:96", after := #[{ on := 9, ground := Go.Ground.data }, { on := 0, ground := Go.Ground.phase }, { on := 1, ground := Go.Ground.phase }, { on := 2, ground := Go.Ground.phase }, { on := 3, ground := Go.Ground.phase }, { on := 4, ground := Go.Ground.phase }, { on := 5, ground := Go.Ground.phase }, { on := 6, ground := Go.Ground.phase }, { on := 7, ground := Go.Ground.phase }, { on := 8, ground := Go.Ground.phase }, { on := 9, ground := Go.Ground.phase }], guard := none }) (v := .int .i64 p) rfl (by kernel_rfl) (by kernel_rfl) (by kernel_rfl) (fun _ _ _ h => h) (Or.inl ⟨by rfl, by intro w2 hSw; (try dsimp only at hSw); go_simp⟩) hS0 ?_
  try simp only [Act.put, List.setIfInBounds_toArray, List.set_cons_zero, List.set_cons_succ]
  refine wpAnyH_done (by kernel_rfl) ?_ _
  have HB2 := Lib.hid (HB.out.trans (hS0.mono HB.out.size))
  clear hS0
  go_wp2_with fail
  go_ret
  exact ⟨rfl, by first | exact HB2.out | (rw [← HR.out]; exact HB2.out)⟩
end
end Go.Proofs.Ytnodkgejggnehaa

namespace Go.Proofs.Ytnodkgejggnehaa
set_option linter.unusedSimpArgs false
set_option linter.unusedVariables false
open Go.RowKit Go.Shelf
section
attribute [local go_sem ↓] exec_app at_app
attribute [local go_sem] Oper.semAt_some
set_option maxRecDepth 100000 in
set_option maxHeartbeats 4000000 in
theorem ends72 (B : Nat) (sl sr : Int) (A : Option Addr) (n cap : Nat) (zs : List Rg) (A2 : Option Addr) (kn kc : Nat) (ks : List Int) (pt : Nat → Int) (op : Nat → Bool) (mp : Value) (k : Nat) (w : World) (h : Brd w B sl sr A n cap zs A2 kn kc ks pt op mp) (hk : k < n) :
    Calls Try.prog 72 #[.pointer (some ⟨B, 0, none⟩), .int .i64 (k : Int)] w fun e w' => e = .returned (.agg #[.int .i64 0, .int .i64 (gAt zs k).lo, .int .i64 1, .int .i64 (gAt zs k).hi]) ∧ Below w.heap.size w w' := by
  obtain ⟨bz, oz, rfl, hcz⟩ := h.rs.2 (by omega)
  have zx := hcz k hk
  obtain ⟨gx, hgx⟩ : ∃ g, gAt zs k = g := ⟨_, rfl⟩
  rw [hgx] at zx ⊢
  obtain ⟨xl, xh⟩ := gx
  simp only at zx ⊢
  obtain ⟨z0, z1⟩ := zx
  have c2 := h.c2
  have l0 := lt_of_cell z0
  have l2 := lt_of_cell c2
  have i0 : (0 : Int) ≤ (k : Int) := by omega
  have i1 : (k : Int) < (n : Int) := by omega
  clear hcz hgx h
  go_enter Try.func72, Try.ntmps72
  go_wp2_with fail
  have hb1 := below_alloc_ w (.cells #[.int .i64 0, .int .i64 xl, .int .i64 1, .int .i64 xh] 103)
  have hr1 := heap_alloc_new_ w (.cells #[.int .i64 0, .int .i64 xl, .int .i64 1, .int .i64 xh] 103)
  obtain ⟨w1, hW1⟩ : ∃ w1, w.alloc (.cells #[.int .i64 0, .int .i64 xl, .int .i64 1, .int .i64 xh] 103) = w1 := ⟨_, rfl⟩
  rw [hW1] at hb1 hr1 ⊢
  have hb2 := below_alloc_ w1 (.cells #[.int .i64 xl, .int .i64 xh] 55)
  obtain ⟨w2, hW2⟩ : ∃ w2, w1.alloc (.cells #[.int .i64 xl, .int .i64 xh] 55) = w2 := ⟨_, rfl⟩
  rw [hW2] at hb2 ⊢
  have hr2 := (hb2.block _ (lt_of_block hr1)).trans hr1
  have hb := hb1.trans (hb2.mono hb1.size)
  obtain ⟨Z, hZ⟩ : ∃ Z, w.heap.size = Z := ⟨_, rfl⟩
  rw [hZ] at hr2 ⊢
  have y0 : w2.cell? ⟨Z, 0, none⟩ = some (.int .i64 0) := by rw [cell_row hr2]; rfl
  have y1 : w2.cell? ⟨Z, 1, none⟩ = some (.int .i64 xl) := by rw [cell_row hr2]; rfl
  have y2 : w2.cell? ⟨Z, 2, none⟩ = some (.int .i64 1) := by rw [cell_row hr2]; rfl
  have y3 : w2.cell? ⟨Z, 3, none⟩ = some (.int .i64 xh) := by rw [cell_row hr2]; rfl
  clear hr1 hb1 hb2 hW1 hW2 hr2
  refine bodyPost_ret (v := .agg #[.int .i64 0, .int .i64 xl, .int .i64 1, .int .i64 xh]) (by simp [results, Try.results72, go_sem, y0, y1, y2, y3]) rfl ?_
  exact ⟨rfl, by rw [← hZ]; exact hb⟩
set_option maxRecDepth 100000 in
set_option maxHeartbeats 4000000 in
theorem joins68 (B : Nat) (sl sr : Int) (A : Option Addr) (n cap : Nat) (zs : List Rg) (A2 : Option Addr) (kn kc : Nat) (ks : List Int) (pt : Nat → Int) (op : Nat → Bool) (mp : Value) (k : Nat) (w : World) (h : Brd w B sl sr A n cap zs A2 kn kc ks pt op mp) (hk : k < n) (hl : 0 ≤ (gAt zs k).lo ∧ (gAt zs k).lo < 12) :
    Calls Try.prog 68 #[.pointer (some ⟨B, 0, none⟩), .int .i64 (k : Int)] w fun e w' => e = .returned (.bool (pt (gAt zs k).lo.toNat == (k : Int))) ∧ Below w.heap.size w w' := by
  have ix : ∀ (l xh : Int) (W : World), (Instr.index 103 (.agg #[.int .i64 0, .int .i64 l, .int .i64 1, .int .i64 xh]) (.int .i64 0)).run Try.prog W = .ok (.agg #[.int .i64 0, .int .i64 l]) W := fun _ _ _ => by kernel_rfl
  have H := Lib.hid h
  have k1 := ends72 B sl sr A n cap zs A2 kn kc ks pt op mp k w h hk
  obtain ⟨gx, hgx⟩ : ∃ g, gAt zs k = g := ⟨_, rfl⟩
  rw [hgx] at k1 hl ⊢
  obtain ⟨xl, xh⟩ := gx
  simp only at k1 hl ⊢
  obtain ⟨l, rfl⟩ : ∃ l : Nat, xl = (l : Int) := ⟨xl.toNat, by omega⟩
  rw [Int.toNat_natCast]
  have K1 := Lib.hid k1
  have Hl := Lib.hid hl
  clear k1 hl hgx h
  obtain ⟨p, hp⟩ : ∃ p, pt l = p := ⟨_, rfl⟩
  have HP := Lib.hid hp
  rw [HP.out]
  clear hp
  go_enter Try.func68, Try.ntmps68
  go_wp2_with fail
  refine K1.out.mono ?_
  rintro en w1 ⟨rfl, hb1⟩
  have k2 := partner70 B sl sr A n cap zs A2 kn kc ks pt op mp 0 l w1 (H.out.below hb1 (Nat.le_refl _)) (by omega) (by have := Hl.out; omega)
  rw [Nat.zero_mul, Nat.zero_add, HP.out] at k2
  have K2 := Lib.hid k2
  have HB1 := Lib.hid hb1
  clear K1 k2 hb1
  go_wp2_with fail
  refine K2.out.mono ?_
  rintro en w2 ⟨rfl, hb2⟩
  have HB2 := Lib.hid (HB1.out.trans (hb2.mono HB1.out.size))
  clear K2 hb2
  go_wp2_with fail
  go_ret
  exact ⟨rfl, HB2.out⟩
end
end Go.Proofs.Ytnodkgejggnehaa

namespace Go.Proofs.Ytnodkgejggnehaa
set_option linter.unusedSimpArgs false
set_option linter.unusedVariables false
open Go.RowKit Go.Shelf
/-- An open link has an item in a cover. -/
def coB (zs : List Rg) (op : Nat → Bool) (cl cr : List Int) (k : Nat) : Bool := !op k || decide ((gAt zs k).lo ∈ cl) || decide ((gAt zs k).hi ∈ cr)
def coK (zs : List Rg) (op : Nat → Bool) (cl cr : List Int) (k : Nat) : Bool := (List.range k).all (coB zs op cl cr)
theorem coK_succ (zs : List Rg) (op : Nat → Bool) (cl cr : List Int) (k : Nat) : coK zs op cl cr (k + 1) = (coK zs op cl cr k && coB zs op cl cr k) := by simp [coK, List.range_succ]
theorem coK_stop {zs : List Rg} {op : Nat → Bool} {cl cr : List Int} {k n : Nat} (hk : k < n) (h : coB zs op cl cr k = false) : coK zs op cl cr n = false := by
  unfold coK
  rw [List.all_eq_false]
  exact ⟨k, List.mem_range.2 hk, by rw [h]; simp⟩
section
attribute [local go_sem ↓] exec_app at_app
attribute [local go_sem] Oper.semAt_some
set_option maxRecDepth 100000 in
set_option maxHeartbeats 4000000 in
theorem covered42 (B : Nat) (sl sr : Int) (A : Option Addr) (n cap : Nat) (zs : List Rg) (A2 : Option Addr) (kn kc : Nat) (ks : List Int) (pt : Nat → Int) (op : Nat → Bool) (mp : Value) (CL : Option Addr) (ln lc : Nat) (cl : List Int) (CR : Option Addr) (rn rc : Nat) (cr : List Int) (w : World) (h : Brd w B sl sr A n cap zs A2 kn kc ks pt op mp) (hL : Ints w CL ln cl) (hR9 : Ints w CR rn cr) (hn : n ≤ 40) (hl : ln ≤ 100000) (hr : rn ≤ 100000) :
    Calls Try.prog 42 #[.pointer (some ⟨B, 0, none⟩), .agg #[.slice CL ln lc, .slice CR rn rc]] w fun e w' => e = .returned (.bool (coK zs op cl cr n)) ∧ Below w.heap.size w w' := by
  have hb0 := below_alloc_ w (.cells #[.slice CL ln lc, .slice CR rn rc] 27)
  have hr0 := heap_alloc_new_ w (.cells #[.slice CL ln lc, .slice CR rn rc] 27)
  obtain ⟨w0, hW0⟩ : ∃ w0, w.alloc (.cells #[.slice CL ln lc, .slice CR rn rc] 27) = w0 := ⟨_, rfl⟩
  obtain ⟨R, hR⟩ : ∃ R, w.heap.size = R := ⟨_, rfl⟩
  rw [hW0] at hb0 hr0
  have H := Lib.hid (h.below hb0 (Nat.le_refl _))
  have XL := Lib.hid (hL.below hb0 (Nat.le_refl _))
  have XR := Lib.hid (hR9.below hb0 (Nat.le_refl _))
  rw [hR] at hr0
  have Bb := Lib.hid hb0
  have HW0 := Lib.hid hW0
  have HR := Lib.hid hR
  have crow := Lib.hid hr0
  have c2 := h.c2
  have l2 := lt_of_cell c2
  clear h hL hR9 hb0 hr0 hW0 hR
  go_enter Try.func42, Try.ntmps42
  go_wp2_with fail
  try rw [HW0.out]
  try rw [HR.out]
  clear c2 l2
  go_loopw [5, 6, 13] (fun y p i wr => ∃ k : Nat, k ≤ n ∧ i = .int .i64 (k : Int) ∧ Hid (coK zs op cl cr k = true ∧ Below w0.heap.size w0 wr)) (fun y p i _ => n - (intOf i).toNat)
  case atStart => exact ⟨0, Nat.zero_le _, rfl, Lib.hid ⟨rfl, Below.refl _ _⟩⟩
  case round =>
    obtain ⟨k, hk9, rfl, HV⟩ := hrel
    obtain ⟨wk, rfl⟩ : ∃ wk, wk = wr := ⟨_, rfl⟩
    have HB := Lib.hid HV.out.2
    by_cases hlt : k < n
    · have Hst := Lib.hid (fun hh => coK_stop (zs := zs) (op := op) (cl := cl) (cr := cr) (k := k) (n := n) hlt hh)
      have Hsu := Lib.hid (coK_succ zs op cl cr k)
      obtain ⟨bz, oz, rfl, hcz⟩ := (H.out.rs.below HB.out (Nat.le_refl _)).2 (by omega)
      obtain ⟨z0, z1⟩ := hcz k hlt
      obtain ⟨gx, hgx⟩ : ∃ g, gAt zs k = g := ⟨_, rfl⟩
      have Hcv := Lib.hid (show coB zs op cl cr k = (!op k || decide (gx.lo ∈ cl) || decide (gx.hi ∈ cr)) by unfold coB; rw [hgx])
      rw [hgx] at z0 z1
      obtain ⟨gl, gh⟩ := gx
      simp only at z0 z1 Hcv
      obtain ⟨ob, hob⟩ : ∃ ob, op k = ob := ⟨_, rfl⟩
      obtain ⟨lb, hlb⟩ : ∃ lb, decide (gl ∈ cl) = lb := ⟨_, rfl⟩
      obtain ⟨rb, hrb⟩ : ∃ rb, decide (gh ∈ cr) = rb := ⟨_, rfl⟩
      rw [hob, hlb, hrb] at Hcv
      have i0 : (0 : Int) ≤ (k : Int) := by omega
      have i1 : (k : Int) < (n : Int) := by omega
      have i2 : (k : Int) < 40 := by omega
      have hb1 := below_alloc_ wk (.cells #[.int .i64 gl, .int .i64 gh] 55)
      have hr1 := heap_alloc_new_ wk (.cells #[.int .i64 gl, .int .i64 gh] 55)
      have HOb := Lib.hid hob
      have HLb := Lib.hid hlb
      have HRb := Lib.hid hrb
      clear hcz hgx hob hlb hrb
      go_upto_region 4 with fail
      obtain ⟨V, hV⟩ : ∃ V, wk.alloc (.cells #[.int .i64 gl, .int .i64 gh] 55) = V := ⟨_, rfl⟩
      obtain ⟨P, hP⟩ : ∃ P, wk.heap.size = P := ⟨_, rfl⟩
      rw [hV] at hb1 hr1 ⊢
      have HBV := Lib.hid (HB.out.trans (hb1.mono HB.out.size))
      have HBE := Lib.hid (Bb.out.trans (HBV.out.mono Bb.out.size))
      rw [hP] at hr1 ⊢
      have p0 : V.cell? ⟨P, 0, none⟩ = some (.int .i64 gl) := by rw [cell_row hr1]; rfl
      have p1 : V.cell? ⟨P, 1, none⟩ = some (.int .i64 gh) := by rw [cell_row hr1]; rfl
      have hcr := (HBV.out.block R (lt_of_block crow.out)).trans crow.out
      have e0 : V.cell? ⟨R, 0, none⟩ = some (.slice CL ln lc) := by rw [cell_row hcr]; rfl
      have e1 : V.cell? ⟨R, 1, none⟩ = some (.slice CR rn rc) := by rw [cell_row hcr]; rfl
      have xo := (H.out.below HBV.out (Nat.le_refl _)).ho k (by omega)
      rw [HOb.out] at xo
      have k1 := contains62 CL ln lc cl gl V (XL.out.below HBV.out (Nat.le_refl _)) (by omega)
      have k2 := contains62 CR rn rc cr gh V (XR.out.below HBV.out (Nat.le_refl _)) (by omega)
      rw [HLb.out] at k1
      rw [HRb.out] at k2
      have K1 := Lib.hid k1
      have K2 := Lib.hid k2
      clear z0 z1 hV hP hr1 hb1 hcr k1 k2
      rcases ob with _ | _
      · clear K1 K2
        go_wp2_with fail
        go_roundw
        case rel => exact ⟨k + 1, by omega, by go_num, Lib.hid ⟨by rw [Hsu.out, HV.out.1, Hcv.out]; rfl, HBV.out⟩⟩
        case measure => simp [intOf]; omega
      go_wp2_with fail
      refine K1.out.mono ?_
      rintro en w4 ⟨rfl, rfl⟩
      clear K1
      rcases lb with _ | _
      rotate_left
      · clear K2
        go_wp2_with fail
        go_roundw
        case rel => exact ⟨k + 1, by omega, by go_num, Lib.hid ⟨by rw [Hsu.out, HV.out.1, Hcv.out]; rfl, HBV.out⟩⟩
        case measure => simp [intOf]; omega
      go_wp2_with fail
      refine K2.out.mono ?_
      rintro en w5 ⟨rfl, rfl⟩
      clear K2
      rcases rb with _ | _
      rotate_left
      · skip
        go_wp2_with fail
        go_roundw
        case rel => exact ⟨k + 1, by omega, by go_num, Lib.hid ⟨by rw [Hsu.out, HV.out.1, Hcv.out]; rfl, HBV.out⟩⟩
        case measure => simp [intOf]; omega
      go_wp2_with fail
      go_ret
      exact ⟨ret_bool (Hst.out (by rw [Hcv.out]; rfl)).symm, HBE.out⟩
    · obtain rfl : k = n := by omega
      go_wp2_with fail
      go_ret
      exact ⟨ret_bool HV.out.1.symm, Bb.out.trans (HB.out.mono Bb.out.size)⟩
end
end Go.Proofs.Ytnodkgejggnehaa

namespace Go.Proofs.Ytnodkgejggnehaa
set_option linter.unusedSimpArgs false
set_option linter.unusedVariables false
open Go.RowKit Go.Shelf
theorem info100_ : (Try.prog.info? 100).map (fun i => (i.zero, i.size, i.bytes)) = some (some (.agg #[.int .i64 0, .int .i64 0]), 2, 16) := by kernel_rfl
def cellR (r : Rg) : List Value := [.int .i64 r.lo, .int .i64 r.hi]
def flatR (l : List Rg) : List Value := l.flatMap cellR
theorem flatR_snoc (l : List Rg) (r : Rg) : flatR (l ++ [r]) = flatR l ++ [.int .i64 r.lo, .int .i64 r.hi] := by simp [flatR, cellR]
theorem flatR_at (l : List Rg) (j : Nat) (h : j < l.length) : (flatR l)[j * 2]? = some (.int .i64 (gAt l j).lo) ∧ (flatR l)[j * 2 + 1]? = some (.int .i64 (gAt l j).hi) := by
  induction l generalizing j with
  | nil => simp at h
  | cons x l ih =>
    cases j with
    | zero => simp [flatR, cellR, gAt]
    | succ j =>
      have := ih j (by simpa using h)
      rw [show (j + 1) * 2 = j * 2 + 1 + 1 by omega]
      simp only [flatR, cellR, List.flatMap_cons, List.cons_append, List.nil_append, List.getElem?_cons_succ] at this ⊢
      exact this
theorem rgs_own {W : World} {e : TypeId} {v : Value} {l : List Rg} {n : Nat} (hl : l.length = n) (h : W.ownsRow 0 e 2 v n (flatR l)) : ∃ C cap, v = .slice C n cap ∧ n ≤ cap ∧ Rgs W C n l ∧ (∀ b o, C = some ⟨b, o, none⟩ → v.ownBlock = some b ∧ o = 0) := by
  subst hl
  rcases h.2 with ⟨rfl, h0⟩ | ⟨g, cap, cur, rfl, hb, hg, hc, _, hsz, htake⟩
  · rw [h0]
    exact ⟨none, 0, rfl, Nat.le_refl _, ⟨h0, by omega⟩, by intro b o e; cases e⟩
  · refine ⟨_, cap, rfl, hc, ⟨rfl, fun _ => ⟨g, 0, rfl, fun j hj => ?_⟩⟩, by rintro b o e; cases e; exact ⟨rfl, rfl⟩⟩
    obtain ⟨h1, h2⟩ := flatR_at l j hj
    rw [← htake] at h1 h2
    rw [List.getElem?_take_of_lt (by omega)] at h1 h2
    rw [Nat.zero_add, cell_row hg, cell_row hg, ← Array.getElem?_toList, ← Array.getElem?_toList]
    exact ⟨h1, h2⟩
/-- One side more. -/
theorem app_sd {W : World} {v : Value} {n : Nat} {xs : List Rg} (h : W.ownsRow 0 100 2 v n (flatR xs)) (x y : Int) (hn : n ≤ 100000) :
    ∃ C c W', runA Try.prog 92 v (.slice (some ⟨W.heap.size, 0, none⟩) 1 1) (W.alloc (.cells #[.int .i64 x, .int .i64 y] 100)) = .ok (.value (.slice C (n + 1) c)) W' ∧ W'.ownsRow 0 100 2 (.slice C (n + 1) c) (n + 1) (flatR (xs ++ [⟨x, y⟩])) ∧ Keeps (fun k => v.ownBlock = some k) W W' ∧
      ∀ g, (Value.slice C (n + 1) c).ownBlock = some g → v.ownBlock = some g ∨ (W.heap.size ≤ g ∧ g < W'.heap.size) := by
  have hk := keep_alloc (fun _ => False) W (.cells #[.int .i64 x, .int .i64 y] 100)
  obtain ⟨v', W', a1, a2, a3, a4⟩ := app_one (n := n) Try.underlying92 info100_ rfl (by omega) (by omega) (own_keep h hk (fun _ _ e => e)) (vals := [.int .i64 x, .int .i64 y]) rfl (heap_alloc_new_ W (.cells #[.int .i64 x, .int .i64 y] 100)) (by simp [Value.oneCell']) (by omega)
  obtain ⟨C, c, rfl⟩ : ∃ C c, v' = .slice C (n + 1) c := by
    rcases a2.2 with ⟨e, e2⟩ | ⟨g, cp, cur, e, _⟩
    · omega
    · exact ⟨_, _, e⟩
  rw [← flatR_snoc xs ⟨x, y⟩] at a2
  refine ⟨C, c, W', run_app a1, a2, hk.none.trans a3, fun g e => ?_⟩
  have hs := hk.size
  have hlt := own_lt a2 g e
  rcases a4 with e' | ⟨e', _⟩
  · rw [e'] at e; exact .inl e
  · rw [e'] at e; have := Option.some.inj e; exact .inr ⟨by omega, hlt⟩
/-- The items of a list. -/
def itS (l : Nat) (c : Nat) : List Rg := (List.range c).map fun (i : Nat) => (⟨(l : Int), (i : Int)⟩ : Rg)
theorem itS_succ (l c : Nat) : itS l (c + 1) = itS l c ++ [⟨(l : Int), (c : Int)⟩] := by simp [itS, List.range_succ]
theorem itS_len (l c : Nat) : (itS l c).length = c := by simp [itS]
section
attribute [local go_sem ↓] exec_app at_app
attribute [local go_sem] Oper.semAt_some
set_option maxRecDepth 100000 in
set_option maxHeartbeats 4000000 in
theorem items67 (B : Nat) (sl sr : Int) (A : Option Addr) (n cap : Nat) (zs : List Rg) (A2 : Option Addr) (kn kc : Nat) (ks : List Int) (pt : Nat → Int) (op : Nat → Bool) (mp : Value) (l c : Nat) (w : World) (h : Brd w B sl sr A n cap zs A2 kn kc ks pt op mp) (hl : l < 2) (hc : (c : Int) = if l = 0 then sl else sr) (hc9 : c ≤ 1000) :
    Calls Try.prog 67 #[.pointer (some ⟨B, 0, none⟩), .int .i64 (l : Int)] w fun e w' => (∃ C cp, e = .returned (.slice C c cp) ∧ c ≤ cp ∧ Rgs w' C c (itS l c) ∧ ∀ a, C = some a → w.heap.size ≤ a.block) ∧ Below w.heap.size w w' := by
  have ix : ∀ W, (Instr.index 118 (.agg #[.int .i64 sl, .int .i64 sr]) (.int .i64 (l : Int))).run Try.prog W = .ok (.int .i64 (c : Int)) W := by
    intro W
    rcases (by omega : l = 0 ∨ l = 1) with rfl | rfl
    · rw [if_pos rfl] at hc
      rw [hc]; kernel_rfl
    · rw [if_neg (by omega)] at hc
      rw [hc]; kernel_rfl
  have x0 := h.c0
  have x1 := h.c1
  clear h hc
  go_enter Try.func67, Try.ntmps67
  go_wp2_with fail
  refine wp_region_held_drew (S := fun w2 => Below w.heap.size w w2) (by kernel_rfl) (drew_b _ _) (fun hS0 => ?_)
  refine wpAnyH_take (i := 0) (oi := { dst := some 8, op := Go.Op.move (Go.Operand.tmp 0), type := 61, pos := "board.go:67", after := #[], guard := none }) (v := .pointer (some ⟨B, 0, none⟩)) rfl (by kernel_rfl) (by kernel_rfl) (by kernel_rfl) (fun _ _ _ h => h) (Or.inl ⟨by rfl, by intro w2 hSw; (try dsimp only at hSw); go_simp⟩) hS0 ?_
  try simp only [Act.put, List.setIfInBounds_toArray, List.set_cons_zero, List.set_cons_succ]
  refine wpAnyH_take (i := 1) (oi := { dst := some 9, op := Go.Op.nilCheck (Go.Operand.tmp 8), type := 0, pos := "board.go:67", after := #[{ on := 0, ground := Go.Ground.data }], guard := none }) (v := .pointer (some ⟨B, 0, none⟩)) rfl (by kernel_rfl) (by kernel_rfl) (by kernel_rfl) (fun _ _ _ h => h) (Or.inl ⟨by rfl, by intro w2 hSw; (try dsimp only at hSw); go_simp⟩) hS0 ?_
  try simp only [Act.put, List.setIfInBounds_toArray, List.set_cons_zero, List.set_cons_succ]
  refine wpAnyH_take (i := 2) (oi := { dst := some 10, op := Go.Op.fieldAddr 91 (Go.Operand.tmp 9) 0, type := 0, pos := "board.go:67", after := #[{ on := 1, ground := Go.Ground.data }], guard := none }) (v := .pointer (some ⟨B, 0, none⟩)) rfl (by kernel_rfl) (by kernel_rfl) (by kernel_rfl) (fun _ _ _ h => h) (Or.inl ⟨by rfl, by intro w2 hSw; (try dsimp only at hSw); go_simp⟩) hS0 ?_
  try simp only [Act.put, List.setIfInBounds_toArray, List.set_cons_zero, List.set_cons_succ]
  refine wpAnyH_take (i := 3) (oi := { dst := some 11, op := Go.Op.fieldAddr 25 (Go.Operand.tmp 10) 0, type := 0, pos := "board.go:67", after := #[{ on := 2, ground := Go.Ground.data }], guard := none }) (v := .pointer (some ⟨B, 0, none⟩)) rfl (by kernel_rfl) (by kernel_rfl) (by kernel_rfl) (fun _ _ _ h => h) (Or.inl ⟨by rfl, by intro w2 hSw; (try dsimp only at hSw); go_simp⟩) hS0 ?_
  try simp only [Act.put, List.setIfInBounds_toArray, List.set_cons_zero, List.set_cons_succ]
  refine wpAnyH_take (i := 4) (oi := { dst := some 12, op := Go.Op.load 3 (Go.Operand.tmp 11), type := 3, pos := "board.go:67", after := #[{ on := 3, ground := Go.Ground.data }], guard := none }) (v := .int .i64 sl) rfl (by kernel_rfl) (by kernel_rfl) (by kernel_rfl) (fun _ _ _ h => h) (Or.inl ⟨by rfl, by intro w2 hSw; (try dsimp only at hSw); have z0 := (hSw.cell (lt_of_cell x0)).trans x0; go_simp⟩) hS0 ?_
  try simp only [Act.put, List.setIfInBounds_toArray, List.set_cons_zero, List.set_cons_succ]
  refine wpAnyH_take (i := 5) (oi := { dst := some 13, op := Go.Op.move (Go.Operand.tmp 0), type := 61, pos := "board.go:67", after := #[], guard := none }) (v := .pointer (some ⟨B, 0, none⟩)) rfl (by kernel_rfl) (by kernel_rfl) (by kernel_rfl) (fun _ _ _ h => h) (Or.inl ⟨by rfl, by intro w2 hSw; (try dsimp only at hSw); go_simp⟩) hS0 ?_
  try simp only [Act.put, List.setIfInBounds_toArray, List.set_cons_zero, List.set_cons_succ]
  refine wpAnyH_take (i := 6) (oi := { dst := some 14, op := Go.Op.nilCheck (Go.Operand.tmp 13), type := 0, pos := "board.go:67", after := #[{ on := 5, ground := Go.Ground.data }], guard := none }) (v := .pointer (some ⟨B, 0, none⟩)) rfl (by kernel_rfl) (by kernel_rfl) (by kernel_rfl) (fun _ _ _ h => h) (Or.inl ⟨by rfl, by intro w2 hSw; (try dsimp only at hSw); go_simp⟩) hS0 ?_
  try simp only [Act.put, List.setIfInBounds_toArray, List.set_cons_zero, List.set_cons_succ]
  refine wpAnyH_take (i := 7) (oi := { dst := some 15, op := Go.Op.fieldAddr 91 (Go.Operand.tmp 14) 0, type := 0, pos := "board.go:67", after := #[{ on := 6, ground := Go.Ground.data }], guard := none }) (v := .pointer (some ⟨B, 0, none⟩)) rfl (by kernel_rfl) (by kernel_rfl) (by kernel_rfl) (fun _ _ _ h => h) (Or.inl ⟨by rfl, by intro w2 hSw; (try dsimp only at hSw); go_simp⟩) hS0 ?_
  try simp only [Act.put, List.setIfInBounds_toArray, List.set_cons_zero, List.set_cons_succ]
  refine wpAnyH_take (i := 8) (oi := { dst := some 16, op := Go.Op.fieldAddr 25 (Go.Operand.tmp 15) 1, type := 0, pos := "board.go:67", after := #[{ on := 7, ground := Go.Ground.data }], guard := none }) (v := .pointer (some ⟨B, 1, none⟩)) rfl (by kernel_rfl) (by kernel_rfl) (by kernel_rfl) (fun _ _ _ h => h) (Or.inl ⟨by rfl, by intro w2 hSw; (try dsimp only at hSw); go_simp⟩) hS0 ?_
  try simp only [Act.put, List.setIfInBounds_toArray, List.set_cons_zero, List.set_cons_succ]
  refine wpAnyH_take (i := 9) (oi := { dst := some 17, op := Go.Op.load 3 (Go.Operand.tmp 16), type := 3, pos := "board.go:67", after := #[{ on := 8, ground := Go.Ground.data }], guard := none }) (v := .int .i64 sr) rfl (by kernel_rfl) (by kernel_rfl) (by kernel_rfl) (fun _ _ _ h => h) (Or.inl ⟨by rfl, by intro w2 hSw; (try dsimp only at hSw); have z0 := (hSw.cell (lt_of_cell x1)).trans x1; go_simp⟩) hS0 ?_
  try simp only [Act.put, List.setIfInBounds_toArray, List.set_cons_zero, List.set_cons_succ]
  refine wpAnyH_take (i := 10) (oi := { dst := some 18, op := Go.Op.build 118 #[(0, Go.Operand.tmp 12), (1, Go.Operand.tmp 17)], type := 118, pos := "board.go:67", after := #[{ on := 4, ground := Go.Ground.data }, { on := 9, ground := Go.Ground.data }], guard := none }) (v := .agg #[.int .i64 sl, .int .i64 sr]) rfl (by kernel_rfl) (by kernel_rfl) (by kernel_rfl) (fun _ _ _ h => h) (Or.inl ⟨by rfl, by intro w2 hSw; (try dsimp only at hSw); go_simp⟩) hS0 ?_
  try simp only [Act.put, List.setIfInBounds_toArray, List.set_cons_zero, List.set_cons_succ]
  refine wpAnyH_take (i := 11) (oi := { dst := some 19, op := Go.Op.move (Go.Operand.tmp 1), type := 3, pos := "board.go:67", after := #[], guard := none }) (v := .int .i64 (l : Int)) rfl (by kernel_rfl) (by kernel_rfl) (by kernel_rfl) (fun _ _ _ h => h) (Or.inl ⟨by rfl, by intro w2 hSw; (try dsimp only at hSw); go_simp⟩) hS0 ?_
  try simp only [Act.put, List.setIfInBounds_toArray, List.set_cons_zero, List.set_cons_succ]
  refine wpAnyH_take (i := 12) (oi := { dst := some 20, op := Go.Op.index 118 (Go.Operand.tmp 18) (Go.Operand.tmp 19), type := 3, pos := "board.go:67", after := #[{ on := 10, ground := Go.Ground.data }, { on := 11, ground := Go.Ground.data }], guard := none }) (v := .int .i64 (c : Int)) rfl (by kernel_rfl) (by kernel_rfl) (by kernel_rfl) (fun _ _ _ h => h) (Or.inl ⟨by rfl, by intro w2 hSw; (try dsimp only at hSw); go_simp⟩) hS0 ?_
  try simp only [Act.put, List.setIfInBounds_toArray, List.set_cons_zero, List.set_cons_succ]
  refine wpAnyH_take (i := 13) (oi := { dst := some 5, op := Go.Op.assign (Go.Operand.tmp 20), type := 3, pos := "board.go:67", after := #[{ on := 12, ground := Go.Ground.data }, { on := 0, ground := Go.Ground.phase }, { on := 1, ground := Go.Ground.phase }, { on := 2, ground := Go.Ground.phase }, { on := 3, ground := Go.Ground.phase }, { on := 4, ground := Go.Ground.phase }, { on := 5, ground := Go.Ground.phase }, { on := 6, ground := Go.Ground.phase }, { on := 7, ground := Go.Ground.phase }, { on := 8, ground := Go.Ground.phase }, { on := 9, ground := Go.Ground.phase }, { on := 10, ground := Go.Ground.phase }, { on := 11, ground := Go.Ground.phase }, { on := 12, ground := Go.Ground.phase }], guard := none }) (v := .int .i64 (c : Int)) rfl (by kernel_rfl) (by kernel_rfl) (by kernel_rfl) (fun _ _ _ h => h) (Or.inl ⟨by rfl, by intro w2 hSw; (try dsimp only at hSw); go_simp⟩) hS0 ?_
  try simp only [Act.put, List.setIfInBounds_toArray, List.set_cons_zero, List.set_cons_succ]
  refine wpAnyH_done (by kernel_rfl) ?_ _
  have HB0 := Lib.hid hS0
  clear hS0 x0 x1 ix
  go_wp2_with fail
  obtain ⟨w0, hw0⟩ : ∃ w0, w.drew = w0 := ⟨_, rfl⟩
  try rw [hw0] at HB0 ⊢
  go_loopw [6, 7, 22] (fun v y i wr => ∃ k : Nat, k ≤ c ∧ i = .int .i64 (k : Int) ∧ Hid (wr.ownsRow 0 100 2 v k (flatR (itS l k)) ∧ (∀ j, v.ownBlock = some j → w.heap.size ≤ j) ∧ Below w.heap.size w wr)) (fun v y i _ => c - (intOf i).toNat)
  case atStart => exact ⟨0, Nat.zero_le _, rfl, Lib.hid ⟨⟨rfl, .inl ⟨rfl, rfl⟩⟩, fun j e => (by cases e), HB0.out⟩⟩
  case round =>
    obtain ⟨k, hk9, rfl, HV⟩ := hrel
    obtain ⟨wk, rfl⟩ : ∃ wk, wk = wr := ⟨_, rfl⟩
    by_cases hlt : k < c
    · have i1 : (k : Int) < (c : Int) := by omega
      obtain ⟨C, cp, W1, r1, o1, k1, d1⟩ := app_sd HV.out.1 (l : Int) (k : Int) (by omega)
      rw [← itS_succ] at o1
      have HN := Lib.hid (show W1.ownsRow 0 100 2 (.slice C (k + 1) cp) (k + 1) (flatR (itS l (k + 1))) ∧ (∀ j, (Value.slice C (k + 1) cp).ownBlock = some j → w.heap.size ≤ j) ∧ Below w.heap.size w W1 from
        ⟨o1, fun g e => by
          rcases d1 g e with e2 | e2
          · exact HV.out.2.1 g e2
          · have := HV.out.2.2.size; omega, HV.out.2.2.trans (k1.below HV.out.2.2.size (fun i hi e => by have := HV.out.2.1 i e; omega))⟩)
      clear o1 k1 d1
      go_wp2_with fail
      go_roundw
      case rel => exact ⟨k + 1, by omega, by go_num, HN⟩
      case measure => simp [intOf]; omega
    · obtain rfl : k = c := by omega
      obtain ⟨C, cp, rfl, hcp, hR9, -⟩ := rgs_own (itS_len l k) HV.out.1
      have HR9 := Lib.hid hR9
      have HC9 := Lib.hid (show ∀ a, C = some a → w.heap.size ≤ a.block from fun a ha => by
        rcases HV.out.1.2 with ⟨e3, _⟩ | ⟨g, cpx, cur, e3, _, hg, _⟩
        · simp only [Value.slice.injEq] at e3; rw [e3.1] at ha; cases ha
        · simp only [Value.slice.injEq] at e3
          obtain ⟨rfl, -, -⟩ := e3
          cases ha
          exact HV.out.2.1 g rfl)
      clear hR9
      go_wp2_with fail
      go_ret
      exact ⟨⟨C, cp, rfl, hcp, HR9.out, HC9.out⟩, HV.out.2.2⟩
end
end Go.Proofs.Ytnodkgejggnehaa
