/- Stage 2: the document's Count, Nth, Rank, Only. -/
import Derived.Test.YtfmcfalghbaanaaOwl
import Derived.Shelf.RegionOpen
import Derived.Deep.RegionHeld3
import Derived.IntWalk
namespace Go.Proofs.Ytfmcfalghbaanaa
set_option linter.unusedSimpArgs false
set_option linter.unusedVariables false
open Go.RowKit Go.Shelf
attribute [local go_sem] Oper.semAt_some
attribute [local go_sem ↓] exec_app
attribute [local go_sem ↓] at_app

/-- The lists one step longer. -/
def longer (c : Cy) (l : List Nat) : List (List Nat) := ((codesL c.ps).filter (goodL (tabOf c) l)).map fun s => l ++ [s]
def pre (c : Cy) (d : Nat) : List (List Nat) := prefs (tabOf c) (codesL c.ps) d
theorem pre_succ (c : Cy) (d : Nat) : pre c (d + 1) = (pre c d).flatMap (longer c) := rfl
theorem pre_joins (c : Cy) : pre c c.ps.length = joinsC c := prefs_joins _ _ _
theorem longer_le (c : Cy) (l : List Nat) : (longer c l).length ≤ (codesL c.ps).length := by
  unfold longer
  rw [List.length_map]
  exact List.length_filter_le _ _
/-- What the first steps make of a list. -/
def partL (c : Cy) (l : List Nat) (j : Nat) : List (List Nat) := (((codesL c.ps).take j).filter (goodL (tabOf c) l)).map fun s => l ++ [s]
theorem part_succ {c : Cy} {l : List Nat} {j : Nat} (h : j < (codesL c.ps).length) : partL c l (j + 1) = partL c l j ++ if goodL (tabOf c) l (codesL c.ps)[j] = true then [l ++ [(codesL c.ps)[j]]] else [] := by
  unfold partL
  rw [List.take_succ_eq_append_getElem h, List.filter_append, List.map_append]
  congr 1
  rw [List.filter_cons]
  split <;> simp
theorem part_le (c : Cy) (l : List Nat) (j : Nat) : (partL c l j).length ≤ (codesL c.ps).length := by
  unfold partL
  rw [List.length_map]
  refine Nat.le_trans (List.length_filter_le _ _) ?_
  rw [List.length_take]
  exact Nat.min_le_right _ _
theorem part_end (c : Cy) (l : List Nat) : partL c l (codesL c.ps).length = longer c l := by
  unfold partL longer
  rw [List.take_length]
theorem take_flat {α β : Type} (f : α → List β) (l : List α) {k : Nat} (h : k < l.length) : (l.take (k + 1)).flatMap f = (l.take k).flatMap f ++ f l[k] := by
  rw [List.take_succ_eq_append_getElem h, List.flatMap_append]
  simp

/-- Two steps, and the cylinder, that a round reads. -/
structure Kf (w : World) (B : Nat) (A : Option Addr) (n cap : Nat) (off lo hi : Int) (ps : List Pc) (b q b2 q2 : Nat) (v0 v1 u0 u1 : Value) (W0 W : World) : Prop where
  k : Kz w B A n cap off lo hi ps none 0 [] W
  h : Below W0.heap.size W0 W
  e0 : W.cell? ⟨b, q, none⟩ = some v0
  e1 : W.cell? ⟨b, q + 1, none⟩ = some v1
  d0 : W.cell? ⟨b2, q2, none⟩ = some u0
  d1 : W.cell? ⟨b2, q2 + 1, none⟩ = some u1
section
variable {w : World} {B : Nat} {A : Option Addr} {n cap : Nat} {off lo hi : Int} {ps : List Pc} {b q b2 q2 : Nat} {v0 v1 u0 u1 : Value} {W0 W W' : World}
theorem Kf.next (hb : Below W.heap.size W W') (h : Kf w B A n cap off lo hi ps b q b2 q2 v0 v1 u0 u1 W0 W) : Kf w B A n cap off lo hi ps b q b2 q2 v0 v1 u0 u1 W0 W' :=
  ⟨h.k.next hb, h.h.trans (hb.mono h.h.size), (hb.cell (p := ⟨b, q, none⟩) (lt_of_cell h.e0)).trans h.e0, (hb.cell (p := ⟨b, q + 1, none⟩) (lt_of_cell h.e1)).trans h.e1, (hb.cell (p := ⟨b2, q2, none⟩) (lt_of_cell h.d0)).trans h.d0, (hb.cell (p := ⟨b2, q2 + 1, none⟩) (lt_of_cell h.d1)).trans h.d1⟩
theorem Kf.all (h : Kf w B A n cap off lo hi ps b q b2 q2 v0 v1 u0 u1 W0 W) : Kf w B A n cap off lo hi ps b q b2 q2 v0 v1 u0 u1 W0 W ∧
    W.cell? ⟨B, 0, none⟩ = some (.slice A n cap) ∧ W.cell? ⟨B, 1, none⟩ = some (.int .i64 off) ∧ W.cell? ⟨B, 2, none⟩ = some (.int .i64 lo) ∧ W.cell? ⟨B, 3, none⟩ = some (.int .i64 hi) ∧
    W.cell? ⟨b, q, none⟩ = some v0 ∧ W.cell? ⟨b, q + 1, none⟩ = some v1 ∧ W.cell? ⟨b2, q2, none⟩ = some u0 ∧ W.cell? ⟨b2, q2 + 1, none⟩ = some u1 :=
  ⟨h, h.k.c.1, h.k.c.2.1, h.k.c.2.2.1, h.k.c.2.2.2, h.e0, h.e1, h.d0, h.d1⟩
end
/-- Is nothing there, or does the step fit? -/
def fit0 (c : Cy) (l : List Nat) (s : Nat) : Bool := decide (l = []) || tabOf c (l.getLastD 0) s
def allN (l : List Nat) (s r : Nat) : Bool := (l.take r).all fun m => decide (m / 2 ≠ s / 2)
theorem allN_succ {l : List Nat} {s r : Nat} (h : r < l.length) : allN l s (r + 1) = (allN l s r && decide (l[r] / 2 ≠ s / 2)) := by
  unfold allN
  rw [List.take_succ_eq_append_getElem h, List.all_append]
  simp
theorem allN_end (c : Cy) (l : List Nat) (s : Nat) : (fit0 c l s && allN l s l.length) = goodL (tabOf c) l s := by
  unfold fit0 allN goodL
  rw [List.take_length]

/-- How many steps may still come, read off the first list. -/
def lenMu (n : Nat) (v : Value) (W : World) : Nat := match v with
  | .slice (some a) (_ + 1) _ => match W.cell? a with
    | some (.slice _ d _) => n + 1 - d
    | _ => 0
  | _ => 0
theorem lenMu_le (n : Nat) {W : World} {v : Value} {c : Cy} {d : Nat} (h : OwnL W v (pre c d)) : lenMu n v W ≤ n + 1 - d := by
  obtain ⟨C, cap, rfl, hc, hpos, hcell⟩ := h.read
  cases hq : (pre c d).length with
  | zero => cases C <;> exact Nat.zero_le _
  | succ q =>
    obtain ⟨g, x, rfl, hx, ho⟩ := hcell 0 (by omega)
    obtain ⟨g0, cap0, rfl, -, -⟩ := ho
    have hl : (pre c d)[0].length = d := (prefs_len (List.getElem_mem _)).1
    rw [hl] at hx
    unfold lenMu
    simp only [hx]
    exact Nat.le_refl _
set_option maxRecDepth 100000 in
set_option maxHeartbeats 20000000 in
theorem all52 (A : Option Addr) (n cap : Nat) (off lo hi : Int) (ps : List Pc) (w : World) (h : Pcs w A n ps) (hn : n ≤ 5) (he : chkC ⟨ps, off, ⟨lo, hi⟩⟩ = 0) :
    Calls Try.prog 52 #[cyl A n cap off lo hi] w fun e w' => ∃ v, e = .returned v ∧ OwnL w' v (joinsC ⟨ps, off, ⟨lo, hi⟩⟩) ∧ Below w.heap.size w w' := by
  have hk : Kz w w.heap.size A n cap off lo hi ps none 0 [] _ := Kz.new (cap := cap) (off := off) (lo := lo) (hi := hi) h ⟨rfl, by omega⟩
  have K := Lib.hid hk
  have Hpl := Lib.hid h.1
  have Hp := Lib.hid h
  have He := Lib.hid he
  have hn1 : 1 ≤ n := by have := (chkC_facts he).1; rw [← h.1]; exact this
  clear hk h he
  unfold cyl
  go_enter Try.func52, Try.ntmps52
  go_wp2_with fail
  have hs0 : (w.alloc (.cells #[.slice A n cap, .int .i64 off, .int .i64 lo, .int .i64 hi] 26)).heap.size = w.heap.size + 1 := by simp
  generalize (w.alloc (.cells #[.slice A n cap, .int .i64 off, .int .i64 lo, .int .i64 hi] 26)) = W0 at K hs0 ⊢
  obtain ⟨B, hB⟩ : ∃ B, w.heap.size = B := ⟨_, rfl⟩
  replace K := Lib.hid (show Kz w B A n cap off lo hi ps none 0 [] W0 from by rw [← hB]; exact K.out)
  rw [hB] at hs0 ⊢
  have hb1 := below_alloc_ W0 (.cells #[] 28)
  have hb2 := below_alloc_ (W0.alloc (.cells #[] 28)) (.cells #[.slice (some ⟨B + 1, 0, none⟩) 0 0] 29)
  have r1 := (hb2.block _ (lt_of_block (heap_alloc_new_ W0 (.cells #[] 28)))).trans (heap_alloc_new_ W0 (.cells #[] 28))
  have r2 := heap_alloc_new_ (W0.alloc (.cells #[] 28)) (.cells #[.slice (some ⟨B + 1, 0, none⟩) 0 0] 29)
  rw [show (W0.alloc (.cells #[] 28)).heap.size = B + 1 + 1 from by simp [hs0]] at r2
  rw [hs0] at r1
  have hL0 : OwnL ((W0.alloc (.cells #[] 28)).alloc (.cells #[.slice (some ⟨B + 1, 0, none⟩) 0 0] 29)) (.slice (some ⟨B + 1 + 1, 0, none⟩) 1 1) (pre ⟨ps, off, ⟨lo, hi⟩⟩ 0) :=
    ⟨[.slice (some ⟨B + 1, 0, none⟩) 0 0], ⟨rfl, .inr ⟨B + 1 + 1, 1, _, rfl, Nat.zero_le _, r2, Nat.le_refl _, by unfold maxLen; omega, rfl, rfl⟩⟩, fun j hj => by
      have : j = 0 := by simp [pre, prefs] at hj; exact hj
      subst this
      exact ⟨_, rfl, B + 1, 0, rfl, Nat.le_refl _, rfl, .inr ⟨B + 1, 0, _, rfl, Nat.zero_le _, r1, Nat.le_refl _, Nat.zero_le _, rfl, rfl⟩⟩⟩
  replace K := Lib.hid ((K.out.next hb1).next hb2)
  generalize (W0.alloc (.cells #[] 28)).alloc (.cells #[.slice (some ⟨B + 1, 0, none⟩) 0 0] 29) = X2 at K hL0 ⊢
  have L0 := Lib.hid hL0
  generalize B + 1 + 1 = B2 at L0 ⊢
  generalize B + 1 = B1 at L0 ⊢
  clear hb1 hb2 r1 r2 hs0 hL0 hB
  refine (steps58 A n cap off lo hi ps _ K.out.pcs (by omega)).mono ?_
  rintro e W2 ⟨C4, cp4, rfl, hcp4, hs4, hb⟩
  have hm10 : (codesL ps).length ≤ 10 := Nat.le_trans (codes_len_ ps ps.length) (by rw [Hpl.out]; omega)
  obtain ⟨m4, hm4⟩ : ∃ m4, (codesL ps).length = m4 := ⟨_, rfl⟩
  rw [hm4] at hs4 hm10 hcp4 ⊢
  have Hm4 := Lib.hid hm4
  have S4 := Lib.hid hs4
  have Hcp4 := Lib.hid hcp4
  replace K := Lib.hid (K.out.next hb)
  replace L0 := Lib.hid (L0.out.below hb)
  clear hs4 hb hm4 hcp4
  go_wp2_with fail
  go_loopw [3] (fun v wr => ∃ d : Nat, d ≤ n ∧ OwnL wr v (pre ⟨ps, off, ⟨lo, hi⟩⟩ d) ∧ Below W2.heap.size W2 wr) (fun v wr => lenMu n v wr)
  case atStart => exact ⟨0, Nat.zero_le _, L0.out, Below.refl _ _⟩
  case round =>
    clear L0
    obtain ⟨d, hd, hL, hB⟩ := hrel
    have Kr := K.out.next hB
    obtain ⟨c0, c1, c2, c3⟩ := Kr.c
    have HB := Lib.hid hB
    have HL := Lib.hid hL
    obtain ⟨C, cp, rfl, hcp, hpos, hcell⟩ := hL.read
    have hq5 : (pre ⟨ps, off, ⟨lo, hi⟩⟩ d).length ≤ 10 ^ d := prefs_le (by show (codesL ps).length ≤ 10; rw [Hm4.out]; exact hm10) d
    obtain ⟨q, hq⟩ : ∃ q, (pre ⟨ps, off, ⟨lo, hi⟩⟩ d).length = q := ⟨_, rfl⟩
    have Hq := Lib.hid hq
    rw [hq] at HL hcp hpos hq5 ⊢
    rcases Nat.eq_zero_or_pos q with hq0 | hq0
    · subst hq0
      have Hend := Lib.hid (show pre ⟨ps, off, ⟨lo, hi⟩⟩ d = joinsC ⟨ps, off, ⟨lo, hi⟩⟩ from by
        have h0 : pre ⟨ps, off, ⟨lo, hi⟩⟩ d = [] := List.eq_nil_of_length_eq_zero hq
        rw [h0, ← pre_joins]
        have h1 := prefs_nil h0 (n - d)
        rw [show d + (n - d) = n by omega, ← Hpl.out] at h1
        exact h1.symm)
      clear hcell hpos hq hcp
      go_wp2_with fail
      refine wp_region_held_drew (S := fun w2 => Below W2.heap.size W2 w2) (by kernel_rfl) (HB.out.trans ((drew_b _ _).mono HB.out.size)) (fun hS0 => ?_)
      refine wpAnyH_take (i := 0) (oi := { dst := some 15, op := Go.Op.move (Go.Operand.tmp 3), type := 92, pos := "ref.go:110", after := #[], guard := none }) (v := .slice C 0 cp) rfl (by kernel_rfl) (by kernel_rfl) (by kernel_rfl) (fun _ _ _ h => h) (Or.inl ⟨by rfl, by intro w2 hSw; (try dsimp only at hSw); go_simp⟩) hS0 ?_
      try simp only [Act.put, List.setIfInBounds_toArray, List.set_cons_zero, List.set_cons_succ]
      refine wpAnyH_take (i := 1) (oi := { dst := some 16, op := Go.Op.call { callee := Go.Callee.builtin Go.Builtin.len, args := #[Go.Operand.tmp 15], argTypes := #[92] }, type := 3, pos := "ref.go:110", after := #[{ on := 0, ground := Go.Ground.data }], guard := none }) (v := .int .i64 0) rfl (by kernel_rfl) (by kernel_rfl) (by kernel_rfl) (fun _ _ _ h => h) (Or.inl ⟨by rfl, by intro w2 hSw; (try dsimp only at hSw); go_simp⟩) hS0 ?_
      try simp only [Act.put, List.setIfInBounds_toArray, List.set_cons_zero, List.set_cons_succ]
      refine wpAnyH_take (i := 2) (oi := { dst := some 17, op := Go.Op.binOp Go.BinOp.gtr 3 (Go.Operand.tmp 16) (Go.Operand.const (Go.Value.int Go.IntKind.i64 0)) 3, type := 4, pos := "ref.go:110", after := #[{ on := 1, ground := Go.Ground.data }], guard := none }) (v := .bool false) rfl (by kernel_rfl) (by kernel_rfl) (by kernel_rfl) (fun _ _ _ h => h) (Or.inl ⟨by rfl, by intro w2 hSw; (try dsimp only at hSw); go_simp⟩) hS0 ?_
      try simp only [Act.put, List.setIfInBounds_toArray, List.set_cons_zero, List.set_cons_succ]
      refine wpAnyH_take (i := 3) (oi := { dst := some 18, op := Go.Op.move (Go.Operand.tmp 17), type := 4, pos := "ref.go:110", after := #[{ on := 2, ground := Go.Ground.data }], guard := none }) (v := .bool false) rfl (by kernel_rfl) (by kernel_rfl) (by kernel_rfl) (fun _ _ _ h => h) (Or.inl ⟨by rfl, by intro w2 hSw; (try dsimp only at hSw); go_simp⟩) hS0 ?_
      try simp only [Act.put, List.setIfInBounds_toArray, List.set_cons_zero, List.set_cons_succ]
      refine wpAnyH_take (i := 4) (oi := { dst := some 19, op := Go.Op.move (Go.Operand.tmp 3), type := 92, pos := "ref.go:110", after := #[{ on := 3, ground := Go.Ground.guard }], guard := some (3, true) }) (v := undef) rfl (by kernel_rfl) (by kernel_rfl) (by kernel_rfl) (fun _ _ _ h => h) (Or.inr ⟨by rfl, rfl⟩) hS0 ?_
      try simp only [Act.put, List.setIfInBounds_toArray, List.set_cons_zero, List.set_cons_succ]
      refine wpAnyH_take (i := 5) (oi := { dst := some 20, op := Go.Op.indexAddr 92 (Go.Operand.tmp 19) (Go.Operand.const (Go.Value.int Go.IntKind.i64 0)), type := 0, pos := "ref.go:110", after := #[{ on := 4, ground := Go.Ground.data }, { on := 3, ground := Go.Ground.guard }], guard := some (3, true) }) (v := undef) rfl (by kernel_rfl) (by kernel_rfl) (by kernel_rfl) (fun _ _ _ h => h) (Or.inr ⟨by rfl, rfl⟩) hS0 ?_
      try simp only [Act.put, List.setIfInBounds_toArray, List.set_cons_zero, List.set_cons_succ]
      refine wpAnyH_take (i := 6) (oi := { dst := some 21, op := Go.Op.load 29 (Go.Operand.tmp 20), type := 29, pos := "ref.go:110", after := #[{ on := 5, ground := Go.Ground.data }, { on := 3, ground := Go.Ground.guard }], guard := some (3, true) }) (v := undef) rfl (by kernel_rfl) (by kernel_rfl) (by kernel_rfl) (fun _ _ _ h => h) (Or.inr ⟨by rfl, rfl⟩) hS0 ?_
      try simp only [Act.put, List.setIfInBounds_toArray, List.set_cons_zero, List.set_cons_succ]
      refine wpAnyH_take (i := 7) (oi := { dst := some 22, op := Go.Op.call { callee := Go.Callee.builtin Go.Builtin.len, args := #[Go.Operand.tmp 21], argTypes := #[29] }, type := 3, pos := "ref.go:110", after := #[{ on := 6, ground := Go.Ground.data }, { on := 3, ground := Go.Ground.guard }], guard := some (3, true) }) (v := undef) rfl (by kernel_rfl) (by kernel_rfl) (by kernel_rfl) (fun _ _ _ h => h) (Or.inr ⟨by rfl, rfl⟩) hS0 ?_
      try simp only [Act.put, List.setIfInBounds_toArray, List.set_cons_zero, List.set_cons_succ]
      refine wpAnyH_take (i := 8) (oi := { dst := some 23, op := Go.Op.fieldAddr 26 (Go.Operand.tmp 1) 0, type := 0, pos := "ref.go:110", after := #[{ on := 3, ground := Go.Ground.guard }], guard := some (3, true) }) (v := undef) rfl (by kernel_rfl) (by kernel_rfl) (by kernel_rfl) (fun _ _ _ h => h) (Or.inr ⟨by rfl, rfl⟩) hS0 ?_
      try simp only [Act.put, List.setIfInBounds_toArray, List.set_cons_zero, List.set_cons_succ]
      refine wpAnyH_take (i := 9) (oi := { dst := some 24, op := Go.Op.load 22 (Go.Operand.tmp 23), type := 22, pos := "ref.go:110", after := #[{ on := 8, ground := Go.Ground.data }, { on := 3, ground := Go.Ground.guard }], guard := some (3, true) }) (v := undef) rfl (by kernel_rfl) (by kernel_rfl) (by kernel_rfl) (fun _ _ _ h => h) (Or.inr ⟨by rfl, rfl⟩) hS0 ?_
      try simp only [Act.put, List.setIfInBounds_toArray, List.set_cons_zero, List.set_cons_succ]
      refine wpAnyH_take (i := 10) (oi := { dst := some 25, op := Go.Op.call { callee := Go.Callee.builtin Go.Builtin.len, args := #[Go.Operand.tmp 24], argTypes := #[22] }, type := 3, pos := "ref.go:110", after := #[{ on := 9, ground := Go.Ground.data }, { on := 3, ground := Go.Ground.guard }], guard := some (3, true) }) (v := undef) rfl (by kernel_rfl) (by kernel_rfl) (by kernel_rfl) (fun _ _ _ h => h) (Or.inr ⟨by rfl, rfl⟩) hS0 ?_
      try simp only [Act.put, List.setIfInBounds_toArray, List.set_cons_zero, List.set_cons_succ]
      refine wpAnyH_take (i := 11) (oi := { dst := some 26, op := Go.Op.binOp Go.BinOp.lss 3 (Go.Operand.tmp 22) (Go.Operand.tmp 25) 3, type := 4, pos := "ref.go:110", after := #[{ on := 7, ground := Go.Ground.data }, { on := 10, ground := Go.Ground.data }, { on := 3, ground := Go.Ground.guard }], guard := some (3, true) }) (v := undef) rfl (by kernel_rfl) (by kernel_rfl) (by kernel_rfl) (fun _ _ _ h => h) (Or.inr ⟨by rfl, rfl⟩) hS0 ?_
      try simp only [Act.put, List.setIfInBounds_toArray, List.set_cons_zero, List.set_cons_succ]
      refine wpAnyH_take (i := 12) (oi := { dst := some 27, op := Go.Op.pick (Go.Operand.tmp 18) (Go.Operand.tmp 26) (Go.Operand.const (Go.Value.bool false)), type := 4, pos := "ref.go:110", after := #[{ on := 3, ground := Go.Ground.data }, { on := 11, ground := Go.Ground.data }], guard := none }) (v := .bool false) rfl (by kernel_rfl) (by kernel_rfl) (by kernel_rfl) (fun _ _ _ h => h) (Or.inl ⟨by rfl, by intro w2 hSw; (try dsimp only at hSw); go_simp⟩) hS0 ?_
      try simp only [Act.put, List.setIfInBounds_toArray, List.set_cons_zero, List.set_cons_succ]
      refine wpAnyH_done (by kernel_rfl) ?_ _
      have HF := Lib.hid (K.out.next hS0).below
      have HLF := Lib.hid (HL.out.below (drew_b wr 1))
      clear hS0
      go_wp2_with fail
      refine bodyPost_ret (v := .slice C 0 cp) (by simp [results, Try.results52, go_sem]) rfl ⟨_, rfl, ?_, HF.out⟩
      rw [← Hend.out]
      exact HLF.out
    · have hqp : 0 < (pre ⟨ps, off, ⟨lo, hi⟩⟩ d).length := by omega
      obtain ⟨g, x0, rfl, hx0, ho0⟩ := hcell 0 hqp
      have hl0 : (pre ⟨ps, off, ⟨lo, hi⟩⟩ d)[0].length = d := (prefs_len (List.getElem_mem hqp)).1
      obtain ⟨g0, cap0, rfl, -, -⟩ := ho0
      rw [hl0] at hx0
      have i0 : (0 : Int) < (q : Int) := by omega
      have hx0' : wr.cell? ⟨g, 0, none⟩ = some (.slice (some ⟨g0, 0, none⟩) d cap0) := hx0
      by_cases hdn : d < n
      · have i1 : (d : Int) < (n : Int) := by omega
        have i2 : 0 < q := hq0
        have hq4 : q ≤ 10000 := by
          have h1 : (10 : Nat) ^ d ≤ 10 ^ 4 := Nat.pow_le_pow_right (by omega) (by omega)
          have h2 : (10 : Nat) ^ 4 = 10000 := by decide
          omega
        clear hq5
        have Hmu := Lib.hid (show lenMu n (.slice (some ⟨g, 0, none⟩) q cp) wr = n + 1 - d from by
          obtain ⟨q1, rfl⟩ : ∃ q1, q = q1 + 1 := ⟨q - 1, by omega⟩
          unfold lenMu
          simp only [hx0'])
        clear hcell hpos hq hcp hl0 hx0
        go_wp2_with fail
        refine wp_region_held_drew (S := fun w2 => Below wr.heap.size wr w2) (by kernel_rfl) (drew_b _ _) (fun hS0 => ?_)
        refine wpAnyH_take (i := 0) (oi := { dst := some 15, op := Go.Op.move (Go.Operand.tmp 3), type := 92, pos := "ref.go:110", after := #[], guard := none }) (v := .slice (some ⟨g, 0, none⟩) q cp) rfl (by kernel_rfl) (by kernel_rfl) (by kernel_rfl) (fun _ _ _ h => h) (Or.inl ⟨by rfl, by intro w2 hSw; (try dsimp only at hSw); have c0 : w2.cell? ⟨B, 0, none⟩ = some (.slice A n cap) := ((K.out.next HB.out).next hSw).c.1; have hx0 : w2.cell? ⟨g, 0, none⟩ = some (.slice (some ⟨g0, 0, none⟩) d cap0) := (hSw.cell (p := ⟨g, 0, none⟩) (lt_of_cell hx0')).trans hx0'; go_simp⟩) hS0 ?_
        try simp only [Act.put, List.setIfInBounds_toArray, List.set_cons_zero, List.set_cons_succ]
        refine wpAnyH_take (i := 1) (oi := { dst := some 16, op := Go.Op.call { callee := Go.Callee.builtin Go.Builtin.len, args := #[Go.Operand.tmp 15], argTypes := #[92] }, type := 3, pos := "ref.go:110", after := #[{ on := 0, ground := Go.Ground.data }], guard := none }) (v := .int .i64 (q : Int)) rfl (by kernel_rfl) (by kernel_rfl) (by kernel_rfl) (fun _ _ _ h => h) (Or.inl ⟨by rfl, by intro w2 hSw; (try dsimp only at hSw); have c0 : w2.cell? ⟨B, 0, none⟩ = some (.slice A n cap) := ((K.out.next HB.out).next hSw).c.1; have hx0 : w2.cell? ⟨g, 0, none⟩ = some (.slice (some ⟨g0, 0, none⟩) d cap0) := (hSw.cell (p := ⟨g, 0, none⟩) (lt_of_cell hx0')).trans hx0'; go_simp⟩) hS0 ?_
        try simp only [Act.put, List.setIfInBounds_toArray, List.set_cons_zero, List.set_cons_succ]
        refine wpAnyH_take (i := 2) (oi := { dst := some 17, op := Go.Op.binOp Go.BinOp.gtr 3 (Go.Operand.tmp 16) (Go.Operand.const (Go.Value.int Go.IntKind.i64 0)) 3, type := 4, pos := "ref.go:110", after := #[{ on := 1, ground := Go.Ground.data }], guard := none }) (v := .bool true) rfl (by kernel_rfl) (by kernel_rfl) (by kernel_rfl) (fun _ _ _ h => h) (Or.inl ⟨by rfl, by intro w2 hSw; (try dsimp only at hSw); have c0 : w2.cell? ⟨B, 0, none⟩ = some (.slice A n cap) := ((K.out.next HB.out).next hSw).c.1; have hx0 : w2.cell? ⟨g, 0, none⟩ = some (.slice (some ⟨g0, 0, none⟩) d cap0) := (hSw.cell (p := ⟨g, 0, none⟩) (lt_of_cell hx0')).trans hx0'; go_simp⟩) hS0 ?_
        try simp only [Act.put, List.setIfInBounds_toArray, List.set_cons_zero, List.set_cons_succ]
        refine wpAnyH_take (i := 3) (oi := { dst := some 18, op := Go.Op.move (Go.Operand.tmp 17), type := 4, pos := "ref.go:110", after := #[{ on := 2, ground := Go.Ground.data }], guard := none }) (v := .bool true) rfl (by kernel_rfl) (by kernel_rfl) (by kernel_rfl) (fun _ _ _ h => h) (Or.inl ⟨by rfl, by intro w2 hSw; (try dsimp only at hSw); have c0 : w2.cell? ⟨B, 0, none⟩ = some (.slice A n cap) := ((K.out.next HB.out).next hSw).c.1; have hx0 : w2.cell? ⟨g, 0, none⟩ = some (.slice (some ⟨g0, 0, none⟩) d cap0) := (hSw.cell (p := ⟨g, 0, none⟩) (lt_of_cell hx0')).trans hx0'; go_simp⟩) hS0 ?_
        try simp only [Act.put, List.setIfInBounds_toArray, List.set_cons_zero, List.set_cons_succ]
        refine wpAnyH_take (i := 4) (oi := { dst := some 19, op := Go.Op.move (Go.Operand.tmp 3), type := 92, pos := "ref.go:110", after := #[{ on := 3, ground := Go.Ground.guard }], guard := some (3, true) }) (v := .slice (some ⟨g, 0, none⟩) q cp) rfl (by kernel_rfl) (by kernel_rfl) (by kernel_rfl) (fun _ _ _ h => h) (Or.inl ⟨by rfl, by intro w2 hSw; (try dsimp only at hSw); have c0 : w2.cell? ⟨B, 0, none⟩ = some (.slice A n cap) := ((K.out.next HB.out).next hSw).c.1; have hx0 : w2.cell? ⟨g, 0, none⟩ = some (.slice (some ⟨g0, 0, none⟩) d cap0) := (hSw.cell (p := ⟨g, 0, none⟩) (lt_of_cell hx0')).trans hx0'; go_simp⟩) hS0 ?_
        try simp only [Act.put, List.setIfInBounds_toArray, List.set_cons_zero, List.set_cons_succ]
        refine wpAnyH_take (i := 5) (oi := { dst := some 20, op := Go.Op.indexAddr 92 (Go.Operand.tmp 19) (Go.Operand.const (Go.Value.int Go.IntKind.i64 0)), type := 0, pos := "ref.go:110", after := #[{ on := 4, ground := Go.Ground.data }, { on := 3, ground := Go.Ground.guard }], guard := some (3, true) }) (v := .pointer (some ⟨g, 0, none⟩)) rfl (by kernel_rfl) (by kernel_rfl) (by kernel_rfl) (fun _ _ _ h => h) (Or.inl ⟨by rfl, by intro w2 hSw; (try dsimp only at hSw); have c0 : w2.cell? ⟨B, 0, none⟩ = some (.slice A n cap) := ((K.out.next HB.out).next hSw).c.1; have hx0 : w2.cell? ⟨g, 0, none⟩ = some (.slice (some ⟨g0, 0, none⟩) d cap0) := (hSw.cell (p := ⟨g, 0, none⟩) (lt_of_cell hx0')).trans hx0'; go_simp⟩) hS0 ?_
        try simp only [Act.put, List.setIfInBounds_toArray, List.set_cons_zero, List.set_cons_succ]
        refine wpAnyH_take (i := 6) (oi := { dst := some 21, op := Go.Op.load 29 (Go.Operand.tmp 20), type := 29, pos := "ref.go:110", after := #[{ on := 5, ground := Go.Ground.data }, { on := 3, ground := Go.Ground.guard }], guard := some (3, true) }) (v := .slice (some ⟨g0, 0, none⟩) d cap0) rfl (by kernel_rfl) (by kernel_rfl) (by kernel_rfl) (fun _ _ _ h => h) (Or.inl ⟨by rfl, by intro w2 hSw; (try dsimp only at hSw); have c0 : w2.cell? ⟨B, 0, none⟩ = some (.slice A n cap) := ((K.out.next HB.out).next hSw).c.1; have hx0 : w2.cell? ⟨g, 0, none⟩ = some (.slice (some ⟨g0, 0, none⟩) d cap0) := (hSw.cell (p := ⟨g, 0, none⟩) (lt_of_cell hx0')).trans hx0'; go_simp⟩) hS0 ?_
        try simp only [Act.put, List.setIfInBounds_toArray, List.set_cons_zero, List.set_cons_succ]
        refine wpAnyH_take (i := 7) (oi := { dst := some 22, op := Go.Op.call { callee := Go.Callee.builtin Go.Builtin.len, args := #[Go.Operand.tmp 21], argTypes := #[29] }, type := 3, pos := "ref.go:110", after := #[{ on := 6, ground := Go.Ground.data }, { on := 3, ground := Go.Ground.guard }], guard := some (3, true) }) (v := .int .i64 (d : Int)) rfl (by kernel_rfl) (by kernel_rfl) (by kernel_rfl) (fun _ _ _ h => h) (Or.inl ⟨by rfl, by intro w2 hSw; (try dsimp only at hSw); have c0 : w2.cell? ⟨B, 0, none⟩ = some (.slice A n cap) := ((K.out.next HB.out).next hSw).c.1; have hx0 : w2.cell? ⟨g, 0, none⟩ = some (.slice (some ⟨g0, 0, none⟩) d cap0) := (hSw.cell (p := ⟨g, 0, none⟩) (lt_of_cell hx0')).trans hx0'; go_simp⟩) hS0 ?_
        try simp only [Act.put, List.setIfInBounds_toArray, List.set_cons_zero, List.set_cons_succ]
        refine wpAnyH_take (i := 8) (oi := { dst := some 23, op := Go.Op.fieldAddr 26 (Go.Operand.tmp 1) 0, type := 0, pos := "ref.go:110", after := #[{ on := 3, ground := Go.Ground.guard }], guard := some (3, true) }) (v := .pointer (some ⟨B, 0, none⟩)) rfl (by kernel_rfl) (by kernel_rfl) (by kernel_rfl) (fun _ _ _ h => h) (Or.inl ⟨by rfl, by intro w2 hSw; (try dsimp only at hSw); have c0 : w2.cell? ⟨B, 0, none⟩ = some (.slice A n cap) := ((K.out.next HB.out).next hSw).c.1; have hx0 : w2.cell? ⟨g, 0, none⟩ = some (.slice (some ⟨g0, 0, none⟩) d cap0) := (hSw.cell (p := ⟨g, 0, none⟩) (lt_of_cell hx0')).trans hx0'; go_simp⟩) hS0 ?_
        try simp only [Act.put, List.setIfInBounds_toArray, List.set_cons_zero, List.set_cons_succ]
        refine wpAnyH_take (i := 9) (oi := { dst := some 24, op := Go.Op.load 22 (Go.Operand.tmp 23), type := 22, pos := "ref.go:110", after := #[{ on := 8, ground := Go.Ground.data }, { on := 3, ground := Go.Ground.guard }], guard := some (3, true) }) (v := .slice A n cap) rfl (by kernel_rfl) (by kernel_rfl) (by kernel_rfl) (fun _ _ _ h => h) (Or.inl ⟨by rfl, by intro w2 hSw; (try dsimp only at hSw); have c0 : w2.cell? ⟨B, 0, none⟩ = some (.slice A n cap) := ((K.out.next HB.out).next hSw).c.1; have hx0 : w2.cell? ⟨g, 0, none⟩ = some (.slice (some ⟨g0, 0, none⟩) d cap0) := (hSw.cell (p := ⟨g, 0, none⟩) (lt_of_cell hx0')).trans hx0'; go_simp⟩) hS0 ?_
        try simp only [Act.put, List.setIfInBounds_toArray, List.set_cons_zero, List.set_cons_succ]
        refine wpAnyH_take (i := 10) (oi := { dst := some 25, op := Go.Op.call { callee := Go.Callee.builtin Go.Builtin.len, args := #[Go.Operand.tmp 24], argTypes := #[22] }, type := 3, pos := "ref.go:110", after := #[{ on := 9, ground := Go.Ground.data }, { on := 3, ground := Go.Ground.guard }], guard := some (3, true) }) (v := .int .i64 (n : Int)) rfl (by kernel_rfl) (by kernel_rfl) (by kernel_rfl) (fun _ _ _ h => h) (Or.inl ⟨by rfl, by intro w2 hSw; (try dsimp only at hSw); have c0 : w2.cell? ⟨B, 0, none⟩ = some (.slice A n cap) := ((K.out.next HB.out).next hSw).c.1; have hx0 : w2.cell? ⟨g, 0, none⟩ = some (.slice (some ⟨g0, 0, none⟩) d cap0) := (hSw.cell (p := ⟨g, 0, none⟩) (lt_of_cell hx0')).trans hx0'; go_simp⟩) hS0 ?_
        try simp only [Act.put, List.setIfInBounds_toArray, List.set_cons_zero, List.set_cons_succ]
        refine wpAnyH_take (i := 11) (oi := { dst := some 26, op := Go.Op.binOp Go.BinOp.lss 3 (Go.Operand.tmp 22) (Go.Operand.tmp 25) 3, type := 4, pos := "ref.go:110", after := #[{ on := 7, ground := Go.Ground.data }, { on := 10, ground := Go.Ground.data }, { on := 3, ground := Go.Ground.guard }], guard := some (3, true) }) (v := .bool true) rfl (by kernel_rfl) (by kernel_rfl) (by kernel_rfl) (fun _ _ _ h => h) (Or.inl ⟨by rfl, by intro w2 hSw; (try dsimp only at hSw); have c0 : w2.cell? ⟨B, 0, none⟩ = some (.slice A n cap) := ((K.out.next HB.out).next hSw).c.1; have hx0 : w2.cell? ⟨g, 0, none⟩ = some (.slice (some ⟨g0, 0, none⟩) d cap0) := (hSw.cell (p := ⟨g, 0, none⟩) (lt_of_cell hx0')).trans hx0'; go_simp⟩) hS0 ?_
        try simp only [Act.put, List.setIfInBounds_toArray, List.set_cons_zero, List.set_cons_succ]
        refine wpAnyH_take (i := 12) (oi := { dst := some 27, op := Go.Op.pick (Go.Operand.tmp 18) (Go.Operand.tmp 26) (Go.Operand.const (Go.Value.bool false)), type := 4, pos := "ref.go:110", after := #[{ on := 3, ground := Go.Ground.data }, { on := 11, ground := Go.Ground.data }], guard := none }) (v := .bool true) rfl (by kernel_rfl) (by kernel_rfl) (by kernel_rfl) (fun _ _ _ h => h) (Or.inl ⟨by rfl, by intro w2 hSw; (try dsimp only at hSw); have c0 : w2.cell? ⟨B, 0, none⟩ = some (.slice A n cap) := ((K.out.next HB.out).next hSw).c.1; have hx0 : w2.cell? ⟨g, 0, none⟩ = some (.slice (some ⟨g0, 0, none⟩) d cap0) := (hSw.cell (p := ⟨g, 0, none⟩) (lt_of_cell hx0')).trans hx0'; go_simp⟩) hS0 ?_
        try simp only [Act.put, List.setIfInBounds_toArray, List.set_cons_zero, List.set_cons_succ]
        refine wpAnyH_done (by kernel_rfl) ?_ _
        have hS1 := HB.out.trans (hS0.mono HB.out.size)
        have HL1 := Lib.hid (HL.out.below hS0)
        clear hS0 hx0' c0 c1 c2 c3 HL HB hB hL Kr i0 i1
        generalize wr.drew = Wl at hS1 HL1 ⊢
        have HBl := Lib.hid hS1
        clear hS1
        go_wp2_with fail
        go_loopw [5, 6] (fun v i w3 => ∃ k : Nat, i = .int .i64 (k : Int) ∧ k ≤ q ∧ OwnL w3 v (((pre ⟨ps, off, ⟨lo, hi⟩⟩ d).take k).flatMap (longer ⟨ps, off, ⟨lo, hi⟩⟩)) ∧ (∀ b, v.ownBlock = some b → Wl.heap.size ≤ b) ∧ Below Wl.heap.size Wl w3) (fun _ i _ => q - (intOf i).toNat)
        case atStart => exact ⟨0, by rfl, Nat.zero_le _, OwnL.nil _, (fun b hb => by cases hb), Below.refl _ _⟩
        case round =>
          obtain ⟨k, rfl, hk, hN, hob, hB2⟩ := hrel
          obtain ⟨Wk, rfl⟩ : ∃ Wk, Wk = wr := ⟨_, rfl⟩
          have HN := Lib.hid hN
          have Hob := Lib.hid hob
          have HB2 := Lib.hid hB2
          clear hN hob
          by_cases hlt : k < q
          · have hkp : k < (pre ⟨ps, off, ⟨lo, hi⟩⟩ d).length := by rw [Hq.out]; exact hlt
            obtain ⟨C', cp', he', -, -, hcell⟩ := HL1.out.read
            obtain ⟨g', x, hg', hx, ho⟩ := hcell k hkp
            obtain rfl : g = g' := by rw [hg'] at he'; injection he' with e1; injection e1 with e2; injection e2
            clear he' hcell hg'
            obtain ⟨l, hl⟩ : ∃ l, (pre ⟨ps, off, ⟨lo, hi⟩⟩ d)[k] = l := ⟨_, rfl⟩
            obtain ⟨hll, hlc⟩ := prefs_len (T := tabOf ⟨ps, off, ⟨lo, hi⟩⟩) (cs := codesL ps) (d := d) (l := (pre ⟨ps, off, ⟨lo, hi⟩⟩ d)[k]) (List.getElem_mem hkp)
            rw [hl] at ho hll hlc
            obtain ⟨gx, capx, rfl, hcx, hSx⟩ := ho.sts
            rw [hll] at hx hSx ho
            have hxk : Wk.cell? ⟨g, k, none⟩ = some (.slice (some ⟨gx, 0, none⟩) d capx) := (hB2.cell (p := ⟨g, k, none⟩) (lt_of_cell hx)).trans hx
            have Hl := Lib.hid hl
            have Hll := Lib.hid hll
            have Hlc := Lib.hid hlc
            have Hx := Lib.hid ho
            have HSx := Lib.hid hSx
            have i0 : (0 : Int) ≤ (k : Int) := by omega
            have i1 : (k : Int) < (q : Int) := by omega
            obtain ⟨P, hP⟩ : ∃ P, ((pre ⟨ps, off, ⟨lo, hi⟩⟩ d).take k).flatMap (longer ⟨ps, off, ⟨lo, hi⟩⟩) = P := ⟨_, rfl⟩
            rw [hP] at HN
            have hPl : P.length ≤ k * 10 := by
              rw [← hP]
              refine Nat.le_trans (flat_le _ 10 _ (fun l2 _ => Nat.le_trans (longer_le _ _) (by show (codesL ps).length ≤ 10; rw [Hm4.out]; exact hm10))) ?_
              rw [List.length_take]
              exact Nat.mul_le_mul_right _ (Nat.min_le_left _ _)
            have HP := Lib.hid hP
            clear hl hll hlc ho hSx hx hP hB2 hcx
            go_wp2_with fail
            go_loopw [5, 8] (fun v i w4 => ∃ j : Nat, i = .int .i64 (j : Int) ∧ j ≤ m4 ∧ OwnL w4 v (P ++ partL ⟨ps, off, ⟨lo, hi⟩⟩ l j) ∧ (∀ b, v.ownBlock = some b → Wl.heap.size ≤ b) ∧ Below Wl.heap.size Wl w4) (fun _ i _ => m4 - (intOf i).toNat)
            case atStart => exact ⟨0, by rfl, Nat.zero_le _, by rw [show partL ⟨ps, off, ⟨lo, hi⟩⟩ l 0 = [] from rfl, List.append_nil]; exact HN.out, Hob.out, HB2.out⟩
            case round =>
              clear hxk HN Hob HB2
              obtain ⟨j, rfl, hj, hN, hob, hB3⟩ := hrel
              obtain ⟨Wj, rfl⟩ : ∃ Wj, Wj = wr := ⟨_, rfl⟩
              have HN := Lib.hid hN
              have Hob := Lib.hid hob
              have HB3 := Lib.hid hB3
              clear hN hob hB3
              by_cases hlj : j < m4
              · have hjc : j < (codesL ps).length := by rw [Hm4.out]; exact hlj
                obtain ⟨s, hs⟩ : ∃ s, (codesL ps)[j] = s := ⟨_, rfl⟩
                have hsc : s ∈ codesL ps := by rw [← hs]; exact List.getElem_mem hjc
                obtain ⟨b4, o4, rfl, hc4⟩ := S4.out.2 (by omega)
                obtain ⟨e0, e1⟩ := hc4 j hlj
                rw [sAt_map hjc, hs] at e0 e1
                have hb4 := lt_of_cell e0
                have hWj : Below W2.heap.size W2 Wj := HBl.out.trans (HB3.out.mono HBl.out.size)
                have hsp : s / 2 < n := by have := (codes_iff.1 hsc).1; rw [Hpl.out] at this; exact this
                have Hs := Lib.hid hs
                have Hsc := Lib.hid hsc
                have Hc4 := Lib.hid (And.intro e0 e1)
                have Hb4 := Lib.hid hb4
                have HWj := Lib.hid hWj
                clear hs hsc hc4 e0 e1 hb4 hWj
                go_wp2_with fail
                go_cut [9] from 44 to 60 (fun v9 wx => v9 = .bool (fit0 ⟨ps, off, ⟨lo, hi⟩⟩ l s) ∧ Below Wj.heap.size Wj wx)
                case first =>
                  have hKj := K.out.next HWj.out
                  obtain ⟨c0, c1, c2, c3⟩ := hKj.c
                  have e0' : Wj.cell? ⟨b4, o4 + j * 2, none⟩ = _ := (HWj.out.cell (p := ⟨b4, o4 + j * 2, none⟩) Hb4.out).trans Hc4.out.1
                  have e1' : Wj.cell? ⟨b4, o4 + j * 2 + 1, none⟩ = _ := (HWj.out.cell (p := ⟨b4, o4 + j * 2 + 1, none⟩) Hb4.out).trans Hc4.out.2
                  rcases Nat.eq_zero_or_pos d with hd0 | hd0
                  · subst hd0
                    have hl0 : l = [] := List.eq_nil_of_length_eq_zero Hll.out
                    have Hft := Lib.hid (show fit0 ⟨ps, off, ⟨lo, hi⟩⟩ l s = true from by unfold fit0; rw [hl0]; rfl)
                    clear hl0 e0' e1'
                    refine wp_region_held_drew (S := fun w2 => Below Wj.heap.size Wj w2) (by kernel_rfl) (drew_b _ _) (fun hS0 => ?_)
                    refine wpAnyH_take (i := 0) (oi := { dst := some 44, op := Go.Op.move (Go.Operand.tmp 7), type := 29, pos := "ref.go:115", after := #[], guard := none }) (v := .slice (some ⟨gx, 0, none⟩) 0 capx) rfl (by kernel_rfl) (by kernel_rfl) (by kernel_rfl) (fun _ _ _ h => h) (Or.inl ⟨by rfl, by intro w2 hSw; (try dsimp only at hSw); go_simp⟩) hS0 ?_
                    try simp only [Act.put, List.setIfInBounds_toArray, List.set_cons_zero, List.set_cons_succ]
                    refine wpAnyH_take (i := 1) (oi := { dst := some 45, op := Go.Op.call { callee := Go.Callee.builtin Go.Builtin.len, args := #[Go.Operand.tmp 44], argTypes := #[29] }, type := 3, pos := "ref.go:115", after := #[{ on := 0, ground := Go.Ground.data }], guard := none }) (v := .int .i64 0) rfl (by kernel_rfl) (by kernel_rfl) (by kernel_rfl) (fun _ _ _ h => h) (Or.inl ⟨by rfl, by intro w2 hSw; (try dsimp only at hSw); go_simp⟩) hS0 ?_
                    try simp only [Act.put, List.setIfInBounds_toArray, List.set_cons_zero, List.set_cons_succ]
                    refine wpAnyH_take (i := 2) (oi := { dst := some 46, op := Go.Op.binOp Go.BinOp.eql 3 (Go.Operand.tmp 45) (Go.Operand.const (Go.Value.int Go.IntKind.i64 0)) 3, type := 4, pos := "ref.go:115", after := #[{ on := 1, ground := Go.Ground.data }], guard := none }) (v := .bool true) rfl (by kernel_rfl) (by kernel_rfl) (by kernel_rfl) (fun _ _ _ h => h) (Or.inl ⟨by rfl, by intro w2 hSw; (try dsimp only at hSw); go_simp⟩) hS0 ?_
                    try simp only [Act.put, List.setIfInBounds_toArray, List.set_cons_zero, List.set_cons_succ]
                    refine wpAnyH_take (i := 3) (oi := { dst := some 47, op := Go.Op.move (Go.Operand.tmp 46), type := 4, pos := "ref.go:115", after := #[{ on := 2, ground := Go.Ground.data }], guard := none }) (v := .bool true) rfl (by kernel_rfl) (by kernel_rfl) (by kernel_rfl) (fun _ _ _ h => h) (Or.inl ⟨by rfl, by intro w2 hSw; (try dsimp only at hSw); go_simp⟩) hS0 ?_
                    try simp only [Act.put, List.setIfInBounds_toArray, List.set_cons_zero, List.set_cons_succ]
                    refine wpAnyH_take (i := 4) (oi := { dst := some 48, op := Go.Op.load 26 (Go.Operand.tmp 1), type := 26, pos := "ref.go:115", after := #[{ on := 3, ground := Go.Ground.guard }], guard := some (3, false) }) (v := undef) rfl (by kernel_rfl) (by kernel_rfl) (by kernel_rfl) (fun _ _ _ h => h) (Or.inr ⟨by rfl, rfl⟩) hS0 ?_
                    try simp only [Act.put, List.setIfInBounds_toArray, List.set_cons_zero, List.set_cons_succ]
                    refine wpAnyH_take (i := 5) (oi := { dst := some 49, op := Go.Op.move (Go.Operand.tmp 7), type := 29, pos := "ref.go:115", after := #[{ on := 3, ground := Go.Ground.guard }], guard := some (3, false) }) (v := undef) rfl (by kernel_rfl) (by kernel_rfl) (by kernel_rfl) (fun _ _ _ h => h) (Or.inr ⟨by rfl, rfl⟩) hS0 ?_
                    try simp only [Act.put, List.setIfInBounds_toArray, List.set_cons_zero, List.set_cons_succ]
                    refine wpAnyH_take (i := 6) (oi := { dst := some 50, op := Go.Op.move (Go.Operand.tmp 7), type := 29, pos := "ref.go:115", after := #[{ on := 3, ground := Go.Ground.guard }], guard := some (3, false) }) (v := undef) rfl (by kernel_rfl) (by kernel_rfl) (by kernel_rfl) (fun _ _ _ h => h) (Or.inr ⟨by rfl, rfl⟩) hS0 ?_
                    try simp only [Act.put, List.setIfInBounds_toArray, List.set_cons_zero, List.set_cons_succ]
                    refine wpAnyH_take (i := 7) (oi := { dst := some 51, op := Go.Op.call { callee := Go.Callee.builtin Go.Builtin.len, args := #[Go.Operand.tmp 50], argTypes := #[29] }, type := 3, pos := "ref.go:115", after := #[{ on := 6, ground := Go.Ground.data }, { on := 3, ground := Go.Ground.guard }], guard := some (3, false) }) (v := undef) rfl (by kernel_rfl) (by kernel_rfl) (by kernel_rfl) (fun _ _ _ h => h) (Or.inr ⟨by rfl, rfl⟩) hS0 ?_
                    try simp only [Act.put, List.setIfInBounds_toArray, List.set_cons_zero, List.set_cons_succ]
                    refine wpAnyH_take (i := 8) (oi := { dst := some 52, op := Go.Op.binOp Go.BinOp.sub 3 (Go.Operand.tmp 51) (Go.Operand.const (Go.Value.int Go.IntKind.i64 1)) 3, type := 3, pos := "ref.go:115", after := #[{ on := 7, ground := Go.Ground.data }, { on := 3, ground := Go.Ground.guard }], guard := some (3, false) }) (v := undef) rfl (by kernel_rfl) (by kernel_rfl) (by kernel_rfl) (fun _ _ _ h => h) (Or.inr ⟨by rfl, rfl⟩) hS0 ?_
                    try simp only [Act.put, List.setIfInBounds_toArray, List.set_cons_zero, List.set_cons_succ]
                    refine wpAnyH_take (i := 9) (oi := { dst := some 53, op := Go.Op.indexAddr 29 (Go.Operand.tmp 49) (Go.Operand.tmp 52), type := 0, pos := "ref.go:115", after := #[{ on := 5, ground := Go.Ground.data }, { on := 8, ground := Go.Ground.data }, { on := 3, ground := Go.Ground.guard }], guard := some (3, false) }) (v := undef) rfl (by kernel_rfl) (by kernel_rfl) (by kernel_rfl) (fun _ _ _ h => h) (Or.inr ⟨by rfl, rfl⟩) hS0 ?_
                    try simp only [Act.put, List.setIfInBounds_toArray, List.set_cons_zero, List.set_cons_succ]
                    refine wpAnyH_take (i := 10) (oi := { dst := some 54, op := Go.Op.load 28 (Go.Operand.tmp 53), type := 28, pos := "ref.go:115", after := #[{ on := 9, ground := Go.Ground.data }, { on := 3, ground := Go.Ground.guard }], guard := some (3, false) }) (v := undef) rfl (by kernel_rfl) (by kernel_rfl) (by kernel_rfl) (fun _ _ _ h => h) (Or.inr ⟨by rfl, rfl⟩) hS0 ?_
                    try simp only [Act.put, List.setIfInBounds_toArray, List.set_cons_zero, List.set_cons_succ]
                    refine wpAnyH_take (i := 11) (oi := { dst := some 55, op := Go.Op.move (Go.Operand.tmp 4), type := 29, pos := "ref.go:115", after := #[{ on := 3, ground := Go.Ground.guard }], guard := some (3, false) }) (v := undef) rfl (by kernel_rfl) (by kernel_rfl) (by kernel_rfl) (fun _ _ _ h => h) (Or.inr ⟨by rfl, rfl⟩) hS0 ?_
                    try simp only [Act.put, List.setIfInBounds_toArray, List.set_cons_zero, List.set_cons_succ]
                    refine wpAnyH_take (i := 12) (oi := { dst := some 56, op := Go.Op.move (Go.Operand.tmp 8), type := 3, pos := "ref.go:115", after := #[{ on := 3, ground := Go.Ground.guard }], guard := some (3, false) }) (v := undef) rfl (by kernel_rfl) (by kernel_rfl) (by kernel_rfl) (fun _ _ _ h => h) (Or.inr ⟨by rfl, rfl⟩) hS0 ?_
                    try simp only [Act.put, List.setIfInBounds_toArray, List.set_cons_zero, List.set_cons_succ]
                    refine wpAnyH_take (i := 13) (oi := { dst := some 57, op := Go.Op.indexAddr 29 (Go.Operand.tmp 55) (Go.Operand.tmp 56), type := 0, pos := "ref.go:115", after := #[{ on := 11, ground := Go.Ground.data }, { on := 12, ground := Go.Ground.data }, { on := 3, ground := Go.Ground.guard }], guard := some (3, false) }) (v := undef) rfl (by kernel_rfl) (by kernel_rfl) (by kernel_rfl) (fun _ _ _ h => h) (Or.inr ⟨by rfl, rfl⟩) hS0 ?_
                    try simp only [Act.put, List.setIfInBounds_toArray, List.set_cons_zero, List.set_cons_succ]
                    refine wpAnyH_take (i := 14) (oi := { dst := some 58, op := Go.Op.load 28 (Go.Operand.tmp 57), type := 28, pos := "ref.go:115", after := #[{ on := 13, ground := Go.Ground.data }, { on := 3, ground := Go.Ground.guard }], guard := some (3, false) }) (v := undef) rfl (by kernel_rfl) (by kernel_rfl) (by kernel_rfl) (fun _ _ _ h => h) (Or.inr ⟨by rfl, rfl⟩) hS0 ?_
                    try simp only [Act.put, List.setIfInBounds_toArray, List.set_cons_zero, List.set_cons_succ]
                    refine wpAnyH_take (i := 15) (oi := { dst := some 59, op := Go.Op.call { callee := Go.Callee.value (Go.Operand.func 46), args := #[Go.Operand.tmp 48, Go.Operand.tmp 54, Go.Operand.tmp 58], argTypes := #[26, 28, 28] }, type := 4, pos := "ref.go:115", after := #[{ on := 4, ground := Go.Ground.data }, { on := 10, ground := Go.Ground.data }, { on := 14, ground := Go.Ground.data }, { on := 3, ground := Go.Ground.chain }, { on := 3, ground := Go.Ground.guard }], guard := some (3, false) }) (v := undef) rfl (by kernel_rfl) (by kernel_rfl) (by kernel_rfl) (fun _ _ _ h => h) (Or.inr ⟨by rfl, rfl⟩) hS0 ?_
                    try simp only [Act.put, List.setIfInBounds_toArray, List.set_cons_zero, List.set_cons_succ]
                    refine wpAnyH_take (i := 16) (oi := { dst := some 60, op := Go.Op.pick (Go.Operand.tmp 47) (Go.Operand.const (Go.Value.bool true)) (Go.Operand.tmp 59), type := 4, pos := "ref.go:115", after := #[{ on := 3, ground := Go.Ground.data }, { on := 15, ground := Go.Ground.data }], guard := none }) (v := .bool true) rfl (by kernel_rfl) (by kernel_rfl) (by kernel_rfl) (fun _ _ _ h => h) (Or.inl ⟨by rfl, by intro w2 hSw; (try dsimp only at hSw); go_simp⟩) hS0 ?_
                    try simp only [Act.put, List.setIfInBounds_toArray, List.set_cons_zero, List.set_cons_succ]
                    refine wpAnyH_take (i := 17) (oi := { dst := some 9, op := Go.Op.assign (Go.Operand.tmp 60), type := 4, pos := "ref.go:115", after := #[{ on := 16, ground := Go.Ground.data }, { on := 15, ground := Go.Ground.chain }, { on := 0, ground := Go.Ground.phase }, { on := 1, ground := Go.Ground.phase }, { on := 2, ground := Go.Ground.phase }, { on := 3, ground := Go.Ground.phase }, { on := 4, ground := Go.Ground.phase }, { on := 5, ground := Go.Ground.phase }, { on := 6, ground := Go.Ground.phase }, { on := 7, ground := Go.Ground.phase }, { on := 8, ground := Go.Ground.phase }, { on := 9, ground := Go.Ground.phase }, { on := 10, ground := Go.Ground.phase }, { on := 11, ground := Go.Ground.phase }, { on := 12, ground := Go.Ground.phase }, { on := 13, ground := Go.Ground.phase }, { on := 14, ground := Go.Ground.phase }, { on := 15, ground := Go.Ground.phase }, { on := 16, ground := Go.Ground.phase }], guard := none }) (v := .bool true) rfl (by kernel_rfl) (by kernel_rfl) (by kernel_rfl) (fun _ _ _ h => h) (Or.inl ⟨by rfl, by intro w2 hSw; (try dsimp only at hSw); go_simp⟩) hS0 ?_
                    try simp only [Act.put, List.setIfInBounds_toArray, List.set_cons_zero, List.set_cons_succ]
                    refine wpAnyH_done (by kernel_rfl) ?_ _
                    go_wp2_with fail
                    go_meet
                    case rel => exact ⟨by rw [Hft.out], hS0⟩
                  · obtain ⟨e, hde⟩ : ∃ e, d = e + 1 := ⟨d - 1, by omega⟩
                    have hel : e < l.length := by rw [Hll.out]; omega
                    obtain ⟨bx, ox, ex, hcx⟩ := HSx.out.2 (by omega)
                    obtain ⟨rfl, rfl⟩ : gx = bx ∧ 0 = ox := by cases ex; exact ⟨rfl, rfl⟩
                    obtain ⟨f0, f1⟩ := hcx e (by omega)
                    have hgxl := lt_of_cell f0
                    rw [sAt_map hel, Nat.zero_add] at f0 f1
                    have f0' : Wj.cell? ⟨gx, e * 2, none⟩ = _ := (HB3.out.cell (p := ⟨gx, e * 2, none⟩) hgxl).trans f0
                    have f1' : Wj.cell? ⟨gx, e * 2 + 1, none⟩ = _ := (HB3.out.cell (p := ⟨gx, e * 2 + 1, none⟩) hgxl).trans f1
                    have hlec := Hlc.out _ (List.getElem_mem hel)
                    have hft : fit0 ⟨ps, off, ⟨lo, hi⟩⟩ l s = fitsB ⟨ps, off, ⟨lo, hi⟩⟩ (stC l[e]) (stC s) := by
                      unfold fit0
                      rw [decide_eq_false (fun e0 => by rw [e0] at hel; simp at hel), Bool.false_or, ← tab_codes hlec Hsc.out]
                      congr 1
                      have : l.getLastD 0 = l[l.length - 1] := by
                        rw [List.getLastD_eq_getLast?, List.getLast?_eq_getElem?, List.getElem?_eq_getElem (by omega)]
                        rfl
                      rw [this]
                      congr 1
                      rw [Hll.out, hde]
                      rfl
                    have hlen9 : l[e] / 2 < n := by have := (codes_iff.1 hlec).1; rw [Hpl.out] at this; exact this
                    unfold stC at f0' f1' e0' e1' hft
                    simp only at f0' f1' e0' e1'
                    have hsp9 := hsp
                    generalize (l[e] / 2 : Nat) = lp at f0' hft hlen9
                    generalize decide (l[e] % 2 = 1) = lt at f1' hft
                    generalize (s / 2 : Nat) = sp at e0' hft hsp9
                    generalize decide (s % 2 = 1) = stt at e1' hft
                    have Hft := Lib.hid hft
                    have p1 : (d : Int) - 1 = (e : Int) := by omega
                    have p2 : IntKind.i64.wrap (e : Int) = (e : Int) := IntWalk.i64_in _ ⟨by omega, by omega⟩
                    have p3 : ((d : Int) == 0) = false := by rw [beq_eq_false_iff_ne]; omega
                    have p4 : (0 : Int) ≤ (e : Int) := by omega
                    have p5 : (e : Int) < (d : Int) := by omega
                    have i4 : (0 : Int) ≤ (j : Int) := by omega
                    have i5 : (j : Int) < (m4 : Int) := by omega
                    have HK5 := Lib.hid hKj
                    clear hft f0 f1 hcx ex hlec hel hde hKj
                    refine wp_region_held_drew (S := fun w2 => Below Wj.heap.size Wj w2) (by kernel_rfl) (drew_b _ _) (fun hS0 => ?_)
                    refine wpAnyH_take (i := 0) (oi := { dst := some 44, op := Go.Op.move (Go.Operand.tmp 7), type := 29, pos := "ref.go:115", after := #[], guard := none }) (v := .slice (some ⟨gx, 0, none⟩) d capx) rfl (by kernel_rfl) (by kernel_rfl) (by kernel_rfl) (fun _ _ _ h => h) (Or.inl ⟨by rfl, by intro w2 hSw; (try dsimp only at hSw); obtain ⟨c0, c1, c2, c3⟩ := (HK5.out.next hSw).c; have f0 := (hSw.cell (p := ⟨gx, e * 2, none⟩) (lt_of_cell f0')).trans f0'; have f1 := (hSw.cell (p := ⟨gx, e * 2 + 1, none⟩) (lt_of_cell f1')).trans f1'; have e0 := (hSw.cell (p := ⟨b4, o4 + j * 2, none⟩) (lt_of_cell e0')).trans e0'; have e1 := (hSw.cell (p := ⟨b4, o4 + j * 2 + 1, none⟩) (lt_of_cell e1')).trans e1'; go_simp⟩) hS0 ?_
                    try simp only [Act.put, List.setIfInBounds_toArray, List.set_cons_zero, List.set_cons_succ]
                    refine wpAnyH_take (i := 1) (oi := { dst := some 45, op := Go.Op.call { callee := Go.Callee.builtin Go.Builtin.len, args := #[Go.Operand.tmp 44], argTypes := #[29] }, type := 3, pos := "ref.go:115", after := #[{ on := 0, ground := Go.Ground.data }], guard := none }) (v := .int .i64 (d : Int)) rfl (by kernel_rfl) (by kernel_rfl) (by kernel_rfl) (fun _ _ _ h => h) (Or.inl ⟨by rfl, by intro w2 hSw; (try dsimp only at hSw); obtain ⟨c0, c1, c2, c3⟩ := (HK5.out.next hSw).c; have f0 := (hSw.cell (p := ⟨gx, e * 2, none⟩) (lt_of_cell f0')).trans f0'; have f1 := (hSw.cell (p := ⟨gx, e * 2 + 1, none⟩) (lt_of_cell f1')).trans f1'; have e0 := (hSw.cell (p := ⟨b4, o4 + j * 2, none⟩) (lt_of_cell e0')).trans e0'; have e1 := (hSw.cell (p := ⟨b4, o4 + j * 2 + 1, none⟩) (lt_of_cell e1')).trans e1'; go_simp⟩) hS0 ?_
                    try simp only [Act.put, List.setIfInBounds_toArray, List.set_cons_zero, List.set_cons_succ]
                    refine wpAnyH_take (i := 2) (oi := { dst := some 46, op := Go.Op.binOp Go.BinOp.eql 3 (Go.Operand.tmp 45) (Go.Operand.const (Go.Value.int Go.IntKind.i64 0)) 3, type := 4, pos := "ref.go:115", after := #[{ on := 1, ground := Go.Ground.data }], guard := none }) (v := .bool false) rfl (by kernel_rfl) (by kernel_rfl) (by kernel_rfl) (fun _ _ _ h => h) (Or.inl ⟨by rfl, by intro w2 hSw; (try dsimp only at hSw); obtain ⟨c0, c1, c2, c3⟩ := (HK5.out.next hSw).c; have f0 := (hSw.cell (p := ⟨gx, e * 2, none⟩) (lt_of_cell f0')).trans f0'; have f1 := (hSw.cell (p := ⟨gx, e * 2 + 1, none⟩) (lt_of_cell f1')).trans f1'; have e0 := (hSw.cell (p := ⟨b4, o4 + j * 2, none⟩) (lt_of_cell e0')).trans e0'; have e1 := (hSw.cell (p := ⟨b4, o4 + j * 2 + 1, none⟩) (lt_of_cell e1')).trans e1'; go_simp⟩) hS0 ?_
                    try simp only [Act.put, List.setIfInBounds_toArray, List.set_cons_zero, List.set_cons_succ]
                    refine wpAnyH_take (i := 3) (oi := { dst := some 47, op := Go.Op.move (Go.Operand.tmp 46), type := 4, pos := "ref.go:115", after := #[{ on := 2, ground := Go.Ground.data }], guard := none }) (v := .bool false) rfl (by kernel_rfl) (by kernel_rfl) (by kernel_rfl) (fun _ _ _ h => h) (Or.inl ⟨by rfl, by intro w2 hSw; (try dsimp only at hSw); obtain ⟨c0, c1, c2, c3⟩ := (HK5.out.next hSw).c; have f0 := (hSw.cell (p := ⟨gx, e * 2, none⟩) (lt_of_cell f0')).trans f0'; have f1 := (hSw.cell (p := ⟨gx, e * 2 + 1, none⟩) (lt_of_cell f1')).trans f1'; have e0 := (hSw.cell (p := ⟨b4, o4 + j * 2, none⟩) (lt_of_cell e0')).trans e0'; have e1 := (hSw.cell (p := ⟨b4, o4 + j * 2 + 1, none⟩) (lt_of_cell e1')).trans e1'; go_simp⟩) hS0 ?_
                    try simp only [Act.put, List.setIfInBounds_toArray, List.set_cons_zero, List.set_cons_succ]
                    refine wpAnyH_take (i := 4) (oi := { dst := some 48, op := Go.Op.load 26 (Go.Operand.tmp 1), type := 26, pos := "ref.go:115", after := #[{ on := 3, ground := Go.Ground.guard }], guard := some (3, false) }) (v := .agg #[.slice A n cap, .int .i64 off, .int .i64 lo, .int .i64 hi]) rfl (by kernel_rfl) (by kernel_rfl) (by kernel_rfl) (fun _ _ _ h => h) (Or.inl ⟨by rfl, by intro w2 hSw; (try dsimp only at hSw); obtain ⟨c0, c1, c2, c3⟩ := (HK5.out.next hSw).c; have f0 := (hSw.cell (p := ⟨gx, e * 2, none⟩) (lt_of_cell f0')).trans f0'; have f1 := (hSw.cell (p := ⟨gx, e * 2 + 1, none⟩) (lt_of_cell f1')).trans f1'; have e0 := (hSw.cell (p := ⟨b4, o4 + j * 2, none⟩) (lt_of_cell e0')).trans e0'; have e1 := (hSw.cell (p := ⟨b4, o4 + j * 2 + 1, none⟩) (lt_of_cell e1')).trans e1'; go_simp⟩) hS0 ?_
                    try simp only [Act.put, List.setIfInBounds_toArray, List.set_cons_zero, List.set_cons_succ]
                    refine wpAnyH_take (i := 5) (oi := { dst := some 49, op := Go.Op.move (Go.Operand.tmp 7), type := 29, pos := "ref.go:115", after := #[{ on := 3, ground := Go.Ground.guard }], guard := some (3, false) }) (v := .slice (some ⟨gx, 0, none⟩) d capx) rfl (by kernel_rfl) (by kernel_rfl) (by kernel_rfl) (fun _ _ _ h => h) (Or.inl ⟨by rfl, by intro w2 hSw; (try dsimp only at hSw); obtain ⟨c0, c1, c2, c3⟩ := (HK5.out.next hSw).c; have f0 := (hSw.cell (p := ⟨gx, e * 2, none⟩) (lt_of_cell f0')).trans f0'; have f1 := (hSw.cell (p := ⟨gx, e * 2 + 1, none⟩) (lt_of_cell f1')).trans f1'; have e0 := (hSw.cell (p := ⟨b4, o4 + j * 2, none⟩) (lt_of_cell e0')).trans e0'; have e1 := (hSw.cell (p := ⟨b4, o4 + j * 2 + 1, none⟩) (lt_of_cell e1')).trans e1'; go_simp⟩) hS0 ?_
                    try simp only [Act.put, List.setIfInBounds_toArray, List.set_cons_zero, List.set_cons_succ]
                    refine wpAnyH_take (i := 6) (oi := { dst := some 50, op := Go.Op.move (Go.Operand.tmp 7), type := 29, pos := "ref.go:115", after := #[{ on := 3, ground := Go.Ground.guard }], guard := some (3, false) }) (v := .slice (some ⟨gx, 0, none⟩) d capx) rfl (by kernel_rfl) (by kernel_rfl) (by kernel_rfl) (fun _ _ _ h => h) (Or.inl ⟨by rfl, by intro w2 hSw; (try dsimp only at hSw); obtain ⟨c0, c1, c2, c3⟩ := (HK5.out.next hSw).c; have f0 := (hSw.cell (p := ⟨gx, e * 2, none⟩) (lt_of_cell f0')).trans f0'; have f1 := (hSw.cell (p := ⟨gx, e * 2 + 1, none⟩) (lt_of_cell f1')).trans f1'; have e0 := (hSw.cell (p := ⟨b4, o4 + j * 2, none⟩) (lt_of_cell e0')).trans e0'; have e1 := (hSw.cell (p := ⟨b4, o4 + j * 2 + 1, none⟩) (lt_of_cell e1')).trans e1'; go_simp⟩) hS0 ?_
                    try simp only [Act.put, List.setIfInBounds_toArray, List.set_cons_zero, List.set_cons_succ]
                    refine wpAnyH_take (i := 7) (oi := { dst := some 51, op := Go.Op.call { callee := Go.Callee.builtin Go.Builtin.len, args := #[Go.Operand.tmp 50], argTypes := #[29] }, type := 3, pos := "ref.go:115", after := #[{ on := 6, ground := Go.Ground.data }, { on := 3, ground := Go.Ground.guard }], guard := some (3, false) }) (v := .int .i64 (d : Int)) rfl (by kernel_rfl) (by kernel_rfl) (by kernel_rfl) (fun _ _ _ h => h) (Or.inl ⟨by rfl, by intro w2 hSw; (try dsimp only at hSw); obtain ⟨c0, c1, c2, c3⟩ := (HK5.out.next hSw).c; have f0 := (hSw.cell (p := ⟨gx, e * 2, none⟩) (lt_of_cell f0')).trans f0'; have f1 := (hSw.cell (p := ⟨gx, e * 2 + 1, none⟩) (lt_of_cell f1')).trans f1'; have e0 := (hSw.cell (p := ⟨b4, o4 + j * 2, none⟩) (lt_of_cell e0')).trans e0'; have e1 := (hSw.cell (p := ⟨b4, o4 + j * 2 + 1, none⟩) (lt_of_cell e1')).trans e1'; go_simp⟩) hS0 ?_
                    try simp only [Act.put, List.setIfInBounds_toArray, List.set_cons_zero, List.set_cons_succ]
                    refine wpAnyH_take (i := 8) (oi := { dst := some 52, op := Go.Op.binOp Go.BinOp.sub 3 (Go.Operand.tmp 51) (Go.Operand.const (Go.Value.int Go.IntKind.i64 1)) 3, type := 3, pos := "ref.go:115", after := #[{ on := 7, ground := Go.Ground.data }, { on := 3, ground := Go.Ground.guard }], guard := some (3, false) }) (v := .int .i64 (e : Int)) rfl (by kernel_rfl) (by kernel_rfl) (by kernel_rfl) (fun _ _ _ h => h) (Or.inl ⟨by rfl, by intro w2 hSw; (try dsimp only at hSw); obtain ⟨c0, c1, c2, c3⟩ := (HK5.out.next hSw).c; have f0 := (hSw.cell (p := ⟨gx, e * 2, none⟩) (lt_of_cell f0')).trans f0'; have f1 := (hSw.cell (p := ⟨gx, e * 2 + 1, none⟩) (lt_of_cell f1')).trans f1'; have e0 := (hSw.cell (p := ⟨b4, o4 + j * 2, none⟩) (lt_of_cell e0')).trans e0'; have e1 := (hSw.cell (p := ⟨b4, o4 + j * 2 + 1, none⟩) (lt_of_cell e1')).trans e1'; go_simp⟩) hS0 ?_
                    try simp only [Act.put, List.setIfInBounds_toArray, List.set_cons_zero, List.set_cons_succ]
                    refine wpAnyH_take (i := 9) (oi := { dst := some 53, op := Go.Op.indexAddr 29 (Go.Operand.tmp 49) (Go.Operand.tmp 52), type := 0, pos := "ref.go:115", after := #[{ on := 5, ground := Go.Ground.data }, { on := 8, ground := Go.Ground.data }, { on := 3, ground := Go.Ground.guard }], guard := some (3, false) }) (v := .pointer (some ⟨gx, e * 2, none⟩)) rfl (by kernel_rfl) (by kernel_rfl) (by kernel_rfl) (fun _ _ _ h => h) (Or.inl ⟨by rfl, by intro w2 hSw; (try dsimp only at hSw); obtain ⟨c0, c1, c2, c3⟩ := (HK5.out.next hSw).c; have f0 := (hSw.cell (p := ⟨gx, e * 2, none⟩) (lt_of_cell f0')).trans f0'; have f1 := (hSw.cell (p := ⟨gx, e * 2 + 1, none⟩) (lt_of_cell f1')).trans f1'; have e0 := (hSw.cell (p := ⟨b4, o4 + j * 2, none⟩) (lt_of_cell e0')).trans e0'; have e1 := (hSw.cell (p := ⟨b4, o4 + j * 2 + 1, none⟩) (lt_of_cell e1')).trans e1'; go_simp⟩) hS0 ?_
                    try simp only [Act.put, List.setIfInBounds_toArray, List.set_cons_zero, List.set_cons_succ]
                    refine wpAnyH_take (i := 10) (oi := { dst := some 54, op := Go.Op.load 28 (Go.Operand.tmp 53), type := 28, pos := "ref.go:115", after := #[{ on := 9, ground := Go.Ground.data }, { on := 3, ground := Go.Ground.guard }], guard := some (3, false) }) (v := .agg #[.int .i64 (lp : Int), .bool lt]) rfl (by kernel_rfl) (by kernel_rfl) (by kernel_rfl) (fun _ _ _ h => h) (Or.inl ⟨by rfl, by intro w2 hSw; (try dsimp only at hSw); obtain ⟨c0, c1, c2, c3⟩ := (HK5.out.next hSw).c; have f0 := (hSw.cell (p := ⟨gx, e * 2, none⟩) (lt_of_cell f0')).trans f0'; have f1 := (hSw.cell (p := ⟨gx, e * 2 + 1, none⟩) (lt_of_cell f1')).trans f1'; have e0 := (hSw.cell (p := ⟨b4, o4 + j * 2, none⟩) (lt_of_cell e0')).trans e0'; have e1 := (hSw.cell (p := ⟨b4, o4 + j * 2 + 1, none⟩) (lt_of_cell e1')).trans e1'; go_simp⟩) hS0 ?_
                    try simp only [Act.put, List.setIfInBounds_toArray, List.set_cons_zero, List.set_cons_succ]
                    refine wpAnyH_take (i := 11) (oi := { dst := some 55, op := Go.Op.move (Go.Operand.tmp 4), type := 29, pos := "ref.go:115", after := #[{ on := 3, ground := Go.Ground.guard }], guard := some (3, false) }) (v := .slice (some ⟨b4, o4, none⟩) m4 cp4) rfl (by kernel_rfl) (by kernel_rfl) (by kernel_rfl) (fun _ _ _ h => h) (Or.inl ⟨by rfl, by intro w2 hSw; (try dsimp only at hSw); obtain ⟨c0, c1, c2, c3⟩ := (HK5.out.next hSw).c; have f0 := (hSw.cell (p := ⟨gx, e * 2, none⟩) (lt_of_cell f0')).trans f0'; have f1 := (hSw.cell (p := ⟨gx, e * 2 + 1, none⟩) (lt_of_cell f1')).trans f1'; have e0 := (hSw.cell (p := ⟨b4, o4 + j * 2, none⟩) (lt_of_cell e0')).trans e0'; have e1 := (hSw.cell (p := ⟨b4, o4 + j * 2 + 1, none⟩) (lt_of_cell e1')).trans e1'; go_simp⟩) hS0 ?_
                    try simp only [Act.put, List.setIfInBounds_toArray, List.set_cons_zero, List.set_cons_succ]
                    refine wpAnyH_take (i := 12) (oi := { dst := some 56, op := Go.Op.move (Go.Operand.tmp 8), type := 3, pos := "ref.go:115", after := #[{ on := 3, ground := Go.Ground.guard }], guard := some (3, false) }) (v := .int .i64 (j : Int)) rfl (by kernel_rfl) (by kernel_rfl) (by kernel_rfl) (fun _ _ _ h => h) (Or.inl ⟨by rfl, by intro w2 hSw; (try dsimp only at hSw); obtain ⟨c0, c1, c2, c3⟩ := (HK5.out.next hSw).c; have f0 := (hSw.cell (p := ⟨gx, e * 2, none⟩) (lt_of_cell f0')).trans f0'; have f1 := (hSw.cell (p := ⟨gx, e * 2 + 1, none⟩) (lt_of_cell f1')).trans f1'; have e0 := (hSw.cell (p := ⟨b4, o4 + j * 2, none⟩) (lt_of_cell e0')).trans e0'; have e1 := (hSw.cell (p := ⟨b4, o4 + j * 2 + 1, none⟩) (lt_of_cell e1')).trans e1'; go_simp⟩) hS0 ?_
                    try simp only [Act.put, List.setIfInBounds_toArray, List.set_cons_zero, List.set_cons_succ]
                    refine wpAnyH_take (i := 13) (oi := { dst := some 57, op := Go.Op.indexAddr 29 (Go.Operand.tmp 55) (Go.Operand.tmp 56), type := 0, pos := "ref.go:115", after := #[{ on := 11, ground := Go.Ground.data }, { on := 12, ground := Go.Ground.data }, { on := 3, ground := Go.Ground.guard }], guard := some (3, false) }) (v := .pointer (some ⟨b4, o4 + j * 2, none⟩)) rfl (by kernel_rfl) (by kernel_rfl) (by kernel_rfl) (fun _ _ _ h => h) (Or.inl ⟨by rfl, by intro w2 hSw; (try dsimp only at hSw); obtain ⟨c0, c1, c2, c3⟩ := (HK5.out.next hSw).c; have f0 := (hSw.cell (p := ⟨gx, e * 2, none⟩) (lt_of_cell f0')).trans f0'; have f1 := (hSw.cell (p := ⟨gx, e * 2 + 1, none⟩) (lt_of_cell f1')).trans f1'; have e0 := (hSw.cell (p := ⟨b4, o4 + j * 2, none⟩) (lt_of_cell e0')).trans e0'; have e1 := (hSw.cell (p := ⟨b4, o4 + j * 2 + 1, none⟩) (lt_of_cell e1')).trans e1'; go_simp⟩) hS0 ?_
                    try simp only [Act.put, List.setIfInBounds_toArray, List.set_cons_zero, List.set_cons_succ]
                    refine wpAnyH_take (i := 14) (oi := { dst := some 58, op := Go.Op.load 28 (Go.Operand.tmp 57), type := 28, pos := "ref.go:115", after := #[{ on := 13, ground := Go.Ground.data }, { on := 3, ground := Go.Ground.guard }], guard := some (3, false) }) (v := .agg #[.int .i64 (sp : Int), .bool stt]) rfl (by kernel_rfl) (by kernel_rfl) (by kernel_rfl) (fun _ _ _ h => h) (Or.inl ⟨by rfl, by intro w2 hSw; (try dsimp only at hSw); obtain ⟨c0, c1, c2, c3⟩ := (HK5.out.next hSw).c; have f0 := (hSw.cell (p := ⟨gx, e * 2, none⟩) (lt_of_cell f0')).trans f0'; have f1 := (hSw.cell (p := ⟨gx, e * 2 + 1, none⟩) (lt_of_cell f1')).trans f1'; have e0 := (hSw.cell (p := ⟨b4, o4 + j * 2, none⟩) (lt_of_cell e0')).trans e0'; have e1 := (hSw.cell (p := ⟨b4, o4 + j * 2 + 1, none⟩) (lt_of_cell e1')).trans e1'; go_simp⟩) hS0 ?_
                    try simp only [Act.put, List.setIfInBounds_toArray, List.set_cons_zero, List.set_cons_succ]
                    refine wpAnyH_ready (rs := [15]) (by kernel_rfl) (by simp) ?_
                    refine AllReadyH.cons (o := { dst := some 59, op := Go.Op.call { callee := Go.Callee.value (Go.Operand.func 46), args := #[Go.Operand.tmp 48, Go.Operand.tmp 54, Go.Operand.tmp 58], argTypes := #[26, 28, 28] }, type := 4, pos := "ref.go:115", after := #[{ on := 4, ground := Go.Ground.data }, { on := 10, ground := Go.Ground.data }, { on := 14, ground := Go.Ground.data }, { on := 3, ground := Go.Ground.chain }, { on := 3, ground := Go.Ground.guard }], guard := some (3, false) }) rfl (fun K2 hK => ?_) AllReadyH.nil
                    go_simp
                    refine (fits46 A n cap lp sp off lo hi lt stt ps _ (HK5.out.next hS0).pcs hlen9 hsp9 He.out).mono ?_
                    rintro e9 w6 ⟨rfl, hb⟩
                    (try go_simp)
                    refine hK.out _ _ (hS0.trans (hb.mono hS0.size)) (fun hS1 => ?_)
                    clear hK K2
                    try simp only [Act.put, List.setIfInBounds_toArray, List.set_cons_zero, List.set_cons_succ]
                    refine wpAnyH_take (i := 16) (oi := { dst := some 60, op := Go.Op.pick (Go.Operand.tmp 47) (Go.Operand.const (Go.Value.bool true)) (Go.Operand.tmp 59), type := 4, pos := "ref.go:115", after := #[{ on := 3, ground := Go.Ground.data }, { on := 15, ground := Go.Ground.data }], guard := none }) (v := .bool (fitsB ⟨ps, off, ⟨lo, hi⟩⟩ ⟨(lp : Int), lt⟩ ⟨(sp : Int), stt⟩)) rfl (by kernel_rfl) (by kernel_rfl) (by kernel_rfl) (fun _ _ _ h => h) (Or.inl ⟨by rfl, by intro w2 hSw; (try dsimp only at hSw); obtain ⟨c0, c1, c2, c3⟩ := (HK5.out.next hSw).c; have f0 := (hSw.cell (p := ⟨gx, e * 2, none⟩) (lt_of_cell f0')).trans f0'; have f1 := (hSw.cell (p := ⟨gx, e * 2 + 1, none⟩) (lt_of_cell f1')).trans f1'; have e0 := (hSw.cell (p := ⟨b4, o4 + j * 2, none⟩) (lt_of_cell e0')).trans e0'; have e1 := (hSw.cell (p := ⟨b4, o4 + j * 2 + 1, none⟩) (lt_of_cell e1')).trans e1'; go_simp⟩) hS1 ?_
                    try simp only [Act.put, List.setIfInBounds_toArray, List.set_cons_zero, List.set_cons_succ]
                    refine wpAnyH_take (i := 17) (oi := { dst := some 9, op := Go.Op.assign (Go.Operand.tmp 60), type := 4, pos := "ref.go:115", after := #[{ on := 16, ground := Go.Ground.data }, { on := 15, ground := Go.Ground.chain }, { on := 0, ground := Go.Ground.phase }, { on := 1, ground := Go.Ground.phase }, { on := 2, ground := Go.Ground.phase }, { on := 3, ground := Go.Ground.phase }, { on := 4, ground := Go.Ground.phase }, { on := 5, ground := Go.Ground.phase }, { on := 6, ground := Go.Ground.phase }, { on := 7, ground := Go.Ground.phase }, { on := 8, ground := Go.Ground.phase }, { on := 9, ground := Go.Ground.phase }, { on := 10, ground := Go.Ground.phase }, { on := 11, ground := Go.Ground.phase }, { on := 12, ground := Go.Ground.phase }, { on := 13, ground := Go.Ground.phase }, { on := 14, ground := Go.Ground.phase }, { on := 15, ground := Go.Ground.phase }, { on := 16, ground := Go.Ground.phase }], guard := none }) (v := .bool (fitsB ⟨ps, off, ⟨lo, hi⟩⟩ ⟨(lp : Int), lt⟩ ⟨(sp : Int), stt⟩)) rfl (by kernel_rfl) (by kernel_rfl) (by kernel_rfl) (fun _ _ _ h => h) (Or.inl ⟨by rfl, by intro w2 hSw; (try dsimp only at hSw); obtain ⟨c0, c1, c2, c3⟩ := (HK5.out.next hSw).c; have f0 := (hSw.cell (p := ⟨gx, e * 2, none⟩) (lt_of_cell f0')).trans f0'; have f1 := (hSw.cell (p := ⟨gx, e * 2 + 1, none⟩) (lt_of_cell f1')).trans f1'; have e0 := (hSw.cell (p := ⟨b4, o4 + j * 2, none⟩) (lt_of_cell e0')).trans e0'; have e1 := (hSw.cell (p := ⟨b4, o4 + j * 2 + 1, none⟩) (lt_of_cell e1')).trans e1'; go_simp⟩) hS1 ?_
                    try simp only [Act.put, List.setIfInBounds_toArray, List.set_cons_zero, List.set_cons_succ]
                    refine wpAnyH_done (by kernel_rfl) ?_ _
                    clear p1 p2 p3 p4 p5 i4 i5 f0' f1' e0' e1' c0 c1 c2 c3
                    go_wp2_with fail
                    go_meet
                    case rel => exact ⟨by rw [Hft.out], hS1⟩
                case rest =>
                  obtain ⟨rfl, hB5⟩ := hcut
                  have HN5 := Lib.hid (HN.out.below hB5)
                  have HB5 := Lib.hid (HB3.out.trans (hB5.mono HB3.out.size))
                  clear hB5 HN HB3
                  go_wp2_with fail
                  go_loopw [9, 10] (fun v i w6 => ∃ r : Nat, i = .int .i64 (r : Int) ∧ r ≤ d ∧ v = .bool (fit0 ⟨ps, off, ⟨lo, hi⟩⟩ l s && allN l s r) ∧ OwnL w6 u5 (P ++ partL ⟨ps, off, ⟨lo, hi⟩⟩ l j) ∧ Below Wl.heap.size Wl w6) (fun _ i _ => d - (intOf i).toNat)
                  case atStart => exact ⟨0, by rfl, Nat.zero_le _, by simp [allN], HN5.out, HB5.out⟩
                  case round =>
                    clear HN5 HB5
                    obtain ⟨r, rfl, hr, rfl, hN6, hB6⟩ := hrel
                    obtain ⟨Wr, rfl⟩ : ∃ Wr, Wr = wr := ⟨_, rfl⟩
                    have HN6 := Lib.hid hN6
                    have HB6 := Lib.hid hB6
                    clear hN6 hB6
                    by_cases hlr : r < d
                    · have hrl : r < l.length := by rw [Hll.out]; exact hlr
                      obtain ⟨bx, ox, ex, hcx⟩ := HSx.out.2 (by omega)
                      obtain ⟨rfl, rfl⟩ : gx = bx ∧ 0 = ox := by cases ex; exact ⟨rfl, rfl⟩
                      obtain ⟨f0, f1⟩ := hcx r hlr
                      have hgxl := lt_of_cell f0
                      rw [sAt_map hrl, Nat.zero_add] at f0
                      have hB6 := HB6.out
                      have f0' : Wr.cell? ⟨gx, r * 2, none⟩ = _ := (hB6.cell (p := ⟨gx, r * 2, none⟩) hgxl).trans f0
                      have hW6 := HBl.out.trans (hB6.mono HBl.out.size)
                      have e0' : Wr.cell? ⟨b4, o4 + j * 2, none⟩ = _ := (hW6.cell (p := ⟨b4, o4 + j * 2, none⟩) Hb4.out).trans Hc4.out.1
                      have han := allN_succ (s := s) hrl
                      unfold stC at f0' e0'
                      simp only at f0' e0'
                      obtain ⟨lr, hlr2⟩ : ∃ lr, l[r] / 2 = lr := ⟨_, rfl⟩
                      obtain ⟨sp, hsp2⟩ : ∃ sp, s / 2 = sp := ⟨_, rfl⟩
                      rw [hlr2] at f0' han
                      rw [hsp2] at e0' han
                      obtain ⟨gv, hgv⟩ : ∃ gv, (fit0 ⟨ps, off, ⟨lo, hi⟩⟩ l s && allN l s r) = gv := ⟨_, rfl⟩
                      have hnx : (fit0 ⟨ps, off, ⟨lo, hi⟩⟩ l s && allN l s (r + 1)) = (gv && decide (lr ≠ sp)) := by rw [han, ← Bool.and_assoc, hgv]
                      rw [hgv]
                      have Hnx := Lib.hid hnx
                      have i2 : (0 : Int) ≤ (r : Int) := by omega
                      have i3 : (r : Int) < (d : Int) := by omega
                      have i4 : (0 : Int) ≤ (j : Int) := by omega
                      have i5 : (j : Int) < (m4 : Int) := by omega
                      clear hcx ex f0 f1 han hlr2 hsp2 hgv hnx hrl hW6 hB6
                      cases gv with
                      | false =>
                        have Hv := Lib.hid (show (fit0 ⟨ps, off, ⟨lo, hi⟩⟩ l s && allN l s (r + 1)) = false from by rw [Hnx.out, Bool.false_and])
                        go_wp2_with fail
                        refine wp_region_held_drew (S := fun w2 => Below Wr.heap.size Wr w2) (by kernel_rfl) (drew_b _ _) (fun hS0 => ?_)
                        refine wpAnyH_take (i := 0) (oi := { dst := some 67, op := Go.Op.move (Go.Operand.tmp 9), type := 4, pos := "ref.go:117", after := #[], guard := none }) (v := .bool false) rfl (by kernel_rfl) (by kernel_rfl) (by kernel_rfl) (fun _ _ _ h => h) (Or.inl ⟨by rfl, by intro w2 hSw; (try dsimp only at hSw); have f0 := (hSw.cell (p := ⟨gx, r * 2, none⟩) (lt_of_cell f0')).trans f0'; have e0 := (hSw.cell (p := ⟨b4, o4 + j * 2, none⟩) (lt_of_cell e0')).trans e0'; go_simp⟩) hS0 ?_
                        try simp only [Act.put, List.setIfInBounds_toArray, List.set_cons_zero, List.set_cons_succ]
                        refine wpAnyH_take (i := 1) (oi := { dst := some 68, op := Go.Op.move (Go.Operand.tmp 67), type := 4, pos := "ref.go:117", after := #[{ on := 0, ground := Go.Ground.data }], guard := none }) (v := .bool false) rfl (by kernel_rfl) (by kernel_rfl) (by kernel_rfl) (fun _ _ _ h => h) (Or.inl ⟨by rfl, by intro w2 hSw; (try dsimp only at hSw); have f0 := (hSw.cell (p := ⟨gx, r * 2, none⟩) (lt_of_cell f0')).trans f0'; have e0 := (hSw.cell (p := ⟨b4, o4 + j * 2, none⟩) (lt_of_cell e0')).trans e0'; go_simp⟩) hS0 ?_
                        try simp only [Act.put, List.setIfInBounds_toArray, List.set_cons_zero, List.set_cons_succ]
                        refine wpAnyH_take (i := 2) (oi := { dst := some 69, op := Go.Op.move (Go.Operand.tmp 7), type := 29, pos := "ref.go:117", after := #[{ on := 1, ground := Go.Ground.guard }], guard := some (1, true) }) (v := undef) rfl (by kernel_rfl) (by kernel_rfl) (by kernel_rfl) (fun _ _ _ h => h) (Or.inr ⟨by rfl, rfl⟩) hS0 ?_
                        try simp only [Act.put, List.setIfInBounds_toArray, List.set_cons_zero, List.set_cons_succ]
                        refine wpAnyH_take (i := 3) (oi := { dst := some 70, op := Go.Op.move (Go.Operand.tmp 10), type := 3, pos := "ref.go:117", after := #[{ on := 1, ground := Go.Ground.guard }], guard := some (1, true) }) (v := undef) rfl (by kernel_rfl) (by kernel_rfl) (by kernel_rfl) (fun _ _ _ h => h) (Or.inr ⟨by rfl, rfl⟩) hS0 ?_
                        try simp only [Act.put, List.setIfInBounds_toArray, List.set_cons_zero, List.set_cons_succ]
                        refine wpAnyH_take (i := 4) (oi := { dst := some 71, op := Go.Op.indexAddr 29 (Go.Operand.tmp 69) (Go.Operand.tmp 70), type := 0, pos := "ref.go:117", after := #[{ on := 2, ground := Go.Ground.data }, { on := 3, ground := Go.Ground.data }, { on := 1, ground := Go.Ground.guard }], guard := some (1, true) }) (v := undef) rfl (by kernel_rfl) (by kernel_rfl) (by kernel_rfl) (fun _ _ _ h => h) (Or.inr ⟨by rfl, rfl⟩) hS0 ?_
                        try simp only [Act.put, List.setIfInBounds_toArray, List.set_cons_zero, List.set_cons_succ]
                        refine wpAnyH_take (i := 5) (oi := { dst := some 72, op := Go.Op.fieldAddr 28 (Go.Operand.tmp 71) 0, type := 0, pos := "ref.go:117", after := #[{ on := 4, ground := Go.Ground.data }, { on := 1, ground := Go.Ground.guard }], guard := some (1, true) }) (v := undef) rfl (by kernel_rfl) (by kernel_rfl) (by kernel_rfl) (fun _ _ _ h => h) (Or.inr ⟨by rfl, rfl⟩) hS0 ?_
                        try simp only [Act.put, List.setIfInBounds_toArray, List.set_cons_zero, List.set_cons_succ]
                        refine wpAnyH_take (i := 6) (oi := { dst := some 73, op := Go.Op.load 3 (Go.Operand.tmp 72), type := 3, pos := "ref.go:117", after := #[{ on := 5, ground := Go.Ground.data }, { on := 1, ground := Go.Ground.guard }], guard := some (1, true) }) (v := undef) rfl (by kernel_rfl) (by kernel_rfl) (by kernel_rfl) (fun _ _ _ h => h) (Or.inr ⟨by rfl, rfl⟩) hS0 ?_
                        try simp only [Act.put, List.setIfInBounds_toArray, List.set_cons_zero, List.set_cons_succ]
                        refine wpAnyH_take (i := 7) (oi := { dst := some 74, op := Go.Op.move (Go.Operand.tmp 4), type := 29, pos := "ref.go:117", after := #[{ on := 1, ground := Go.Ground.guard }], guard := some (1, true) }) (v := undef) rfl (by kernel_rfl) (by kernel_rfl) (by kernel_rfl) (fun _ _ _ h => h) (Or.inr ⟨by rfl, rfl⟩) hS0 ?_
                        try simp only [Act.put, List.setIfInBounds_toArray, List.set_cons_zero, List.set_cons_succ]
                        refine wpAnyH_take (i := 8) (oi := { dst := some 75, op := Go.Op.move (Go.Operand.tmp 8), type := 3, pos := "ref.go:117", after := #[{ on := 1, ground := Go.Ground.guard }], guard := some (1, true) }) (v := undef) rfl (by kernel_rfl) (by kernel_rfl) (by kernel_rfl) (fun _ _ _ h => h) (Or.inr ⟨by rfl, rfl⟩) hS0 ?_
                        try simp only [Act.put, List.setIfInBounds_toArray, List.set_cons_zero, List.set_cons_succ]
                        refine wpAnyH_take (i := 9) (oi := { dst := some 76, op := Go.Op.indexAddr 29 (Go.Operand.tmp 74) (Go.Operand.tmp 75), type := 0, pos := "ref.go:117", after := #[{ on := 7, ground := Go.Ground.data }, { on := 8, ground := Go.Ground.data }, { on := 1, ground := Go.Ground.guard }], guard := some (1, true) }) (v := undef) rfl (by kernel_rfl) (by kernel_rfl) (by kernel_rfl) (fun _ _ _ h => h) (Or.inr ⟨by rfl, rfl⟩) hS0 ?_
                        try simp only [Act.put, List.setIfInBounds_toArray, List.set_cons_zero, List.set_cons_succ]
                        refine wpAnyH_take (i := 10) (oi := { dst := some 77, op := Go.Op.fieldAddr 28 (Go.Operand.tmp 76) 0, type := 0, pos := "ref.go:117", after := #[{ on := 9, ground := Go.Ground.data }, { on := 1, ground := Go.Ground.guard }], guard := some (1, true) }) (v := undef) rfl (by kernel_rfl) (by kernel_rfl) (by kernel_rfl) (fun _ _ _ h => h) (Or.inr ⟨by rfl, rfl⟩) hS0 ?_
                        try simp only [Act.put, List.setIfInBounds_toArray, List.set_cons_zero, List.set_cons_succ]
                        refine wpAnyH_take (i := 11) (oi := { dst := some 78, op := Go.Op.load 3 (Go.Operand.tmp 77), type := 3, pos := "ref.go:117", after := #[{ on := 10, ground := Go.Ground.data }, { on := 1, ground := Go.Ground.guard }], guard := some (1, true) }) (v := undef) rfl (by kernel_rfl) (by kernel_rfl) (by kernel_rfl) (fun _ _ _ h => h) (Or.inr ⟨by rfl, rfl⟩) hS0 ?_
                        try simp only [Act.put, List.setIfInBounds_toArray, List.set_cons_zero, List.set_cons_succ]
                        refine wpAnyH_take (i := 12) (oi := { dst := some 79, op := Go.Op.binOp Go.BinOp.neq 3 (Go.Operand.tmp 73) (Go.Operand.tmp 78) 3, type := 4, pos := "ref.go:117", after := #[{ on := 6, ground := Go.Ground.data }, { on := 11, ground := Go.Ground.data }, { on := 1, ground := Go.Ground.guard }], guard := some (1, true) }) (v := undef) rfl (by kernel_rfl) (by kernel_rfl) (by kernel_rfl) (fun _ _ _ h => h) (Or.inr ⟨by rfl, rfl⟩) hS0 ?_
                        try simp only [Act.put, List.setIfInBounds_toArray, List.set_cons_zero, List.set_cons_succ]
                        refine wpAnyH_take (i := 13) (oi := { dst := some 80, op := Go.Op.pick (Go.Operand.tmp 68) (Go.Operand.tmp 79) (Go.Operand.const (Go.Value.bool false)), type := 4, pos := "ref.go:117", after := #[{ on := 1, ground := Go.Ground.data }, { on := 12, ground := Go.Ground.data }], guard := none }) (v := .bool false) rfl (by kernel_rfl) (by kernel_rfl) (by kernel_rfl) (fun _ _ _ h => h) (Or.inl ⟨by rfl, by intro w2 hSw; (try dsimp only at hSw); have f0 := (hSw.cell (p := ⟨gx, r * 2, none⟩) (lt_of_cell f0')).trans f0'; have e0 := (hSw.cell (p := ⟨b4, o4 + j * 2, none⟩) (lt_of_cell e0')).trans e0'; go_simp⟩) hS0 ?_
                        try simp only [Act.put, List.setIfInBounds_toArray, List.set_cons_zero, List.set_cons_succ]
                        refine wpAnyH_take (i := 14) (oi := { dst := some 9, op := Go.Op.assign (Go.Operand.tmp 80), type := 4, pos := "ref.go:117", after := #[{ on := 13, ground := Go.Ground.data }, { on := 1, ground := Go.Ground.chain }, { on := 0, ground := Go.Ground.phase }, { on := 1, ground := Go.Ground.phase }, { on := 2, ground := Go.Ground.phase }, { on := 3, ground := Go.Ground.phase }, { on := 4, ground := Go.Ground.phase }, { on := 5, ground := Go.Ground.phase }, { on := 6, ground := Go.Ground.phase }, { on := 7, ground := Go.Ground.phase }, { on := 8, ground := Go.Ground.phase }, { on := 9, ground := Go.Ground.phase }, { on := 10, ground := Go.Ground.phase }, { on := 11, ground := Go.Ground.phase }, { on := 12, ground := Go.Ground.phase }, { on := 13, ground := Go.Ground.phase }], guard := none }) (v := .bool false) rfl (by kernel_rfl) (by kernel_rfl) (by kernel_rfl) (fun _ _ _ h => h) (Or.inl ⟨by rfl, by intro w2 hSw; (try dsimp only at hSw); have f0 := (hSw.cell (p := ⟨gx, r * 2, none⟩) (lt_of_cell f0')).trans f0'; have e0 := (hSw.cell (p := ⟨b4, o4 + j * 2, none⟩) (lt_of_cell e0')).trans e0'; go_simp⟩) hS0 ?_
                        try simp only [Act.put, List.setIfInBounds_toArray, List.set_cons_zero, List.set_cons_succ]
                        refine wpAnyH_done (by kernel_rfl) ?_ _
                        have HN7 := Lib.hid (HN6.out.below hS0)
                        have HB7 := Lib.hid (HB6.out.trans (hS0.mono HB6.out.size))
                        clear hS0 f0' e0' i2 i3 i4 i5
                        go_wp2_with fail
                        go_roundw
                        case rel => exact ⟨r + 1, by go_num, by omega, by rw [Hv.out], HN7.out, HB7.out⟩
                        case measure => simp [intOf]; omega
                      | true =>
                        by_cases hne : lr = sp
                        · subst hne
                          have Hv := Lib.hid (show (fit0 ⟨ps, off, ⟨lo, hi⟩⟩ l s && allN l s (r + 1)) = false from by rw [Hnx.out]; simp)
                          go_wp2_with fail
                          refine wp_region_held_drew (S := fun w2 => Below Wr.heap.size Wr w2) (by kernel_rfl) (drew_b _ _) (fun hS0 => ?_)
                          refine wpAnyH_take (i := 0) (oi := { dst := some 67, op := Go.Op.move (Go.Operand.tmp 9), type := 4, pos := "ref.go:117", after := #[], guard := none }) (v := .bool true) rfl (by kernel_rfl) (by kernel_rfl) (by kernel_rfl) (fun _ _ _ h => h) (Or.inl ⟨by rfl, by intro w2 hSw; (try dsimp only at hSw); have f0 := (hSw.cell (p := ⟨gx, r * 2, none⟩) (lt_of_cell f0')).trans f0'; have e0 := (hSw.cell (p := ⟨b4, o4 + j * 2, none⟩) (lt_of_cell e0')).trans e0'; go_simp⟩) hS0 ?_
                          try simp only [Act.put, List.setIfInBounds_toArray, List.set_cons_zero, List.set_cons_succ]
                          refine wpAnyH_take (i := 1) (oi := { dst := some 68, op := Go.Op.move (Go.Operand.tmp 67), type := 4, pos := "ref.go:117", after := #[{ on := 0, ground := Go.Ground.data }], guard := none }) (v := .bool true) rfl (by kernel_rfl) (by kernel_rfl) (by kernel_rfl) (fun _ _ _ h => h) (Or.inl ⟨by rfl, by intro w2 hSw; (try dsimp only at hSw); have f0 := (hSw.cell (p := ⟨gx, r * 2, none⟩) (lt_of_cell f0')).trans f0'; have e0 := (hSw.cell (p := ⟨b4, o4 + j * 2, none⟩) (lt_of_cell e0')).trans e0'; go_simp⟩) hS0 ?_
                          try simp only [Act.put, List.setIfInBounds_toArray, List.set_cons_zero, List.set_cons_succ]
                          refine wpAnyH_take (i := 2) (oi := { dst := some 69, op := Go.Op.move (Go.Operand.tmp 7), type := 29, pos := "ref.go:117", after := #[{ on := 1, ground := Go.Ground.guard }], guard := some (1, true) }) (v := .slice (some ⟨gx, 0, none⟩) d capx) rfl (by kernel_rfl) (by kernel_rfl) (by kernel_rfl) (fun _ _ _ h => h) (Or.inl ⟨by rfl, by intro w2 hSw; (try dsimp only at hSw); have f0 := (hSw.cell (p := ⟨gx, r * 2, none⟩) (lt_of_cell f0')).trans f0'; have e0 := (hSw.cell (p := ⟨b4, o4 + j * 2, none⟩) (lt_of_cell e0')).trans e0'; go_simp⟩) hS0 ?_
                          try simp only [Act.put, List.setIfInBounds_toArray, List.set_cons_zero, List.set_cons_succ]
                          refine wpAnyH_take (i := 3) (oi := { dst := some 70, op := Go.Op.move (Go.Operand.tmp 10), type := 3, pos := "ref.go:117", after := #[{ on := 1, ground := Go.Ground.guard }], guard := some (1, true) }) (v := .int .i64 (r : Int)) rfl (by kernel_rfl) (by kernel_rfl) (by kernel_rfl) (fun _ _ _ h => h) (Or.inl ⟨by rfl, by intro w2 hSw; (try dsimp only at hSw); have f0 := (hSw.cell (p := ⟨gx, r * 2, none⟩) (lt_of_cell f0')).trans f0'; have e0 := (hSw.cell (p := ⟨b4, o4 + j * 2, none⟩) (lt_of_cell e0')).trans e0'; go_simp⟩) hS0 ?_
                          try simp only [Act.put, List.setIfInBounds_toArray, List.set_cons_zero, List.set_cons_succ]
                          refine wpAnyH_take (i := 4) (oi := { dst := some 71, op := Go.Op.indexAddr 29 (Go.Operand.tmp 69) (Go.Operand.tmp 70), type := 0, pos := "ref.go:117", after := #[{ on := 2, ground := Go.Ground.data }, { on := 3, ground := Go.Ground.data }, { on := 1, ground := Go.Ground.guard }], guard := some (1, true) }) (v := .pointer (some ⟨gx, r * 2, none⟩)) rfl (by kernel_rfl) (by kernel_rfl) (by kernel_rfl) (fun _ _ _ h => h) (Or.inl ⟨by rfl, by intro w2 hSw; (try dsimp only at hSw); have f0 := (hSw.cell (p := ⟨gx, r * 2, none⟩) (lt_of_cell f0')).trans f0'; have e0 := (hSw.cell (p := ⟨b4, o4 + j * 2, none⟩) (lt_of_cell e0')).trans e0'; go_simp⟩) hS0 ?_
                          try simp only [Act.put, List.setIfInBounds_toArray, List.set_cons_zero, List.set_cons_succ]
                          refine wpAnyH_take (i := 5) (oi := { dst := some 72, op := Go.Op.fieldAddr 28 (Go.Operand.tmp 71) 0, type := 0, pos := "ref.go:117", after := #[{ on := 4, ground := Go.Ground.data }, { on := 1, ground := Go.Ground.guard }], guard := some (1, true) }) (v := .pointer (some ⟨gx, r * 2, none⟩)) rfl (by kernel_rfl) (by kernel_rfl) (by kernel_rfl) (fun _ _ _ h => h) (Or.inl ⟨by rfl, by intro w2 hSw; (try dsimp only at hSw); have f0 := (hSw.cell (p := ⟨gx, r * 2, none⟩) (lt_of_cell f0')).trans f0'; have e0 := (hSw.cell (p := ⟨b4, o4 + j * 2, none⟩) (lt_of_cell e0')).trans e0'; go_simp⟩) hS0 ?_
                          try simp only [Act.put, List.setIfInBounds_toArray, List.set_cons_zero, List.set_cons_succ]
                          refine wpAnyH_take (i := 6) (oi := { dst := some 73, op := Go.Op.load 3 (Go.Operand.tmp 72), type := 3, pos := "ref.go:117", after := #[{ on := 5, ground := Go.Ground.data }, { on := 1, ground := Go.Ground.guard }], guard := some (1, true) }) (v := .int .i64 (lr : Int)) rfl (by kernel_rfl) (by kernel_rfl) (by kernel_rfl) (fun _ _ _ h => h) (Or.inl ⟨by rfl, by intro w2 hSw; (try dsimp only at hSw); have f0 := (hSw.cell (p := ⟨gx, r * 2, none⟩) (lt_of_cell f0')).trans f0'; have e0 := (hSw.cell (p := ⟨b4, o4 + j * 2, none⟩) (lt_of_cell e0')).trans e0'; go_simp⟩) hS0 ?_
                          try simp only [Act.put, List.setIfInBounds_toArray, List.set_cons_zero, List.set_cons_succ]
                          refine wpAnyH_take (i := 7) (oi := { dst := some 74, op := Go.Op.move (Go.Operand.tmp 4), type := 29, pos := "ref.go:117", after := #[{ on := 1, ground := Go.Ground.guard }], guard := some (1, true) }) (v := .slice (some ⟨b4, o4, none⟩) m4 cp4) rfl (by kernel_rfl) (by kernel_rfl) (by kernel_rfl) (fun _ _ _ h => h) (Or.inl ⟨by rfl, by intro w2 hSw; (try dsimp only at hSw); have f0 := (hSw.cell (p := ⟨gx, r * 2, none⟩) (lt_of_cell f0')).trans f0'; have e0 := (hSw.cell (p := ⟨b4, o4 + j * 2, none⟩) (lt_of_cell e0')).trans e0'; go_simp⟩) hS0 ?_
                          try simp only [Act.put, List.setIfInBounds_toArray, List.set_cons_zero, List.set_cons_succ]
                          refine wpAnyH_take (i := 8) (oi := { dst := some 75, op := Go.Op.move (Go.Operand.tmp 8), type := 3, pos := "ref.go:117", after := #[{ on := 1, ground := Go.Ground.guard }], guard := some (1, true) }) (v := .int .i64 (j : Int)) rfl (by kernel_rfl) (by kernel_rfl) (by kernel_rfl) (fun _ _ _ h => h) (Or.inl ⟨by rfl, by intro w2 hSw; (try dsimp only at hSw); have f0 := (hSw.cell (p := ⟨gx, r * 2, none⟩) (lt_of_cell f0')).trans f0'; have e0 := (hSw.cell (p := ⟨b4, o4 + j * 2, none⟩) (lt_of_cell e0')).trans e0'; go_simp⟩) hS0 ?_
                          try simp only [Act.put, List.setIfInBounds_toArray, List.set_cons_zero, List.set_cons_succ]
                          refine wpAnyH_take (i := 9) (oi := { dst := some 76, op := Go.Op.indexAddr 29 (Go.Operand.tmp 74) (Go.Operand.tmp 75), type := 0, pos := "ref.go:117", after := #[{ on := 7, ground := Go.Ground.data }, { on := 8, ground := Go.Ground.data }, { on := 1, ground := Go.Ground.guard }], guard := some (1, true) }) (v := .pointer (some ⟨b4, o4 + j * 2, none⟩)) rfl (by kernel_rfl) (by kernel_rfl) (by kernel_rfl) (fun _ _ _ h => h) (Or.inl ⟨by rfl, by intro w2 hSw; (try dsimp only at hSw); have f0 := (hSw.cell (p := ⟨gx, r * 2, none⟩) (lt_of_cell f0')).trans f0'; have e0 := (hSw.cell (p := ⟨b4, o4 + j * 2, none⟩) (lt_of_cell e0')).trans e0'; go_simp⟩) hS0 ?_
                          try simp only [Act.put, List.setIfInBounds_toArray, List.set_cons_zero, List.set_cons_succ]
                          refine wpAnyH_take (i := 10) (oi := { dst := some 77, op := Go.Op.fieldAddr 28 (Go.Operand.tmp 76) 0, type := 0, pos := "ref.go:117", after := #[{ on := 9, ground := Go.Ground.data }, { on := 1, ground := Go.Ground.guard }], guard := some (1, true) }) (v := .pointer (some ⟨b4, o4 + j * 2, none⟩)) rfl (by kernel_rfl) (by kernel_rfl) (by kernel_rfl) (fun _ _ _ h => h) (Or.inl ⟨by rfl, by intro w2 hSw; (try dsimp only at hSw); have f0 := (hSw.cell (p := ⟨gx, r * 2, none⟩) (lt_of_cell f0')).trans f0'; have e0 := (hSw.cell (p := ⟨b4, o4 + j * 2, none⟩) (lt_of_cell e0')).trans e0'; go_simp⟩) hS0 ?_
                          try simp only [Act.put, List.setIfInBounds_toArray, List.set_cons_zero, List.set_cons_succ]
                          refine wpAnyH_take (i := 11) (oi := { dst := some 78, op := Go.Op.load 3 (Go.Operand.tmp 77), type := 3, pos := "ref.go:117", after := #[{ on := 10, ground := Go.Ground.data }, { on := 1, ground := Go.Ground.guard }], guard := some (1, true) }) (v := .int .i64 (lr : Int)) rfl (by kernel_rfl) (by kernel_rfl) (by kernel_rfl) (fun _ _ _ h => h) (Or.inl ⟨by rfl, by intro w2 hSw; (try dsimp only at hSw); have f0 := (hSw.cell (p := ⟨gx, r * 2, none⟩) (lt_of_cell f0')).trans f0'; have e0 := (hSw.cell (p := ⟨b4, o4 + j * 2, none⟩) (lt_of_cell e0')).trans e0'; go_simp⟩) hS0 ?_
                          try simp only [Act.put, List.setIfInBounds_toArray, List.set_cons_zero, List.set_cons_succ]
                          refine wpAnyH_take (i := 12) (oi := { dst := some 79, op := Go.Op.binOp Go.BinOp.neq 3 (Go.Operand.tmp 73) (Go.Operand.tmp 78) 3, type := 4, pos := "ref.go:117", after := #[{ on := 6, ground := Go.Ground.data }, { on := 11, ground := Go.Ground.data }, { on := 1, ground := Go.Ground.guard }], guard := some (1, true) }) (v := .bool false) rfl (by kernel_rfl) (by kernel_rfl) (by kernel_rfl) (fun _ _ _ h => h) (Or.inl ⟨by rfl, by intro w2 hSw; (try dsimp only at hSw); have f0 := (hSw.cell (p := ⟨gx, r * 2, none⟩) (lt_of_cell f0')).trans f0'; have e0 := (hSw.cell (p := ⟨b4, o4 + j * 2, none⟩) (lt_of_cell e0')).trans e0'; go_simp⟩) hS0 ?_
                          try simp only [Act.put, List.setIfInBounds_toArray, List.set_cons_zero, List.set_cons_succ]
                          refine wpAnyH_take (i := 13) (oi := { dst := some 80, op := Go.Op.pick (Go.Operand.tmp 68) (Go.Operand.tmp 79) (Go.Operand.const (Go.Value.bool false)), type := 4, pos := "ref.go:117", after := #[{ on := 1, ground := Go.Ground.data }, { on := 12, ground := Go.Ground.data }], guard := none }) (v := .bool false) rfl (by kernel_rfl) (by kernel_rfl) (by kernel_rfl) (fun _ _ _ h => h) (Or.inl ⟨by rfl, by intro w2 hSw; (try dsimp only at hSw); have f0 := (hSw.cell (p := ⟨gx, r * 2, none⟩) (lt_of_cell f0')).trans f0'; have e0 := (hSw.cell (p := ⟨b4, o4 + j * 2, none⟩) (lt_of_cell e0')).trans e0'; go_simp⟩) hS0 ?_
                          try simp only [Act.put, List.setIfInBounds_toArray, List.set_cons_zero, List.set_cons_succ]
                          refine wpAnyH_take (i := 14) (oi := { dst := some 9, op := Go.Op.assign (Go.Operand.tmp 80), type := 4, pos := "ref.go:117", after := #[{ on := 13, ground := Go.Ground.data }, { on := 1, ground := Go.Ground.chain }, { on := 0, ground := Go.Ground.phase }, { on := 1, ground := Go.Ground.phase }, { on := 2, ground := Go.Ground.phase }, { on := 3, ground := Go.Ground.phase }, { on := 4, ground := Go.Ground.phase }, { on := 5, ground := Go.Ground.phase }, { on := 6, ground := Go.Ground.phase }, { on := 7, ground := Go.Ground.phase }, { on := 8, ground := Go.Ground.phase }, { on := 9, ground := Go.Ground.phase }, { on := 10, ground := Go.Ground.phase }, { on := 11, ground := Go.Ground.phase }, { on := 12, ground := Go.Ground.phase }, { on := 13, ground := Go.Ground.phase }], guard := none }) (v := .bool false) rfl (by kernel_rfl) (by kernel_rfl) (by kernel_rfl) (fun _ _ _ h => h) (Or.inl ⟨by rfl, by intro w2 hSw; (try dsimp only at hSw); have f0 := (hSw.cell (p := ⟨gx, r * 2, none⟩) (lt_of_cell f0')).trans f0'; have e0 := (hSw.cell (p := ⟨b4, o4 + j * 2, none⟩) (lt_of_cell e0')).trans e0'; go_simp⟩) hS0 ?_
                          try simp only [Act.put, List.setIfInBounds_toArray, List.set_cons_zero, List.set_cons_succ]
                          refine wpAnyH_done (by kernel_rfl) ?_ _
                          have HN7 := Lib.hid (HN6.out.below hS0)
                          have HB7 := Lib.hid (HB6.out.trans (hS0.mono HB6.out.size))
                          clear hS0 f0' e0' i2 i3 i4 i5
                          go_wp2_with fail
                          go_roundw
                          case rel => exact ⟨r + 1, by go_num, by omega, by rw [Hv.out], HN7.out, HB7.out⟩
                          case measure => simp [intOf]; omega
                        · have Hv := Lib.hid (show (fit0 ⟨ps, off, ⟨lo, hi⟩⟩ l s && allN l s (r + 1)) = true from by rw [Hnx.out]; simpa using hne)
                          have hd1 : ((lr : Int) != (sp : Int)) = true := by rw [bne_iff_ne]; omega
                          have hd2 : ¬ (lr : Int) = (sp : Int) := by omega
                          go_wp2_with fail
                          refine wp_region_held_drew (S := fun w2 => Below Wr.heap.size Wr w2) (by kernel_rfl) (drew_b _ _) (fun hS0 => ?_)
                          refine wpAnyH_take (i := 0) (oi := { dst := some 67, op := Go.Op.move (Go.Operand.tmp 9), type := 4, pos := "ref.go:117", after := #[], guard := none }) (v := .bool true) rfl (by kernel_rfl) (by kernel_rfl) (by kernel_rfl) (fun _ _ _ h => h) (Or.inl ⟨by rfl, by intro w2 hSw; (try dsimp only at hSw); have f0 := (hSw.cell (p := ⟨gx, r * 2, none⟩) (lt_of_cell f0')).trans f0'; have e0 := (hSw.cell (p := ⟨b4, o4 + j * 2, none⟩) (lt_of_cell e0')).trans e0'; go_simp⟩) hS0 ?_
                          try simp only [Act.put, List.setIfInBounds_toArray, List.set_cons_zero, List.set_cons_succ]
                          refine wpAnyH_take (i := 1) (oi := { dst := some 68, op := Go.Op.move (Go.Operand.tmp 67), type := 4, pos := "ref.go:117", after := #[{ on := 0, ground := Go.Ground.data }], guard := none }) (v := .bool true) rfl (by kernel_rfl) (by kernel_rfl) (by kernel_rfl) (fun _ _ _ h => h) (Or.inl ⟨by rfl, by intro w2 hSw; (try dsimp only at hSw); have f0 := (hSw.cell (p := ⟨gx, r * 2, none⟩) (lt_of_cell f0')).trans f0'; have e0 := (hSw.cell (p := ⟨b4, o4 + j * 2, none⟩) (lt_of_cell e0')).trans e0'; go_simp⟩) hS0 ?_
                          try simp only [Act.put, List.setIfInBounds_toArray, List.set_cons_zero, List.set_cons_succ]
                          refine wpAnyH_take (i := 2) (oi := { dst := some 69, op := Go.Op.move (Go.Operand.tmp 7), type := 29, pos := "ref.go:117", after := #[{ on := 1, ground := Go.Ground.guard }], guard := some (1, true) }) (v := .slice (some ⟨gx, 0, none⟩) d capx) rfl (by kernel_rfl) (by kernel_rfl) (by kernel_rfl) (fun _ _ _ h => h) (Or.inl ⟨by rfl, by intro w2 hSw; (try dsimp only at hSw); have f0 := (hSw.cell (p := ⟨gx, r * 2, none⟩) (lt_of_cell f0')).trans f0'; have e0 := (hSw.cell (p := ⟨b4, o4 + j * 2, none⟩) (lt_of_cell e0')).trans e0'; go_simp⟩) hS0 ?_
                          try simp only [Act.put, List.setIfInBounds_toArray, List.set_cons_zero, List.set_cons_succ]
                          refine wpAnyH_take (i := 3) (oi := { dst := some 70, op := Go.Op.move (Go.Operand.tmp 10), type := 3, pos := "ref.go:117", after := #[{ on := 1, ground := Go.Ground.guard }], guard := some (1, true) }) (v := .int .i64 (r : Int)) rfl (by kernel_rfl) (by kernel_rfl) (by kernel_rfl) (fun _ _ _ h => h) (Or.inl ⟨by rfl, by intro w2 hSw; (try dsimp only at hSw); have f0 := (hSw.cell (p := ⟨gx, r * 2, none⟩) (lt_of_cell f0')).trans f0'; have e0 := (hSw.cell (p := ⟨b4, o4 + j * 2, none⟩) (lt_of_cell e0')).trans e0'; go_simp⟩) hS0 ?_
                          try simp only [Act.put, List.setIfInBounds_toArray, List.set_cons_zero, List.set_cons_succ]
                          refine wpAnyH_take (i := 4) (oi := { dst := some 71, op := Go.Op.indexAddr 29 (Go.Operand.tmp 69) (Go.Operand.tmp 70), type := 0, pos := "ref.go:117", after := #[{ on := 2, ground := Go.Ground.data }, { on := 3, ground := Go.Ground.data }, { on := 1, ground := Go.Ground.guard }], guard := some (1, true) }) (v := .pointer (some ⟨gx, r * 2, none⟩)) rfl (by kernel_rfl) (by kernel_rfl) (by kernel_rfl) (fun _ _ _ h => h) (Or.inl ⟨by rfl, by intro w2 hSw; (try dsimp only at hSw); have f0 := (hSw.cell (p := ⟨gx, r * 2, none⟩) (lt_of_cell f0')).trans f0'; have e0 := (hSw.cell (p := ⟨b4, o4 + j * 2, none⟩) (lt_of_cell e0')).trans e0'; go_simp⟩) hS0 ?_
                          try simp only [Act.put, List.setIfInBounds_toArray, List.set_cons_zero, List.set_cons_succ]
                          refine wpAnyH_take (i := 5) (oi := { dst := some 72, op := Go.Op.fieldAddr 28 (Go.Operand.tmp 71) 0, type := 0, pos := "ref.go:117", after := #[{ on := 4, ground := Go.Ground.data }, { on := 1, ground := Go.Ground.guard }], guard := some (1, true) }) (v := .pointer (some ⟨gx, r * 2, none⟩)) rfl (by kernel_rfl) (by kernel_rfl) (by kernel_rfl) (fun _ _ _ h => h) (Or.inl ⟨by rfl, by intro w2 hSw; (try dsimp only at hSw); have f0 := (hSw.cell (p := ⟨gx, r * 2, none⟩) (lt_of_cell f0')).trans f0'; have e0 := (hSw.cell (p := ⟨b4, o4 + j * 2, none⟩) (lt_of_cell e0')).trans e0'; go_simp⟩) hS0 ?_
                          try simp only [Act.put, List.setIfInBounds_toArray, List.set_cons_zero, List.set_cons_succ]
                          refine wpAnyH_take (i := 6) (oi := { dst := some 73, op := Go.Op.load 3 (Go.Operand.tmp 72), type := 3, pos := "ref.go:117", after := #[{ on := 5, ground := Go.Ground.data }, { on := 1, ground := Go.Ground.guard }], guard := some (1, true) }) (v := .int .i64 (lr : Int)) rfl (by kernel_rfl) (by kernel_rfl) (by kernel_rfl) (fun _ _ _ h => h) (Or.inl ⟨by rfl, by intro w2 hSw; (try dsimp only at hSw); have f0 := (hSw.cell (p := ⟨gx, r * 2, none⟩) (lt_of_cell f0')).trans f0'; have e0 := (hSw.cell (p := ⟨b4, o4 + j * 2, none⟩) (lt_of_cell e0')).trans e0'; go_simp⟩) hS0 ?_
                          try simp only [Act.put, List.setIfInBounds_toArray, List.set_cons_zero, List.set_cons_succ]
                          refine wpAnyH_take (i := 7) (oi := { dst := some 74, op := Go.Op.move (Go.Operand.tmp 4), type := 29, pos := "ref.go:117", after := #[{ on := 1, ground := Go.Ground.guard }], guard := some (1, true) }) (v := .slice (some ⟨b4, o4, none⟩) m4 cp4) rfl (by kernel_rfl) (by kernel_rfl) (by kernel_rfl) (fun _ _ _ h => h) (Or.inl ⟨by rfl, by intro w2 hSw; (try dsimp only at hSw); have f0 := (hSw.cell (p := ⟨gx, r * 2, none⟩) (lt_of_cell f0')).trans f0'; have e0 := (hSw.cell (p := ⟨b4, o4 + j * 2, none⟩) (lt_of_cell e0')).trans e0'; go_simp⟩) hS0 ?_
                          try simp only [Act.put, List.setIfInBounds_toArray, List.set_cons_zero, List.set_cons_succ]
                          refine wpAnyH_take (i := 8) (oi := { dst := some 75, op := Go.Op.move (Go.Operand.tmp 8), type := 3, pos := "ref.go:117", after := #[{ on := 1, ground := Go.Ground.guard }], guard := some (1, true) }) (v := .int .i64 (j : Int)) rfl (by kernel_rfl) (by kernel_rfl) (by kernel_rfl) (fun _ _ _ h => h) (Or.inl ⟨by rfl, by intro w2 hSw; (try dsimp only at hSw); have f0 := (hSw.cell (p := ⟨gx, r * 2, none⟩) (lt_of_cell f0')).trans f0'; have e0 := (hSw.cell (p := ⟨b4, o4 + j * 2, none⟩) (lt_of_cell e0')).trans e0'; go_simp⟩) hS0 ?_
                          try simp only [Act.put, List.setIfInBounds_toArray, List.set_cons_zero, List.set_cons_succ]
                          refine wpAnyH_take (i := 9) (oi := { dst := some 76, op := Go.Op.indexAddr 29 (Go.Operand.tmp 74) (Go.Operand.tmp 75), type := 0, pos := "ref.go:117", after := #[{ on := 7, ground := Go.Ground.data }, { on := 8, ground := Go.Ground.data }, { on := 1, ground := Go.Ground.guard }], guard := some (1, true) }) (v := .pointer (some ⟨b4, o4 + j * 2, none⟩)) rfl (by kernel_rfl) (by kernel_rfl) (by kernel_rfl) (fun _ _ _ h => h) (Or.inl ⟨by rfl, by intro w2 hSw; (try dsimp only at hSw); have f0 := (hSw.cell (p := ⟨gx, r * 2, none⟩) (lt_of_cell f0')).trans f0'; have e0 := (hSw.cell (p := ⟨b4, o4 + j * 2, none⟩) (lt_of_cell e0')).trans e0'; go_simp⟩) hS0 ?_
                          try simp only [Act.put, List.setIfInBounds_toArray, List.set_cons_zero, List.set_cons_succ]
                          refine wpAnyH_take (i := 10) (oi := { dst := some 77, op := Go.Op.fieldAddr 28 (Go.Operand.tmp 76) 0, type := 0, pos := "ref.go:117", after := #[{ on := 9, ground := Go.Ground.data }, { on := 1, ground := Go.Ground.guard }], guard := some (1, true) }) (v := .pointer (some ⟨b4, o4 + j * 2, none⟩)) rfl (by kernel_rfl) (by kernel_rfl) (by kernel_rfl) (fun _ _ _ h => h) (Or.inl ⟨by rfl, by intro w2 hSw; (try dsimp only at hSw); have f0 := (hSw.cell (p := ⟨gx, r * 2, none⟩) (lt_of_cell f0')).trans f0'; have e0 := (hSw.cell (p := ⟨b4, o4 + j * 2, none⟩) (lt_of_cell e0')).trans e0'; go_simp⟩) hS0 ?_
                          try simp only [Act.put, List.setIfInBounds_toArray, List.set_cons_zero, List.set_cons_succ]
                          refine wpAnyH_take (i := 11) (oi := { dst := some 78, op := Go.Op.load 3 (Go.Operand.tmp 77), type := 3, pos := "ref.go:117", after := #[{ on := 10, ground := Go.Ground.data }, { on := 1, ground := Go.Ground.guard }], guard := some (1, true) }) (v := .int .i64 (sp : Int)) rfl (by kernel_rfl) (by kernel_rfl) (by kernel_rfl) (fun _ _ _ h => h) (Or.inl ⟨by rfl, by intro w2 hSw; (try dsimp only at hSw); have f0 := (hSw.cell (p := ⟨gx, r * 2, none⟩) (lt_of_cell f0')).trans f0'; have e0 := (hSw.cell (p := ⟨b4, o4 + j * 2, none⟩) (lt_of_cell e0')).trans e0'; go_simp⟩) hS0 ?_
                          try simp only [Act.put, List.setIfInBounds_toArray, List.set_cons_zero, List.set_cons_succ]
                          refine wpAnyH_take (i := 12) (oi := { dst := some 79, op := Go.Op.binOp Go.BinOp.neq 3 (Go.Operand.tmp 73) (Go.Operand.tmp 78) 3, type := 4, pos := "ref.go:117", after := #[{ on := 6, ground := Go.Ground.data }, { on := 11, ground := Go.Ground.data }, { on := 1, ground := Go.Ground.guard }], guard := some (1, true) }) (v := .bool true) rfl (by kernel_rfl) (by kernel_rfl) (by kernel_rfl) (fun _ _ _ h => h) (Or.inl ⟨by rfl, by intro w2 hSw; (try dsimp only at hSw); have f0 := (hSw.cell (p := ⟨gx, r * 2, none⟩) (lt_of_cell f0')).trans f0'; have e0 := (hSw.cell (p := ⟨b4, o4 + j * 2, none⟩) (lt_of_cell e0')).trans e0'; go_simp⟩) hS0 ?_
                          try simp only [Act.put, List.setIfInBounds_toArray, List.set_cons_zero, List.set_cons_succ]
                          refine wpAnyH_take (i := 13) (oi := { dst := some 80, op := Go.Op.pick (Go.Operand.tmp 68) (Go.Operand.tmp 79) (Go.Operand.const (Go.Value.bool false)), type := 4, pos := "ref.go:117", after := #[{ on := 1, ground := Go.Ground.data }, { on := 12, ground := Go.Ground.data }], guard := none }) (v := .bool true) rfl (by kernel_rfl) (by kernel_rfl) (by kernel_rfl) (fun _ _ _ h => h) (Or.inl ⟨by rfl, by intro w2 hSw; (try dsimp only at hSw); have f0 := (hSw.cell (p := ⟨gx, r * 2, none⟩) (lt_of_cell f0')).trans f0'; have e0 := (hSw.cell (p := ⟨b4, o4 + j * 2, none⟩) (lt_of_cell e0')).trans e0'; go_simp⟩) hS0 ?_
                          try simp only [Act.put, List.setIfInBounds_toArray, List.set_cons_zero, List.set_cons_succ]
                          refine wpAnyH_take (i := 14) (oi := { dst := some 9, op := Go.Op.assign (Go.Operand.tmp 80), type := 4, pos := "ref.go:117", after := #[{ on := 13, ground := Go.Ground.data }, { on := 1, ground := Go.Ground.chain }, { on := 0, ground := Go.Ground.phase }, { on := 1, ground := Go.Ground.phase }, { on := 2, ground := Go.Ground.phase }, { on := 3, ground := Go.Ground.phase }, { on := 4, ground := Go.Ground.phase }, { on := 5, ground := Go.Ground.phase }, { on := 6, ground := Go.Ground.phase }, { on := 7, ground := Go.Ground.phase }, { on := 8, ground := Go.Ground.phase }, { on := 9, ground := Go.Ground.phase }, { on := 10, ground := Go.Ground.phase }, { on := 11, ground := Go.Ground.phase }, { on := 12, ground := Go.Ground.phase }, { on := 13, ground := Go.Ground.phase }], guard := none }) (v := .bool true) rfl (by kernel_rfl) (by kernel_rfl) (by kernel_rfl) (fun _ _ _ h => h) (Or.inl ⟨by rfl, by intro w2 hSw; (try dsimp only at hSw); have f0 := (hSw.cell (p := ⟨gx, r * 2, none⟩) (lt_of_cell f0')).trans f0'; have e0 := (hSw.cell (p := ⟨b4, o4 + j * 2, none⟩) (lt_of_cell e0')).trans e0'; go_simp⟩) hS0 ?_
                          try simp only [Act.put, List.setIfInBounds_toArray, List.set_cons_zero, List.set_cons_succ]
                          refine wpAnyH_done (by kernel_rfl) ?_ _
                          have HN7 := Lib.hid (HN6.out.below hS0)
                          have HB7 := Lib.hid (HB6.out.trans (hS0.mono HB6.out.size))
                          clear hS0 f0' e0' i2 i3 i4 i5 hd1 hd2
                          go_wp2_with fail
                          go_roundw
                          case rel => exact ⟨r + 1, by go_num, by omega, by rw [Hv.out], HN7.out, HB7.out⟩
                          case measure => simp [intOf]; omega
                    · obtain rfl : d = r := by omega
                      have i3 : ¬ (d : Int) < (d : Int) := by omega
                      have hae := allN_end ⟨ps, off, ⟨lo, hi⟩⟩ l s
                      rw [Hll.out] at hae
                      rw [hae]
                      clear hae
                      have hps := part_succ (c := ⟨ps, off, ⟨lo, hi⟩⟩) (l := l) (j := j) hjc
                      rw [show (codesL (⟨ps, off, ⟨lo, hi⟩⟩ : Cy).ps)[j]'hjc = s from Hs.out] at hps
                      obtain ⟨gd, hgd⟩ : ∃ gd, goodL (tabOf ⟨ps, off, ⟨lo, hi⟩⟩) l s = gd := ⟨_, rfl⟩
                      rw [hgd] at hps ⊢
                      have Hgd := Lib.hid hgd
                      clear hgd
                      cases gd with
                      | false =>
                        have HN7 := Lib.hid (show OwnL Wr u5 (P ++ partL ⟨ps, off, ⟨lo, hi⟩⟩ l (j + 1)) from by
                          rw [hps]
                          simp only [Bool.false_eq_true, if_false, List.append_nil]
                          exact HN6.out)
                        clear hps
                        go_wp2_with fail
                        go_roundw
                        case rel => exact ⟨j + 1, by go_num, by omega, HN7.out, Hob.out, HB6.out⟩
                        case measure => simp [intOf]; omega
                      | true =>
                        have Hps := Lib.hid (show partL ⟨ps, off, ⟨lo, hi⟩⟩ l (j + 1) = partL ⟨ps, off, ⟨lo, hi⟩⟩ l j ++ [l ++ [s]] from hps.trans (by simp))
                        clear hps
                        go_wp2_with fail
                        · have hW6 := HBl.out.trans (HB6.out.mono HBl.out.size)
                          have e0' : Wr.cell? ⟨b4, o4 + j * 2, none⟩ = _ := (hW6.cell (p := ⟨b4, o4 + j * 2, none⟩) Hb4.out).trans Hc4.out.1
                          have e1' : Wr.cell? ⟨b4, o4 + j * 2 + 1, none⟩ = _ := (hW6.cell (p := ⟨b4, o4 + j * 2 + 1, none⟩) Hb4.out).trans Hc4.out.2
                          unfold stC at e0' e1'
                          simp only at e0' e1'
                          have hcs : cellS s = [.int .i64 ((s / 2 : Nat) : Int), .bool (decide (s % 2 = 1))] := rfl
                          generalize (s / 2 : Nat) = sp at e0' hcs
                          generalize decide (s % 2 = 1) = stt at e1' hcs
                          have Hcs := Lib.hid hcs
                          have HPl := Lib.hid (show (P ++ partL ⟨ps, off, ⟨lo, hi⟩⟩ l j).length ≤ 100000 from by
                            rw [List.length_append]
                            have h1 := part_le ⟨ps, off, ⟨lo, hi⟩⟩ l j
                            rw [show (codesL (⟨ps, off, ⟨lo, hi⟩⟩ : Cy).ps).length = m4 from Hm4.out] at h1
                            omega)
                          have i4 : (0 : Int) ≤ (j : Int) := by omega
                          have i5 : (j : Int) < (m4 : Int) := by omega
                          have hl5 : l.length ≤ 1000 := by rw [Hll.out]; omega
                          clear hcs hW6 hPl
                          have Hw0 := Lib.hid ((HB6.out.cell (p := ⟨b4, o4 + j * 2, none⟩) (Nat.lt_of_lt_of_le Hb4.out HBl.out.size)).symm.trans e0')
                          have Hw1 := Lib.hid ((HB6.out.cell (p := ⟨b4, o4 + j * 2 + 1, none⟩) (Nat.lt_of_lt_of_le Hb4.out HBl.out.size)).symm.trans e1')
                          clear e0' e1'
                          refine wp_region_held_drew (S := fun w2 => Below Wl.heap.size Wl w2) (by kernel_rfl) (HB6.out.trans ((drew_b _ _).mono HB6.out.size)) (fun hS0 => ?_)
                          have hR0 : Below Wr.heap.size Wr Wr.drew := drew_b _ _
                          refine wpAnyH_take (i := 0) (oi := { dst := some 82, op := Go.Op.move (Go.Operand.tmp 5), type := 92, pos := "ref.go:120", after := #[], guard := none }) (v := u5) rfl (by kernel_rfl) (by kernel_rfl) (by kernel_rfl) (fun _ _ _ h => h) (Or.inl ⟨by rfl, by intro w2 hSw; (try dsimp only at hSw); have e0 : w2.cell? ⟨b4, o4 + j * 2, none⟩ = some (.int .i64 (sp : Int)) := (hSw.cell (p := ⟨b4, o4 + j * 2, none⟩) (Nat.lt_of_lt_of_le Hb4.out HBl.out.size)).trans Hw0.out; have e1 : w2.cell? ⟨b4, o4 + j * 2 + 1, none⟩ = some (.bool stt) := (hSw.cell (p := ⟨b4, o4 + j * 2 + 1, none⟩) (Nat.lt_of_lt_of_le Hb4.out HBl.out.size)).trans Hw1.out; go_simp⟩) hS0 ?_
                          try simp only [Act.put, List.setIfInBounds_toArray, List.set_cons_zero, List.set_cons_succ]
                          refine wpAnyH_take (i := 2) (oi := { dst := some 84, op := Go.Op.move (Go.Operand.tmp 7), type := 29, pos := "ref.go:120", after := #[], guard := none }) (v := .slice (some ⟨gx, 0, none⟩) d capx) rfl (by kernel_rfl) (by kernel_rfl) (by kernel_rfl) (fun _ _ _ h => h) (Or.inl ⟨by rfl, by intro w2 hSw; (try dsimp only at hSw); have e0 : w2.cell? ⟨b4, o4 + j * 2, none⟩ = some (.int .i64 (sp : Int)) := (hSw.cell (p := ⟨b4, o4 + j * 2, none⟩) (Nat.lt_of_lt_of_le Hb4.out HBl.out.size)).trans Hw0.out; have e1 : w2.cell? ⟨b4, o4 + j * 2 + 1, none⟩ = some (.bool stt) := (hSw.cell (p := ⟨b4, o4 + j * 2 + 1, none⟩) (Nat.lt_of_lt_of_le Hb4.out HBl.out.size)).trans Hw1.out; go_simp⟩) hS0 ?_
                          try simp only [Act.put, List.setIfInBounds_toArray, List.set_cons_zero, List.set_cons_succ]
                          refine wpAnyH_take (i := 4) (oi := { dst := some 86, op := Go.Op.move (Go.Operand.tmp 4), type := 29, pos := "ref.go:120", after := #[], guard := none }) (v := .slice (some ⟨b4, o4, none⟩) m4 cp4) rfl (by kernel_rfl) (by kernel_rfl) (by kernel_rfl) (fun _ _ _ h => h) (Or.inl ⟨by rfl, by intro w2 hSw; (try dsimp only at hSw); have e0 : w2.cell? ⟨b4, o4 + j * 2, none⟩ = some (.int .i64 (sp : Int)) := (hSw.cell (p := ⟨b4, o4 + j * 2, none⟩) (Nat.lt_of_lt_of_le Hb4.out HBl.out.size)).trans Hw0.out; have e1 : w2.cell? ⟨b4, o4 + j * 2 + 1, none⟩ = some (.bool stt) := (hSw.cell (p := ⟨b4, o4 + j * 2 + 1, none⟩) (Nat.lt_of_lt_of_le Hb4.out HBl.out.size)).trans Hw1.out; go_simp⟩) hS0 ?_
                          try simp only [Act.put, List.setIfInBounds_toArray, List.set_cons_zero, List.set_cons_succ]
                          refine wpAnyH_take (i := 5) (oi := { dst := some 87, op := Go.Op.move (Go.Operand.tmp 8), type := 3, pos := "ref.go:120", after := #[], guard := none }) (v := .int .i64 (j : Int)) rfl (by kernel_rfl) (by kernel_rfl) (by kernel_rfl) (fun _ _ _ h => h) (Or.inl ⟨by rfl, by intro w2 hSw; (try dsimp only at hSw); have e0 : w2.cell? ⟨b4, o4 + j * 2, none⟩ = some (.int .i64 (sp : Int)) := (hSw.cell (p := ⟨b4, o4 + j * 2, none⟩) (Nat.lt_of_lt_of_le Hb4.out HBl.out.size)).trans Hw0.out; have e1 : w2.cell? ⟨b4, o4 + j * 2 + 1, none⟩ = some (.bool stt) := (hSw.cell (p := ⟨b4, o4 + j * 2 + 1, none⟩) (Nat.lt_of_lt_of_le Hb4.out HBl.out.size)).trans Hw1.out; go_simp⟩) hS0 ?_
                          try simp only [Act.put, List.setIfInBounds_toArray, List.set_cons_zero, List.set_cons_succ]
                          refine wpAnyH_take (i := 6) (oi := { dst := some 88, op := Go.Op.indexAddr 29 (Go.Operand.tmp 86) (Go.Operand.tmp 87), type := 0, pos := "ref.go:120", after := #[{ on := 4, ground := Go.Ground.data }, { on := 5, ground := Go.Ground.data }], guard := none }) (v := .pointer (some ⟨b4, o4 + j * 2, none⟩)) rfl (by kernel_rfl) (by kernel_rfl) (by kernel_rfl) (fun _ _ _ h => h) (Or.inl ⟨by rfl, by intro w2 hSw; (try dsimp only at hSw); have e0 : w2.cell? ⟨b4, o4 + j * 2, none⟩ = some (.int .i64 (sp : Int)) := (hSw.cell (p := ⟨b4, o4 + j * 2, none⟩) (Nat.lt_of_lt_of_le Hb4.out HBl.out.size)).trans Hw0.out; have e1 : w2.cell? ⟨b4, o4 + j * 2 + 1, none⟩ = some (.bool stt) := (hSw.cell (p := ⟨b4, o4 + j * 2 + 1, none⟩) (Nat.lt_of_lt_of_le Hb4.out HBl.out.size)).trans Hw1.out; go_simp⟩) hS0 ?_
                          try simp only [Act.put, List.setIfInBounds_toArray, List.set_cons_zero, List.set_cons_succ]
                          refine wpAnyH_take (i := 7) (oi := { dst := some 89, op := Go.Op.load 28 (Go.Operand.tmp 88), type := 28, pos := "ref.go:120", after := #[{ on := 6, ground := Go.Ground.data }], guard := none }) (v := .agg #[.int .i64 (sp : Int), .bool stt]) rfl (by kernel_rfl) (by kernel_rfl) (by kernel_rfl) (fun _ _ _ h => h) (Or.inl ⟨by rfl, by intro w2 hSw; (try dsimp only at hSw); have e0 : w2.cell? ⟨b4, o4 + j * 2, none⟩ = some (.int .i64 (sp : Int)) := (hSw.cell (p := ⟨b4, o4 + j * 2, none⟩) (Nat.lt_of_lt_of_le Hb4.out HBl.out.size)).trans Hw0.out; have e1 : w2.cell? ⟨b4, o4 + j * 2 + 1, none⟩ = some (.bool stt) := (hSw.cell (p := ⟨b4, o4 + j * 2 + 1, none⟩) (Nat.lt_of_lt_of_le Hb4.out HBl.out.size)).trans Hw1.out; go_simp⟩) hS0 ?_
                          try simp only [Act.put, List.setIfInBounds_toArray, List.set_cons_zero, List.set_cons_succ]
                          generalize Wr.drew = V0 at hS0 hR0 ⊢
                          refine wpAnyH_ready (rs := [1, 8]) (by kernel_rfl) (by simp) ?_
                          refine AllReadyH.cons (o := { dst := some 83, op := Go.Op.buildSlice 29 0 #[], type := 29, pos := "ref.go:120", after := #[], guard := none }) rfl (fun K2 hK => ?_) ?_
                          · go_simp
                            refine hK.out _ _ (hS0.trans ((below_alloc_ _ _).mono hS0.size)) (fun hS1 => ?_)
                            clear hK K2
                            have hz := heap_alloc_new_ V0 (.cells #[] 28)
                            have hb := below_alloc_ V0 (.cells #[] 28)
                            have hR1 := hR0.trans (hb.mono hR0.size)
                            have hzl := Lib.hid (show Wr.heap.size ≤ V0.heap.size from hR0.size)
                            generalize V0.alloc (.cells #[] 28) = V1 at *
                            obtain ⟨Z, hZe⟩ : ∃ Z, V0.heap.size = Z := ⟨_, rfl⟩
                            rw [hZe] at hz hzl ⊢
                            clear hZe hb
                            try simp only [Act.put, List.setIfInBounds_toArray, List.set_cons_zero, List.set_cons_succ]
                            refine wpAnyH_ready (rs := [3, 8]) (by kernel_rfl) (by simp) ?_
                            refine AllReadyH.cons (o := { dst := some 85, op := Go.Op.call { callee := Go.Callee.builtin Go.Builtin.append, args := #[Go.Operand.tmp 83, Go.Operand.tmp 84], argTypes := #[29, 29] }, type := 29, pos := "ref.go:120", after := #[{ on := 1, ground := Go.Ground.data }, { on := 2, ground := Go.Ground.data }], guard := none }) rfl (fun K2 hK => ?_) ?_
                            · obtain ⟨y, V2, hrun, hY, hKp, hyb⟩ := app_cp hz (Hx.out.below hS1) hl5
                              have hS2h := Lib.hid (show Below Wl.heap.size Wl V2 from hS1.trans (hKp.below hS1.size (fun i hi e => by have := hzl.out; have := HB6.out.size; omega)))
                              have hR2h := Lib.hid (show Below Wr.heap.size Wr V2 from hR1.trans (hKp.below hR1.size (fun i hi e => by have := hzl.out; omega)))
                              have hyl := Lib.hid (show ∀ k, y.ownBlock = some k → Wr.heap.size ≤ k from fun k hk => by have h1 := hzl.out; have h2 := hR1.size; rcases hyb with h | ⟨h, _⟩ <;> (rw [h] at hk; cases hk; omega))
                              clear hyb hKp hz
                              have HY := Lib.hid hY
                              clear hY
                              go_simp
                              have hY := HY.out
                              clear HY
                              refine hK.out _ _ hS2h.out (fun hS2 => ?_)
                              have hR2 := hR2h.out
                              clear hK K2 hS2h hR2h hrun
                              try simp only [Act.put, List.setIfInBounds_toArray, List.set_cons_zero, List.set_cons_succ]
                              refine wpAnyH_ready (rs := [8]) (by kernel_rfl) (by simp) ?_
                              refine AllReadyH.cons (o := { dst := some 90, op := Go.Op.buildSlice 29 1 #[(0, Go.Operand.tmp 89)], type := 29, pos := "ref.go:120", after := #[{ on := 7, ground := Go.Ground.data }], guard := none }) rfl (fun K2 hK => ?_) ?_
                              · go_simp
                                refine hK.out _ _ (hS2.trans ((below_alloc_ _ _).mono hS2.size)) (fun hS3 => ?_)
                                clear hK K2
                                have hz2 := heap_alloc_new_ V2 (.cells #[.int .i64 (sp : Int), .bool stt] 28)
                                have hb := below_alloc_ V2 (.cells #[.int .i64 (sp : Int), .bool stt] 28)
                                have hR3 := hR2.trans (hb.mono hR2.size)
                                have hz2l := Lib.hid (show Wr.heap.size ≤ V2.heap.size from hR2.size)
                                replace hY := hY.below hb
                                generalize V2.alloc (.cells #[.int .i64 (sp : Int), .bool stt] 28) = V3 at *
                                obtain ⟨Z2, hZe⟩ : ∃ Z2, V2.heap.size = Z2 := ⟨_, rfl⟩
                                rw [hZe] at hz2 hz2l ⊢
                                clear hZe hb
                                try simp only [Act.put, List.setIfInBounds_toArray, List.set_cons_zero, List.set_cons_succ]
                                refine wpAnyH_ready (rs := [9]) (by kernel_rfl) (by simp) ?_
                                refine AllReadyH.cons (o := { dst := some 91, op := Go.Op.call { callee := Go.Callee.builtin Go.Builtin.append, args := #[Go.Operand.tmp 85, Go.Operand.tmp 90], argTypes := #[29, 29] }, type := 29, pos := "ref.go:120", after := #[{ on := 3, ground := Go.Ground.data }, { on := 8, ground := Go.Ground.data }, { on := 3, ground := Go.Ground.chain }], guard := none }) rfl (fun K2 hK => ?_) ?_
                                · obtain ⟨y2, V4, hrun, hY2, hKp, hyb⟩ := app_st hY (s := s) (by rw [Hcs.out]; exact hz2) hl5
                                  have hS4h := Lib.hid (show Below Wl.heap.size Wl V4 from hS3.trans (hKp.below hS3.size (fun i hi e => by have := hyl.out _ e; have := HB6.out.size; omega)))
                                  have hR4h := Lib.hid (show Below Wr.heap.size Wr V4 from hR3.trans (hKp.below hR3.size (fun i hi e => by have := hyl.out _ e; omega)))
                                  clear hyb hKp hz2 hY
                                  obtain ⟨n9, hn9⟩ : ∃ n9, (l ++ [s]).length = n9 := ⟨_, rfl⟩
                                  obtain ⟨g9, c9, rfl, hc9, ho9⟩ := hY2
                                  rw [hn9] at hrun ho9 hc9
                                  have HY := Lib.hid (show Own1 V4 (.slice (some ⟨g9, 0, none⟩) n9 c9) (l ++ [s]) from ⟨g9, c9, by rw [hn9], by rw [hn9]; exact hc9, by rw [hn9]; exact ho9⟩)
                                  clear hn9 hc9 ho9
                                  go_simp
                                  have hY := HY.out
                                  clear HY
                                  refine hK.out _ _ hS4h.out (fun hS4 => ?_)
                                  have hR4 := hR4h.out
                                  clear hK K2 hS4h hR4h hrun
                                  try simp only [Act.put, List.setIfInBounds_toArray, List.set_cons_zero, List.set_cons_succ]
                                  refine wpAnyH_ready (rs := [10]) (by kernel_rfl) (by simp) ?_
                                  refine AllReadyH.cons (o := { dst := some 92, op := Go.Op.buildSlice 92 1 #[(0, Go.Operand.tmp 91)], type := 92, pos := "ref.go:120", after := #[{ on := 9, ground := Go.Ground.data }], guard := none }) rfl (fun K2 hK => ?_) ?_
                                  · go_simp
                                    refine hK.out _ _ (hS4.trans ((below_alloc_ _ _).mono hS4.size)) (fun hS5 => ?_)
                                    clear hK K2
                                    have hz3 := heap_alloc_new_ V4 (.cells #[.slice (some ⟨g9, 0, none⟩) n9 c9] 29)
                                    have hb := below_alloc_ V4 (.cells #[.slice (some ⟨g9, 0, none⟩) n9 c9] 29)
                                    have hR5 := hR4.trans (hb.mono hR4.size)
                                    have hz3l := Lib.hid (show Wr.heap.size ≤ V4.heap.size from hR4.size)
                                    replace hY := hY.below hb
                                    generalize V4.alloc (.cells #[.slice (some ⟨g9, 0, none⟩) n9 c9] 29) = V5 at *
                                    obtain ⟨Z3, hZe⟩ : ∃ Z3, V4.heap.size = Z3 := ⟨_, rfl⟩
                                    rw [hZe] at hz3 hz3l ⊢
                                    clear hZe hb
                                    try simp only [Act.put, List.setIfInBounds_toArray, List.set_cons_zero, List.set_cons_succ]
                                    refine wpAnyH_ready (rs := [11]) (by kernel_rfl) (by simp) ?_
                                    refine AllReadyH.cons (o := { dst := some 93, op := Go.Op.call { callee := Go.Callee.builtin Go.Builtin.append, args := #[Go.Operand.tmp 82, Go.Operand.tmp 92], argTypes := #[92, 92] }, type := 92, pos := "ref.go:120", after := #[{ on := 0, ground := Go.Ground.data }, { on := 10, ground := Go.Ground.data }, { on := 9, ground := Go.Ground.chain }], guard := none }) rfl (fun K2 hK => ?_) ?_
                                    · obtain ⟨v9, V6, hrun, hN9, hKp, hvb⟩ := (HN6.out.below hR5).app hY hz3 HPl.out
                                      have HN9 := Lib.hid (show OwnL V6 v9 (P ++ partL ⟨ps, off, ⟨lo, hi⟩⟩ l (j + 1)) from by rw [Hps.out, ← List.append_assoc]; exact hN9)
                                      have HB9 := Lib.hid (show Below Wl.heap.size Wl V6 from hS5.trans (hKp.below hS5.size (fun i hi e => by have := Hob.out _ e; omega)))
                                      have Hob9 := Lib.hid (show ∀ b, v9.ownBlock = some b → Wl.heap.size ≤ b from fun b hb => by
                                        rcases hvb with h | ⟨h, _⟩
                                        · exact Hob.out _ (h ▸ hb)
                                        · rw [h] at hb
                                          cases hb
                                          exact hS5.size)
                                      clear hN9 hKp hvb hz3 hY
                                      go_simp
                                      refine hK.out _ _ HB9.out (fun hS6 => ?_)
                                      clear hK K2 hrun
                                      try simp only [Act.put, List.setIfInBounds_toArray, List.set_cons_zero, List.set_cons_succ]
                                      refine wpAnyH_take (i := 12) (oi := { dst := some 5, op := Go.Op.assign (Go.Operand.tmp 93), type := 92, pos := "ref.go:120", after := #[{ on := 11, ground := Go.Ground.data }, { on := 11, ground := Go.Ground.chain }, { on := 0, ground := Go.Ground.phase }, { on := 1, ground := Go.Ground.phase }, { on := 2, ground := Go.Ground.phase }, { on := 3, ground := Go.Ground.phase }, { on := 4, ground := Go.Ground.phase }, { on := 5, ground := Go.Ground.phase }, { on := 6, ground := Go.Ground.phase }, { on := 7, ground := Go.Ground.phase }, { on := 8, ground := Go.Ground.phase }, { on := 9, ground := Go.Ground.phase }, { on := 10, ground := Go.Ground.phase }, { on := 11, ground := Go.Ground.phase }], guard := none }) (v := v9) rfl (by kernel_rfl) (by kernel_rfl) (by kernel_rfl) (fun _ _ _ h => h) (Or.inl ⟨by rfl, by intro w2 hSw; (try dsimp only at hSw);  go_simp⟩) hS6 ?_
                                      try simp only [Act.put, List.setIfInBounds_toArray, List.set_cons_zero, List.set_cons_succ]
                                      refine wpAnyH_done (by kernel_rfl) ?_ _
                                      skip
                                      go_wp2_with fail
                                      go_roundw
                                      case rel => exact ⟨j + 1, by go_num, by omega, HN9.out, Hob9.out, HB9.out⟩
                                      case measure => simp [intOf]; omega
                                    exact AllReadyH.nil
                                  exact AllReadyH.nil
                                exact AllReadyH.nil
                              exact AllReadyH.nil
                            refine AllReadyH.cons (o := { dst := some 90, op := Go.Op.buildSlice 29 1 #[(0, Go.Operand.tmp 89)], type := 29, pos := "ref.go:120", after := #[{ on := 7, ground := Go.Ground.data }], guard := none }) rfl (fun K2 hK => ?_) ?_
                            · go_simp
                              refine hK.out _ _ (hS1.trans ((below_alloc_ _ _).mono hS1.size)) (fun hS2 => ?_)
                              clear hK K2
                              have hz2 := heap_alloc_new_ V1 (.cells #[.int .i64 (sp : Int), .bool stt] 28)
                              have hb := below_alloc_ V1 (.cells #[.int .i64 (sp : Int), .bool stt] 28)
                              have hR2 := hR1.trans (hb.mono hR1.size)
                              have hz2l := Lib.hid (show Wr.heap.size ≤ V1.heap.size from hR1.size)
                              have hzne := Lib.hid (show V1.heap.size ≠ Z from by have := lt_of_block hz; omega)
                              replace hz := (hb.block _ (lt_of_block hz)).trans hz
                              generalize V1.alloc (.cells #[.int .i64 (sp : Int), .bool stt] 28) = V2 at *
                              obtain ⟨Z2, hZe⟩ : ∃ Z2, V1.heap.size = Z2 := ⟨_, rfl⟩
                              rw [hZe] at hz2 hz2l hzne ⊢
                              clear hZe hb
                              try simp only [Act.put, List.setIfInBounds_toArray, List.set_cons_zero, List.set_cons_succ]
                              refine wpAnyH_ready (rs := [3]) (by kernel_rfl) (by simp) ?_
                              refine AllReadyH.cons (o := { dst := some 85, op := Go.Op.call { callee := Go.Callee.builtin Go.Builtin.append, args := #[Go.Operand.tmp 83, Go.Operand.tmp 84], argTypes := #[29, 29] }, type := 29, pos := "ref.go:120", after := #[{ on := 1, ground := Go.Ground.data }, { on := 2, ground := Go.Ground.data }], guard := none }) rfl (fun K2 hK => ?_) ?_
                              · obtain ⟨y, V3, hrun, hY, hKp, hyb⟩ := app_cp hz (Hx.out.below hS2) hl5
                                have hS3h := Lib.hid (show Below Wl.heap.size Wl V3 from hS2.trans (hKp.below hS2.size (fun i hi e => by have := hzl.out; have := HB6.out.size; omega)))
                                have hR3h := Lib.hid (show Below Wr.heap.size Wr V3 from hR2.trans (hKp.below hR2.size (fun i hi e => by have := hzl.out; omega)))
                                have hyl := Lib.hid (show ∀ k, y.ownBlock = some k → Wr.heap.size ≤ k from fun k hk => by have h1 := hzl.out; have h2 := hR2.size; rcases hyb with h | ⟨h, _⟩ <;> (rw [h] at hk; cases hk; omega))
                                have hy2 := Lib.hid (show ¬ Z2 = Z from hzne.out)
                                replace hz2 := (hKp.block _ (lt_of_block hz2) hy2.out).trans hz2
                                clear hyb hKp hz
                                have HY := Lib.hid hY
                                clear hY
                                have HZ2 := Lib.hid hz2
                                clear hz2
                                go_simp
                                have hY := HY.out
                                clear HY
                                have hz2 := HZ2.out
                                clear HZ2
                                refine hK.out _ _ hS3h.out (fun hS3 => ?_)
                                have hR3 := hR3h.out
                                clear hK K2 hS3h hR3h hrun
                                try simp only [Act.put, List.setIfInBounds_toArray, List.set_cons_zero, List.set_cons_succ]
                                refine wpAnyH_ready (rs := [9]) (by kernel_rfl) (by simp) ?_
                                refine AllReadyH.cons (o := { dst := some 91, op := Go.Op.call { callee := Go.Callee.builtin Go.Builtin.append, args := #[Go.Operand.tmp 85, Go.Operand.tmp 90], argTypes := #[29, 29] }, type := 29, pos := "ref.go:120", after := #[{ on := 3, ground := Go.Ground.data }, { on := 8, ground := Go.Ground.data }, { on := 3, ground := Go.Ground.chain }], guard := none }) rfl (fun K2 hK => ?_) ?_
                                · obtain ⟨y2, V4, hrun, hY2, hKp, hyb⟩ := app_st hY (s := s) (by rw [Hcs.out]; exact hz2) hl5
                                  have hS4h := Lib.hid (show Below Wl.heap.size Wl V4 from hS3.trans (hKp.below hS3.size (fun i hi e => by have := hyl.out _ e; have := HB6.out.size; omega)))
                                  have hR4h := Lib.hid (show Below Wr.heap.size Wr V4 from hR3.trans (hKp.below hR3.size (fun i hi e => by have := hyl.out _ e; omega)))
                                  clear hyb hKp hz2 hY
                                  obtain ⟨n9, hn9⟩ : ∃ n9, (l ++ [s]).length = n9 := ⟨_, rfl⟩
                                  obtain ⟨g9, c9, rfl, hc9, ho9⟩ := hY2
                                  rw [hn9] at hrun ho9 hc9
                                  have HY := Lib.hid (show Own1 V4 (.slice (some ⟨g9, 0, none⟩) n9 c9) (l ++ [s]) from ⟨g9, c9, by rw [hn9], by rw [hn9]; exact hc9, by rw [hn9]; exact ho9⟩)
                                  clear hn9 hc9 ho9
                                  go_simp
                                  have hY := HY.out
                                  clear HY
                                  refine hK.out _ _ hS4h.out (fun hS4 => ?_)
                                  have hR4 := hR4h.out
                                  clear hK K2 hS4h hR4h hrun
                                  try simp only [Act.put, List.setIfInBounds_toArray, List.set_cons_zero, List.set_cons_succ]
                                  refine wpAnyH_ready (rs := [10]) (by kernel_rfl) (by simp) ?_
                                  refine AllReadyH.cons (o := { dst := some 92, op := Go.Op.buildSlice 92 1 #[(0, Go.Operand.tmp 91)], type := 92, pos := "ref.go:120", after := #[{ on := 9, ground := Go.Ground.data }], guard := none }) rfl (fun K2 hK => ?_) ?_
                                  · go_simp
                                    refine hK.out _ _ (hS4.trans ((below_alloc_ _ _).mono hS4.size)) (fun hS5 => ?_)
                                    clear hK K2
                                    have hz3 := heap_alloc_new_ V4 (.cells #[.slice (some ⟨g9, 0, none⟩) n9 c9] 29)
                                    have hb := below_alloc_ V4 (.cells #[.slice (some ⟨g9, 0, none⟩) n9 c9] 29)
                                    have hR5 := hR4.trans (hb.mono hR4.size)
                                    have hz3l := Lib.hid (show Wr.heap.size ≤ V4.heap.size from hR4.size)
                                    replace hY := hY.below hb
                                    generalize V4.alloc (.cells #[.slice (some ⟨g9, 0, none⟩) n9 c9] 29) = V5 at *
                                    obtain ⟨Z3, hZe⟩ : ∃ Z3, V4.heap.size = Z3 := ⟨_, rfl⟩
                                    rw [hZe] at hz3 hz3l ⊢
                                    clear hZe hb
                                    try simp only [Act.put, List.setIfInBounds_toArray, List.set_cons_zero, List.set_cons_succ]
                                    refine wpAnyH_ready (rs := [11]) (by kernel_rfl) (by simp) ?_
                                    refine AllReadyH.cons (o := { dst := some 93, op := Go.Op.call { callee := Go.Callee.builtin Go.Builtin.append, args := #[Go.Operand.tmp 82, Go.Operand.tmp 92], argTypes := #[92, 92] }, type := 92, pos := "ref.go:120", after := #[{ on := 0, ground := Go.Ground.data }, { on := 10, ground := Go.Ground.data }, { on := 9, ground := Go.Ground.chain }], guard := none }) rfl (fun K2 hK => ?_) ?_
                                    · obtain ⟨v9, V6, hrun, hN9, hKp, hvb⟩ := (HN6.out.below hR5).app hY hz3 HPl.out
                                      have HN9 := Lib.hid (show OwnL V6 v9 (P ++ partL ⟨ps, off, ⟨lo, hi⟩⟩ l (j + 1)) from by rw [Hps.out, ← List.append_assoc]; exact hN9)
                                      have HB9 := Lib.hid (show Below Wl.heap.size Wl V6 from hS5.trans (hKp.below hS5.size (fun i hi e => by have := Hob.out _ e; omega)))
                                      have Hob9 := Lib.hid (show ∀ b, v9.ownBlock = some b → Wl.heap.size ≤ b from fun b hb => by
                                        rcases hvb with h | ⟨h, _⟩
                                        · exact Hob.out _ (h ▸ hb)
                                        · rw [h] at hb
                                          cases hb
                                          exact hS5.size)
                                      clear hN9 hKp hvb hz3 hY
                                      go_simp
                                      refine hK.out _ _ HB9.out (fun hS6 => ?_)
                                      clear hK K2 hrun
                                      try simp only [Act.put, List.setIfInBounds_toArray, List.set_cons_zero, List.set_cons_succ]
                                      refine wpAnyH_take (i := 12) (oi := { dst := some 5, op := Go.Op.assign (Go.Operand.tmp 93), type := 92, pos := "ref.go:120", after := #[{ on := 11, ground := Go.Ground.data }, { on := 11, ground := Go.Ground.chain }, { on := 0, ground := Go.Ground.phase }, { on := 1, ground := Go.Ground.phase }, { on := 2, ground := Go.Ground.phase }, { on := 3, ground := Go.Ground.phase }, { on := 4, ground := Go.Ground.phase }, { on := 5, ground := Go.Ground.phase }, { on := 6, ground := Go.Ground.phase }, { on := 7, ground := Go.Ground.phase }, { on := 8, ground := Go.Ground.phase }, { on := 9, ground := Go.Ground.phase }, { on := 10, ground := Go.Ground.phase }, { on := 11, ground := Go.Ground.phase }], guard := none }) (v := v9) rfl (by kernel_rfl) (by kernel_rfl) (by kernel_rfl) (fun _ _ _ h => h) (Or.inl ⟨by rfl, by intro w2 hSw; (try dsimp only at hSw);  go_simp⟩) hS6 ?_
                                      try simp only [Act.put, List.setIfInBounds_toArray, List.set_cons_zero, List.set_cons_succ]
                                      refine wpAnyH_done (by kernel_rfl) ?_ _
                                      skip
                                      go_wp2_with fail
                                      go_roundw
                                      case rel => exact ⟨j + 1, by go_num, by omega, HN9.out, Hob9.out, HB9.out⟩
                                      case measure => simp [intOf]; omega
                                    exact AllReadyH.nil
                                  exact AllReadyH.nil
                                exact AllReadyH.nil
                              exact AllReadyH.nil
                            exact AllReadyH.nil
                          refine AllReadyH.cons (o := { dst := some 90, op := Go.Op.buildSlice 29 1 #[(0, Go.Operand.tmp 89)], type := 29, pos := "ref.go:120", after := #[{ on := 7, ground := Go.Ground.data }], guard := none }) rfl (fun K2 hK => ?_) ?_
                          · go_simp
                            refine hK.out _ _ (hS0.trans ((below_alloc_ _ _).mono hS0.size)) (fun hS1 => ?_)
                            clear hK K2
                            have hz2 := heap_alloc_new_ V0 (.cells #[.int .i64 (sp : Int), .bool stt] 28)
                            have hb := below_alloc_ V0 (.cells #[.int .i64 (sp : Int), .bool stt] 28)
                            have hR1 := hR0.trans (hb.mono hR0.size)
                            have hz2l := Lib.hid (show Wr.heap.size ≤ V0.heap.size from hR0.size)
                            generalize V0.alloc (.cells #[.int .i64 (sp : Int), .bool stt] 28) = V1 at *
                            obtain ⟨Z2, hZe⟩ : ∃ Z2, V0.heap.size = Z2 := ⟨_, rfl⟩
                            rw [hZe] at hz2 hz2l ⊢
                            clear hZe hb
                            try simp only [Act.put, List.setIfInBounds_toArray, List.set_cons_zero, List.set_cons_succ]
                            refine wpAnyH_ready (rs := [1]) (by kernel_rfl) (by simp) ?_
                            refine AllReadyH.cons (o := { dst := some 83, op := Go.Op.buildSlice 29 0 #[], type := 29, pos := "ref.go:120", after := #[], guard := none }) rfl (fun K2 hK => ?_) ?_
                            · go_simp
                              refine hK.out _ _ (hS1.trans ((below_alloc_ _ _).mono hS1.size)) (fun hS2 => ?_)
                              clear hK K2
                              have hz := heap_alloc_new_ V1 (.cells #[] 28)
                              have hb := below_alloc_ V1 (.cells #[] 28)
                              have hR2 := hR1.trans (hb.mono hR1.size)
                              have hzl := Lib.hid (show Wr.heap.size ≤ V1.heap.size from hR1.size)
                              have hzne := Lib.hid (show Z2 ≠ V1.heap.size from by have := lt_of_block hz2; omega)
                              replace hz2 := (hb.block _ (lt_of_block hz2)).trans hz2
                              generalize V1.alloc (.cells #[] 28) = V2 at *
                              obtain ⟨Z, hZe⟩ : ∃ Z, V1.heap.size = Z := ⟨_, rfl⟩
                              rw [hZe] at hz hzl hzne ⊢
                              clear hZe hb
                              try simp only [Act.put, List.setIfInBounds_toArray, List.set_cons_zero, List.set_cons_succ]
                              refine wpAnyH_ready (rs := [3]) (by kernel_rfl) (by simp) ?_
                              refine AllReadyH.cons (o := { dst := some 85, op := Go.Op.call { callee := Go.Callee.builtin Go.Builtin.append, args := #[Go.Operand.tmp 83, Go.Operand.tmp 84], argTypes := #[29, 29] }, type := 29, pos := "ref.go:120", after := #[{ on := 1, ground := Go.Ground.data }, { on := 2, ground := Go.Ground.data }], guard := none }) rfl (fun K2 hK => ?_) ?_
                              · obtain ⟨y, V3, hrun, hY, hKp, hyb⟩ := app_cp hz (Hx.out.below hS2) hl5
                                have hS3h := Lib.hid (show Below Wl.heap.size Wl V3 from hS2.trans (hKp.below hS2.size (fun i hi e => by have := hzl.out; have := HB6.out.size; omega)))
                                have hR3h := Lib.hid (show Below Wr.heap.size Wr V3 from hR2.trans (hKp.below hR2.size (fun i hi e => by have := hzl.out; omega)))
                                have hyl := Lib.hid (show ∀ k, y.ownBlock = some k → Wr.heap.size ≤ k from fun k hk => by have h1 := hzl.out; have h2 := hR2.size; rcases hyb with h | ⟨h, _⟩ <;> (rw [h] at hk; cases hk; omega))
                                have hy2 := Lib.hid (show ¬ Z2 = Z from hzne.out)
                                replace hz2 := (hKp.block _ (lt_of_block hz2) hy2.out).trans hz2
                                clear hyb hKp hz
                                have HY := Lib.hid hY
                                clear hY
                                have HZ2 := Lib.hid hz2
                                clear hz2
                                go_simp
                                have hY := HY.out
                                clear HY
                                have hz2 := HZ2.out
                                clear HZ2
                                refine hK.out _ _ hS3h.out (fun hS3 => ?_)
                                have hR3 := hR3h.out
                                clear hK K2 hS3h hR3h hrun
                                try simp only [Act.put, List.setIfInBounds_toArray, List.set_cons_zero, List.set_cons_succ]
                                refine wpAnyH_ready (rs := [9]) (by kernel_rfl) (by simp) ?_
                                refine AllReadyH.cons (o := { dst := some 91, op := Go.Op.call { callee := Go.Callee.builtin Go.Builtin.append, args := #[Go.Operand.tmp 85, Go.Operand.tmp 90], argTypes := #[29, 29] }, type := 29, pos := "ref.go:120", after := #[{ on := 3, ground := Go.Ground.data }, { on := 8, ground := Go.Ground.data }, { on := 3, ground := Go.Ground.chain }], guard := none }) rfl (fun K2 hK => ?_) ?_
                                · obtain ⟨y2, V4, hrun, hY2, hKp, hyb⟩ := app_st hY (s := s) (by rw [Hcs.out]; exact hz2) hl5
                                  have hS4h := Lib.hid (show Below Wl.heap.size Wl V4 from hS3.trans (hKp.below hS3.size (fun i hi e => by have := hyl.out _ e; have := HB6.out.size; omega)))
                                  have hR4h := Lib.hid (show Below Wr.heap.size Wr V4 from hR3.trans (hKp.below hR3.size (fun i hi e => by have := hyl.out _ e; omega)))
                                  clear hyb hKp hz2 hY
                                  obtain ⟨n9, hn9⟩ : ∃ n9, (l ++ [s]).length = n9 := ⟨_, rfl⟩
                                  obtain ⟨g9, c9, rfl, hc9, ho9⟩ := hY2
                                  rw [hn9] at hrun ho9 hc9
                                  have HY := Lib.hid (show Own1 V4 (.slice (some ⟨g9, 0, none⟩) n9 c9) (l ++ [s]) from ⟨g9, c9, by rw [hn9], by rw [hn9]; exact hc9, by rw [hn9]; exact ho9⟩)
                                  clear hn9 hc9 ho9
                                  go_simp
                                  have hY := HY.out
                                  clear HY
                                  refine hK.out _ _ hS4h.out (fun hS4 => ?_)
                                  have hR4 := hR4h.out
                                  clear hK K2 hS4h hR4h hrun
                                  try simp only [Act.put, List.setIfInBounds_toArray, List.set_cons_zero, List.set_cons_succ]
                                  refine wpAnyH_ready (rs := [10]) (by kernel_rfl) (by simp) ?_
                                  refine AllReadyH.cons (o := { dst := some 92, op := Go.Op.buildSlice 92 1 #[(0, Go.Operand.tmp 91)], type := 92, pos := "ref.go:120", after := #[{ on := 9, ground := Go.Ground.data }], guard := none }) rfl (fun K2 hK => ?_) ?_
                                  · go_simp
                                    refine hK.out _ _ (hS4.trans ((below_alloc_ _ _).mono hS4.size)) (fun hS5 => ?_)
                                    clear hK K2
                                    have hz3 := heap_alloc_new_ V4 (.cells #[.slice (some ⟨g9, 0, none⟩) n9 c9] 29)
                                    have hb := below_alloc_ V4 (.cells #[.slice (some ⟨g9, 0, none⟩) n9 c9] 29)
                                    have hR5 := hR4.trans (hb.mono hR4.size)
                                    have hz3l := Lib.hid (show Wr.heap.size ≤ V4.heap.size from hR4.size)
                                    replace hY := hY.below hb
                                    generalize V4.alloc (.cells #[.slice (some ⟨g9, 0, none⟩) n9 c9] 29) = V5 at *
                                    obtain ⟨Z3, hZe⟩ : ∃ Z3, V4.heap.size = Z3 := ⟨_, rfl⟩
                                    rw [hZe] at hz3 hz3l ⊢
                                    clear hZe hb
                                    try simp only [Act.put, List.setIfInBounds_toArray, List.set_cons_zero, List.set_cons_succ]
                                    refine wpAnyH_ready (rs := [11]) (by kernel_rfl) (by simp) ?_
                                    refine AllReadyH.cons (o := { dst := some 93, op := Go.Op.call { callee := Go.Callee.builtin Go.Builtin.append, args := #[Go.Operand.tmp 82, Go.Operand.tmp 92], argTypes := #[92, 92] }, type := 92, pos := "ref.go:120", after := #[{ on := 0, ground := Go.Ground.data }, { on := 10, ground := Go.Ground.data }, { on := 9, ground := Go.Ground.chain }], guard := none }) rfl (fun K2 hK => ?_) ?_
                                    · obtain ⟨v9, V6, hrun, hN9, hKp, hvb⟩ := (HN6.out.below hR5).app hY hz3 HPl.out
                                      have HN9 := Lib.hid (show OwnL V6 v9 (P ++ partL ⟨ps, off, ⟨lo, hi⟩⟩ l (j + 1)) from by rw [Hps.out, ← List.append_assoc]; exact hN9)
                                      have HB9 := Lib.hid (show Below Wl.heap.size Wl V6 from hS5.trans (hKp.below hS5.size (fun i hi e => by have := Hob.out _ e; omega)))
                                      have Hob9 := Lib.hid (show ∀ b, v9.ownBlock = some b → Wl.heap.size ≤ b from fun b hb => by
                                        rcases hvb with h | ⟨h, _⟩
                                        · exact Hob.out _ (h ▸ hb)
                                        · rw [h] at hb
                                          cases hb
                                          exact hS5.size)
                                      clear hN9 hKp hvb hz3 hY
                                      go_simp
                                      refine hK.out _ _ HB9.out (fun hS6 => ?_)
                                      clear hK K2 hrun
                                      try simp only [Act.put, List.setIfInBounds_toArray, List.set_cons_zero, List.set_cons_succ]
                                      refine wpAnyH_take (i := 12) (oi := { dst := some 5, op := Go.Op.assign (Go.Operand.tmp 93), type := 92, pos := "ref.go:120", after := #[{ on := 11, ground := Go.Ground.data }, { on := 11, ground := Go.Ground.chain }, { on := 0, ground := Go.Ground.phase }, { on := 1, ground := Go.Ground.phase }, { on := 2, ground := Go.Ground.phase }, { on := 3, ground := Go.Ground.phase }, { on := 4, ground := Go.Ground.phase }, { on := 5, ground := Go.Ground.phase }, { on := 6, ground := Go.Ground.phase }, { on := 7, ground := Go.Ground.phase }, { on := 8, ground := Go.Ground.phase }, { on := 9, ground := Go.Ground.phase }, { on := 10, ground := Go.Ground.phase }, { on := 11, ground := Go.Ground.phase }], guard := none }) (v := v9) rfl (by kernel_rfl) (by kernel_rfl) (by kernel_rfl) (fun _ _ _ h => h) (Or.inl ⟨by rfl, by intro w2 hSw; (try dsimp only at hSw);  go_simp⟩) hS6 ?_
                                      try simp only [Act.put, List.setIfInBounds_toArray, List.set_cons_zero, List.set_cons_succ]
                                      refine wpAnyH_done (by kernel_rfl) ?_ _
                                      skip
                                      go_wp2_with fail
                                      go_roundw
                                      case rel => exact ⟨j + 1, by go_num, by omega, HN9.out, Hob9.out, HB9.out⟩
                                      case measure => simp [intOf]; omega
                                    exact AllReadyH.nil
                                  exact AllReadyH.nil
                                exact AllReadyH.nil
                              exact AllReadyH.nil
                            exact AllReadyH.nil
                          exact AllReadyH.nil
              · obtain rfl : m4 = j := by omega
                have i2 : ¬ (m4 : Int) < (m4 : Int) := by omega
                have HN2 := Lib.hid (show OwnL Wj u5 (((pre ⟨ps, off, ⟨lo, hi⟩⟩ d).take (k + 1)).flatMap (longer ⟨ps, off, ⟨lo, hi⟩⟩)) from by
                  rw [take_flat _ _ hkp, HP.out, Hl.out]
                  have := part_end ⟨ps, off, ⟨lo, hi⟩⟩ l
                  rw [show (codesL (⟨ps, off, ⟨lo, hi⟩⟩ : Cy).ps).length = m4 from Hm4.out] at this
                  rw [← this]
                  exact HN.out)
                clear hlj
                go_wp2_with fail
                go_roundw
                case rel => exact ⟨k + 1, by go_num, by omega, HN2.out, Hob.out, HB3.out⟩
                case measure => simp [intOf]; omega
          · obtain rfl : q = k := by omega
            have i2 : ¬ (q : Int) < (q : Int) := by omega
            have HN2 := Lib.hid (show OwnL Wk u5 (pre ⟨ps, off, ⟨lo, hi⟩⟩ (d + 1)) from by
              rw [pre_succ]
              have := HN.out
              rw [List.take_of_length_le (by rw [Hq.out]; exact Nat.le_refl _)] at this
              exact this)
            have HB4 := Lib.hid (HBl.out.trans (HB2.out.mono HBl.out.size))
            clear hB2 hlt
            go_wp2_with fail
            go_roundw
            case rel => exact ⟨d + 1, by omega, HN2.out, HB4.out⟩
            case measure =>
              have h1 := lenMu_le n HN2.out
              have h2 := Hmu.out
              omega
      · obtain rfl : n = d := by omega
        have i1 : ¬ (n : Int) < (n : Int) := by omega
        have i2 : 0 < q := hq0
        have Hend := Lib.hid (show pre ⟨ps, off, ⟨lo, hi⟩⟩ n = joinsC ⟨ps, off, ⟨lo, hi⟩⟩ from by
          rw [← pre_joins]
          rw [show (⟨ps, off, ⟨lo, hi⟩⟩ : Cy).ps.length = n from Hpl.out])
        clear hcell hpos hq hcp hl0 hx0
        go_wp2_with fail
        refine wp_region_held_drew (S := fun w2 => Below wr.heap.size wr w2) (by kernel_rfl) (drew_b _ _) (fun hS0 => ?_)
        refine wpAnyH_take (i := 0) (oi := { dst := some 15, op := Go.Op.move (Go.Operand.tmp 3), type := 92, pos := "ref.go:110", after := #[], guard := none }) (v := .slice (some ⟨g, 0, none⟩) q cp) rfl (by kernel_rfl) (by kernel_rfl) (by kernel_rfl) (fun _ _ _ h => h) (Or.inl ⟨by rfl, by intro w2 hSw; (try dsimp only at hSw); have c0 : w2.cell? ⟨B, 0, none⟩ = some (.slice A n cap) := ((K.out.next HB.out).next hSw).c.1; have hx0 : w2.cell? ⟨g, 0, none⟩ = some (.slice (some ⟨g0, 0, none⟩) n cap0) := (hSw.cell (p := ⟨g, 0, none⟩) (lt_of_cell hx0')).trans hx0'; go_simp⟩) hS0 ?_
        try simp only [Act.put, List.setIfInBounds_toArray, List.set_cons_zero, List.set_cons_succ]
        refine wpAnyH_take (i := 1) (oi := { dst := some 16, op := Go.Op.call { callee := Go.Callee.builtin Go.Builtin.len, args := #[Go.Operand.tmp 15], argTypes := #[92] }, type := 3, pos := "ref.go:110", after := #[{ on := 0, ground := Go.Ground.data }], guard := none }) (v := .int .i64 (q : Int)) rfl (by kernel_rfl) (by kernel_rfl) (by kernel_rfl) (fun _ _ _ h => h) (Or.inl ⟨by rfl, by intro w2 hSw; (try dsimp only at hSw); have c0 : w2.cell? ⟨B, 0, none⟩ = some (.slice A n cap) := ((K.out.next HB.out).next hSw).c.1; have hx0 : w2.cell? ⟨g, 0, none⟩ = some (.slice (some ⟨g0, 0, none⟩) n cap0) := (hSw.cell (p := ⟨g, 0, none⟩) (lt_of_cell hx0')).trans hx0'; go_simp⟩) hS0 ?_
        try simp only [Act.put, List.setIfInBounds_toArray, List.set_cons_zero, List.set_cons_succ]
        refine wpAnyH_take (i := 2) (oi := { dst := some 17, op := Go.Op.binOp Go.BinOp.gtr 3 (Go.Operand.tmp 16) (Go.Operand.const (Go.Value.int Go.IntKind.i64 0)) 3, type := 4, pos := "ref.go:110", after := #[{ on := 1, ground := Go.Ground.data }], guard := none }) (v := .bool true) rfl (by kernel_rfl) (by kernel_rfl) (by kernel_rfl) (fun _ _ _ h => h) (Or.inl ⟨by rfl, by intro w2 hSw; (try dsimp only at hSw); have c0 : w2.cell? ⟨B, 0, none⟩ = some (.slice A n cap) := ((K.out.next HB.out).next hSw).c.1; have hx0 : w2.cell? ⟨g, 0, none⟩ = some (.slice (some ⟨g0, 0, none⟩) n cap0) := (hSw.cell (p := ⟨g, 0, none⟩) (lt_of_cell hx0')).trans hx0'; go_simp⟩) hS0 ?_
        try simp only [Act.put, List.setIfInBounds_toArray, List.set_cons_zero, List.set_cons_succ]
        refine wpAnyH_take (i := 3) (oi := { dst := some 18, op := Go.Op.move (Go.Operand.tmp 17), type := 4, pos := "ref.go:110", after := #[{ on := 2, ground := Go.Ground.data }], guard := none }) (v := .bool true) rfl (by kernel_rfl) (by kernel_rfl) (by kernel_rfl) (fun _ _ _ h => h) (Or.inl ⟨by rfl, by intro w2 hSw; (try dsimp only at hSw); have c0 : w2.cell? ⟨B, 0, none⟩ = some (.slice A n cap) := ((K.out.next HB.out).next hSw).c.1; have hx0 : w2.cell? ⟨g, 0, none⟩ = some (.slice (some ⟨g0, 0, none⟩) n cap0) := (hSw.cell (p := ⟨g, 0, none⟩) (lt_of_cell hx0')).trans hx0'; go_simp⟩) hS0 ?_
        try simp only [Act.put, List.setIfInBounds_toArray, List.set_cons_zero, List.set_cons_succ]
        refine wpAnyH_take (i := 4) (oi := { dst := some 19, op := Go.Op.move (Go.Operand.tmp 3), type := 92, pos := "ref.go:110", after := #[{ on := 3, ground := Go.Ground.guard }], guard := some (3, true) }) (v := .slice (some ⟨g, 0, none⟩) q cp) rfl (by kernel_rfl) (by kernel_rfl) (by kernel_rfl) (fun _ _ _ h => h) (Or.inl ⟨by rfl, by intro w2 hSw; (try dsimp only at hSw); have c0 : w2.cell? ⟨B, 0, none⟩ = some (.slice A n cap) := ((K.out.next HB.out).next hSw).c.1; have hx0 : w2.cell? ⟨g, 0, none⟩ = some (.slice (some ⟨g0, 0, none⟩) n cap0) := (hSw.cell (p := ⟨g, 0, none⟩) (lt_of_cell hx0')).trans hx0'; go_simp⟩) hS0 ?_
        try simp only [Act.put, List.setIfInBounds_toArray, List.set_cons_zero, List.set_cons_succ]
        refine wpAnyH_take (i := 5) (oi := { dst := some 20, op := Go.Op.indexAddr 92 (Go.Operand.tmp 19) (Go.Operand.const (Go.Value.int Go.IntKind.i64 0)), type := 0, pos := "ref.go:110", after := #[{ on := 4, ground := Go.Ground.data }, { on := 3, ground := Go.Ground.guard }], guard := some (3, true) }) (v := .pointer (some ⟨g, 0, none⟩)) rfl (by kernel_rfl) (by kernel_rfl) (by kernel_rfl) (fun _ _ _ h => h) (Or.inl ⟨by rfl, by intro w2 hSw; (try dsimp only at hSw); have c0 : w2.cell? ⟨B, 0, none⟩ = some (.slice A n cap) := ((K.out.next HB.out).next hSw).c.1; have hx0 : w2.cell? ⟨g, 0, none⟩ = some (.slice (some ⟨g0, 0, none⟩) n cap0) := (hSw.cell (p := ⟨g, 0, none⟩) (lt_of_cell hx0')).trans hx0'; go_simp⟩) hS0 ?_
        try simp only [Act.put, List.setIfInBounds_toArray, List.set_cons_zero, List.set_cons_succ]
        refine wpAnyH_take (i := 6) (oi := { dst := some 21, op := Go.Op.load 29 (Go.Operand.tmp 20), type := 29, pos := "ref.go:110", after := #[{ on := 5, ground := Go.Ground.data }, { on := 3, ground := Go.Ground.guard }], guard := some (3, true) }) (v := .slice (some ⟨g0, 0, none⟩) n cap0) rfl (by kernel_rfl) (by kernel_rfl) (by kernel_rfl) (fun _ _ _ h => h) (Or.inl ⟨by rfl, by intro w2 hSw; (try dsimp only at hSw); have c0 : w2.cell? ⟨B, 0, none⟩ = some (.slice A n cap) := ((K.out.next HB.out).next hSw).c.1; have hx0 : w2.cell? ⟨g, 0, none⟩ = some (.slice (some ⟨g0, 0, none⟩) n cap0) := (hSw.cell (p := ⟨g, 0, none⟩) (lt_of_cell hx0')).trans hx0'; go_simp⟩) hS0 ?_
        try simp only [Act.put, List.setIfInBounds_toArray, List.set_cons_zero, List.set_cons_succ]
        refine wpAnyH_take (i := 7) (oi := { dst := some 22, op := Go.Op.call { callee := Go.Callee.builtin Go.Builtin.len, args := #[Go.Operand.tmp 21], argTypes := #[29] }, type := 3, pos := "ref.go:110", after := #[{ on := 6, ground := Go.Ground.data }, { on := 3, ground := Go.Ground.guard }], guard := some (3, true) }) (v := .int .i64 (n : Int)) rfl (by kernel_rfl) (by kernel_rfl) (by kernel_rfl) (fun _ _ _ h => h) (Or.inl ⟨by rfl, by intro w2 hSw; (try dsimp only at hSw); have c0 : w2.cell? ⟨B, 0, none⟩ = some (.slice A n cap) := ((K.out.next HB.out).next hSw).c.1; have hx0 : w2.cell? ⟨g, 0, none⟩ = some (.slice (some ⟨g0, 0, none⟩) n cap0) := (hSw.cell (p := ⟨g, 0, none⟩) (lt_of_cell hx0')).trans hx0'; go_simp⟩) hS0 ?_
        try simp only [Act.put, List.setIfInBounds_toArray, List.set_cons_zero, List.set_cons_succ]
        refine wpAnyH_take (i := 8) (oi := { dst := some 23, op := Go.Op.fieldAddr 26 (Go.Operand.tmp 1) 0, type := 0, pos := "ref.go:110", after := #[{ on := 3, ground := Go.Ground.guard }], guard := some (3, true) }) (v := .pointer (some ⟨B, 0, none⟩)) rfl (by kernel_rfl) (by kernel_rfl) (by kernel_rfl) (fun _ _ _ h => h) (Or.inl ⟨by rfl, by intro w2 hSw; (try dsimp only at hSw); have c0 : w2.cell? ⟨B, 0, none⟩ = some (.slice A n cap) := ((K.out.next HB.out).next hSw).c.1; have hx0 : w2.cell? ⟨g, 0, none⟩ = some (.slice (some ⟨g0, 0, none⟩) n cap0) := (hSw.cell (p := ⟨g, 0, none⟩) (lt_of_cell hx0')).trans hx0'; go_simp⟩) hS0 ?_
        try simp only [Act.put, List.setIfInBounds_toArray, List.set_cons_zero, List.set_cons_succ]
        refine wpAnyH_take (i := 9) (oi := { dst := some 24, op := Go.Op.load 22 (Go.Operand.tmp 23), type := 22, pos := "ref.go:110", after := #[{ on := 8, ground := Go.Ground.data }, { on := 3, ground := Go.Ground.guard }], guard := some (3, true) }) (v := .slice A n cap) rfl (by kernel_rfl) (by kernel_rfl) (by kernel_rfl) (fun _ _ _ h => h) (Or.inl ⟨by rfl, by intro w2 hSw; (try dsimp only at hSw); have c0 : w2.cell? ⟨B, 0, none⟩ = some (.slice A n cap) := ((K.out.next HB.out).next hSw).c.1; have hx0 : w2.cell? ⟨g, 0, none⟩ = some (.slice (some ⟨g0, 0, none⟩) n cap0) := (hSw.cell (p := ⟨g, 0, none⟩) (lt_of_cell hx0')).trans hx0'; go_simp⟩) hS0 ?_
        try simp only [Act.put, List.setIfInBounds_toArray, List.set_cons_zero, List.set_cons_succ]
        refine wpAnyH_take (i := 10) (oi := { dst := some 25, op := Go.Op.call { callee := Go.Callee.builtin Go.Builtin.len, args := #[Go.Operand.tmp 24], argTypes := #[22] }, type := 3, pos := "ref.go:110", after := #[{ on := 9, ground := Go.Ground.data }, { on := 3, ground := Go.Ground.guard }], guard := some (3, true) }) (v := .int .i64 (n : Int)) rfl (by kernel_rfl) (by kernel_rfl) (by kernel_rfl) (fun _ _ _ h => h) (Or.inl ⟨by rfl, by intro w2 hSw; (try dsimp only at hSw); have c0 : w2.cell? ⟨B, 0, none⟩ = some (.slice A n cap) := ((K.out.next HB.out).next hSw).c.1; have hx0 : w2.cell? ⟨g, 0, none⟩ = some (.slice (some ⟨g0, 0, none⟩) n cap0) := (hSw.cell (p := ⟨g, 0, none⟩) (lt_of_cell hx0')).trans hx0'; go_simp⟩) hS0 ?_
        try simp only [Act.put, List.setIfInBounds_toArray, List.set_cons_zero, List.set_cons_succ]
        refine wpAnyH_take (i := 11) (oi := { dst := some 26, op := Go.Op.binOp Go.BinOp.lss 3 (Go.Operand.tmp 22) (Go.Operand.tmp 25) 3, type := 4, pos := "ref.go:110", after := #[{ on := 7, ground := Go.Ground.data }, { on := 10, ground := Go.Ground.data }, { on := 3, ground := Go.Ground.guard }], guard := some (3, true) }) (v := .bool false) rfl (by kernel_rfl) (by kernel_rfl) (by kernel_rfl) (fun _ _ _ h => h) (Or.inl ⟨by rfl, by intro w2 hSw; (try dsimp only at hSw); have c0 : w2.cell? ⟨B, 0, none⟩ = some (.slice A n cap) := ((K.out.next HB.out).next hSw).c.1; have hx0 : w2.cell? ⟨g, 0, none⟩ = some (.slice (some ⟨g0, 0, none⟩) n cap0) := (hSw.cell (p := ⟨g, 0, none⟩) (lt_of_cell hx0')).trans hx0'; go_simp⟩) hS0 ?_
        try simp only [Act.put, List.setIfInBounds_toArray, List.set_cons_zero, List.set_cons_succ]
        refine wpAnyH_take (i := 12) (oi := { dst := some 27, op := Go.Op.pick (Go.Operand.tmp 18) (Go.Operand.tmp 26) (Go.Operand.const (Go.Value.bool false)), type := 4, pos := "ref.go:110", after := #[{ on := 3, ground := Go.Ground.data }, { on := 11, ground := Go.Ground.data }], guard := none }) (v := .bool false) rfl (by kernel_rfl) (by kernel_rfl) (by kernel_rfl) (fun _ _ _ h => h) (Or.inl ⟨by rfl, by intro w2 hSw; (try dsimp only at hSw); have c0 : w2.cell? ⟨B, 0, none⟩ = some (.slice A n cap) := ((K.out.next HB.out).next hSw).c.1; have hx0 : w2.cell? ⟨g, 0, none⟩ = some (.slice (some ⟨g0, 0, none⟩) n cap0) := (hSw.cell (p := ⟨g, 0, none⟩) (lt_of_cell hx0')).trans hx0'; go_simp⟩) hS0 ?_
        try simp only [Act.put, List.setIfInBounds_toArray, List.set_cons_zero, List.set_cons_succ]
        refine wpAnyH_done (by kernel_rfl) ?_ _
        replace hS0 := HB.out.trans (hS0.mono HB.out.size)
        have HF := Lib.hid (K.out.next hS0).below
        have HLF := Lib.hid (HL.out.below (drew_b wr 1))
        clear hS0
        go_wp2_with fail
        refine bodyPost_ret (v := .slice (some ⟨g, 0, none⟩) q cp) (by simp [results, Try.results52, go_sem]) rfl ⟨_, rfl, ?_, HF.out⟩
        rw [← Hend.out]
        exact HLF.out
end Go.Proofs.Ytfmcfalghbaanaa

namespace Go.Proofs.Ytfmcfalghbaanaa
set_option linter.unusedSimpArgs false
set_option linter.unusedVariables false
open Go.RowKit Go.Shelf
attribute [local go_sem] Oper.semAt_some

set_option maxRecDepth 100000 in
set_option maxHeartbeats 4000000 in
theorem count22 (A : Option Addr) (n cap : Nat) (off lo hi : Int) (ps : List Pc) (w : World) (h : Pcs w A n ps) (hn : n ≤ 9223372036854775807) (hc : chkC ⟨ps, off, ⟨lo, hi⟩⟩ = 0 → n ≤ 5) :
    Calls Try.prog 22 #[cyl A n cap off lo hi] w fun e w' => e = .returned (.tuple #[.int .i64 (countR ⟨ps, off, ⟨lo, hi⟩⟩).1, .int .i64 (countR ⟨ps, off, ⟨lo, hi⟩⟩).2]) ∧ Below w.heap.size w w' := by
  have hk : Kz w w.heap.size A n cap off lo hi ps none 0 [] _ := Kz.new (cap := cap) (off := off) (lo := lo) (hi := hi) h ⟨rfl, by omega⟩
  have K := Lib.hid hk
  have Hn := Lib.hid hn
  have Hc := Lib.hid hc
  clear h hn hk hc
  unfold cyl
  go_enter Try.func22, Try.ntmps22
  go_wp2_with fail
  generalize (w.alloc (.cells #[.slice A n cap, .int .i64 off, .int .i64 lo, .int .i64 hi] 26)) = W0 at K ⊢
  obtain ⟨B, hB⟩ : ∃ B, w.heap.size = B := ⟨_, rfl⟩
  replace K := Lib.hid (show Kz w B A n cap off lo hi ps none 0 [] W0 from by rw [← hB]; exact K.out)
  rw [hB]
  clear hB
  refine (checkCyl17 A n cap off lo hi ps W0 K.out.pcs Hn.out).mono ?_
  rintro e W1 ⟨rfl, hb⟩
  replace K := Lib.hid (K.out.next hb)
  clear hb
  obtain ⟨r, hr⟩ : ∃ r, chkC ⟨ps, off, ⟨lo, hi⟩⟩ = r := ⟨_, rfl⟩
  rw [hr]
  have Hr := Lib.hid hr
  clear hr
  obtain ⟨c0, c1, c2, c3⟩ := K.out.c
  by_cases hr0 : r = 0
  · subst hr0
    go_wp2_with fail
    refine (all52 A n cap off lo hi ps _ K.out.pcs (Hc.out Hr.out) Hr.out).mono ?_
    rintro e W2 ⟨v, rfl, hL, hb⟩
    replace K := Lib.hid (K.out.next hb)
    have HL := Lib.hid hL
    obtain ⟨D, cp, rfl, hcp, hpos, hcell⟩ := hL.read
    obtain ⟨N, hN⟩ : ∃ N, (joinsC ⟨ps, off, ⟨lo, hi⟩⟩).length = N := ⟨_, rfl⟩
    have HN := Lib.hid hN
    rw [hN] at hcp hpos ⊢
    clear hb c0 c1 c2 c3 hL hN
    clear hcell hpos hcp
    have HF := Lib.hid K.out.below
    go_wp2_with fail
    refine bodyPost_ret (v := .tuple #[.int .i64 (N : Int), .int .i64 0]) (by simp [results, Try.results22, go_sem]) rfl ⟨?_, HF.out⟩
    rw [countR_ok Hr.out, HN.out]
  · have dr : (r != 0) = true := by rw [bne_iff_ne]; exact hr0
    have Hr0 := Lib.hid hr0
    clear hr0
    go_wp2_with fail
    refine (checkCyl17 A n cap off lo hi ps _ K.out.pcs Hn.out).mono ?_
    rintro e W2 ⟨rfl, hb⟩
    rw [Hr.out]
    replace K := Lib.hid (K.out.next hb)
    have HF := Lib.hid K.out.below
    clear hb c0 c1 c2 c3
    go_wp2_with fail
    refine bodyPost_ret (v := .tuple #[.int .i64 0, .int .i64 r]) (by simp [results, Try.results22, go_sem]) rfl ⟨?_, HF.out⟩
    rw [show countR ⟨ps, off, ⟨lo, hi⟩⟩ = (0, r) from by unfold countR; rw [if_pos (by rw [Hr.out]; exact Hr0.out), Hr.out]]

set_option maxRecDepth 100000 in
set_option maxHeartbeats 4000000 in
theorem nth24 (A : Option Addr) (n cap : Nat) (off lo hi num : Int) (ps : List Pc) (w : World) (h : Pcs w A n ps) (hn : n ≤ 9223372036854775807) (hc : chkC ⟨ps, off, ⟨lo, hi⟩⟩ = 0 → n ≤ 5) :
    Calls Try.prog 24 #[cyl A n cap off lo hi, .int .i64 num] w fun e w' => ∃ C m cp, e = .returned (.tuple #[.slice C m cp, .int .i64 (nthR ⟨ps, off, ⟨lo, hi⟩⟩ num).2]) ∧ m ≤ cp ∧ Sts w' C m (nthR ⟨ps, off, ⟨lo, hi⟩⟩ num).1 ∧ Below w.heap.size w w' := by
  have hk : Kz w w.heap.size A n cap off lo hi ps none 0 [] _ := Kz.new (cap := cap) (off := off) (lo := lo) (hi := hi) h ⟨rfl, by omega⟩
  have K := Lib.hid hk
  have Hn := Lib.hid hn
  have Hc := Lib.hid hc
  clear h hn hk hc
  unfold cyl
  go_enter Try.func24, Try.ntmps24
  go_wp2_with fail
  generalize (w.alloc (.cells #[.slice A n cap, .int .i64 off, .int .i64 lo, .int .i64 hi] 26)) = W0 at K ⊢
  obtain ⟨B, hB⟩ : ∃ B, w.heap.size = B := ⟨_, rfl⟩
  replace K := Lib.hid (show Kz w B A n cap off lo hi ps none 0 [] W0 from by rw [← hB]; exact K.out)
  rw [hB]
  clear hB
  refine (checkCyl17 A n cap off lo hi ps W0 K.out.pcs Hn.out).mono ?_
  rintro e W1 ⟨rfl, hb⟩
  replace K := Lib.hid (K.out.next hb)
  clear hb
  obtain ⟨r, hr⟩ : ∃ r, chkC ⟨ps, off, ⟨lo, hi⟩⟩ = r := ⟨_, rfl⟩
  rw [hr]
  have Hr := Lib.hid hr
  clear hr
  obtain ⟨c0, c1, c2, c3⟩ := K.out.c
  by_cases hr0 : r = 0
  · subst hr0
    go_wp2_with fail
    refine (all52 A n cap off lo hi ps _ K.out.pcs (Hc.out Hr.out) Hr.out).mono ?_
    rintro e W2 ⟨v, rfl, hL, hb⟩
    replace K := Lib.hid (K.out.next hb)
    have HL := Lib.hid hL
    obtain ⟨D, cp, rfl, hcp, hpos, hcell⟩ := hL.read
    obtain ⟨N, hN⟩ : ∃ N, (joinsC ⟨ps, off, ⟨lo, hi⟩⟩).length = N := ⟨_, rfl⟩
    have HN := Lib.hid hN
    rw [hN] at hcp hpos ⊢
    clear hb c0 c1 c2 c3 hL hN
    have HF := Lib.hid K.out.below
    by_cases h1 : num < 0
    · have d1 : decide (num < 0) = true := decide_eq_true h1
      have Hnr := Lib.hid (nth_over (c := ⟨ps, off, ⟨lo, hi⟩⟩) (k := num) Hr.out (.inl h1))
      clear hcell hpos hcp h1
      go_wp2_with fail
      refine bodyPost_ret (v := .tuple #[.slice none 0 0, .int .i64 3]) (by simp [results, Try.results24, go_sem]) rfl ⟨none, 0, 0, by rw [Hnr.out], Nat.le_refl _, by rw [Hnr.out]; exact ⟨rfl, by omega⟩, HF.out⟩
    · by_cases h2 : (N : Int) ≤ num
      · have Hnr := Lib.hid (nth_over (c := ⟨ps, off, ⟨lo, hi⟩⟩) (k := num) Hr.out (.inr (by rw [HN.out]; exact h2)))
        have d1 : decide (num < 0) = false := decide_eq_false h1
        have d2 : decide ((N : Int) ≤ num) = true := decide_eq_true h2
        clear hcell hpos hcp
        go_wp2_with fail
        refine bodyPost_ret (v := .tuple #[.slice none 0 0, .int .i64 3]) (by simp [results, Try.results24, go_sem]) rfl ⟨none, 0, 0, by rw [Hnr.out], Nat.le_refl _, by rw [Hnr.out]; exact ⟨rfl, by omega⟩, HF.out⟩
      · obtain ⟨k, rfl⟩ : ∃ k : Nat, num = (k : Int) := ⟨num.toNat, by omega⟩
        have hkj : k < (joinsC ⟨ps, off, ⟨lo, hi⟩⟩).length := by rw [HN.out]; omega
        have Hnr := Lib.hid (nth_at Hr.out hkj)
        obtain ⟨g, x, rfl, hx, ho⟩ := hcell k hkj
        obtain ⟨gx, cx, rfl, hcx, hS⟩ := ho.sts
        have HS := Lib.hid hS
        have Hcx := Lib.hid hcx
        obtain ⟨ln, hln⟩ : ∃ ln, ((joinsC ⟨ps, off, ⟨lo, hi⟩⟩)[k]).length = ln := ⟨_, rfl⟩
        rw [hln] at hx HS Hcx
        have i0 : (0 : Int) ≤ (k : Int) := by omega
        have i1 : (k : Int) < (N : Int) := by omega
        have i2 : ¬ (N : Int) ≤ (k : Int) := h2
        have i3 : ¬ N ≤ k := by omega
        have i4 : k < N := by omega
        clear hcell hpos hcp h1 h2 ho hS hcx hln
        go_wp2_with fail
        refine bodyPost_ret (v := .tuple #[.slice (some ⟨gx, 0, none⟩) ln cx, .int .i64 0]) (by simp [results, Try.results24, go_sem]) rfl ⟨_, ln, cx, by rw [Hnr.out], Hcx.out, by rw [Hnr.out]; exact HS.out, HF.out⟩
  · have dr : (r != 0) = true := by rw [bne_iff_ne]; exact hr0
    have Hr0 := Lib.hid hr0
    clear hr0
    go_wp2_with fail
    refine (checkCyl17 A n cap off lo hi ps _ K.out.pcs Hn.out).mono ?_
    rintro e W2 ⟨rfl, hb⟩
    rw [Hr.out]
    replace K := Lib.hid (K.out.next hb)
    have HF := Lib.hid K.out.below
    clear hb c0 c1 c2 c3
    go_wp2_with fail
    refine bodyPost_ret (v := .tuple #[.slice none 0 0, .int .i64 r]) (by simp [results, Try.results24, go_sem]) rfl ⟨none, 0, 0, ?_, Nat.le_refl _, ?_, HF.out⟩
    · rw [show nthR ⟨ps, off, ⟨lo, hi⟩⟩ num = ([], r) from by unfold nthR; rw [if_pos (by rw [Hr.out]; exact Hr0.out), Hr.out]]
    · rw [show nthR ⟨ps, off, ⟨lo, hi⟩⟩ num = ([], r) from by unfold nthR; rw [if_pos (by rw [Hr.out]; exact Hr0.out), Hr.out]]
      exact ⟨rfl, by omega⟩

set_option maxRecDepth 100000 in
set_option maxHeartbeats 4000000 in
theorem only28 (A : Option Addr) (n cap : Nat) (off lo hi : Int) (ps : List Pc) (w : World) (h : Pcs w A n ps) (hn : n ≤ 9223372036854775807) (hc : chkC ⟨ps, off, ⟨lo, hi⟩⟩ = 0 → n ≤ 5) :
    Calls Try.prog 28 #[cyl A n cap off lo hi] w fun e w' => ∃ C m cp, e = .returned (.tuple #[.slice C m cp, .int .i64 (onlyR ⟨ps, off, ⟨lo, hi⟩⟩).2]) ∧ m ≤ cp ∧ Sts w' C m (onlyR ⟨ps, off, ⟨lo, hi⟩⟩).1 ∧ Below w.heap.size w w' := by
  have hk : Kz w w.heap.size A n cap off lo hi ps none 0 [] _ := Kz.new (cap := cap) (off := off) (lo := lo) (hi := hi) h ⟨rfl, by omega⟩
  have K := Lib.hid hk
  have Hn := Lib.hid hn
  have Hc := Lib.hid hc
  clear h hn hk hc
  unfold cyl
  go_enter Try.func28, Try.ntmps28
  go_wp2_with fail
  generalize (w.alloc (.cells #[.slice A n cap, .int .i64 off, .int .i64 lo, .int .i64 hi] 26)) = W0 at K ⊢
  obtain ⟨B, hB⟩ : ∃ B, w.heap.size = B := ⟨_, rfl⟩
  replace K := Lib.hid (show Kz w B A n cap off lo hi ps none 0 [] W0 from by rw [← hB]; exact K.out)
  rw [hB]
  clear hB
  refine (checkCyl17 A n cap off lo hi ps W0 K.out.pcs Hn.out).mono ?_
  rintro e W1 ⟨rfl, hb⟩
  replace K := Lib.hid (K.out.next hb)
  clear hb
  obtain ⟨r, hr⟩ : ∃ r, chkC ⟨ps, off, ⟨lo, hi⟩⟩ = r := ⟨_, rfl⟩
  rw [hr]
  have Hr := Lib.hid hr
  clear hr
  obtain ⟨c0, c1, c2, c3⟩ := K.out.c
  by_cases hr0 : r = 0
  · subst hr0
    go_wp2_with fail
    refine (all52 A n cap off lo hi ps _ K.out.pcs (Hc.out Hr.out) Hr.out).mono ?_
    rintro e W2 ⟨v, rfl, hL, hb⟩
    replace K := Lib.hid (K.out.next hb)
    have HL := Lib.hid hL
    obtain ⟨D, cp, rfl, hcp, hpos, hcell⟩ := hL.read
    obtain ⟨N, hN⟩ : ∃ N, (joinsC ⟨ps, off, ⟨lo, hi⟩⟩).length = N := ⟨_, rfl⟩
    have HN := Lib.hid hN
    rw [hN] at hcp hpos ⊢
    clear hb c0 c1 c2 c3 hL hN
    have HF := Lib.hid K.out.below
    by_cases h1 : N = 0
    · subst h1
      have Hor := Lib.hid (show onlyR ⟨ps, off, ⟨lo, hi⟩⟩ = ([], 5) from by unfold onlyR; rw [if_neg (by rw [Hr.out]; simp), HN.out, if_pos rfl])
      clear hcell hpos hcp
      go_wp2_with fail
      refine bodyPost_ret (v := .tuple #[.slice none 0 0, .int .i64 5]) (by simp [results, Try.results28, go_sem]) rfl ⟨none, 0, 0, by rw [Hor.out], Nat.le_refl _, by rw [Hor.out]; exact ⟨rfl, by omega⟩, HF.out⟩
    · by_cases h2 : N = 1
      · subst h2
        have hkj : 0 < (joinsC ⟨ps, off, ⟨lo, hi⟩⟩).length := by rw [HN.out]; omega
        have Hor := Lib.hid (show onlyR ⟨ps, off, ⟨lo, hi⟩⟩ = ((joinsC ⟨ps, off, ⟨lo, hi⟩⟩)[0].map stC, 0) from by
          unfold onlyR
          rw [if_neg (by rw [Hr.out]; simp), HN.out, if_neg (by simp), if_pos rfl]
          simp [hkj])
        obtain ⟨g, x, rfl, hx, ho⟩ := hcell 0 hkj
        obtain ⟨gx, cx, rfl, hcx, hS⟩ := ho.sts
        have HS := Lib.hid hS
        have Hcx := Lib.hid hcx
        obtain ⟨ln, hln⟩ : ∃ ln, ((joinsC ⟨ps, off, ⟨lo, hi⟩⟩)[0]).length = ln := ⟨_, rfl⟩
        rw [hln] at hx HS Hcx
        clear hcell hpos hcp h1 ho hS hcx hln
        go_wp2_with fail
        refine bodyPost_ret (v := .tuple #[.slice (some ⟨gx, 0, none⟩) ln cx, .int .i64 0]) (by simp [results, Try.results28, go_sem]) rfl ⟨_, ln, cx, by rw [Hor.out], Hcx.out, by rw [Hor.out]; exact HS.out, HF.out⟩
      · have Hor := Lib.hid (show onlyR ⟨ps, off, ⟨lo, hi⟩⟩ = ([], 6) from by unfold onlyR; rw [if_neg (by rw [Hr.out]; simp), HN.out, if_neg h1, if_neg h2])
        have z2 : ((N : Int) == 0) = false := by rw [beq_eq_false_iff_ne]; omega
        have z3 : (1 : Int) < (N : Int) := by omega
        have z4 : 1 < N := by omega
        clear hcell hpos hcp h1 h2
        go_wp2_with fail
        refine bodyPost_ret (v := .tuple #[.slice none 0 0, .int .i64 6]) (by simp [results, Try.results28, go_sem]) rfl ⟨none, 0, 0, by rw [Hor.out], Nat.le_refl _, by rw [Hor.out]; exact ⟨rfl, by omega⟩, HF.out⟩
  · have dr : (r != 0) = true := by rw [bne_iff_ne]; exact hr0
    have Hr0 := Lib.hid hr0
    clear hr0
    go_wp2_with fail
    refine (checkCyl17 A n cap off lo hi ps _ K.out.pcs Hn.out).mono ?_
    rintro e W2 ⟨rfl, hb⟩
    rw [Hr.out]
    replace K := Lib.hid (K.out.next hb)
    have HF := Lib.hid K.out.below
    clear hb c0 c1 c2 c3
    go_wp2_with fail
    have Hor := Lib.hid (show onlyR ⟨ps, off, ⟨lo, hi⟩⟩ = ([], r) from by unfold onlyR; rw [if_pos (by rw [Hr.out]; exact Hr0.out), Hr.out])
    refine bodyPost_ret (v := .tuple #[.slice none 0 0, .int .i64 r]) (by simp [results, Try.results28, go_sem]) rfl ⟨none, 0, 0, by rw [Hor.out], Nat.le_refl _, by rw [Hor.out]; exact ⟨rfl, by omega⟩, HF.out⟩

set_option maxRecDepth 100000 in
set_option maxHeartbeats 4000000 in
theorem rank26 (A : Option Addr) (n cap : Nat) (off lo hi : Int) (ps : List Pc) (C : Option Addr) (m cl : Nat) (ss : List St) (w : World) (h : Pcs w A n ps) (hs : Sts w C m ss) (hn : n ≤ 9223372036854775807) (hm : m ≤ 1000000) (hc : chkC ⟨ps, off, ⟨lo, hi⟩⟩ = 0 → n ≤ 5) :
    Calls Try.prog 26 #[cyl A n cap off lo hi, .slice C m cl] w fun e w' => e = .returned (.tuple #[.int .i64 (rankR ⟨ps, off, ⟨lo, hi⟩⟩ ss).1, .int .i64 (rankR ⟨ps, off, ⟨lo, hi⟩⟩ ss).2]) ∧ Below w.heap.size w w' := by
  have hk : Kz w w.heap.size A n cap off lo hi ps C m ss _ := Kz.new (cap := cap) (off := off) (lo := lo) (hi := hi) h hs
  have K := Lib.hid hk
  have Hn := Lib.hid hn
  have Hc := Lib.hid hc
  clear h hn hk hc
  unfold cyl
  go_enter Try.func26, Try.ntmps26
  go_wp2_with fail
  generalize (w.alloc (.cells #[.slice A n cap, .int .i64 off, .int .i64 lo, .int .i64 hi] 26)) = W0 at K ⊢
  obtain ⟨B, hB⟩ : ∃ B, w.heap.size = B := ⟨_, rfl⟩
  replace K := Lib.hid (show Kz w B A n cap off lo hi ps C m ss W0 from by rw [← hB]; exact K.out)
  rw [hB]
  clear hB
  obtain ⟨c0, c1, c2, c3⟩ := K.out.c
  refine (checkJoin19 A C n cap m cl off lo hi ps ss _ K.out.pcs K.out.st Hn.out (by omega)).mono ?_
  rintro e W1 ⟨rfl, hb⟩
  replace K := Lib.hid (K.out.next hb)
  clear hb c0 c1 c2 c3
  obtain ⟨c0, c1, c2, c3⟩ := K.out.c
  by_cases hj : ckJoin ⟨ps, off, ⟨lo, hi⟩⟩ ss = 0
  · obtain ⟨he, -⟩ := join_of_ck hj
    obtain ⟨ix, hix, hss⟩ := rank_of hj
    have Hrk := Lib.hid (show rankR ⟨ps, off, ⟨lo, hi⟩⟩ ss = ((ix : Int), 0) from by rw [hss]; exact rank_at he hix)
    have Hss := Lib.hid hss
    rw [hj]
    clear hj hss
    go_wp2_with fail
    refine (all52 A n cap off lo hi ps _ K.out.pcs (Hc.out he) he).mono ?_
    rintro e W2 ⟨v, rfl, hL, hb⟩
    replace K := Lib.hid (K.out.next hb)
    have HL := Lib.hid hL
    obtain ⟨D, cp, rfl, hcp, hpos, hcell⟩ := hL.read
    obtain ⟨g, hg⟩ := hpos (by omega)
    obtain ⟨N, hN⟩ : ∃ N, (joinsC ⟨ps, off, ⟨lo, hi⟩⟩).length = N := ⟨_, rfl⟩
    have HN := Lib.hid hN
    rw [hN] at hcp ⊢
    subst hg
    have Hcell := Lib.hid hcell
    have Hix := Lib.hid hix
    have hixN : ix < N := by rw [← hN]; exact hix
    have He := Lib.hid he
    have HN5 := Lib.hid (show N ≤ 100000 from by
      rw [← hN, ← pre_joins]
      have h1 := prefs_le (T := tabOf ⟨ps, off, ⟨lo, hi⟩⟩) (cs := codesL ps) (m := 10) (Nat.le_trans (codes_len_ ps ps.length) (by have h2 := K.out.pcs.1; have h3 := Hc.out he; omega)) ps.length
      refine Nat.le_trans h1 ?_
      have h2 := K.out.pcs.1
      have h3 := Hc.out he
      have h4 : (10 : Nat) ^ ps.length ≤ 10 ^ 5 := Nat.pow_le_pow_right (by omega) (by omega)
      have h5 : (10 : Nat) ^ 5 = 100000 := by decide
      omega)
    have hN5 := HN5.out
    clear hb c0 c1 c2 c3 hL hN hpos hcell hcp he
    go_wp2_with fail
    go_loopw [7] (fun i wr => ∃ k : Nat, i = .int .i64 (k : Int) ∧ k ≤ ix ∧ Below W2.heap.size W2 wr) (fun i _ => ix + 1 - (intOf i).toNat)
    case atStart => exact ⟨0, by rfl, Nat.zero_le _, Below.refl _ _⟩
    case round =>
      obtain ⟨k, rfl, hk, hB⟩ := hrel
      have HB := Lib.hid hB
      have hkj : k < (joinsC ⟨ps, off, ⟨lo, hi⟩⟩).length := by rw [HN.out]; omega
      obtain ⟨g', x, hg', hx, ho⟩ := Hcell.out k hkj
      obtain rfl : g = g' := by injection hg' with e1; injection e1
      obtain ⟨gx, cx, rfl, hcx, hS⟩ := ho.sts
      have hx' : wr.cell? ⟨g, k, none⟩ = some (.slice (some ⟨gx, 0, none⟩) ((joinsC ⟨ps, off, ⟨lo, hi⟩⟩)[k]).length cx) := (hB.cell (p := ⟨g, k, none⟩) (lt_of_cell hx)).trans hx
      have HS := Lib.hid (hS.below hB (Nat.le_refl _))
      have Kr := Lib.hid (K.out.next hB)
      have hl8 : ((joinsC ⟨ps, off, ⟨lo, hi⟩⟩)[k]).length ≤ 1000000 := by
        rw [(join_way (List.getElem_mem hkj)).1]
        show ps.length ≤ _
        have := (chkC_facts He.out).2.1
        have : ps.length ≤ 8 := this
        omega
      obtain ⟨ln, hln⟩ : ∃ ln, ((joinsC ⟨ps, off, ⟨lo, hi⟩⟩)[k]).length = ln := ⟨_, rfl⟩
      rw [hln] at hx' HS hl8
      have Hl8 := Lib.hid hl8
      have i0 : (0 : Int) ≤ (k : Int) := by omega
      have i1 : (k : Int) < (N : Int) := by omega
      clear hx ho hS hcx hg' hln hl8 hB
      go_wp2_with fail
      refine (same29 (some ⟨gx, 0, none⟩) C ln cx m cl ((joinsC ⟨ps, off, ⟨lo, hi⟩⟩)[k].map stC) ss _ HS.out Kr.out.st Hl8.out hm).mono ?_
      rintro e w6 ⟨rfl, hb⟩
      have HB6 := Lib.hid (HB.out.trans (hb.mono HB.out.size))
      by_cases hkx : k = ix
      · have Hdec := Lib.hid (show decide ((joinsC ⟨ps, off, ⟨lo, hi⟩⟩)[k].map stC = ss) = true from decide_eq_true (by rw [Hss.out]; subst hkx; rfl))
        rw [Hdec.out]
        have HF := Lib.hid (Kr.out.next hb).below
        have Hkx := Lib.hid hkx
        clear hb hkx hx' i0 i1
        go_wp2_with fail
        refine bodyPost_ret (v := .tuple #[.int .i64 (k : Int), .int .i64 0]) (by simp [results, Try.results26, go_sem]) rfl ⟨?_, HF.out⟩
        rw [Hrk.out, Hkx.out]
      · have Hdec := Lib.hid (show decide ((joinsC ⟨ps, off, ⟨lo, hi⟩⟩)[k].map stC = ss) = false from decide_eq_false (fun e => hkx (by rw [Hss.out] at e; exact nth_eq hkj Hix.out e)))
        rw [Hdec.out]
        have hk2 : k + 1 ≤ ix := by omega
        clear hb hkx hx' i0 i1
        go_wp2_with fail
        go_roundw
        case rel => exact ⟨k + 1, by go_num, hk2, HB6.out⟩
        case measure => simp [intOf]; omega
  · obtain ⟨r, hr⟩ : ∃ r, ckJoin ⟨ps, off, ⟨lo, hi⟩⟩ ss = r := ⟨_, rfl⟩
    have Hrk := Lib.hid (show rankR ⟨ps, off, ⟨lo, hi⟩⟩ ss = (0, r) from by rw [rank_bad hj, hr])
    rw [hr] at hj ⊢
    have dr : (r != 0) = true := by rw [bne_iff_ne]; exact hj
    have Hr := Lib.hid hr
    clear hr hj
    go_wp2_with fail
    refine (checkJoin19 A C n cap m cl off lo hi ps ss _ K.out.pcs K.out.st Hn.out (by omega)).mono ?_
    rintro e W2 ⟨rfl, hb⟩
    rw [Hr.out]
    have HF := Lib.hid (K.out.next hb).below
    clear hb c0 c1 c2 c3
    go_wp2_with fail
    refine bodyPost_ret (v := .tuple #[.int .i64 0, .int .i64 r]) (by simp [results, Try.results26, go_sem]) rfl ⟨?_, HF.out⟩
    rw [Hrk.out]
end Go.Proofs.Ytfmcfalghbaanaa
