/- Stage 5: the mathematics of the cover that is read off what searches have looked at. -/
import Derived.Test.YtnodkgejggnehaaWt
import Derived.ArgAppend
import Derived.Laws.CopyRow
import Derived.Laws.MakeOwn
import Derived.Deep.Cut
import Derived.LoopIn
namespace Go.Proofs.Ytnodkgejggnehaa
set_option linter.unusedSimpArgs false
set_option linter.unusedVariables false
open Go.RowKit Go.Shelf
attribute [local go_sem ↓] exec_app at_app
attribute [local go_sem] Oper.semAt_some
theorem jA_succ (k : Nat) (zs : List Rg) (pt : Nat → Int) : jA (k + 1) zs pt = if (pt (0 * 12 + eN zs 0 k) == (k : Int)) = true then jA k zs pt ++ [k] else jA k zs pt := by
  unfold jA
  rw [List.range_succ, List.filter_append]
  by_cases h : (pt (0 * 12 + eN zs 0 k) == (k : Int)) = true
  · rw [if_pos h, List.filter_cons, if_pos h]; rfl
  · rw [if_neg h, List.filter_cons, if_neg h]; simp
/-- The names of the links of the joining. -/
def jI (n : Nat) (zs : List Rg) (pt : Nat → Int) : List Int := (jA n zs pt).map fun k : Nat => (k : Int)
theorem jI_len (n : Nat) (zs : List Rg) (pt : Nat → Int) : (jI n zs pt).length = (jA n zs pt).length := by simp [jI]
theorem jI_yes {k : Nat} {zs : List Rg} {pt : Nat → Int} (h : (pt (0 * 12 + eN zs 0 k) == (k : Int)) = true) : jI (k + 1) zs pt = jI k zs pt ++ [(k : Int)] := by
  unfold jI; rw [jA_succ, if_pos h]; simp
theorem jI_no {k : Nat} {zs : List Rg} {pt : Nat → Int} (h : (pt (0 * 12 + eN zs 0 k) == (k : Int)) = false) : jI (k + 1) zs pt = jI k zs pt := by
  unfold jI; rw [jA_succ, if_neg (by rw [h]; simp)]
/-- No more links are joined than a list has items. -/
theorem jA_le {n k : Nat} {zs : List Rg} {pt : Nat → Int} (hz : ZOk n zs) (hc : Cons n zs pt) (hk : k ≤ n) {l c : Nat} (hl : l < 2) (he : ∀ k, k < n → eN zs l k < c) : (jA k zs pt).length ≤ c := by
  have h1 := nodup_le ((jA k zs pt).map (eN zs l)) (List.range c) (by
    rw [List.pairwise_map]
    refine List.Pairwise.imp_of_mem ?_ (nd_filter _)
    intro a b ha hb hab e
    obtain ⟨a1, a2⟩ := mem_jA.1 ha
    obtain ⟨b1, b2⟩ := mem_jA.1 hb
    have h1 := hc.both hz (show a < n by omega) (l := 0) (by omega) a2
    have h2 := hc.both hz (show b < n by omega) (l := 0) (by omega) b2
    have h3 := h1 l hl
    have h4 := h2 l hl
    rw [e, h4] at h3
    omega) (fun x hx => by
    obtain ⟨k, hk2, rfl⟩ := List.mem_map.1 hx
    exact List.mem_range.2 (he k (by have := (mem_jA.1 hk2).1; omega)))
  rw [List.length_map, List.length_range] at h1
  exact h1
/-- One number more, where there is room. -/
theorem app_arr {W : World} {Q k m : Nat} {cur : Array Value} {t : TypeId} {L : List Int} (hQ : W.heap[Q]? = some (.cells cur t (0, 0))) (hk : k < m) (hm : m ≤ cur.size) (hL : L.length = k) (ht : cur.toList.take k = flatI L) (x : Int) :
    ∃ W' cur', runA Try.prog 23 (.slice (some ⟨Q, 0, none⟩) k m) (.slice (some ⟨W.heap.size, 0, none⟩) 1 1) (W.alloc (.cells #[.int .i64 x] 3)) = .ok (.value (.slice (some ⟨Q, 0, none⟩) (k + 1) m)) W' ∧ W'.heap[Q]? = some (.cells cur' t (0, 0)) ∧ cur'.size = cur.size ∧ cur'.toList.take (k + 1) = flatI (L ++ [x]) ∧ Keeps (fun j => j = Q) W W' := by
  obtain ⟨i, hi, hz, hs, hb⟩ := info_parts info3_
  have hQ1 : (W.alloc (.cells #[.int .i64 x] 3)).heap[Q]? = some (.cells cur t (0, 0)) := hal_old hQ
  have hZ := heap_alloc_new_ W (.cells #[.int .i64 x] 3)
  have h := run_append_room_cells (P := Try.prog) (W.alloc (.cells #[.int .i64 x] 3)) 23 23 3 i Try.underlying23 hi Q 0 k m ⟨W.heap.size, 0, none⟩ 1 1 [.int .i64 x] (by simp [hs]) (fun j u hj => by
      have hj0 : j = 0 := by
        have := (List.getElem?_eq_some_iff.1 hj).1
        simp at this; omega
      subst hj0
      rw [Addr.add_lit, cell_row hZ]; simpa using hj) (fun u hu => by simp at hu; subst hu; rfl) (by omega) (fun j hj => by
      simp at hj; subst hj
      rw [hs, Nat.mul_one, Nat.zero_add, Nat.add_zero, cell_row hQ1, Array.getElem?_eq_getElem (by omega)]; rfl) (fun j hj => frozen_row hQ1)
  rw [hs, Nat.mul_one, Nat.zero_add] at h
  have e : (W.alloc (.cells #[.int .i64 x] 3)).setCells Q k [.int .i64 x] = (W.alloc (.cells #[.int .i64 x] 3)).setCell ⟨Q, k, none⟩ (.int .i64 x) := by simp [World.setCells]
  rw [e] at h
  refine ⟨_, _, run_app h, set_same k (.int .i64 x) hQ1, by simp, ?_, (keep_alloc _ _ _).none.trans (keeps_setCell _ _ _ _)⟩
  rw [flatI_snoc, ← ht]
  have hlt : k < cur.toList.length := by simp; omega
  rw [Array.toList_setIfInBounds, List.take_set]
  have e2 : List.take (k + 1) cur.toList = List.take k cur.toList ++ [cur.toList[k]] := List.take_succ_eq_append_getElem hlt
  rw [e2, List.set_append]
  have e3 : (List.take k cur.toList).length = k := by rw [List.length_take]; omega
  rw [e3, if_neg (Nat.lt_irrefl k), Nat.sub_self]
  rfl
theorem ints_row {W : World} {Z : Nat} {L : List Int} {t : TypeId} (h : W.heap[Z]? = some (.cells (flatI L).toArray t (0, 0))) : Ints W (some ⟨Z, 0, none⟩) L.length L :=
  ⟨rfl, fun _ => ⟨Z, 0, rfl, fun j hj => by
    rw [cell_row h, Nat.zero_add, List.getElem?_toArray, flatI, List.getElem?_map, List.getElem?_eq_getElem hj, iAt_eq hj]; rfl⟩⟩
theorem make23 (n : Nat) (hn : n ≤ 1000) (W : World) : (Instr.makeSlice 23 (.int .i64 (n : Int)) (.int .i64 (n : Int))).run Try.prog W = .ok (.slice (some ⟨W.heap.size, 0, none⟩) n n) (W.alloc (.cells (flatI (List.replicate n 0)).toArray 3)) := by
  obtain ⟨i, hi, hz, hs, hb⟩ := info_parts info3_
  have h := run_makeSlice (P := Try.prog) W 23 3 i _ Try.underlying23 hi hz .i64 .i64 (n : Int) (n : Int) (by omega) (by omega) (by rw [hs]; omega) (by rw [hb]; omega) (by omega)
  simp only [Int.toNat_natCast, hs, Nat.mul_one] at h
  rw [h]
  have e : madeCells (Value.int IntKind.i64 0).cells n = (flatI (List.replicate n 0)).toArray := by
    apply Array.ext'
    have : (Value.int IntKind.i64 0).cells = #[Value.int IntKind.i64 0] := rfl
    rw [this, toList_madeCells_one]
    simp [flatI]
  rw [e]
theorem copy23 (Z Q m cp : Nat) (L : List Int) (cur : Array Value) (t : TypeId) (ty : TypeId) (W : World) (hZ : W.heap[Z]? = some (.cells (flatI (List.replicate m 0)).toArray 3 (0, 0))) (hQ : W.heap[Q]? = some (.cells cur t (0, 0))) (ht : cur.toList.take m = flatI L) (hL : L.length = m) :
    (Builtin.copy_ #[23, 23] ty #[.slice (some ⟨Z, 0, none⟩) m m, .slice (some ⟨Q, 0, none⟩) m cp]).run Try.prog W = .ok (.int .i64 (m : Int)) (W.setRow Z (flatI L).toArray) := by
  obtain ⟨i, hi, hz, hs, hb⟩ := info_parts info3_
  have hl : (flatI L).length = m := by rw [flatI_len, hL]
  have h := run_copy_row (P := Try.prog) W 23 23 ty 3 Z 0 m m ⟨Q, 0, none⟩ m cp (flatI (List.replicate m 0)).toArray 3 (flatI L) Try.underlying23 (by rw [hi]; simp [hs]) hZ (by rw [hl]; exact (Nat.min_eq_right (Nat.le_refl m)).symm)
    (fun j v hj => by
      rw [Addr.add_lit, Nat.zero_add, cell_row hQ]
      have hj2 : j < m := by
        have := (List.getElem?_eq_some_iff.1 hj).1
        omega
      rw [← ht, List.getElem?_take_of_lt hj2] at hj
      rw [← Array.getElem?_toList]; exact hj) (by rw [hl]; simp [flatI]) (fun v hv => by
      obtain ⟨x, _, rfl⟩ := List.mem_map.1 hv
      rfl)
  rw [h]
  have e : (List.take 0 (flatI (List.replicate m 0)).toArray.toList ++ flatI L ++ List.drop (0 + (flatI L).length) (flatI (List.replicate m 0)).toArray.toList) = flatI L := by
    rw [hl]; simp [flatI]
  rw [e, hl]
  rfl
set_option maxRecDepth 100000 in
set_option maxHeartbeats 16000000 in
theorem joining51 (B : Nat) (sl sr : Int) (A : Option Addr) (n cap : Nat) (zs : List Rg) (A2 : Option Addr) (kn kc : Nat) (ks : List Int) (pt : Nat → Int) (op : Nat → Bool) (mp : Value) (c d : Nat) (w : World) (h : Brd w B sl sr A n cap zs A2 kn kc ks pt op mp) (hn : n ≤ 40) (hz : ZOk n zs) (hcs : Cons n zs pt) (hc : sl = (c : Int)) (hd : sr = (d : Int)) (hc12 : c ≤ 12) (hd12 : d ≤ 12) (he0 : ∀ k, k < n → eN zs 0 k < c) (he1 : ∀ k, k < n → eN zs 1 k < d) :
    Calls Try.prog 51 #[.pointer (some ⟨B, 0, none⟩)] w fun e w' => ∃ Q, e = .returned (.slice (some ⟨Q, 0, none⟩) (jI n zs pt).length (jI n zs pt).length) ∧ w.heap.size ≤ Q ∧ Ints w' (some ⟨Q, 0, none⟩) (jI n zs pt).length (jI n zs pt) ∧ Below w.heap.size w w' := by
  have hb1 := below_alloc_ w (.cells #[.int .i64 0, .int .i64 0, .int .i64 0, .int .i64 0, .int .i64 0, .int .i64 0, .int .i64 0, .int .i64 0, .int .i64 0, .int .i64 0, .int .i64 0, .int .i64 0] 86)
  have hr1 := heap_alloc_new_ w (.cells #[.int .i64 0, .int .i64 0, .int .i64 0, .int .i64 0, .int .i64 0, .int .i64 0, .int .i64 0, .int .i64 0, .int .i64 0, .int .i64 0, .int .i64 0, .int .i64 0] 86)
  obtain ⟨w1, hw1⟩ : ∃ w1, w.alloc (.cells #[.int .i64 0, .int .i64 0, .int .i64 0, .int .i64 0, .int .i64 0, .int .i64 0, .int .i64 0, .int .i64 0, .int .i64 0, .int .i64 0, .int .i64 0, .int .i64 0] 86) = w1 := ⟨_, rfl⟩
  obtain ⟨Q, hQ⟩ : ∃ Q, w.heap.size = Q := ⟨_, rfl⟩
  rw [hw1] at hb1 hr1
  rw [hQ] at hr1
  have hbr := h.below hb1 (Nat.le_refl _)
  have x0 := hbr.c0
  have x1 := hbr.c1
  obtain ⟨m, hm⟩ : ∃ m, min c d = m := ⟨_, rfl⟩
  have hm12 : m ≤ 12 := by omega
  have Hm := Lib.hid hm
  have Hle := Lib.hid (show ∀ k, k ≤ n → (jI k zs pt).length ≤ m from fun k hk => by
    rw [jI_len]
    have h1 := jA_le hz hcs hk (l := 0) (by omega) he0
    have h2 := jA_le hz hcs hk (l := 1) (by omega) he1
    omega)
  have Hbr := Lib.hid hbr
  have Hb1 := Lib.hid hb1
  have HW1 := Lib.hid hw1
  have HQ := Lib.hid hQ
  have Hr1 := Lib.hid hr1
  have Hz := Lib.hid hz
  have Hbo := Lib.hid h
  have Hc := Lib.hid hc
  have Hd := Lib.hid hd
  clear h hz hcs he0 he1 hbr hb1 hw1 hQ hr1 hm
  rw [hc] at x0
  rw [hd] at x1
  clear hc hd
  go_enter Try.func51, Try.ntmps51
  go_upto_region 2 with fail
  try rw [HW1.out]
  try rw [HQ.out]
  have i0 : (0 : Int) ≤ (m : Int) := by omega
  have i1 : (m : Int) ≤ 12 := by omega
  refine wp_region_held_drew (S := fun w2 => Below w1.heap.size w1 w2) (by kernel_rfl) (drew_b _ _) (fun hS0 => ?_)
  refine wpAnyH_take (i := 0) (oi := { dst := some 7, op := Go.Op.move (Go.Operand.tmp 0), type := 61, pos := "board.go:104", after := #[], guard := none }) (v := .pointer (some ⟨B, 0, none⟩)) rfl (by kernel_rfl) (by kernel_rfl) (by kernel_rfl) (fun _ _ _ h => h) (Or.inl ⟨by rfl, by intro w2 hSw; (try dsimp only at hSw); go_simp⟩) hS0 ?_
  try simp only [Act.put, List.setIfInBounds_toArray, List.set_cons_zero, List.set_cons_succ]
  refine wpAnyH_take (i := 1) (oi := { dst := some 8, op := Go.Op.nilCheck (Go.Operand.tmp 7), type := 0, pos := "board.go:104", after := #[{ on := 0, ground := Go.Ground.data }], guard := none }) (v := .pointer (some ⟨B, 0, none⟩)) rfl (by kernel_rfl) (by kernel_rfl) (by kernel_rfl) (fun _ _ _ h => h) (Or.inl ⟨by rfl, by intro w2 hSw; (try dsimp only at hSw); go_simp⟩) hS0 ?_
  try simp only [Act.put, List.setIfInBounds_toArray, List.set_cons_zero, List.set_cons_succ]
  refine wpAnyH_take (i := 2) (oi := { dst := some 9, op := Go.Op.fieldAddr 91 (Go.Operand.tmp 8) 0, type := 0, pos := "board.go:104", after := #[{ on := 1, ground := Go.Ground.data }], guard := none }) (v := .pointer (some ⟨B, 0, none⟩)) rfl (by kernel_rfl) (by kernel_rfl) (by kernel_rfl) (fun _ _ _ h => h) (Or.inl ⟨by rfl, by intro w2 hSw; (try dsimp only at hSw); go_simp⟩) hS0 ?_
  try simp only [Act.put, List.setIfInBounds_toArray, List.set_cons_zero, List.set_cons_succ]
  refine wpAnyH_take (i := 3) (oi := { dst := some 10, op := Go.Op.fieldAddr 25 (Go.Operand.tmp 9) 0, type := 0, pos := "board.go:104", after := #[{ on := 2, ground := Go.Ground.data }], guard := none }) (v := .pointer (some ⟨B, 0, none⟩)) rfl (by kernel_rfl) (by kernel_rfl) (by kernel_rfl) (fun _ _ _ h => h) (Or.inl ⟨by rfl, by intro w2 hSw; (try dsimp only at hSw); go_simp⟩) hS0 ?_
  try simp only [Act.put, List.setIfInBounds_toArray, List.set_cons_zero, List.set_cons_succ]
  refine wpAnyH_take (i := 4) (oi := { dst := some 11, op := Go.Op.load 3 (Go.Operand.tmp 10), type := 3, pos := "board.go:104", after := #[{ on := 3, ground := Go.Ground.data }], guard := none }) (v := .int .i64 (c : Int)) rfl (by kernel_rfl) (by kernel_rfl) (by kernel_rfl) (fun _ _ _ h => h) (Or.inl ⟨by rfl, by intro w2 hSw; (try dsimp only at hSw); have z0 := (hSw.cell (lt_of_cell x0)).trans x0; go_simp⟩) hS0 ?_
  try simp only [Act.put, List.setIfInBounds_toArray, List.set_cons_zero, List.set_cons_succ]
  refine wpAnyH_take (i := 5) (oi := { dst := some 12, op := Go.Op.move (Go.Operand.tmp 0), type := 61, pos := "board.go:104", after := #[], guard := none }) (v := .pointer (some ⟨B, 0, none⟩)) rfl (by kernel_rfl) (by kernel_rfl) (by kernel_rfl) (fun _ _ _ h => h) (Or.inl ⟨by rfl, by intro w2 hSw; (try dsimp only at hSw); go_simp⟩) hS0 ?_
  try simp only [Act.put, List.setIfInBounds_toArray, List.set_cons_zero, List.set_cons_succ]
  refine wpAnyH_take (i := 6) (oi := { dst := some 13, op := Go.Op.nilCheck (Go.Operand.tmp 12), type := 0, pos := "board.go:104", after := #[{ on := 5, ground := Go.Ground.data }], guard := none }) (v := .pointer (some ⟨B, 0, none⟩)) rfl (by kernel_rfl) (by kernel_rfl) (by kernel_rfl) (fun _ _ _ h => h) (Or.inl ⟨by rfl, by intro w2 hSw; (try dsimp only at hSw); go_simp⟩) hS0 ?_
  try simp only [Act.put, List.setIfInBounds_toArray, List.set_cons_zero, List.set_cons_succ]
  refine wpAnyH_take (i := 7) (oi := { dst := some 14, op := Go.Op.fieldAddr 91 (Go.Operand.tmp 13) 0, type := 0, pos := "board.go:104", after := #[{ on := 6, ground := Go.Ground.data }], guard := none }) (v := .pointer (some ⟨B, 0, none⟩)) rfl (by kernel_rfl) (by kernel_rfl) (by kernel_rfl) (fun _ _ _ h => h) (Or.inl ⟨by rfl, by intro w2 hSw; (try dsimp only at hSw); go_simp⟩) hS0 ?_
  try simp only [Act.put, List.setIfInBounds_toArray, List.set_cons_zero, List.set_cons_succ]
  refine wpAnyH_take (i := 8) (oi := { dst := some 15, op := Go.Op.fieldAddr 25 (Go.Operand.tmp 14) 1, type := 0, pos := "board.go:104", after := #[{ on := 7, ground := Go.Ground.data }], guard := none }) (v := .pointer (some ⟨B, 1, none⟩)) rfl (by kernel_rfl) (by kernel_rfl) (by kernel_rfl) (fun _ _ _ h => h) (Or.inl ⟨by rfl, by intro w2 hSw; (try dsimp only at hSw); go_simp⟩) hS0 ?_
  try simp only [Act.put, List.setIfInBounds_toArray, List.set_cons_zero, List.set_cons_succ]
  refine wpAnyH_take (i := 9) (oi := { dst := some 16, op := Go.Op.load 3 (Go.Operand.tmp 15), type := 3, pos := "board.go:104", after := #[{ on := 8, ground := Go.Ground.data }], guard := none }) (v := .int .i64 (d : Int)) rfl (by kernel_rfl) (by kernel_rfl) (by kernel_rfl) (fun _ _ _ h => h) (Or.inl ⟨by rfl, by intro w2 hSw; (try dsimp only at hSw); have z0 := (hSw.cell (lt_of_cell x1)).trans x1; go_simp⟩) hS0 ?_
  try simp only [Act.put, List.setIfInBounds_toArray, List.set_cons_zero, List.set_cons_succ]
  refine wpAnyH_take (i := 10) (oi := { dst := some 17, op := Go.Op.call { callee := Go.Callee.builtin Go.Builtin.min, args := #[Go.Operand.tmp 11, Go.Operand.tmp 16], argTypes := #[3, 3] }, type := 3, pos := "board.go:104", after := #[{ on := 4, ground := Go.Ground.data }, { on := 9, ground := Go.Ground.data }], guard := none }) (v := .int .i64 (m : Int)) rfl (by kernel_rfl) (by kernel_rfl) (by kernel_rfl) (fun _ _ _ h => h) (Or.inl ⟨by rfl, by intro w2 hSw; (try dsimp only at hSw); have hm2 := Hm.out; rcases Nat.lt_or_ge d c with h9 | h9; {obtain rfl : d = m := (by omega); have d1 : (d : Int) < (c : Int) := (by omega); go_simp}; obtain rfl : c = m := (by omega); have d1 : (c : Int) ≤ (d : Int) := (by omega); have d2 : ¬ ((d : Int) < (c : Int)) := (by omega); go_simp⟩) hS0 ?_
  try simp only [Act.put, List.setIfInBounds_toArray, List.set_cons_zero, List.set_cons_succ]
  refine wpAnyH_take (i := 11) (oi := { dst := some 18, op := Go.Op.slice 86 (Go.Operand.tmp 3) none (some (Go.Operand.const (Go.Value.int Go.IntKind.i64 0))) (some (Go.Operand.tmp 17)), type := 23, pos := "board.go:104", after := #[{ on := 10, ground := Go.Ground.data }], guard := none }) (v := .slice (some ⟨Q, 0, none⟩) 0 m) rfl (by kernel_rfl) (by kernel_rfl) (by kernel_rfl) (fun _ _ _ h => h) (Or.inl ⟨by rfl, by intro w2 hSw; (try dsimp only at hSw); go_simp⟩) hS0 ?_
  try simp only [Act.put, List.setIfInBounds_toArray, List.set_cons_zero, List.set_cons_succ]
  refine wpAnyH_take (i := 12) (oi := { dst := some 4, op := Go.Op.assign (Go.Operand.tmp 18), type := 23, pos := "board.go:104", after := #[{ on := 11, ground := Go.Ground.data }, { on := 0, ground := Go.Ground.phase }, { on := 1, ground := Go.Ground.phase }, { on := 2, ground := Go.Ground.phase }, { on := 3, ground := Go.Ground.phase }, { on := 4, ground := Go.Ground.phase }, { on := 5, ground := Go.Ground.phase }, { on := 6, ground := Go.Ground.phase }, { on := 7, ground := Go.Ground.phase }, { on := 8, ground := Go.Ground.phase }, { on := 9, ground := Go.Ground.phase }, { on := 10, ground := Go.Ground.phase }, { on := 11, ground := Go.Ground.phase }], guard := none }) (v := .slice (some ⟨Q, 0, none⟩) 0 m) rfl (by kernel_rfl) (by kernel_rfl) (by kernel_rfl) (fun _ _ _ h => h) (Or.inl ⟨by rfl, by intro w2 hSw; (try dsimp only at hSw); go_simp⟩) hS0 ?_
  try simp only [Act.put, List.setIfInBounds_toArray, List.set_cons_zero, List.set_cons_succ]
  refine wpAnyH_done (by kernel_rfl) ?_ _
  obtain ⟨w2, hw2⟩ : ∃ w2, w1.drew = w2 := ⟨_, rfl⟩
  have hb2 : Below w1.heap.size w1 w2 := by rw [← hw2]; exact drew_b w1 1
  rw [hw2]
  have Hb2 := Lib.hid (Hb1.out.trans (hb2.mono Hb1.out.size))
  have hbr2 := Hbr.out.below hb2 (Nat.le_refl _)
  have c2 := hbr2.c2
  have Hbr2 := Lib.hid hbr2
  have Hr2 := Lib.hid ((hb2.block _ (lt_of_block Hr1.out)).trans Hr1.out)
  clear x0 x1 hS0 hw2 hb2 hbr2
  go_wp2_with fail
  clear c2
  go_loopw [4, 5, 25] (fun v y i wr => ∃ k : Nat, k ≤ n ∧ i = .int .i64 (k : Int) ∧ v = .slice (some ⟨Q, 0, none⟩) (jI k zs pt).length m ∧ Hid (∃ cur : Array Value, wr.heap[Q]? = some (.cells cur 86 (0, 0)) ∧ cur.size = 12 ∧ cur.toList.take (jI k zs pt).length = flatI (jI k zs pt) ∧ Below w.heap.size w wr)) (fun v y i _ => n - (intOf i).toNat)
  case atStart => exact ⟨0, Nat.zero_le _, rfl, rfl, Lib.hid ⟨_, Hr2.out, rfl, rfl, Hb2.out⟩⟩
  case round =>
    obtain ⟨k, hk9, rfl, rfl, HV⟩ := hrel
    obtain ⟨wk, rfl⟩ : ∃ wk, wk = wr := ⟨_, rfl⟩
    obtain ⟨q, hq⟩ : ∃ q, (jI k zs pt).length = q := ⟨_, rfl⟩
    rw [hq] at HV ⊢
    have Hq := Lib.hid hq
    clear hq
    by_cases hlt : k < n
    · have i2 : (k : Int) < (n : Int) := by omega
      obtain ⟨cur, hcQ, hcs, hct, hbk⟩ := HV.out
      obtain ⟨ge, ha, hb⟩ := Hz.out.at hlt
      have hbrk := Hbo.out.below hbk (Nat.le_refl _)
      have k68 := joins68 B sl sr A n cap zs A2 kn kc ks pt op mp k wk hbrk hlt (by rw [ge]; simp only; omega)
      rw [ge] at k68
      simp only [Int.toNat_natCast] at k68
      obtain ⟨jn, hjn⟩ : ∃ jn, (pt (0 * 12 + eN zs 0 k) == (k : Int)) = jn := ⟨_, rfl⟩
      rw [Nat.zero_mul, Nat.zero_add] at hjn
      rw [hjn] at k68
      have K68 := Lib.hid k68
      have Hjn := Lib.hid (show (pt (0 * 12 + eN zs 0 k) == (k : Int)) = jn by rw [Nat.zero_mul, Nat.zero_add]; exact hjn)
      have HcQ := Lib.hid hcQ
      have Hcs := Lib.hid hcs
      have Hct := Lib.hid hct
      have Hbk := Lib.hid hbk
      clear HV hcQ hcs hct hbk ge hbrk k68 hjn
      go_wp2_with fail
      refine K68.out.mono ?_
      rintro en w3 ⟨rfl, hb3⟩
      have hcQ3 := (hb3.block _ (lt_of_block HcQ.out)).trans HcQ.out
      have HcQ3 := Lib.hid hcQ3
      have HB3 := Lib.hid (Hbk.out.trans (hb3.mono Hbk.out.size))
      clear K68 hcQ3 hb3
      rcases jn with _ | _
      · have hj1 := jI_no Hjn.out
        have HJ := Lib.hid hj1
        clear hj1
        go_wp2_with fail
        go_roundw
        case rel => exact ⟨k + 1, by omega, by go_num, by rw [HJ.out, Hq.out], Lib.hid ⟨cur, HcQ3.out, Hcs.out, by rw [HJ.out, Hq.out]; exact Hct.out, HB3.out⟩⟩
        case measure => simp [intOf]; omega
      · have hj1 := jI_yes Hjn.out
        have hle := Hle.out (k + 1) (by omega)
        rw [hj1, List.length_append, Hq.out, List.length_singleton] at hle
        obtain ⟨W', cur', hrun, h4, h5, h6, h7⟩ := app_arr HcQ3.out (show q < m by omega) (by rw [Hcs.out]; omega) Hq.out Hct.out (k : Int)
        have HJ := Lib.hid hj1
        have H4 := Lib.hid h4
        have H5 := Lib.hid h5
        have H6 := Lib.hid h6
        have H7 := Lib.hid (show Below w.heap.size w W' from HB3.out.trans (h7.below HB3.out.size (fun j hj e => by have := HQ.out; omega)))
        clear hj1 h4 h5 h6 h7
        go_wp2_with fail
        go_roundw
        case rel => exact ⟨k + 1, by omega, by go_num, by rw [HJ.out, List.length_append, Hq.out]; rfl, Lib.hid ⟨cur', H4.out, by rw [H5.out, Hcs.out], by rw [HJ.out, List.length_append, Hq.out]; exact H6.out, H7.out⟩⟩
        case measure => simp [intOf]; omega
    · obtain rfl : k = n := by omega
      obtain ⟨cur, hcQ, hcs, hct, hbk⟩ := HV.out
      have hqm := Hle.out k (Nat.le_refl _)
      rw [Hq.out] at hqm
      have hmk := fun W => make23 q (by omega) W
      have hQ2 : (wk.alloc (.cells (flatI (List.replicate q 0)).toArray 3)).heap[Q]? = some (.cells cur 86 (0, 0)) := hal_old hcQ
      have hZ2 := heap_alloc_new_ wk (.cells (flatI (List.replicate q 0)).toArray 3)
      have hbA := below_alloc_ wk (.cells (flatI (List.replicate q 0)).toArray 3)
      obtain ⟨Z, hZ⟩ : ∃ Z, wk.heap.size = Z := ⟨_, rfl⟩
      rw [hZ] at hZ2 hbA
      have hcp := copy23 Z Q q m (jI k zs pt) cur 86 3 (wk.alloc (.cells (flatI (List.replicate q 0)).toArray 3)) hZ2 hQ2 hct Hq.out
      have hr9 := setRow_same (flatI (jI k zs pt)).toArray hZ2
      have hk9 := keeps_setRow (wk.alloc (.cells (flatI (List.replicate q 0)).toArray 3)) Z (flatI (jI k zs pt)).toArray
      have hwk : w.heap.size ≤ wk.heap.size := hbk.size
      have hbZ : Below w.heap.size w (wk.alloc (.cells (flatI (List.replicate q 0)).toArray 3)) := hbk.trans ((below_alloc_ wk _).mono hwk)
      obtain ⟨jl, hjl⟩ : ∃ jl, jI k zs pt = jl := ⟨_, rfl⟩
      rw [hjl] at hcp hr9 hk9 Hq
      have Hjl := Lib.hid hjl
      have HB9 := Lib.hid (show Below w.heap.size w ((wk.alloc (.cells (flatI (List.replicate q 0)).toArray 3)).setRow Z (flatI jl).toArray) from hbZ.trans (hk9.below hbZ.size (fun j hj e => by omega)))
      have Hr9 := Lib.hid hr9
      have HZ := Lib.hid hZ
      have hwZ : w.heap.size ≤ Z := by omega
      clear HV hcQ hcs hct hbk hQ2 hZ2 hbA hr9 hk9 hbZ hZ hjl hwk
      go_wp2_with fail
      try rw [HZ.out]
      rw [hcp]
      go_wp2_with fail
      go_ret
      exact ⟨Z, by rw [Hjl.out, Hq.out]; rfl, hwZ, by rw [Hjl.out]; exact ints_row Hr9.out, HB9.out⟩
end Go.Proofs.Ytnodkgejggnehaa

namespace Go.Proofs.Ytnodkgejggnehaa
set_option linter.unusedSimpArgs false
set_option linter.unusedVariables false
open Go.RowKit Go.Shelf
/-- A search that has found a partner, whatever was looked at before. -/
theorem AugP.cons {n : Nat} {zs : List Rg} {op : Nat → Bool} {l i : Nat} {lk : Nat → Bool} {pt pt' : Nat → Int} (hz : ZOk n zs) (hl : l < 2) (hi : i < 12) (hc : Cons n zs pt) (h0 : pt (l * 12 + i) = -1) (h : AugP n zs op l i lk pt pt') :
    Cons n zs pt' ∧ (∀ x, x < 12 → pS pt l x ≠ -1 → pS pt' l x ≠ -1) := by
  have key : ∀ x, x < 12 → (pS pt' l x = -1 ∧ pS pt l x = -1) ∨ ∃ k, k < n ∧ pS pt' l x = (k : Int) ∧ eN zs l k = x ∧ mT pt' l (eN zs (1 - l) k) = (k : Int) := fun x hx => by
    by_cases him : Img n (eN zs l) (kT lk l) (mT pt' l) x
    · obtain ⟨j, hj, hlj, k, hk, hm, hf⟩ := him
      rcases h.b j hj hlj with e | ⟨q, h1, h2, h3, h4⟩
      · rw [hm] at e; omega
      · rw [hm] at h2
        obtain rfl : k = q := by omega
        rw [hf] at h4
        exact .inr ⟨k, hk, h4, hf, by rw [h3]; exact hm⟩
    · have e := h.d x hx him
      rcases hc l x hl hx with e2 | ⟨k, h1, h2, h3, h4⟩
      · exact .inl ⟨by rw [e]; exact e2, e2⟩
      · by_cases hlj : kT lk l (eN zs (1 - l) k) = false
        · exact absurd (h.e2 x ⟨eN zs (1 - l) k, hz.lt h1, hlj, k, h1, h4, h3⟩) him
        · have hlj2 : kT lk l (eN zs (1 - l) k) = true := by simpa using hlj
          exact .inr ⟨k, h1, by rw [e]; exact h2, h3, by rw [h.a _ (hz.lt h1) hlj2]; exact h4⟩
  refine ⟨fun l2 x hl2 hx => ?_, fun x hx e => ?_⟩
  · rcases (by omega : l2 = l ∨ l2 = 1 - l) with rfl | rfl
    · rcases key x hx with ⟨e, _⟩ | e
      · exact .inl e
      · exact .inr e
    · by_cases hlx : kT lk l x = false
      · rcases h.b x hx hlx with e | ⟨k, h1, h2, h3, h4⟩
        · exact .inl e
        · refine .inr ⟨k, h1, h2, h3, ?_⟩
          rw [show 1 - (1 - l) = l by omega]
          exact h4
      · have hlx2 : kT lk l x = true := by simpa using hlx
        have em := h.a x hx hlx2
        rcases hc (1 - l) x hl2 hx with e2 | ⟨k, h1, h2, h3, h4⟩
        · exact .inl (by have e3 : mT pt' l x = -1 := by rw [em]; exact e2
                         exact e3)
        · rw [show 1 - (1 - l) = l by omega] at h4
          refine .inr ⟨k, h1, by have e3 : mT pt' l x = (k : Int) := by rw [em]; exact h2
                                 exact e3, h3, ?_⟩
          rw [show 1 - (1 - l) = l by omega]
          have hk12 := hz.lt (l := l) h1
          have e4 : pS pt' l (eN zs l k) = pS pt l (eN zs l k) := h.d _ hk12 (fun him => by
            rcases h.e3 _ him with e5 | ⟨j, hj, hlj, q, hq, hm, hf⟩
            · rw [e5] at h4; rw [h0] at h4; omega
            · rcases hc (1 - l) j (by omega) hj with e6 | ⟨q2, a1, a2, a3, a4⟩
              · have : mT pt l j = -1 := e6
                rw [hm] at this; omega
              · have a2' : mT pt l j = (q2 : Int) := a2
                rw [hm] at a2'
                obtain rfl : q = q2 := by omega
                rw [show 1 - (1 - l) = l by omega, hf, h4] at a4
                obtain rfl : k = q := by omega
                rw [h3] at a3
                subst a3
                rw [hlx2] at hlj; cases hlj)
          exact e4.trans h4
  · rcases key x hx with ⟨_, e2⟩ | ⟨k, _, h2, _⟩
    · exact absurd e2 e
    · rw [h2]; omega
theorem AugP.gro2 {n : Nat} {zs : List Rg} {op : Nat → Bool} {l i : Nat} {lk : Nat → Bool} {pt pt' : Nat → Int} (hz : ZOk n zs) (hl : l < 2) (hi : i < 12) (hc : Cons n zs pt) (ho : OpI n zs op pt) (h0 : pt (l * 12 + i) = -1) (h : AugP n zs op l i lk pt pt') : Gro n zs op pt pt' ∧ pt' (l * 12 + i) ≠ -1 := by
  obtain ⟨hcons, hdom⟩ := h.cons hz hl hi hc h0
  have hnew : ∀ x, x < 24 → pt' x = pt x ∨ ∃ k, k < n ∧ pt' x = (k : Int) ∧ op k = true := fun x hx => by
    rcases (by omega : x / 12 = l ∨ x / 12 = 1 - l) with e | e
    · have := h.fp (x % 12) (by omega)
      unfold pS at this
      rwa [show l * 12 + x % 12 = x by omega] at this
    · have := h.fm (x % 12) (by omega)
      unfold mT at this
      rwa [show (1 - l) * 12 + x % 12 = x by omega] at this
  refine ⟨⟨hcons, fun k hk hok l2 hl2 => ?_, fun x hx e => ?_, hnew⟩, ?_⟩
  · have hx : l2 * 12 + eN zs l2 k < 24 := by have := hz.lt (l := l2) hk; omega
    rcases hnew _ hx with e | ⟨q, h1, h2, h3⟩
    · rw [e]; exact ho k hk hok l2 hl2
    · exact .inr ⟨q, h1, h2, h3⟩
  · rcases (by omega : x / 12 = l ∨ x / 12 = 1 - l) with e2 | e2
    · have := hdom (x % 12) (by omega)
      unfold pS at this
      rw [show l * 12 + x % 12 = x by omega] at this
      exact this e
    · have := h.c (x % 12) (by omega)
      unfold mT at this
      rw [show (1 - l) * 12 + x % 12 = x by omega] at this
      exact this e
  · obtain ⟨j, hj, hlj, k, hk, hm, hf⟩ := h.e1
    rcases h.b j hj hlj with e | ⟨q, h1, h2, h3, h4⟩
    · rw [hm] at e; omega
    · rw [hm] at h2
      obtain rfl : k = q := by omega
      rw [hf] at h4
      have h4' : pt' (l * 12 + i) = (k : Int) := h4
      rw [h4']; omega
/-- From a greatest joining no search finds a partner. -/
theorem GB.no_aug {n : Nat} {zs : List Rg} {op : Nat → Bool} {J : List Nat} {l i : Nat} {lk : Nat → Bool} {pt pt' : Nat → Int} (hz : ZOk n zs) (hl : l < 2) (hi : i < 12) (hg : GB n zs op pt J) (h0 : pt (l * 12 + i) = -1) (h : AugP n zs op l i lk pt pt') : False := by
  obtain ⟨g1, g2⟩ := h.gro2 hz hl hi hg.cons hg.opi h0
  have h1 := (jL_gro hz hg.cons hg.opi g1).2 (l * 12 + i) (by omega) h0 g2
  have h2 := mm_ub (mtB_symm zs) (mtB_refl zs) (L := opL n op) (jL_mat (op := op) hz g1.cons) (fun x hx => mem_opL.2 ⟨(mem_jL.1 hx).1, (mem_jL.1 hx).2.1⟩)
  rw [hg.kon.mm hz hg.cons] at h2
  omega
/-- What is looked at when all left items without partners have been searched from. -/
structure CoI (n : Nat) (zs : List Rg) (op : Nat → Bool) (pt : Nat → Int) (lk : Nat → Bool) (q : Nat) : Prop where
  clo : CloP n zs op 0 pt (fun _ => false) lk
  all : ∀ i, i < q → pt i = -1 → lk i = true
/-- The items of the cover. -/
def cvL (n : Nat) (zs : List Rg) (op : Nat → Bool) (pt : Nat → Int) (lk : Nat → Bool) : List Int := ((jL n zs op pt).filter fun k => !lk (eN zs 0 k)).map fun k : Nat => (eN zs 0 k : Int)
def cvR (n : Nat) (zs : List Rg) (op : Nat → Bool) (pt : Nat → Int) (lk : Nat → Bool) : List Int := ((jL n zs op pt).filter fun k => lk (eN zs 0 k)).map fun k : Nat => (eN zs 1 k : Int)
theorem filter_two (p : Nat → Bool) : ∀ L : List Nat, (L.filter fun k => !p k).length + (L.filter p).length = L.length
  | [] => rfl
  | x :: L => by
    have ih := filter_two p L
    rw [List.filter_cons, List.filter_cons]
    cases h : p x <;> simp [h] <;> omega
theorem cv_len (n : Nat) (zs : List Rg) (op : Nat → Bool) (pt : Nat → Int) (lk : Nat → Bool) : (cvL n zs op pt lk).length + (cvR n zs op pt lk).length = (jL n zs op pt).length := by
  unfold cvL cvR
  rw [List.length_map, List.length_map]
  exact filter_two (fun k => lk (eN zs 0 k)) _
theorem jL_ends {n : Nat} {zs : List Rg} {op : Nat → Bool} {pt : Nat → Int} (hz : ZOk n zs) (hc : Cons n zs pt) {l : Nat} (hl : l < 2) (p : Nat → Bool) : (((jL n zs op pt).filter p).map fun k : Nat => (eN zs l k : Int)).Nodup := by
  unfold List.Nodup
  rw [List.pairwise_map]
  refine List.Pairwise.imp_of_mem ?_ (List.Nodup.sublist List.filter_sublist (nd_filter _))
  intro a b ha hb hab e
  obtain ⟨a1, -, a2⟩ := mem_jL.1 (List.mem_filter.1 ha).1
  obtain ⟨b1, -, b2⟩ := mem_jL.1 (List.mem_filter.1 hb).1
  have h3 := hc.both hz a1 (l := 0) (by omega) a2 l hl
  have h4 := hc.both hz b1 (l := 0) (by omega) b2 l hl
  rw [show eN zs l a = eN zs l b by omega, h4] at h3
  omega
/-- All open links are covered. -/
theorem cv_cov {n c : Nat} {zs : List Rg} {op : Nat → Bool} {pt : Nat → Int} {lk : Nat → Bool} {J : List Nat} (hz : ZOk n zs) (hg : GB n zs op pt J) (h : CoI n zs op pt lk c) (he : ∀ k, k < n → eN zs 0 k < c) {k : Nat} (hk : k < n) (hok : op k = true) :
    (eN zs 0 k : Int) ∈ cvL n zs op pt lk ∨ (eN zs 1 k : Int) ∈ cvR n zs op pt lk := by
  have h0 := hz.lt (l := 0) hk
  have h1 := hz.lt (l := 1) hk
  by_cases hlk : lk (eN zs 0 k) = true
  · right
    have hlk0 : lk (0 * 12 + eN zs 0 k) = true := by rw [Nat.zero_mul, Nat.zero_add]; exact hlk
    have hr : lk (1 * 12 + eN zs 1 k) = true := ((h.clo.cs (eN zs 0 k) h0 hlk0).resolve_left (by show ¬ false = true; simp)) k hk hok rfl
    obtain ⟨q, hq, hm, hs⟩ := (h.clo.ct (eN zs 1 k) h1 hr).resolve_left (by show ¬ false = true; simp)
    have hm' : pt (1 * 12 + eN zs 1 k) = (q : Int) := hm
    have hs' : lk (0 * 12 + eN zs 0 q) = true := hs
    rw [Nat.zero_mul, Nat.zero_add] at hs'
    obtain ⟨q2, b1, b2, b3⟩ := (hg.opi k hk hok 1 (by omega)).resolve_left (by rw [hm']; omega)
    rw [hm'] at b2
    obtain rfl : q = q2 := by omega
    obtain ⟨q3, c1, c2, c3, c4⟩ := (hg.cons 1 (eN zs 1 k) (by omega) h1).resolve_left (by rw [hm']; omega)
    rw [hm'] at c2
    obtain rfl : q = q3 := by omega
    unfold cvR
    rw [List.mem_map]
    exact ⟨q, List.mem_filter.2 ⟨mem_jL.2 ⟨hq, b3, c4⟩, hs'⟩, by rw [c3]⟩
  · left
    have hnf : pt (0 * 12 + eN zs 0 k) ≠ -1 := fun e => hlk (h.all _ (he k hk) (by rw [Nat.zero_mul, Nat.zero_add] at e; exact e))
    obtain ⟨q, b1, b2, b3⟩ := (hg.opi k hk hok 0 (by omega)).resolve_left hnf
    obtain ⟨q3, c1, c2, c3, c4⟩ := (hg.cons 0 (eN zs 0 k) (by omega) h0).resolve_left hnf
    rw [b2] at c2
    obtain rfl : q = q3 := by omega
    unfold cvL
    rw [List.mem_map]
    refine ⟨q, List.mem_filter.2 ⟨mem_jL.2 ⟨b1, b3, by rw [c3]; exact b2⟩, ?_⟩, by rw [c3]⟩
    rw [c3]; simpa using hlk
end Go.Proofs.Ytnodkgejggnehaa
