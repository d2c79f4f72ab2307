/- Stage 2: a line of states: the first one is taken away, others come behind. -/
import Derived.Test.YtfmcfalghbaanaaPas
namespace Go.Proofs.Ytfmcfalghbaanaa
set_option linter.unusedSimpArgs false
set_option linter.unusedVariables false
open Go.RowKit Go.Shelf

def cell3 (a : Sta) : List Value := [.int .i64 ((a.last / 2 : Nat) : Int), .bool (decide (a.last % 2 = 1)), .int .u64 (a.pcs : Int)]
def flatA (l : List Sta) : List Value := l.flatMap cell3
theorem flatA_len (l : List Sta) : (flatA l).length = l.length * 3 := by
  induction l with
  | nil => rfl
  | cons x l ih => simp [flatA, cell3] at ih ⊢; omega
theorem flatA_one (l : List Sta) : ∀ u ∈ flatA l, u.oneCell' = true := by
  intro u hu
  obtain ⟨a, _, h⟩ := List.mem_flatMap.1 hu
  simp [cell3] at h
  rcases h with rfl | rfl | rfl <;> rfl
/-- A slice reads as a line of states. -/
def LineR (W : World) (v : Value) (l : List Sta) : Prop :=
  ∃ g off cap cur, v = .slice (some ⟨g, off, none⟩) l.length cap ∧ l.length ≤ cap ∧ W.heap[g]? = some (.cells cur 91 (0, 0)) ∧ off + cap * 3 ≤ cur.size ∧ ∀ j, j < l.length * 3 → cur[off + j]? = (flatA l)[j]?
theorem LineR.keep {W W' : World} {Mut : Nat → Prop} {v : Value} {l : List Sta} (h : LineR W v l) (hK : Keeps Mut W W') (hm : ∀ k, v.ownBlock = some k → ¬ Mut k) : LineR W' v l := by
  obtain ⟨g, off, cap, cur, rfl, h1, h2, h3, h4⟩ := h
  exact ⟨g, off, cap, cur, rfl, h1, (hK.block g (lt_of_block h2) (hm g rfl)).trans h2, h3, h4⟩
theorem LineR.lt {W : World} {v : Value} {l : List Sta} (h : LineR W v l) : ∃ g, v.ownBlock = some g ∧ g < W.heap.size := by
  obtain ⟨g, off, cap, cur, rfl, h1, h2, h3, h4⟩ := h
  exact ⟨g, rfl, lt_of_block h2⟩
theorem LineR.one {W : World} {v : Value} {l : List Sta} (h : LineR W v l) : v.oneCell' = true := by
  obtain ⟨g, off, cap, cur, rfl, _⟩ := h
  rfl
theorem LineR.head {W : World} {v : Value} {a : Sta} {l : List Sta} (h : LineR W v (a :: l)) :
    ∃ g off cap, v = .slice (some ⟨g, off, none⟩) (l.length + 1) cap ∧ l.length + 1 ≤ cap ∧ W.cell? ⟨g, off, none⟩ = some (.int .i64 ((a.last / 2 : Nat) : Int)) ∧ W.cell? ⟨g, off + 1, none⟩ = some (.bool (decide (a.last % 2 = 1))) ∧ W.cell? ⟨g, off + 2, none⟩ = some (.int .u64 (a.pcs : Int)) ∧
      (∃ o2, (∀ W1, (Instr.slice 126 v (some (.int .i64 1)) none none).run Try.prog W1 = .ok (.slice (some ⟨g, o2, none⟩) l.length (cap - 1)) W1) ∧ LineR W (.slice (some ⟨g, o2, none⟩) l.length (cap - 1)) l) := by
  obtain ⟨g, off, cap, cur, rfl, h1, h2, h3, h4⟩ := h
  rw [List.length_cons] at h1 h4
  have hc : ∀ j, j < (l.length + 1) * 3 → W.cell? ⟨g, off + j, none⟩ = (flatA (a :: l))[j]? := fun j hj => by rw [cell_row h2]; exact h4 j hj
  have hsl : ∀ W1, (Instr.slice 126 (.slice (some ⟨g, off, none⟩) (l.length + 1) cap) (some (.int .i64 1)) none none).run Try.prog W1 = .ok (.slice (some ⟨g, if cap = 1 then off else off + 3, none⟩) l.length (cap - 1)) W1 := fun W1 => by
    obtain ⟨i, hi, hz, hs, hb⟩ := info_parts info91_
    have he : Try.prog.elem 126 = 91 := by kernel_rfl
    rw [run_slice_l (P := Try.prog) W1 126 (some ⟨g, off, none⟩) (l.length + 1) cap (by rw [he]; exact Try.underlying126) .i64 1 (by omega) (by omega)]
    rw [he]
    simp only [sizeOf, Sem.run_bind, typeInfo, hi, hs]
    by_cases hc1 : cap = 1
    · subst hc1; simp [sliced, hi, typeInfo, hs]
    · simp [sliced, hi, typeInfo, hs, hc1, Addr.add_lit]
  refine ⟨g, off, cap, rfl, h1, ?_, ?_, ?_, (if cap = 1 then off else off + 3), hsl, g, _, cap - 1, cur, rfl, by omega, h2, ?_, ?_⟩
  · have := hc 0 (by omega); simpa [flatA, cell3] using this
  · have := hc 1 (by omega); simpa [flatA, cell3] using this
  · have := hc 2 (by omega); simpa [flatA, cell3] using this
  · by_cases hc1 : cap = 1
    · rw [if_pos hc1]; omega
    · rw [if_neg hc1]; omega
  · intro j hj
    rw [if_neg (by omega)]
    have h5 := h4 (j + 3) (by omega)
    rw [show off + (j + 3) = off + 3 + j by omega] at h5
    rw [h5]
    rfl
theorem LineR.push {W : World} {v : Value} {l : List Sta} (h : LineR W v l) (hl : l.length ≤ 100000) {b : Sta} {Z : Nat} (hZ : W.heap[Z]? = some (.cells (cell3 b).toArray 91 (0, 0))) :
    ∃ v' W', (Builtin.append_ #[126, 126] 126 #[v, .slice (some ⟨Z, 0, none⟩) 1 1]).run Try.prog W = .ok v' W' ∧ LineR W' v' (l ++ [b]) ∧ Keeps (fun k => v.ownBlock = some k) W W' ∧ (v'.ownBlock = v.ownBlock ∨ (v'.ownBlock = some W.heap.size ∧ W.heap.size < W'.heap.size)) := by
  obtain ⟨g, off, cap, cur, rfl, h1, h2, h3, h4⟩ := h
  obtain ⟨i, hi, hz, hs, hb⟩ := info_parts info91_
  have hnews : ∀ j u, (cell3 b)[j]? = some u → W.cell? ((⟨Z, 0, none⟩ : Addr).add j) = some u := fun j u hj => by rw [Addr.add_lit, cell_row hZ]; simpa using hj
  have hone : ∀ u ∈ cell3 b, u.oneCell' = true := fun u hu => by simp [cell3] at hu; rcases hu with rfl | rfl | rfl <;> rfl
  have hfl : ∀ (cu : Array Value) (o : Nat), (∀ j, j < l.length * 3 → cu[o + j]? = (flatA l)[j]?) → (∀ j, j < 3 → cu[o + l.length * 3 + j]? = (cell3 b)[j]?) → ∀ j, j < (l ++ [b]).length * 3 → cu[o + j]? = (flatA (l ++ [b]))[j]? := by
    intro cu o ha hb2 j hj
    rw [List.length_append, List.length_singleton] at hj
    have e : flatA (l ++ [b]) = flatA l ++ cell3 b := by unfold flatA; rw [List.flatMap_append]; simp
    rw [e]
    by_cases hjl : j < l.length * 3
    · rw [List.getElem?_append_left (by rw [flatA_len]; exact hjl)]; exact ha j hjl
    · rw [List.getElem?_append_right (by rw [flatA_len]; omega), flatA_len]
      have := hb2 (j - l.length * 3) (by omega)
      rw [show o + l.length * 3 + (j - l.length * 3) = o + j by omega] at this
      exact this
  by_cases hroom : l.length + 1 ≤ cap
  · have hlt : ∀ j, j < 3 → off + l.length * 3 + j < cur.size := fun j hj => by omega
    have hr := run_append_room_cells (P := Try.prog) W 126 126 91 i Try.underlying126 hi g off l.length cap ⟨Z, 0, none⟩ 1 1 (cell3 b) (by rw [hs]; rfl) hnews hone hroom (fun j hj => by
      rw [hs, cell_row h2]
      have := hlt j (by simpa [cell3] using hj)
      simp [this]) (fun j hj => frozen_row h2)
    rw [hs] at hr
    have hset : W.setCells g (off + l.length * 3) (cell3 b) = ((W.setCell ⟨g, off + l.length * 3, none⟩ (.int .i64 ((b.last / 2 : Nat) : Int))).setCell ⟨g, off + l.length * 3 + 1, none⟩ (.bool (decide (b.last % 2 = 1)))).setCell ⟨g, off + l.length * 3 + 1 + 1, none⟩ (.int .u64 (b.pcs : Int)) := rfl
    rw [hset] at hr
    refine ⟨_, _, hr, ⟨g, off, cap, _, by rw [List.length_append]; rfl, by rw [List.length_append]; exact hroom, set_same _ _ (set_same _ _ (set_same _ _ h2)), by simpa using h3, hfl _ _ (fun j hj => ?_) (fun j hj => ?_)⟩, ((keeps_setCell _ _ _ _).trans (keeps_setCell _ _ _ _)).trans (keeps_setCell _ _ _ _) |>.mono (fun k _ e => by subst e; rfl), .inl rfl⟩
    · rw [Array.getElem?_setIfInBounds_ne (by omega), Array.getElem?_setIfInBounds_ne (by omega), Array.getElem?_setIfInBounds_ne (by omega)]; exact h4 j hj
    · have h0 := hlt 0 (by omega)
      have h1' := hlt 1 (by omega)
      have h2' := hlt 2 (by omega)
      match j, hj with
      | 0, _ => rw [Array.getElem?_setIfInBounds_ne (by omega), Array.getElem?_setIfInBounds_ne (by omega)]; simp only [Nat.add_zero]; rw [Array.getElem?_setIfInBounds_self_of_lt (by omega)]; rfl
      | 1, _ => rw [Array.getElem?_setIfInBounds_ne (by omega), Array.getElem?_setIfInBounds_self_of_lt (by simp; omega)]; rfl
      | 2, _ => rw [show off + l.length * 3 + 2 = off + l.length * 3 + 1 + 1 by omega, Array.getElem?_setIfInBounds_self_of_lt (by simp; omega)]; rfl
  · have holds : ∀ j u, (flatA l)[j]? = some u → W.cell? ((⟨g, off, none⟩ : Addr).add j) = some u := fun j u hj => by
      have hj2 := (List.getElem?_eq_some_iff.1 hj).1
      rw [flatA_len] at hj2
      rw [Addr.add_lit, cell_row h2, h4 j hj2]
      exact hj
    have hr := run_append_grow (P := Try.prog) W 126 126 91 i _ Try.underlying126 hi hz ⟨g, off, none⟩ l.length cap (flatA l) (by rw [hs, flatA_len]) holds ⟨Z, 0, none⟩ 1 1 (cell3 b) (by rw [hs]; rfl) hnews (by omega) (by omega) (growslice_fits (by omega) (by rw [hb]; omega))
    have hge := grownCap_ge W (l.length + 1) cap 91
    refine ⟨_, _, hr, ⟨W.heap.size, 0, _, _, by rw [List.length_append]; rfl, by rw [List.length_append]; exact hge, heap_alloc_new W.drew _, ?_, hfl _ _ (fun j hj => ?_) (fun j hj => ?_)⟩, (Keeps.of_new (drew_b W 1)).trans (keep_alloc _ _ _), .inr ⟨rfl, by simp⟩⟩
    · simp only [Array.size_append, List.size_toArray, size_zeroCells, flatA_len]
      have h7 : (cell3 b).length = 3 := rfl
      have h8 : (Value.agg #[.int .i64 0, .bool false, .int .u64 0]).cells.size = 3 := rfl
      rw [h7, h8]
      omega
    · rw [Nat.zero_add, Array.getElem?_append_left (by simp [flatA_len]; omega), Array.getElem?_append_left (by simp [flatA_len]; exact hj)]
      simp
    · rw [Nat.zero_add, Array.getElem?_append_left (by simp [flatA_len, cell3]; omega), Array.getElem?_append_right (by simp [flatA_len])]
      simp [flatA_len]
end Go.Proofs.Ytfmcfalghbaanaa
