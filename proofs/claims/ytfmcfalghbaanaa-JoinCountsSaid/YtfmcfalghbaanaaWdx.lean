/- Stage 2: a copy of the pieces, of which some cells are stored anew. -/
import Derived.Test.YtfmcfalghbaanaaLawR
namespace Go.Proofs.Ytfmcfalghbaanaa
set_option linter.unusedSimpArgs false
set_option linter.unusedVariables false
open Go.RowKit Go.Shelf

theorem cellsP_len (p : Pc) : (cellsP p).length = 7 := rfl
theorem flatPc_len (l : List Pc) : (flatPc l).length = l.length * 7 := by
  induction l with
  | nil => rfl
  | cons x l ih =>
    have e : flatPc (x :: l) = cellsP x ++ flatPc l := rfl
    rw [e, List.length_append, ih, cellsP_len, List.length_cons]
    omega
/-- One cell of one piece. -/
theorem flatPc_set (l : List Pc) (k j : Nat) (v : Value) (p : Pc) (hk : k < l.length) (hj : j < 7) (hp : cellsP p = (cellsP (pAt l k)).set j v) : (flatPc l).set (k * 7 + j) v = flatPc (l.set k p) := by
  induction l generalizing k with
  | nil => simp at hk
  | cons x l ih =>
    have e : flatPc (x :: l) = cellsP x ++ flatPc l := rfl
    cases k with
    | zero =>
      have h1 : pAt (x :: l) 0 = x := rfl
      rw [h1] at hp
      rw [e, Nat.zero_mul, Nat.zero_add, List.set_append_left _ _ (by rw [cellsP_len]; exact hj), ← hp]
      rfl
    | succ k =>
      have h1 : pAt (x :: l) (k + 1) = pAt l k := by simp [pAt]
      rw [h1] at hp
      rw [e, List.set_append_right _ _ (by rw [cellsP_len]; omega), cellsP_len, show (k + 1) * 7 + j - 7 = k * 7 + j by omega, ih k (by simpa using hk) hp]
      rfl
/-- A row of the call's own with one cell stored anew. -/
theorem own_set {W : World} {g n cap : Nat} {xs : List Value} (h : W.ownsRow 0 62 7 (.slice (some ⟨g, 0, none⟩) n cap) n xs) (i : Nat) (v : Value) :
    (W.setCell ⟨g, i, none⟩ v).ownsRow 0 62 7 (.slice (some ⟨g, 0, none⟩) n cap) n (xs.set i v) := by
  obtain ⟨h1, h2⟩ := h
  refine ⟨by rw [List.length_set]; exact h1, ?_⟩
  rcases h2 with ⟨e, _⟩ | ⟨g2, cap2, cur, e, hb, hg, hc, hm, hsz, htake⟩
  · cases e
  · cases e
    refine .inr ⟨g, cap, cur.setIfInBounds i v, rfl, hb, set_same i v hg, hc, hm, by rw [Array.size_setIfInBounds]; exact hsz, ?_⟩
    rw [Array.toList_setIfInBounds, List.take_set, htake]
theorem own_frozen {W : World} {g n cap : Nat} {xs : List Value} (h : W.ownsRow 0 62 7 (.slice (some ⟨g, 0, none⟩) n cap) n xs) (i : Nat) : W.frozen? ⟨g, i, none⟩ = false := by
  rcases h.2 with ⟨e, _⟩ | ⟨g2, cap2, cur, e, hb, hg, hc, hm, hsz, htake⟩
  · cases e
  · cases e
    exact frozen_row hg
/-- Two cylinders in memory, the second one of the law's own. -/
structure Kw2 (w : World) (B D : Nat) (A : Option Addr) (n cap : Nat) (off lo hi : Int) (ps : List Pc) (off2 lo2 hi2 : Int) (qs : List Pc) (g cp : Nat) (W : World) : Prop where
  p0 : Pcs w A n ps
  below : Below w.heap.size w W
  dB : w.heap.size ≤ B ∧ w.heap.size ≤ D ∧ B ≠ D
  r0 : W.heap[B]? = some (.cells #[.slice A n cap, .int .i64 off, .int .i64 lo, .int .i64 hi] 26 (0, 0))
  r1 : W.heap[D]? = some (.cells #[.slice (some ⟨g, 0, none⟩) n cp, .int .i64 off2, .int .i64 lo2, .int .i64 hi2] 26 (0, 0))
  len : qs.length = n
  own : W.ownsRow 0 62 7 (.slice (some ⟨g, 0, none⟩) n cp) n (flatPc qs)
  ob : w.heap.size ≤ g ∧ g ≠ B ∧ g ≠ D
section
variable {w : World} {B D : Nat} {A : Option Addr} {n cap : Nat} {off lo hi : Int} {ps : List Pc} {off2 lo2 hi2 : Int} {qs : List Pc} {g cp : Nat} {W W' : World}
theorem Kw2.next (hb : Below W.heap.size W W') (h : Kw2 w B D A n cap off lo hi ps off2 lo2 hi2 qs g cp W) : Kw2 w B D A n cap off lo hi ps off2 lo2 hi2 qs g cp W' :=
  ⟨h.p0, h.below.trans (hb.mono h.below.size), h.dB, (hb.block _ (lt_of_block h.r0)).trans h.r0, (hb.block _ (lt_of_block h.r1)).trans h.r1, h.len, own_keep h.own (Keeps.of_new (Mut := fun _ => False) hb) (fun _ _ e => e), h.ob⟩
theorem Kw2.q (h : Kw2 w B D A n cap off lo hi ps off2 lo2 hi2 qs g cp W) : Pcs W (some ⟨g, 0, none⟩) n qs := pcs_own h.own h.len
theorem Kw2.v (h : Kw2 w B D A n cap off lo hi ps off2 lo2 hi2 qs g cp W) : Kv w B D A n cap off lo hi ps off2 lo2 hi2 qs (some ⟨g, 0, none⟩) n cp W :=
  ⟨Kz.of h.p0 h.below h.r0, h.q, h.r1⟩
theorem Kw2.lt (h : Kw2 w B D A n cap off lo hi ps off2 lo2 hi2 qs g cp W) : g < W.heap.size := own_lt h.own _ rfl
/-- One cell of one piece is stored anew. -/
theorem Kw2.set (h : Kw2 w B D A n cap off lo hi ps off2 lo2 hi2 qs g cp W) {k j : Nat} {v : Value} {p : Pc} (hk : k < n) (hj : j < 7) (hp : cellsP p = (cellsP (pAt qs k)).set j v) :
    Kw2 w B D A n cap off lo hi ps off2 lo2 hi2 (qs.set k p) g cp (W.setCell ⟨g, k * 7 + j, none⟩ v) := by
  obtain ⟨o1, o2, o3⟩ := h.ob
  have hset := keeps_setCell W g (k * 7 + j) v
  refine ⟨h.p0, h.below.trans (hset.below (B := w.heap.size) h.below.size (fun i hi e => by omega)), h.dB, set_other _ h.r0 (fun e => o2 e.symm), set_other _ h.r1 (fun e => o3 e.symm), by rw [List.length_set]; exact h.len, ?_, h.ob⟩
  rw [← flatPc_set qs k j v p (by rw [h.len]; exact hk) hj hp]
  exact own_set h.own _ _
theorem Kw2.cells (h : Kw2 w B D A n cap off lo hi ps off2 lo2 hi2 qs g cp W) {k : Nat} (hk : k < n) :
    W.cell? ⟨g, k * 7, none⟩ = some (.int .i64 (pAt qs k).a.d.lo) ∧ W.cell? ⟨g, k * 7 + 1, none⟩ = some (.int .i64 (pAt qs k).a.d.hi) ∧ W.cell? ⟨g, k * 7 + 2, none⟩ = some (.int .i64 (pAt qs k).a.p) ∧
    W.cell? ⟨g, k * 7 + 3, none⟩ = some (.int .i64 (pAt qs k).b.d.lo) ∧ W.cell? ⟨g, k * 7 + 4, none⟩ = some (.int .i64 (pAt qs k).b.d.hi) ∧ W.cell? ⟨g, k * 7 + 5, none⟩ = some (.int .i64 (pAt qs k).b.p) ∧
    W.cell? ⟨g, k * 7 + 6, none⟩ = some (.bool (pAt qs k).loose) ∧ ∀ i, W.frozen? ⟨g, i, none⟩ = false := by
  have := pcs_cells h.q hk
  simp only [Nat.zero_add] at this
  exact ⟨this.1, this.2.1, this.2.2.1, this.2.2.2.1, this.2.2.2.2.1, this.2.2.2.2.2.1, this.2.2.2.2.2.2, own_frozen h.own⟩
end
/-- The copy of all pieces onto an empty row of the call's own. -/
theorem app_all {W : World} {Z : Nat} (hZ : W.heap[Z]? = some (.cells #[] 62 (0, 0))) {A : Option Addr} {n cap : Nat} {ps : List Pc} (h : Pcs W A n ps) (hn1 : 1 ≤ n) (hn : n ≤ 1000) :
    ∃ g cp W', runA Try.prog 22 (.slice (some ⟨Z, 0, none⟩) 0 0) (.slice A n cap) W = .ok (.value (.slice (some ⟨g, 0, none⟩) n cp)) W' ∧ W'.ownsRow 0 62 7 (.slice (some ⟨g, 0, none⟩) n cp) n (flatPc ps) ∧
      Keeps (fun j => j = Z) W W' ∧ (g = Z ∨ (g = W.heap.size ∧ W.heap.size < W'.heap.size)) := by
  obtain ⟨i, hi, hz, hs, hb⟩ := info_parts info62_
  obtain ⟨b, o, rfl, hc⟩ := h.2 (by omega)
  have hown : W.ownsRow 0 62 7 (.slice (some ⟨Z, 0, none⟩) 0 0) 0 [] := ⟨rfl, .inr ⟨Z, 0, #[], rfl, Nat.zero_le _, hZ, Nat.le_refl _, Nat.zero_le _, rfl, rfl⟩⟩
  have hl := h.1
  obtain ⟨v', W', h2, h3, h4, _, h5⟩ := run_append_own_at (P := Try.prog) W 0 22 22 62 i _ 7 56 Try.underlying22 hi hz hs hb rfl (by omega) _ 0 [] hown ⟨b, o, none⟩ n cap (flatPc ps) (by rw [flatPc_len, hl]) (fun j u hj => by
      have hjl : j < n * 7 := by
        have := (List.getElem?_eq_some_iff.1 hj).1
        rw [flatPc_len, hl] at this
        exact this
      rw [Addr.add_lit]
      have hd := hc (j / 7) (by omega)
      have hf := flatPc_at ps (j / 7) (by omega)
      rcases (by omega : j = j / 7 * 7 ∨ j = j / 7 * 7 + 1 ∨ j = j / 7 * 7 + 2 ∨ j = j / 7 * 7 + 3 ∨ j = j / 7 * 7 + 4 ∨ j = j / 7 * 7 + 5 ∨ j = j / 7 * 7 + 6) with e | e | e | e | e | e | e
      · rw [e, hf.1] at hj; rw [e, ← hj]; exact hd.1
      · rw [e, hf.2.1] at hj; rw [e, ← hj]; exact hd.2.1
      · rw [e, hf.2.2.1] at hj; rw [e, ← hj]; exact hd.2.2.1
      · rw [e, hf.2.2.2.1] at hj; rw [e, ← hj]; exact hd.2.2.2.1
      · rw [e, hf.2.2.2.2.1] at hj; rw [e, ← hj]; exact hd.2.2.2.2.1
      · rw [e, hf.2.2.2.2.2.1] at hj; rw [e, ← hj]; exact hd.2.2.2.2.2.1
      · rw [e, hf.2.2.2.2.2.2] at hj; rw [e, ← hj]; exact hd.2.2.2.2.2.2) (by
      intro u hu
      unfold flatPc at hu
      obtain ⟨p, _, hp⟩ := List.mem_flatMap.1 hu
      simp only [cellsP, List.mem_cons, List.mem_nil_iff, or_false] at hp
      rcases hp with rfl | rfl | rfl | rfl | rfl | rfl | rfl <;> rfl) (by unfold maxLen; omega) (by omega) (Nat.zero_le _)
  rw [Nat.zero_add, List.nil_append] at h3
  rcases h3.2 with ⟨_, e⟩ | ⟨g, cp, cur, rfl, _⟩
  · omega
  · refine ⟨g, cp, W', run_app h2, h3, ⟨h4.os, h4.tape, h4.output, h4.size, fun k hk hm => h4.block k hk (fun e => hm (Option.some.inj e))⟩, ?_⟩
    rcases h5 with h5 | h5
    · exact .inl (Option.some.inj h5)
    · exact .inr ⟨Option.some.inj h5, own_lt h3 _ h5⟩
end Go.Proofs.Ytfmcfalghbaanaa
