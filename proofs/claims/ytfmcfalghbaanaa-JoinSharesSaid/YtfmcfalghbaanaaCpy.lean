/- Stage 2: lists of pieces of the call's own. -/
import Derived.Test.YtfmcfalghbaanaaWid
namespace Go.Proofs.Ytfmcfalghbaanaa
set_option linter.unusedSimpArgs false
set_option linter.unusedVariables false
open Go.RowKit Go.Shelf

/-- The cells of pieces. -/
def cellsP (p : Pc) : List Value := [.int .i64 p.a.d.lo, .int .i64 p.a.d.hi, .int .i64 p.a.p, .int .i64 p.b.d.lo, .int .i64 p.b.d.hi, .int .i64 p.b.p, .bool p.loose]
def flatPc (l : List Pc) : List Value := l.flatMap cellsP
theorem flatPc_at (l : List Pc) (j : Nat) (h : j < l.length) :
    (flatPc l)[j * 7]? = some (.int .i64 (pAt l j).a.d.lo) ∧ (flatPc l)[j * 7 + 1]? = some (.int .i64 (pAt l j).a.d.hi) ∧ (flatPc l)[j * 7 + 2]? = some (.int .i64 (pAt l j).a.p) ∧
    (flatPc l)[j * 7 + 3]? = some (.int .i64 (pAt l j).b.d.lo) ∧ (flatPc l)[j * 7 + 4]? = some (.int .i64 (pAt l j).b.d.hi) ∧ (flatPc l)[j * 7 + 5]? = some (.int .i64 (pAt l j).b.p) ∧ (flatPc l)[j * 7 + 6]? = some (.bool (pAt l j).loose) := by
  induction l generalizing j with
  | nil => simp at h
  | cons x l ih =>
    cases j with
    | zero => simp [flatPc, cellsP, pAt]
    | succ j =>
      have := ih j (by simpa using h)
      rw [show (j + 1) * 7 = j * 7 + 1 + 1 + 1 + 1 + 1 + 1 + 1 by omega]
      have e : pAt (x :: l) (j + 1) = pAt l j := by simp [pAt]
      rw [e]
      simp only [flatPc, cellsP, List.flatMap_cons, List.cons_append, List.nil_append, List.getElem?_cons_succ] at this ⊢
      exact this
/-- What is owned reads as pieces. -/
theorem pcs_own {W : World} {C : Option Addr} {n cap : Nat} {l : List Pc} (h : W.ownsRow 0 62 7 (.slice C n cap) n (flatPc l)) (hl : l.length = n) : Pcs W C n l := by
  refine ⟨hl, fun h0 => ?_⟩
  rcases h.2 with ⟨_, e⟩ | ⟨g, cap2, cur, e, hb, hg, hc, _, hsz, htake⟩
  · omega
  · cases e
    refine ⟨g, 0, rfl, fun j hj => ?_⟩
    have hlt : ∀ i, i < n * 7 → W.cell? ⟨g, i, none⟩ = (flatPc l)[i]? := fun i hi => by
      rw [cell_row hg, ← htake, List.getElem?_take_of_lt hi, Array.getElem?_toList]
    rw [Nat.zero_add, hlt _ (by omega), hlt _ (by omega), hlt _ (by omega), hlt _ (by omega), hlt _ (by omega), hlt _ (by omega), hlt _ (by omega)]
    exact flatPc_at l j (by omega)
theorem own_slice {W : World} {e : TypeId} {size : Nat} {v : Value} {n : Nat} {xs : List Value} (h : W.ownsRow 0 e size v n xs) : ∃ C cap, v = .slice C n cap ∧ n ≤ cap := by
  rcases h.2 with ⟨rfl, rfl⟩ | ⟨g, cap, cur, rfl, hb, hg, hc, _⟩
  · exact ⟨none, 0, rfl, Nat.le_refl _⟩
  · exact ⟨_, cap, rfl, hc⟩
theorem info62_ : (Try.prog.info? 62).map (fun i => (i.zero, i.size, i.bytes)) = some (some (.agg #[.int .i64 0, .int .i64 0, .int .i64 0, .int .i64 0, .int .i64 0, .int .i64 0, .bool false]), 7, 56) := by kernel_rfl
/-- A piece more. -/
theorem app_pc {W : World} {C : Option Addr} {k cp : Nat} {xs : List Value} (hown : W.ownsRow 0 62 7 (.slice C k cp) k xs) {Z : Nat} {p : Pc} (hZ : W.heap[Z]? = some (.cells (cellsP p).toArray 62 (0, 0))) (hn : k ≤ 100000) :
    ∃ C' cp' W', runA Try.prog 22 (.slice C k cp) (.slice (some ⟨Z, 0, none⟩) 1 1) W = .ok (.value (.slice C' (k + 1) cp')) W' ∧ W'.ownsRow 0 62 7 (.slice C' (k + 1) cp') (k + 1) (xs ++ cellsP p) ∧
      Keeps (fun j => (Value.slice C k cp).ownBlock = some j) W W' ∧ ((Value.slice C' (k + 1) cp').ownBlock = (Value.slice C k cp).ownBlock ∨ ((Value.slice C' (k + 1) cp').ownBlock = some W.heap.size ∧ W.heap.size < W'.heap.size)) := by
  obtain ⟨v', W', hap, hown', hK, hv'⟩ := app_one Try.underlying22 info62_ rfl (by omega) (by omega) hown (vals := cellsP p) rfl hZ (by simp [cellsP, Value.oneCell']) hn
  obtain ⟨C', cp', rfl, _⟩ := own_slice hown'
  exact ⟨C', cp', W', run_app hap, hown', hK, hv'⟩
theorem flatPc_snoc (l : List Pc) (p : Pc) : flatPc (l ++ [p]) = flatPc l ++ cellsP p := by simp [flatPc]
theorem Kz.of {w : World} {B : Nat} {A : Option Addr} {n cap : Nat} {off lo hi : Int} {ps : List Pc} {W : World} (h : Pcs w A n ps) (hb : Below w.heap.size w W) (hr : W.heap[B]? = some (.cells #[.slice A n cap, .int .i64 off, .int .i64 lo, .int .i64 hi] 26 (0, 0))) :
    Kz w B A n cap off lo hi ps none 0 [] W := ⟨hb, hr, h.below hb (Nat.le_refl _), rfl, by omega⟩

/-- Two cylinders in memory: the given one, and one of the law's own, whose slice of pieces is still growing. -/
structure Kg (w : World) (B D : Nat) (A : Option Addr) (n cap : Nat) (off lo hi : Int) (ps : List Pc) (off2 lo2 hi2 : Int) (qs : List Pc) (C : Option Addr) (cp : Nat) (W : World) : Prop where
  p0 : Pcs w A n ps
  below : Below w.heap.size w W
  dB : w.heap.size ≤ B ∧ B < D
  r0 : W.heap[B]? = some (.cells #[.slice A n cap, .int .i64 off, .int .i64 lo, .int .i64 hi] 26 (0, 0))
  r1 : W.heap[D]? = some (.cells #[.slice C qs.length cp, .int .i64 off2, .int .i64 lo2, .int .i64 hi2] 26 (0, 0))
  own : W.ownsRow 0 62 7 (.slice C qs.length cp) qs.length (flatPc qs)
  ob : ∀ j, (Value.slice C qs.length cp).ownBlock = some j → D < j
section
variable {w : World} {B D : Nat} {A : Option Addr} {n cap : Nat} {off lo hi : Int} {ps : List Pc} {off2 lo2 hi2 : Int} {qs : List Pc} {C : Option Addr} {cp : Nat} {W W' : World}
theorem Kg.next (h : Kg w B D A n cap off lo hi ps off2 lo2 hi2 qs C cp W) (hb : Below W.heap.size W W') : Kg w B D A n cap off lo hi ps off2 lo2 hi2 qs C cp W' :=
  ⟨h.p0, h.below.trans (hb.mono h.below.size), h.dB, (hb.block _ (lt_of_block h.r0)).trans h.r0, (hb.block _ (lt_of_block h.r1)).trans h.r1, own_keep h.own (Keeps.of_new (Mut := fun _ => False) hb) (fun _ _ e => e), h.ob⟩
theorem Kg.k (h : Kg w B D A n cap off lo hi ps off2 lo2 hi2 qs C cp W) : Kz w B A n cap off lo hi ps none 0 [] W := Kz.of h.p0 h.below h.r0
theorem Kg.q (h : Kg w B D A n cap off lo hi ps off2 lo2 hi2 qs C cp W) : Pcs W C qs.length qs := pcs_own h.own rfl
theorem Kg.c (h : Kg w B D A n cap off lo hi ps off2 lo2 hi2 qs C cp W) :
    W.cell? ⟨D, 0, none⟩ = some (.slice C qs.length cp) ∧ W.cell? ⟨D, 1, none⟩ = some (.int .i64 off2) ∧ W.cell? ⟨D, 2, none⟩ = some (.int .i64 lo2) ∧ W.cell? ⟨D, 3, none⟩ = some (.int .i64 hi2) ∧ W.frozen? ⟨D, 0, none⟩ = false :=
  ⟨by rw [cell_row h.r1]; rfl, by rw [cell_row h.r1]; rfl, by rw [cell_row h.r1]; rfl, by rw [cell_row h.r1]; rfl, frozen_row h.r1⟩
/-- A piece more, and its slice stored. -/
theorem Kg.app (h : Kg w B D A n cap off lo hi ps off2 lo2 hi2 qs C cp W) {Z : Nat} {p : Pc} (hZ : W.heap[Z]? = some (.cells (cellsP p).toArray 62 (0, 0))) (hn : qs.length ≤ 100000) :
    ∃ C' cp' W', runA Try.prog 22 (.slice C qs.length cp) (.slice (some ⟨Z, 0, none⟩) 1 1) W = .ok (.value (.slice C' (qs.length + 1) cp')) W' ∧
      W'.cell? ⟨D, 0, none⟩ = some (.slice C qs.length cp) ∧ W'.frozen? ⟨D, 0, none⟩ = false ∧
      Kg w B D A n cap off lo hi ps off2 lo2 hi2 (qs ++ [p]) C' cp' (W'.setCell ⟨D, 0, none⟩ (.slice C' (qs.length + 1) cp')) := by
  obtain ⟨C', cp', W', hrun, hown', hK, hv'⟩ := app_pc h.own hZ hn
  have hD := lt_of_block h.r1
  have hB := lt_of_block h.r0
  have hdb := h.dB
  have hD' : W'.heap[D]? = some (.cells #[.slice C qs.length cp, .int .i64 off2, .int .i64 lo2, .int .i64 hi2] 26 (0, 0)) := (hK.block _ hD (fun e => by have := h.ob _ e; omega)).trans h.r1
  have hB' : W'.heap[B]? = some (.cells #[.slice A n cap, .int .i64 off, .int .i64 lo, .int .i64 hi] 26 (0, 0)) := (hK.block _ hB (fun e => by have := h.ob _ e; omega)).trans h.r0
  have hob' : ∀ j, (Value.slice C' (qs.length + 1) cp').ownBlock = some j → D < j := fun j hj => by
    rcases hv' with e | ⟨e, _⟩
    · exact h.ob _ (e ▸ hj)
    · rw [e] at hj
      cases hj
      exact hD
  have hset := keeps_setCell W' D 0 (.slice C' (qs.length + 1) cp')
  have hl : (qs ++ [p]).length = qs.length + 1 := by simp
  refine ⟨C', cp', W', hrun, by rw [cell_row hD']; rfl, frozen_row hD', h.p0, ?_, h.dB, ?_, ?_, ?_, ?_⟩
  · refine h.below.trans ((hK.below (B := w.heap.size) h.below.size (fun j hj e => ?_)).trans (hset.below (B := w.heap.size) (Nat.le_trans h.below.size hK.size) (fun j hj e => ?_)))
    · have := h.ob _ e; omega
    · omega
  · exact set_other _ hB' (by omega)
  · rw [hl, set_same 0 _ hD']
    rfl
  · rw [hl, flatPc_snoc]
    exact own_keep hown' hset (fun j hj e => by have := hob' j hj; omega)
  · rw [hl]
    exact hob'
end
/-- The beginning. -/
theorem Kg.new {w W : World} {B : Nat} {A : Option Addr} {n cap : Nat} {off lo hi : Int} {ps : List Pc} {off2 lo2 hi2 : Int} (h : Pcs w A n ps) (K : Kz w B A n cap off lo hi ps none 0 [] W) (hB : w.heap.size ≤ B) :
    Kg w B W.heap.size A n cap off lo hi ps off2 lo2 hi2 [] none 0 (W.alloc (.cells #[.slice none 0 0, .int .i64 off2, .int .i64 lo2, .int .i64 hi2] 26)) := by
  have hb := below_alloc_ W (.cells #[.slice none 0 0, .int .i64 off2, .int .i64 lo2, .int .i64 hi2] 26)
  exact ⟨h, K.below.trans (hb.mono K.below.size), ⟨hB, lt_of_block K.r0⟩, (hb.block _ (lt_of_block K.r0)).trans K.r0, heap_alloc_new_ _ _, own_nil _ _ _, fun j hj => by cases hj⟩
theorem pcs_cells {W : World} {b o n : Nat} {ps : List Pc} (h : Pcs W (some ⟨b, o, none⟩) n ps) {j : Nat} (hj : j < n) :
    W.cell? ⟨b, o + j * 7, none⟩ = some (.int .i64 (pAt ps j).a.d.lo) ∧ W.cell? ⟨b, o + j * 7 + 1, none⟩ = some (.int .i64 (pAt ps j).a.d.hi) ∧ W.cell? ⟨b, o + j * 7 + 2, none⟩ = some (.int .i64 (pAt ps j).a.p) ∧
    W.cell? ⟨b, o + j * 7 + 3, none⟩ = some (.int .i64 (pAt ps j).b.d.lo) ∧ W.cell? ⟨b, o + j * 7 + 4, none⟩ = some (.int .i64 (pAt ps j).b.d.hi) ∧ W.cell? ⟨b, o + j * 7 + 5, none⟩ = some (.int .i64 (pAt ps j).b.p) ∧
    W.cell? ⟨b, o + j * 7 + 6, none⟩ = some (.bool (pAt ps j).loose) := by
  obtain ⟨b', o', e, hc⟩ := h.2 (by omega)
  obtain ⟨rfl, rfl⟩ : b = b' ∧ o = o' := by cases e; exact ⟨rfl, rfl⟩
  exact hc j hj
theorem passR_none {c : Cy} (he : chkC c = 0) (h0 : (joinsC c).length = 0) : passR c = ([], 5) := by
  unfold passR
  rw [if_neg (by rw [he]; simp), if_pos h0]
theorem passR_some {c : Cy} (he : chkC c = 0) (h0 : ¬ (joinsC c).length = 0) : passR c = (passL c, 0) := by
  unfold passR
  rw [if_neg (by rw [he]; simp), if_neg h0]
theorem countR_ok {c : Cy} (he : chkC c = 0) : countR c = (((joinsC c).length : Int), 0) := by
  unfold countR
  rw [if_neg (by rw [he]; simp)]
  rfl
/-- What is the same of a cylinder's passages and those of the reversed one. -/
theorem rev_passR {c : Cy} (he : chkC c = 0) : ∃ P P' e, passR c = (P, e) ∧ passR (revC c) = (P', e) ∧ P'.length = P.length ∧ P.length ≤ 256 ∧ ∀ x y, (x, y) ∈ P → (y, x) ∈ P' := by
  have he2 := rev_chk he
  have hN := rev_count c
  by_cases h0 : (joinsC c).length = 0
  · rw [passR_none he h0, passR_none he2 (by rw [hN]; exact h0)]
    exact ⟨[], [], 5, rfl, rfl, rfl, by simp, by simp⟩
  · rw [passR_some he h0, passR_some he2 (by rw [hN]; exact h0)]
    obtain ⟨L, hL⟩ := List.exists_mem_of_length_pos (Nat.pos_of_ne_zero h0)
    have h1 := pass_sh hL
    have h2 := shN_le c L (L.length - 1)
    have h3 := (join_way hL).1
    have h4 := (chkC_facts he).2.1
    exact ⟨passL c, passL (revC c), 0, rfl, rfl, rev_pass_len c, by omega, fun x y h => rev_pass h⟩
end Go.Proofs.Ytfmcfalghbaanaa
