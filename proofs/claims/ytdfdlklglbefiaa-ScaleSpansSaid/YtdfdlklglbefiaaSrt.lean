/- Stage 3: tones sorted by a key: what moves, and the insertion sort. -/
import Derived.Test.YtdfdlklglbefiaaBd
import Derived.Deep.RegionHeld3
import Derived.BigQuiet
namespace Go.Proofs.Ytdfdlklglbefiaa
set_option linter.unusedSimpArgs false
set_option linter.unusedVariables false
open Go.RowKit Go.Shelf

/-- ys is xs with some tones from a to b moved. -/
structure Mv (a b : Nat) (ys xs : List Tn) : Prop where
  len : ys.length = xs.length
  perm : ys.Perm xs
  out : ∀ j, j < a ∨ b ≤ j → tAt ys j = tAt xs j
  ins : ∀ p, a ≤ p → p < b → ∃ q, a ≤ q ∧ q < b ∧ tAt ys p = tAt xs q
theorem Mv.refl (a b : Nat) (xs : List Tn) : Mv a b xs xs := ⟨rfl, List.Perm.refl _, fun _ _ => rfl, fun p h1 h2 => ⟨p, h1, h2, rfl⟩⟩
theorem Mv.trans {a b : Nat} {zs ys xs : List Tn} (h : Mv a b zs ys) (k : Mv a b ys xs) : Mv a b zs xs :=
  ⟨h.len.trans k.len, h.perm.trans k.perm, fun j hj => (h.out j hj).trans (k.out j hj), fun p h1 h2 => by
    obtain ⟨q, h3, h4, h5⟩ := h.ins p h1 h2
    obtain ⟨r, h6, h7, h8⟩ := k.ins q h3 h4
    exact ⟨r, h6, h7, h5.trans h8⟩⟩
theorem Mv.mono {a b a' b' : Nat} {ys xs : List Tn} (h : Mv a b ys xs) (ha : a' ≤ a) (hb : b ≤ b') : Mv a' b' ys xs :=
  ⟨h.len, h.perm, fun j hj => h.out j (by omega), fun p h1 h2 => by
    rcases (by omega : (a ≤ p ∧ p < b) ∨ (p < a ∨ b ≤ p)) with h3 | h3
    · obtain ⟨q, h4, h5, h6⟩ := h.ins p h3.1 h3.2
      exact ⟨q, by omega, by omega, h6⟩
    · exact ⟨p, h1, h2, h.out p h3⟩⟩
/-- Sorted from a to b. -/
def Srt (key : Tn → Int) (a b : Nat) (ys : List Tn) : Prop := ∀ p q, a ≤ p → p < q → q < b → key (tAt ys p) ≤ key (tAt ys q)
/-- Two tones change their places. -/
def swpT (ys : List Tn) (i j : Nat) : List Tn := (ys.set i (tAt ys j)).set j (tAt ys i)
theorem swpT_len (ys : List Tn) (i j : Nat) : (swpT ys i j).length = ys.length := by simp [swpT]
theorem tAt_set {ys : List Tn} {i : Nat} (h : i < ys.length) (x : Tn) (k : Nat) : tAt (ys.set i x) k = if k = i then x else tAt ys k := by
  unfold tAt
  simp only [List.getD_eq_getElem?_getD, List.getElem?_set]
  by_cases e : i = k
  · subst e; simp [h]
  · rw [if_neg e, if_neg (Ne.symm e)]
theorem swpT_at {ys : List Tn} {i j : Nat} (hi : i < ys.length) (hj : j < ys.length) (k : Nat) : tAt (swpT ys i j) k = if k = j then tAt ys i else if k = i then tAt ys j else tAt ys k := by
  unfold swpT
  rw [tAt_set (by simpa using hj), tAt_set hi]
theorem swpT_perm {ys : List Tn} {i j : Nat} (hi : i < ys.length) (hj : j < ys.length) : (swpT ys i j).Perm ys := by
  have h := Array.swap_perm (xs := ys.toArray) (i := i) (j := j) (by simpa using hi) (by simpa using hj)
  rw [Array.perm_iff_toList_perm] at h
  unfold swpT
  rw [tAt_eq hi, tAt_eq hj]
  simpa [Array.swap] using h
theorem swpT_mv {ys : List Tn} {i j a b : Nat} (hb : b ≤ ys.length) (hi : a ≤ i ∧ i < b) (hj : a ≤ j ∧ j < b) : Mv a b (swpT ys i j) ys :=
  ⟨swpT_len _ _ _, swpT_perm (by omega) (by omega), fun k hk => by rw [swpT_at (by omega) (by omega), if_neg (by omega), if_neg (by omega)], fun p h1 h2 => by
    rw [swpT_at (by omega) (by omega)]
    by_cases e1 : p = j
    · rw [if_pos e1]; exact ⟨i, hi.1, hi.2, rfl⟩
    · rw [if_neg e1]
      by_cases e2 : p = i
      · rw [if_pos e2]; exact ⟨j, hj.1, hj.2, rfl⟩
      · rw [if_neg e2]; exact ⟨p, h1, h2, rfl⟩⟩
/-- Sorted from a to i, but for the tone at j, which is less than all behind it. -/
structure Bub (key : Tn → Int) (a i j : Nat) (ys : List Tn) : Prop where
  rest : ∀ p q, a ≤ p → p < q → q ≤ i → p ≠ j → q ≠ j → key (tAt ys p) ≤ key (tAt ys q)
  less : ∀ q, j < q → q ≤ i → key (tAt ys j) ≤ key (tAt ys q)
theorem Bub.start {key : Tn → Int} {a i : Nat} {ys : List Tn} (h : Srt key a i ys) : Bub key a i i ys :=
  ⟨fun p q h1 h2 h3 h4 h5 => h p q h1 h2 (by omega), fun q h1 h2 => by omega⟩
theorem Bub.step {key : Tn → Int} {a i j : Nat} {ys : List Tn} (h : Bub key a i (j + 1) ys) (hl : i < ys.length) (hj : j + 1 ≤ i) (ha : a ≤ j) (hlt : key (tAt ys (j + 1)) < key (tAt ys j)) : Bub key a i j (swpT ys (j + 1) j) := by
  have hat := fun k => swpT_at (ys := ys) (i := j + 1) (j := j) (by omega) (by omega) k
  refine ⟨fun p q h1 h2 h3 h4 h5 => ?_, fun q h1 h2 => ?_⟩
  · rw [hat, hat, if_neg h4, if_neg h5]
    by_cases e1 : p = j + 1
    · rw [if_pos e1, if_neg (by omega)]
      exact h.rest j q ha (by omega) h3 (by omega) (by omega)
    · rw [if_neg e1]
      by_cases e2 : q = j + 1
      · rw [if_pos e2]
        exact h.rest p j h1 (by omega) (by omega) e1 (by omega)
      · rw [if_neg e2]; exact h.rest p q h1 h2 h3 e1 e2
  · rw [hat, hat, if_pos rfl, if_neg (by omega)]
    by_cases e2 : q = j + 1
    · rw [if_pos e2]; omega
    · rw [if_neg e2]; exact h.less q (by omega) h2
theorem Bub.stop {key : Tn → Int} {a i j : Nat} {ys : List Tn} (h : Bub key a i j ys) (hs : j ≤ a ∨ key (tAt ys (j - 1)) ≤ key (tAt ys j)) : Srt key a (i + 1) ys := by
  intro p q h1 h2 h3
  by_cases e1 : p = j
  · rw [e1]; exact h.less q (by omega) (by omega)
  · by_cases e2 : q = j
    · rw [e2]
      rcases hs with hs | hs
      · omega
      · by_cases e3 : p = j - 1
        · rw [e3]; exact hs
        · have := h.rest p (j - 1) h1 (by omega) (by omega) e1 (by omega)
          omega
    · exact h.rest p q h1 h2 (by omega) e1 e2

/-- The row of tones in the block S. -/
def RowT (W : World) (S : Nat) (ys : List Tn) : Prop := ∃ rest : List Value, W.heap[S]? = some (.cells (flatT ys ++ rest).toArray 78 (0, 0))
theorem RowT.fz {W : World} {S : Nat} {ys : List Tn} (h : RowT W S ys) (q : Nat) : W.frozen? ⟨S, q, none⟩ = false := by
  obtain ⟨rest, h⟩ := h
  exact frozen_row h
theorem RowT.lt {W : World} {S : Nat} {ys : List Tn} (h : RowT W S ys) : S < W.heap.size := by
  obtain ⟨rest, h⟩ := h
  exact lt_of_block h
theorem RowT.cells {W : World} {S : Nat} {ys : List Tn} (h : RowT W S ys) {j : Nat} (hj : j < ys.length) :
    W.cell? ⟨S, j * 3, none⟩ = some (.int .i64 (tAt ys j).r.lo) ∧ W.cell? ⟨S, j * 3 + 1, none⟩ = some (.int .i64 (tAt ys j).r.hi) ∧ W.cell? ⟨S, j * 3 + 2, none⟩ = some (.int .i64 ((tAt ys j).nm : Int)) := by
  obtain ⟨rest, h⟩ := h
  have := flatT_at ys j hj
  have hl := flatT_len ys
  simp only [cell_row h, List.getElem?_toArray]
  rw [List.getElem?_append_left (by omega), List.getElem?_append_left (by omega), List.getElem?_append_left (by omega)]
  exact this
theorem flatT_set (ys : List Tn) (j : Nat) (t : Tn) (hj : j < ys.length) : (((flatT ys).set (j * 3) (.int .i64 t.r.lo)).set (j * 3 + 1) (.int .i64 t.r.hi)).set (j * 3 + 2) (.int .i64 (t.nm : Int)) = flatT (ys.set j t) := by
  induction ys generalizing j with
  | nil => simp at hj
  | cons x l ih =>
    cases j with
    | zero => simp [flatT, cellT]
    | succ j =>
      have := ih j (by simpa using hj)
      rw [show (j + 1) * 3 = j * 3 + 1 + 1 + 1 by omega]
      simp only [flatT, cellT, List.flatMap_cons, List.cons_append, List.nil_append, List.set_cons_succ] at this ⊢
      rw [this]
/-- The world behind the store of a tone. -/
def putT (W : World) (S j : Nat) (t : Tn) : World := ((W.setCell ⟨S, j * 3, none⟩ (.int .i64 t.r.lo)).setCell ⟨S, j * 3 + 1, none⟩ (.int .i64 t.r.hi)).setCell ⟨S, j * 3 + 2, none⟩ (.int .i64 (t.nm : Int))
theorem RowT.put {W : World} {S : Nat} {ys : List Tn} (h : RowT W S ys) {j : Nat} (hj : j < ys.length) (t : Tn) : RowT (putT W S j t) S (ys.set j t) := by
  obtain ⟨rest, h⟩ := h
  have hl := flatT_len ys
  refine ⟨rest, ?_⟩
  unfold putT
  rw [set_same _ _ (set_same _ _ (set_same _ _ h)), ← flatT_set ys j t hj]
  simp only [List.setIfInBounds_toArray]
  rw [List.set_append_left _ _ (by omega), List.set_append_left _ _ (by rw [List.length_set]; omega), List.set_append_left _ _ (by rw [List.length_set, List.length_set]; omega)]
theorem putT_keeps (W : World) (S j : Nat) (t : Tn) : Keeps (fun k => k = S) W (putT W S j t) := ((keeps_setCell _ _ _ _).trans (keeps_setCell _ _ _ _)).trans (keeps_setCell _ _ _ _)
theorem RowT.below {W W' : World} {S : Nat} {ys : List Tn} (h : RowT W S ys) (hb : Below W.heap.size W W') : RowT W' S ys := by
  obtain ⟨rest, h⟩ := h
  exact ⟨rest, (hb.block _ (lt_of_block h)).trans h⟩
/-- A function that compares tones by a key. -/
def cmpI (a b : Int) : Int := if a < b then -1 else if b < a then 1 else 0
theorem cmpI_neg (a b : Int) : cmpI a b < 0 ↔ a < b := by
  unfold cmpI
  split
  · omega
  · split <;> omega
def tnV (t : Tn) : Value := .agg #[.int .i64 t.r.lo, .int .i64 t.r.hi, .int .i64 (t.nm : Int)]
def CmpOK (g : Nat) (cb : Array Value) (key : Tn → Int) (S : Nat) (w0 : World) : Prop :=
  ∀ W (x y : Tn), Keeps (fun k => k = S) w0 W → Calls Try.prog g (#[tnV x, tnV y] ++ cb) W fun e W' => e = .returned (.int .i64 (cmpI (key x) (key y))) ∧ Below W.heap.size W W'
end Go.Proofs.Ytdfdlklglbefiaa
