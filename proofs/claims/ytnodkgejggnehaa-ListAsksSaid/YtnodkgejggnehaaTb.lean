/- Stage 5: a table of numbers in memory; bits. -/
import Derived.Test.YtnodkgejggnehaaCx
import Derived.Test.YtnodkgejggnehaaDp
import Derived.Maps.AppendAt
import Derived.IntWalk
namespace Go.Proofs.Ytnodkgejggnehaa
set_option linter.unusedSimpArgs false
set_option linter.unusedVariables false
open Go.RowKit Go.Shelf
/-- A row that holds a function's first values. -/
def FnR (W : World) (G M : Nat) (f : Nat → Int) : Prop := ∃ cur : Array Value, W.heap[G]? = some (.cells cur 3 (0, 0)) ∧ ∀ k, k < M → cur[k]? = some (.int .i64 (f k))
section
variable {W W' : World} {G M : Nat} {f g : Nat → Int}
theorem FnR.lt (h : FnR W G M f) : G < W.heap.size := by
  obtain ⟨cur, h1, _⟩ := h
  exact lt_of_block h1
theorem FnR.cell (h : FnR W G M f) {k : Nat} (hk : k < M) : W.cell? ⟨G, k, none⟩ = some (.int .i64 (f k)) := by
  obtain ⟨cur, h1, h2⟩ := h
  rw [cell_row h1]; exact h2 k hk
theorem FnR.fr (h : FnR W G M f) (k : Nat) : W.frozen? ⟨G, k, none⟩ = false := by
  obtain ⟨cur, h1, _⟩ := h
  exact frozen_row h1
theorem FnR.keep (h : FnR W G M f) {Mut : Nat → Prop} (hk : Keeps Mut W W') (hG : ¬ Mut G) : FnR W' G M f := by
  obtain ⟨cur, h1, h2⟩ := h
  exact ⟨cur, (hk.block _ (lt_of_block h1) hG).trans h1, h2⟩
theorem FnR.below (h : FnR W G M f) (hb : Below W.heap.size W W') : FnR W' G M f := by
  obtain ⟨cur, h1, h2⟩ := h
  exact ⟨cur, (hb.block _ (lt_of_block h1)).trans h1, h2⟩
theorem FnR.set (h : FnR W G M f) {k : Nat} (hk : k < M) (v : Int) (hg : ∀ j, j < M → g j = if j = k then v else f j) : FnR (W.setCell ⟨G, k, none⟩ (.int .i64 v)) G M g := by
  obtain ⟨cur, h1, h2⟩ := h
  refine ⟨_, set_same k _ h1, fun j hj => ?_⟩
  rw [Array.getElem?_setIfInBounds, hg j hj]
  have hks : k < cur.size := by
    rcases Nat.lt_or_ge k cur.size with e | e
    · exact e
    · have := h2 k hk; rw [Array.getElem?_eq_none e] at this; cases this
  by_cases e : k = j
  · rw [if_pos e, if_pos hks, if_pos e.symm]
  · rw [if_neg e, if_neg (fun e2 => e e2.symm)]; exact h2 j hj
theorem FnR.ext (h : FnR W G M f) (hg : ∀ j, j < M → g j = f j) : FnR W G M g := by
  obtain ⟨cur, h1, h2⟩ := h
  exact ⟨cur, h1, fun j hj => by rw [hg j hj]; exact h2 j hj⟩
theorem fn_make (n : Nat) (hn : n ≤ 5000) (W : World) : (Instr.makeSlice 23 (.int .i64 (n : Int)) (.int .i64 (n : Int))).run Try.prog W = .ok (.slice (some ⟨W.heap.size, 0, none⟩) n n) (W.alloc (.cells (flatI (List.replicate n 0)).toArray 3)) := by
  obtain ⟨i, hi, hz, hs, hb⟩ := info_parts info3_
  have h := run_makeSlice (P := Try.prog) W 23 3 i _ Try.underlying23 hi hz .i64 .i64 (n : Int) (n : Int) (by omega) (by omega) (by rw [hs]; omega) (by rw [hb]; omega) (by omega)
  simp only [Int.toNat_natCast, hs, Nat.mul_one] at h
  rw [h]
  have e : madeCells (Value.int IntKind.i64 0).cells n = (flatI (List.replicate n 0)).toArray := by
    apply Array.ext'
    have : (Value.int IntKind.i64 0).cells = #[Value.int IntKind.i64 0] := rfl
    rw [this, toList_madeCells_one]
    simp [flatI]
  rw [e]
theorem fn_new (W : World) (n : Nat) : FnR (W.alloc (.cells (flatI (List.replicate n 0)).toArray 3)) W.heap.size n (fun _ => 0) := by
  refine ⟨_, heap_alloc_new_ W _, fun k hk => ?_⟩
  simp [flatI, hk]
/-- A copy by append to an empty row. -/
theorem app_fn {E cp : Nat} (hE : W.heap[E]? = some (.cells #[] 3 (0, 0))) (h : FnR W G M f) (hM : M ≤ 5000) (hM1 : 1 ≤ M) :
    ∃ G2 cp2 W', runA Try.prog 23 (.slice (some ⟨E, 0, none⟩) 0 0) (.slice (some ⟨G, 0, none⟩) M cp) W = .ok (.value (.slice (some ⟨G2, 0, none⟩) M cp2)) W' ∧ M ≤ cp2 ∧ FnR W' G2 M f ∧ Keeps (fun j => j = E) W W' ∧ (G2 = E ∨ G2 = W.heap.size) := by
  obtain ⟨i, hif, hz, hs, hby⟩ := info_parts info3_
  have hown : W.ownsRow 0 3 1 (.slice (some ⟨E, 0, none⟩) 0 0) 0 [] := ⟨by simp, .inr ⟨E, 0, #[], rfl, Nat.zero_le _, hE, Nat.le_refl _, by unfold maxLen; omega, by simp, by simp⟩⟩
  obtain ⟨v', W', q2, q3, q4, _, q5⟩ := run_append_own_at (P := Try.prog) W 0 23 23 3 i _ 1 8 Try.underlying23 hif hz hs hby rfl (by omega) _ 0 [] hown ⟨G, 0, none⟩ M cp (flatI ((List.range M).map f)) (by simp [flatI]) (fun j u hj => by
    have hj2 : j < M := by have := (List.getElem?_eq_some_iff.1 hj).1; simpa [flatI] using this
    rw [Addr.add_lit, Nat.zero_add, h.cell hj2]
    simpa [flatI, hj2] using hj) (fun u hu => by
    unfold flatI at hu
    obtain ⟨x, _, rfl⟩ := List.mem_map.1 hu
    rfl) (by unfold maxLen; omega) (by omega) (Nat.zero_le _)
  rw [Nat.zero_add, List.nil_append] at q3
  rcases q3.2 with ⟨rfl, h0⟩ | ⟨g2, cap, cur, rfl, hb, hg, hc, _, hsz, htake⟩
  · omega
  · refine ⟨g2, cap, W', run_app q2, hc, ⟨cur, hg, fun k hk => ?_⟩, ⟨q4.os, q4.tape, q4.output, q4.size, fun k hk hmm => q4.block k hk (fun e => hmm (Option.some.inj e))⟩, ?_⟩
    · rw [← Array.getElem?_toList, ← List.getElem?_take_of_lt (show k < M * 1 by omega), htake]
      simp [flatI, hk]
    · rcases q5 with e | e
      · exact .inl (Option.some.inj e)
      · exact .inr (Option.some.inj e)
end
/-! Bits. -/
theorem or_i64 (a b : Nat) (ha : a < 4096) (hb : b < 4096) : bits .or .i64 (a : Int) (b : Int) = ((a ||| b : Nat) : Int) := by
  have h1 : a ||| b < 2 ^ 12 := Nat.or_lt_two_pow ha hb
  show IntKind.i64.wrap (((BitVec.ofInt 64 (a : Int) ||| BitVec.ofInt 64 (b : Int)).toNat : Nat) : Int) = _
  rw [BitVec.ofInt_natCast, BitVec.ofInt_natCast, BitVec.toNat_or, BitVec.toNat_ofNat, BitVec.toNat_ofNat, Nat.mod_eq_of_lt (by omega), Nat.mod_eq_of_lt (by omega)]
  exact IntWalk.i64_in _ (by omega)
theorem or_xor {m r : Nat} (h : m.testBit r = false) : m ||| 2 ^ r = m ^^^ 2 ^ r := by
  refine Nat.eq_of_testBit_eq (fun j => ?_)
  rw [Nat.testBit_or, Nat.testBit_xor, Nat.testBit_two_pow]
  by_cases e : r = j
  · subst e; rw [h]; simp
  · rw [decide_eq_false e]; simp
theorem shr_bit (m r : Nat) : ((m : Int) / 2 ^ r).tmod 2 = if m.testBit r = true then 1 else 0 := by
  rw [show ((2 : Int) ^ r) = ((2 ^ r : Nat) : Int) by simp, ← Int.natCast_ediv, Int.tmod_eq_emod_of_nonneg (Int.natCast_nonneg _)]
  rw [Nat.testBit_eq_decide_div_mod_eq]
  obtain ⟨y, hy⟩ : ∃ y, m / 2 ^ r = y := ⟨_, rfl⟩
  rw [hy]
  have := Nat.mod_two_eq_zero_or_one y
  rcases this with e | e
  · rw [if_neg (by simp [e])]; omega
  · rw [if_pos (by simp [e])]; omega
/-! The document's table, number by number. -/
theorem xx_back (m r : Nat) : (m ^^^ 2 ^ r) ^^^ 2 ^ r = m := by rw [Nat.xor_assoc, Nat.xor_self, Nat.xor_zero]
/-- A row of the table as some sets have been looked at. -/
def midS (zs : List Rg) (op : Nat → Bool) (D : Nat → Int) (i q b m : Nat) : Int := if (m ^^^ 2 ^ eN zs 1 q) < b then nxS zs op D i (q + 1) m else nxS zs op D i q m
section
variable {n c d : Nat} {zs : List Rg} {op : Nat → Bool} {D : Nat → Int} {i q b : Nat}
theorem mid_0 (m : Nat) : midS zs op D i q 0 m = nxS zs op D i q m := by unfold midS; rw [if_neg (by omega)]
theorem mid_all (hr : eN zs 1 q < d) {m : Nat} (hm : m < 2 ^ d) : nxS zs op D i (q + 1) m = midS zs op D i q (2 ^ d) m := by
  unfold midS
  rw [if_pos (Nat.xor_lt_two_pow hm (Nat.pow_lt_pow_right (by omega) hr))]
theorem mid_yes (ho : op q = true) (hi : eN zs 0 q = i) (h0 : 0 ≤ D b) (hb : b.testBit (eN zs 1 q) = false) (j : Nat) :
    midS zs op D i q (b + 1) j = if j = (b ||| 2 ^ eN zs 1 q) then max (midS zs op D i q b (b ||| 2 ^ eN zs 1 q)) (D b + 1) else midS zs op D i q b j := by
  rw [or_xor hb]
  obtain ⟨r, hr⟩ : ∃ r, eN zs 1 q = r := ⟨_, rfl⟩
  by_cases e : j = b ^^^ 2 ^ r
  · rw [hr, if_pos e, e]
    unfold midS
    rw [hr, xx_back, if_pos (by omega), if_neg (by omega)]
    show (if _ then _ else _) = _
    rw [hr, xx_back, if_pos ⟨ho, hi, by rw [xor_bit, if_pos rfl, ← hr, hb]; rfl, h0⟩]
  · rw [hr, if_neg e]
    unfold midS
    rw [hr]
    have hne : j ^^^ 2 ^ r ≠ b := fun e2 => e (by rw [← e2, xx_back])
    by_cases h : j ^^^ 2 ^ r < b
    · rw [if_pos h, if_pos (by omega)]
    · rw [if_neg h, if_neg (by omega)]
theorem mid_no (h : ¬ 0 ≤ D b ∨ b.testBit (eN zs 1 q) = true) (j : Nat) : midS zs op D i q (b + 1) j = midS zs op D i q b j := by
  obtain ⟨r, hr⟩ : ∃ r, eN zs 1 q = r := ⟨_, rfl⟩
  unfold midS
  rw [hr] at h ⊢
  by_cases e : j ^^^ 2 ^ r = b
  · rw [e, if_pos (by omega), if_neg (by omega)]
    show (if _ then _ else _) = _
    rw [hr, e, if_neg]
    rintro ⟨_, _, h3, h4⟩
    rcases h with h | h
    · exact h h4
    · have : j = b ^^^ 2 ^ r := by rw [← e, xx_back]
      rw [this, xor_bit, if_pos rfl, h] at h3
      cases h3
  · by_cases h : j ^^^ 2 ^ r < b
    · rw [if_pos h, if_pos (by omega)]
    · rw [if_neg h, if_neg (by omega)]
theorem nx_skip (h : ¬ (op q = true ∧ eN zs 0 q = i)) (m : Nat) : nxS zs op D i (q + 1) m = nxS zs op D i q m := by
  show (if _ then _ else _) = _
  rw [if_neg (fun e => h ⟨e.1, e.2.1⟩)]
theorem dp_le : ∀ i m, -1 ≤ dpS n zs op i m ∧ dpS n zs op i m ≤ (i : Int) := by
  intro i
  induction i with
  | zero => intro m; unfold dpS; split <;> omega
  | succ i ih =>
    intro m
    have key : ∀ q m, -1 ≤ nxS zs op (dpS n zs op i) i q m ∧ nxS zs op (dpS n zs op i) i q m ≤ ((i + 1 : Nat) : Int) := by
      intro q
      induction q with
      | zero => intro m; have := ih m; unfold nxS; omega
      | succ q ihq =>
        intro m
        have h1 := ihq m
        have h2 := ih (m ^^^ 2 ^ eN zs 1 q)
        unfold nxS
        split
        · omega
        · exact h1
    exact key n m
/-- The greatest of some numbers. -/
def mxF (D : Nat → Int) : Nat → Int
  | 0 => 0
  | b + 1 => max (mxF D b) (D b)
theorem mxF_le {D : Nat → Int} {x : Int} (h0 : 0 ≤ x) (h : ∀ m, D m ≤ x) : ∀ b, mxF D b ≤ x
  | 0 => h0
  | b + 1 => by have := mxF_le h0 h b; have := h b; unfold mxF; omega
theorem mxF_ge {D : Nat → Int} : ∀ {b m : Nat}, m < b → D m ≤ mxF D b
  | 0, m, h => by omega
  | b + 1, m, h => by
    unfold mxF
    rcases (by omega : m < b ∨ m = b) with e | rfl
    · have := mxF_ge (D := D) e; omega
    · omega
theorem mxF_0 (D : Nat → Int) : ∀ b, 0 ≤ mxF D b
  | 0 => Int.le_refl _
  | b + 1 => by have := mxF_0 D b; unfold mxF; omega
theorem dp_mx (he0 : ∀ k, k < n → eN zs 0 k < c) (he1 : ∀ k, k < n → eN zs 1 k < d) : mxF (dpS n zs op c) (2 ^ d) = (mm (mtB zs) (opL n op) : Int) := by
  obtain ⟨h1, m, h2, h3⟩ := dp_max (op := op) he0 he1
  have a := mxF_le (b := 2 ^ d) (by omega) h1
  have b := mxF_ge (D := dpS n zs op c) h2
  omega
end
end Go.Proofs.Ytnodkgejggnehaa
