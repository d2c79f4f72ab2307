/- Stage 5: the mathematics of the document's Size: rights as the bits of a number. -/
import Derived.Test.YtnodkgejggnehaaMx
namespace Go.Proofs.Ytnodkgejggnehaa
set_option linter.unusedSimpArgs false
set_option linter.unusedVariables false
open Go.RowKit Go.Shelf
/-- The table as some of a left item's links have been looked at, given the table before it. -/
def nxS (zs : List Rg) (op : Nat → Bool) (D : Nat → Int) (i : Nat) : Nat → Nat → Int
  | 0, m => D m
  | k + 1, m => if op k = true ∧ eN zs 0 k = i ∧ m.testBit (eN zs 1 k) = true ∧ 0 ≤ D (m ^^^ 2 ^ eN zs 1 k) then max (nxS zs op D i k m) (D (m ^^^ 2 ^ eN zs 1 k) + 1) else nxS zs op D i k m
/-- The table when some left items have been looked at. -/
def dpS (n : Nat) (zs : List Rg) (op : Nat → Bool) : Nat → Nat → Int
  | 0, m => if m = 0 then 0 else -1
  | i + 1, m => nxS zs op (dpS n zs op i) i n m
theorem nxS_mono (zs : List Rg) (op : Nat → Bool) (D : Nat → Int) (i m : Nat) : ∀ a b, a ≤ b → nxS zs op D i a m ≤ nxS zs op D i b m := by
  intro a b h
  induction b with
  | zero => obtain rfl : a = 0 := by omega
            exact Int.le_refl _
  | succ b ih =>
    rcases (by omega : a ≤ b ∨ a = b + 1) with h1 | rfl
    · refine Int.le_trans (ih h1) ?_
      show _ ≤ (if _ then _ else _)
      split
      · exact Int.le_max_left _ _
      · exact Int.le_refl _
    · exact Int.le_refl _
/-- What the rights of some links are, as bits. -/
def BitsOf (zs : List Rg) (N : List Nat) (m : Nat) : Prop := ∀ r, m.testBit r = true ↔ ∃ k ∈ N, eN zs 1 k = r
theorem xor_bit (m r j : Nat) : (m ^^^ 2 ^ r).testBit j = (if j = r then !m.testBit j else m.testBit j) := by
  rw [Nat.testBit_xor, Nat.testBit_two_pow]
  by_cases h : r = j
  · subst h; simp
  · rw [if_neg (fun e => h e.symm)]; simp [h]
theorem bits_eq {zs : List Rg} {N : List Nat} {m m' : Nat} (h : BitsOf zs N m) (h' : BitsOf zs N m') : m = m' := by
  refine Nat.eq_of_testBit_eq (fun j => ?_)
  rw [Bool.eq_iff_iff]
  exact (h j).trans (h' j).symm
/-- What is in the table comes from links of which no two meet. -/
theorem dp_up {n : Nat} {zs : List Rg} {op : Nat → Bool} : ∀ i m, 0 ≤ dpS n zs op i m → ∃ N : List Nat, Mat (mtB zs) N ∧ (∀ k ∈ N, k < n ∧ op k = true ∧ eN zs 0 k < i) ∧ BitsOf zs N m ∧ (N.length : Int) = dpS n zs op i m := by
  intro i
  induction i with
  | zero =>
    intro m h
    unfold dpS at h ⊢
    by_cases e : m = 0
    · subst e
      exact ⟨[], List.Pairwise.nil, fun k hk => (by cases hk), fun r => (by simp), by simp⟩
    · rw [if_neg e] at h; omega
  | succ i ih =>
    have key : ∀ q, q ≤ n → ∀ m, 0 ≤ nxS zs op (dpS n zs op i) i q m → ∃ N : List Nat, Mat (mtB zs) N ∧ (∀ k ∈ N, k < n ∧ op k = true ∧ eN zs 0 k < i + 1) ∧ BitsOf zs N m ∧ (N.length : Int) = nxS zs op (dpS n zs op i) i q m := by
      intro q
      induction q with
      | zero =>
        intro hq m h
        obtain ⟨N, a, b, c, d⟩ := ih m h
        exact ⟨N, a, fun k hk => ⟨(b k hk).1, (b k hk).2.1, by have := (b k hk).2.2; omega⟩, c, d⟩
      | succ q ihq =>
        intro hq m h
        unfold nxS at h ⊢
        split at h
        · rename_i hc
          rw [if_pos hc]
          obtain ⟨h1, h2, h3, h4⟩ := hc
          rcases Int.le_total (dpS n zs op i (m ^^^ 2 ^ eN zs 1 q) + 1) (nxS zs op (dpS n zs op i) i q m) with h5 | h5
          · rw [Int.max_eq_left h5]
            exact ihq (by omega) m (by omega)
          · rw [Int.max_eq_right h5]
            obtain ⟨N, a, b, c, d⟩ := ih _ h4
            have hnr : ∀ k ∈ N, eN zs 1 k ≠ eN zs 1 q := fun k hk e => by
              have := (c (eN zs 1 q)).2 ⟨k, hk, e⟩
              rw [xor_bit, if_pos rfl, h3] at this
              cases this
            refine ⟨q :: N, List.pairwise_cons.2 ⟨fun k hk => ?_, a⟩, fun k hk => ?_, fun r => ?_, by simp [← d]⟩
            · have hl := (b k hk).2.2
              unfold mtB
              rw [decide_eq_false (show ¬ eN zs 0 q = eN zs 0 k by omega), decide_eq_false (fun e => hnr k hk e.symm)]
              rfl
            · rcases List.mem_cons.1 hk with rfl | hk
              · exact ⟨by omega, h1, by omega⟩
              · exact ⟨(b k hk).1, (b k hk).2.1, by have := (b k hk).2.2; omega⟩
            · have hr := c r
              rw [xor_bit] at hr
              by_cases e : r = eN zs 1 q
              · rw [e]; exact ⟨fun _ => ⟨q, List.mem_cons_self, rfl⟩, fun _ => h3⟩
              · rw [if_neg e] at hr
                rw [hr]
                constructor
                · rintro ⟨k, hk, e2⟩; exact ⟨k, List.mem_cons_of_mem _ hk, e2⟩
                · rintro ⟨k, hk, e2⟩
                  rcases List.mem_cons.1 hk with rfl | hk
                  · exact absurd e2.symm e
                  · exact ⟨k, hk, e2⟩
        · rename_i hc
          rw [if_neg hc]
          exact ihq (by omega) m h
    exact fun m h => key n (Nat.le_refl _) m h
theorem mat_erase {r : Nat → Nat → Bool} {N : List Nat} (h : Mat r N) (k : Nat) : Mat r (N.erase k) := List.Pairwise.sublist List.erase_sublist h
/-- Links of which no two meet are counted. -/
theorem dp_low {n : Nat} {zs : List Rg} {op : Nat → Bool} : ∀ i (N : List Nat) m, Mat (mtB zs) N → (∀ k ∈ N, k < n ∧ op k = true ∧ eN zs 0 k < i) → BitsOf zs N m → (N.length : Int) ≤ dpS n zs op i m := by
  intro i
  induction i with
  | zero =>
    intro N m hN hk hb
    have e : N = [] := by
      rcases N with _ | ⟨k, N⟩
      · rfl
      · have := (hk k List.mem_cons_self).2.2; omega
    subst e
    have e2 : m = 0 := Nat.eq_of_testBit_eq (fun j => by
      have := hb j
      cases h : m.testBit j
      · simp
      · rw [h] at this; simp at this)
    unfold dpS
    rw [if_pos e2]; simp
  | succ i ih =>
    intro N m hN hk hb
    by_cases hex : ∃ k ∈ N, eN zs 0 k = i
    · obtain ⟨k, hkN, hki⟩ := hex
      have hp := List.perm_cons_erase hkN
      have hMc : Mat (mtB zs) (k :: N.erase k) := by
        refine (List.Perm.pairwise_iff (fun {a b} h => by rw [mtB_symm]; exact h) hp).1 hN
      obtain ⟨hM1, hM2⟩ := List.pairwise_cons.1 hMc
      have hne : ∀ j ∈ N.erase k, eN zs 0 j ≠ eN zs 0 k ∧ eN zs 1 j ≠ eN zs 1 k := fun j hj => by
        have := hM1 j hj
        unfold mtB at this
        simp only [Bool.or_eq_false_iff, decide_eq_false_iff_not] at this
        exact ⟨fun e => this.1 e.symm, fun e => this.2 e.symm⟩
      have hbk : m.testBit (eN zs 1 k) = true := (hb _).2 ⟨k, hkN, rfl⟩
      have hb2 : BitsOf zs (N.erase k) (m ^^^ 2 ^ eN zs 1 k) := fun r => by
        rw [xor_bit]
        by_cases e : r = eN zs 1 k
        · rw [if_pos e, e, hbk]
          constructor
          · intro h; cases h
          · rintro ⟨j, hj, e2⟩; exact absurd e2 (hne j hj).2
        · rw [if_neg e, hb r]
          constructor
          · rintro ⟨j, hj, e2⟩
            have := (List.Perm.mem_iff hp).1 hj
            rcases List.mem_cons.1 this with rfl | h
            · exact absurd e2.symm e
            · exact ⟨j, h, e2⟩
          · rintro ⟨j, hj, e2⟩; exact ⟨j, List.mem_of_mem_erase hj, e2⟩
      have h1 := ih (N.erase k) _ hM2 (fun j hj => by
        obtain ⟨a, b, c⟩ := hk j (List.mem_of_mem_erase hj)
        have := (hne j hj).1
        exact ⟨a, b, by omega⟩) hb2
      have hlen : N.length = (N.erase k).length + 1 := by rw [hp.length_eq]; rfl
      obtain ⟨hkn, hko, _⟩ := hk k hkN
      have h2 : dpS n zs op i (m ^^^ 2 ^ eN zs 1 k) + 1 ≤ nxS zs op (dpS n zs op i) i (k + 1) m := by
        show _ ≤ (if _ then _ else _)
        rw [if_pos ⟨hko, hki, hbk, by omega⟩]
        exact Int.le_max_right _ _
      have h3 := nxS_mono zs op (dpS n zs op i) i m (k + 1) n (by omega)
      show _ ≤ nxS zs op (dpS n zs op i) i n m
      omega
    · have h1 := ih N m hN (fun j hj => by
        obtain ⟨a, b, c⟩ := hk j hj
        have : eN zs 0 j ≠ i := fun e => hex ⟨j, hj, e⟩
        exact ⟨a, b, by omega⟩) hb
      have h3 := nxS_mono zs op (dpS n zs op i) i m 0 n (by omega)
      exact Int.le_trans h1 h3
/-- A number whose bits are the rights of some links. -/
theorem bits_ex (zs : List Rg) (N : List Nat) {d : Nat} (hd : ∀ k ∈ N, eN zs 1 k < d) : ∃ m, m < 2 ^ d ∧ BitsOf zs N m := by
  induction N with
  | nil => exact ⟨0, Nat.two_pow_pos d, fun r => by simp⟩
  | cons k N ih =>
    obtain ⟨m, h1, h2⟩ := ih (fun j hj => hd j (List.mem_cons_of_mem _ hj))
    refine ⟨m ||| 2 ^ eN zs 1 k, Nat.or_lt_two_pow h1 (Nat.pow_lt_pow_right (by omega) (hd k List.mem_cons_self)), fun r => ?_⟩
    rw [Nat.testBit_or, Nat.testBit_two_pow]
    have := h2 r
    simp only [Bool.or_eq_true, decide_eq_true_eq, List.mem_cons]
    rw [this]
    constructor
    · rintro (⟨j, hj, e⟩ | e)
      · exact ⟨j, .inr hj, e⟩
      · exact ⟨k, .inl rfl, e⟩
    · rintro ⟨j, rfl | hj, e⟩
      · exact .inr e
      · exact .inl ⟨j, hj, e⟩
/-- The greatest number in the table is how many links a greatest joining has. -/
theorem dp_max {n c d : Nat} {zs : List Rg} {op : Nat → Bool} (he0 : ∀ k, k < n → eN zs 0 k < c) (he1 : ∀ k, k < n → eN zs 1 k < d) :
    (∀ m, dpS n zs op c m ≤ (mm (mtB zs) (opL n op) : Int)) ∧ ∃ m, m < 2 ^ d ∧ dpS n zs op c m = (mm (mtB zs) (opL n op) : Int) := by
  have hup : ∀ m, dpS n zs op c m ≤ (mm (mtB zs) (opL n op) : Int) := fun m => by
    by_cases h : 0 ≤ dpS n zs op c m
    · obtain ⟨N, h1, h2, h3, h4⟩ := dp_up c m h
      have := mm_ub (mtB_symm zs) (mtB_refl zs) (L := opL n op) h1 (fun x hx => mem_opL.2 ⟨(h2 x hx).1, (h2 x hx).2.1⟩)
      omega
    · omega
  refine ⟨hup, ?_⟩
  obtain ⟨N, h1, h2, h3⟩ := mm_ex (mtB_symm zs) (opL n op)
  have hm := fun k (hk : k ∈ N) => mem_opL.1 (h2.subset hk)
  obtain ⟨m, h4, h5⟩ := bits_ex zs N (fun k hk => he1 k (hm k hk).1)
  refine ⟨m, h4, Int.le_antisymm (hup m) ?_⟩
  rw [← h3]
  exact dp_low c N m h1 (fun k hk => ⟨(hm k hk).1, (hm k hk).2, he0 k (hm k hk).1⟩) h5
end Go.Proofs.Ytnodkgejggnehaa
