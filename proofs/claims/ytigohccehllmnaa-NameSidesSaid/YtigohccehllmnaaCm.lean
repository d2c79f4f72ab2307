/- Stage 6: the document's cheapest sides: mathematics. -/
import Derived.Test.YtigohccehllmnaaS3
import Derived.Test.YtigohccehllmnaaLf
namespace Go.Proofs.Ytigohccehllmnaa
set_option linter.unusedSimpArgs false
set_option linter.unusedVariables false
open Go.RowKit Go.Shelf

/-- A number whose digits are told. -/
def mkM (p : Nat → Bool) : Nat → Nat
  | 0 => 0
  | c + 1 => if p c = true then mkM p c ||| 2 ^ c else mkM p c
theorem mkM_lt (p : Nat → Bool) : ∀ c, mkM p c < 2 ^ c
  | 0 => by simp [mkM]
  | c + 1 => by
    have h := mkM_lt p c
    have h2 : 2 ^ c < 2 ^ (c + 1) := Nat.pow_lt_pow_right (by omega) (by omega)
    simp only [mkM]
    split
    · exact Nat.or_lt_two_pow (by omega) h2
    · omega
theorem mkM_bit (p : Nat → Bool) : ∀ c j, j < c → (mkM p c).testBit j = p j
  | 0, j, h => by omega
  | c + 1, j, h => by
    have hlt := mkM_lt p c
    simp only [mkM]
    rcases Nat.lt_or_ge j c with h2 | h2
    · have := mkM_bit p c j h2
      split
      · rw [Nat.testBit_or, this, Nat.testBit_two_pow, decide_eq_false (by omega), Bool.or_false]
      · exact this
    · obtain rfl : j = c := by omega
      split
      · rename_i e
        rw [Nat.testBit_or, Nat.testBit_two_pow, decide_eq_true rfl, Bool.or_true, e]
      · rename_i e
        rw [Nat.testBit_lt_two_pow hlt]
        simpa using e
theorem mem_asK {l : NL} {c : Nat} {s : List Int} : ∀ {m : Nat}, s ∈ asK l c m ↔ ∃ t, t < m ∧ s = nmK (bitP t) c ∧ sideB l s = true
  | 0 => ⟨fun h => (by cases h), fun ⟨t, h, _⟩ => by omega⟩
  | m + 1 => by
    simp only [asK]
    have ih := mem_asK (l := l) (c := c) (s := s) (m := m)
    split
    · rename_i e
      rw [List.mem_append, ih, List.mem_singleton]
      constructor
      · rintro (⟨t, a, b, d⟩ | rfl)
        · exact ⟨t, by omega, b, d⟩
        · exact ⟨m, by omega, rfl, e⟩
      · rintro ⟨t, a, b, d⟩
        rcases Nat.lt_or_ge t m with h | h
        · exact .inl ⟨t, h, b, d⟩
        · obtain rfl : t = m := by omega
          exact .inr b
    · rename_i e
      rw [ih]
      constructor
      · rintro ⟨t, a, b, d⟩; exact ⟨t, by omega, b, d⟩
      · rintro ⟨t, a, b, d⟩
        rcases Nat.lt_or_ge t m with h | h
        · exact ⟨t, h, b, d⟩
        · obtain rfl : t = m := by omega
          rw [b] at d
          exact absurd d e
theorem ot_inv {l : NL} {all : List (List Int)} (hcn : ∀ s, 0 ≤ cst l s) : ∀ i, (0 < i → ∃ j, j < i ∧ bsK l all i = cst l (all.getD j [])) ∧ (i = 0 → bsK l all i = -1) ∧ (∀ j, j < i → bsK l all i ≤ cst l (all.getD j [])) ∧ ∀ s, s ∈ otK l all i ↔ ∃ j, j < i ∧ s = all.getD j [] ∧ cst l s = bsK l all i
  | 0 => ⟨fun h => absurd h (by omega), fun _ => rfl, fun j h => by omega, fun s => ⟨fun h => (by cases h), fun ⟨j, h, _⟩ => by omega⟩⟩
  | i + 1 => by
    obtain ⟨h1, h2, h3, h4⟩ := ot_inv (all := all) hcn i
    have hq := hcn (all.getD i [])
    by_cases hr : rsB l all (bsK l all i) i = true
    · have eb : bsK l all (i + 1) = cst l (all.getD i []) := by simp only [bsK]; rw [if_pos hr]
      have eo : otK l all (i + 1) = [all.getD i []] := by simp only [otK]; rw [if_pos hr]
      have hlt : ∀ j, j < i → cst l (all.getD i []) < cst l (all.getD j []) := fun j hj => by
        have := h3 j hj
        have h6 := h1 (by omega)
        obtain ⟨j', _, e6⟩ := h6
        have := hcn (all.getD j' [])
        unfold rsB at hr
        rw [Bool.or_eq_true, decide_eq_true_iff, decide_eq_true_iff] at hr
        omega
      rw [eb, eo]
      refine ⟨fun _ => ⟨i, by omega, rfl⟩, fun h => by omega, fun j hj => ?_, fun s => ?_⟩
      · rcases Nat.lt_or_ge j i with h | h
        · have := hlt j h; omega
        · obtain rfl : j = i := by omega
          exact Int.le_refl _
      · rw [List.mem_singleton]
        constructor
        · rintro rfl; exact ⟨i, by omega, rfl, rfl⟩
        · rintro ⟨j, hj, e, e2⟩
          rcases Nat.lt_or_ge j i with h | h
          · have := hlt j h; rw [e] at e2; omega
          · obtain rfl : j = i := by omega
            exact e
    · have eb : bsK l all (i + 1) = bsK l all i := by simp only [bsK]; rw [if_neg hr]
      unfold rsB at hr
      rw [Bool.not_eq_true, Bool.or_eq_false_iff, decide_eq_false_iff_not, decide_eq_false_iff_not] at hr
      have hi : 0 < i := by
        rcases Nat.eq_zero_or_pos i with e | e
        · have := h2 e; omega
        · exact e
      have eo : otK l all (i + 1) = if cst l (all.getD i []) = bsK l all i then otK l all i ++ [all.getD i []] else otK l all i := by
        simp only [otK]; rw [if_neg (by unfold rsB; rw [Bool.not_eq_true, Bool.or_eq_false_iff, decide_eq_false_iff_not, decide_eq_false_iff_not]; exact hr)]
      rw [eb, eo]
      refine ⟨fun _ => ?_, fun h => by omega, fun j hj => ?_, fun s => ?_⟩
      · obtain ⟨j, hj, e⟩ := h1 hi
        exact ⟨j, by omega, e⟩
      · rcases Nat.lt_or_ge j i with h | h
        · exact h3 j h
        · obtain rfl : j = i := by omega
          omega
      · split
        · rename_i e
          rw [List.mem_append, h4, List.mem_singleton]
          constructor
          · rintro (⟨j, hj, a, b⟩ | rfl)
            · exact ⟨j, by omega, a, b⟩
            · exact ⟨i, by omega, rfl, e⟩
          · rintro ⟨j, hj, a, b⟩
            rcases Nat.lt_or_ge j i with h | h
            · exact .inl ⟨j, h, a, b⟩
            · obtain rfl : j = i := by omega
              exact .inr a
        · rename_i e
          rw [h4]
          constructor
          · rintro ⟨j, hj, a, b⟩; exact ⟨j, by omega, a, b⟩
          · rintro ⟨j, hj, a, b⟩
            rcases Nat.lt_or_ge j i with h | h
            · exact ⟨j, h, a, b⟩
            · obtain rfl : j = i := by omega
              rw [a] at b
              exact absurd b e
theorem mem_getD {all : List (List Int)} {s : List Int} : s ∈ all ↔ ∃ j, j < all.length ∧ s = all.getD j [] := by
  rw [List.mem_iff_getElem]
  constructor
  · rintro ⟨j, hj, e⟩; exact ⟨j, hj, by rw [← e]; simp [List.getD, hj]⟩
  · rintro ⟨j, hj, e⟩; exact ⟨j, hj, by rw [e]; simp [List.getD, hj]⟩
theorem mn_inv {all : List (List Int)} {x : Int} : ∀ n, (mnN all x n = n ↔ ∀ j, j < n → x ∈ all.getD j []) ∧ (mnN all x n = 0 ↔ ∀ j, j < n → x ∉ all.getD j [])
  | 0 => by simp [mnN]
  | n + 1 => by
    obtain ⟨h1, h2⟩ := mn_inv (all := all) (x := x) n
    have hle := mnN_le all x n
    simp only [mnN]
    have hs : ∀ (P : Nat → Prop), (∀ j, j < n + 1 → P j) ↔ (∀ j, j < n → P j) ∧ P n := fun P => ⟨fun h => ⟨fun j hj => h j (by omega), h n (by omega)⟩, fun h j hj => by
      rcases Nat.lt_or_ge j n with h3 | h3
      · exact h.1 j h3
      · obtain rfl : j = n := by omega
        exact h.2⟩
    rw [hs, hs, ← h1, ← h2]
    split
    · rename_i e
      exact ⟨⟨fun h => ⟨by omega, e⟩, fun h => by have := h.1; omega⟩, ⟨fun h => by omega, fun h => absurd e h.2⟩⟩
    · rename_i e
      exact ⟨⟨fun h => by omega, fun h => absurd h.2 e⟩, ⟨fun h => ⟨h, e⟩, fun h => h.1⟩⟩
section
variable {l : NL} {W : World} {c : Nat} (hn : NLs W l) (hch : chkL l = 0) (hc : l.N = (c : Int))
include hn hch hc
theorem all_mem {S : Int → Bool} (h : IsSd l.ls l.rs S) : nmK S c ∈ asK l c (2 ^ c) := by
  refine mem_asK.2 ⟨mkM (fun j => S (j : Int)) c, mkM_lt _ _, nmK_congr fun x hx => ?_, sideB_iff.2 ((isSd_nmK hn hch hc S).2 h)⟩
  rw [bitP_nat, mkM_bit _ _ _ hx]
theorem ch_facts : (∀ s ∈ chL l c, Cheap l.zs l.ls l.rs (sB s) ∧ cst l s = chB l c) ∧ ∀ S, Cheap l.zs l.ls l.rs S → nmK S c ∈ chL l c ∧ costS l.zs S = chB l c := by
  have hz := okl_c hn hch hc
  have hcn : ∀ s, 0 ≤ cst l s := fun s => (csK_le s (chk_tr hch hn) l.n (Nat.le_refl _)).1
  obtain ⟨h1, h2, h3, h4⟩ := ot_inv (all := asK l c (2 ^ c)) hcn (asK l c (2 ^ c)).length
  have hle : ∀ s ∈ asK l c (2 ^ c), chB l c ≤ cst l s := fun s hs => by
    obtain ⟨j, hj, rfl⟩ := mem_getD.1 hs
    exact h3 j hj
  have hcs : ∀ S, cst l (nmK S c) = costS l.zs S := fun S => csK_nmK hz hn.zs.1 S
  have hmem : ∀ s, s ∈ chL l c ↔ s ∈ asK l c (2 ^ c) ∧ cst l s = chB l c := fun s => by
    unfold chL chB
    rw [h4 s, mem_getD]
    exact ⟨fun ⟨j, a, b, d⟩ => ⟨⟨j, a, b⟩, d⟩, fun ⟨⟨j, a, b⟩, d⟩ => ⟨j, a, b, d⟩⟩
  constructor
  · intro s hs
    obtain ⟨ha, hb⟩ := (hmem s).1 hs
    obtain ⟨t, _, e, hsd⟩ := mem_asK.1 ha
    refine ⟨⟨sideB_iff.1 hsd, fun T hT => ?_⟩, hb⟩
    have := hle _ (all_mem hn hch hc hT)
    rw [hcs] at this
    have e2 : costS l.zs (sB s) = cst l s := (csK_cost hn.zs.1 s).symm
    rw [e2, hb]; exact this
  · intro S hS
    have hm := all_mem hn hch hc hS.1
    have hne : 0 < (asK l c (2 ^ c)).length := List.length_pos_of_mem hm
    obtain ⟨j, hj, e⟩ := h1 hne
    have hs0 : (asK l c (2 ^ c)).getD j [] ∈ asK l c (2 ^ c) := mem_getD.2 ⟨j, hj, rfl⟩
    obtain ⟨t, _, e0, hsd⟩ := mem_asK.1 hs0
    have h5 := hS.2 _ (sideB_iff.1 hsd)
    have e2 : costS l.zs (sB ((asK l c (2 ^ c)).getD j [])) = chB l c := by
      rw [← csK_cost hn.zs.1]; exact e.symm
    have h6 := hle _ hm
    rw [hcs] at h6
    have e3 : costS l.zs S = chB l c := by omega
    exact ⟨(hmem _).2 ⟨hm, by rw [hcs]; exact e3⟩, e3⟩
theorem sk_sd {R R' : Int → Bool} (hR : ∀ x, R x = true ↔ ∀ S, Cheap l.zs l.ls l.rs S → S x = true) (hR' : ∀ x, R' x = true ↔ ∀ S, Cheap l.zs l.ls l.rs S → S x = false) : skL (chL l c) c = sdL R R' c := by
  obtain ⟨f1, f2⟩ := ch_facts hn hch hc
  unfold skL flL sdL
  refine List.map_congr_left fun j hj => ?_
  rw [List.mem_range] at hj
  obtain ⟨m1, m2⟩ := mn_inv (all := chL l c) (x := (j : Int)) (chL l c).length
  have a1 : mnN (chL l c) (j : Int) (chL l c).length = (chL l c).length ↔ R (j : Int) = true := by
    rw [m1, hR]
    constructor
    · intro h S hS
      obtain ⟨k, hk, e⟩ := mem_getD.1 (f2 S hS).1
      have := h k hk
      rw [← e, mem_nmK] at this
      exact this.2.2
    · intro h k hk
      have := h _ (f1 _ (mem_getD.2 ⟨k, hk, rfl⟩)).1
      exact of_decide_eq_true this
  have a2 : mnN (chL l c) (j : Int) (chL l c).length = 0 ↔ R' (j : Int) = true := by
    rw [m2, hR']
    constructor
    · intro h S hS
      obtain ⟨k, hk, e⟩ := mem_getD.1 (f2 S hS).1
      have := h k hk
      rw [← e, mem_nmK] at this
      rw [← Bool.not_eq_true]
      exact fun e => this ⟨by omega, by omega, e⟩
    · intro h k hk
      have := h _ (f1 _ (mem_getD.2 ⟨k, hk, rfl⟩)).1
      exact of_decide_eq_false this
  unfold skV sdV
  by_cases b1 : R (j : Int) = true
  · rw [if_pos (a1.2 b1), if_pos b1]
  · rw [if_neg (fun h => b1 (a1.1 h)), if_neg b1]
    by_cases b2 : R' (j : Int) = true
    · rw [if_pos (a2.2 b2), if_pos b2]
    · rw [if_neg (fun h => b2 (a2.1 h)), if_neg b2]
end
theorem sdL_at (R R' : Int → Bool) {n x : Nat} (h : x < n) : iAt (sdL R R' n) x = sdV R R' (x : Int) := by
  rw [iAt_eq (by rw [sdL_len]; exact h)]; simp [sdL]
theorem onB_sd (R R' : Int → Bool) (c : Nat) : nmK (onB (sdL R R' c)) c = nmK R c := nmK_congr fun x hx => by
  unfold onB
  rw [Int.toNat_natCast, sdL_at R R' hx, Bool.eq_iff_iff, decide_eq_true_iff]
  unfold sdV
  split
  · rename_i e; simp [e]
  · rename_i e
    split <;> simp [e]
end Go.Proofs.Ytigohccehllmnaa
