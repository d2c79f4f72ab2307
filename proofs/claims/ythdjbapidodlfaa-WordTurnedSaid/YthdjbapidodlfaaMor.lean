/- Stage 4: longest passages of other lines (mathematics for WordMore). -/
import Derived.Test.YthdjbapidodlfaaCtm
namespace Go.Proofs.Ythdjbapidodlfaa
set_option linter.unusedSimpArgs false
set_option linter.unusedVariables false
open Go.RowKit Go.Shelf
/-- If chains go over to chains that are as long, longest ones do not become shorter. -/
theorem topK_of {nm nm' : List Int} {L L' : List (List Int)} {m m' : Nat} (hL : LV L m) (hL' : LV L' m') (F : List (List Int) → List (List Int)) (hF : ∀ q, Chain' (bef m) q → (∀ x ∈ q, x ∈ mtS nm L) → Chain' (bef m') (F q) ∧ (∀ x ∈ F q, x ∈ mtS nm' L') ∧ (F q).length = q.length) : topK nm L m ≤ topK nm' L' m' := by
  have hq := fst_lng (nm := nm) hL
  obtain ⟨h1, h2, h3⟩ := hF _ (chs_pair bef_tr hq) (chs_mem (show _ ∈ chs (mtS nm L) (bef m) (topK nm L m) from hq))
  have h4 := chain_len hL' (top_ok hL') h1 h2
  rw [h3, chs_len hq] at h4
  exact h4
theorem topK_map {nm nm' : List Int} {L L' : List (List Int)} {m m' : Nat} (hL : LV L m) (hL' : LV L' m') (f : List Int → List Int) (h1 : ∀ x, x ∈ mtS nm L → f x ∈ mtS nm' L') (h2 : ∀ x y, x ∈ mtS nm L → y ∈ mtS nm L → bef m x y = true → bef m' (f x) (f y) = true) : topK nm L m ≤ topK nm' L' m' := by
  refine topK_of hL hL' (List.map f) fun q hc hm => ⟨?_, fun x hx => ?_, List.length_map ..⟩
  · unfold Chain' at hc ⊢
    rw [List.pairwise_map]
    exact (List.Pairwise.and_mem.1 hc).imp fun ⟨ha, hb, h⟩ => h2 _ _ (hm _ ha) (hm _ hb) h
  · obtain ⟨y, hy, rfl⟩ := List.mem_map.1 hx
    exact h1 y (hm y hy)
theorem lAt_app {L : List (List Int)} {l : List Int} {m : Nat} (hl : L.length = m) (j : Nat) : lAt (L ++ [l]) j = if j < m then lAt L j else if j = m then l else [] := by
  unfold lAt
  rw [List.getD_eq_getElem?_getD]
  by_cases h : j < m
  · rw [if_pos h, List.getElem?_append_left (by omega), ← List.getD_eq_getElem?_getD]
  · rw [if_neg h, List.getElem?_append_right (by omega)]
    by_cases h2 : j = m
    · subst h2; rw [if_pos rfl, hl]; simp
    · rw [if_neg h2, List.getElem?_eq_none (by simp; omega)]
      rfl
/-- With one hearer more. -/
theorem top_line {nm : List Int} {L : List (List Int)} {l : List Int} {m : Nat} (hL : LV L m) (hL' : LV (L ++ [l]) (m + 1)) : topK nm (L ++ [l]) (m + 1) ≤ topK nm L m := by
  have hhi := hL'.hi
  have hlo := hL.lo
  refine topK_map hL' hL (fun x => x.set m 0) (fun x hx => ?_) fun x y hx hy h => ?_
  · have ox := (mem_mtS hL' x).1 hx
    have ol := ox.len
    have hat : ∀ j, iAt (x.set m 0) j = if m = j then 0 else iAt x j := fun j => iAt_set9 0 (by omega)
    refine (mem_mtS hL _).2 ⟨by rw [List.length_set]; exact ol, fun i hi => ?_, fun h hh => ?_, fun h hh => ?_⟩
    · rw [hat]
      split
      · rfl
      · exact ox.zero i (by omega)
    · have := ox.rng h (by omega)
      rw [lAt_app hL.len, if_pos hh] at this
      rw [hat, if_neg (by omega)]
      exact this
    · have := ox.kin h (by omega)
      unfold wdA at this ⊢
      rw [lAt_app hL.len, if_pos hh, lAt_app hL.len, if_pos (by omega)] at this
      rw [hat, if_neg (by omega), hat, if_neg (by omega)]
      exact this
  · have ox := ((mem_mtS hL' x).1 hx).len
    have oy := ((mem_mtS hL' y).1 hy).len
    unfold bef at h ⊢
    rw [befB_iff] at h ⊢
    intro i hi
    rw [iAt_set9 0 (by omega), if_neg (by omega), iAt_set9 0 (by omega), if_neg (by omega)]
    exact h i (by omega)
theorem wdA_in {L : List (List Int)} {m h i : Nat} (hL : LV L m) (hh : h < m) (hi : i < (lAt L h).length) : wdA L h i ≤ 100 := by
  obtain ⟨u, hu, h1, h2⟩ := hL.wd h hh _ (List.getElem_mem hi)
  unfold wdA
  rw [iAt_eq hi, hu]
  omega
/-- With one pair more. -/
theorem top_pair {ps qs : List (Nat × Nat)} (hp : inW ps) (hq : inW qs) (hs : ∀ p ∈ ps, p ∈ qs) {L : List (List Int)} {m : Nat} (hL : LV L m) : topK (cls ps) L m ≤ topK (cls qs) L m := by
  have hlo := hL.lo
  refine topK_map hL hL id (fun x hx => ?_) fun x y _ _ h => h
  have ox := (mem_mtS hL x).1 hx
  refine (mem_mtS hL _).2 ⟨ox.len, ox.zero, ox.rng, fun h hh => ?_⟩
  have h1 := wdA_in hL hh (i := (iAt x h).toNat) (by have := ox.rng h hh; omega)
  have h2 := wdA_in hL (show 0 < m by omega) (i := (iAt x 0).toNat) (by have := ox.rng 0 (by omega); omega)
  exact (cls_alk hq h1 h2).2 (((cls_alk hp h1 h2).1 (ox.kin h hh)).mono hs)
/-- A word more in a line. -/
def insW (l : List Int) (i : Nat) (x : Int) : List Int := l.take i ++ [x] ++ l.drop i
def insL (L : List (List Int)) (h i : Nat) (x : Int) : List (List Int) := L.set h (insW (lAt L h) i x)
theorem insW_len {l : List Int} {i : Nat} {x : Int} : (insW l i x).length = l.length + 1 := by
  unfold insW
  simp [List.length_take, List.length_drop]
  omega
theorem insW_at {l : List Int} {i : Nat} {x : Int} (hi : i ≤ l.length) (j : Nat) : iAt (insW l i x) (if j < i then j else j + 1) = iAt l j := by
  unfold insW iAt
  rw [List.getD_eq_getElem?_getD, List.getD_eq_getElem?_getD]
  split
  · rename_i h
    rw [List.append_assoc, List.getElem?_append_left (by rw [List.length_take]; omega), List.getElem?_take, if_pos h]
  · rename_i h
    rw [List.getElem?_append_right (by rw [List.length_append, List.length_take]; simp; omega), List.getElem?_drop]
    congr 2
    rw [List.length_append, List.length_take]
    simp
    omega
theorem lAt_ins {L : List (List Int)} {h i : Nat} {x : Int} (hh : h < L.length) (k : Nat) : lAt (insL L h i x) k = if k = h then insW (lAt L h) i x else lAt L k := by
  unfold insL lAt
  rw [List.getD_eq_getElem?_getD, List.getElem?_set]
  by_cases e : h = k
  · subst e
    rw [if_pos rfl, if_pos hh, if_pos rfl]
    rfl
  · rw [if_neg e, if_neg (fun e' => e e'.symm), List.getD_eq_getElem?_getD]
/-- With one word more. -/
theorem top_word {nm : List Int} {L : List (List Int)} {m h0 i : Nat} {x0 : Int} (hL : LV L m) (hh : h0 < m) (hi : i ≤ (lAt L h0).length) (hL' : LV (insL L h0 i x0) m) : topK nm L m ≤ topK nm (insL L h0 i x0) m := by
  have hhi := hL.hi
  have hlo := hL.lo
  have hlL := hL.len
  let g : List Int → Int := fun x => if iAt x h0 < (i : Int) then iAt x h0 else iAt x h0 + 1
  have hat : ∀ (x : List Int), x.length = 4 → ∀ j, iAt (x.set h0 (g x)) j = if h0 = j then g x else iAt x j := fun x hx j => iAt_set9 _ (by omega)
  refine topK_map hL hL' (fun x => x.set h0 (g x)) (fun x hx => ?_) fun x y hx hy h => ?_
  · have ox := (mem_mtS hL x).1 hx
    have ol := ox.len
    have hw : ∀ h, h < m → wdA (insL L h0 i x0) h (iAt (x.set h0 (g x)) h).toNat = wdA L h (iAt x h).toNat := fun h hm => by
      have hr := ox.rng h hm
      unfold wdA
      rw [hat x ol, lAt_ins (by omega)]
      by_cases e : h0 = h
      · subst e
        rw [if_pos rfl, if_pos rfl]
        congr 1
        rw [← insW_at (x := x0) hi (iAt x h0).toNat]
        congr 1
        show (if iAt x h0 < (i : Int) then iAt x h0 else iAt x h0 + 1).toNat = _
        split <;> split <;> omega
      · rw [if_neg e, if_neg (fun e' => e e'.symm)]
    refine (mem_mtS hL' _).2 ⟨by rw [List.length_set]; exact ol, fun j hj => ?_, fun h hm => ?_, fun h hm => ?_⟩
    · rw [hat x ol, if_neg (by omega)]
      exact ox.zero j hj
    · have hr := ox.rng h hm
      rw [hat x ol, lAt_ins (by omega)]
      by_cases e : h0 = h
      · subst e
        rw [if_pos rfl, if_pos rfl, insW_len]
        show 0 ≤ (if iAt x h0 < (i : Int) then iAt x h0 else iAt x h0 + 1) ∧ (if iAt x h0 < (i : Int) then iAt x h0 else iAt x h0 + 1) < _
        split <;> omega
      · rw [if_neg e, if_neg (fun e' => e e'.symm)]
        exact hr
    · rw [hw h hm, hw 0 (by omega)]
      exact ox.kin h hm
  · have ox := ((mem_mtS hL x).1 hx).len
    have oy := ((mem_mtS hL y).1 hy).len
    unfold bef at h ⊢
    rw [befB_iff] at h ⊢
    intro j hj
    have h9 := h j hj
    have h8 := h h0 hh
    rw [hat x ox, hat y oy]
    split
    · show (if iAt x h0 < (i : Int) then iAt x h0 else iAt x h0 + 1) < (if iAt y h0 < (i : Int) then iAt y h0 else iAt y h0 + 1)
      split <;> split <;> omega
    · exact h9
end Go.Proofs.Ythdjbapidodlfaa
