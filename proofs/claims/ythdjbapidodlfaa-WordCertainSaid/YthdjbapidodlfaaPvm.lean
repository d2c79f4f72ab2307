/- Stage 4: longest passages and right levels (mathematics for WordProved). -/
import Derived.Test.YthdjbapidodlfaaLvm
namespace Go.Proofs.Ythdjbapidodlfaa
set_option linter.unusedSimpArgs false
set_option linter.unusedVariables false
open Go.RowKit Go.Shelf
theorem mxK_ge (gs : List Int) (k : Nat) : 0 ≤ mxK gs k ∧ ∀ i, i < k → iAt gs i ≤ mxK gs k := by
  induction k with
  | zero => exact ⟨Int.le_refl _, fun i hi => absurd hi (by omega)⟩
  | succ k ih =>
    rw [mxK_succ, Int.max_def]
    refine ⟨by have := ih.1; split <;> omega, fun i hi => ?_⟩
    rcases Nat.lt_or_ge i k with h | h
    · have := ih.2 i h; split <;> omega
    · obtain rfl : i = k := by omega
      split <;> omega
theorem mxK_le {gs : List Int} {k : Nat} {b : Int} (hb : 0 ≤ b) (h : ∀ i, i < k → iAt gs i ≤ b) : mxK gs k ≤ b := by
  induction k with
  | zero => exact hb
  | succ k ih =>
    rw [mxK_succ, Int.max_def]
    have := ih (fun i hi => h i (by omega))
    have := h k (by omega)
    split <;> omega
/-- Right levels are no lesser than the least ones. -/
theorem rg_least {nm : List Int} {L : List (List Int)} {m : Nat} (hL : LV L m) {gs : List Int} (h : rgK (mtS nm L) m gs (mtS nm L).length = true) : ∀ i (hi : i < (mtS nm L).length), (eS (mtS nm L) m (mtS nm L)[i]).1 ≤ iAt gs i := by
  have hn := mtS_nodup (nm := nm) hL
  have hw := mtS_wpl (nm := nm) hL
  have hlo := hL.lo
  have hhi := hL.hi
  obtain ⟨mt, hmt⟩ : ∃ mt, mtS nm L = mt := ⟨_, rfl⟩
  rw [hmt] at hn hw h ⊢
  have key : ∀ n i (hi : i < mt.length), (iAt mt[i] 0).toNat < n → (eS mt m mt[i]).1 ≤ iAt gs i := by
    intro n
    induction n with
    | zero => intro i hi h0; omega
    | succ n ih =>
      intro i hi hlt
      have hx : mt[i] ∈ mt := List.getElem_mem hi
      have hr := List.all_eq_true.1 h i (List.mem_range.2 hi)
      rw [decide_eq_true_eq, lAt_eq hi, frK_lt] at hr
      rw [eS_eq (by omega) hw ((hw _ hx).rng 0 (by omega)).2, longK_fst (show 0 ≤ (frK (eS mt m) mt m mt[i] 0).1 from sumK_nn _ _ fun y hy => by
        have := (eS_pos hn (by omega) hhi hw (List.mem_filter.1 hy).1).1; omega)]
      have := (frK_lt (eS mt m) mt m mt[i] (iAt gs i)).2 ⟨hr.1, fun y hy hb => by
        obtain ⟨j, hj, rfl⟩ := mem_lAt.1 hy
        have h1 := hr.2 _ hy hb
        rw [lAt_eq hj] at h1 hb ⊢
        have h2 : (gE mt gs mt[j]).1 = if iAt gs j < 0 then 0 else iAt gs j := by unfold gE; rw [ix_at hn hj]
        rw [h2] at h1
        have h3 := befB_iff.1 hb 0 (by omega)
        have h4 := ((hw _ (List.getElem_mem hj)).rng 0 (by omega)).1
        have h5 := ih j hj (by omega)
        split at h1 <;> omega⟩
      omega
  exact fun i hi => key _ i hi (Nat.lt_succ_self _)
/-- The least levels are right. -/
theorem rg_lvs {nm : List Int} {L : List (List Int)} {m : Nat} (hL : LV L m) : rgK (mtS nm L) m (lvsS (mtS nm L) m) (mtS nm L).length = true := by
  have hn := mtS_nodup (nm := nm) hL
  have hw := mtS_wpl (nm := nm) hL
  have hlo := hL.lo
  have hhi := hL.hi
  obtain ⟨mt, hmt⟩ : ∃ mt, mtS nm L = mt := ⟨_, rfl⟩
  rw [hmt] at hn hw ⊢
  have hg : ∀ j (hj : j < mt.length), iAt (lvsS mt m) j = (eS mt m mt[j]).1 := fun j hj => by
    rw [iAt_eq (by simpa [lvsS] using hj)]
    simp [lvsS]
  unfold rgK
  rw [List.all_eq_true]
  intro i hi
  have hi' := List.mem_range.1 hi
  have hx : mt[i] ∈ mt := List.getElem_mem hi'
  rw [decide_eq_true_eq, lAt_eq hi', hg i hi', frK_lt]
  have e := eS_eq (by omega) hw ((hw _ hx).rng 0 (by omega)).2
  have hp := eS_pos hn (by omega) hhi hw hx
  refine ⟨by omega, fun y hy hb => ?_⟩
  obtain ⟨j, hj, rfl⟩ := mem_lAt.1 hy
  rw [lAt_eq hj] at hb ⊢
  have h2 : (gE mt (lvsS mt m) mt[j]).1 = if iAt (lvsS mt m) j < 0 then 0 else iAt (lvsS mt m) j := by unfold gE; rw [ix_at hn hj]
  rw [h2, hg j hj]
  have hpj := eS_pos hn (by omega) hhi hw (List.getElem_mem hj)
  rw [if_neg (by omega)]
  have h9 : 0 ≤ (frK (eS mt m) mt m mt[i] 0).1 := sumK_nn _ _ fun y hy => by
    have := (eS_pos hn (by omega) hhi hw (List.mem_filter.1 hy).1).1; omega
  have h8 : (eS mt m mt[i]).1 = (frK (eS mt m) mt m mt[i] 0).1 + 1 := by rw [e, longK_fst h9]
  have := ((frK_lt (eS mt m) mt m mt[i] (eS mt m mt[i]).1).1 (by omega)).2 mt[j] (List.getElem_mem hj) hb
  exact this
/-- Passages are no longer than the greatest level. -/
theorem chain_len {nm : List Int} {L : List (List Int)} {m : Nat} (hL : LV L m) {K : Nat} (hK : Top (mtS nm L) (lv (mtS nm L) m) K) {q : List (List Int)} (hq : Chain' (bef m) q) (hm : ∀ x ∈ q, x ∈ mtS nm L) : q.length ≤ K := by
  rcases Nat.lt_or_ge K q.length with h | h
  · have h1 := chs_all hq hm
    rw [chs_none (eS_lev (mtS_nodup hL) (by have := hL.lo; omega) hL.hi (mtS_wpl hL)) hK h] at h1
    cases h1
  · exact h
/-- The greatest of the least levels. -/
theorem mx_top {nm : List Int} {L : List (List Int)} {m : Nat} (hL : LV L m) {K : Nat} (hK : Top (mtS nm L) (lv (mtS nm L) m) K) : mxK (lvsS (mtS nm L) m) (mtS nm L).length = (K : Int) := by
  have hn := mtS_nodup (nm := nm) hL
  have hw := mtS_wpl (nm := nm) hL
  have hlo := hL.lo
  have hhi := hL.hi
  obtain ⟨mt, hmt⟩ : ∃ mt, mtS nm L = mt := ⟨_, rfl⟩
  rw [hmt] at hn hw hK ⊢
  have hg : ∀ j (hj : j < mt.length), iAt (lvsS mt m) j = (eS mt m mt[j]).1 := fun j hj => by
    rw [iAt_eq (by simpa [lvsS] using hj)]
    simp [lvsS]
  have hv : ∀ x ∈ mt, ((lv mt m x : Nat) : Int) = (eS mt m x).1 := fun x hx => by
    have := (eS_pos hn (by omega) hhi hw hx).1
    unfold lv
    omega
  have h1 : mxK (lvsS mt m) mt.length ≤ (K : Int) := mxK_le (by omega) fun i hi => by
    rw [hg i hi, ← hv _ (List.getElem_mem hi)]
    have := hK.1 _ (List.getElem_mem hi)
    omega
  have h2 := mxK_ge (lvsS mt m) mt.length
  rcases hK.2 with h0 | ⟨x, hx, h0⟩
  · have := h2.1
    omega
  · obtain ⟨j, hj, rfl⟩ := List.getElem_of_mem hx
    have h3 := h2.2 j hj
    rw [hg j hj, ← hv _ hx, h0] at h3
    omega
end Go.Proofs.Ythdjbapidodlfaa
