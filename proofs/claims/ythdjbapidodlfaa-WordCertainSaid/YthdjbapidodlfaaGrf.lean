/- Stage 4: what grades say (mathematics for WordCertain). -/
import Derived.Test.YthdjbapidodlfaaGrm
namespace Go.Proofs.Ythdjbapidodlfaa
set_option linter.unusedSimpArgs false
set_option linter.unusedVariables false
open Go.RowKit Go.Shelf
theorem grS_at {nm : List Int} {L : List (List Int)} {m h i : Nat} (hi : i < (lAt L h).length) : iAt (grS nm L m h) i = grV (allK (mtS nm L) m).2 (iAt (smK nm L m h (mtS nm L)) i) := by
  unfold grS
  rw [iAt_eq (by rw [List.length_map, smK_len]; exact hi), iAt_eq (by rw [smK_len]; exact hi)]
  simp
theorem grV_rng (a s : Int) : 0 ≤ grV a s ∧ grV a s ≤ 2 := by unfold grV; split <;> (try split) <;> omega
theorem gr_two {nm : List Int} {L : List (List Int)} {m h i : Nat} (hL : LV L m) (hh : h < m) (hi : i < (lAt L h).length) (hg : iAt (grS nm L m h) i = 2) : ∀ q ∈ lngS nm L m, hrQ h i q = true := by
  rw [grS_at hi, sm_hear hL hh] at hg
  have h1 := sumN_full (l := lngS nm L m) (p := fun q => hrQ h i q = true)
  by_cases hne : mtS nm L = []
  · intro q hq
    exfalso
    have hz : (sumN (lngS nm L m) fun q => if hrQ h i q = true then 1 else 0) = 0 := by
      refine (sumN_congr (g := fun _ => 0) fun q hq => ?_).trans (sumN_zero (lngS nm L m))
      have hm : ∀ x ∈ q, x ∈ mtS nm L := chs_mem (show q ∈ chs (mtS nm L) (bef m) (topK nm L m) from hq)
      have : q = [] := List.eq_nil_iff_forall_not_mem.2 fun x hx => by have := hm x hx; rw [hne] at this; cases this
      rw [this]
      rfl
    rw [hz] at hg
    unfold grV at hg
    rw [if_pos (by rfl)] at hg
    cases hg
  · rw [← lng_len hL hne] at hg
    unfold grV at hg
    refine h1.1 ?_
    split at hg
    · cases hg
    · split at hg
      · omega
      · omega
theorem gr_zero {nm : List Int} {L : List (List Int)} {m h i : Nat} (hL : LV L m) (hh : h < m) (hi : i < (lAt L h).length) (hg : iAt (grS nm L m h) i = 0) : ∀ q ∈ lngS nm L m, hrQ h i q = false := by
  rw [grS_at hi, sm_hear hL hh] at hg
  have hz : ¬ 0 < (sumN (lngS nm L m) fun q => if hrQ h i q = true then 1 else 0) := by
    unfold grV at hg
    split at hg
    · omega
    · split at hg <;> cases hg
  intro q hq
  cases e : hrQ h i q with
  | false => rfl
  | true => exact absurd (sumN_pos.2 ⟨q, hq, by rw [e]; simp⟩) hz
theorem gr_crt {nm : List Int} {L : List (List Int)} {m h i : Nat} (hL : LV L m) (hh : h < m) (hi : i < (lAt L h).length) {x : List Int} (hx : x ∈ crtS nm L m (mtS nm L)) (he : iAt x h = (i : Int)) : iAt (grS nm L m h) i = 2 := by
  obtain ⟨h1, h2⟩ := (mem_crt hL x).1 hx
  have hne : mtS nm L ≠ [] := fun e => by rw [e] at h1; cases h1
  have hf := (sumN_full (l := lngS nm L m) (p := fun q => hrQ h i q = true)).2 fun q hq => by
    unfold hrQ
    rw [List.any_eq_true]
    exact ⟨x, h2 q hq, decide_eq_true he⟩
  have hp : 0 < (lngS nm L m).length := List.length_pos_of_mem (fst_lng hL)
  rw [grS_at hi, sm_hear hL hh, ← lng_len hL hne]
  unfold grV
  rw [if_neg (by omega), if_pos (by omega)]
end Go.Proofs.Ythdjbapidodlfaa
