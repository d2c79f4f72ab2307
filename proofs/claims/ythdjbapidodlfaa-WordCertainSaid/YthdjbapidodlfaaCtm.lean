/- Stage 4: certain matches (mathematics for WordCertain). -/
import Derived.Test.YthdjbapidodlfaaPvn
namespace Go.Proofs.Ythdjbapidodlfaa
set_option linter.unusedSimpArgs false
set_option linter.unusedVariables false
open Go.RowKit Go.Shelf
theorem fst_lng {nm : List Int} {L : List (List Int)} {m : Nat} (hL : LV L m) : fstS nm L m (mtS nm L) ∈ lngS nm L m :=
  List.mem_of_mem_head? (grd_first (mtS_nodup (nm := nm) hL) (bef_irr hL) (mtS_sorted hL) (lev_ok hL) (bS_lev hL) (top_ok hL))
/-- A match is certain that all longest passages have. -/
theorem mem_crt {nm : List Int} {L : List (List Int)} {m : Nat} (hL : LV L m) (x : List Int) : x ∈ crtS nm L m (mtS nm L) ↔ x ∈ mtS nm L ∧ ∀ q ∈ lngS nm L m, x ∈ q := by
  unfold crtS
  rw [List.mem_filter, decide_eq_true_eq]
  refine and_congr_right fun hx => ?_
  have hne : mtS nm L ≠ [] := fun e => by rw [e] at hx; cases hx
  rw [shS_nE hL hx, ← lng_len hL hne]
  have h1 := sumN_full (l := lngS nm L m) (p := fun q => x ∈ q)
  have e : nE (mtS nm L) (bef m) (topK nm L m) x = sumN (lngS nm L m) (fun q => if x ∈ q then 1 else 0) := by
    unfold nE lngS
    exact sumN_congr (fun q _ => by by_cases h : x ∈ q <;> simp [h])
  rw [e]
  constructor
  · intro h
    exact h1.1 (by omega)
  · intro h
    have h2 := h1.2 h
    omega
/-- Certain matches are a passage. -/
theorem crt_chain {nm : List Int} {L : List (List Int)} {m : Nat} (hL : LV L m) : Chain' (bef m) (crtS nm L m (mtS nm L)) := by
  have hs := (mtS_sorted (nm := nm) hL).and (mtS_nodup (nm := nm) hL)
  have h1 : (crtS nm L m (mtS nm L)).Pairwise (fun a b => befB b a m = false ∧ a ≠ b) := hs.filter _
  unfold Chain'
  refine (List.Pairwise.and_mem.1 h1).imp ?_
  rintro a b ⟨ha, hb, h2, h3⟩
  have hq := fst_lng (nm := nm) hL
  have ha' := ((mem_crt hL a).1 ha).2 _ hq
  have hb' := ((mem_crt hL b).1 hb).2 _ hq
  have hc : Chain' (bef m) (fstS nm L m (mtS nm L)) := chs_pair bef_tr hq
  obtain ⟨i, hi, rfl⟩ := List.getElem_of_mem ha'
  obtain ⟨j, hj, rfl⟩ := List.getElem_of_mem hb'
  rcases Nat.lt_trichotomy i j with h | h | h
  · exact List.pairwise_iff_getElem.1 hc i j hi hj h
  · subst h; exact absurd rfl h3
  · have := List.pairwise_iff_getElem.1 hc j i hj hi h
    unfold bef at this
    rw [this] at h2
    cases h2
/-- The certain matches, as they are answered. -/
theorem crt_chQ {nm : List Int} {L : List (List Int)} {m : Nat} (hL : LV L m) : ChQ ((mtS nm L).map (·.take m)) m ((crtS nm L m (mtS nm L)).map (·.take m)) := by
  have hc := crt_chain (nm := nm) hL
  have hm : ∀ x ∈ crtS nm L m (mtS nm L), x ∈ mtS nm L := fun x hx => ((mem_crt hL x).1 hx).1
  obtain ⟨q, hq⟩ : ∃ q, crtS nm L m (mtS nm L) = q := ⟨_, rfl⟩
  rw [hq] at hc hm ⊢
  refine ⟨fun j hj => ?_, fun j hj => ?_⟩
  · rw [List.length_map] at hj
    rw [lAt_take, lAt_eq hj]
    exact List.mem_map.2 ⟨_, hm _ (List.getElem_mem hj), rfl⟩
  · rw [List.length_map] at hj
    rw [befB_lAt, lAt_eq hj, lAt_eq (by omega)]
    exact List.pairwise_iff_getElem.1 hc j (j + 1) (by omega) hj (by omega)
/-- A passage as long as the longest ones is one of them. -/
theorem chQ_lng {nm : List Int} {L p : List (List Int)} {m : Nat} (hL : LV L m) (h : ChQ ((mtS nm L).map (·.take m)) m p) (hk : p.length = topK nm L m) : ∃ q ∈ lngS nm L m, p = q.map (·.take m) := by
  have hmem : ∀ y ∈ p, y.length = m ∧ padK y ∈ mtS nm L := fun y hy => by
    obtain ⟨j, hj, rfl⟩ := List.getElem_of_mem hy
    have := h.1 j hj
    rw [lAt_eq hj] at this
    obtain ⟨h1, h2, h3⟩ := (mem_ml hL _).1 this
    have hlo := hL.lo
    refine ⟨h1, (mem_mtS (nm := nm) hL (padK p[j])).2 ⟨by unfold padK; have := hL.hi; simp; omega, fun i hi => ?_, fun h hh => by rw [iAt_pad]; exact rngK_iff.1 h2 h hh, fun h hh => by rw [iAt_pad p[j] h, iAt_pad p[j] 0]; exact (f3_iff (by omega)).1 h3 h hh⟩⟩
    rw [iAt_pad]
    unfold iAt
    rw [List.getD_eq_getElem?_getD, List.getElem?_eq_none (by omega)]
    rfl
  have hlt := chQ_lt h
  have hq : Chain' (bef m) (p.map padK) := by
    unfold Chain'
    rw [List.pairwise_map, List.pairwise_iff_getElem]
    intro i j hi hj hij
    obtain ⟨d, rfl⟩ : ∃ d, j = i + 1 + d := ⟨j - i - 1, by omega⟩
    have := hlt i d hj
    rw [lAt_eq hi, lAt_eq hj] at this
    unfold bef
    rw [befB_iff] at this ⊢
    intro u hu
    rw [iAt_pad, iAt_pad]
    exact this u hu
  have h1 := chs_all (l := mtS nm L) hq (fun x hx => by obtain ⟨y, hy, rfl⟩ := List.mem_map.1 hx; exact (hmem y hy).2)
  rw [List.length_map, hk] at h1
  refine ⟨_, h1, ?_⟩
  rw [List.map_map]
  conv => lhs; rw [← List.map_id p]
  refine List.map_congr_left fun y hy => ?_
  exact (pad_take (hmem y hy).1).symm
end Go.Proofs.Ythdjbapidodlfaa
