/- Stage 4: passages of matches (mathematics for WordProved). -/
import Derived.Test.YthdjbapidodlfaaPvm
import Derived.Test.YthdjbapidodlfaaCm
namespace Go.Proofs.Ythdjbapidodlfaa
set_option linter.unusedSimpArgs false
set_option linter.unusedVariables false
open Go.RowKit Go.Shelf
def padK (y : List Int) : List Int := y ++ List.replicate (4 - y.length) 0
theorem iAt_pad (y : List Int) (h : Nat) : iAt (padK y) h = iAt y h := by
  unfold padK iAt
  rw [List.getD_eq_getElem?_getD, List.getD_eq_getElem?_getD]
  rcases Nat.lt_or_ge h y.length with hh | hh
  · rw [List.getElem?_append_left hh]
  · rw [List.getElem?_append_right hh, List.getElem?_eq_none hh, List.getElem?_replicate]
    split <;> rfl
theorem iAt_take2 {x : List Int} {m h : Nat} (hh : h < m) : iAt (x.take m) h = iAt x h := by
  unfold iAt
  rw [List.getD_eq_getElem?_getD, List.getElem?_take, if_pos hh, ← List.getD_eq_getElem?_getD]
theorem pad_take {y : List Int} {m : Nat} (hy : y.length = m) : (padK y).take m = y := by
  unfold padK
  rw [← hy, List.take_left]
theorem rngK_iff {L : List (List Int)} {y : List Int} {m : Nat} : rngK L y m = true ↔ ∀ h, h < m → 0 ≤ iAt y h ∧ iAt y h < ((lAt L h).length : Int) := by
  unfold rngK
  rw [List.all_eq_true]
  constructor
  · intro H h hh
    have := H h (List.mem_range.2 hh)
    rw [inB_iff] at this
    omega
  · intro H h hh
    have := H h (List.mem_range.1 hh)
    rw [inB_iff]
    omega
theorem f3_iff {nm : List Int} {L : List (List Int)} {y : List Int} {m : Nat} (hm : 0 < m) : f3 nm L m y = true ↔ ∀ h, h < m → iAt nm (wdA L h (iAt y h).toNat) = iAt nm (wdA L 0 (iAt y 0).toNat) := by
  have e0 : iAt (wdsK L y m) 0 = iAt (lAt L 0) (iAt y 0).toNat := by
    rw [iAt_eq (by rw [wdsK_len]; exact hm)]
    simp [wdsK]
  unfold f3 sameB
  rw [List.all_eq_true, e0]
  constructor
  · intro H h hh
    have := H (iAt (lAt L h) (iAt y h).toNat) (List.mem_map.2 ⟨h, List.mem_range.2 hh, rfl⟩)
    rw [beq_iff_eq] at this
    exact this
  · intro H x hx
    obtain ⟨h, hh, rfl⟩ := List.mem_map.1 hx
    rw [beq_iff_eq]
    exact H h (List.mem_range.1 hh)
/-- The matches, as lists of m. -/
theorem mem_ml {nm : List Int} {L : List (List Int)} {m : Nat} (hL : LV L m) (y : List Int) : y ∈ (mtS nm L).map (·.take m) ↔ y.length = m ∧ rngK L y m = true ∧ f3 nm L m y = true := by
  have hlo := hL.lo
  have hhi := hL.hi
  rw [List.mem_map]
  constructor
  · rintro ⟨x, hx, rfl⟩
    have ho := (mem_mtS hL x).1 hx
    refine ⟨by rw [List.length_take, ho.len]; omega, rngK_iff.2 fun h hh => by rw [iAt_take2 hh]; exact ho.rng h hh, (f3_iff (by omega)).2 fun h hh => ?_⟩
    rw [iAt_take2 hh, iAt_take2 (by omega)]
    exact ho.kin h hh
  · rintro ⟨h1, h2, h3⟩
    refine ⟨padK y, (mem_mtS hL _).2 ⟨by unfold padK; simp; omega, fun i hi => ?_, fun h hh => by rw [iAt_pad]; exact rngK_iff.1 h2 h hh, fun h hh => by rw [iAt_pad, iAt_pad]; exact (f3_iff (by omega)).1 h3 h hh⟩, pad_take h1⟩
    rw [iAt_pad]
    unfold iAt
    rw [List.getD_eq_getElem?_getD, List.getElem?_eq_none (by omega)]
    rfl
theorem risK_iff {p : List (List Int)} {m : Nat} : risK p m (p.length - 1) = true ↔ ∀ j, j + 1 < p.length → befB (lAt p j) (lAt p (j + 1)) m = true := by
  unfold risK
  rw [List.all_eq_true]
  constructor
  · intro H j hj
    exact H j (List.mem_range.2 (by omega))
  · intro H j hj
    exact H j (by have := List.mem_range.1 hj; omega)
/-- What is no error is a passage. -/
theorem chQ_of {zs : List Rg} {L p : List (List Int)} {m : Nat} (hl : L.length = m) (hz : chkL zs L = 0) (h : ckPs zs L p = 0) : ChQ ((mtS (cls (prs zs)) L).map (·.take m)) m p := by
  unfold ckPs at h
  rw [if_neg (by simpa using hz), hl] at h
  unfold chkP at h
  split at h
  · cases h
  · split at h
    · cases h
    · split at h
      · cases h
      · split at h
        · cases h
        · split at h
          · cases h
          · rename_i h0 h1 h2 h3 h4
            rw [Bool.not_eq_false] at h1 h2 h3 h4
            rw [List.all_eq_true] at h1 h2 h3
            exact ⟨fun j hj => (mem_ml (lv_of hl hz) _).2 (by
              have hm : lAt p j ∈ p := by rw [lAt_eq hj]; exact List.getElem_mem hj
              have q1 := h1 _ hm
              unfold f1 at q1
              exact ⟨of_decide_eq_true q1, h2 _ hm, h3 _ hm⟩), risK_iff.1 h4⟩
theorem chQ_lt {l : List (List Int)} {m : Nat} {q : List (List Int)} (h : ChQ l m q) (i d : Nat) (hd : i + 1 + d < q.length) : befB (lAt q i) (lAt q (i + 1 + d)) m = true := by
  induction d with
  | zero => exact h.2 i hd
  | succ d ih => exact befB_tr (ih (by omega)) (h.2 (i + 1 + d) hd)
/-- A passage is no error, and no longer than the greatest level. -/
theorem chQ_ok {zs : List Rg} {L p : List (List Int)} {m : Nat} (hl : L.length = m) (hz : chkL zs L = 0) (h : ChQ ((mtS (cls (prs zs)) L).map (·.take m)) m p) : ckPs zs L p = 0 ∧ p.length ≤ topK (cls (prs zs)) L m := by
  have hL := lv_of hl hz
  have hlo := hL.lo
  have hlt := chQ_lt h
  have hmem : ∀ y ∈ p, y.length = m ∧ rngK L y m = true ∧ f3 (cls (prs zs)) L m y = true := fun y hy => by
    obtain ⟨j, hj, rfl⟩ := List.getElem_of_mem hy
    have := h.1 j hj
    rw [lAt_eq hj] at this
    exact (mem_ml hL _).1 this
  have h8 : p.length ≤ 8 := by
    have key : ∀ j, j < p.length → (j : Int) ≤ iAt (lAt p j) 0 := by
      intro j
      induction j with
      | zero => intro hj; have := (rngK_iff.1 ((mem_ml hL _).1 (h.1 0 hj)).2.1 0 (by omega)).1; omega
      | succ j ih =>
        intro hj
        have h1 := ih (by omega)
        have h2 := befB_iff.1 (h.2 j hj) 0 (by omega)
        omega
    rcases Nat.lt_or_ge 8 p.length with hq | hq
    · have h1 := key 8 hq
      have h2 := (rngK_iff.1 ((mem_ml hL _).1 (h.1 8 hq)).2.1 0 (by omega)).2
      have h3 := hL.le8 0 (by omega)
      omega
    · exact hq
  refine ⟨?_, ?_⟩
  · unfold ckPs
    rw [if_neg (by simpa using hz), hl]
    unfold chkP
    rw [if_neg (by omega), if_neg, if_neg, if_neg, if_neg]
    · rw [risK_iff.2 h.2]; simp
    · rw [List.all_eq_true.2 fun y hy => (hmem y hy).2.2]; simp
    · rw [List.all_eq_true.2 fun y hy => (hmem y hy).2.1]; simp
    · rw [List.all_eq_true.2 fun y hy => by unfold f1; exact decide_eq_true (hmem y hy).1]; simp
  · have hq : Chain' (bef m) (p.map padK) := by
      unfold Chain'
      rw [List.pairwise_map, List.pairwise_iff_getElem]
      intro i j hi hj hij
      obtain ⟨d, rfl⟩ : ∃ d, j = i + 1 + d := ⟨j - i - 1, by omega⟩
      have := hlt i d hj
      rw [lAt_eq hi, lAt_eq hj] at this
      unfold bef
      rw [befB_iff] at this ⊢
      intro u hu
      rw [iAt_pad, iAt_pad]
      exact this u hu
    have := chain_len hL (top_ok hL) hq (fun x hx => by
      obtain ⟨y, hy, rfl⟩ := List.mem_map.1 hx
      obtain ⟨h1, h2, h3⟩ := hmem y hy
      refine (mem_mtS (nm := cls (prs zs)) hL (padK y)).2 ⟨by unfold padK; have := hL.hi; simp; omega, fun i hi => ?_, fun h hh => by rw [iAt_pad]; exact rngK_iff.1 h2 h hh, fun h hh => by rw [iAt_pad y h, iAt_pad y 0]; exact (f3_iff (by omega)).1 h3 h hh⟩
      rw [iAt_pad]
      unfold iAt
      rw [List.getD_eq_getElem?_getD, List.getElem?_eq_none (by omega)]
      rfl)
    simpa using this
/-- The passage that is answered. -/
theorem fst_chQ {nm : List Int} {L : List (List Int)} {m : Nat} (hL : LV L m) : ChQ ((mtS nm L).map (·.take m)) m ((fstS nm L m (mtS nm L)).map (·.take m)) ∧ ((fstS nm L m (mtS nm L)).map (·.take m)).length = topK nm L m := by
  have hg := grd_first (mtS_nodup (nm := nm) hL) (bef_irr hL) (mtS_sorted hL) (lev_ok hL) (bS_lev hL) (top_ok hL)
  have hmem : fstS nm L m (mtS nm L) ∈ chs (mtS nm L) (bef m) (topK nm L m) := List.mem_of_mem_head? hg
  obtain ⟨q, hq⟩ : ∃ q, fstS nm L m (mtS nm L) = q := ⟨_, rfl⟩
  rw [hq] at hmem ⊢
  have h1 := chs_mem hmem
  have h2 := chs_pair (lt := bef m) (fun a b c ha hb => (befB_tr (show befB a b m = true from ha) hb : befB a c m = true)) hmem
  have h3 := chs_len hmem
  refine ⟨⟨fun j hj => ?_, fun j hj => ?_⟩, by rw [List.length_map]; exact h3⟩
  · rw [List.length_map] at hj
    rw [lAt_take, lAt_eq hj]
    exact List.mem_map.2 ⟨_, h1 _ (List.getElem_mem hj), rfl⟩
  · rw [List.length_map] at hj
    rw [befB_lAt, lAt_eq hj, lAt_eq (by omega)]
    exact List.pairwise_iff_getElem.1 h2 j (j + 1) (by omega) hj (by omega)
end Go.Proofs.Ythdjbapidodlfaa
