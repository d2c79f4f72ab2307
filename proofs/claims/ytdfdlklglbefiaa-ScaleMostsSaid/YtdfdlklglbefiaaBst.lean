/- Stage 3, mathematics: the best scale, told by upper ends of tones. -/
import Derived.Test.YtdfdlklglbefiaaFin
namespace Go.Proofs.Ytdfdlklglbefiaa
set_option linter.unusedSimpArgs false
set_option linter.unusedVariables false
/-- The upper ends of the tones, among the first n, whose bit is set. -/
def hisS (zs : List Rg) (s n : Nat) : List Int := ((List.range n).filter (fun i => decide (s / 2 ^ i % 2 = 1))).map (fun i => (gAt zs i).hi)
theorem hisS_succ (zs : List Rg) (s n : Nat) : hisS zs s (n + 1) = if s / 2 ^ n % 2 = 1 then hisS zs s n ++ [(gAt zs n).hi] else hisS zs s n := by
  unfold hisS
  rw [List.range_succ, List.filter_append, List.map_append]
  by_cases h : s / 2 ^ n % 2 = 1 <;> simp [h]
theorem hisS_len (zs : List Rg) (s n : Nat) : (hisS zs s n).length ≤ n := by
  unfold hisS
  rw [List.length_map]
  exact Nat.le_trans (List.length_filter_le _ _) (by simp)
/-- What a set of tones is worth. -/
def bV (zs : List Rg) (k : Int) (s : Nat) : Nat := if k < ((hisS zs s zs.length).length : Int) then 0 else cntM zs (hisS zs s zs.length)
def bst (zs : List Rg) (k : Int) : Nat → Nat
  | 0 => 0
  | m + 1 => max (bst zs k m) (bV zs k m)
theorem bst_ge (zs : List Rg) (k : Int) {s m : Nat} (h : s < m) : bV zs k s ≤ bst zs k m := by
  induction m with
  | zero => omega
  | succ m ih =>
    simp only [bst]
    rcases Nat.lt_or_ge s m with hl | hl
    · have := ih hl; omega
    · obtain rfl : s = m := by omega
      omega
theorem bst_le (zs : List Rg) (k : Int) {c m : Nat} (h : ∀ s, s < m → bV zs k s ≤ c) : bst zs k m ≤ c := by
  induction m with
  | zero => exact Nat.zero_le _
  | succ m ih =>
    simp only [bst]
    have a := ih (fun s hs => h s (by omega))
    have b := h m (by omega)
    omega
def mkB : Nat → (Nat → Bool) → Nat
  | 0, _ => 0
  | n + 1, f => (if f 0 then 1 else 0) + 2 * mkB n (fun i => f (i + 1))
theorem mkB_lt (n : Nat) (f : Nat → Bool) : mkB n f < 2 ^ n := by
  induction n generalizing f with
  | zero => simp [mkB]
  | succ n ih =>
    have := ih (fun i => f (i + 1))
    simp only [mkB]
    rw [Nat.pow_succ]
    split <;> omega
theorem mkB_bit (n : Nat) (f : Nat → Bool) {i : Nat} (hi : i < n) : (mkB n f / 2 ^ i % 2 = 1) ↔ f i = true := by
  induction n generalizing f i with
  | zero => omega
  | succ n ih =>
    cases i with
    | zero =>
      simp only [mkB, Nat.pow_zero, Nat.div_one]
      split <;> simp_all <;> omega
    | succ i =>
      have e : mkB (n + 1) f / 2 ^ (i + 1) = mkB n (fun i => f (i + 1)) / 2 ^ i := by
        rw [Nat.pow_succ, Nat.mul_comm, ← Nat.div_div_eq_div_mul]
        congr 1
        simp only [mkB]
        split <;> omega
      rw [e]
      exact ih _ (by omega)
theorem min_at (p : Nat → Prop) (v : Nat → Int) (n : Nat) (h : ∃ j, j < n ∧ p j) : ∃ i, i < n ∧ p i ∧ ∀ j, j < n → p j → v i ≤ v j := by
  induction n with
  | zero => obtain ⟨j, h, _⟩ := h; omega
  | succ n ih =>
    by_cases h1 : ∃ j, j < n ∧ p j
    · obtain ⟨i, a, b, c⟩ := ih h1
      by_cases h2 : p n ∧ v n < v i
      · refine ⟨n, by omega, h2.1, fun j hj hp => ?_⟩
        rcases Nat.lt_or_ge j n with hl | hl
        · have := c j hl hp; omega
        · obtain rfl : j = n := by omega
          omega
      · refine ⟨i, by omega, b, fun j hj hp => ?_⟩
        rcases Nat.lt_or_ge j n with hl | hl
        · exact c j hl hp
        · obtain rfl : j = n := by omega
          apply Classical.byContradiction
          intro h3
          exact h2 ⟨hp, by omega⟩
    · obtain ⟨j, hj, hp⟩ := h
      have hjn : j = n := by
        apply Classical.byContradiction
        intro h2
        exact h1 ⟨j, by omega, hp⟩
      subst hjn
      refine ⟨j, by omega, hp, fun q hq hp2 => ?_⟩
      rcases Nat.lt_or_ge q j with hl | hl
      · exact absurd ⟨q, hl, hp2⟩ h1
      · obtain rfl : q = j := by omega
        exact Int.le_refl _
def Pk (zs : List Rg) (x : Int) (i : Nat) : Prop := i < zs.length ∧ onR x (gAt zs i) = true ∧ ∀ j, j < zs.length → onR x (gAt zs j) = true → (gAt zs i).hi ≤ (gAt zs j).hi
open Classical in
noncomputable def pick (zs : List Rg) (x : Int) : Option Nat := if h : ∃ i, Pk zs x i then some (Classical.choose h) else none
theorem pick_ok {zs : List Rg} {x : Int} {j : Nat} (hj : j < zs.length) (hx : onR x (gAt zs j) = true) : ∃ i, pick zs x = some i ∧ Pk zs x i := by
  have h : ∃ i, Pk zs x i := by
    obtain ⟨i, a, b, c⟩ := min_at (fun i => onR x (gAt zs i) = true) (fun i => (gAt zs i).hi) zs.length ⟨j, hj, hx⟩
    exact ⟨i, a, b, c⟩
  refine ⟨Classical.choose h, ?_, Classical.choose_spec h⟩
  unfold pick
  rw [dif_pos h]
/-- A best scale is worth as much as a best set of tones. -/
theorem most_best {zs : List Rg} {k m : Int} {st : List Int} (h : MostR zs k st m) : m = (bst zs k (2 ^ zs.length) : Int) := by
  rw [h.cnt]
  congr 1
  refine Nat.le_antisymm ?_ (bst_le _ _ fun s hs => ?_)
  · obtain ⟨l, hl⟩ : ∃ l, st.filterMap (pick zs) = l := ⟨_, rfl⟩
    have hll : l.length ≤ st.length := by rw [← hl]; exact List.length_filterMap_le _ _
    obtain ⟨s, hs⟩ : ∃ s, mkB zs.length (fun i => decide (i ∈ l)) = s := ⟨_, rfl⟩
    have hlt : s < 2 ^ zs.length := by rw [← hs]; exact mkB_lt _ _
    have hbit : ∀ i, i < zs.length → (s / 2 ^ i % 2 = 1 ↔ i ∈ l) := fun i hi => by rw [← hs, mkB_bit _ _ hi]; simp
    have h1 : (hisS zs s zs.length).length ≤ l.length := by
      unfold hisS
      rw [List.length_map]
      refine nodup_sub_len _ _ (List.nodup_range.filter _) (fun x hx => ?_)
      rw [List.mem_filter, List.mem_range] at hx
      exact (hbit x hx.1).1 (by simpa using hx.2)
    refine Nat.le_trans ?_ (bst_ge zs k hlt)
    unfold bV
    rw [if_neg (by have := h.len; omega)]
    refine cntM_mono fun r hr hm => ?_
    obtain ⟨j, hj, rfl⟩ := List.mem_iff_getElem.1 hr
    obtain ⟨x, hx, hx1⟩ := meets_iff.1 hm
    have hon : onR x (gAt zs j) = true := by rw [gAt_eq hj]; exact onR_iff.2 hx1
    obtain ⟨i, hi, hp⟩ := pick_ok hj hon
    have hil : i ∈ l := by rw [← hl]; exact List.mem_filterMap.2 ⟨x, hx, hi⟩
    have h2 := hp.2.2 j hj hon
    have h3 := onR_iff.1 hp.2.1
    rw [gAt_eq hj] at h2
    refine meets_iff.2 ⟨(gAt zs i).hi, ?_, by omega, h2⟩
    unfold hisS
    refine List.mem_map.2 ⟨i, ?_, rfl⟩
    rw [List.mem_filter, List.mem_range]
    exact ⟨hp.1, by simpa using (hbit i hp.1).2 hil⟩
  · unfold bV
    split
    · exact Nat.zero_le _
    · next hlen =>
      obtain ⟨l, hl⟩ : ∃ l, hisS zs s zs.length = l := ⟨_, rfl⟩
      rw [hl] at hlen ⊢
      have hmem : ∀ x, x ∈ cmpc (srtL l) ↔ x ∈ l := fun x => by rw [cmpc_mem, (srtL_perm l).mem_iff]
      have hi := cmpc_incr (srtL l) (srtL_sorted l)
      have hle := incr_sub_len _ l hi (fun x hx => (hmem x).1 hx)
      refine Nat.le_trans (cntM_mono fun r _ hm => ?_) (h.best _ hi (by omega))
      obtain ⟨x, hx, h1⟩ := meets_iff.1 hm
      exact meets_iff.2 ⟨x, (hmem x).2 hx, h1⟩
end Go.Proofs.Ytdfdlklglbefiaa
