/- Stage 4: grades, and one longest passage alone (mathematics for WordCertain). -/
import Derived.Test.YthdjbapidodlfaaCtm
namespace Go.Proofs.Ythdjbapidodlfaa
set_option linter.unusedSimpArgs false
set_option linter.unusedVariables false
open Go.RowKit Go.Shelf
/-- A passage hears the word i of the hearer h. -/
def hrQ (h i : Nat) (q : List (List Int)) : Bool := q.any fun x => decide (iAt x h = (i : Int))
theorem smK_sum {nm : List Int} {L : List (List Int)} {m h : Nat} (hL : LV L m) (hh : h < m) (i : Nat) : ∀ pre : List (List Int), (∀ x ∈ pre, x ∈ mtS nm L) → iAt (smK nm L m h pre) i = ((sumN pre fun x => if iAt x h = (i : Int) then nE (mtS nm L) (bef m) (topK nm L m) x else 0 : Nat) : Int) := by
  intro pre
  obtain ⟨n, hn⟩ : ∃ n, pre.length = n := ⟨_, rfl⟩
  induction n generalizing pre with
  | zero =>
    intro _
    rw [List.length_eq_zero_iff.1 hn]
    have : smK nm L m h [] = List.replicate (lAt L h).length 0 := rfl
    rw [this, iAt_rep]
    rfl
  | succ n ih =>
    intro hp
    rcases List.eq_nil_or_concat pre with rfl | ⟨p, x, rfl⟩
    · simp at hn
    · rw [List.concat_eq_append] at hn hp ⊢
      have hx := hp x (by simp)
      have hpn : p.length = n := by rw [List.length_append] at hn; simpa using hn
      have ih2 := ih p hpn (fun y hy => hp y (by simp [hy]))
      have hr := ((mem_mtS hL x).1 hx).rng h hh
      rw [smK_snoc, sumN_app]
      unfold smF
      rw [iAt_set9 _ (by rw [smK_len]; omega), shS_nE hL hx]
      rw [sumN_cons, sumN_nil]
      by_cases e : iAt x h = (i : Int)
      · rw [if_pos e]
        have e2 : (iAt x h).toNat = i := by omega
        rw [e2, if_pos rfl, ih2]
        omega
      · rw [if_neg e, if_neg (by omega), ih2]
        omega
theorem hr_one {m h i : Nat} (hh : h < m) : ∀ q : List (List Int), Chain' (bef m) q → (sumN q fun x => if iAt x h = (i : Int) then 1 else 0) = if hrQ h i q = true then 1 else 0
  | [], _ => rfl
  | x :: t, hc => by
    obtain ⟨c1, c2⟩ := List.pairwise_cons.1 hc
    have ih := hr_one (i := i) hh t c2
    rw [sumN_cons, ih]
    have e : hrQ h i (x :: t) = (decide (iAt x h = (i : Int)) || hrQ h i t) := by simp [hrQ]
    rw [e]
    by_cases hx : iAt x h = (i : Int)
    · rw [if_pos hx, decide_eq_true hx, Bool.true_or, if_pos rfl]
      have : hrQ h i t = false := by
        unfold hrQ
        rw [List.any_eq_false]
        intro y hy
        have h2 := befB_iff.1 (c1 y hy) h hh
        rw [decide_eq_true_eq]
        omega
      rw [this]
      rfl
    · rw [if_neg hx, decide_eq_false hx, Bool.false_or, Nat.zero_add]
/-- The sum of a word is how many longest passages hear it. -/
theorem sm_hear {nm : List Int} {L : List (List Int)} {m h : Nat} (hL : LV L m) (hh : h < m) (i : Nat) : iAt (smK nm L m h (mtS nm L)) i = ((sumN (lngS nm L m) fun q => if hrQ h i q = true then 1 else 0 : Nat) : Int) := by
  rw [smK_sum hL hh i _ (fun x hx => hx)]
  congr 1
  have e1 : (sumN (mtS nm L) fun x => if iAt x h = (i : Int) then nE (mtS nm L) (bef m) (topK nm L m) x else 0) = sumN (mtS nm L) fun x => sumN (lngS nm L m) fun q => if x ∈ q ∧ iAt x h = (i : Int) then 1 else 0 := by
    refine sumN_congr fun x hx => ?_
    by_cases e : iAt x h = (i : Int)
    · rw [if_pos e]
      unfold nE lngS
      exact sumN_congr fun q _ => by by_cases h : x ∈ q <;> simp [h, e]
    · rw [if_neg e]
      have h0 : (sumN (lngS nm L m) fun q => if x ∈ q ∧ iAt x h = (i : Int) then 1 else 0) = sumN (lngS nm L m) fun _ => 0 := sumN_congr fun q _ => if_neg (fun e' => e e'.2)
      rw [h0, sumN_zero]
  rw [e1, sumN_comm]
  refine sumN_congr fun q hq => ?_
  have hc : Chain' (bef m) q := chs_pair bef_tr hq
  have hm : ∀ x ∈ q, x ∈ mtS nm L := chs_mem (show q ∈ chs (mtS nm L) (bef m) (topK nm L m) from hq)
  rw [← hr_one hh q hc]
  have hnq : q.Nodup := nodup_of_chain (bef_irr hL) hc
  have hnm := mtS_nodup (nm := nm) hL
  have h1 : (sumN (mtS nm L) fun x => if x ∈ q ∧ iAt x h = (i : Int) then 1 else 0) = sumN ((mtS nm L).filter fun x => decide (x ∈ q)) fun x => if iAt x h = (i : Int) then 1 else 0 := by
    rw [sumN_filter]
    exact sumN_congr fun x _ => by by_cases h : x ∈ q <;> simp [h]
  rw [h1]
  have hp : List.Perm ((mtS nm L).filter fun x => decide (x ∈ q)) q := (List.perm_ext_iff_of_nodup (hnm.filter _) hnq).2 fun x => by
    rw [List.mem_filter, decide_eq_true_eq]
    exact ⟨fun h => h.2, fun h => ⟨hm x h, h⟩⟩
  unfold sumN
  exact (hp.map _).sum_nat
theorem grS_at {nm : List Int} {L : List (List Int)} {m h i : Nat} (hi : i < (lAt L h).length) : iAt (grS nm L m h) i = grV (allK (mtS nm L) m).2 (iAt (smK nm L m h (mtS nm L)) i) := by
  unfold grS
  rw [iAt_eq (by rw [List.length_map, smK_len]; exact hi), iAt_eq (by rw [smK_len]; exact hi)]
  simp
end Go.Proofs.Ythdjbapidodlfaa
