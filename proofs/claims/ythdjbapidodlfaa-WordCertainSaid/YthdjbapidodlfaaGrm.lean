/- Stage 4: grades, and one longest passage alone (mathematics for WordCertain). -/
import Derived.Test.YthdjbapidodlfaaCtm
namespace Go.Proofs.Ythdjbapidodlfaa
set_option linter.unusedSimpArgs false
set_option linter.unusedVariables false
open Go.RowKit Go.Shelf
/-- Chains with the same elements are the same. -/
theorem chain_eq {α : Type} {lt : α → α → Bool} (hir : ∀ a, lt a a = false) (htr : ∀ a b c, lt a b = true → lt b c = true → lt a c = true) : ∀ (a b : List α), Chain' lt a → Chain' lt b → (∀ x, x ∈ a ↔ x ∈ b) → a = b
  | [], [], _, _, _ => rfl
  | [], y :: u, _, _, h => absurd ((h y).2 (List.mem_cons_self ..)) (by simp)
  | x :: t, [], _, _, h => absurd ((h x).1 (List.mem_cons_self ..)) (by simp)
  | x :: t, y :: u, ha, hb, h => by
    obtain ⟨a1, a2⟩ := List.pairwise_cons.1 ha
    obtain ⟨b1, b2⟩ := List.pairwise_cons.1 hb
    have hxy : x = y := by
      rcases List.mem_cons.1 ((h x).1 (List.mem_cons_self ..)) with e | e
      · exact e
      · rcases List.mem_cons.1 ((h y).2 (List.mem_cons_self ..)) with e2 | e2
        · exact e2.symm
        · have := htr _ _ _ (b1 x e) (a1 y e2)
          rw [hir] at this
          cases this
    subst hxy
    rw [chain_eq hir htr t u a2 b2 fun z => ?_]
    constructor
    · intro hz
      rcases List.mem_cons.1 ((h z).1 (List.mem_cons_of_mem _ hz)) with e | e
      · subst e
        have := a1 z hz
        rw [hir] at this
        cases this
      · exact e
    · intro hz
      rcases List.mem_cons.1 ((h z).2 (List.mem_cons_of_mem _ hz)) with e | e
      · subst e
        have := b1 z hz
        rw [hir] at this
        cases this
      · exact e
theorem crt_one {nm : List Int} {L : List (List Int)} {m : Nat} (hL : LV L m) (h1 : cntS (allK (mtS nm L) m) = 1) : crtS nm L m (mtS nm L) = fstS nm L m (mtS nm L) := by
  have hq := fst_lng (nm := nm) hL
  have hc : Chain' (bef m) (fstS nm L m (mtS nm L)) := chs_pair bef_tr hq
  refine chain_eq (bef_irr hL) bef_tr _ _ (crt_chain hL) hc fun x => ?_
  have hlen := lng_cnt (nm := nm) hL
  rw [h1] at hlen
  obtain ⟨q0, hq0⟩ : ∃ q0, lngS nm L m = [q0] := by
    match hl : lngS nm L m with
    | [q0] => exact ⟨q0, rfl⟩
    | [] => rw [hl] at hlen; simp at hlen
    | a :: b :: t => rw [hl] at hlen; simp at hlen; omega
  rw [mem_crt hL]
  rw [hq0] at hq ⊢
  have e := List.mem_singleton.1 hq
  constructor
  · rintro ⟨_, h⟩
    rw [e]
    exact h q0 (List.mem_singleton.2 rfl)
  · intro h
    rw [e] at h
    refine ⟨?_, fun q hq' => by rw [List.mem_singleton.1 hq']; exact h⟩
    have h9 : q0 ∈ chs (mtS nm L) (bef m) (topK nm L m) := by
      have : q0 ∈ lngS nm L m := by rw [hq0]; exact List.mem_singleton.2 rfl
      exact this
    exact chs_mem h9 x h
/-- A passage hears the word i of the hearer h. -/
def hrQ (h i : Nat) (q : List (List Int)) : Bool := q.any fun x => decide (iAt x h = (i : Int))
theorem smK_sum {nm : List Int} {L : List (List Int)} {m h : Nat} (hL : LV L m) (hh : h < m) (i : Nat) : ∀ pre : List (List Int), (∀ x ∈ pre, x ∈ mtS nm L) → iAt (smK nm L m h pre) i = ((sumN pre fun x => if iAt x h = (i : Int) then nE (mtS nm L) (bef m) (topK nm L m) x else 0 : Nat) : Int) := by
  intro pre
  obtain ⟨n, hn⟩ : ∃ n, pre.length = n := ⟨_, rfl⟩
  induction n generalizing pre with
  | zero =>
    intro _
    rw [List.length_eq_zero_iff.1 hn]
    have : smK nm L m h [] = List.replicate (lAt L h).length 0 := rfl
    rw [this, iAt_rep]
    rfl
  | succ n ih =>
    intro hp
    rcases List.eq_nil_or_concat pre with rfl | ⟨p, x, rfl⟩
    · simp at hn
    · rw [List.concat_eq_append] at hn hp ⊢
      have hx := hp x (by simp)
      have hpn : p.length = n := by rw [List.length_append] at hn; simpa using hn
      have ih2 := ih p hpn (fun y hy => hp y (by simp [hy]))
      have hr := ((mem_mtS hL x).1 hx).rng h hh
      rw [smK_snoc, sumN_app]
      unfold smF
      rw [iAt_set9 _ (by rw [smK_len]; omega), shS_nE hL hx]
      rw [sumN_cons, sumN_nil]
      by_cases e : iAt x h = (i : Int)
      · rw [if_pos e]
        have e2 : (iAt x h).toNat = i := by omega
        rw [e2, if_pos rfl, ih2]
        omega
      · rw [if_neg e, if_neg (by omega), ih2]
        omega
theorem hr_one {m h i : Nat} (hh : h < m) : ∀ q : List (List Int), Chain' (bef m) q → (sumN q fun x => if iAt x h = (i : Int) then 1 else 0) = if hrQ h i q = true then 1 else 0
  | [], _ => rfl
  | x :: t, hc => by
    obtain ⟨c1, c2⟩ := List.pairwise_cons.1 hc
    have ih := hr_one (i := i) hh t c2
    rw [sumN_cons, ih]
    have e : hrQ h i (x :: t) = (decide (iAt x h = (i : Int)) || hrQ h i t) := by simp [hrQ]
    rw [e]
    by_cases hx : iAt x h = (i : Int)
    · rw [if_pos hx, decide_eq_true hx, Bool.true_or, if_pos rfl]
      have : hrQ h i t = false := by
        unfold hrQ
        rw [List.any_eq_false]
        intro y hy
        have h2 := befB_iff.1 (c1 y hy) h hh
        rw [decide_eq_true_eq]
        omega
      rw [this]
      rfl
    · rw [if_neg hx, decide_eq_false hx, Bool.false_or, Nat.zero_add]
/-- The sum of a word is how many longest passages hear it. -/
theorem sm_hear {nm : List Int} {L : List (List Int)} {m h : Nat} (hL : LV L m) (hh : h < m) (i : Nat) : iAt (smK nm L m h (mtS nm L)) i = ((sumN (lngS nm L m) fun q => if hrQ h i q = true then 1 else 0 : Nat) : Int) := by
  rw [smK_sum hL hh i _ (fun x hx => hx)]
  congr 1
  have e1 : (sumN (mtS nm L) fun x => if iAt x h = (i : Int) then nE (mtS nm L) (bef m) (topK nm L m) x else 0) = sumN (mtS nm L) fun x => sumN (lngS nm L m) fun q => if x ∈ q ∧ iAt x h = (i : Int) then 1 else 0 := by
    refine sumN_congr fun x hx => ?_
    by_cases e : iAt x h = (i : Int)
    · rw [if_pos e]
      unfold nE lngS
      exact sumN_congr fun q _ => by by_cases h : x ∈ q <;> simp [h, e]
    · rw [if_neg e]
      have h0 : (sumN (lngS nm L m) fun q => if x ∈ q ∧ iAt x h = (i : Int) then 1 else 0) = sumN (lngS nm L m) fun _ => 0 := sumN_congr fun q _ => if_neg (fun e' => e e'.2)
      rw [h0, sumN_zero]
  rw [e1, sumN_comm]
  refine sumN_congr fun q hq => ?_
  have hc : Chain' (bef m) q := chs_pair bef_tr hq
  have hm : ∀ x ∈ q, x ∈ mtS nm L := chs_mem (show q ∈ chs (mtS nm L) (bef m) (topK nm L m) from hq)
  rw [← hr_one hh q hc]
  have hnq : q.Nodup := nodup_of_chain (bef_irr hL) hc
  have hnm := mtS_nodup (nm := nm) hL
  have h1 : (sumN (mtS nm L) fun x => if x ∈ q ∧ iAt x h = (i : Int) then 1 else 0) = sumN ((mtS nm L).filter fun x => decide (x ∈ q)) fun x => if iAt x h = (i : Int) then 1 else 0 := by
    rw [sumN_filter]
    exact sumN_congr fun x _ => by by_cases h : x ∈ q <;> simp [h]
  rw [h1]
  have hp : List.Perm ((mtS nm L).filter fun x => decide (x ∈ q)) q := (List.perm_ext_iff_of_nodup (hnm.filter _) hnq).2 fun x => by
    rw [List.mem_filter, decide_eq_true_eq]
    exact ⟨fun h => h.2, fun h => ⟨hm x h, h⟩⟩
  unfold sumN
  exact (hp.map _).sum_nat
end Go.Proofs.Ythdjbapidodlfaa
