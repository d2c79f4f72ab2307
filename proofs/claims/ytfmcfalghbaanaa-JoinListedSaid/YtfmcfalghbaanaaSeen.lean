/- Stage 2: the states that were seen, in a map. -/
import Derived.Test.YtfmcfalghbaanaaLine
namespace Go.Proofs.Ytfmcfalghbaanaa
set_option linter.unusedSimpArgs false
set_option linter.unusedVariables false
open Go.RowKit Go.Shelf Go.WideMaps Go.MapKept
open Go.Maps (Keyed)

def VSet (W : World) (M nn : Nat) (S : List Sta) : Prop := ∃ D : DataW Unit, W.ownsMap Try.prog 91 (plainElem Try.prog 4) M nn D ∧ ∀ a, InK a → D.atKey (klS Try.prog a) (.lit (.bool false)) = .lit (.bool (decide (a ∈ S)))
theorem VSet.new {W : World} {M : Nat} (h : W.heap[M]? = some (.map #[] 0)) : VSet W M 0 [] :=
  ⟨.map [], ⟨#[], 0, h, ⟨by simp, stamped_empty 0, by simp⟩, Nat.le_refl _, rfl⟩, fun a _ => by simp [DataW.atKey]⟩
theorem VSet.keep {W W' : World} {M nn : Nat} {S : List Sta} {Mut : Nat → Prop} (h : VSet W M nn S) (hK : Keeps Mut W W') (hm : ¬ Mut M) : VSet W' M nn S := by
  obtain ⟨D, h1, h2⟩ := h
  have hlt := h1.lt
  obtain ⟨es, clock, hb, F, hs, hD⟩ := h1
  exact ⟨D, ⟨es, clock, (hK.block M hlt hm).trans hb, F, hs, hD⟩, h2⟩
theorem VSet.lt {W : World} {M nn : Nat} {S : List Sta} (h : VSet W M nn S) : M < W.heap.size := by
  obtain ⟨D, h1, _⟩ := h
  exact h1.lt
set_option maxRecDepth 100000 in
theorem VSet.update {W : World} {M nn : Nat} {S : List Sta} (h : VSet W M nn S) (hn : nn < 100000) {p q x : Nat} {t : Bool} (hx : x = if t then 2 * p + 1 else 2 * p) (hx16 : x < 16) (hq : q < 256) :
    ∃ W', (Instr.mapUpdate 125 (.map (some M)) (.agg #[.int .i64 (p : Int), .bool t, .int .u64 (q : Int)]) (.bool true)).run Try.prog W = .ok () W' ∧ VSet W' M (nn + 1) (S ++ [⟨x, q⟩]) ∧ Keeps (fun j => j = M) W W' := by
  obtain ⟨D, hown, hD⟩ := h
  have hk := key_some (p := p) (q := q) (by cases t <;> simp at hx <;> omega) hq t
  obtain ⟨W', h1, h2, h3⟩ := hown.update key91 Try.underlying125 (by unfold maxLen; omega) hk (plainElem_bool Try.underlying4 true)
  refine ⟨W', h1, ⟨_, h2, fun a ha => ?_⟩, Keeps.of_grown h3 (fun r e => by cases e; rfl)⟩
  have hlit := key91.key hk
  have hisM := hown.isMap
  have hf := kls_form (q := q) hx
  by_cases e : a = ⟨x, q⟩
  · rw [e]
    have h4 : decide ((⟨x, q⟩ : Sta) ∈ S ++ [⟨x, q⟩]) = true := by simp
    rw [h4, hf]
    obtain ⟨kl, hkl⟩ : ∃ kl, klG Try.prog p t q = kl := ⟨_, rfl⟩
    rw [hkl] at hlit ⊢
    exact Maps.atKey_put_same hisM hlit _ _
  · have hne : klS Try.prog a ≠ klG Try.prog p t q := fun h => e (kls_inj ha ⟨hx16, hq⟩ (by rw [hf]; exact h))
    have h4 : decide (a ∈ S ++ [⟨x, q⟩]) = decide (a ∈ S) := by simp [e]
    rw [Maps.atKey_put_other hne, h4]
    exact hD a ha
set_option maxRecDepth 100000 in
theorem VSet.look {W : World} {M nn : Nat} {S : List Sta} (h : VSet W M nn S) {p q x : Nat} {t : Bool} (hx : x = if t then 2 * p + 1 else 2 * p) (hx16 : x < 16) (hq : q < 256) :
    (Instr.lookup 125 (.map (some M)) (.agg #[.int .i64 (p : Int), .bool t, .int .u64 (q : Int)]) false).run Try.prog W = .ok (.bool (decide ((⟨x, q⟩ : Sta) ∈ S))) W := by
  obtain ⟨D, hown, hD⟩ := h
  have hk := key_some (p := p) (q := q) (by cases t <;> simp at hx <;> omega) hq t
  obtain ⟨v, vp, h1, h2⟩ := hown.lookup key91 Try.underlying125 (Try.zeroValue4 _) (plainElem_bool Try.underlying4 false) hk
  obtain ⟨c, rfl, hc⟩ := plainElem_bool_inv h2
  unfold staV at h1
  rw [h1]
  have h3 := hD ⟨x, q⟩ ⟨hx16, hq⟩
  rw [kls_form hx] at h3
  simp only at hc
  rw [h3] at hc
  simp only [DataW.lit.injEq, Lit.bool.injEq] at hc
  rw [hc]
/-! The order of the search. -/
theorem addN_snoc (S pre : List Sta) (b : Sta) : addN S (pre ++ [b]) = if b ∈ addN S pre then addN S pre else addN S pre ++ [b] := by
  induction pre generalizing S with
  | nil => rfl
  | cons c pre ih => exact ih _
/-- All states that are found. -/
def bfsAll (T : Nat → Nat → Bool) (cs : List Nat) : List Sta := bfs T cs 5000 0 []
/-- What is known of the states found so far. -/
structure Fnd (T : Nat → Nat → Bool) (cs : List Nat) (n : Nat) (i : Nat) (S : List Sta) : Prop where
  fuel : i ≤ S.length + 1
  all : bfs T cs (5000 - i) i S = bfsAll T cs
  nodup : S.Nodup
  small : ∀ a ∈ S, Small a
  reach : ∀ a ∈ S, Reach T cs a ∧ a.pcs ≠ 0 ∧ a.pcs < 2 ^ n
  done : ∀ j, j < i → ∀ b ∈ nexts T cs ((⟨0, 0⟩ :: S).getD j ⟨0, 0⟩), b ∈ S
theorem Fnd.start (T : Nat → Nat → Bool) (cs : List Nat) (n : Nat) : Fnd T cs n 0 [] := ⟨Nat.zero_le _, rfl, List.nodup_nil, by simp, by simp, fun j h => by omega⟩
theorem Fnd.len {T : Nat → Nat → Bool} {cs : List Nat} {n i : Nat} {S : List Sta} (h : Fnd T cs n i S) : S.length ≤ 4096 := small_len S h.nodup h.small
theorem two256 {n : Nat} (hn : n ≤ 8) : 2 ^ n ≤ 256 := pow_lt_ ⟨n, by omega⟩
/-- A state that is looked at. -/
theorem Fnd.at {T : Nat → Nat → Bool} {cs : List Nat} {n i : Nat} {S : List Sta} (h : Fnd T cs n i S) (hc : Codes n cs) (hn : n ≤ 8) (hi : i < S.length + 1) : ∃ a, (⟨0, 0⟩ :: S).drop i = a :: (⟨0, 0⟩ :: S).drop (i + 1) ∧ (⟨0, 0⟩ :: S).getD i ⟨0, 0⟩ = a ∧ (a = ⟨0, 0⟩ ∨ a ∈ S) ∧ Reach T cs a ∧ a.pcs < 2 ^ n ∧ a.last < 16 ∧ a.pcs < 256 := by
  have hl : i < (⟨0, 0⟩ :: S : List Sta).length := by simpa using hi
  refine ⟨(⟨0, 0⟩ :: S)[i], List.drop_eq_getElem_cons hl, by rw [List.getD, List.getElem?_eq_getElem hl]; rfl, ?_⟩
  have hm : (⟨0, 0⟩ :: S : List Sta)[i] ∈ (⟨0, 0⟩ :: S : List Sta) := List.getElem_mem hl
  rcases List.mem_cons.1 hm with e | e
  · rw [e]
    exact ⟨.inl rfl, Reach.start _ _, Nat.two_pow_pos n, by show 0 < 16; omega, by show 0 < 256; omega⟩
  · exact ⟨.inr e, (h.reach _ e).1, (h.reach _ e).2.2, (h.small _ e).1, (h.small _ e).2⟩
theorem addN_mem_or (S l : List Sta) : ∀ x ∈ addN S l, x ∈ S ∨ x ∈ l := fun x hx => (mem_addN S l x).1 hx
/-- The states behind one have been found. -/
theorem Fnd.step {T : Nat → Nat → Bool} {cs : List Nat} {n i : Nat} {S : List Sta} (h : Fnd T cs n i S) (hc : Codes n cs) (hn : n ≤ 8) (hi : i < S.length + 1) {a : Sta} (ha : (⟨0, 0⟩ :: S).getD i ⟨0, 0⟩ = a) (hr : Reach T cs a) (hlt : a.pcs < 2 ^ n) : Fnd T cs n (i + 1) (addN S (nexts T cs a)) := by
  have hpre := addN_prefix S (nexts T cs a)
  have hpl := hpre.length_le
  have hlen := h.len
  have h2 := two256 hn
  have hnew : ∀ b ∈ nexts T cs a, Small b ∧ Reach T cs b ∧ b.pcs ≠ 0 ∧ b.pcs < 2 ^ n := fun b hb => by
    obtain ⟨e, h3, h4⟩ := next_last hb
    have h5 := hc _ h3
    have h6 : b.pcs < 2 ^ n := by rw [e]; exact go_lt hlt h5
    exact ⟨⟨by omega, by omega⟩, hr.step hb, by rw [e]; exact go_ne _ _, h6⟩
  have hget : ∀ j, j < S.length + 1 → (⟨0, 0⟩ :: addN S (nexts T cs a)).getD j ⟨0, 0⟩ = (⟨0, 0⟩ :: S).getD j ⟨0, 0⟩ := fun j hj => by
    obtain ⟨t, ht⟩ := hpre
    rw [← ht, List.getD, List.getD, ← List.cons_append, List.getElem?_append_left (by simpa using hj)]
  refine ⟨by omega, ?_, addN_nodup _ _ h.nodup, fun b hb => ?_, fun b hb => ?_, fun j hj b hb => ?_⟩
  · have h3 := h.all
    rw [show 5000 - i = (5000 - (i + 1)) + 1 by omega] at h3
    rw [← h3]
    show _ = if i < S.length + 1 then bfs T cs (5000 - (i + 1)) (i + 1) (addN S (nexts T cs ((⟨0, 0⟩ :: S).getD i ⟨0, 0⟩))) else S
    rw [if_pos hi, ha]
  · rcases addN_mem_or _ _ b hb with h3 | h3
    · exact h.small b h3
    · exact (hnew b h3).1
  · rcases addN_mem_or _ _ b hb with h3 | h3
    · exact h.reach b h3
    · exact (hnew b h3).2
  · rw [hget j (by omega)] at hb
    rcases Nat.lt_or_ge j i with h3 | h3
    · exact (mem_addN _ _ _).2 (.inl (h.done j h3 b hb))
    · obtain rfl : j = i := by omega
      rw [ha] at hb
      exact (mem_addN _ _ _).2 (.inr hb)
/-- When all have been looked at, all have been found. -/
theorem Fnd.fin {T : Nat → Nat → Bool} {cs : List Nat} {n i : Nat} {S : List Sta} (h : Fnd T cs n i S) (hi : i = S.length + 1) : S = bfsAll T cs ∧ ∀ a, Reach T cs a → a = ⟨0, 0⟩ ∨ a ∈ S := by
  have hlen := h.len
  constructor
  · have h3 := h.all
    rw [show 5000 - i = (5000 - (i + 1)) + 1 by omega] at h3
    rw [← h3]
    show S = if i < S.length + 1 then _ else S
    rw [if_neg (by omega)]
  · rintro a ⟨l, hl, rfl⟩
    have key : ∀ (l : List Nat) (b : Sta), (b = ⟨0, 0⟩ ∨ b ∈ S) → IsWay T cs b l → runS b l = ⟨0, 0⟩ ∨ runS b l ∈ S := by
      intro l
      induction l with
      | nil => exact fun b hb _ => hb
      | cons s l ih =>
        intro b hb hw
        have hn := next_mem hw.1 hw.2.1
        have hin : goS b s ∈ S := by
          rcases hb with rfl | hb
          · exact h.done 0 (by omega) _ (by simpa using hn)
          · obtain ⟨j, hj, rfl⟩ := List.getElem_of_mem hb
            exact h.done (j + 1) (by omega) _ (by simpa [List.getD, hj] using hn)
        exact ih (goS b s) (.inr hin) hw.2.2
    exact key l _ (.inl rfl) hl
/-- The states with a last step, as they are found. -/
def lastS (x : Nat) (a : Sta) : Bool := decide (a.pcs ≠ 0) && decide (a.last = x)
def reachL (T : Nat → Nat → Bool) (cs : List Nat) (x : Nat) : List Sta := (⟨0, 0⟩ :: bfsAll T cs).filter (lastS x)
end Go.Proofs.Ytfmcfalghbaanaa
