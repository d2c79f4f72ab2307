/- Stage 2: the states that were seen, in a map. -/
import Derived.Test.YtfmcfalghbaanaaPas
namespace Go.Proofs.Ytfmcfalghbaanaa
set_option linter.unusedSimpArgs false
set_option linter.unusedVariables false
open Go.RowKit Go.Shelf

def cell3 (a : Sta) : List Value := [.int .i64 ((a.last / 2 : Nat) : Int), .bool (decide (a.last % 2 = 1)), .int .u64 (a.pcs : Int)]
def flatA (l : List Sta) : List Value := l.flatMap cell3
theorem flatA_len (l : List Sta) : (flatA l).length = l.length * 3 := by
  induction l with
  | nil => rfl
  | cons x l ih => simp [flatA, cell3] at ih ⊢; omega
theorem flatA_one (l : List Sta) : ∀ u ∈ flatA l, u.oneCell' = true := by
  intro u hu
  obtain ⟨a, _, h⟩ := List.mem_flatMap.1 hu
  simp [cell3] at h
  rcases h with rfl | rfl | rfl <;> rfl
/-- A slice reads as a line of states. -/
def LineR (W : World) (v : Value) (l : List Sta) : Prop :=
  ∃ g off cap cur, v = .slice (some ⟨g, off, none⟩) l.length cap ∧ l.length ≤ cap ∧ W.heap[g]? = some (.cells cur 91 (0, 0)) ∧ off + cap * 3 ≤ cur.size ∧ ∀ j, j < l.length * 3 → cur[off + j]? = (flatA l)[j]?
theorem LineR.keep {W W' : World} {Mut : Nat → Prop} {v : Value} {l : List Sta} (h : LineR W v l) (hK : Keeps Mut W W') (hm : ∀ k, v.ownBlock = some k → ¬ Mut k) : LineR W' v l := by
  obtain ⟨g, off, cap, cur, rfl, h1, h2, h3, h4⟩ := h
  exact ⟨g, off, cap, cur, rfl, h1, (hK.block g (lt_of_block h2) (hm g rfl)).trans h2, h3, h4⟩
theorem LineR.lt {W : World} {v : Value} {l : List Sta} (h : LineR W v l) : ∃ g, v.ownBlock = some g ∧ g < W.heap.size := by
  obtain ⟨g, off, cap, cur, rfl, h1, h2, h3, h4⟩ := h
  exact ⟨g, rfl, lt_of_block h2⟩
theorem LineR.one {W : World} {v : Value} {l : List Sta} (h : LineR W v l) : v.oneCell' = true := by
  obtain ⟨g, off, cap, cur, rfl, _⟩ := h
  rfl
theorem LineR.head {W : World} {v : Value} {a : Sta} {l : List Sta} (h : LineR W v (a :: l)) :
    ∃ g off cap, v = .slice (some ⟨g, off, none⟩) (l.length + 1) cap ∧ l.length + 1 ≤ cap ∧ W.cell? ⟨g, off, none⟩ = some (.int .i64 ((a.last / 2 : Nat) : Int)) ∧ W.cell? ⟨g, off + 1, none⟩ = some (.bool (decide (a.last % 2 = 1))) ∧ W.cell? ⟨g, off + 2, none⟩ = some (.int .u64 (a.pcs : Int)) ∧
      (∃ o2, (∀ W1, (Instr.slice 126 v (some (.int .i64 1)) none none).run Try.prog W1 = .ok (.slice (some ⟨g, o2, none⟩) l.length (cap - 1)) W1) ∧ LineR W (.slice (some ⟨g, o2, none⟩) l.length (cap - 1)) l) := by
  obtain ⟨g, off, cap, cur, rfl, h1, h2, h3, h4⟩ := h
  rw [List.length_cons] at h1 h4
  have hc : ∀ j, j < (l.length + 1) * 3 → W.cell? ⟨g, off + j, none⟩ = (flatA (a :: l))[j]? := fun j hj => by rw [cell_row h2]; exact h4 j hj
  have hsl : ∀ W1, (Instr.slice 126 (.slice (some ⟨g, off, none⟩) (l.length + 1) cap) (some (.int .i64 1)) none none).run Try.prog W1 = .ok (.slice (some ⟨g, if cap = 1 then off else off + 3, none⟩) l.length (cap - 1)) W1 := fun W1 => by
    obtain ⟨i, hi, hz, hs, hb⟩ := info_parts info91_
    have he : Try.prog.elem 126 = 91 := by kernel_rfl
    rw [run_slice_l (P := Try.prog) W1 126 (some ⟨g, off, none⟩) (l.length + 1) cap (by rw [he]; exact Try.underlying126) .i64 1 (by omega) (by omega)]
    rw [he]
    simp only [sizeOf, Sem.run_bind, typeInfo, hi, hs]
    by_cases hc1 : cap = 1
    · subst hc1; simp [sliced, hi, typeInfo, hs]
    · simp [sliced, hi, typeInfo, hs, hc1, Addr.add_lit]
  refine ⟨g, off, cap, rfl, h1, ?_, ?_, ?_, (if cap = 1 then off else off + 3), hsl, g, _, cap - 1, cur, rfl, by omega, h2, ?_, ?_⟩
  · have := hc 0 (by omega); simpa [flatA, cell3] using this
  · have := hc 1 (by omega); simpa [flatA, cell3] using this
  · have := hc 2 (by omega); simpa [flatA, cell3] using this
  · by_cases hc1 : cap = 1
    · rw [if_pos hc1]; omega
    · rw [if_neg hc1]; omega
  · intro j hj
    rw [if_neg (by omega)]
    have h5 := h4 (j + 3) (by omega)
    rw [show off + (j + 3) = off + 3 + j by omega] at h5
    rw [h5]
    rfl
theorem LineR.push {W : World} {v : Value} {l : List Sta} (h : LineR W v l) (hl : l.length ≤ 100000) {b : Sta} {Z : Nat} (hZ : W.heap[Z]? = some (.cells (cell3 b).toArray 91 (0, 0))) :
    ∃ v' W', (Builtin.append_ #[126, 126] 126 #[v, .slice (some ⟨Z, 0, none⟩) 1 1]).run Try.prog W = .ok v' W' ∧ LineR W' v' (l ++ [b]) ∧ Keeps (fun k => v.ownBlock = some k) W W' ∧ (v'.ownBlock = v.ownBlock ∨ (v'.ownBlock = some W.heap.size ∧ W.heap.size < W'.heap.size)) := by
  obtain ⟨g, off, cap, cur, rfl, h1, h2, h3, h4⟩ := h
  obtain ⟨i, hi, hz, hs, hb⟩ := info_parts info91_
  have hnews : ∀ j u, (cell3 b)[j]? = some u → W.cell? ((⟨Z, 0, none⟩ : Addr).add j) = some u := fun j u hj => by rw [Addr.add_lit, cell_row hZ]; simpa using hj
  have hone : ∀ u ∈ cell3 b, u.oneCell' = true := fun u hu => by simp [cell3] at hu; rcases hu with rfl | rfl | rfl <;> rfl
  have hfl : ∀ (cu : Array Value) (o : Nat), (∀ j, j < l.length * 3 → cu[o + j]? = (flatA l)[j]?) → (∀ j, j < 3 → cu[o + l.length * 3 + j]? = (cell3 b)[j]?) → ∀ j, j < (l ++ [b]).length * 3 → cu[o + j]? = (flatA (l ++ [b]))[j]? := by
    intro cu o ha hb2 j hj
    rw [List.length_append, List.length_singleton] at hj
    have e : flatA (l ++ [b]) = flatA l ++ cell3 b := by unfold flatA; rw [List.flatMap_append]; simp
    rw [e]
    by_cases hjl : j < l.length * 3
    · rw [List.getElem?_append_left (by rw [flatA_len]; exact hjl)]; exact ha j hjl
    · rw [List.getElem?_append_right (by rw [flatA_len]; omega), flatA_len]
      have := hb2 (j - l.length * 3) (by omega)
      rw [show o + l.length * 3 + (j - l.length * 3) = o + j by omega] at this
      exact this
  by_cases hroom : l.length + 1 ≤ cap
  · have hlt : ∀ j, j < 3 → off + l.length * 3 + j < cur.size := fun j hj => by omega
    have hr := run_append_room_cells (P := Try.prog) W 126 126 91 i Try.underlying126 hi g off l.length cap ⟨Z, 0, none⟩ 1 1 (cell3 b) (by rw [hs]; rfl) hnews hone hroom (fun j hj => by
      rw [hs, cell_row h2]
      have := hlt j (by simpa [cell3] using hj)
      simp [this]) (fun j hj => frozen_row h2)
    rw [hs] at hr
    have hset : W.setCells g (off + l.length * 3) (cell3 b) = ((W.setCell ⟨g, off + l.length * 3, none⟩ (.int .i64 ((b.last / 2 : Nat) : Int))).setCell ⟨g, off + l.length * 3 + 1, none⟩ (.bool (decide (b.last % 2 = 1)))).setCell ⟨g, off + l.length * 3 + 1 + 1, none⟩ (.int .u64 (b.pcs : Int)) := rfl
    rw [hset] at hr
    refine ⟨_, _, hr, ⟨g, off, cap, _, by rw [List.length_append]; rfl, by rw [List.length_append]; exact hroom, set_same _ _ (set_same _ _ (set_same _ _ h2)), by simpa using h3, hfl _ _ (fun j hj => ?_) (fun j hj => ?_)⟩, ((keeps_setCell _ _ _ _).trans (keeps_setCell _ _ _ _)).trans (keeps_setCell _ _ _ _) |>.mono (fun k _ e => by subst e; rfl), .inl rfl⟩
    · rw [Array.getElem?_setIfInBounds_ne (by omega), Array.getElem?_setIfInBounds_ne (by omega), Array.getElem?_setIfInBounds_ne (by omega)]; exact h4 j hj
    · have h0 := hlt 0 (by omega)
      have h1' := hlt 1 (by omega)
      have h2' := hlt 2 (by omega)
      match j, hj with
      | 0, _ => rw [Array.getElem?_setIfInBounds_ne (by omega), Array.getElem?_setIfInBounds_ne (by omega)]; simp only [Nat.add_zero]; rw [Array.getElem?_setIfInBounds_self_of_lt (by omega)]; rfl
      | 1, _ => rw [Array.getElem?_setIfInBounds_ne (by omega), Array.getElem?_setIfInBounds_self_of_lt (by simp; omega)]; rfl
      | 2, _ => rw [show off + l.length * 3 + 2 = off + l.length * 3 + 1 + 1 by omega, Array.getElem?_setIfInBounds_self_of_lt (by simp; omega)]; rfl
  · have holds : ∀ j u, (flatA l)[j]? = some u → W.cell? ((⟨g, off, none⟩ : Addr).add j) = some u := fun j u hj => by
      have hj2 := (List.getElem?_eq_some_iff.1 hj).1
      rw [flatA_len] at hj2
      rw [Addr.add_lit, cell_row h2, h4 j hj2]
      exact hj
    have hr := run_append_grow (P := Try.prog) W 126 126 91 i _ Try.underlying126 hi hz ⟨g, off, none⟩ l.length cap (flatA l) (by rw [hs, flatA_len]) holds ⟨Z, 0, none⟩ 1 1 (cell3 b) (by rw [hs]; rfl) hnews (by omega) (by omega) (growslice_fits (by omega) (by rw [hb]; omega))
    have hge := grownCap_ge W (l.length + 1) cap 91
    refine ⟨_, _, hr, ⟨W.heap.size, 0, _, _, by rw [List.length_append]; rfl, by rw [List.length_append]; exact hge, heap_alloc_new W.drew _, ?_, hfl _ _ (fun j hj => ?_) (fun j hj => ?_)⟩, (Keeps.of_new (drew_b W 1)).trans (keep_alloc _ _ _), .inr ⟨rfl, by simp⟩⟩
    · simp only [Array.size_append, List.size_toArray, size_zeroCells, flatA_len]
      have h7 : (cell3 b).length = 3 := rfl
      have h8 : (Value.agg #[.int .i64 0, .bool false, .int .u64 0]).cells.size = 3 := rfl
      rw [h7, h8]
      omega
    · rw [Nat.zero_add, Array.getElem?_append_left (by simp [flatA_len]; omega), Array.getElem?_append_left (by simp [flatA_len]; exact hj)]
      simp
    · rw [Nat.zero_add, Array.getElem?_append_left (by simp [flatA_len, cell3]; omega), Array.getElem?_append_right (by simp [flatA_len])]
      simp [flatA_len]
end Go.Proofs.Ytfmcfalghbaanaa

namespace Go.Proofs.Ytfmcfalghbaanaa
set_option linter.unusedSimpArgs false
set_option linter.unusedVariables false
open Go.RowKit Go.Shelf Go.WideMaps Go.MapKept
open Go.Maps (Keyed)

def VSet (W : World) (M nn : Nat) (S : List Sta) : Prop := ∃ D : DataW Unit, W.ownsMap Try.prog 91 (plainElem Try.prog 4) M nn D ∧ ∀ a, InK a → D.atKey (klS Try.prog a) (.lit (.bool false)) = .lit (.bool (decide (a ∈ S)))
theorem VSet.new {W : World} {M : Nat} (h : W.heap[M]? = some (.map #[] 0)) : VSet W M 0 [] :=
  ⟨.map [], ⟨#[], 0, h, ⟨by simp, stamped_empty 0, by simp⟩, Nat.le_refl _, rfl⟩, fun a _ => by simp [DataW.atKey]⟩
theorem VSet.keep {W W' : World} {M nn : Nat} {S : List Sta} {Mut : Nat → Prop} (h : VSet W M nn S) (hK : Keeps Mut W W') (hm : ¬ Mut M) : VSet W' M nn S := by
  obtain ⟨D, h1, h2⟩ := h
  have hlt := h1.lt
  obtain ⟨es, clock, hb, F, hs, hD⟩ := h1
  exact ⟨D, ⟨es, clock, (hK.block M hlt hm).trans hb, F, hs, hD⟩, h2⟩
theorem VSet.lt {W : World} {M nn : Nat} {S : List Sta} (h : VSet W M nn S) : M < W.heap.size := by
  obtain ⟨D, h1, _⟩ := h
  exact h1.lt
set_option maxRecDepth 100000 in
theorem VSet.update {W : World} {M nn : Nat} {S : List Sta} (h : VSet W M nn S) (hn : nn < 100000) {p q x : Nat} {t : Bool} (hx : x = if t then 2 * p + 1 else 2 * p) (hx16 : x < 16) (hq : q < 256) :
    ∃ W', (Instr.mapUpdate 125 (.map (some M)) (.agg #[.int .i64 (p : Int), .bool t, .int .u64 (q : Int)]) (.bool true)).run Try.prog W = .ok () W' ∧ VSet W' M (nn + 1) (S ++ [⟨x, q⟩]) ∧ Keeps (fun j => j = M) W W' := by
  obtain ⟨D, hown, hD⟩ := h
  have hk := key_some (p := p) (q := q) (by cases t <;> simp at hx <;> omega) hq t
  obtain ⟨W', h1, h2, h3⟩ := hown.update key91 Try.underlying125 (by unfold maxLen; omega) hk (plainElem_bool Try.underlying4 true)
  refine ⟨W', h1, ⟨_, h2, fun a ha => ?_⟩, Keeps.of_grown h3 (fun r e => by cases e; rfl)⟩
  have hlit := key91.key hk
  have hisM := hown.isMap
  have hf := kls_form (q := q) hx
  by_cases e : a = ⟨x, q⟩
  · rw [e]
    have h4 : decide ((⟨x, q⟩ : Sta) ∈ S ++ [⟨x, q⟩]) = true := by simp
    rw [h4, hf]
    obtain ⟨kl, hkl⟩ : ∃ kl, klG Try.prog p t q = kl := ⟨_, rfl⟩
    rw [hkl] at hlit ⊢
    exact Maps.atKey_put_same hisM hlit _ _
  · have hne : klS Try.prog a ≠ klG Try.prog p t q := fun h => e (kls_inj ha ⟨hx16, hq⟩ (by rw [hf]; exact h))
    have h4 : decide (a ∈ S ++ [⟨x, q⟩]) = decide (a ∈ S) := by simp [e]
    rw [Maps.atKey_put_other hne, h4]
    exact hD a ha
set_option maxRecDepth 100000 in
theorem VSet.look {W : World} {M nn : Nat} {S : List Sta} (h : VSet W M nn S) {p q x : Nat} {t : Bool} (hx : x = if t then 2 * p + 1 else 2 * p) (hx16 : x < 16) (hq : q < 256) :
    (Instr.lookup 125 (.map (some M)) (.agg #[.int .i64 (p : Int), .bool t, .int .u64 (q : Int)]) false).run Try.prog W = .ok (.bool (decide ((⟨x, q⟩ : Sta) ∈ S))) W := by
  obtain ⟨D, hown, hD⟩ := h
  have hk := key_some (p := p) (q := q) (by cases t <;> simp at hx <;> omega) hq t
  obtain ⟨v, vp, h1, h2⟩ := hown.lookup key91 Try.underlying125 (Try.zeroValue4 _) (plainElem_bool Try.underlying4 false) hk
  obtain ⟨c, rfl, hc⟩ := plainElem_bool_inv h2
  unfold staV at h1
  rw [h1]
  have h3 := hD ⟨x, q⟩ ⟨hx16, hq⟩
  rw [kls_form hx] at h3
  simp only at hc
  rw [h3] at hc
  simp only [DataW.lit.injEq, Lit.bool.injEq] at hc
  rw [hc]
/-! The order of the search. -/
theorem addN_snoc (S pre : List Sta) (b : Sta) : addN S (pre ++ [b]) = if b ∈ addN S pre then addN S pre else addN S pre ++ [b] := by
  induction pre generalizing S with
  | nil => rfl
  | cons c pre ih => exact ih _
/-- All states that are found. -/
def bfsAll (T : Nat → Nat → Bool) (cs : List Nat) : List Sta := bfs T cs 5000 0 []
/-- What is known of the states found so far. -/
structure Fnd (T : Nat → Nat → Bool) (cs : List Nat) (n : Nat) (i : Nat) (S : List Sta) : Prop where
  fuel : i ≤ S.length + 1
  all : bfs T cs (5000 - i) i S = bfsAll T cs
  nodup : S.Nodup
  small : ∀ a ∈ S, Small a
  reach : ∀ a ∈ S, Reach T cs a ∧ a.pcs ≠ 0 ∧ a.pcs < 2 ^ n
  done : ∀ j, j < i → ∀ b ∈ nexts T cs ((⟨0, 0⟩ :: S).getD j ⟨0, 0⟩), b ∈ S
theorem Fnd.start (T : Nat → Nat → Bool) (cs : List Nat) (n : Nat) : Fnd T cs n 0 [] := ⟨Nat.zero_le _, rfl, List.nodup_nil, by simp, by simp, fun j h => by omega⟩
theorem Fnd.len {T : Nat → Nat → Bool} {cs : List Nat} {n i : Nat} {S : List Sta} (h : Fnd T cs n i S) : S.length ≤ 4096 := small_len S h.nodup h.small
theorem two256 {n : Nat} (hn : n ≤ 8) : 2 ^ n ≤ 256 := pow_lt_ ⟨n, by omega⟩
/-- A state that is looked at. -/
theorem Fnd.at {T : Nat → Nat → Bool} {cs : List Nat} {n i : Nat} {S : List Sta} (h : Fnd T cs n i S) (hc : Codes n cs) (hn : n ≤ 8) (hi : i < S.length + 1) : ∃ a, (⟨0, 0⟩ :: S).drop i = a :: (⟨0, 0⟩ :: S).drop (i + 1) ∧ (⟨0, 0⟩ :: S).getD i ⟨0, 0⟩ = a ∧ (a = ⟨0, 0⟩ ∨ a ∈ S) ∧ Reach T cs a ∧ a.pcs < 2 ^ n ∧ a.last < 16 ∧ a.pcs < 256 := by
  have hl : i < (⟨0, 0⟩ :: S : List Sta).length := by simpa using hi
  refine ⟨(⟨0, 0⟩ :: S)[i], List.drop_eq_getElem_cons hl, by rw [List.getD, List.getElem?_eq_getElem hl]; rfl, ?_⟩
  have hm : (⟨0, 0⟩ :: S : List Sta)[i] ∈ (⟨0, 0⟩ :: S : List Sta) := List.getElem_mem hl
  rcases List.mem_cons.1 hm with e | e
  · rw [e]
    exact ⟨.inl rfl, Reach.start _ _, Nat.two_pow_pos n, by show 0 < 16; omega, by show 0 < 256; omega⟩
  · exact ⟨.inr e, (h.reach _ e).1, (h.reach _ e).2.2, (h.small _ e).1, (h.small _ e).2⟩
theorem addN_mem_or (S l : List Sta) : ∀ x ∈ addN S l, x ∈ S ∨ x ∈ l := fun x hx => (mem_addN S l x).1 hx
/-- The states behind one have been found. -/
theorem Fnd.step {T : Nat → Nat → Bool} {cs : List Nat} {n i : Nat} {S : List Sta} (h : Fnd T cs n i S) (hc : Codes n cs) (hn : n ≤ 8) (hi : i < S.length + 1) {a : Sta} (ha : (⟨0, 0⟩ :: S).getD i ⟨0, 0⟩ = a) (hr : Reach T cs a) (hlt : a.pcs < 2 ^ n) : Fnd T cs n (i + 1) (addN S (nexts T cs a)) := by
  have hpre := addN_prefix S (nexts T cs a)
  have hpl := hpre.length_le
  have hlen := h.len
  have h2 := two256 hn
  have hnew : ∀ b ∈ nexts T cs a, Small b ∧ Reach T cs b ∧ b.pcs ≠ 0 ∧ b.pcs < 2 ^ n := fun b hb => by
    obtain ⟨e, h3, h4⟩ := next_last hb
    have h5 := hc _ h3
    have h6 : b.pcs < 2 ^ n := by rw [e]; exact go_lt hlt h5
    exact ⟨⟨by omega, by omega⟩, hr.step hb, by rw [e]; exact go_ne _ _, h6⟩
  have hget : ∀ j, j < S.length + 1 → (⟨0, 0⟩ :: addN S (nexts T cs a)).getD j ⟨0, 0⟩ = (⟨0, 0⟩ :: S).getD j ⟨0, 0⟩ := fun j hj => by
    obtain ⟨t, ht⟩ := hpre
    rw [← ht, List.getD, List.getD, ← List.cons_append, List.getElem?_append_left (by simpa using hj)]
  refine ⟨by omega, ?_, addN_nodup _ _ h.nodup, fun b hb => ?_, fun b hb => ?_, fun j hj b hb => ?_⟩
  · have h3 := h.all
    rw [show 5000 - i = (5000 - (i + 1)) + 1 by omega] at h3
    rw [← h3]
    show _ = if i < S.length + 1 then bfs T cs (5000 - (i + 1)) (i + 1) (addN S (nexts T cs ((⟨0, 0⟩ :: S).getD i ⟨0, 0⟩))) else S
    rw [if_pos hi, ha]
  · rcases addN_mem_or _ _ b hb with h3 | h3
    · exact h.small b h3
    · exact (hnew b h3).1
  · rcases addN_mem_or _ _ b hb with h3 | h3
    · exact h.reach b h3
    · exact (hnew b h3).2
  · rw [hget j (by omega)] at hb
    rcases Nat.lt_or_ge j i with h3 | h3
    · exact (mem_addN _ _ _).2 (.inl (h.done j h3 b hb))
    · obtain rfl : j = i := by omega
      rw [ha] at hb
      exact (mem_addN _ _ _).2 (.inr hb)
/-- When all have been looked at, all have been found. -/
theorem Fnd.fin {T : Nat → Nat → Bool} {cs : List Nat} {n i : Nat} {S : List Sta} (h : Fnd T cs n i S) (hi : i = S.length + 1) : S = bfsAll T cs ∧ ∀ a, Reach T cs a → a = ⟨0, 0⟩ ∨ a ∈ S := by
  have hlen := h.len
  constructor
  · have h3 := h.all
    rw [show 5000 - i = (5000 - (i + 1)) + 1 by omega] at h3
    rw [← h3]
    show S = if i < S.length + 1 then _ else S
    rw [if_neg (by omega)]
  · rintro a ⟨l, hl, rfl⟩
    have key : ∀ (l : List Nat) (b : Sta), (b = ⟨0, 0⟩ ∨ b ∈ S) → IsWay T cs b l → runS b l = ⟨0, 0⟩ ∨ runS b l ∈ S := by
      intro l
      induction l with
      | nil => exact fun b hb _ => hb
      | cons s l ih =>
        intro b hb hw
        have hn := next_mem hw.1 hw.2.1
        have hin : goS b s ∈ S := by
          rcases hb with rfl | hb
          · exact h.done 0 (by omega) _ (by simpa using hn)
          · obtain ⟨j, hj, rfl⟩ := List.getElem_of_mem hb
            exact h.done (j + 1) (by omega) _ (by simpa [List.getD, hj] using hn)
        exact ih (goS b s) (.inr hin) hw.2.2
    exact key l _ (.inl rfl) hl
/-- The states with a last step, as they are found. -/
def lastS (x : Nat) (a : Sta) : Bool := decide (a.pcs ≠ 0) && decide (a.last = x)
def reachL (T : Nat → Nat → Bool) (cs : List Nat) (x : Nat) : List Sta := (⟨0, 0⟩ :: bfsAll T cs).filter (lastS x)
end Go.Proofs.Ytfmcfalghbaanaa
