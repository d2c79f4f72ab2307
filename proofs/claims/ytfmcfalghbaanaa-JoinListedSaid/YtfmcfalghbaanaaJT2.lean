/- Stage 2: the mathematics of joins, second part: they are in lexicographic order, each once; states in the order of a search. -/
import Derived.Test.YtfmcfalghbaanaaJT
namespace Go.Proofs.Ytfmcfalghbaanaa
set_option linter.unusedSimpArgs false
set_option linter.unusedVariables false

/-- Lexicographic order of lists that are equally long. -/
def lexL : List Nat → List Nat → Prop
  | a :: l, b :: m => a < b ∨ (a = b ∧ lexL l m)
  | _, _ => False
theorem lexL_irr (l : List Nat) : ¬ lexL l l := by
  induction l with
  | nil => simp [lexL]
  | cons a l ih => simp only [lexL, Nat.lt_irrefl, true_and, false_or]; exact ih
theorem ways_sorted {T : Nat → Nat → Bool} {cs : List Nat} (hcs : cs.Pairwise (· < ·)) (k : Nat) (a : Sta) : (ways T cs k a).Pairwise lexL := by
  induction k generalizing a with
  | zero => simp [ways]
  | succ k ih =>
    show ((cs.filter (can T a)).flatMap fun s => (ways T cs k (goS a s)).map (s :: ·)).Pairwise lexL
    rw [List.pairwise_flatMap]
    refine ⟨fun s _ => ?_, ?_⟩
    · rw [List.pairwise_map]
      exact (ih (goS a s)).imp (fun h => .inr ⟨rfl, h⟩)
    · refine (hcs.filter _).imp (fun {s t} h => ?_)
      intro x hx y hy
      obtain ⟨x2, _, rfl⟩ := List.mem_map.1 hx
      obtain ⟨y2, _, rfl⟩ := List.mem_map.1 hy
      exact .inl h
theorem joins_sorted {T : Nat → Nat → Bool} {cs : List Nat} {n : Nat} (hcs : cs.Pairwise (· < ·)) {i j : Nat} {x y : List Nat} (hx : (joins T cs n)[i]? = some x) (hy : (joins T cs n)[j]? = some y) (h : i < j) : lexL x y := by
  have h1 := ways_sorted (T := T) hcs n ⟨0, 0⟩
  rw [List.pairwise_iff_getElem] at h1
  obtain ⟨a1, a2⟩ := List.getElem?_eq_some_iff.1 hx
  obtain ⟨b1, b2⟩ := List.getElem?_eq_some_iff.1 hy
  have h2 := h1 i j a1 b1 h
  unfold joins at a2 b2
  rwa [a2, b2] at h2
/-- A join has one number. -/
theorem joins_inj {T : Nat → Nat → Bool} {cs : List Nat} {n : Nat} (hcs : cs.Pairwise (· < ·)) {i j : Nat} {x : List Nat} (hx : (joins T cs n)[i]? = some x) (hy : (joins T cs n)[j]? = some x) : i = j := by
  rcases Nat.lt_trichotomy i j with h | h | h
  · exact absurd (joins_sorted hcs hx hy h) (lexL_irr x)
  · exact h
  · exact absurd (joins_sorted hcs hy hx h) (lexL_irr x)
theorem AtJ.nil {T : Nat → Nat → Bool} {cs : List Nat} {n base : Nat} {g : List Nat} {a : Sta} (h : AtJ T cs n g 0 a base) : (joins T cs n)[base]? = some g := by
  have h1 := h 0 (by simp [ways])
  simpa [ways] using h1
theorem cnt_at {T : Nat → Nat → Bool} {cs : List Nat} {n k : Nat} {a : Sta} (h : left n a = k) : cntA T cs n a = (ways T cs k a).length := by
  unfold cntA; rw [h]
/-- What is left behind a step. -/
theorem nexts_left {n : Nat} {T : Nat → Nat → Bool} {cs : List Nat} (hc : Codes n cs) {a b : Sta} {k : Nat} (h : left n a = k + 1) (hb : b ∈ nexts T cs a) : left n b = k := by
  obtain ⟨s, hs, rfl⟩ := List.mem_map.1 hb
  obtain ⟨h1, h2⟩ := List.mem_filter.1 hs
  have := left_go (hc s h1) h2
  omega
theorem cnt_sum {n : Nat} {T : Nat → Nat → Bool} {cs : List Nat} (hc : Codes n cs) {a : Sta} {k : Nat} (h : left n a = k + 1) (l : List Sta) (hl : ∀ b ∈ l, b ∈ nexts T cs a) : (l.map (cntA T cs n)).sum = (l.map fun x => (ways T cs k x).length).sum := by
  congr 1
  exact List.map_congr_left (fun b hb => cnt_at (nexts_left hc h (hl b hb)))
/-- One step more of a way, by the states in front of it. -/
theorem AtJ.next {n : Nat} {T : Nat → Nat → Bool} {cs : List Nat} (hc : Codes n cs) {a b : Sta} {k base : Nat} {g : List Nat} {pre post : List Sta} (hk : left n a = k + 1) (h : AtJ T cs n g (k + 1) a base) (hx : nexts T cs a = pre ++ b :: post) :
    AtJ T cs n (g ++ [b.last]) k b (base + (pre.map (cntA T cs n)).sum) := by
  rw [cnt_sum hc hk pre (fun x hx2 => by rw [hx]; simp [hx2])]
  exact h.step hx
theorem nexts_len {T : Nat → Nat → Bool} {cs : List Nat} {a : Sta} (h : cs.length ≤ 16) : (nexts T cs a).length ≤ 16 := by
  unfold nexts
  rw [List.length_map]
  exact Nat.le_trans (List.length_filter_le _ _) h
theorem next_mem {T : Nat → Nat → Bool} {cs : List Nat} {a : Sta} {s : Nat} (h : s ∈ cs) (hc : can T a s = true) : goS a s ∈ nexts T cs a :=
  List.mem_map.2 ⟨s, List.mem_filter.2 ⟨h, hc⟩, rfl⟩
theorem next_last {T : Nat → Nat → Bool} {cs : List Nat} {a b : Sta} (h : b ∈ nexts T cs a) : b = goS a b.last ∧ b.last ∈ cs ∧ can T a b.last = true := by
  obtain ⟨s, hs, rfl⟩ := List.mem_map.1 h
  obtain ⟨h1, h2⟩ := List.mem_filter.1 hs
  exact ⟨rfl, h1, h2⟩

/-! The order of a search. -/
/-- States that are new go to the end. -/
def addN (S : List Sta) : List Sta → List Sta
  | [] => S
  | b :: l => addN (if b ∈ S then S else S ++ [b]) l
/-- The states that were found, those with numbers below i looked at. -/
def bfs (T : Nat → Nat → Bool) (cs : List Nat) : Nat → Nat → List Sta → List Sta
  | 0, _, S => S
  | f + 1, i, S => if i < S.length + 1 then bfs T cs f (i + 1) (addN S (nexts T cs ((⟨0, 0⟩ :: S).getD i ⟨0, 0⟩))) else S
theorem addN_prefix (S l : List Sta) : S <+: addN S l := by
  induction l generalizing S with
  | nil => exact List.prefix_refl _
  | cons b l ih =>
    refine List.IsPrefix.trans ?_ (ih _)
    split
    · exact List.prefix_refl _
    · exact List.prefix_append _ _
theorem mem_addN (S l : List Sta) (x : Sta) : x ∈ addN S l ↔ x ∈ S ∨ x ∈ l := by
  induction l generalizing S with
  | nil => simp [addN]
  | cons b l ih =>
    show x ∈ addN _ l ↔ _
    rw [ih]
    split
    · rename_i h
      simp only [List.mem_cons]
      constructor
      · rintro (h1 | h1)
        · exact .inl h1
        · exact .inr (.inr h1)
      · rintro (h1 | rfl | h1)
        · exact .inl h1
        · exact .inl h
        · exact .inr h1
    · simp only [List.mem_append, List.mem_cons, List.not_mem_nil, or_false, or_assoc]
theorem addN_nodup (S l : List Sta) (h : S.Nodup) : (addN S l).Nodup := by
  induction l generalizing S with
  | nil => exact h
  | cons b l ih =>
    refine ih _ ?_
    split
    · exact h
    · rename_i hb
      rw [List.nodup_append]
      exact ⟨h, by simp, fun x hx y hy => by simp only [List.mem_singleton] at hy; subst hy; exact fun e => hb (e ▸ hx)⟩
theorem bfs_prefix (T : Nat → Nat → Bool) (cs : List Nat) (f i : Nat) (S : List Sta) : S <+: bfs T cs f i S := by
  induction f generalizing i S with
  | zero => exact List.prefix_refl _
  | succ f ih =>
    show S <+: if _ then _ else _
    split
    · exact (addN_prefix _ _).trans (ih _ _)
    · exact List.prefix_refl _
/-- A state that fits into the cells. -/
def Small (a : Sta) : Prop := a.last < 16 ∧ a.pcs < 256
theorem small_len (S : List Sta) (h : S.Nodup) (hs : ∀ a ∈ S, Small a) : S.length ≤ 4096 := by
  have h1 : (S.map fun a => a.last * 256 + a.pcs).Nodup := by
    rw [List.nodup_iff_pairwise_ne] at h ⊢
    rw [List.pairwise_map]
    refine List.Pairwise.imp_of_mem (fun {a b} ha hb hab e => ?_) h
    obtain ⟨_, a2⟩ := hs a ha
    obtain ⟨_, b2⟩ := hs b hb
    apply hab
    cases a; cases b
    simp only [Sta.mk.injEq] at e a2 b2 ⊢
    omega
  have h2 : (S.map fun a => a.last * 256 + a.pcs) ⊆ List.range 4096 := by
    intro x hx
    obtain ⟨a, ha, rfl⟩ := List.mem_map.1 hx
    have := hs a ha
    rw [List.mem_range]
    have h3 := this.1
    have h4 := this.2
    omega
  have h3 := List.Nodup.length_le_of_subset h1 h2
  simpa using h3
end Go.Proofs.Ytfmcfalghbaanaa
