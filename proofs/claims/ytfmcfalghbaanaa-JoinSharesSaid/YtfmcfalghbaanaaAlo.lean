/- Stage 2: what passages and rivals are in terms of joins. -/
import Derived.Test.YtfmcfalghbaanaaBef
namespace Go.Proofs.Ytfmcfalghbaanaa
set_option linter.unusedSimpArgs false
set_option linter.unusedVariables false

theorem codes_nodup (ps : List Pc) : (codesL ps).Nodup := by
  rw [List.nodup_iff_pairwise_ne]
  exact (codes_sorted ps).imp (fun h e => by omega)
theorem join_way {c : Cy} {L : List Nat} (h : L ∈ joinsC c) : L.length = c.ps.length ∧ (∀ s ∈ L, s ∈ codesL c.ps) ∧ (L.map (· / 2)).Nodup ∧ L.Nodup := by
  unfold joinsC joins at h
  obtain ⟨h1, h2⟩ := (mem_ways _ _ _ _ _).1 h
  obtain ⟨h3, _, h4, _, _⟩ := (way_iff _ _ _ _).1 h2
  refine ⟨h1, h3, h4, ?_⟩
  rw [List.nodup_iff_pairwise_ne] at h4 ⊢
  exact (List.pairwise_map.1 h4).imp (fun h e => h (by rw [e]))
/-- The pairs of neighbours. -/
def adjP (L : List Nat) : List (Nat × Nat) := L.zip L.tail
theorem adj_iff (L : List Nat) (x y : Nat) : (x, y) ∈ adjP L ↔ hasP L x y = true := by
  induction L with
  | nil => simp [adjP, hasP]
  | cons a L ih =>
    cases L with
    | nil => simp [adjP, hasP]
    | cons b L =>
      have e : adjP (a :: b :: L) = (a, b) :: adjP (b :: L) := rfl
      rw [e, List.mem_cons, ih]
      simp only [hasP, Bool.or_eq_true, Bool.and_eq_true, decide_eq_true_eq, Prod.mk.injEq]
      constructor <;> rintro (⟨h1, h2⟩ | h)
      · exact .inl ⟨h1.symm, h2.symm⟩
      · exact .inr h
      · exact .inl ⟨h1.symm, h2.symm⟩
      · exact .inr h
theorem adj_mem {L : List Nat} {x y : Nat} (h : (x, y) ∈ adjP L) : x ∈ L ∧ y ∈ L := by
  obtain ⟨h1, h2⟩ := List.of_mem_zip h
  exact ⟨h1, List.mem_of_mem_tail h2⟩
theorem adj_nodup {L : List Nat} (h : L.Nodup) : (adjP L).Nodup := by
  induction L with
  | nil => simp [adjP]
  | cons a L ih =>
    cases L with
    | nil => simp [adjP]
    | cons b L =>
      have e : adjP (a :: b :: L) = (a, b) :: adjP (b :: L) := rfl
      rw [e, List.nodup_cons]
      rw [List.nodup_cons] at h
      exact ⟨fun hm => h.1 (adj_mem hm).1, ih h.2⟩
theorem adj_len (L : List Nat) : (adjP L).length = L.length - 1 := by
  unfold adjP
  simp
theorem adj_range (L : List Nat) : adjP L = (List.range (L.length - 1)).map fun i => (L.getD i 0, L.getD (i + 1) 0) := by
  refine List.ext_getElem (by rw [adj_len]; simp) (fun i h1 h2 => ?_)
  have h3 : i < L.length - 1 := by rw [← adj_len]; exact h1
  have h4 : i < L.length := by omega
  have h5 : i + 1 < L.length := by omega
  simp [adjP, List.getElem_zip, h4, h5]
theorem pass_mem {c : Cy} {x y : Nat} : (x, y) ∈ passL c ↔ x ∈ codesL c.ps ∧ y ∈ codesL c.ps ∧ ∀ l ∈ joinsC c, hasP l x y = true := by
  unfold passL
  rw [List.mem_flatMap]
  simp only [List.mem_map, List.mem_filter, Prod.mk.injEq]
  constructor
  · rintro ⟨a, ha, b, ⟨hb, hs⟩, rfl, rfl⟩
    unfold sharedB at hs
    exact ⟨ha, hb, List.all_eq_true.1 hs⟩
  · rintro ⟨h1, h2, h3⟩
    exact ⟨x, h1, y, ⟨h2, List.all_eq_true.2 h3⟩, rfl, rfl⟩
theorem pass_sorted (c : Cy) : (passL c).Pairwise fun p q => p.1 < q.1 ∨ p.1 = q.1 ∧ p.2 < q.2 := by
  unfold passL
  rw [List.pairwise_flatMap]
  constructor
  · intro a _
    rw [List.pairwise_map]
    exact ((codes_sorted c.ps).filter _).imp (fun h => .inr ⟨rfl, h⟩)
  · refine (codes_sorted c.ps).imp (fun {a b} h p hp q hq => ?_)
    obtain ⟨y, _, rfl⟩ := List.mem_map.1 hp
    obtain ⟨z, _, rfl⟩ := List.mem_map.1 hq
    exact .inl h
theorem pass_nodup (c : Cy) : (passL c).Nodup := by
  rw [List.nodup_iff_pairwise_ne]
  refine (pass_sorted c).imp (fun {p q} h e => ?_)
  rw [e] at h
  omega
theorem pass_adj {c : Cy} {L : List Nat} (h : L ∈ joinsC c) : (passL c).length = ((adjP L).filter fun p => sharedB (tabOf c) (codesL c.ps) c.ps.length p.1 p.2).length := by
  obtain ⟨h1, h2, h3, h4⟩ := join_way h
  refine Nat.le_antisymm (List.Nodup.length_le_of_subset (pass_nodup c) ?_) (List.Nodup.length_le_of_subset ((adj_nodup h4).filter _) ?_)
  · rintro ⟨x, y⟩ hp
    obtain ⟨a1, a2, a3⟩ := pass_mem.1 hp
    rw [List.mem_filter]
    exact ⟨(adj_iff L x y).2 (a3 L h), List.all_eq_true.2 a3⟩
  · rintro ⟨x, y⟩ hp
    obtain ⟨a1, a2⟩ := List.mem_filter.1 hp
    obtain ⟨b1, b2⟩ := adj_mem a1
    exact pass_mem.2 ⟨h2 _ b1, h2 _ b2, List.all_eq_true.1 a2⟩
/-- How many of the first neighbours all joins have. -/
def shN (c : Cy) (L : List Nat) (k : Nat) : Nat := (List.range k).countP fun i => sharedB (tabOf c) (codesL c.ps) c.ps.length (L.getD i 0) (L.getD (i + 1) 0)
theorem shN_succ (c : Cy) (L : List Nat) (k : Nat) : shN c L (k + 1) = shN c L k + if sharedB (tabOf c) (codesL c.ps) c.ps.length (L.getD k 0) (L.getD (k + 1) 0) = true then 1 else 0 := by
  unfold shN
  rw [List.range_succ, List.countP_append]
  simp [List.countP_cons]
theorem shN_le (c : Cy) (L : List Nat) (k : Nat) : shN c L k ≤ k := by
  unfold shN
  have := List.countP_le_length (p := fun i => sharedB (tabOf c) (codesL c.ps) c.ps.length (L.getD i 0) (L.getD (i + 1) 0)) (l := List.range k)
  simpa using this
theorem pass_sh {c : Cy} {L : List Nat} (h : L ∈ joinsC c) : (passL c).length = shN c L (L.length - 1) := by
  rw [pass_adj h, adj_range, ← List.countP_eq_length_filter, List.countP_map]
  rfl
theorem pass_one {c : Cy} {L : List Nat} (h : joinsC c = [L]) : (passL c).length = L.length - 1 := by
  have hL : L ∈ joinsC c := by rw [h]; simp
  rw [pass_adj hL, ← adj_len, List.filter_eq_self.2]
  rintro ⟨x, y⟩ hp
  unfold sharedB
  show (joinsC c).all _ = true
  rw [h]
  simpa using (adj_iff L x y).1 hp
/-- Does the list of steps have the pair of codes? -/
theorem hasB_codes (L : List Nat) (x y : Nat) : hasB (L.map stC) (stC x) (stC y) = hasP L x y := by
  induction L with
  | nil => rfl
  | cons a L ih =>
    cases L with
    | nil => rfl
    | cons b L =>
      show (decide (stC a = stC x) && decide (stC b = stC y) || hasB ((b :: L).map stC) (stC x) (stC y)) = _
      rw [ih]
      have e1 : decide (stC a = stC x) = decide (a = x) := by rw [decide_eq_decide]; exact ⟨stC_inj, fun e => by rw [e]⟩
      have e2 : decide (stC b = stC y) = decide (b = y) := by rw [decide_eq_decide]; exact ⟨stC_inj, fun e => by rw [e]⟩
      rw [e1, e2]
      rfl
theorem befB_codes (x y : Nat) : befB (stC x) (stC y) = decide (x < y) := by
  unfold befB stC
  rw [Bool.eq_iff_iff]
  simp only [Bool.or_eq_true, Bool.and_eq_true, decide_eq_true_eq, Bool.not_eq_true', decide_eq_false_iff_not]
  omega
/-- A passage is in each join. -/
theorem pass_has {c : Cy} {L : List Nat} (hL : L ∈ joinsC c) {i : Nat} (h : i < (passL c).length) : hasB (L.map stC) (stC (passL c)[i].1) (stC (passL c)[i].2) = true := by
  rw [hasB_codes]
  have : (passL c)[i] ∈ passL c := List.getElem_mem h
  exact (pass_mem.1 (show ((passL c)[i].1, (passL c)[i].2) ∈ passL c from this)).2.2 L hL
theorem pass_bef {c : Cy} {i : Nat} (h : i + 1 < (passL c).length) : bef2B (stC (passL c)[i].1) (stC (passL c)[i].2) (stC (passL c)[i + 1].1) (stC (passL c)[i + 1].2) = true := by
  have := List.pairwise_iff_getElem.1 (pass_sorted c) i (i + 1) (by omega) h (by omega)
  unfold bef2B
  rw [befB_codes, befB_codes]
  rw [Bool.or_eq_true, Bool.and_eq_true]
  rcases this with h1 | ⟨h1, h2⟩
  · exact .inl (decide_eq_true h1)
  · exact .inr ⟨decide_eq_true (by rw [h1]), decide_eq_true h2⟩
theorem code_in {c : Cy} {x : Nat} (hx : x ∈ codesL c.ps) : codeS (stC x) = x := by
  have h1 := step_of_code hx
  exact stC_inj (stC_codeS h1)
theorem riv_in {c : Cy} (he : chkC c = 0) {L : List Nat} {x : Nat} (h : L ∈ joinsC c) (hx : x ∈ L) : rivR c (stC x) = (rivL c x, 0) := by
  obtain ⟨h1, h2, h3, h4⟩ := join_way h
  unfold rivR
  rw [if_neg (by rw [he]; simp), if_neg (by rw [step_of_code (h2 x hx)]; simp), code_in (h2 x hx), if_neg]
  rw [List.all_eq_true]
  intro hf
  have := hf L h
  simp [hx] at this
theorem riv_out {c : Cy} (he : chkC c = 0) {s : St} (hs : stepB c.ps s = true) (h : ∀ L ∈ joinsC c, codeS s ∉ L) : rivR c s = ([], 5) := by
  unfold rivR
  rw [if_neg (by rw [he]; simp), if_neg (by rw [hs]; simp), if_pos]
  rw [List.all_eq_true]
  intro L hL
  simp [h L hL]
theorem riv_mem {c : Cy} {L : List Nat} (h : L ∈ joinsC c) {k : Nat} (hk : k + 1 < L.length) : L[k + 1] ∈ rivL c L[k] := by
  obtain ⟨h1, h2, h3, h4⟩ := join_way h
  unfold rivL
  rw [List.mem_filter]
  refine ⟨h2 _ (List.getElem_mem _), List.any_eq_true.2 ⟨L, h, ?_⟩⟩
  rw [← adj_iff, adj_range, List.mem_map]
  refine ⟨k, by rw [List.mem_range]; omega, ?_⟩
  simp [hk, show k < L.length by omega]
theorem filter_one {l : List Nat} (h : l.Nodup) {y : Nat} (hy : y ∈ l) (p : Nat → Bool) (hp : ∀ z, p z = true ↔ z = y) : l.filter p = [y] := by
  induction l with
  | nil => cases hy
  | cons a l ih =>
    rw [List.nodup_cons] at h
    rw [List.filter_cons]
    by_cases e : a = y
    · subst e
      rw [if_pos ((hp a).2 rfl), List.filter_eq_nil_iff.2]
      intro z hz hpz
      rw [(hp z).1 hpz] at hz
      exact h.1 hz
    · rw [if_neg (fun hh => e ((hp a).1 hh))]
      exact ih h.2 ((List.mem_cons.1 hy).resolve_left (fun e2 => e e2.symm))
theorem nodup_at {L : List Nat} (h : L.Nodup) {i k : Nat} (hi : i < L.length) (hk : k < L.length) (e : L[i] = L[k]) : i = k := by
  rw [List.nodup_iff_pairwise_ne] at h
  rcases Nat.lt_trichotomy i k with h1 | h1 | h1
  · exact absurd e (List.pairwise_iff_getElem.1 h i k hi hk h1)
  · exact h1
  · exact absurd e.symm (List.pairwise_iff_getElem.1 h k i hk hi h1)
theorem adj_next {L : List Nat} (h : L.Nodup) {k : Nat} (hk : k < L.length) (y : Nat) : hasP L L[k] y = true ↔ ∃ h2 : k + 1 < L.length, y = L[k + 1] := by
  rw [← adj_iff, adj_range, List.mem_map]
  constructor
  · rintro ⟨i, hi, e⟩
    rw [List.mem_range] at hi
    have i1 : i < L.length := by omega
    have i2 : i + 1 < L.length := by omega
    simp only [Prod.mk.injEq] at e
    rw [List.getD_eq_getElem?_getD, List.getElem?_eq_getElem i1, List.getD_eq_getElem?_getD, List.getElem?_eq_getElem i2] at e
    simp only [Option.getD_some] at e
    have : i = k := nodup_at h i1 hk e.1
    subst this
    exact ⟨i2, e.2.symm⟩
  · rintro ⟨h2, rfl⟩
    refine ⟨k, by rw [List.mem_range]; omega, ?_⟩
    simp [hk, h2]
/-- With one join alone, the rivals of a step of it are the next one. -/
theorem riv_one {c : Cy} {L : List Nat} (h : joinsC c = [L]) {k : Nat} (hk : k < L.length) : rivL c L[k] = (L.drop (k + 1)).take 1 := by
  have hL : L ∈ joinsC c := by rw [h]; simp
  obtain ⟨h1, h2, h3, h4⟩ := join_way hL
  unfold rivL
  rw [h]
  by_cases hk2 : k + 1 < L.length
  · rw [filter_one (codes_nodup c.ps) (y := L[k + 1]) (h2 _ (List.getElem_mem _)), List.drop_eq_getElem_cons hk2]
    · rfl
    · intro z
      simp only [List.any_cons, List.any_nil, Bool.or_false]
      rw [adj_next h4 hk]
      exact ⟨fun ⟨_, e⟩ => e, fun e => ⟨hk2, e⟩⟩
  · rw [List.drop_eq_nil_of_le (by omega), List.filter_eq_nil_iff.2]
    · rfl
    · intro z _
      simp only [List.any_cons, List.any_nil, Bool.or_false]
      rw [adj_next h4 hk]
      rintro ⟨h5, _⟩
      exact hk2 h5
end Go.Proofs.Ytfmcfalghbaanaa
