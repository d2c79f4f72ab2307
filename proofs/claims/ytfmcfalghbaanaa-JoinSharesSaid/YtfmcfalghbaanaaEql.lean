/- Stage 2: two steps compared. -/
import Derived.Test.YtfmcfalghbaanaaTop
import Derived.Test.YtfmcfalghbaanaaJT2
import Derived.Test.YtfmcfalghbaanaaJoinR
namespace Go.Proofs.Ytfmcfalghbaanaa
set_option linter.unusedSimpArgs false
set_option linter.unusedVariables false
open Go.RowKit Go.Shelf

def chainT (T : Nat → Nat → Bool) : List Nat → Prop
  | a :: b :: l => T a b = true ∧ chainT T (b :: l)
  | _ => True
theorem way_iff (T : Nat → Nat → Bool) (cs : List Nat) (l : List Nat) (a : Sta) : IsWay T cs a l ↔ (∀ s ∈ l, s ∈ cs) ∧ (∀ s ∈ l, a.pcs.testBit (s / 2) = false) ∧ (l.map (· / 2)).Nodup ∧ (a.pcs ≠ 0 → ∀ s, l.head? = some s → T a.last s = true) ∧ chainT T l := by
  induction l generalizing a with
  | nil => simp [IsWay, chainT]
  | cons s l ih =>
    show s ∈ cs ∧ can T a s = true ∧ IsWay T cs (goS a s) l ↔ _
    rw [ih (goS a s)]
    have hc : can T a s = true ↔ a.pcs.testBit (s / 2) = false ∧ (a.pcs ≠ 0 → T a.last s = true) := by
      unfold can
      simp only [Bool.and_eq_true, Bool.not_eq_true', Bool.or_eq_true, decide_eq_true_eq]
      constructor
      · rintro ⟨h1, h2⟩; exact ⟨h1, fun h => h2.resolve_left h⟩
      · rintro ⟨h1, h2⟩
        refine ⟨h1, ?_⟩
        by_cases h : a.pcs = 0
        · exact .inl h
        · exact .inr (h2 h)
    rw [hc]
    have hb : ∀ x, (goS a s).pcs.testBit (x / 2) = false ↔ a.pcs.testBit (x / 2) = false ∧ s / 2 ≠ x / 2 := by
      intro x
      rw [go_bit]
      simp
    have hch : chainT T (s :: l) ↔ (∀ t, l.head? = some t → T s t = true) ∧ chainT T l := by
      cases l with
      | nil => simp [chainT]
      | cons t l => simp [chainT]
    rw [hch]
    simp only [hb, List.mem_cons, forall_eq_or_imp, List.map_cons, List.nodup_cons, List.mem_map, not_exists, not_and, List.head?_cons, Option.some.injEq, forall_eq', ne_eq]
    have hg := go_ne a s
    have hl : (goS a s).last = s := rfl
    simp only [hg, hl, not_false_eq_true, true_implies]
    constructor
    · rintro ⟨h1, ⟨h2, h3⟩, h4, h5, h6, h7, h8⟩
      exact ⟨⟨h1, h4⟩, ⟨h2, fun x hx => (h5 x hx).1⟩, ⟨fun x hx e => (h5 x hx).2 e.symm, h6⟩, h3, h7, h8⟩
    · rintro ⟨⟨h1, h4⟩, ⟨h2, h5⟩, ⟨h9, h6⟩, h3, h7, h8⟩
      exact ⟨h1, ⟨h2, h3⟩, h4, fun x hx => ⟨h5 x hx, fun e => h9 x hx e.symm⟩, h6, h7, h8⟩
/-- A step's code. -/
def codeS (s : St) : Nat := if s.turned then 2 * s.p.toNat + 1 else 2 * s.p.toNat
theorem stC_codeS {ps : List Pc} {s : St} (h : stepB ps s = true) : stC (codeS s) = s := by
  obtain ⟨p, t⟩ := s
  obtain ⟨k, rfl⟩ := Int.eq_ofNat_of_zero_le (step_facts h).1
  unfold codeS
  simp only [Int.toNat_natCast]
  exact stC_code k t
theorem codeS_mem {ps : List Pc} {s : St} (h : stepB ps s = true) : codeS s ∈ codesL ps := by
  obtain ⟨p, t⟩ := s
  obtain ⟨k, rfl⟩ := Int.eq_ofNat_of_zero_le (step_facts h).1
  unfold codeS
  simp only [Int.toNat_natCast]
  exact mem_codes h
theorem step_of_code {ps : List Pc} {x : Nat} (h : x ∈ codesL ps) : stepB ps (stC x) = true := by
  obtain ⟨i, hi, h⟩ := List.mem_flatMap.1 h
  have hi := List.mem_range.1 hi
  unfold stepB stC
  simp only [Int.toNat_natCast, Bool.and_eq_true, decide_eq_true_eq, Bool.or_eq_true, Bool.not_eq_true', decide_eq_false_iff_not]
  split at h
  · rename_i hl
    simp only [List.mem_cons, List.not_mem_nil, or_false] at h
    rcases h with rfl | rfl
    · refine ⟨⟨by omega, by omega⟩, .inl (by omega)⟩
    · refine ⟨⟨by omega, by omega⟩, .inr ?_⟩
      rw [show (2 * i + 1) / 2 = i by omega]; exact hl
  · simp only [List.mem_singleton] at h
    subst h
    refine ⟨⟨by omega, by omega⟩, .inl (by omega)⟩
theorem tab_codes {c : Cy} {x y : Nat} (hx : x ∈ codesL c.ps) (hy : y ∈ codesL c.ps) : tabOf c x y = fitsB c (stC x) (stC y) := by
  unfold tabOf fitC
  rw [decide_eq_true hx, decide_eq_true hy]
  rfl
theorem sAt_map {l : List Nat} {k : Nat} (h : k < l.length) : sAt (l.map stC) k = stC l[k] := by
  rw [sAt_get (by simpa using h)]; simp
theorem chain_iff {c : Cy} (l : List Nat) (h : ∀ s ∈ l, s ∈ codesL c.ps) : chainT (tabOf c) l ↔ fitAll c (l.map stC) (l.length - 1) = true := by
  have key : chainT (tabOf c) l ↔ ∀ i, (hi : i + 1 < l.length) → tabOf c l[i] l[i + 1] = true := by
    clear h
    induction l with
    | nil => simp [chainT]
    | cons a l ih =>
      cases l with
      | nil => simp [chainT]
      | cons b l =>
        show tabOf c a b = true ∧ chainT (tabOf c) (b :: l) ↔ _
        rw [ih]
        constructor
        · rintro ⟨h1, h2⟩ i hi
          cases i with
          | zero => exact h1
          | succ i => exact h2 i (by simpa using hi)
        · intro h1
          exact ⟨h1 0 (by simp), fun i hi => h1 (i + 1) (by simpa using hi)⟩
  rw [key]
  unfold fitAll
  rw [List.all_eq_true]
  constructor
  · intro h1 i hi
    have hi := List.mem_range.1 hi
    rw [sAt_map (by omega), sAt_map (by omega), ← tab_codes (h _ (List.getElem_mem _)) (h _ (List.getElem_mem _))]
    exact h1 i (by omega)
  · intro h1 i hi
    have h2 := h1 i (List.mem_range.2 (by omega))
    rwa [sAt_map (by omega), sAt_map (by omega), ← tab_codes (h _ (List.getElem_mem _)) (h _ (List.getElem_mem _))] at h2
theorem p_map (l : List Nat) : ((l.map stC).map St.p).Nodup ↔ (l.map (· / 2)).Nodup := by
  rw [List.map_map]
  have : (St.p ∘ stC) = fun x => (((x / 2 : Nat)) : Int) := by funext x; rfl
  rw [this]
  unfold List.Nodup
  rw [List.pairwise_map, List.pairwise_map]
  simp only [ne_eq, Int.ofNat_inj]
/-- A join's steps are taken. -/
theorem ckJoin_of {c : Cy} {l : List Nat} (hc : chkC c = 0) (h : l ∈ joins (tabOf c) (codesL c.ps) c.ps.length) : ckJoin c (l.map stC) = 0 := by
  obtain ⟨h1, h2⟩ := (mem_ways _ _ _ _ _).1 h
  obtain ⟨h3, _, h4, _, h5⟩ := (way_iff _ _ _ _).1 h2
  refine ckJoin_ok hc (by simpa using h1) ?_ ((p_map l).2 h4) ?_
  · rw [List.all_map, List.all_eq_true]
    exact fun s hs => step_of_code (h3 s hs)
  · rw [List.length_map]; exact (chain_iff l h3).1 h5
/-- What CheckJoin takes is a join. -/
theorem join_of_ck {c : Cy} {ss : List St} (h : ckJoin c ss = 0) : chkC c = 0 ∧ ∃ l, ss = l.map stC ∧ l ∈ joins (tabOf c) (codesL c.ps) c.ps.length := by
  unfold ckJoin at h
  split at h
  · rename_i h1; exact absurd h h1
  rename_i h1
  split at h
  · cases h
  rename_i h2
  split at h
  · cases h
  rename_i h3
  split at h
  · cases h
  rename_i h4
  split at h
  · cases h
  rename_i h5
  have h1 : chkC c = 0 := by simpa using h1
  have h2 : ss.length = c.ps.length := by simpa using h2
  have h3 : ∀ s ∈ ss, stepB c.ps s = true := List.all_eq_true.1 (by simpa using h3)
  have h4 : (ss.map St.p).Nodup := Decidable.not_not.1 h4
  have h5 : fitAll c ss (ss.length - 1) = true := by simpa using h5
  have e : ss = (ss.map codeS).map stC := by
    rw [List.map_map]
    conv => lhs; rw [← List.map_id ss]
    exact List.map_congr_left (fun s hs => (stC_codeS (h3 s hs)).symm)
  have hm : ∀ s ∈ ss.map codeS, s ∈ codesL c.ps := fun s hs => by
    obtain ⟨t, ht, rfl⟩ := List.mem_map.1 hs
    exact codeS_mem (h3 t ht)
  refine ⟨h1, ss.map codeS, e, (mem_ways _ _ _ _ _).2 ⟨by simpa using h2, (way_iff _ _ _ _).2 ⟨hm, fun s hs => by simp, ?_, fun h => absurd rfl h, ?_⟩⟩⟩
  · rw [e] at h4; exact (p_map _).1 h4
  · refine (chain_iff _ hm).2 ?_
    rw [← e, List.length_map]; exact h5
end Go.Proofs.Ytfmcfalghbaanaa

namespace Go.Proofs.Ytfmcfalghbaanaa
set_option linter.unusedSimpArgs false
set_option linter.unusedVariables false
open Go.RowKit Go.Shelf
attribute [local go_sem] Oper.semAt_some
def runE (P : Program) (t : TypeId) (x y : Value) (W : World) : Result Next :=
  (execOp (fun o => match o with | .tmp 0 => x | _ => y) { dst := none, op := Op.binOp BinOp.eql t (.tmp 0) (.tmp 1) t, type := 0, pos := "", after := #[], guard := none }).run P W
theorem exec_eql28 (ρ : Operand → Value) (d : Option Tmp) (i j : Tmp) (ty : TypeId) (pos : String) (af : Array Edge) (g : Option (Nat × Bool)) (W : World) :
    (execOp ρ { dst := d, op := Op.binOp BinOp.eql 28 (.tmp i) (.tmp j) 28, type := ty, pos := pos, after := af, guard := g }).run Try.prog W = runE Try.prog 28 (ρ (.tmp i)) (ρ (.tmp j)) W := rfl
theorem at_eql28 (r : Option Nat) (ρ : Operand → Value) (d : Option Tmp) (i j : Tmp) (ty : TypeId) (pos : String) (af : Array Edge) (g : Option (Nat × Bool)) (W : World) :
    (Oper.semAt r ρ { dst := d, op := Op.binOp BinOp.eql 28 (.tmp i) (.tmp j) 28, type := ty, pos := pos, after := af, guard := g }).run Try.prog W = runE Try.prog 28 (ρ (.tmp i)) (ρ (.tmp j)) W := by
  rw [at_plain _ _ _ (fun c => by simp)]; exact exec_eql28 ρ d i j ty pos af g W
theorem run_eql28 (p q : Int) (t u : Bool) (W : World) : runE Try.prog 28 (.agg #[.int .i64 p, .bool t]) (.agg #[.int .i64 q, .bool u]) W = .ok (.value (.bool (decide (p = q) && decide (t = u)))) W := by
  unfold runE
  by_cases h1 : p = q
  · by_cases h2 : t = u
    · subst h1 h2; go_simp
    · subst h1
      have h3 : decide (t = u) = false := decide_eq_false h2
      rw [h3]
      have h4 : (t == u) = false := by simpa using h2
      go_simp
  · have h3 : decide (p = q) = false := decide_eq_false h1
    rw [h3]
    have h4 : (p == q) = false := by simpa using h1
    go_simp
/-- By codes. -/
theorem run_eqlC {p q x y : Nat} {t u : Bool} (hx : x = if t then 2 * p + 1 else 2 * p) (hy : y = if u then 2 * q + 1 else 2 * q) (W : World) : runE Try.prog 28 (.agg #[.int .i64 (p : Int), .bool t]) (.agg #[.int .i64 (q : Int), .bool u]) W = .ok (.value (.bool (decide (x = y)))) W := by
  rw [run_eql28]
  congr 3
  subst hx hy
  cases t <;> cases u <;> simp <;> omega
end Go.Proofs.Ytfmcfalghbaanaa
