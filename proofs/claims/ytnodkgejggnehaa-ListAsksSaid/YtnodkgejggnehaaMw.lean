/- Stage 5: a sheet without a link, with new names: the mathematics. -/
import Derived.Test.YtnodkgejggnehaaMn
import Derived.Test.YtnodkgejggnehaaWo
namespace Go.Proofs.Ytnodkgejggnehaa
set_option linter.unusedSimpArgs false
set_option linter.unusedVariables false
open Go.RowKit Go.Shelf
/-- The old name of a link. -/
def oldN (k j : Nat) : Nat := if j < k then j else j + 1
theorem range_old (k : Nat) : ∀ n, ((List.range n).filter fun j => j != k) = (List.range (if k < n then n - 1 else n)).map (oldN k)
  | 0 => rfl
  | n + 1 => by
    rw [List.range_succ, List.filter_append, range_old k n]
    rcases (by omega : n < k ∨ n = k ∨ k < n) with h | h | h
    · rw [if_neg (by omega), if_neg (by omega), List.filter_cons, if_pos (by simp; omega), List.range_succ, List.map_append]
      simp [oldN, h]
    · subst h
      rw [if_neg (by omega), if_pos (by omega), List.filter_cons, if_neg (by simp)]
      simp
    · rw [if_pos h, if_pos (by omega), List.filter_cons, if_pos (by simp; omega)]
      obtain ⟨m, rfl⟩ : ∃ m, n = m + 1 := ⟨n - 1, by omega⟩
      rw [show m + 1 + 1 - 1 = m + 1 by omega, show m + 1 - 1 = m by omega, List.range_succ, List.map_append]
      have : ¬ m < k := by omega
      simp [oldN, this]
theorem wzP_eq {k n : Nat} (zs : List Rg) (hk : k < n) : wzP k zs n = (List.range (n - 1)).map fun j => gAt zs (oldN k j) := by
  unfold wzP
  rw [range_old, if_pos hk, List.map_map]; rfl
theorem wzP_lenE {k n : Nat} (zs : List Rg) (hk : k < n) : (wzP k zs n).length = n - 1 := by rw [wzP_eq zs hk]; simp
theorem wzP_at {k n j : Nat} (zs : List Rg) (hk : k < n) (hj : j < n - 1) : gAt (wzP k zs n) j = gAt zs (oldN k j) := by
  rw [gAt_eq (by rw [wzP_lenE zs hk]; exact hj)]
  simp only [wzP_eq zs hk, List.getElem_map, List.getElem_range]
theorem oldN_lt {k n j : Nat} (hj : j < n - 1) : oldN k j < n := by unfold oldN; split <;> omega
theorem wz_end {k n j l : Nat} (zs : List Rg) (hk : k < n) (hj : j < n - 1) : eN (wzP k zs n) l j = eN zs l (oldN k j) := by
  unfold eN endI; rw [wzP_at zs hk hj]
theorem wkP_eq (k : Nat) (ks : List Int) : wkP k ks ks.length = ks.map fun x => if (k : Int) < x then x - 1 else x := by
  refine List.ext_getElem (by simp [wkP]) (fun i h1 h2 => ?_)
  have hi : i < ks.length := by simpa using h2
  simp only [wkP, List.getElem_map, List.getElem_range, iAt_eq hi]
theorem mm_congr {α : Type} {r r' : α → α → Bool} : ∀ (f : Nat) (L : List α), (∀ a ∈ L, ∀ b ∈ L, r a b = r' a b) → mmF r f L = mmF r' f L
  | 0, _, _ => rfl
  | _ + 1, [], _ => rfl
  | f + 1, k :: L, h => by
    show max (mmF r f L) (1 + mmF r f (L.filter fun j => !r k j)) = max (mmF r' f L) (1 + mmF r' f (L.filter fun j => !r' k j))
    have e : (L.filter fun j => !r k j) = L.filter fun j => !r' k j := List.filter_congr (fun j hj => by rw [h k List.mem_cons_self j (List.mem_cons_of_mem _ hj)])
    rw [mm_congr f L (fun a ha b hb => h a (List.mem_cons_of_mem _ ha) b (List.mem_cons_of_mem _ hb)), e,
      mm_congr f (L.filter fun j => !r' k j) (fun a ha b hb => h a (List.mem_cons_of_mem _ (List.mem_filter.1 ha).1) b (List.mem_cons_of_mem _ (List.mem_filter.1 hb).1))]
/-- What is taken stays taken. -/
theorem wz_tk {n : Nat} {zs : List Rg} {ks : List Int} (hnm : NmOk n ks) {k j : Nat} (hk : k < n) (hin : (k : Int) ∉ ks) (hj : j < n - 1) : tkB (wzP k zs n) (wkP k ks ks.length) j = tkB zs ks (oldN k j) := by
  unfold tkB
  rw [wkP_eq, List.any_map, wzP_at zs hk hj]
  refine Bool.eq_iff_iff.2 ?_
  rw [List.any_eq_true, List.any_eq_true]
  have key : ∀ x ∈ ks, gAt (wzP k zs n) (if (k : Int) < x then x - 1 else x).toNat = gAt zs x.toNat := fun x hx => by
    obtain ⟨q, hq, rfl⟩ := hnm x hx
    have hne : q ≠ k := fun e => hin (by rw [← e]; exact hx)
    have e1 : (if (k : Int) < (q : Int) then (q : Int) - 1 else (q : Int)).toNat = if k < q then q - 1 else q := by
      by_cases h : k < q
      · rw [if_pos (by omega), if_pos h]; omega
      · rw [if_neg (by omega), if_neg h]; omega
    rw [e1, wzP_at zs hk (by split <;> omega), Int.toNat_natCast]
    congr 1
    unfold oldN
    split <;> split <;> omega
  constructor
  · rintro ⟨x, hx, h⟩
    refine ⟨x, hx, ?_⟩
    simp only [Function.comp] at h
    rw [key x hx] at h; exact h
  · rintro ⟨x, hx, h⟩
    refine ⟨x, hx, ?_⟩
    simp only [Function.comp]
    rw [key x hx]; exact h
/-- A joining of the sheet without a link is one of the board without it. -/
theorem wz_mm {n : Nat} {zs : List Rg} {ks : List Int} (hnm : NmOk n ks) {k : Nat} (hk : k < n) (hin : (k : Int) ∉ ks) :
    mm (mtB (wzP k zs n)) (opL (n - 1) (opnL (n - 1) (wzP k zs n) (wkP k ks ks.length))) = mm (mtB zs) (opL n (opX (opnL n zs ks) [(k : Int)])) := by
  have hL : (opL (n - 1) (opnL (n - 1) (wzP k zs n) (wkP k ks ks.length))).map (oldN k) = opL n (opX (opnL n zs ks) [(k : Int)]) := by
    have e1 : opL (n - 1) (opnL (n - 1) (wzP k zs n) (wkP k ks ks.length)) = (List.range (n - 1)).filter (opX (opnL n zs ks) [(k : Int)] ∘ oldN k) := by
      unfold opL
      refine List.filter_congr (fun j hj => ?_)
      have hj2 := List.mem_range.1 hj
      have h3 := oldN_lt (k := k) hj2
      unfold opX opnL
      simp only [Function.comp]
      rw [decide_eq_true hj2, decide_eq_true h3, wz_tk hnm hk hin hj2]
      have hne : oldN k j ≠ k := by unfold oldN; split <;> omega
      have : ¬ ((oldN k j : Nat) : Int) ∈ [(k : Int)] := by simp; omega
      rw [decide_eq_false this]; simp
    have e3 := range_old k n
    rw [if_pos hk] at e3
    rw [e1, ← List.filter_map, ← e3, List.filter_filter]
    unfold opL
    refine List.filter_congr (fun j hj => ?_)
    unfold opX
    by_cases e : j = k
    · subst e; simp
    · have : ¬ ((j : Int) ∈ [(k : Int)]) := by simp; omega
      rw [decide_eq_false this]; simp [e]
  have h2 := mm_map (r := mtB zs) (r' := fun a b => mtB zs (oldN k a) (oldN k b)) (g := oldN k) (fun a b => rfl) (opL (n - 1) (opnL (n - 1) (wzP k zs n) (wkP k ks ks.length)))
  rw [hL] at h2
  rw [← h2]
  unfold mm
  refine mm_congr _ _ (fun a ha b hb => ?_)
  have h3 := (mem_opL.1 ha).1
  have h4 := (mem_opL.1 hb).1
  unfold mtB
  rw [wz_end zs hk h3, wz_end zs hk h4, wz_end zs hk h3, wz_end zs hk h4]
end Go.Proofs.Ytnodkgejggnehaa
