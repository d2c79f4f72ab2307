/- Appending rules and numbers to a row of the call's own, said of lists. -/
import Derived.Test.YtiankphkemakeaaCmp
import Derived.Maps.AppendAt
namespace Go.Proofs.Ytiankphkemakeaa
set_option linter.unusedSimpArgs false
set_option linter.unusedVariables false
open Go.RowKit

def cells3 (r : R) : List Value := [.int .i64 r.f, .int .i64 r.t, .int .i64 r.m]
/-- The cells of a list of rules. -/
def flat : List R → List Value
  | [] => []
  | r :: rs => .int .i64 r.f :: .int .i64 r.t :: .int .i64 r.m :: flat rs

theorem flat_length (rs : List R) : (flat rs).length = rs.length * 3 := by
  induction rs with
  | nil => rfl
  | cons r rs ih => simp [flat, ih]; omega
theorem flat_append (xs ys : List R) : flat (xs ++ ys) = flat xs ++ flat ys := by
  induction xs with
  | nil => rfl
  | cons r rs ih => simp [flat, ih]
theorem flat_at (rs : List R) (j : Nat) (h : j < rs.length) : (flat rs)[j * 3]? = some (.int .i64 (rf rs j)) ∧ (flat rs)[j * 3 + 1]? = some (.int .i64 (rt rs j)) ∧ (flat rs)[j * 3 + 2]? = some (.int .i64 (rm rs j)) := by
  induction rs generalizing j with
  | nil => simp at h
  | cons r rs ih =>
    cases j with
    | zero => simp [flat, rf, rt, rm, rAt]
    | succ j =>
      have := ih j (by simpa using h)
      have e : (j + 1) * 3 = j * 3 + 1 + 1 + 1 := by omega
      rw [e]
      simp only [flat]
      refine ⟨?_, ?_, ?_⟩
      · simpa [rf, rAt] using this.1
      · rw [show j * 3 + 1 + 1 + 1 + 1 = (j * 3 + 1) + 1 + 1 + 1 by omega]
        simpa [rt, rAt] using this.2.1
      · rw [show j * 3 + 1 + 1 + 1 + 2 = (j * 3 + 2) + 1 + 1 + 1 by omega]
        simpa [rm, rAt] using this.2.2
theorem flat_one (rs : List R) : ∀ u ∈ flat rs, u.oneCell' = true := by
  induction rs with
  | nil => simp [flat]
  | cons r rs ih => simpa [flat, Value.oneCell'] using ih

theorem div3 (j : Nat) : ∃ q, j = q * 3 ∨ j = q * 3 + 1 ∨ j = q * 3 + 2 := ⟨j / 3, by omega⟩

theorem Rules.news {w : World} {b o n : Nat} {rs : List R} (h : Rules w (some ⟨b, o, none⟩) n rs) : ∀ j u, (flat rs)[j]? = some u → w.cell? ((⟨b, o, none⟩ : Addr).add j) = some u := by
  intro j u hu
  obtain ⟨hl, hc⟩ := h
  have hj : j < n * 3 := by
    have := (List.getElem?_eq_some_iff.1 hu).1
    rw [flat_length, hl] at this
    exact this
  obtain ⟨b', o', e, hc⟩ := hc (by omega)
  cases e
  obtain ⟨q, hq⟩ := div3 j
  have hqn : q < n := by omega
  have hf := flat_at rs q (by omega)
  obtain ⟨c0, c1, c2⟩ := hc q hqn
  rw [Addr.add_lit]
  rcases hq with rfl | rfl | rfl
  · rw [c0, ← hf.1, hu]
  · rw [← Nat.add_assoc, c1, ← hf.2.1, hu]
  · rw [← Nat.add_assoc, c2, ← hf.2.2, hu]

theorem Rules.of_own {w : World} {base n cap : Nat} {A : Option Addr} {rs : List R} (h : w.ownsRow base 68 3 (.slice A n cap) n (flat rs)) : Rules w A n rs := by
  have hl : rs.length = n := by have := h.1; rw [flat_length] at this; omega
  refine ⟨hl, fun hn => ?_⟩
  rcases h.2 with ⟨_, h0⟩ | ⟨g, cap', cur, hv, _, hg, hcap, hm, hs, ht⟩
  · omega
  · cases hv
    refine ⟨g, 0, rfl, fun j hj => ?_⟩
    have hf := flat_at rs j (by omega)
    have hc : ∀ i u, (flat rs)[i]? = some u → w.cell? ⟨g, i, none⟩ = some u := fun i u hu => by
      have := h.cells (g := g) rfl i u hu
      rwa [Addr.add_lit, Nat.zero_add] at this
    rw [Nat.zero_add]
    exact ⟨hc _ _ hf.1, hc _ _ hf.2.1, hc _ _ hf.2.2⟩

theorem Try.info68 : (Try.prog.info? 68).map (fun i => (i.zero, i.size, i.bytes)) = some (some (.agg #[.int .i64 0, .int .i64 0, .int .i64 0]), 3, 24) := by kernel_rfl
theorem Try.info3 : (Try.prog.info? 3).map (fun i => (i.zero, i.size, i.bytes)) = some (some (.int .i64 0), 1, 8) := by kernel_rfl
theorem Try.info2 : (Try.prog.info? 2).map (fun i => (i.zero, i.size, i.bytes)) = some (some (.int .i64 0), 1, 8) := by kernel_rfl

theorem own_form {w : World} {base n : Nat} {v : Value} {e : TypeId} {s : Nat} {xs : List Value} (h : w.ownsRow base e s v n xs) : ∃ A cap, v = .slice A n cap := by
  rcases h.2 with ⟨rfl, rfl⟩ | ⟨g, cap, cur, rfl, _⟩
  · exact ⟨none, 0, rfl⟩
  · exact ⟨_, _, rfl⟩

theorem below_of_grown {w w' : World} {base : Nat} {row : Option Nat} (hg : w.grownBy w' row) (hb : base ≤ w.heap.size) (hr : ∀ k, row = some k → base ≤ k) : Below base w w' :=
  (Below.refl base w).grown hg hb hr

/-- append(v, x...), v the call's own, x whatever reads as rules. -/
theorem run_append_rules (w : World) (ty base : Nat) (v : Value) (n : Nat) (xs : List R) (hown : w.ownsRow base 68 3 v n (flat xs)) (A : Option Addr) (m c : Nat) (ys : List R) (hr : Rules w A m ys)
    (hbytes : (n + m) * 24 ≤ 140737488355328) (hbase : base ≤ w.heap.size) :
    ∃ A' cap' w', (Builtin.append_ #[22, 22] ty #[v, .slice A m c]).run Try.prog w = .ok (.slice A' (n + m) cap') w' ∧ w'.ownsRow base 68 3 (.slice A' (n + m) cap') (n + m) (flat (xs ++ ys)) ∧ Below base w w' := by
  obtain ⟨i, hi, hz0, hz1, hz2⟩ := info_parts Try.info68
  have hbl : ∀ k, v.ownBlock = some k → base ≤ k := fun k hk => (hown.lt k hk).1
  rcases Nat.eq_zero_or_pos m with hm | hm
  · subst hm
    have hy : ys = [] := List.eq_nil_of_length_eq_zero hr.1
    subst hy
    obtain ⟨A', cap', rfl⟩ := own_form hown
    cases A with
    | none =>
      refine ⟨A', cap', w, ?_, by simpa using hown, Below.refl _ _⟩
      rcases hown.2 with ⟨h1, h2⟩ | ⟨g, cap, cur, h1, _, _, hnc, _⟩
      · cases h1
        simp [Builtin.append_, run_underlying Try.underlying22, sizeOf, typeInfo, hi, Builtin.lenOf, Builtin.firstCells]
      · cases h1
        simp [Builtin.append_, run_underlying Try.underlying22, sizeOf, typeInfo, hi, Builtin.lenOf, Builtin.firstCells, hnc, storeCells]
    | some ad =>
      obtain ⟨v', w', h1, h2, h3, _⟩ := run_append_own (P := Try.prog) w base 22 ty 68 i _ 3 24 Try.underlying22 hi hz0 hz1 hz2 rfl (by decide) _ n _ hown ad 0 c [] rfl (by simp) (by simp) (by unfold maxLen; omega) hbytes hbase
      obtain ⟨A2, cap2, rfl⟩ := own_form h2
      exact ⟨A2, cap2, w', h1, by simpa using h2, below_of_grown h3 hbase hbl⟩
  · obtain ⟨b, o, rfl, _⟩ := hr.2 hm
    obtain ⟨v', w', h1, h2, h3, _⟩ := run_append_own (P := Try.prog) w base 22 ty 68 i _ 3 24 Try.underlying22 hi hz0 hz1 hz2 rfl (by decide) v n _ hown ⟨b, o, none⟩ m c (flat ys) (by rw [flat_length, hr.1]) hr.news (flat_one ys) (by unfold maxLen; omega) hbytes hbase
    obtain ⟨A2, cap2, rfl⟩ := own_form h2
    exact ⟨A2, cap2, w', h1, by rw [flat_append]; exact h2, below_of_grown h3 hbase hbl⟩

theorem wp_append_rules {o : Oper} {a : Act} {w : World} {K : Act → World → Prop} {Q : Exit → Act → World → Prop} (s x : Operand)
    (ho : o.op = .call { callee := .builtin .append, args := #[s, x], argTypes := #[22, 22] })
    (base : Nat) (v : Value) (n : Nat) (xs : List R) (hs : a.eval s = v) (hown : w.ownsRow base 68 3 v n (flat xs)) (A : Option Addr) (m c : Nat) (ys : List R) (hx : a.eval x = .slice A m c) (hr : Rules w A m ys)
    (hbytes : (n + m) * 24 ≤ 140737488355328) (hbase : base ≤ w.heap.size)
    (h : ∀ A' cap' w', w'.ownsRow base 68 3 (.slice A' (n + m) cap') (n + m) (flat (xs ++ ys)) → Below base w w' → K (a.put o.dst (.slice A' (n + m) cap')) w') : o.wp Try.prog a w K Q := by
  obtain ⟨A', cap', w', h1, h2, h3⟩ := run_append_rules w o.type base v n xs hown A m c ys hr hbytes hbase
  unfold Oper.wp execOp
  simp only [ho, resolve, invoke, builtin, Sem.run_bind, Sem.run_pure, Result.andThen_ok, List.map_toArray, List.map_cons, List.map_nil, hs, hx, h1]
  exact h A' cap' w' h2 h3

theorem wpList_append_rules {ops : Array Oper} {rest : List Oper} {o : Oper} {a : Act} {w : World} {Q : Exit → Act → World → Prop} (hgd : o.guard = none) (s x : Operand)
    (ho : o.op = .call { callee := .builtin .append, args := #[s, x], argTypes := #[22, 22] })
    (base : Nat) (v : Value) (n : Nat) (xs : List R) (hs : a.eval s = v) (hown : w.ownsRow base 68 3 v n (flat xs)) (A : Option Addr) (m c : Nat) (ys : List R) (hx : a.eval x = .slice A m c) (hr : Rules w A m ys)
    (hbytes : (n + m) * 24 ≤ 140737488355328) (hbase : base ≤ w.heap.size)
    (h : ∀ A' cap' w', w'.ownsRow base 68 3 (.slice A' (n + m) cap') (n + m) (flat (xs ++ ys)) → Below base w w' → wpList Try.prog ops Q rest (a.put o.dst (.slice A' (n + m) cap')) w') : wpList Try.prog ops Q (o :: rest) a w :=
  wpList_plain hgd fun _ hK => wp_append_rules s x ho base v n xs hs hown A m c ys hx hr hbytes hbase fun A' cap' w' h2 h3 => hK _ _ (h A' cap' w' h2 h3)

end Go.Proofs.Ytiankphkemakeaa
