/- Appends of numbers; slices.Clone of numbers; the contract of the program's Ends. -/
import Derived.Test.YtiankphkemakeaaFuncC
import Derived.Lib.SliceRun
namespace Go.Proofs.Ytiankphkemakeaa
set_option linter.unusedSimpArgs false
set_option linter.unusedVariables false
open Go.RowKit Go.Shelf

def iv (xs : List Int) : List Value := xs.map (Value.int .i64)
theorem Ints.of_own {w : World} {base e n cap : Nat} {A : Option Addr} {xs : List Int} (h : w.ownsRow base e 1 (.slice A n cap) n (iv xs)) : Ints w A n xs := by
  have hl : xs.length = n := by have := h.1; simp [iv] at this; omega
  refine ⟨hl, fun hn => ?_⟩
  rcases h.2 with ⟨_, h0⟩ | ⟨g, cap', cur, hv, _, hg, hcap, hm, hs, ht⟩
  · omega
  · cases hv
    refine ⟨g, 0, rfl, fun j hj => ?_⟩
    have := h.cells (g := g) rfl j (.int .i64 (nth xs j)) (by unfold iv; simp [nth_eq xs j (by omega), show j < xs.length by omega])
    rwa [Addr.add_lit] at this

/-- append(v, x...), v the call's own, x whatever reads as numbers. -/
theorem run_append_ints (t e : TypeId) (hu : Try.prog.underlying t = some (.slice e)) (hinf : (Try.prog.info? e).map (fun i => (i.zero, i.size, i.bytes)) = some (some (.int .i64 0), 1, 8)) (w : World) (ty base : Nat) (v : Value) (n : Nat) (xs : List Int) (hown : w.ownsRow base e 1 v n (iv xs)) (A : Option Addr) (m c : Nat) (ys : List Int) (hr : Ints w A m ys)
    (hbytes : (n + m) * 8 ≤ 140737488355328) (hbase : base ≤ w.heap.size) :
    ∃ A' cap' w', (Builtin.append_ #[t, t] ty #[v, .slice A m c]).run Try.prog w = .ok (.slice A' (n + m) cap') w' ∧ w'.ownsRow base e 1 (.slice A' (n + m) cap') (n + m) (iv (xs ++ ys)) ∧ Below base w w' := by
  obtain ⟨i, hi, hz0, hz1, hz2⟩ := info_parts hinf
  have hbl : ∀ k, v.ownBlock = some k → base ≤ k := fun k hk => (hown.lt k hk).1
  rcases Nat.eq_zero_or_pos m with hm | hm
  · subst hm
    have hy : ys = [] := List.eq_nil_of_length_eq_zero hr.1
    subst hy
    obtain ⟨A', cap', rfl⟩ := own_form hown
    cases A with
    | none =>
      refine ⟨A', cap', w, ?_, by simpa using hown, Below.refl _ _⟩
      rcases hown.2 with ⟨h1, h2⟩ | ⟨g, cap, cur, h1, _, _, hnc, _⟩
      · cases h1
        simp [Builtin.append_, run_underlying hu, sizeOf, typeInfo, hi, Builtin.lenOf, Builtin.firstCells]
      · cases h1
        simp [Builtin.append_, run_underlying hu, sizeOf, typeInfo, hi, Builtin.lenOf, Builtin.firstCells, hnc, storeCells]
    | some ad =>
      obtain ⟨v', w', h1, h2, h3, _⟩ := run_append_own (P := Try.prog) w base t ty e i _ 1 8 hu hi hz0 hz1 hz2 rfl (by decide) _ n _ hown ad 0 c [] rfl (by simp) (by simp) (by unfold maxLen; omega) hbytes hbase
      obtain ⟨A2, cap2, rfl⟩ := own_form h2
      exact ⟨A2, cap2, w', h1, by simpa using h2, below_of_grown h3 hbase hbl⟩
  · obtain ⟨b, o, rfl, _⟩ := hr.2 hm
    obtain ⟨v', w', h1, h2, h3, _⟩ := run_append_own (P := Try.prog) w base t ty e i _ 1 8 hu hi hz0 hz1 hz2 rfl (by decide) v n _ hown ⟨b, o, none⟩ m c (iv ys) (by simp [iv, hr.1]) (ints_news hr) (ints_oneCell _ _) (by unfold maxLen; omega) hbytes hbase
    obtain ⟨A2, cap2, rfl⟩ := own_form h2
    exact ⟨A2, cap2, w', h1, by unfold iv; rw [List.map_append]; exact h2, below_of_grown h3 hbase hbl⟩

theorem wpList_append_ints {ops : Array Oper} {rest : List Oper} {o : Oper} {a : Act} {w : World} {Q : Exit → Act → World → Prop} (hgd : o.guard = none) (s x : Operand) (t e : TypeId)
    (ho : o.op = .call { callee := .builtin .append, args := #[s, x], argTypes := #[t, t] }) (hu : Try.prog.underlying t = some (.slice e)) (hinf : (Try.prog.info? e).map (fun i => (i.zero, i.size, i.bytes)) = some (some (.int .i64 0), 1, 8))
    (base : Nat) (v : Value) (n : Nat) (xs : List Int) (hs : a.eval s = v) (hown : w.ownsRow base e 1 v n (iv xs)) (A : Option Addr) (m c : Nat) (ys : List Int) (hx : a.eval x = .slice A m c) (hr : Ints w A m ys)
    (hbytes : (n + m) * 8 ≤ 140737488355328) (hbase : base ≤ w.heap.size)
    (h : ∀ A' cap' w', w'.ownsRow base e 1 (.slice A' (n + m) cap') (n + m) (iv (xs ++ ys)) → Below base w w' → wpList Try.prog ops Q rest (a.put o.dst (.slice A' (n + m) cap')) w') : wpList Try.prog ops Q (o :: rest) a w := by
  refine wpList_plain hgd fun K hK => ?_
  obtain ⟨A', cap', w', h1, h2, h3⟩ := run_append_ints t e hu hinf w o.type base v n xs hown A m c ys hr hbytes hbase
  unfold Oper.wp execOp
  simp only [ho, resolve, invoke, builtin, Sem.run_bind, Sem.run_pure, Result.andThen_ok, List.map_toArray, List.map_cons, List.map_nil, hs, hx, h1]
  exact hK _ _ (h A' cap' w' h2 h3)

set_option maxHeartbeats 400000 in
theorem clone68 (A : Option Addr) (n cap : Nat) (xs : List Int) (w : World) (h : Ints w A n xs) (hn : n ≤ 1000000) :
    Calls Try.prog 68 #[.slice A n cap] w fun e w' => ∃ A' cap', e = .returned (.slice A' n cap') ∧ Ints w' A' n xs ∧ Below w.heap.size w w' := by
  have q25 : ∀ (w : World) (a : Option Addr) (n c n' c' : Nat), (binOp .eql 25 (.slice a n c) (.slice none n' c')).run Try.prog w = .ok (.bool a.isNone) w := fun w a n c n' c' => Lib.run_eql_slice_nil w _ _ a n c n' c' Try.underlying25
  cases A with
  | none =>
    have hn0 : n = 0 := by
      rcases Nat.eq_zero_or_pos n with h0 | h0
      · exact h0
      · obtain ⟨b, o, e, _⟩ := h.2 h0
        cases e
    subst hn0
    have Hh := Lib.hid h
    clear h
    go_enter Try.func68, Try.ntmps68
    go_wp2
    go_ret
    exact ⟨none, 0, rfl, Hh.out, Below.refl _ _⟩
  | some a =>
    have hown0 : (w.alloc (.cells #[] 2)).ownsRow w.heap.size 2 1 (.slice (some ⟨w.heap.size, 0, none⟩) 0 0) 0 (iv []) := ⟨rfl, .inr ⟨w.heap.size, 0, #[], rfl, Nat.le_refl _, heap_alloc_new w _, Nat.le_refl _, by unfold maxLen; omega, rfl, rfl⟩⟩
    have Hown0 := Lib.hid hown0
    have HB0 := Lib.hid ((Below.refl w.heap.size w).alloc (Nat.le_refl _) (.cells #[] 2))
    have H0 := Lib.hid (h.below HB0.out (Nat.le_refl _))
    clear hown0 h
    go_enter Try.func68, Try.ntmps68
    go_wp2_with (at_builtin; refine wpList_append_ints rfl (.tmp 5) (.tmp 6) 25 2 rfl Try.underlying25 Try.info2 w.heap.size _ 0 [] rfl Hown0.out (some a) n cap xs rfl H0.out (by omega) (by simp) ?_; intro A1 cap1 w1 hown1 hb1)
    have Hown1 := Lib.hid hown1
    go_ret
    exact ⟨A1, cap1, by simp, by have := Ints.of_own Hown1.out; simpa using this, HB0.out.trans hb1⟩
end Go.Proofs.Ytiankphkemakeaa
