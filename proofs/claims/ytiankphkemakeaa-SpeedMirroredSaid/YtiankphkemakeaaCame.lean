/- The map of the rules by which turns came, as a list; the plain model of spread. -/
import Derived.Test.YtiankphkemakeaaArr
import Derived.Maps.Views
namespace Go.Proofs.Ytiankphkemakeaa
set_option linter.unusedSimpArgs false
set_option linter.unusedVariables false
open Go.RowKit Go.Shelf

/-- Block M is a map that holds, at each turn t, the name c t, if that is not below 0. -/
def CameAt (W : World) (M : Nat) (c : List Int) (nn : Nat) : Prop :=
  ∃ D : DataW Unit, W.ownsMap Try.prog 3 (plainElem Try.prog 3) M nn D ∧ c.length = 21 ∧
    ∀ t : Nat, t < 21 → (nth c t < 0 → Maps.has D (.int .i64 (t : Int)) = false) ∧ (0 ≤ nth c t → Maps.has D (.int .i64 (t : Int)) = true ∧ D.atKey (.int .i64 (t : Int)) (.lit (.int .i64 0)) = .lit (.int .i64 (nth c t)))

theorem nth_set_same (c : List Int) (t : Nat) (x : Int) (h : t < c.length) : nth (c.set t x) t = x := by simp [nth, List.getD, h]
theorem nth_set_other (c : List Int) (t s : Nat) (x : Int) (h : s ≠ t) : nth (c.set t x) s = nth c s := by
  simp only [nth, List.getD, List.getElem?_set]
  rw [if_neg (by omega)]
theorem nth_replicate (n : Nat) (x : Int) (t : Nat) (h : t < n) : nth (List.replicate n x) t = x := by simp [nth, List.getD, h]

theorem CameAt.new (W : World) : CameAt (W.alloc (.map #[] 0)) W.heap.size (List.replicate 21 (-1)) 0 := by
  refine ⟨.map [], World.ownsMap_made W _ _ _, by simp, fun t ht => ⟨fun _ => rfl, fun h => ?_⟩⟩
  rw [nth_replicate _ _ _ ht] at h
  omega
theorem CameAt.kept {W W' : World} {M nn : Nat} {c : List Int} {row : Option Nat} (h : CameAt W M c nn) (hg : W.grownBy W' row) (hne : some M ≠ row) : CameAt W' M c nn := by
  obtain ⟨D, h1, h2⟩ := h
  exact ⟨D, h1.kept hg hne, h2⟩
theorem CameAt.mono {W : World} {M nn nn' : Nat} {c : List Int} (h : CameAt W M c nn) (hn : nn ≤ nn') : CameAt W M c nn' := by
  obtain ⟨D, h1, h2⟩ := h
  exact ⟨D, h1.mono hn, h2⟩
theorem CameAt.lt {W : World} {M nn : Nat} {c : List Int} (h : CameAt W M c nn) : M < W.heap.size := by
  obtain ⟨D, h1, _⟩ := h
  exact h1.lt

theorem lit_ne {a b : Int} (h : a ≠ b) : (Lit.int .i64 a) ≠ (Lit.int .i64 b) := fun e => h (by injection e)
theorem CameAt.put {W W' : World} {M nn : Nat} {c : List Int} {D : DataW Unit} (hD : Maps.IsMap D) (hl : c.length = 21)
    (h : ∀ t : Nat, t < 21 → (nth c t < 0 → Maps.has D (.int .i64 (t : Int)) = false) ∧ (0 ≤ nth c t → Maps.has D (.int .i64 (t : Int)) = true ∧ D.atKey (.int .i64 (t : Int)) (.lit (.int .i64 0)) = .lit (.int .i64 (nth c t))))
    {k : Nat} {y : Int} (hk : k < 21) (hy : 0 ≤ y) (h' : W'.ownsMap Try.prog 3 (plainElem Try.prog 3) M nn (D.put (.int .i64 (k : Int)) (.lit (.int .i64 y)))) : CameAt W' M (c.set k y) nn := by
  refine ⟨_, h', by rw [List.length_set]; exact hl, fun t ht => ?_⟩
  by_cases e : t = k
  · subst e
    rw [nth_set_same _ _ _ (by omega)]
    exact ⟨fun hn => absurd hn (by omega), fun _ => ⟨Maps.has_put_same hD (show WideAt.IsKeyLit (.int .i64 (t : Int)) from trivial) _, Maps.atKey_put_same hD (show WideAt.IsKeyLit (.int .i64 (t : Int)) from trivial) _ _⟩⟩
  · rw [nth_set_other _ _ _ _ e, Maps.has_put_other (lit_ne (by omega)), Maps.atKey_put_other (lit_ne (by omega))]
    exact h t ht
theorem CameAt.del {W' : World} {M nn : Nat} {c : List Int} {D : DataW Unit} (hl : c.length = 21)
    (h : ∀ t : Nat, t < 21 → (nth c t < 0 → Maps.has D (.int .i64 (t : Int)) = false) ∧ (0 ≤ nth c t → Maps.has D (.int .i64 (t : Int)) = true ∧ D.atKey (.int .i64 (t : Int)) (.lit (.int .i64 0)) = .lit (.int .i64 (nth c t))))
    {k : Nat} (hk : k < 21) (h' : W'.ownsMap Try.prog 3 (plainElem Try.prog 3) M nn (D.del (.int .i64 (k : Int)))) : CameAt W' M (c.set k (-1)) nn := by
  refine ⟨_, h', by rw [List.length_set]; exact hl, fun t ht => ?_⟩
  by_cases e : t = k
  · subst e
    rw [nth_set_same _ _ _ (by omega)]
    exact ⟨fun _ => Maps.has_del_same, fun hn => absurd hn (by omega)⟩
  · rw [nth_set_other _ _ _ _ e, Maps.has_del_other (lit_ne (by omega)), Maps.atKey_del_other (lit_ne (by omega))]
    exact h t ht

theorem wpListIn_came_put {F : Fence} {nF : Nat} {ops : Array Oper} {rest : List Oper} {o : Oper} {a : Act} {w : World} {Q : Exit → Act → World → Prop} (hg : o.guard = none) (m x v : Operand) (hop : o.op = Op.mapUpdate 95 m x v)
    (M nn : Nat) (c : List Int) (hm : a.eval m = .map (some M)) (hown : CameAt w M c nn) (hn : nn < 1000000) (t y : Int) (ht : 0 ≤ t ∧ t ≤ 20) (hy : 0 ≤ y ∧ y ≤ 1000000) (hx : a.eval x = .int .i64 t) (hv : a.eval v = .int .i64 y)
    (h : ∀ w', CameAt w' M (c.set t.toNat y) (nn + 1) → w.grownBy w' (some M) → wpListIn F nF Try.prog ops Q rest (a.put o.dst undef) w') : wpListIn F nF Try.prog ops Q (o :: rest) a w := by
  obtain ⟨D, h1, hl, hc⟩ := hown
  obtain ⟨k, rfl⟩ := Int.eq_ofNat_of_zero_le ht.1
  refine wpListIn_mapUpdate_own w hg m x v 95 hop 3 3 (Maps.int_keyed Try.underlying3) Try.underlying95 _ M nn D hm h1 (by unfold maxLen; omega) _ _ _ hx hv (Maps.keyOf_int_mk Try.underlying3 (WalkArith.wf_i64 (by omega))) _ [] (plainElem_int Try.underlying3 (WalkArith.wf_i64 (by omega))) ?_
  intro w' hown' hgrow
  exact h w' (CameAt.put (W := w) h1.isMap hl hc (by omega) hy.1 hown') hgrow

/-! ### The plain model of spread -/
/-- The speeds, and the rules by which they came. -/
abbrev St := List Int × List Int
/-- One rule is looked at. -/
def relax (s : St) (k : Nat) (r : R) : St :=
  if nth s.1 r.f.toNat < 1099511627776 ∧ keep s.1 r = false then (s.1.set r.t.toNat (nth s.1 r.f.toNat + r.m), s.2.set r.t.toNat (k : Int)) else s
/-- All rules are looked at, from the k-th one on. -/
def sweep (high : Bool) : Nat → List R → St → St
  | _, [], s => s
  | k, r :: ws, s => sweep high (k + 1) ws (relax s k (vw high r))
/-- At most so many rounds, until one lowers nothing. -/
def rounds (high : Bool) (ws : List R) : Nat → St → St × Bool
  | 0, s => (s, false)
  | k + 1, s => if (sweep high 0 ws s).1 = s.1 then (sweep high 0 ws s, true) else rounds high ws k (sweep high 0 ws s)
/-- The start: only one turn has been come to. -/
def start0 (x : Nat) : St := ((List.replicate 21 1099511627776).set x 0, List.replicate 21 (-1))
def spread (high : Bool) (T : Nat) (ws : List R) (x : Nat) : St × Bool := rounds high ws (T + 1) (start0 x)

/-- What comes of items. -/
def fold (s : St) (xs : List Item) : St := xs.foldl (fun s x => relax s x.1.1 x.1.2) s
theorem fold_snoc (s : St) (xs : List Item) (x : Item) : fold s (xs ++ [x]) = relax (fold s xs) x.1.1 x.1.2 := by simp [fold]
theorem sweep_take (high : Bool) (ws : List R) (s : St) (hN : ws.length ≤ 1000000) (hr : ∀ r ∈ ws, FitR r) : ∀ k, k ≤ ws.length → sweep high k (ws.drop k) (fold s (items high ws k)) = sweep high 0 ws s := by
  intro k
  induction k with
  | zero => intro _; rfl
  | succ k ih =>
    intro hk
    rw [← ih (by omega), items_succ, fold_snoc, item_val high ws k (by omega) hN hr, List.drop_eq_getElem_cons (show k < ws.length by omega), sweep, rAt_eq ws k (by omega)]
theorem fold_items (high : Bool) (ws : List R) (s : St) (hN : ws.length ≤ 1000000) (hr : ∀ r ∈ ws, FitR r) : fold s (items high ws ws.length) = sweep high 0 ws s := by
  have := sweep_take high ws s hN hr ws.length (Nat.le_refl _)
  rw [List.drop_length] at this
  exact this

/-- Speeds after so many rules: no less than so much, no more than at the start. -/
def Within (j : Nat) (s : St) : Prop := s.1.length = 21 ∧ s.2.length = 21 ∧ (∀ i, -1000000 * (j : Int) ≤ nth s.1 i ∧ nth s.1 i ≤ 1099511627776) ∧ (∀ i, -1 ≤ nth s.2 i ∧ nth s.2 i ≤ 1000000)
theorem nth_set_cases (c : List Int) (t s : Nat) (x : Int) : nth (c.set t x) s = x ∨ nth (c.set t x) s = nth c s := by
  by_cases h : s = t
  · subst h
    rcases Nat.lt_or_ge s c.length with hl | hl
    · exact .inl (nth_set_same _ _ _ hl)
    · right; rw [List.set_eq_of_length_le hl]
  · exact .inr (nth_set_other _ _ _ _ h)
theorem relax_within {j : Nat} {s : St} (h : Within j s) (k : Nat) (hk : k < 1000000) {r : R} (hr : FitR r) : Within (j + 1) (relax s k r) := by
  obtain ⟨h1, h2, h3, h4⟩ := h
  unfold FitR at hr
  unfold relax
  split
  · rename_i hc
    have hf := h3 r.f.toNat
    have hkeep := hc.2
    unfold keep at hkeep
    have hkeep := of_decide_eq_false hkeep
    have ht := h3 r.t.toNat
    refine ⟨by simp [h1], by simp [h2], fun i => ?_, fun i => ?_⟩
    · rcases nth_set_cases s.1 r.t.toNat i (nth s.1 r.f.toNat + r.m) with e | e
      · simp only [e]; omega
      · simp only [e]; have := h3 i; omega
    · rcases nth_set_cases s.2 r.t.toNat i (k : Int) with e | e
      · simp only [e]; omega
      · simp only [e]; exact h4 i
  · exact ⟨h1, h2, fun i => by have := h3 i; omega, h4⟩
theorem Within.mono {j j' : Nat} {s : St} (h : Within j s) (hj : j ≤ j') : Within j' s := ⟨h.1, h.2.1, fun i => by have := h.2.2.1 i; omega, h.2.2.2⟩
theorem fold_within (xs : List Item) : ∀ {j : Nat} {s : St}, Within j s → Within (j + xs.length) (fold s xs) := by
  induction xs with
  | nil => intro j s h; exact h
  | cons x xs ih =>
    intro j s h
    have := ih (relax_within h x.1.1 x.2.1 x.2.2)
    simp only [List.length_cons]
    rw [show j + (xs.length + 1) = j + 1 + xs.length by omega]
    exact this
theorem nth_default (c : List Int) (i : Nat) (h : c.length ≤ i) : nth c i = 0 := by simp [nth, List.getD, List.getElem?_eq_none h]
theorem start_within (x : Nat) : Within 0 (start0 x) := by
  refine ⟨by simp [start0], by simp [start0], fun i => ?_, fun i => ?_⟩
  · rcases Nat.lt_or_ge i 21 with h | h
    · unfold start0
      simp only
      rcases nth_set_cases (List.replicate 21 1099511627776) x i 0 with e | e
      · rw [e]; omega
      · rw [e, nth_replicate _ _ _ h]; omega
    · rw [nth_default _ _ (by simp [start0]; omega)]; omega
  · rcases Nat.lt_or_ge i 21 with h | h
    · unfold start0
      simp only
      rw [nth_replicate _ _ _ h]; omega
    · rw [nth_default _ _ (by simp [start0]; omega)]; omega
end Go.Proofs.Ytiankphkemakeaa
