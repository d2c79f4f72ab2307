/- The document's Far as a function on tables, and what it says of speeds. Plain mathematics. -/
import Derived.Test.YtiankphkemakeaaFuncA
namespace Go.Proofs.Ytiankphkemakeaa
set_option linter.unusedSimpArgs false
set_option linter.unusedVariables false

/-- A table of numbers. -/
abbrev Tab := Nat → Nat → Int
def upd (d : Tab) (i k : Nat) (x : Int) : Tab := fun a b => if a = i ∧ b = k then x else d a b
theorem upd_same (d : Tab) (i k : Nat) (x : Int) : upd d i k x i k = x := by simp [upd]
theorem upd_other (d : Tab) (i k : Nat) (x : Int) {a b : Nat} (h : ¬ (a = i ∧ b = k)) : upd d i k x a b = d a b := by simp [upd, h]
/-- The number for 'no way yet'. -/
def big : Int := 1099511627776
def tab0 : Tab := fun a b => if a = b then 0 else big
/-- One rule is written down. -/
def tabR (d : Tab) (r : R) : Tab := upd d r.f.toNat r.t.toNat (min (d r.f.toNat r.t.toNat) r.m)
def tabRs (ws : List R) : Tab := ws.foldl tabR tab0
/-- One look over a turn in between. -/
def stp (m i k : Nat) (d : Tab) : Tab := if d i m < big ∧ d m k < big then upd d i k (max (-big) (min (d i k) (d i m + d m k))) else d
def cols (m i : Nat) (d : Tab) : Nat → Tab
  | 0 => d
  | k + 1 => stp m i k (cols m i d k)
def rows (N m : Nat) (d : Tab) : Nat → Tab
  | 0 => d
  | i + 1 => cols m i (rows N m d i) N
def stg (N : Nat) (d : Tab) : Nat → Tab
  | 0 => d
  | m + 1 => rows N m (stg N d m) N
/-- What Far returns. -/
def farM (T : Nat) (rs : List R) : Tab := stg (T + 1) (tabRs (whole T rs)) (T + 1)

/-! ### Within bounds -/
def Bd (d : Tab) : Prop := ∀ a b, -big ≤ d a b ∧ d a b ≤ big
theorem Bd.upd {d : Tab} (h : Bd d) {i k : Nat} {x : Int} (h1 : -big ≤ x) (h2 : x ≤ big) : Bd (upd d i k x) := fun a b => by
  unfold Ytiankphkemakeaa.upd; split
  · exact ⟨h1, h2⟩
  · exact h a b
theorem bd_tab0 : Bd tab0 := fun a b => by unfold tab0 big; split <;> omega
theorem Bd.tabR {d : Tab} (h : Bd d) {r : R} (hr : -big ≤ r.m) : Bd (tabR d r) := by
  have := h r.f.toNat r.t.toNat
  exact h.upd (by omega) (by omega)
theorem bd_foldl : ∀ (ws : List R) (d : Tab), Bd d → (∀ r ∈ ws, -big ≤ r.m) → Bd (ws.foldl tabR d)
  | [], _, h, _ => h
  | r :: ws, d, h, hw => bd_foldl ws (tabR d r) (h.tabR (hw r (List.mem_cons_self ..))) (fun x hx => hw x (List.mem_cons_of_mem _ hx))
theorem Bd.stp {d : Tab} (h : Bd d) (m i k : Nat) : Bd (stp m i k d) := by
  unfold Ytiankphkemakeaa.stp
  split
  · have := h i k
    have : -big ≤ big := by unfold big; omega
    exact h.upd (by omega) (by omega)
  · exact h
theorem Bd.cols {d : Tab} (h : Bd d) (m i : Nat) : ∀ k, Bd (cols m i d k)
  | 0 => h
  | k + 1 => (h.cols m i k).stp m i k
theorem Bd.rows {d : Tab} (h : Bd d) (N m : Nat) : ∀ i, Bd (rows N m d i)
  | 0 => h
  | i + 1 => (h.rows N m i).cols m i N
theorem Bd.stg {d : Tab} (h : Bd d) (N : Nat) : ∀ m, Bd (stg N d m)
  | 0 => h
  | m + 1 => (h.stg N m).rows N m N

/-! ### What holds of all tables on the way -/
theorem ind_cols {P : Tab → Prop} (hs : ∀ d m i k, P d → P (stp m i k d)) {d : Tab} (h : P d) (m i : Nat) : ∀ k, P (cols m i d k)
  | 0 => h
  | k + 1 => hs _ _ _ _ (ind_cols hs h m i k)
theorem ind_rows {P : Tab → Prop} (hs : ∀ d m i k, P d → P (stp m i k d)) {d : Tab} (h : P d) (N m : Nat) : ∀ i, P (rows N m d i)
  | 0 => h
  | i + 1 => ind_cols hs (ind_rows hs h N m i) m i N
theorem ind_stg {P : Tab → Prop} (hs : ∀ d m i k, P d → P (stp m i k d)) {d : Tab} (h : P d) (N : Nat) : ∀ m, P (stg N d m)
  | 0 => h
  | m + 1 => ind_rows hs (ind_stg hs h N m) N m N

/-- Speeds that keep all rules. -/
def Feas (E : List R) (q : Nat → Int) : Prop := ∀ r ∈ E, q r.t.toNat ≤ q r.f.toNat + r.m
/-- No entry is below what speeds differ by. -/
def Abv (q : Nat → Int) (d : Tab) : Prop := ∀ a b, d a b = big ∨ q b - q a ≤ d a b
theorem abv_stp (q : Nat → Int) (d : Tab) (m i k : Nat) (h : Abv q d) : Abv q (stp m i k d) := by
  unfold stp
  split
  · rename_i hh
    intro a b
    unfold upd
    split
    · rename_i hab
      obtain ⟨rfl, rfl⟩ := hab
      have h1 := h a b
      have h2 := h a m
      have h3 := h m b
      have hbig : big = 1099511627776 := rfl
      by_cases hv : max (-big) (min (d a b) (d a m + d m b)) = big
      · exact .inl hv
      · right
        rcases h1 with h1 | h1 <;> rcases h2 with h2 | h2 <;> rcases h3 with h3 | h3 <;> omega
    · exact h a b
  · exact h
theorem abv_tab0 (q : Nat → Int) : Abv q tab0 := fun a b => by
  unfold tab0
  split
  · rename_i h; subst h; right; omega
  · left; rfl
theorem abv_tabR (q : Nat → Int) (d : Tab) (r : R) (h : Abv q d) (hr : q r.t.toNat ≤ q r.f.toNat + r.m) : Abv q (tabR d r) := by
  intro a b
  unfold tabR upd
  split
  · rename_i hab
    obtain ⟨rfl, rfl⟩ := hab
    rcases h r.f.toNat r.t.toNat with h1 | h1
    · rw [h1]
      by_cases hb : big ≤ r.m
      · left; omega
      · right; omega
    · right; omega
  · exact h a b
theorem abv_foldl (q : Nat → Int) : ∀ (ws : List R) (d : Tab), Abv q d → Feas ws q → Abv q (ws.foldl tabR d)
  | [], _, h, _ => h
  | r :: ws, d, h, hf => abv_foldl q ws (tabR d r) (abv_tabR q d r h (hf r (List.mem_cons_self ..))) (fun x hx => hf x (List.mem_cons_of_mem _ hx))
theorem abv_far {T : Nat} {rs : List R} {q : Nat → Int} (h : Feas (whole T rs) q) : Abv q (farM T rs) :=
  ind_stg (fun d m i k => abv_stp q d m i k) (abv_foldl q _ _ (abv_tab0 q) h) _ _

/-- An entry never grows. -/
theorem stp_le {d : Tab} (h : Bd d) (m i k a b : Nat) : stp m i k d a b ≤ d a b := by
  unfold stp
  split
  · unfold upd
    split
    · rename_i hab; obtain ⟨rfl, rfl⟩ := hab
      have := h a b
      omega
    · exact Int.le_refl _
  · exact Int.le_refl _
theorem cols_le {d : Tab} (h : Bd d) (m i a b : Nat) : ∀ k, cols m i d k a b ≤ d a b
  | 0 => Int.le_refl _
  | k + 1 => Int.le_trans (stp_le (h.cols m i k) m i k a b) (cols_le h m i a b k)
theorem rows_le {d : Tab} (h : Bd d) (N m a b : Nat) : ∀ i, rows N m d i a b ≤ d a b
  | 0 => Int.le_refl _
  | i + 1 => Int.le_trans (cols_le (h.rows N m i) m i a b N) (rows_le h N m a b i)
theorem stg_le {d : Tab} (h : Bd d) (N a b : Nat) : ∀ m, stg N d m a b ≤ d a b
  | 0 => Int.le_refl _
  | m + 1 => Int.le_trans (rows_le (h.stg N m) N m a b N) (stg_le h N a b m)
theorem stg_le' {d : Tab} (h : Bd d) (N a b m : Nat) : ∀ j, stg N d (m + j) a b ≤ stg N d m a b
  | 0 => Int.le_refl _
  | j + 1 => Int.le_trans (rows_le (h.stg N (m + j)) N (m + j) a b N) (stg_le' h N a b m j)

/-! ### One stage, if its turn's own entry is 0 -/
/-- What a stage makes of an entry. -/
def via (m : Nat) (d : Tab) : Tab := fun a b => if d a m < big ∧ d m b < big then max (-big) (min (d a b) (d a m + d m b)) else d a b
theorem via_col {m : Nat} {d : Tab} (h0 : d m m = 0) (hb : Bd d) (a : Nat) : via m d a m = d a m := by
  have := hb a m
  unfold via
  split
  · rw [h0]; omega
  · rfl
theorem via_row {m : Nat} {d : Tab} (h0 : d m m = 0) (hb : Bd d) (b : Nat) : via m d m b = d m b := by
  have := hb m b
  unfold via
  split
  · rw [h0]; omega
  · rfl
theorem rows_via {N m : Nat} {D : Tab} (h0 : D m m = 0) (hb : Bd D) : ∀ i a b, b < N → rows N m D i a b = if a < i then via m D a b else D a b := by
  intro i
  -- beyond N nothing is touched: the statement is carried for all entries in columns below N, and others as they were
  have key : ∀ i a b, rows N m D i a b = if a < i ∧ b < N then via m D a b else D a b := by
    intro i
    induction i with
    | zero => intro a b; simp [rows]
    | succ i ih =>
      -- the columns' lemma, for a table that is 'via' only in columns below N
      have hc : ∀ k, k ≤ N → ∀ a b, cols m i (rows N m D i) k a b = if (a < i ∧ b < N) ∨ (a = i ∧ b < k) then via m D a b else D a b := by
        intro k
        induction k with
        | zero => intro _ a b; rw [cols, ih]; simp
        | succ k ihk =>
          intro hk a b
          have ihk := ihk (by omega)
          have e1 : ∀ a, cols m i (rows N m D i) k a m = D a m := fun a => by
            rw [ihk]; split
            · exact via_col h0 hb a
            · rfl
          have e2 : ∀ b, cols m i (rows N m D i) k m b = D m b := fun b => by
            rw [ihk]; split
            · exact via_row h0 hb b
            · rfl
          have e3 : cols m i (rows N m D i) k i k = D i k := by rw [ihk, if_neg (by omega)]
          rw [cols]
          unfold stp
          rw [e1, e2]
          by_cases hab : a = i ∧ b = k
          · obtain ⟨rfl, rfl⟩ := hab
            rw [if_pos (show (a < a ∧ b < N) ∨ (a = a ∧ b < b + 1) from .inr ⟨rfl, by omega⟩)]
            unfold via
            split
            · rw [upd_same, e3]
            · exact e3
          · have e4 : (if D i m < big ∧ D m k < big then upd (cols m i (rows N m D i) k) i k (max (-big) (min (cols m i (rows N m D i) k i k) (D i m + D m k))) else cols m i (rows N m D i) k) a b = cols m i (rows N m D i) k a b := by
              split
              · exact upd_other _ _ _ _ hab
              · rfl
            rw [e4, ihk]
            by_cases hc : (a < i ∧ b < N) ∨ a = i ∧ b < k
            · rw [if_pos hc, if_pos (by omega)]
            · rw [if_neg hc, if_neg (by omega)]
      intro a b
      rw [rows, hc N (Nat.le_refl _)]
      by_cases h : a < i ∧ b < N ∨ a = i ∧ b < N
      · rw [if_pos h, if_pos (by omega)]
      · rw [if_neg h, if_neg (by omega)]
  intro a b hbN
  rw [key]
  by_cases h : a < i
  · rw [if_pos ⟨h, hbN⟩, if_pos h]
  · rw [if_neg (by omega), if_neg h]

/-! ### All stages, if no entry of the diagonal is below 0 -/
/-- How large a finite entry can be behind m stages. -/
def amp : Nat → Int
  | 0 => 100000
  | m + 1 => 2 * amp m
theorem amp_le : ∀ m, m ≤ 21 → 0 < amp m ∧ amp m ≤ 209715200000 := by
  have h0 : ∀ m, 0 < amp m := by
    intro m; induction m with
    | zero => decide
    | succ m ih => rw [amp]; omega
  have h1 : ∀ m j, amp m ≤ amp (m + j) := by
    intro m j; induction j with
    | zero => exact Int.le_refl _
    | succ j ih => have := h0 (m + j); rw [← Nat.add_assoc, amp]; omega
  intro m hm
  have := h1 m (21 - m)
  rw [show m + (21 - m) = 21 by omega] at this
  have e : amp 21 = 209715200000 := by decide
  exact ⟨h0 m, by omega⟩
theorem amp_le20 (m : Nat) (h : m ≤ 20) : 2 * amp m ≤ 209715200000 := (amp_le (m + 1) (by omega)).2
def Rng (m : Nat) (d : Tab) : Prop := ∀ a b, d a b = big ∨ (-amp m ≤ d a b ∧ d a b ≤ amp m)
def Tri (N m : Nat) (d : Tab) : Prop := ∀ j, j < m → ∀ a b, a < N → b < N → d a j < big → d j b < big → d a b ≤ d a j + d j b
theorem Rng.bd {m : Nat} (hm : m ≤ 21) {d : Tab} (h : Rng m d) : Bd d := fun a b => by
  have := amp_le m hm
  have hbig : big = 1099511627776 := rfl
  rcases h a b with h | h <;> omega

theorem via_cases {m : Nat} {d : Tab} (hm : m ≤ 20) (h : Rng m d) (a b : Nat) :
    (via m d a b = d a b ∨ (d a m < big ∧ d m b < big ∧ via m d a b = d a m + d m b)) ∧ via m d a b ≤ d a b ∧ (d a m < big → d m b < big → via m d a b ≤ d a m + d m b) := by
  have hA := amp_le20 m hm
  have hbig : big = 1099511627776 := rfl
  have h1 := h a b
  have h2 := h a m
  have h3 := h m b
  unfold via
  split
  · rename_i hh
    rcases h1 with h1 | h1 <;> rcases h2 with h2 | h2 <;> rcases h3 with h3 | h3 <;> omega
  · rename_i hh
    exact ⟨.inl rfl, Int.le_refl _, fun h h' => absurd ⟨h, h'⟩ hh⟩
/-- A table that is as behind a stage within N, and as before elsewhere. -/
theorem rng_stp {m0 : Nat} (hm0 : m0 ≤ 20) {D : Tab} (hD : Rng m0 D) (h0 : D m0 m0 = 0) (N : Nat) : Rng (m0 + 1) (rows N m0 D N) ∧ ∀ a b, a < N → b < N → rows N m0 D N a b = via m0 D a b := by
  have hb := hD.bd (by omega)
  have hin : ∀ a b, a < N → b < N → rows N m0 D N a b = via m0 D a b := fun a b ha hb' => by rw [rows_via h0 hb N a b hb', if_pos ha]
  refine ⟨fun a b => ?_, hin⟩
  have hA := amp_le20 m0 hm0
  have h1 := hD a b
  have h2 := hD a m0
  have h3 := hD m0 b
  have hv := via_cases hm0 hD a b
  have e : amp (m0 + 1) = 2 * amp m0 := rfl
  have hp := (amp_le m0 (by omega)).1
  -- outside nothing is touched
  have hout : rows N m0 D N a b = via m0 D a b ∨ rows N m0 D N a b = D a b := by
    by_cases hc : a < N ∧ b < N
    · exact .inl (hin a b hc.1 hc.2)
    · right
      have key : ∀ i, i ≤ N → rows N m0 D i a b = D a b := by
        intro i
        induction i with
        | zero => intro _; rfl
        | succ i ih =>
          intro hi
          rw [rows]
          have : ∀ k, k ≤ N → cols m0 i (rows N m0 D i) k a b = rows N m0 D i a b := by
            intro k
            induction k with
            | zero => intro _; rfl
            | succ k ihk =>
              intro hk
              rw [cols]
              unfold stp
              split
              · rw [upd_other _ _ _ _ (by omega)]; exact ihk (by omega)
              · exact ihk (by omega)
          rw [this N (Nat.le_refl _)]
          exact ih (by omega)
      exact key N (Nat.le_refl _)
  rcases hout with e2 | e2
  · rw [e2]
    rcases hv.1 with h | ⟨ha, hb2, h⟩
    · rw [h]; omega
    · rw [h]; right; omega
  · rw [e2]; omega
theorem tri_stp {N m : Nat} (hm : m ≤ 20) (hmN : m < N) {D : Tab} (hD : Rng m D) (hT : Tri N m D) (h0 : D m m = 0) : Tri N (m + 1) (rows N m D N) := by
  intro j hj a b ha hb haj hjb
  have hin := (rng_stp hm hD h0 N).2
  have hbd := hD.bd (by omega)
  by_cases hjm : j = m
  · subst hjm
    rw [hin a j ha hmN, via_col h0 hbd] at haj ⊢
    rw [hin j b hmN hb, via_row h0 hbd] at hjb ⊢
    rw [hin a b ha hb]
    exact (via_cases hm hD a b).2.2 haj hjb
  · have hjm : j < m := by omega
    rw [hin a j ha (by omega)] at haj ⊢
    rw [hin j b (by omega) hb] at hjb ⊢
    rw [hin a b ha hb]
    have va := (via_cases hm hD a j).1
    have vb := (via_cases hm hD j b).1
    have vab := (via_cases hm hD a b).2
    have hA := amp_le20 m hm
    have hbig : big = 1099511627776 := rfl
    have r1 := hD a m
    have r2 := hD m b
    have r3 := hD a j
    have r4 := hD j b
    have r5 := hD m j
    have r6 := hD j m
    rcases va with ea | ⟨a1, a2, ea⟩ <;> rcases vb with eb | ⟨b1, b2, eb⟩
    · rw [ea] at haj ⊢
      rw [eb] at hjb ⊢
      have := hT j hjm a b ha hb haj hjb
      omega
    · rw [ea] at haj ⊢
      rw [eb]
      have t1 := hT j hjm a m ha hmN haj b1
      have := vab.2 (by omega) b2
      omega
    · rw [ea]
      rw [eb] at hjb ⊢
      have t1 := hT j hjm m b hmN hb a2 hjb
      have := vab.2 a1 (by omega)
      omega
    · rw [ea, eb]
      have t1 := hT j hjm m m hmN hmN a2 b1
      rw [h0] at t1
      have := vab.2 a1 b2
      omega

theorem rng_tabR {d : Tab} (h : Rng 0 d) {r : R} (hr : -100000 ≤ r.m ∧ r.m ≤ 100000) : Rng 0 (tabR d r) := by
  intro a b
  have e : amp 0 = 100000 := rfl
  have hbig : big = 1099511627776 := rfl
  unfold tabR upd
  split
  · rcases h r.f.toNat r.t.toNat with h1 | h1 <;> omega
  · exact h a b
theorem rng_foldl : ∀ (ws : List R) (d : Tab), Rng 0 d → (∀ r ∈ ws, -100000 ≤ r.m ∧ r.m ≤ 100000) → Rng 0 (ws.foldl tabR d)
  | [], _, h, _ => h
  | r :: ws, d, h, hw => rng_foldl ws (tabR d r) (rng_tabR h (hw r (List.mem_cons_self ..))) (fun x hx => hw x (List.mem_cons_of_mem _ hx))
theorem diag_foldl : ∀ (ws : List R) (d : Tab), (∀ a, d a a = 0) → (∀ r ∈ ws, r.f.toNat ≠ r.t.toNat) → ∀ a, ws.foldl tabR d a a = 0
  | [], _, h, _ => h
  | r :: ws, d, h, hw => diag_foldl ws (tabR d r) (fun a => by
      unfold tabR
      rw [upd_other]
      · exact h a
      · intro hh; exact hw r (List.mem_cons_self ..) (by omega)) (fun x hx => hw x (List.mem_cons_of_mem _ hx))
theorem foldl_le : ∀ (ws : List R) (d : Tab) (a b : Nat), ws.foldl tabR d a b ≤ d a b
  | [], _, _, _ => Int.le_refl _
  | r :: ws, d, a, b => Int.le_trans (foldl_le ws (tabR d r) a b) (by
      unfold tabR upd
      split
      · rename_i h; obtain ⟨rfl, rfl⟩ := h; omega
      · exact Int.le_refl _)
theorem foldl_edge : ∀ (ws : List R) (d : Tab) (r : R), r ∈ ws → ws.foldl tabR d r.f.toNat r.t.toNat ≤ r.m
  | x :: ws, d, r, h => by
    rw [List.foldl_cons]
    rcases List.mem_cons.1 h with rfl | h
    · refine Int.le_trans (foldl_le ws _ _ _) ?_
      unfold tabR
      rw [upd_same]
      omega
    · exact foldl_edge ws _ r h

/-- What is known of whole rules. -/
structure GoodE (T : Nat) (E : List R) : Prop where
  fit : ∀ r ∈ E, 0 ≤ r.f ∧ r.f ≤ T ∧ 0 ≤ r.t ∧ r.t ≤ T ∧ r.f ≠ r.t ∧ -100000 ≤ r.m ∧ r.m ≤ 100000
  up : ∀ t : Nat, 1 ≤ t → t ≤ T → ∃ r ∈ E, r.f = 0 ∧ r.t = (t : Int)
  down : ∀ t : Nat, 1 ≤ t → t ≤ T → ∃ r ∈ E, r.f = (t : Int) ∧ r.t = 0
theorem turnRules_mem : ∀ (k t : Nat), 1 ≤ t → t ≤ k → (⟨0, (t : Int), 100000⟩ : R) ∈ turnRules k ∧ (⟨(t : Int), 0, 0⟩ : R) ∈ turnRules k
  | 0, t, h, h' => absurd h' (by omega)
  | k + 1, t, h, h' => by
    rw [turnRules]
    by_cases e : t = k + 1
    · subst e
      exact ⟨List.mem_append_right _ (by simp), List.mem_append_right _ (by simp)⟩
    · obtain ⟨h1, h2⟩ := turnRules_mem k t h (by omega)
      exact ⟨List.mem_append_left _ h1, List.mem_append_left _ h2⟩
theorem turnRules_fit : ∀ (k : Nat) (r : R), r ∈ turnRules k → (r.f = 0 ∧ 1 ≤ r.t ∧ r.t ≤ k ∧ r.m = 100000) ∨ (r.t = 0 ∧ 1 ≤ r.f ∧ r.f ≤ k ∧ r.m = 0)
  | 0, r, h => by simp [turnRules] at h
  | k + 1, r, h => by
    rw [turnRules, List.mem_append] at h
    rcases h with h | h
    · have := turnRules_fit k r h
      omega
    · simp at h
      rcases h with rfl | rfl
      · left; simp; omega
      · right; simp; omega
theorem good_whole {T : Nat} {rs : List R} (he : chk T rs = 0) : GoodE T (whole T rs) := by
  obtain ⟨_, _, _, h⟩ := chk_ok he
  refine ⟨fun r hr => ?_, fun t h1 h2 => ⟨_, List.mem_append_right _ (turnRules_mem T t h1 h2).1, rfl, rfl⟩, fun t h1 h2 => ⟨_, List.mem_append_right _ (turnRules_mem T t h1 h2).2, rfl, rfl⟩⟩
  rw [whole, List.mem_append] at hr
  rcases hr with hr | hr
  · have := (chkR_iff _ _).1 (List.all_eq_true.1 h r hr)
    exact ⟨this.1, this.2.1, this.2.2.1, this.2.2.2.1, this.2.2.2.2.1, this.2.2.2.2.2⟩
  · have := turnRules_fit T r hr
    omega

theorem tab_start {T : Nat} {E : List R} (g : GoodE T E) : Rng 0 (tabRs E) ∧ (∀ a, tabRs E a a = 0) ∧ ∀ r ∈ E, tabRs E r.f.toNat r.t.toNat ≤ r.m := by
  refine ⟨rng_foldl _ _ (fun a b => ?_) (fun r hr => ⟨(g.fit r hr).2.2.2.2.2.1, (g.fit r hr).2.2.2.2.2.2⟩), diag_foldl _ _ (fun a => by simp [tab0]) (fun r hr => ?_), fun r hr => foldl_edge _ _ r hr⟩
  · have e : amp 0 = 100000 := rfl
    unfold tab0
    split
    · right; omega
    · left; rfl
  · have := g.fit r hr
    omega

/-- All stages together. -/
theorem stages {T : Nat} (hT : T ≤ 20) {E : List R} (g : GoodE T E) (hd : ∀ i, i ≤ T → 0 ≤ stg (T + 1) (tabRs E) (T + 1) i i) :
    ∀ m, m ≤ T + 1 → Rng m (stg (T + 1) (tabRs E) m) ∧ Tri (T + 1) m (stg (T + 1) (tabRs E) m) := by
  obtain ⟨hr, h0, _⟩ := tab_start g
  intro m
  induction m with
  | zero => intro _; exact ⟨hr, fun j hj => absurd hj (by omega)⟩
  | succ m ih =>
    intro hm
    obtain ⟨h1, h2⟩ := ih (by omega)
    have hz : stg (T + 1) (tabRs E) m m m = 0 := by
      have a1 := stg_le (hr.bd (by omega)) (T + 1) m m m
      have a2 := stg_le' (hr.bd (by omega)) (T + 1) m m m (T + 1 - m)
      rw [show m + (T + 1 - m) = T + 1 by omega] at a2
      have a3 := hd m (by omega)
      rw [h0] at a1
      omega
    exact ⟨(rng_stp (by omega) h1 hz (T + 1)).1, tri_stp (by omega) (by omega) h1 h2 hz⟩

/-- The table's end, if no entry of the diagonal is below 0: what the cheapest ways cost. -/
theorem far_end {T : Nat} (hT : T ≤ 20) {E : List R} (g : GoodE T E) (hd : ∀ i, i ≤ T → 0 ≤ stg (T + 1) (tabRs E) (T + 1) i i) :
    (∀ i, i ≤ T → stg (T + 1) (tabRs E) (T + 1) i i = 0) ∧ (∀ a b, a ≤ T → b ≤ T → -209715200000 ≤ stg (T + 1) (tabRs E) (T + 1) a b ∧ stg (T + 1) (tabRs E) (T + 1) a b ≤ 209715200000) ∧
      (∀ a j b, a ≤ T → j ≤ T → b ≤ T → stg (T + 1) (tabRs E) (T + 1) a b ≤ stg (T + 1) (tabRs E) (T + 1) a j + stg (T + 1) (tabRs E) (T + 1) j b) ∧
      ∀ x, x ≤ T → Feas E (stg (T + 1) (tabRs E) (T + 1) x) := by
  obtain ⟨hr, h0, hedge⟩ := tab_start g
  have hbd := hr.bd (by omega)
  have hst := stages hT g hd
  have hz : ∀ i, i ≤ T → stg (T + 1) (tabRs E) (T + 1) i i = 0 := fun i hi => by
    have a1 := stg_le hbd (T + 1) i i (T + 1)
    have := hd i hi
    rw [h0] at a1
    omega
  have hbig : big = 1099511627776 := rfl
  -- behind the first stage all entries are finite
  have hfin : ∀ a b, a ≤ T → b ≤ T → stg (T + 1) (tabRs E) (T + 1) a b < big := fun a b ha hb => by
    have c1 : tabRs E a 0 ≤ 100000 := by
      by_cases e : a = 0
      · subst e; rw [h0]; omega
      · obtain ⟨r, hr', hf, ht⟩ := g.down a (by omega) ha
        have := hedge r hr'
        have f := g.fit r hr'
        rw [hf, ht] at this
        simp at this
        omega
    have c2 : tabRs E 0 b ≤ 100000 := by
      by_cases e : b = 0
      · subst e; rw [h0]; omega
      · obtain ⟨r, hr', hf, ht⟩ := g.up b (by omega) hb
        have := hedge r hr'
        have f := g.fit r hr'
        rw [hf, ht] at this
        simp at this
        omega
    have c3 := (rng_stp (by omega) hr (h0 0) (T + 1)).2 a b (by omega) (by omega)
    have c4 := (via_cases (by omega) hr a b).2.2 (by omega) (by omega)
    have c5 := stg_le' hbd (T + 1) a b 1 T
    rw [show 1 + T = T + 1 by omega] at c5
    have c6 : stg (T + 1) (tabRs E) 1 a b = via 0 (tabRs E) a b := c3
    omega
  have hlast := hst (T + 1) (Nat.le_refl _)
  have hlim := (amp_le (T + 1) (by omega)).2
  refine ⟨hz, fun a b ha hb => ?_, fun a j b ha hj hb => hlast.2 j (by omega) a b (by omega) (by omega) (hfin a j ha hj) (hfin j b hj hb), fun x hx r hr' => ?_⟩
  · have := hfin a b ha hb
    rcases hlast.1 a b with h | h <;> omega
  · have f := g.fit r hr'
    have t1 := hlast.2 r.f.toNat (by omega) x r.t.toNat (by omega) (by omega) (hfin _ _ hx (by omega)) (hfin _ _ (by omega) (by omega))
    have t2 := hedge r hr'
    have t3 := stg_le hbd (T + 1) r.f.toNat r.t.toNat (T + 1)
    omega
/-- Speeds exist just if no entry of the diagonal is below 0. -/
theorem far_clash {T : Nat} (hT : T ≤ 20) {E : List R} (g : GoodE T E) : (∃ q, Feas E q) ↔ ∀ i, i ≤ T → 0 ≤ stg (T + 1) (tabRs E) (T + 1) i i := by
  constructor
  · rintro ⟨q, hq⟩ i hi
    have := ind_stg (fun d m i k => abv_stp q d m i k) (abv_foldl q E _ (abv_tab0 q) hq) (T + 1) (T + 1) i i
    have hbig : big = 1099511627776 := rfl
    rcases this with h | h
    · show 0 ≤ stg (T + 1) (List.foldl tabR tab0 E) (T + 1) i i
      omega
    · show 0 ≤ stg (T + 1) (List.foldl tabR tab0 E) (T + 1) i i
      omega
  · intro h
    exact ⟨_, (far_end hT g h).2.2.2 0 (by omega)⟩
end Go.Proofs.Ytiankphkemakeaa
