/- Stage 6: a link more: mathematics. -/
import Derived.Test.YtigohccehllmnaaTu
import Derived.Test.YtigohccehllmnaaPm
namespace Go.Proofs.Ytigohccehllmnaa
set_option linter.unusedSimpArgs false
set_option linter.unusedVariables false
open Go.RowKit Go.Shelf
theorem app_nls {W : World} {v : Value} {n m c2 : Nat} {xs ys : List Nl} {A2 : Option Addr} (h : W.ownsRow 0 60 3 v n (flatN xs)) (h2 : Nls W A2 m ys) (hb8 : (n + m) * 24 ≤ 140737488355328) :
    ∃ v' W', runA Try.prog 22 v (.slice A2 m c2) W = .ok (.value v') W' ∧ W'.ownsRow 0 60 3 v' (n + m) (flatN (xs ++ ys)) ∧ Keeps (fun j => v.ownBlock = some j) W W' ∧ (v'.ownBlock = v.ownBlock ∨ v'.ownBlock = some W.heap.size) := by
  obtain ⟨i, hif, hz, hs, hby⟩ := info_parts info60_
  have e1 : flatN (xs ++ ys) = flatN xs ++ flatN ys := by simp [flatN]
  have hl := h2.1
  rw [e1]
  rcases A2 with _ | a
  · have hm : m = 0 := by
      rcases Nat.eq_zero_or_pos m with e | e
      · exact e
      · obtain ⟨b, o, e2, _⟩ := h2.2 e; cases e2
    subst hm
    have hnw : ys = [] := List.eq_nil_of_length_eq_zero hl
    subst hnw
    refine ⟨v, W, run_app ?_, by simpa [flatN] using h, Keeps.refl _ _, .inl rfl⟩
    rcases h.2 with ⟨rfl, rfl⟩ | ⟨g, cap, cur, rfl, _, _, hnc, _⟩
    · simp [Builtin.append_, run_underlying Try.underlying22, Builtin.lenOf, sizeOf, typeInfo, hif, hs, Builtin.firstCells, loadCells, loadCellsFrom]
    · simp [Builtin.append_, run_underlying Try.underlying22, Builtin.lenOf, sizeOf, typeInfo, hif, hs, Builtin.firstCells, loadCells, loadCellsFrom, storeCells, Addr.add, hnc]
  · obtain ⟨v', W', q2, q3, q4, _, q5⟩ := run_append_own_at (P := Try.prog) W 0 22 22 60 i _ 3 24 Try.underlying22 hif hz hs hby rfl (by omega) v n (flatN xs) h a m c2 (flatN ys) (by rw [flatN_len, hl]) (fun j u hj => by
      have hj2 := (List.getElem?_eq_some_iff.1 hj).1
      rw [flatN_len, hl] at hj2
      obtain ⟨b, o, e2, hc⟩ := h2.2 (by omega)
      cases e2
      rw [Addr.add_lit]
      have hq := hc (j / 3) (by omega)
      obtain ⟨g1, g2, g3⟩ := flatN_at ys (j / 3) (by omega)
      rcases (by omega : j = j / 3 * 3 ∨ j = j / 3 * 3 + 1 ∨ j = j / 3 * 3 + 2) with e | e | e
      · rw [e] at hj
        rw [g1] at hj
        rw [e, ← hj]; exact hq.1
      · rw [e] at hj
        rw [g2] at hj
        rw [e, ← hj, ← Nat.add_assoc]; exact hq.2.1
      · rw [e] at hj
        rw [g3] at hj
        rw [e, ← hj, ← Nat.add_assoc]; exact hq.2.2) (fun u hu => by
      unfold flatN at hu
      obtain ⟨r, _, hr⟩ := List.mem_flatMap.1 hu
      unfold cellN at hr
      simp at hr
      rcases hr with rfl | rfl | rfl <;> rfl) (by unfold maxLen; omega) hb8 (Nat.zero_le _)
    exact ⟨v', W', run_app q2, q3, ⟨q4.os, q4.tape, q4.output, q4.size, fun k hk hmm => q4.block k hk (fun e => hmm e.symm)⟩, q5⟩

theorem one_nls {W : World} {P : Nat} {r : Nl} (h : W.heap[P]? = some (.cells #[.int .i64 r.one, .int .i64 r.two, .int .i64 r.tr] 60 (0, 0))) : Nls W (some ⟨P, 0, none⟩) 1 [r] := by
  refine ⟨rfl, fun _ => ⟨P, 0, rfl, fun j hj => ?_⟩⟩
  obtain rfl : j = 0 := by omega
  exact ⟨by rw [cell_row h]; rfl, by rw [cell_row h]; rfl, by rw [cell_row h]; rfl⟩
theorem app_1n {W : World} {v : Value} {n : Nat} {xs : List Nl} {T : Nat} {r : Nl} (h : W.ownsRow 0 60 3 v n (flatN xs)) (hT : W.heap[T]? = some (.cells #[.int .i64 r.one, .int .i64 r.two, .int .i64 r.tr] 60 (0, 0))) (hb8 : (n + 1) * 24 ≤ 140737488355328) :
    ∃ v' W', runA Try.prog 22 v (.slice (some ⟨T, 0, none⟩) 1 1) W = .ok (.value v') W' ∧ W'.ownsRow 0 60 3 v' (n + 1) (flatN (xs ++ [r])) ∧ Keeps (fun j => v.ownBlock = some j) W W' ∧ (v'.ownBlock = v.ownBlock ∨ v'.ownBlock = some W.heap.size) := app_nls h (one_nls hT) hb8
/-- The list that is stored. -/
theorem more_list {W0 W : World} {D m c8 : Nat} {C8 : Option Addr} {zs : List Nl} {N : Int} {v2 v3 : Value} (hb : Below W0.heap.size W0 W) (hD : W.heap[D]? = some (.cells #[.int .i64 0, .slice none 0 0, .slice none 0 0, .slice none 0 0] 25 (0, 0))) (hD0 : W0.heap.size ≤ D) (hr : Nls W C8 m zs) (hne : ∀ b o, C8 = some ⟨b, o, none⟩ → b ≠ D) :
    ((((W.setCell ⟨D, 0, none⟩ (.int .i64 N)).setCell ⟨D, 1, none⟩ (.slice C8 m c8)).setCell ⟨D, 2, none⟩ v2).setCell ⟨D, 3, none⟩ v3).heap[D]? = some (.cells #[.int .i64 N, .slice C8 m c8, v2, v3] 25 (0, 0)) ∧
    Nls ((((W.setCell ⟨D, 0, none⟩ (.int .i64 N)).setCell ⟨D, 1, none⟩ (.slice C8 m c8)).setCell ⟨D, 2, none⟩ v2).setCell ⟨D, 3, none⟩ v3) C8 m zs ∧
    Below W0.heap.size W0 ((((W.setCell ⟨D, 0, none⟩ (.int .i64 N)).setCell ⟨D, 1, none⟩ (.slice C8 m c8)).setCell ⟨D, 2, none⟩ v2).setCell ⟨D, 3, none⟩ v3) := by
  have k1 := ((keeps_setCell W D 0 (.int .i64 N)).trans (keeps_setCell _ D 1 (.slice C8 m c8))).trans ((keeps_setCell _ D 2 v2).trans (keeps_setCell _ D 3 v3))
  have r1 := set_same 3 v3 (set_same 2 v2 (set_same 1 (.slice C8 m c8) (set_same 0 (.int .i64 N) hD)))
  refine ⟨r1, hr.keepN k1 (fun hm a ea e => ?_), hb.trans (k1.below hb.size (fun j hj e => by omega))⟩
  obtain ⟨b, o, e2, _⟩ := hr.2 hm
  rw [e2] at ea
  cases ea
  have := hne b o e2
  simp at e
  omega
/-! What a link more costs. -/
theorem lAt_snoc (zs : List Nl) (r : Nl) {k : Nat} (hk : k < zs.length) : lAt (zs ++ [r]) k = lAt zs k := by
  unfold lAt
  rw [List.getD_eq_getElem?_getD, List.getElem?_append_left hk, ← List.getD_eq_getElem?_getD]
theorem cost_snoc (zs : List Nl) (r : Nl) (S : Int → Bool) : costS (zs ++ [r]) S = costS zs S + ind (S r.one != S r.two) r.tr := by
  unfold costS
  rw [List.length_append, List.length_singleton, sumN]
  have e : lAt (zs ++ [r]) zs.length = r := by unfold lAt; simp [List.getD]
  have h : sumN zs.length (fun k => ind (cutB (zs ++ [r]) S k) (lAt (zs ++ [r]) k).tr) = sumN zs.length (fun k => ind (cutB zs S k) (lAt zs k).tr) := sumN_congr fun k hk => by
    unfold cutB; rw [lAt_snoc zs r hk]
  rw [h]
  unfold cutB
  rw [e]
theorem ind_in {b : Bool} {x : Int} (h : 0 ≤ x) : 0 ≤ ind b x ∧ ind b x ≤ x := by unfold ind; split <;> omega
theorem cheap_more {zs zs' : List Nl} {L R : List Int} {d : Int} (hd : ∀ S, costS zs S ≤ costS zs' S ∧ costS zs' S ≤ costS zs S + d) {P Q : Int → Bool} (hP : Cheap zs L R P) (hQ : Cheap zs' L R Q) : costS zs P ≤ costS zs' Q ∧ costS zs' Q ≤ costS zs P + d := by
  have h1 := hP.2 Q hQ.1
  have h2 := hQ.2 P hP.1
  have h3 := hd P
  have h4 := hd Q
  omega
theorem cost_set (zs : List Nl) {k : Nat} (hk : k < zs.length) (d : Int) (S : Int → Bool) : costS (zs.set k ⟨(lAt zs k).one, (lAt zs k).two, (lAt zs k).tr + d⟩) S = costS zs S + ind (cutB zs S k) d := by
  unfold costS
  rw [List.length_set]
  refine sumN_upd hk (fun j hj hne => ?_) ?_
  · have : lAt (zs.set k ⟨(lAt zs k).one, (lAt zs k).two, (lAt zs k).tr + d⟩) j = lAt zs j := by rw [lAt_set zs hk, if_neg (by omega)]
    unfold cutB; rw [this]
  · have : lAt (zs.set k ⟨(lAt zs k).one, (lAt zs k).two, (lAt zs k).tr + d⟩) k = ⟨(lAt zs k).one, (lAt zs k).two, (lAt zs k).tr + d⟩ := by rw [lAt_set zs hk, if_pos rfl]
    have e : cutB (zs.set k ⟨(lAt zs k).one, (lAt zs k).two, (lAt zs k).tr + d⟩) S k = cutB zs S k := by unfold cutB; rw [this]
    rw [e, this]
    dsimp only
    unfold ind
    split <;> omega
/-! A link more that is dropped. -/
def mgL (lab : Int → Int) (a b : Int) : Int → Int := fun y => if lab y = a ∨ lab y = b then min a b else lab y
section
variable {N : Nat} {zs : List Nl} {ds es : List Int} {opA opB' : Wy → Bool} {k : Nat}
/-- The labels with a link more tell those with one less. -/
theorem lab_drop_one (hz : OkL N zs) (hA : ∀ w, isWay zs w → (opA w = true ↔ (w.link : Int) ∉ ds)) (hB : ∀ w, isWay zs w → (opB' w = true ↔ (w.link : Int) ∉ es)) (hk : k < zs.length) (hkd : (k : Int) ∉ ds) (hes : ∀ x : Int, x ∈ es ↔ x ∈ ds ∨ x = (k : Int)) {y : Int} (hy : 0 ≤ y ∧ y < N) :
    labG zs ds zs.length N y = mgL (labG zs es zs.length N) (labG zs es zs.length N (lAt zs k).one) (labG zs es zs.length N (lAt zs k).two) y := by
  obtain ⟨lab, hlab⟩ : ∃ v, labG zs es zs.length N = v := ⟨_, rfl⟩
  rw [hlab]
  have ok := hz k hk
  obtain ⟨u, hu⟩ : ∃ v, (lAt zs k).one = v := ⟨_, rfl⟩
  obtain ⟨v, hv⟩ : ∃ v, (lAt zs k).two = v := ⟨_, rfl⟩
  rw [hu, hv] at ok
  rw [hu, hv]
  have hBA : ∀ w, isWay zs w → opB' w = true → opA w = true := fun w hw h => by
    rw [hA w hw]; have := (hB w hw).1 h; exact fun e => this ((hes _).2 (.inl e))
  have hsame : ∀ w, isWay zs w → opB' w = true → lab w.fr = lab w.to := fun w hw h => by
    have hl := hw.lt hz
    obtain ⟨Q, hQ⟩ := rs_exists hz opB' (fs := [w.fr]) (fun z hz => by rw [List.mem_singleton] at hz; omega)
    have := lab_same hz hB hl.1 hQ (hQ.cl w hw h (hQ.st _ (by simp)))
    rw [hlab] at this; exact this
  obtain ⟨P, hP⟩ := rs_exists hz opA (fs := [y]) (fun z hz => by rw [List.mem_singleton] at hz; omega)
  obtain ⟨hPl, hPm⟩ := labG_leastI (ds := ds) hz hA hy hP
  have hbk : ∀ w, isWay zs w → opB' w = opB' w.back := fun w hw => by rw [Bool.eq_iff_iff, hB w hw, hB w.back hw.back]; rfl
  -- what a name in P has in P
  have hin : ∀ z : Int, 0 ≤ z ∧ z < N → P z = true → P (lab z) = true := fun z hz0 h => by
    obtain ⟨Q, hQ⟩ := rs_exists hz opB' (fs := [z]) (fun x hx => by rw [List.mem_singleton] at hx; omega)
    have h1 := (labG_leastI (ds := es) hz hB hz0 hQ).1
    rw [hlab] at h1
    exact hQ.mi P (fun w hw ho hf => hP.cl w hw (hBA w hw ho) hf) (fun x hx => by rw [List.mem_singleton] at hx; rw [hx]; exact h) _ h1
  have hback : ∀ z : Int, 0 ≤ z ∧ z < N → P (lab z) = true → P z = true := fun z hz0 h => by
    obtain ⟨Q, hQ⟩ := rs_exists hz opB' (fs := [z]) (fun x hx => by rw [List.mem_singleton] at hx; omega)
    have h1 := (labG_leastI (ds := es) hz hB hz0 hQ).1
    rw [hlab] at h1
    have hr := rs_range hz hz0 hQ h1
    obtain ⟨Q2, hQ2⟩ := rs_exists hz opB' (fs := [lab z]) (fun x hx => by rw [List.mem_singleton] at hx; omega)
    have h2 := rs_back (N := N) hbk hQ hQ2 h1 z
    rw [hQ.st z (by simp)] at h2
    exact hQ2.mi P (fun w hw ho hf => hP.cl w hw (hBA w hw ho) hf) (fun x hx => by rw [List.mem_singleton] at hx; rw [hx]; exact h) z h2.symm
  have hlink : P u = true → P v = true := fun h => hP.cl ⟨k, u, v⟩ ⟨hk, .inl ⟨hu.symm, hv.symm⟩⟩ ((hA _ ⟨hk, .inl ⟨hu.symm, hv.symm⟩⟩).2 hkd) h
  have hlink2 : P v = true → P u = true := fun h => hP.cl ⟨k, v, u⟩ ⟨hk, .inr ⟨hv.symm, hu.symm⟩⟩ ((hA _ ⟨hk, .inr ⟨hv.symm, hu.symm⟩⟩).2 hkd) h
  have hle : ∀ z : Int, lab z ≤ z := fun z => by rw [← hlab]; exact labG_le zs es zs.length z (Nat.zero_le _)
  have hPy : P y = true := hP.st y (by simp)
  have hPL := hin y hy hPy
  -- the merged label is in P
  have hM : P (mgL lab (lab u) (lab v) y) = true := by
    unfold mgL
    split
    · rename_i h
      have huv : P (lab u) = true ∧ P (lab v) = true := by
        rcases h with h | h
        · rw [h] at hPL
          have h1 := hback u ⟨ok.1.1, ok.1.2⟩ hPL
          exact ⟨hPL, hin v ⟨ok.2.1.1, ok.2.1.2⟩ (hlink h1)⟩
        · rw [h] at hPL
          have h1 := hback v ⟨ok.2.1.1, ok.2.1.2⟩ hPL
          exact ⟨hin u ⟨ok.1.1, ok.1.2⟩ (hlink2 h1), hPL⟩
      rcases Int.le_total (lab u) (lab v) with h2 | h2
      · rw [Int.min_eq_left h2]; exact huv.1
      · rw [Int.min_eq_right h2]; exact huv.2
    · exact hPL
  -- all of P have the merged label
  have hT : ∀ z, P z = true → mgL lab (lab u) (lab v) z = mgL lab (lab u) (lab v) y := fun z hzP => by
    have := hP.mi (fun z => decide (mgL lab (lab u) (lab v) z = mgL lab (lab u) (lab v) y)) (fun w hw ho hf => by
      rw [decide_eq_true_iff] at hf ⊢
      rw [← hf]
      by_cases hl : (w.link : Int) = (k : Int)
      · have hl2 : w.link = k := by omega
        have w4 := hw.2
        rw [hl2, hu, hv] at w4
        unfold mgL
        rcases w4 with ⟨a1, a2⟩ | ⟨a1, a2⟩
        · rw [a1, a2, if_pos (.inr rfl), if_pos (.inl rfl)]
        · rw [a1, a2, if_pos (.inl rfl), if_pos (.inr rfl)]
      · have : opB' w = true := (hB w hw).2 fun e => by
          rcases (hes _).1 e with e | e
          · exact (hA w hw).1 ho e
          · exact hl e
        have := hsame w hw this
        unfold mgL
        rw [this]) (fun x hx => by rw [List.mem_singleton] at hx; rw [hx]; simp) z hzP
    exact of_decide_eq_true this
  have hmle : ∀ z, mgL lab (lab u) (lab v) z ≤ lab z := fun z => by
    unfold mgL
    split
    · omega
    · exact Int.le_refl _
  have hr1 := rs_range hz hy hP hM
  have hr2 := rs_range hz hy hP hPl
  have h1 := hPm _ hr1.1 hr1.2 hM
  have h2 := hT _ hPl
  have h3 := hmle (labG zs ds zs.length N y)
  have h4 := hle (labG zs ds zs.length N y)
  omega
end
/-! How many groups there are. -/
theorem fl_le {p q : Nat → Bool} : ∀ {c : Nat}, (∀ x, x < c → p x = true → q x = true) → ((List.range c).filter p).length ≤ ((List.range c).filter q).length
  | 0, _ => Nat.le_refl _
  | c + 1, h => by
    have ih := fl_le (c := c) (fun x hx => h x (by omega))
    rw [List.range_succ, List.filter_append, List.filter_append, List.length_append, List.length_append]
    have := h c (by omega)
    cases e : p c
    · simp [e]; omega
    · simp [e, this e]; omega
theorem fl_one {p q : Nat → Bool} {m : Nat} : ∀ {c : Nat}, (∀ x, x < c → q x = true → p x = true ∨ x = m) → ((List.range c).filter q).length ≤ ((List.range c).filter p).length + (if m < c then 1 else 0)
  | 0, _ => Nat.le_refl _
  | c + 1, h => by
    have ih := fl_one (c := c) (p := p) (q := q) (m := m) (fun x hx => h x (by omega))
    rw [List.range_succ, List.filter_append, List.filter_append, List.length_append, List.length_append]
    have hc := h c (by omega)
    cases e : q c
    · simp [e]
      split <;> split at ih <;> omega
    · rcases hc e with h2 | h2
      · simp [e, h2]
        split <;> split at ih <;> omega
      · subst h2
        rw [if_neg (by omega)] at ih
        rw [if_pos (by omega)]
        simp [e]
        omega
def fxP (lab : Int → Int) : Nat → Bool := fun x => decide (lab (x : Int) = (x : Int))
theorem dgK_fx {lab : Int → Int} {c : Nat} (hid : ∀ x : Nat, x < c → lab (lab (x : Int)) = lab (x : Int)) : ∀ {k : Nat}, k ≤ c → (dgK lab c k).length = ((List.range k).filter (fxP lab)).length
  | 0, _ => rfl
  | k + 1, hk => by
    have ih := dgK_fx (c := c) hid (k := k) (by omega)
    rw [List.range_succ, List.filter_append, List.length_append, ← ih]
    by_cases h : 0 < (nmK (labP lab k) c).length
    · rw [dgK_yes h, List.length_append]
      obtain ⟨x, hx⟩ := List.exists_mem_of_length_pos h
      rw [mem_nmK] at hx
      have e1 : lab x = (k : Int) := of_decide_eq_true hx.2.2
      have e2 := hid x.toNat (by omega)
      rw [Int.toNat_of_nonneg hx.1, e1] at e2
      simp [fxP, e2]
    · rw [dgK_no h]
      have : fxP lab k = false := by
        unfold fxP
        rw [decide_eq_false_iff_not]
        intro e
        exact h (nmK_pos (p := labP lab k) (k := k) (decide_eq_true e) (by omega))
      simp [this]
theorem mem_dgK2 {lab : Int → Int} {c : Nat} {i : Nat} : ∀ {k : Nat}, i < k → 0 < (nmK (labP lab i) c).length → nmK (labP lab i) c ∈ dgK lab c k
  | 0, h, _ => by omega
  | k + 1, h, hp => by
    by_cases e : i = k
    · subst e
      rw [dgK_yes hp]
      simp
    · have := mem_dgK2 (k := k) (by omega) hp
      by_cases h2 : 0 < (nmK (labP lab k) c).length
      · rw [dgK_yes h2]; exact List.mem_append_left _ this
      · rw [dgK_no h2]; exact this
theorem mem_dgK3 {lab : Int → Int} {c : Nat} {x : List Int} : ∀ {k : Nat}, x ∈ dgK lab c k → ∃ i : Nat, i < k ∧ x = nmK (labP lab i) c ∧ 0 < x.length
  | 0, h => by cases h
  | k + 1, h => by
    by_cases h2 : 0 < (nmK (labP lab k) c).length
    · rw [dgK_yes h2] at h
      rcases List.mem_append.1 h with h | h
      · obtain ⟨i, hi, e, e2⟩ := mem_dgK3 h
        exact ⟨i, by omega, e, e2⟩
      · rw [List.mem_singleton] at h
        exact ⟨k, by omega, h, by rw [h]; exact h2⟩
    · rw [dgK_no h2] at h
      obtain ⟨i, hi, e, e2⟩ := mem_dgK3 h
      exact ⟨i, by omega, e, e2⟩
/-- Merged labels: as many groups, or one less; and each group lies in one of the others. -/
theorem dg_merge {la lb : Int → Int} {c : Nat} {a b : Int} (hm : ∀ x : Nat, x < c → la (x : Int) = mgL lb a b (x : Int)) (hr : ∀ x : Nat, x < c → 0 ≤ lb (x : Int) ∧ lb (x : Int) < (c : Int)) (hb : ∀ x : Nat, x < c → lb (lb (x : Int)) = lb (x : Int)) (ha : lb a = a ∧ 0 ≤ a ∧ a < (c : Int)) (hb2 : lb b = b ∧ 0 ≤ b ∧ b < (c : Int)) :
    (dgK la c c).length ≤ (dgK lb c c).length ∧ (dgK lb c c).length ≤ (dgK la c c).length + 1 ∧ ∀ g ∈ dgK lb c c, ∃ h ∈ dgK la c c, g.all (fun y => decide (y ∈ h)) = true := by
  have hmin : (min a b = a ∨ min a b = b) ∧ 0 ≤ min a b ∧ min a b < (c : Int) := by omega
  have hla : ∀ x : Nat, x < c → 0 ≤ la (x : Int) ∧ la (x : Int) < (c : Int) := fun x hx => by
    rw [hm x hx]
    unfold mgL
    split
    · exact hmin.2
    · exact hr x hx
  have hlbn : ∀ z : Int, 0 ≤ z → z < (c : Int) → la z = mgL lb a b z := fun z h0 h1 => by
    have := hm z.toNat (by omega)
    rwa [Int.toNat_of_nonneg h0] at this
  have hida : ∀ x : Nat, x < c → la (la (x : Int)) = la (x : Int) := fun x hx => by
    have h1 := hla x hx
    rw [hlbn _ h1.1 h1.2, hm x hx]
    unfold mgL
    by_cases h : lb (x : Int) = a ∨ lb (x : Int) = b
    · rw [if_pos h]
      have : lb (min a b) = a ∨ lb (min a b) = b := by
        rcases hmin.1 with e | e
        · rw [e, ha.1]; exact .inl rfl
        · rw [e, hb2.1]; exact .inr rfl
      rw [if_pos this]
    · rw [if_neg h, hb x hx, if_neg h]
  rw [dgK_fx hida (Nat.le_refl _), dgK_fx hb (Nat.le_refl _)]
  refine ⟨fl_le fun x hx h => ?_, ?_, fun g hg => ?_⟩
  · unfold fxP at h ⊢
    rw [decide_eq_true_iff] at h ⊢
    rw [hm x hx] at h
    unfold mgL at h
    split at h
    · rcases hmin.1 with e | e
      · rw [e] at h; rw [← h, ha.1]
      · rw [e] at h; rw [← h, hb2.1]
    · exact h
  · have h1 := fl_one (c := c) (p := fxP la) (q := fxP lb) (m := (max a b).toNat) (fun x hx h => by
      unfold fxP at h ⊢
      rw [decide_eq_true_iff] at h ⊢
      rw [hm x hx]
      unfold mgL
      rw [h]
      split
      · rename_i h2
        by_cases h3 : min a b = (x : Int)
        · exact .inl h3
        · exact .inr (by omega)
      · exact .inl rfl)
    split at h1 <;> omega
  · obtain ⟨i, hi, e, hp⟩ := mem_dgK3 hg
    obtain ⟨y, hy⟩ := List.exists_mem_of_length_pos hp
    have hy2 := hy
    rw [e, mem_nmK] at hy2
    have ey : lb y = (i : Int) := of_decide_eq_true hy2.2.2
    have hyc := hlbn y hy2.1 hy2.2.1
    obtain ⟨j, hj⟩ : ∃ j : Nat, la y = (j : Int) := ⟨(la y).toNat, by have := hla y.toNat (by omega); rw [Int.toNat_of_nonneg hy2.1] at this; omega⟩
    have hjc : j < c := by have := hla y.toNat (by omega); rw [Int.toNat_of_nonneg hy2.1] at this; omega
    have hmem : ∀ z ∈ g, z ∈ nmK (labP la j) c := fun z hz => by
      rw [e, mem_nmK] at hz
      rw [mem_nmK]
      refine ⟨hz.1, hz.2.1, decide_eq_true ?_⟩
      have ez : lb z = (i : Int) := of_decide_eq_true hz.2.2
      rw [← hj, hlbn z hz.1 hz.2.1, hyc]
      unfold mgL
      rw [ez, ey]
    exact ⟨_, mem_dgK2 hjc (List.length_pos_of_mem (hmem y hy)), List.all_eq_true.2 fun z hz => decide_eq_true (hmem z hz)⟩
end Go.Proofs.Ytigohccehllmnaa
