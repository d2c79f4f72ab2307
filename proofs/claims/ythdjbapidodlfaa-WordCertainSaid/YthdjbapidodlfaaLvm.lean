/- Stage 4: the document's levels, and its check of levels, are the program's (mathematics). -/
import Derived.Test.YthdjbapidodlfaaU1
namespace Go.Proofs.Ythdjbapidodlfaa
set_option linter.unusedSimpArgs false
set_option linter.unusedVariables false
open Go.RowKit Go.Shelf

theorem orK_fst (x y : Int × Int) : (orK x y).1 = max x.1 y.1 := by
  unfold orK
  split
  · rw [Int.max_def]; split <;> omega
  · split
    · rw [Int.max_def]; split <;> omega
    · dsimp only; rw [Int.max_def]; split <;> omega
theorem sumK_lt {α : Type} (E : α → Int × Int) (l : List α) (x : Int) : (sumK (l.map E)).1 < x ↔ 0 < x ∧ ∀ y ∈ l, (E y).1 < x := by
  induction l with
  | nil => exact ⟨fun h => ⟨h, fun y hy => by cases hy⟩, fun h => h.1⟩
  | cons a t ih =>
    rw [List.map_cons, sumK_cons, orK_fst, Int.max_def]
    constructor
    · intro h
      have h1 : (E a).1 < x ∧ (sumK (t.map E)).1 < x := by split at h <;> omega
      obtain ⟨h2, h3⟩ := ih.1 h1.2
      refine ⟨h2, fun y hy => ?_⟩
      rcases List.mem_cons.1 hy with rfl | hy
      · exact h1.1
      · exact h3 y hy
    · rintro ⟨h0, h1⟩
      have h2 := h1 a (List.mem_cons_self ..)
      have h3 := ih.2 ⟨h0, fun y hy => h1 y (List.mem_cons_of_mem _ hy)⟩
      split <;> omega
theorem frK_lt (E : List Int → Int × Int) (mt : List (List Int)) (m : Nat) (p : List Int) (x : Int) : (frK E mt m p 0).1 < x ↔ 0 < x ∧ ∀ y ∈ mt, befB y p m = true → (E y).1 < x := by
  unfold frK
  rw [sumK_lt]
  refine and_congr_right fun _ => ⟨fun h y hy hb => h y (List.mem_filter.2 ⟨hy, by rw [frB_zero]; exact hb⟩), fun h y hy => ?_⟩
  obtain ⟨h1, h2⟩ := List.mem_filter.1 hy
  rw [frB_zero] at h2
  exact h y h1 h2
theorem longK_fst {x : Int × Int} (h : 0 ≤ x.1) : (longK x).1 = x.1 + 1 := by
  unfold longK
  split
  · rename_i h; rw [h]; rfl
  · rfl
theorem lAt_take {mt : List (List Int)} {m j : Nat} : lAt (mt.map (·.take m)) j = (lAt mt j).take m := by
  unfold lAt
  rw [List.getD_eq_getElem?_getD, List.getD_eq_getElem?_getD, List.getElem?_map]
  cases mt[j]? <;> simp
theorem befB_lAt {mt : List (List Int)} {m i j : Nat} : befB (lAt (mt.map (·.take m)) i) (lAt (mt.map (·.take m)) j) m = befB (lAt mt i) (lAt mt j) m := by
  rw [lAt_take, lAt_take, befB_take]
theorem mem_lAt {mt : List (List Int)} {x : List Int} : x ∈ mt ↔ ∃ j, j < mt.length ∧ lAt mt j = x := by
  constructor
  · intro h
    obtain ⟨j, hj, rfl⟩ := List.getElem_of_mem h
    exact ⟨j, hj, lAt_eq hj⟩
  · rintro ⟨j, hj, rfl⟩
    rw [lAt_eq hj]
    exact List.getElem_mem hj
theorem lvN_lt (m : Nat) (l : List (List Int)) (out : List Int) (i k : Nat) (x : Int) : lvN m l out i k < x ↔ 1 < x ∧ ∀ j, j < k → befB (lAt l j) (lAt l i) m = true → iAt out j + 1 < x := by
  induction k with
  | zero => exact ⟨fun h => ⟨h, fun j hj => absurd hj (by omega)⟩, fun h => h.1⟩
  | succ k ih =>
    rw [lvN_succ]
    unfold lvF
    constructor
    · intro h
      have h1 : lvN m l out i k < x ∧ (befB (lAt l k) (lAt l i) m = true → iAt out k + 1 < x) := by
        split at h
        · rw [Int.max_def] at h
          split at h <;> exact ⟨by omega, fun _ => by omega⟩
        · rename_i hb
          exact ⟨h, fun e => absurd e hb⟩
      obtain ⟨h2, h3⟩ := ih.1 h1.1
      refine ⟨h2, fun j hj hb => ?_⟩
      rcases Nat.lt_or_ge j k with hjk | hjk
      · exact h3 j hjk hb
      · obtain rfl : j = k := by omega
        exact h1.2 hb
    · rintro ⟨h0, h1⟩
      have h2 := ih.2 ⟨h0, fun j hj => h1 j (by omega)⟩
      split
      · rename_i hb
        have := h1 k (by omega) hb
        rw [Int.max_def]
        split <;> omega
      · exact h2
theorem int_eq_of_lt {a b : Int} (h : ∀ x, a < x ↔ b < x) : a = b := by
  have h1 := (h (a + 1)).1 (by omega)
  have h2 := (h (b + 1)).2 (by omega)
  omega
theorem lvL_eq {nm : List Int} {L : List (List Int)} {m : Nat} (hL : LV L m) (k : Nat) (hk : k ≤ (mtS nm L).length) :
    lvL m ((mtS nm L).map (·.take m)) k = ((mtS nm L).take k).map fun x => (eS (mtS nm L) m x).1 := by
  have hlo := hL.lo
  have hw := mtS_wpl (nm := nm) hL
  have hs := mtS_sorted (nm := nm) hL
  have hn := mtS_nodup (nm := nm) hL
  obtain ⟨mt, hmt⟩ : ∃ mt, mtS nm L = mt := ⟨_, rfl⟩
  rw [hmt] at hw hs hn hk ⊢
  induction k with
  | zero => rfl
  | succ k ih =>
    have hk' : k < mt.length := by omega
    rw [lvL, ih (by omega), List.take_succ_eq_append_getElem hk', List.map_append]
    congr 1
    show [_] = [_]
    congr 1
    show _ = (eS mt m mt[k]).1
    have hx : mt[k] ∈ mt := List.getElem_mem hk'
    rw [eS_eq (by omega) hw ((hw _ hx).rng 0 (by omega)).2, longK_fst (show 0 ≤ (frK (eS mt m) mt m mt[k] 0).1 from sumK_nn _ _ fun y hy => by
      have := (eS_pos hn (by omega) hL.hi hw (List.mem_filter.1 hy).1).1; omega)]
    refine int_eq_of_lt fun x => ?_
    have e1 := frK_lt (eS mt m) mt m mt[k] (x - 1)
    rw [lvN_lt]
    constructor
    · rintro ⟨h1, h2⟩
      have := e1.2 ⟨by omega, fun y hy hb => by
        obtain ⟨j, hj, rfl⟩ := mem_lAt.1 hy
        have hjk : j < k := by
          rcases Nat.lt_or_ge j k with h | h
          · exact h
          · rcases Nat.eq_or_lt_of_le h with h | h
            · subst h
              rw [lAt_eq hj, befB_irr (by omega)] at hb
              cases hb
            · have := List.pairwise_iff_getElem.1 hs k j hk' hj h
              rw [lAt_eq hj, this] at hb
              cases hb
        have h3 := h2 j hjk (by rw [befB_lAt, lAt_eq hk']; exact hb)
        rw [iAt_eq (by simp; omega)] at h3
        simp only [List.getElem_map, List.getElem_take] at h3
        rw [lAt_eq hj]
        omega⟩
      omega
    · intro h
      obtain ⟨h1, h2⟩ := e1.1 (by omega)
      refine ⟨by omega, fun j hj hb => ?_⟩
      rw [befB_lAt, lAt_eq hk'] at hb
      have := h2 (lAt mt j) (mem_lAt.2 ⟨j, by omega, rfl⟩) hb
      rw [iAt_eq (by simp; omega)]
      simp only [List.getElem_map, List.getElem_take]
      rw [lAt_eq (by omega)] at this
      omega
/-- The levels of the document are those of the program. -/
theorem lvL_all {nm : List Int} {L : List (List Int)} {m : Nat} (hL : LV L m) : lvL m ((mtS nm L).map (·.take m)) (mtS nm L).length = lvsS (mtS nm L) m := by
  rw [lvL_eq hL _ (Nat.le_refl _), List.take_length]
  rfl
theorem ix_at {mt : List (List Int)} (hn : mt.Nodup) {j : Nat} (hj : j < mt.length) : ix mt mt[j] = j := by
  have e : mt.take j ++ mt[j] :: mt.drop (j + 1) = mt := by rw [List.getElem_cons_drop, List.take_append_drop]
  have h := ix_pre (pre := mt.take j) (post := mt.drop (j + 1)) (x := mt[j]) (fun hm => by
    obtain ⟨i, hi, he⟩ := List.getElem_of_mem hm
    rw [List.getElem_take] at he
    rw [List.length_take] at hi
    exact List.pairwise_iff_getElem.1 hn i j (by omega) hj (by omega) he)
  rw [e, List.length_take] at h
  rw [h]
  omega
/-- The match i, against the first k matches. -/
def okJ (l : List (List Int)) (m : Nat) (gs : List Int) (i k : Nat) : Bool := (List.range k).all fun j => !(befB (lAt l j) (lAt l i) m && decide (iAt gs i ≤ iAt gs j))
theorem okJ_succ (l : List (List Int)) (m : Nat) (gs : List Int) (i k : Nat) : okJ l m gs i (k + 1) = (okJ l m gs i k && !(befB (lAt l k) (lAt l i) m && decide (iAt gs i ≤ iAt gs k))) := by simp [okJ, List.range_succ]
theorem okJ_stop {l : List (List Int)} {m : Nat} {gs : List Int} {i k n : Nat} (h : (befB (lAt l k) (lAt l i) m && decide (iAt gs i ≤ iAt gs k)) = true) (hk : k < n) : okJ l m gs i n = false := by
  unfold okJ
  rw [List.all_eq_false]
  exact ⟨k, List.mem_range.2 hk, by simp only [h]; simp⟩
def dkK (l : List (List Int)) (m : Nat) (gs : List Int) (n k : Nat) : Bool := (List.range k).all fun i => decide (1 ≤ iAt gs i) && okJ l m gs i n
theorem dkK_succ (l : List (List Int)) (m : Nat) (gs : List Int) (n k : Nat) : dkK l m gs n (k + 1) = (dkK l m gs n k && (decide (1 ≤ iAt gs k) && okJ l m gs k n)) := by simp [dkK, List.range_succ]
theorem dkK_stop {l : List (List Int)} {m : Nat} {gs : List Int} {n i k : Nat} (h : (decide (1 ≤ iAt gs i) && okJ l m gs i n) = false) (hk : i < k) : dkK l m gs n k = false := by
  unfold dkK
  rw [List.all_eq_false]
  exact ⟨i, List.mem_range.2 hk, by rw [h]; simp⟩
theorem dk_rg {nm : List Int} {L : List (List Int)} {m : Nat} (hL : LV L m) (gs : List Int) : dkK ((mtS nm L).map (·.take m)) m gs (mtS nm L).length (mtS nm L).length = rgK (mtS nm L) m gs (mtS nm L).length := by
  have hn := mtS_nodup (nm := nm) hL
  obtain ⟨mt, hmt⟩ : ∃ mt, mtS nm L = mt := ⟨_, rfl⟩
  rw [hmt] at hn ⊢
  apply bool_iff
  unfold dkK rgK
  rw [List.all_eq_true, List.all_eq_true]
  refine forall_congr' fun i => forall_congr' fun hi => ?_
  have hi' := List.mem_range.1 hi
  rw [Bool.and_eq_true, decide_eq_true_eq, decide_eq_true_eq, frK_lt]
  unfold okJ
  rw [List.all_eq_true]
  constructor
  · rintro ⟨h1, h2⟩
    refine ⟨by omega, fun y hy hb => ?_⟩
    obtain ⟨j, hj, rfl⟩ := mem_lAt.1 hy
    have h3 := h2 j (List.mem_range.2 hj)
    rw [befB_lAt, hb] at h3
    simp at h3
    rw [show (gE mt gs (lAt mt j)).1 = if iAt gs j < 0 then 0 else iAt gs j by unfold gE; rw [lAt_eq hj, ix_at hn hj]]
    split <;> omega
  · rintro ⟨h1, h2⟩
    refine ⟨by omega, fun j hj => ?_⟩
    have hj' := List.mem_range.1 hj
    rw [befB_lAt]
    cases hb : befB (lAt mt j) (lAt mt i) m with
    | false => rfl
    | true =>
      have h3 := h2 (lAt mt j) (mem_lAt.2 ⟨j, hj', rfl⟩) hb
      rw [show (gE mt gs (lAt mt j)).1 = if iAt gs j < 0 then 0 else iAt gs j by unfold gE; rw [lAt_eq hj', ix_at hn hj']] at h3
      simp
      split at h3 <;> omega
end Go.Proofs.Ythdjbapidodlfaa
