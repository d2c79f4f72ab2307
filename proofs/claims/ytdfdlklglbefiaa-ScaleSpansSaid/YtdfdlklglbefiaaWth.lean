/- Stage 3, mathematics: the document's spans, and the fewest steps without a gap. -/
import Derived.Test.YtdfdlklglbefiaaTux
import Derived.Test.YtdfdlklglbefiaaBlw
namespace Go.Proofs.Ytdfdlklglbefiaa
set_option linter.unusedSimpArgs false
set_option linter.unusedVariables false
/-- The greatest place of the step k, over the first i tones. -/
def tpV (zs gs : List Rg) (k : Int) : Nat → Int
  | 0 => 10000
  | i + 1 => if k ≤ blw zs gs i then min (tpV zs gs k i) (gAt zs i).hi else tpV zs gs k i
theorem tpV_le (zs gs : List Rg) (k : Int) {i m : Nat} (h : i < m) (hb : k ≤ blw zs gs i) : tpV zs gs k m ≤ (gAt zs i).hi := by
  induction m with
  | zero => omega
  | succ m ih =>
    simp only [tpV]
    rcases Nat.lt_or_ge i m with hl | hl
    · have := ih hl
      split <;> omega
    · obtain rfl : i = m := by omega
      rw [if_pos hb]; omega
theorem tpV_ge (zs gs : List Rg) (k c : Int) (hc : c ≤ 10000) {m : Nat} (h : ∀ i, i < m → k ≤ blw zs gs i → c ≤ (gAt zs i).hi) : c ≤ tpV zs gs k m := by
  induction m with
  | zero => exact hc
  | succ m ih =>
    simp only [tpV]
    have a := ih (fun i hi => h i (by omega))
    split
    · next hb => have := h m (by omega) hb; omega
    · exact a
theorem tpV_eq {zs gs : List Rg} (hz : chkS zs = 0) (hG : IsG gs zs) {k : Nat} (hk : k < gs.length) : tpV zs gs ((k : Int) + 1) zs.length = (gs[k]).hi := by
  have ho := ok_of hz
  refine Int.le_antisymm ?_ (tpV_ge _ _ _ _ ?_ fun i hi hb => ?_)
  · obtain ⟨i, hi, he⟩ := List.mem_iff_getElem.1 (hG.sub _ (List.getElem_mem hk))
    have e2 : gAt zs i = gs[k] := by rw [gAt_eq hi]; exact he
    have := tpV_le zs gs ((k : Int) + 1) hi (by
      unfold blw
      rw [e2]
      rcases Nat.eq_zero_or_pos k with h0 | h0
      · omega
      · have h2 := List.pairwise_iff_getElem.1 hG.apart (k - 1) k (by omega) hk (by omega)
        have h3 := (hG.cnt_iff ho (gs[k]).lo (k - 1) (by omega)).1 h2
        omega)
    rwa [e2] at this
  · exact (okR hz _ (hG.sub _ (List.getElem_mem hk))).2.2
  · unfold blw at hb
    have hm : gAt zs i ∈ zs := by rw [gAt_eq hi]; exact List.getElem_mem _
    obtain ⟨g, hg, h1, h2⟩ := hG.all _ hm
    obtain ⟨j, hj, rfl⟩ := List.mem_iff_getElem.1 hg
    have hjk : k ≤ j := by
      apply Classical.byContradiction
      intro hlt
      have h3 : (gs[k - 1]).hi < (gAt zs i).lo := (hG.cnt_iff ho _ (k - 1) (by omega)).2 (by omega)
      have h4 : (gs[j]).hi ≤ (gs[k - 1]).hi := by
        rcases Nat.lt_or_ge j (k - 1) with hl | hl
        · have h5 := List.pairwise_iff_getElem.1 hG.apart j (k - 1) hj (by omega) hl
          have h6 := ho _ (hG.sub _ (List.getElem_mem (show k - 1 < gs.length by omega)))
          omega
        · have e : j = k - 1 := by omega
          subst e; omega
      omega
    rcases Nat.lt_or_ge k j with hl | hl
    · have h5 := List.pairwise_iff_getElem.1 hG.apart k j hk hj hl
      have h6 := ho _ (hG.sub _ (List.getElem_mem hj))
      omega
    · have e : j = k := by omega
      subst e; omega
/-- The song with one tone more: what two tones have in common. -/
theorem right_more {zs : List Rg} {st : List Int} {g : Rg} : right (zs ++ [g]) st ↔ right zs st ∧ meets st g = true := by
  unfold right
  constructor
  · intro h
    exact ⟨fun r hr => h r (by simp [hr]), h g (by simp)⟩
  · rintro ⟨h1, h2⟩ r hr
    rcases List.mem_append.1 hr with h | h
    · exact h1 r h
    · rw [List.mem_singleton.1 h]; exact h2
theorem lenU_of_right {zs zs' : List Rg} (ho : Ok zs) (ho' : Ok zs') (hr : ∀ st, right zs st ↔ right zs' st) {a b : Nat} (ha : LenU zs a) (hb : LenU zs' b) : a = b := by
  obtain ⟨x, hx, rfl⟩ := lenU_up ha
  obtain ⟨y, hy, rfl⟩ := lenU_up hb
  have h1 := hx.len_le (hy.incr ho') ((hr _).2 hy.right)
  have h2 := hy.len_le (hx.incr ho) ((hr _).1 hx.right)
  omega
theorem lenU_both {zs : List Rg} (hz : chkS zs = 0) {i k : Nat} (hi : i < zs.length) (hk : k < zs.length) (hg : okZ (comm (gAt zs i) (gAt zs k)) = true) {a b : Nat} (ha : LenU (zs.set i (comm (gAt zs i) (gAt zs k))) a) (hb : LenU (zs ++ [comm (gAt zs i) (gAt zs k)]) b) : a = b := by
  have ho := ok_of hz
  have hg2 := (okZ_iff.1 hg).2.1
  refine lenU_of_right ?_ ?_ (fun st => ?_) ha hb
  · intro q hq
    rcases List.mem_or_eq_of_mem_set hq with h | rfl
    · exact ho q h
    · exact hg2
  · intro q hq
    rcases List.mem_append.1 hq with h | h
    · exact ho q h
    · rw [List.mem_singleton.1 h]; exact hg2
  · rw [right_narrow hi hk, right_more, meets_comm]
/-- A tone lies wholly between two places. -/
def missd (zs : List Rg) (a b : Int) : Bool := zs.any (fun t => decide (a < t.lo) && decide (t.hi < b))
theorem missd_iff {zs : List Rg} {a b : Int} : missd zs a b = true ↔ ∃ t ∈ zs, a < t.lo ∧ t.hi < b := by simp [missd]
/-- No tone is missed on the way. -/
def wlk (zs : List Rg) : Int → List Int → Bool
  | _, [] => true
  | f, x :: xs => !missd zs f x && wlk zs x xs
theorem wlk_append (zs : List Rg) (f : Int) (xs ys : List Int) : wlk zs f (xs ++ ys) = (wlk zs f xs && wlk zs ((xs.getLast?).getD f) ys) := by
  induction xs generalizing f with
  | nil => simp [wlk]
  | cons x xs ih =>
    simp only [List.cons_append, wlk, ih, Bool.and_assoc]
    congr 2
    simp [List.getLast?_cons]
theorem wlk_right {zs : List Rg} (hz : ∀ r ∈ zs, r.hi ≤ 10000) : ∀ (st : List Int) (f : Int), wlk zs f st = true → missd zs ((st.getLast?).getD f) 10001 = false → ∀ t ∈ zs, f < t.lo → ∃ x ∈ st, t.lo ≤ x ∧ x ≤ t.hi := by
  intro st
  induction st with
  | nil =>
    intro f _ h t ht hf
    have : missd zs f 10001 = true := missd_iff.2 ⟨t, ht, hf, by have := hz t ht; omega⟩
    simp at h
    rw [h] at this; cases this
  | cons x xs ih =>
    intro f h1 h2 t ht hf
    simp only [wlk, Bool.and_eq_true, Bool.not_eq_true'] at h1
    rcases Int.lt_or_le x t.lo with hl | hl
    · obtain ⟨y, hy, h3⟩ := ih x h1.2 (by
        have : ((x :: xs).getLast?).getD f = (xs.getLast?).getD x := by simp [List.getLast?_cons]
        rw [← this]; exact h2) t ht hl
      exact ⟨y, by simp [hy], h3⟩
    · refine ⟨x, by simp, hl, ?_⟩
      apply Classical.byContradiction
      intro h3
      have : missd zs f x = true := missd_iff.2 ⟨t, ht, hf, by omega⟩
      rw [h1.1] at this; cases this
theorem right_wlk {zs : List Rg} : ∀ (st : List Int) (f : Int), Incr st → (∀ x ∈ st, f < x) → (∀ t ∈ zs, f < t.lo → ∃ x ∈ st, t.lo ≤ x ∧ x ≤ t.hi) → wlk zs f st = true ∧ missd zs ((st.getLast?).getD f) 10001 = false := by
  intro st
  induction st with
  | nil =>
    intro f _ _ h
    refine ⟨rfl, ?_⟩
    cases hm : missd zs f 10001
    · simpa using hm
    · obtain ⟨t, ht, h1, h2⟩ := missd_iff.1 hm
      obtain ⟨x, hx, _⟩ := h t ht h1
      cases hx
  | cons x xs ih =>
    intro f hi hf h
    have hi' := List.pairwise_cons.1 hi
    have hfx := hf x (by simp)
    obtain ⟨h1, h2⟩ := ih x hi'.2 hi'.1 (fun t ht hl => by
      obtain ⟨y, hy, h3, h4⟩ := h t ht (by omega)
      rcases List.mem_cons.1 hy with rfl | hy
      · omega
      · exact ⟨y, hy, h3, h4⟩)
    have e : ((x :: xs).getLast?).getD f = (xs.getLast?).getD x := by simp [List.getLast?_cons]
    rw [e]
    refine ⟨?_, h2⟩
    simp only [wlk, h1, Bool.and_true, Bool.not_eq_true']
    cases hm : missd zs f x
    · rfl
    · obtain ⟨t, ht, h3, h4⟩ := missd_iff.1 hm
      obtain ⟨y, hy, h5, h6⟩ := h t ht h3
      rcases List.mem_cons.1 hy with rfl | hy
      · omega
      · have := hi'.1 y hy; omega
/-- A way from below all, over some of the places, to the place j. -/
structure Chn (zs : List Rg) (L : List Int) (j : Nat) (st : List Int) : Prop where
  incr : Incr st
  mem : ∀ x ∈ st, x ∈ L
  last : st.getLast? = some (iAt L j)
  walk : wlk zs (-1) st = true
structure DpOk (zs : List Rg) (L : List Int) (j : Nat) (v : Int) : Prop where
  le : v ≤ 1000
  ex : v = 1000 ∨ ∃ st, Chn zs L j st ∧ (st.length : Int) = v
  low : ∀ st, Chn zs L j st → v ≤ (st.length : Int)
def frm (L : List Int) (q : Nat) : Int := if q = 0 then -1 else iAt L (q - 1)
def mny (S : List Int) (q : Nat) : Int := if q = 0 then 0 else iAt S (q - 1)
/-- The fewest steps to the place k, over the first q places before. -/
def inn (zs : List Rg) (L S : List Int) (k : Nat) : Nat → Int
  | 0 => 1000
  | q + 1 => if missd zs (frm L q) (iAt L k) then inn zs L S k q else min (inn zs L S k q) (mny S q + 1)
theorem inn_le (zs : List Rg) (L S : List Int) (k q : Nat) : inn zs L S k q ≤ 1000 := by
  induction q with
  | zero => exact Int.le_refl _
  | succ q ih => simp only [inn]; split <;> omega
theorem inn_at (zs : List Rg) (L S : List Int) (k : Nat) {q m : Nat} (h : q < m) (hm : missd zs (frm L q) (iAt L k) = false) : inn zs L S k m ≤ mny S q + 1 := by
  induction m with
  | zero => omega
  | succ m ih =>
    simp only [inn]
    rcases Nat.lt_or_ge q m with hl | hl
    · have := ih hl
      split <;> omega
    · obtain rfl : q = m := by omega
      rw [hm]
      simp only [Bool.false_eq_true, if_false]
      omega
theorem inn_ex (zs : List Rg) (L S : List Int) (k m : Nat) : inn zs L S k m = 1000 ∨ ∃ q, q < m ∧ missd zs (frm L q) (iAt L k) = false ∧ inn zs L S k m = mny S q + 1 ∧ mny S q + 1 < 1000 := by
  induction m with
  | zero => exact .inl rfl
  | succ m ih =>
    have hle := inn_le zs L S k m
    simp only [inn]
    split
    · rcases ih with h | ⟨q, h1, h2, h3, h4⟩
      · exact .inl h
      · exact .inr ⟨q, by omega, h2, h3, h4⟩
    · next hm =>
      rw [Bool.not_eq_true] at hm
      rcases Int.lt_or_le (mny S m + 1) (inn zs L S k m) with hl | hl
      · exact .inr ⟨m, by omega, hm, by omega, by omega⟩
      · rw [Int.min_eq_left hl]
        rcases ih with h | ⟨q, h1, h2, h3, h4⟩
        · exact .inl h
        · exact .inr ⟨q, by omega, h2, h3, h4⟩
theorem last_split {st : List Int} {y : Int} (h : st.getLast? = some y) : ∃ s0, st = s0 ++ [y] := by
  rcases List.eq_nil_or_concat st with rfl | ⟨s0, z, rfl⟩
  · cases h
  · simp at h; exact ⟨s0, by rw [h]; simp⟩
theorem incr_at {L : List Int} (hL : Incr L) {i j : Nat} (hi : i < L.length) (hj : j < L.length) : iAt L i < iAt L j ↔ i < j := by
  rw [iAt_eq hi, iAt_eq hj]
  constructor
  · intro h
    apply Classical.byContradiction
    intro h2
    have := incr_le hL hi (show j ≤ i by omega)
    omega
  · intro h; exact incr_lt hL hj h
/-- One row more of the table. -/
theorem dp_step {zs : List Rg} {L S : List Int} (hL : Incr L) {k : Nat} (hk : k < L.length) (hS : ∀ j, j < k → DpOk zs L j (iAt S j)) : DpOk zs L k (inn zs L S k (k + 1)) := by
  refine ⟨inn_le _ _ _ _ _, ?_, ?_⟩
  · rcases inn_ex zs L S k (k + 1) with h | ⟨q, h1, h2, h3, h4⟩
    · exact .inl h
    · right
      rw [h3]
      cases q with
      | zero =>
        simp only [frm, mny, if_true] at h2 h3 h4 ⊢
        refine ⟨[iAt L k], ⟨by simp [Incr], ?_, by simp, ?_⟩, by simp⟩
        · intro x hx
          rw [List.mem_singleton.1 hx]; exact mem_iAt hk
        · simp [wlk, h2]
      | succ j =>
        simp only [frm, mny, Nat.succ_ne_zero, if_false, Nat.add_sub_cancel] at h2 h3 h4 ⊢
        have hj : j < k := by omega
        rcases (hS j hj).ex with h | ⟨st, hc, hl⟩
        · omega
        · obtain ⟨s0, rfl⟩ := last_split hc.last
          have hlt := (incr_at hL (show j < L.length by omega) hk).2 hj
          refine ⟨s0 ++ [iAt L j] ++ [iAt L k], ⟨?_, ?_, by simp, ?_⟩, by simp at hl ⊢; omega⟩
          · unfold Incr
            rw [List.pairwise_append]
            refine ⟨hc.incr, by simp, ?_⟩
            intro a ha b hb
            rw [List.mem_singleton.1 hb]
            rcases List.mem_append.1 ha with h | h
            · have := (List.pairwise_append.1 hc.incr).2.2 a h (iAt L j) (by simp)
              omega
            · rw [List.mem_singleton.1 h]; exact hlt
          · intro x hx
            rcases List.mem_append.1 hx with h | h
            · exact hc.mem x h
            · rw [List.mem_singleton.1 h]; exact mem_iAt hk
          · rw [wlk_append, hc.walk]
            simp [wlk, h2]
  · intro st hc
    obtain ⟨s0, rfl⟩ := last_split hc.last
    have hw := hc.walk
    rw [wlk_append, Bool.and_eq_true] at hw
    rcases List.eq_nil_or_concat s0 with rfl | ⟨s1, y, rfl⟩
    · have := inn_at zs L S k (q := 0) (m := k + 1) (by omega) (by simpa [wlk, frm] using hw.2)
      simpa [mny] using this
    · simp only [List.concat_eq_append] at hc hw ⊢
      have hy : y ∈ L := hc.mem y (by simp)
      obtain ⟨j, hj, he⟩ := List.mem_iff_getElem.1 hy
      have he' : iAt L j = y := by rw [iAt_eq hj]; exact he
      have hlt : y < iAt L k := (List.pairwise_append.1 hc.incr).2.2 y (by simp) (iAt L k) (by simp)
      rw [← he'] at hlt
      have hjk := (incr_at hL hj hk).1 hlt
      have hch : Chn zs L j (s1 ++ [y]) := ⟨(List.pairwise_append.1 hc.incr).1, fun x hx => hc.mem x (by simp at hx ⊢; rcases hx with h | h <;> simp [h]), by simp [he'], hw.1⟩
      have h1 := (hS j hjk).low _ hch
      have h2 := inn_at zs L S k (q := j + 1) (m := k + 1) (by omega) (by
        have := hw.2
        simp [wlk] at this
        simp only [frm, Nat.succ_ne_zero, if_false, Nat.add_sub_cancel, he']
        exact this)
      simp only [mny, Nat.succ_ne_zero, if_false, Nat.add_sub_cancel] at h2
      simp at h1 ⊢
      omega
structure BsI (zs : List Rg) (L : List Int) (k : Nat) (b : Int) : Prop where
  le : b ≤ 1000
  ex : b = 1000 ∨ ∃ j st, j < k ∧ Chn zs L j st ∧ missd zs (iAt L j) 10001 = false ∧ (st.length : Int) = b
  low : ∀ j st, j < k → Chn zs L j st → missd zs (iAt L j) 10001 = false → b ≤ (st.length : Int)
theorem bs_start (zs : List Rg) (L : List Int) : BsI zs L 0 1000 := ⟨Int.le_refl _, .inl rfl, fun j _ h => absurd h (by omega)⟩
theorem bs_skip {zs : List Rg} {L : List Int} {k : Nat} {b : Int} (h : BsI zs L k b) (hm : missd zs (iAt L k) 10001 = true) : BsI zs L (k + 1) b := by
  refine ⟨h.le, ?_, fun j st hj hc h1 => ?_⟩
  · rcases h.ex with h | ⟨j, st, h1, h2⟩
    · exact .inl h
    · exact .inr ⟨j, st, by omega, h2⟩
  · rcases Nat.lt_or_ge j k with hl | hl
    · exact h.low j st hl hc h1
    · obtain rfl : j = k := by omega
      rw [hm] at h1; cases h1
theorem bs_take {zs : List Rg} {L : List Int} {k : Nat} {b v : Int} (h : BsI zs L k b) (hm : missd zs (iAt L k) 10001 = false) (hv : DpOk zs L k v) : BsI zs L (k + 1) (min b v) := by
  refine ⟨by have := h.le; omega, ?_, fun j st hj hc h1 => ?_⟩
  · rcases Int.lt_or_le v b with hl | hl
    · rw [Int.min_eq_right (by omega)]
      rcases hv.ex with h2 | ⟨st, h2, h3⟩
      · exact .inl h2
      · exact .inr ⟨k, st, by omega, h2, hm, h3⟩
    · rw [Int.min_eq_left hl]
      rcases h.ex with h | ⟨j, st, h1, h2⟩
      · exact .inl h
      · exact .inr ⟨j, st, by omega, h2⟩
  · rcases Nat.lt_or_ge j k with hl | hl
    · have := h.low j st hl hc h1; omega
    · obtain rfl : j = k := by omega
      have := hv.low st hc; omega
/-- Where a step may be. -/
def gdP (zs : List Rg) (g : Rg) (p : Int) : Bool := decide (p = g.lo - 1) || decide (p = g.hi + 1) || zs.any (fun t => decide (p = t.hi) || decide (p = t.lo))
def outP (g : Rg) (p : Int) : Bool := decide (p < g.lo) || decide (g.hi < p)
def plcs (zs : List Rg) (g : Rg) (P : Nat) : List Int := ((List.range P).map (fun i : Nat => (i : Int))).filter (fun p => gdP zs g p && outP g p)
theorem plcs_succ (zs : List Rg) (g : Rg) (P : Nat) : plcs zs g (P + 1) = if (gdP zs g P && outP g P) = true then plcs zs g P ++ [(P : Int)] else plcs zs g P := by
  unfold plcs
  rw [List.range_succ, List.map_append, List.filter_append]
  by_cases h : (gdP zs g P && outP g P) = true <;> simp [h]
theorem plcs_len (zs : List Rg) (g : Rg) (P : Nat) : (plcs zs g P).length ≤ P := by
  unfold plcs
  exact Nat.le_trans (List.length_filter_le _ _) (by simp)
theorem plcs_incr (zs : List Rg) (g : Rg) (P : Nat) : Incr (plcs zs g P) := by
  unfold plcs Incr
  refine List.Pairwise.filter _ ?_
  rw [List.pairwise_map]
  exact List.pairwise_lt_range.imp (fun h => by omega)
theorem plcs_mem {zs : List Rg} {g : Rg} {P : Nat} {x : Int} : x ∈ plcs zs g P ↔ (0 ≤ x ∧ x < P) ∧ gdP zs g x = true ∧ outP g x = true := by
  unfold plcs
  rw [List.mem_filter, List.mem_map, Bool.and_eq_true]
  refine and_congr_left fun _ => ?_
  constructor
  · rintro ⟨i, hi, rfl⟩
    rw [List.mem_range] at hi
    omega
  · intro h
    exact ⟨x.toNat, by rw [List.mem_range]; omega, by omega⟩
/-- What the document's without hands back: the fewest steps, or the great number. -/
theorem without_ok {zs : List Rg} (hz : chkS zs = 0) {g : Rg} (hg : okZ g = true) {P : Nat} (hP : P = 10001) {b : Int} (hb : BsI zs (plcs zs g P) (plcs zs g P).length b) :
    (validZ (zs.map (woR g)) = false → b = 1000) ∧ (validZ (zs.map (woR g)) = true → ∀ c, LenU (zs.map (woR g)) c → c ≤ 24 → b = (c : Int)) := by
  have hhi : ∀ r ∈ zs, r.hi ≤ 10000 := fun r hr => (okR hz r hr).2.2
  have hne : ∀ {st : List Int}, right zs st → st ≠ [] := by
    rintro st hr rfl
    have h1 := (chkS_zero.1 hz).1
    obtain ⟨r, hm⟩ := List.exists_mem_of_length_pos (show 0 < zs.length by omega)
    have := hr r hm
    simp [meets] at this
  have hfull : ∀ {j st}, Chn zs (plcs zs g P) j st → missd zs (iAt (plcs zs g P) j) 10001 = false → right zs st ∧ ∀ x ∈ st, ¬ (g.lo ≤ x ∧ x ≤ g.hi) := by
    intro j st hc hm
    refine ⟨fun r hr => meets_iff.2 ?_, fun x hx h => ?_⟩
    · exact wlk_right hhi st (-1) hc.walk (by rw [hc.last]; exact hm) r hr (by have := okR hz r hr; omega)
    · have := (plcs_mem.1 (hc.mem x hx)).2.2
      simp [outP] at this
      omega
  refine ⟨fun hv => ?_, fun hv c hc hc24 => ?_⟩
  · rcases hb.ex with h | ⟨j, st, _, h1, h2, _⟩
    · exact h
    · obtain ⟨h3, h4⟩ := hfull h1 h2
      rw [wo_valid hz h3 h4] at hv; cases hv
  · have hg2 := okZ_iff.1 hg
    have hw := wo_least hg2.2.1 (okZ_valid hv) hc
    obtain ⟨gs, h1, rfl⟩ := hc
    have hf := up_wo hg2.2.1 h1
    have hi := h1.incr (okZ_valid hv)
    have hr := (right_wo hf).1 h1.right
    obtain ⟨st, hst⟩ : ∃ st, gs.map (·.hi) = st := ⟨_, rfl⟩
    have hl : st.length = gs.length := by rw [← hst]; simp
    have hmem : ∀ x ∈ st, x ∈ plcs zs g P := by
      intro x hx
      rw [← hst] at hx
      have h0 := hf x hx
      obtain ⟨q, hq, rfl⟩ := List.mem_map.1 hx
      have h5 := List.all_eq_true.1 hv q (h1.sub q hq)
      obtain ⟨r, hr, rfl⟩ := List.mem_map.1 (h1.sub q hq)
      have h6 := okZ_iff.1 h5
      refine plcs_mem.2 ⟨by omega, ?_, ?_⟩
      · simp only [gdP, Bool.or_eq_true, decide_eq_true_eq, List.any_eq_true]
        simp only [woR]
        split
        · exact .inl (.inl rfl)
        · exact .inr ⟨r, hr, .inl rfl⟩
      · simp only [outP, Bool.or_eq_true, decide_eq_true_eq]
        omega
    rw [hst] at hi hr hf
    have hlow : ∀ x ∈ st, (-1 : Int) < x := fun x hx => by have := (plcs_mem.1 (hmem x hx)).1; omega
    obtain ⟨h7, h8⟩ := right_wlk st (-1) hi hlow (fun t ht _ => meets_iff.1 (hr t ht))
    obtain ⟨y, hy⟩ : ∃ y, st.getLast? = some y := by
      rcases List.eq_nil_or_concat st with h0 | ⟨s0, z, h0⟩
      · exact absurd h0 (hne hr)
      · exact ⟨z, by rw [h0]; simp⟩
    rw [hy] at h8
    have hyL := hmem y (List.mem_of_getLast? hy)
    obtain ⟨j, hj, he⟩ := List.mem_iff_getElem.1 hyL
    have he' : iAt (plcs zs g P) j = y := by rw [iAt_eq hj]; exact he
    have hch : Chn zs (plcs zs g P) j st := ⟨hi, hmem, by rw [he']; exact hy, h7⟩
    have h9 := hb.low j st hj hch (by rw [he']; exact h8)
    rcases hb.ex with h | ⟨j2, st2, _, a1, a2, a3⟩
    · omega
    · obtain ⟨a4, a5⟩ := hfull a1 a2
      have := hw.2 st2 a1.incr a4 a5
      omega
end Go.Proofs.Ytdfdlklglbefiaa
