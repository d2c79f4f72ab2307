/- Stage 3: the mathematics of Below: how many upper ends lie below each tone. -/
import Derived.Test.YtdfdlklglbefiaaShr
import Derived.Test.YtdfdlklglbefiaaCka
namespace Go.Proofs.Ytdfdlklglbefiaa
set_option linter.unusedSimpArgs false
set_option linter.unusedVariables false

theorem onR_comm (x : Int) (a b : Rg) : onR x (comm a b) = true ↔ onR x a = true ∧ onR x b = true := by
  simp only [onR_iff, comm]
  omega
theorem right_at {zs : List Rg} {st : List Int} : right zs st ↔ ∀ j, j < zs.length → meets st (gAt zs j) = true := by
  constructor
  · intro h j hj
    rw [gAt_eq hj]; exact h _ (List.getElem_mem _)
  · intro h r hr
    obtain ⟨j, hj, rfl⟩ := List.mem_iff_getElem.1 hr
    have := h j hj
    rwa [gAt_eq hj] at this
theorem gAt_set {zs : List Rg} {i j : Nat} (r : Rg) (hi : i < zs.length) : gAt (zs.set i r) j = if i = j then r else gAt zs j := by
  unfold gAt
  simp only [List.getD, List.getElem?_set]
  split
  · simp [hi]
  · rfl
/-- Right for the narrow song are the scales in which both tones share a step. -/
theorem right_narrow {zs : List Rg} {st : List Int} {i k : Nat} (hi : i < zs.length) (hk : k < zs.length) :
    right (zs.set i (comm (gAt zs i) (gAt zs k))) st ↔ right zs st ∧ ∃ x ∈ st, onR x (gAt zs i) = true ∧ onR x (gAt zs k) = true := by
  rw [right_at, right_at]
  constructor
  · intro h
    have hc : ∃ x ∈ st, onR x (gAt zs i) = true ∧ onR x (gAt zs k) = true := by
      have := h i (by rw [List.length_set]; exact hi)
      rw [gAt_set _ hi, if_pos rfl] at this
      unfold meets at this
      obtain ⟨x, hx, h1⟩ := List.any_eq_true.1 this
      exact ⟨x, hx, (onR_comm _ _ _).1 h1⟩
    refine ⟨fun j hj => ?_, hc⟩
    by_cases e : i = j
    · subst e
      obtain ⟨x, hx, h1, _⟩ := hc
      exact List.any_eq_true.2 ⟨x, hx, h1⟩
    · have := h j (by rw [List.length_set]; exact hj)
      rwa [gAt_set _ hi, if_neg e] at this
  · rintro ⟨h, x, hx, h1, h2⟩ j hj
    rw [List.length_set] at hj
    rw [gAt_set _ hi]
    split
    · exact List.any_eq_true.2 ⟨x, hx, (onR_comm _ _ _).2 ⟨h1, h2⟩⟩
    · exact h j hj
/-- A scale without a step in a gap does not feel that ends are moved out of it. -/
theorem meets_wo {g r : Rg} {st : List Int} (h : ∀ x ∈ st, ¬ (g.lo ≤ x ∧ x ≤ g.hi)) : meets st (woR g r) = meets st r := by
  rw [Bool.eq_iff_iff, meets_iff, meets_iff]
  constructor
  · rintro ⟨x, hx, h1, h2⟩
    refine ⟨x, hx, ?_⟩
    have := h x hx
    simp only [woR] at h1 h2
    split at h1 <;> split at h2 <;> omega
  · rintro ⟨x, hx, h1, h2⟩
    refine ⟨x, hx, ?_⟩
    have := h x hx
    simp only [woR]
    constructor
    · split <;> omega
    · split <;> omega
theorem right_wo {zs : List Rg} {g : Rg} {st : List Int} (h : ∀ x ∈ st, ¬ (g.lo ≤ x ∧ x ≤ g.hi)) : right (zs.map (woR g)) st ↔ right zs st := by
  constructor
  · intro hr r hm
    have := hr _ (List.mem_map.2 ⟨r, hm, rfl⟩)
    rwa [meets_wo h] at this
  · intro hr r hm
    obtain ⟨q, hq, rfl⟩ := List.mem_map.1 hm
    rw [meets_wo h]; exact hr q hq
/-- The upper ends of what is left lie out of the gap. -/
theorem up_wo {zs gs : List Rg} {g : Rg} (hg : g.lo ≤ g.hi) (h : IsG gs (zs.map (woR g))) : ∀ x ∈ gs.map (·.hi), ¬ (g.lo ≤ x ∧ x ≤ g.hi) := by
  intro x hx
  obtain ⟨q, hq, rfl⟩ := List.mem_map.1 hx
  obtain ⟨r, hr, rfl⟩ := List.mem_map.1 (h.sub q hq)
  simp only [woR]
  split <;> omega
/-- The least number of steps of the scales that have none in the gap. -/
theorem wo_least {zs : List Rg} {g : Rg} (hg : g.lo ≤ g.hi) (ho : Ok (zs.map (woR g))) {c : Nat} (h : LenU (zs.map (woR g)) c) :
    (∃ st, Incr st ∧ right zs st ∧ (∀ x ∈ st, ¬ (g.lo ≤ x ∧ x ≤ g.hi)) ∧ st.length = c) ∧
    ∀ st, Incr st → right zs st → (∀ x ∈ st, ¬ (g.lo ≤ x ∧ x ≤ g.hi)) → c ≤ st.length := by
  obtain ⟨gs, h1, rfl⟩ := h
  have hf := up_wo hg h1
  exact ⟨⟨gs.map (·.hi), h1.incr ho, (right_wo hf).1 h1.right, hf, by simp⟩, fun st hi hr hn => h1.len_le hi ((right_wo hn).2 hr)⟩
end Go.Proofs.Ytdfdlklglbefiaa

namespace Go.Proofs.Ytdfdlklglbefiaa
set_option linter.unusedSimpArgs false
set_option linter.unusedVariables false

theorem nodup_sub_len {α : Type} [DecidableEq α] (l m : List α) (h : l.Nodup) (hs : ∀ x ∈ l, x ∈ m) : l.length ≤ m.length := by
  induction l generalizing m with
  | nil => simp
  | cons x l ih =>
    rw [List.nodup_cons] at h
    have hx := hs x (by simp)
    have h1 := ih (m.erase x) h.2 (fun y hy => (List.mem_erase_of_ne (by rintro rfl; exact h.1 hy)).2 (hs y (by simp [hy])))
    rw [List.length_erase_of_mem hx] at h1
    have : 0 < m.length := List.length_pos_of_mem hx
    simp
    omega
theorem incr_nodup {l : List Int} (h : Incr l) : l.Nodup := h.imp (fun h => by omega)
theorem ok_of {zs : List Rg} (h : chkS zs = 0) : Ok zs := (chkS_ok h).2
theorem len_of {zs : List Rg} (h : chkS zs = 0) : 1 ≤ zs.length ∧ zs.length ≤ 24 := by
  have := chkS_zero.1 h
  exact ⟨this.1, this.2.1⟩
/-- A scale that is right, in the words of the program. -/
theorem ckSc_iff {zs : List Rg} {st : List Int} (h : chkS zs = 0) : ckSc zs st = 0 ↔ Incr st ∧ st.length ≤ 24 ∧ (∀ x ∈ st, 0 ≤ x ∧ x ≤ 10000) ∧ right zs st := by
  rw [ckSc_zero, isSc_zero, risB_iff]
  have hw : withI 0 10000 st = true ↔ ∀ x ∈ st, 0 ≤ x ∧ x ≤ 10000 := by
    simp [withI, inB]
  have hr : zs.all (meets st) = true ↔ right zs st := by
    simp [right, List.all_eq_true]
  rw [hw, hr]
  constructor
  · rintro ⟨⟨_, h1, h2, h3⟩, h4⟩; exact ⟨h3, h1, h2, h4⟩
  · rintro ⟨h3, h1, h2, h4⟩; exact ⟨⟨h, h1, h2, h3⟩, h4⟩
theorem up_in {zs : List Rg} {x : List Int} (h : IsUp zs x) : ∀ y ∈ x, ∃ r ∈ zs, y = r.hi := by
  obtain ⟨gs, hg, rfl⟩ := h
  intro y hy
  obtain ⟨g, hg2, rfl⟩ := List.mem_map.1 hy
  exact ⟨g, hg.sub g hg2, rfl⟩
theorem dn_in_ {zs : List Rg} {x : List Int} (h : IsDn zs x) : ∀ y ∈ x, ∃ r ∈ zs, y = r.lo := by
  obtain ⟨gs, hg, rfl⟩ := h
  intro y hy
  rw [List.mem_reverse, List.mem_map] at hy
  obtain ⟨z, hz, rfl⟩ := hy
  obtain ⟨g, hg2, rfl⟩ := List.mem_map.1 hz
  obtain ⟨r, hr, rfl⟩ := List.mem_map.1 (hg.sub g hg2)
  exact ⟨r, hr, by simp [mirR]⟩
theorem okR {zs : List Rg} (h : chkS zs = 0) : ∀ r ∈ zs, 0 ≤ r.lo ∧ r.lo ≤ r.hi ∧ r.hi ≤ 10000 := fun r hr => by
  have := List.all_eq_true.1 (chkS_ok h).1 r hr
  simpa [okZ, and_assoc] using this
theorem up_len {zs : List Rg} (h : chkS zs = 0) {x : List Int} (hx : IsUp zs x) : x.length ≤ zs.length := by
  have h1 := nodup_sub_len x (zs.map (·.hi)) (incr_nodup (hx.incr (ok_of h))) (fun y hy => by
    obtain ⟨r, hr, e⟩ := up_in hx y hy
    exact List.mem_map.2 ⟨r, hr, e.symm⟩)
  simpa using h1
theorem up_right {zs : List Rg} (h : chkS zs = 0) {x : List Int} (hx : IsUp zs x) : ckSc zs x = 0 := by
  rw [ckSc_iff h]
  refine ⟨hx.incr (ok_of h), ?_, ?_, hx.right⟩
  · have := up_len h hx; have := len_of h; omega
  · intro y hy
    obtain ⟨r, hr, rfl⟩ := up_in hx y hy
    have := okR h r hr
    omega
theorem dn_right {zs : List Rg} (h : chkS zs = 0) {x y : List Int} (hx : IsDn zs x) (hy : IsUp zs y) : ckSc zs x = 0 := by
  rw [ckSc_iff h]
  refine ⟨hx.incr (ok_of h), ?_, ?_, hx.right⟩
  · have := up_len h hy; have := len_of h; have := dn_up_len (ok_of h) hx hy; omega
  · intro y hy
    obtain ⟨r, hr, rfl⟩ := dn_in_ hx y hy
    have := okR h r hr
    omega
/-- No right scale has fewer steps. -/
theorem up_least {zs : List Rg} (h : chkS zs = 0) {x st : List Int} (hx : IsUp zs x) (hs : ckSc zs st = 0) : x.length ≤ st.length := by
  obtain ⟨h1, _, _, h2⟩ := (ckSc_iff h).1 hs
  exact hx.len_le h1 h2
theorem lenU_up {zs : List Rg} {a : Nat} (h : LenU zs a) : ∃ x, IsUp zs x ∧ x.length = a := by
  obtain ⟨gs, hg, rfl⟩ := h
  exact ⟨_, ⟨gs, hg, rfl⟩, by simp⟩
theorem up_lenU {zs : List Rg} {x : List Int} (h : IsUp zs x) : LenU zs x.length := by
  obtain ⟨gs, hg, rfl⟩ := h
  exact ⟨gs, hg, by simp⟩
theorem lenU_eq {zs : List Rg} (ho : Ok zs) {a b : Nat} (h : LenU zs a) (h' : LenU zs b) : a = b := by
  obtain ⟨gs, hg, rfl⟩ := h
  obtain ⟨hs, hh, rfl⟩ := h'
  exact hg.len_eq hh ho

/-! Tones that are apart. -/
theorem srtL_incr {l : List Int} (h : l.Nodup) : Incr (srtL l) := by
  have h1 := srtL_sorted l
  have h2 : (srtL l).Nodup := (srtL_perm l).nodup_iff.2 h
  unfold Incr
  have h3 : (srtL l).Pairwise (fun a b => a ≤ b ∧ a ≠ b) := List.pairwise_and_iff.2 ⟨h1, h2⟩
  exact h3.imp (fun h => by omega)
theorem tn_of {zs : List Rg} {t : Tn} (h : t ∈ tnOf zs) : t.nm < zs.length ∧ t.r = gAt zs t.nm := by
  simp only [tnOf, tnK, List.mem_map, List.mem_range] at h
  obtain ⟨i, hi, rfl⟩ := h
  exact ⟨hi, rfl⟩
theorem mem_iAt {l : List Int} {i : Nat} (h : i < l.length) : iAt l i ∈ l := by
  rw [iAt_eq h]; exact List.getElem_mem h
theorem grd_of {zs : List Rg} (h : chkS zs = 0) {ys : List Tn} (hg : GoodO (plE true) (tnOf zs) zs.length ys) : GrdI (grE true [] ys) ys := by
  rw [grE_true]
  refine grd_ok ys (fun t ht => ?_) ?_
  · have := okR h _ ((good_mem hg _).1 (List.mem_map.2 ⟨t, ht, rfl⟩))
    omega
  · have hs := hg.2.1
    rw [← hg.2.2] at hs
    exact (srt_pair hs).imp (fun h => by simpa [plE] using h)
/-- What Apart returns: names of tones that are apart, as many as a short scale has steps. -/
theorem apart_ok {zs : List Rg} (h : chkS zs = 0) {x : List Int} (hx : ApartR zs x) : ckAp zs x = 0 ∧ LenU zs x.length := by
  obtain ⟨ys, hg, rfl⟩ := hx
  have hG := grd_of h hg
  have hu := up_short (ok_of h) hg
  obtain ⟨G, hGe⟩ : ∃ G, grE true [] ys = G := ⟨_, rfl⟩
  rw [hGe] at hG hu ⊢
  have hin : ∀ t ∈ G, t.nm < zs.length ∧ t.r = gAt zs t.nm := fun t ht => tn_of (hg.1.mem_iff.1 (hG.sub t ht))
  have hok : ∀ t ∈ G, t.r.lo ≤ t.r.hi := fun t ht => (okR h t.r ((good_mem hg _).1 (List.mem_map.2 ⟨t, hG.sub t ht, rfl⟩))).2.1
  have hne : ∀ a ∈ G, ∀ b ∈ G, a.r.hi < b.r.lo → a.nm ≠ b.nm := fun a ha b hb hl e => by
    have h1 := hok a ha
    have e1 : a.r = b.r := by rw [(hin a ha).2, (hin b hb).2, e]
    rw [e1] at h1 hl
    omega
  have hnd : (nmsE G).Nodup := by
    unfold nmsE
    rw [List.Nodup, List.pairwise_map]
    refine hG.apart.imp_of_mem (fun {a b} ha hb hl e => hne a ha b hb hl (by exact_mod_cast e))
  have hmem : ∀ y ∈ srtL (nmsE G), ∃ t ∈ G, y = (t.nm : Int) := fun y hy => by
    obtain ⟨t, ht, rfl⟩ := List.mem_map.1 ((srtL_perm _).mem_iff.1 hy)
    exact ⟨t, ht, rfl⟩
  have hinc := srtL_incr hnd
  refine ⟨?_, ?_⟩
  · unfold ckAp
    rw [if_neg (by simpa using h), if_neg, if_pos]
    · rw [apB_iff]
      intro i hi k hk
      obtain ⟨a, ha, ea⟩ := hmem _ (mem_iAt hi)
      obtain ⟨b, hb, eb⟩ := hmem _ (mem_iAt (show k < (srtL (nmsE G)).length by omega))
      have hlt : iAt (srtL (nmsE G)) k < iAt (srtL (nmsE G)) i := by
        rw [iAt_eq hi, iAt_eq (by omega)]; exact incr_lt hinc hi hk
      unfold nmAt ovl
      rw [ea, eb, Int.toNat_natCast, Int.toNat_natCast, ← (hin a ha).2, ← (hin b hb).2]
      have hne2 : a ≠ b := by rintro rfl; omega
      have hor : a.r.hi < b.r.lo ∨ b.r.hi < a.r.lo := by
        obtain ⟨p, hp, rfl⟩ := List.mem_iff_getElem.1 ha
        obtain ⟨q, hq, rfl⟩ := List.mem_iff_getElem.1 hb
        rcases Nat.lt_trichotomy p q with e | e | e
        · exact .inl (List.pairwise_iff_getElem.1 hG.apart p q hp hq e)
        · subst e; exact absurd rfl hne2
        · exact .inr (List.pairwise_iff_getElem.1 hG.apart q p hq hp e)
      have := hok a ha
      have := hok b hb
      exact decide_eq_false (by omega)
    · rw [Bool.not_eq_false]
      refine okN_true (fun i hi => ?_) (fun i hi => ?_)
      · obtain ⟨t, ht, e⟩ := hmem _ (mem_iAt hi)
        have := (hin t ht).1
        rw [e]; omega
      · rw [iAt_eq hi, iAt_eq (by omega)]; exact incr_lt hinc hi (by omega)
  · rw [srtL_len]
    exact ⟨_, hu.1, by simp [nmsE]⟩
theorem ckAp_iff {zs : List Rg} (h : chkS zs = 0) {ns : List Int} : ckAp zs ns = 0 ↔ (∀ i, i < ns.length → 0 ≤ iAt ns i ∧ iAt ns i < zs.length) ∧ Incr ns ∧ ∀ i, i < ns.length → ∀ k, k < i → ovl (nmAt zs ns i) (nmAt zs ns k) = false := by
  unfold ckAp
  rw [if_neg (by simpa using h), ← apB_iff]
  have h1 : okN zs.length ns = true ↔ (∀ i, i < ns.length → 0 ≤ iAt ns i ∧ iAt ns i < zs.length) ∧ Incr ns := by
    unfold okN
    rw [Bool.and_eq_true, risB_iff]
    refine and_congr_left (fun _ => ?_)
    simp only [withI, List.all_eq_true, inB, Bool.and_eq_true, decide_eq_true_eq]
    constructor
    · intro h2 i hi
      have := h2 _ (mem_iAt hi)
      omega
    · intro h2 x hx
      obtain ⟨i, hi, rfl⟩ := List.mem_iff_getElem.1 hx
      have := h2 i hi
      rw [iAt_eq hi] at this
      omega
  constructor
  · intro h2
    split at h2
    · omega
    · next h3 =>
      rw [Bool.not_eq_false] at h3
      obtain ⟨a, b⟩ := h1.1 h3
      refine ⟨a, b, ?_⟩
      cases hb : apB zs ns
      · rw [hb] at h2; simp at h2
      · rfl
  · rintro ⟨a, b, c⟩
    rw [if_neg (by rw [h1.2 ⟨a, b⟩]; simp), if_pos c]
/-- No more tones are apart than a right scale has steps. -/
theorem apart_least {zs : List Rg} (h : chkS zs = 0) {ns st : List Int} (hn : ckAp zs ns = 0) (hs : right zs st) : ns.length ≤ st.length := by
  obtain ⟨h1, h2, h3⟩ := (ckAp_iff h).1 hn
  have hst : ∀ i : Fin ns.length, ∃ x ∈ st, (nmAt zs ns i).lo ≤ x ∧ x ≤ (nmAt zs ns i).hi := fun i => by
    have := h1 i i.2
    have hj : (iAt ns i).toNat < zs.length := by omega
    exact meets_iff.1 (hs _ (by unfold nmAt; rw [gAt_eq hj]; exact List.getElem_mem hj))
  have h4 := nodup_sub_len ((List.finRange ns.length).map (fun i => Classical.choose (hst i))) st ?_ ?_
  · simpa using h4
  · rw [List.Nodup, List.pairwise_map]
    rw [List.pairwise_iff_getElem]
    intro p q hp hq hpq
    simp only [List.getElem_finRange]
    simp only [List.length_finRange] at hp hq
    have a := Classical.choose_spec (hst ⟨p, hp⟩)
    have b := Classical.choose_spec (hst ⟨q, hq⟩)
    intro e
    simp only [Fin.cast_mk] at e
    rw [e] at a
    have := h3 q hq p hpq
    unfold ovl at this
    have := of_decide_eq_false this
    have a2 := a.2
    have b2 := b.2
    simp only at a2 b2
    omega
  · intro x hx
    obtain ⟨i, _, rfl⟩ := List.mem_map.1 hx
    exact (Classical.choose_spec (hst i)).1
end Go.Proofs.Ytdfdlklglbefiaa

namespace Go.Proofs.Ytdfdlklglbefiaa
set_option linter.unusedSimpArgs false
set_option linter.unusedVariables false

theorem exG {zs : List Rg} (ho : Ok zs) : ∃ gs, IsG gs zs := by
  obtain ⟨ys, hys⟩ : ∃ ys, ys = (zs.map (fun r => (⟨r, 0⟩ : Tn))).mergeSort (fun a b => decide (a.r.hi ≤ b.r.hi)) := ⟨_, rfl⟩
  have hp : ys.Perm (zs.map (fun r => (⟨r, 0⟩ : Tn))) := by rw [hys]; exact List.mergeSort_perm _ _
  have hs : ys.Pairwise (fun a b => a.r.hi ≤ b.r.hi) := by
    rw [hys]
    have := List.pairwise_mergeSort (le := fun a b : Tn => decide (a.r.hi ≤ b.r.hi)) (by intro a b c h1 h2; simp at *; omega) (by intro a b; simp; omega) (zs.map (fun r => (⟨r, 0⟩ : Tn)))
    exact this.imp (fun h => by simpa using h)
  have hm : ∀ r, r ∈ ys.map (·.r) ↔ r ∈ zs := fun r => by
    have := (hp.map (·.r)).mem_iff (a := r)
    rw [this, List.map_map]
    simp
  have hg := grd_ok ys (fun t ht => ho _ ((hm _).1 (List.mem_map.2 ⟨t, ht, rfl⟩))) hs
  exact ⟨_, hg.isG.perm hm⟩
/-- How many tones there are, one above the other, the last one being this. -/
def blw (zs gs : List Rg) (i : Nat) : Int := (cntB gs (gAt zs i).lo : Int) + 1
theorem cntB_mono (gs : List Rg) {x y : Int} (h : x ≤ y) : cntB gs x ≤ cntB gs y := by
  unfold cntB
  induction gs with
  | nil => simp
  | cons g l ih =>
    rw [List.countP_cons, List.countP_cons]
    split
    · next e => rw [if_pos (by simp at e ⊢; omega)]; omega
    · split <;> omega
theorem cntB_lt {gs : List Rg} {x y : Int} {g : Rg} (hg : g ∈ gs) (h1 : x ≤ g.hi) (h2 : g.hi < y) : cntB gs x < cntB gs y := by
  unfold cntB
  induction gs with
  | nil => simp at hg
  | cons q l ih =>
    rw [List.countP_cons, List.countP_cons]
    rcases List.mem_cons.1 hg with rfl | hg
    · have := cntB_mono l (show x ≤ y by omega)
      unfold cntB at this
      rw [if_neg (by simp; omega), if_pos (by simpa using h2)]
      omega
    · have := ih hg
      split
      · next e => rw [if_pos (by simp at e ⊢; omega)]; omega
      · split <;> omega
theorem cntB_below {gs zs : List Rg} (h : IsG gs zs) {r q : Rg} (hr : r ∈ zs) (hq : q.hi < r.lo) (hqz : q ∈ zs) : cntB gs q.lo < cntB gs r.lo := by
  obtain ⟨g, hg, h1, h2⟩ := h.all q hqz
  exact cntB_lt hg h1 (by omega)
/-- A tone that the last upper end below belongs to. -/
theorem cntB_pred {gs zs : List Rg} (h : IsG gs zs) (ho : Ok zs) {r : Rg} {c : Nat} (hc : cntB gs r.lo = c + 1) : ∃ q ∈ zs, q.hi < r.lo ∧ c ≤ cntB gs q.lo := by
  have hlen : c < gs.length := by have := cntB_le gs r.lo; omega
  have h1 := (h.cnt_iff ho r.lo c hlen).2 (by omega)
  refine ⟨gs[c], h.sub _ (List.getElem_mem _), h1, ?_⟩
  rcases Nat.eq_zero_or_pos c with e | e
  · omega
  · have h2 := List.pairwise_iff_getElem.1 h.apart (c - 1) c (by omega) hlen (by omega)
    have h3 := (h.cnt_iff ho (gs[c]).lo (c - 1) (by omega)).1 h2
    omega
theorem cntB_top {gs zs : List Rg} (h : IsG gs zs) {r : Rg} (hr : r ∈ zs) : cntB gs r.lo < gs.length := by
  obtain ⟨g, hg, h1, h2⟩ := h.all r hr
  have : cntB gs r.lo ≤ (gs.filter (fun g => decide (g.hi < r.lo))).length := by unfold cntB; rw [List.countP_eq_length_filter]; exact Nat.le_refl _
  have h3 : (gs.filter (fun g => decide (g.hi < r.lo))).length < gs.length := by
    rw [List.length_filter_lt_length_iff_exists]
    exact ⟨g, hg, by simp; omega⟩
  omega
theorem isG_len {gs zs : List Rg} (h : IsG gs zs) (ho : Ok zs) : gs.length ≤ zs.length := by
  have h1 := nodup_sub_len (gs.map (·.hi)) (zs.map (·.hi)) (incr_nodup (h.incr ho)) (fun y hy => by
    obtain ⟨g, hg, rfl⟩ := List.mem_map.1 hy
    exact List.mem_map.2 ⟨g, h.sub g hg, rfl⟩)
  simpa using h1
theorem iAt_set {o : List Int} {i j : Nat} (v : Int) (hi : i < o.length) : iAt (o.set i v) j = if i = j then v else iAt o j := by
  unfold iAt
  simp only [List.getD, List.getElem?_set]
  split
  · simp [hi]
  · rfl
/-- The state behind r rounds, and of m tones in the next one. -/
structure BlI (zs gs : List Rg) (r m : Nat) (o : List Int) : Prop where
  len : o.length = zs.length
  up : ∀ i, i < zs.length → 0 ≤ iAt o i ∧ iAt o i ≤ blw zs gs i
  low : ∀ i, i < zs.length → min ((r : Int) + (if i < m then 1 else 0)) (blw zs gs i) ≤ iAt o i
theorem BlI.start (zs gs : List Rg) : BlI zs gs 0 0 (List.replicate zs.length 0) := by
  have h0 : ∀ i, i < zs.length → iAt (List.replicate zs.length 0) i = 0 := fun i hi => by rw [iAt_eq (by simpa using hi)]; simp
  refine ⟨by simp, fun i hi => ?_, fun i hi => ?_⟩
  · rw [h0 i hi]; unfold blw; omega
  · rw [h0 i hi]; simp; omega
theorem BlI.round {zs gs : List Rg} {r : Nat} {o : List Int} (h : BlI zs gs r zs.length o) : BlI zs gs (r + 1) 0 o :=
  ⟨h.len, h.up, fun i hi => by have := h.low i hi; rw [if_pos hi] at this; simp; omega⟩
/-- .. and of the tone m itself, k tones of the song. -/
structure BlJ (zs gs : List Rg) (r m k : Nat) (o : List Int) : Prop where
  base : BlI zs gs r m o
  one : 1 ≤ iAt o m
  seen : ∀ j, j < k → j < zs.length → (gAt zs j).hi < (gAt zs m).lo → iAt o j + 1 ≤ iAt o m
theorem BlI.first {zs gs : List Rg} {r m : Nat} {o : List Int} (h : BlI zs gs r m o) (hm : m < zs.length) : BlJ zs gs r m 0 (o.set m (max (iAt o m) 1)) := by
  have hl : m < o.length := by rw [h.len]; exact hm
  refine ⟨⟨by rw [List.length_set]; exact h.len, fun i hi => ?_, fun i hi => ?_⟩, ?_, fun j hj => by omega⟩
  · rw [iAt_set _ hl]
    have := h.up i hi
    split
    · next e => subst e; unfold blw at *; omega
    · exact this
  · rw [iAt_set _ hl]
    have := h.low i hi
    by_cases e : m = i
    · rw [if_pos e]; subst e; omega
    · rw [if_neg e]; exact this
  · rw [iAt_set _ hl, if_pos rfl]; omega
theorem BlJ.skip {zs gs : List Rg} {r m k : Nat} {o : List Int} (h : BlJ zs gs r m k o) (hk : ¬ (gAt zs k).hi < (gAt zs m).lo) : BlJ zs gs r m (k + 1) o :=
  ⟨h.base, h.one, fun j hj hz hl => by
    rcases Nat.lt_or_ge j k with e | e
    · exact h.seen j e hz hl
    · have : j = k := by omega
      subst this; exact absurd hl hk⟩
theorem BlJ.take {zs gs : List Rg} (hG : IsG gs zs) (ho : Ok zs) {r m k : Nat} {o : List Int} (h : BlJ zs gs r m k o) (hm : m < zs.length) (hk : k < zs.length) (hlt : (gAt zs k).hi < (gAt zs m).lo) : BlJ zs gs r m (k + 1) (o.set m (max (iAt o m) (iAt o k + 1))) := by
  have hl : m < o.length := by rw [h.base.len]; exact hm
  have hzk : gAt zs k ∈ zs := by rw [gAt_eq hk]; exact List.getElem_mem _
  have hzm : gAt zs m ∈ zs := by rw [gAt_eq hm]; exact List.getElem_mem _
  have hb := cntB_below hG hzm hlt hzk
  have hkm : m ≠ k := by rintro rfl; have := ho _ hzk; omega
  have hbk : iAt o k + 1 ≤ blw zs gs m := by have := (h.base.up k hk).2; unfold blw at *; omega
  refine ⟨⟨by rw [List.length_set]; exact h.base.len, fun i hi => ?_, fun i hi => ?_⟩, ?_, fun j hj hz hl2 => ?_⟩
  · rw [iAt_set _ hl]
    have := h.base.up i hi
    split
    · next e => subst e; omega
    · exact this
  · rw [iAt_set _ hl]
    have := h.base.low i hi
    by_cases e : m = i
    · rw [if_pos e]; subst e; omega
    · rw [if_neg e]; exact this
  · rw [iAt_set _ hl, if_pos rfl]; have := h.one; omega
  · have hjm : m ≠ j := by rintro rfl; have := ho _ hzm; omega
    rw [iAt_set _ hl, iAt_set _ hl, if_pos rfl, if_neg hjm]
    rcases Nat.lt_or_ge j k with e | e
    · have := h.seen j e hz hl2; omega
    · have : j = k := by omega
      subst this; omega
theorem BlJ.done {zs gs : List Rg} (hG : IsG gs zs) (ho : Ok zs) {r m : Nat} {o : List Int} (h : BlJ zs gs r m zs.length o) (hm : m < zs.length) : BlI zs gs r (m + 1) o := by
  refine ⟨h.base.len, h.base.up, fun i hi => ?_⟩
  by_cases e : i = m
  · subst e
    rw [if_pos (by omega)]
    have h1 := h.one
    rcases Nat.eq_zero_or_pos (cntB gs (gAt zs i).lo) with hc | hc
    · unfold blw; rw [hc]; simp; omega
    · obtain ⟨c, hc⟩ : ∃ c, cntB gs (gAt zs i).lo = c + 1 := ⟨_, (Nat.succ_pred_eq_of_pos hc).symm⟩
      obtain ⟨q, hq, h2, h3⟩ := cntB_pred hG ho hc
      obtain ⟨j, hj, rfl⟩ := List.mem_iff_getElem.1 hq
      rw [← gAt_eq hj] at h2 h3
      have h4 := h.seen j hj hj h2
      have h5 := h.base.low j hj
      unfold blw at *
      rw [hc]
      have : (0 : Int) ≤ (if j < i then 1 else 0) := by split <;> omega
      omega
  · have := h.base.low i hi
    by_cases e2 : i < m
    · rw [if_pos e2] at this; rw [if_pos (by omega)]; exact this
    · rw [if_neg e2] at this; rw [if_neg (by omega)]; exact this
theorem BlI.fin {zs gs : List Rg} (hG : IsG gs zs) (ho : Ok zs) {o : List Int} (h : BlI zs gs zs.length 0 o) {i : Nat} (hi : i < zs.length) : iAt o i = blw zs gs i := by
  have h1 := h.up i hi
  have h2 := h.low i hi
  have h3 := cntB_top hG (show gAt zs i ∈ zs by rw [gAt_eq hi]; exact List.getElem_mem _)
  have h4 := isG_len hG ho
  rw [if_neg (by omega)] at h2
  unfold blw at *
  omega
/-- What Below returns. -/
def blwL (zs gs : List Rg) : List Int := (List.range zs.length).map (blw zs gs)
theorem BlI.eq {zs gs : List Rg} (hG : IsG gs zs) (ho : Ok zs) {o : List Int} (h : BlI zs gs zs.length 0 o) : o = blwL zs gs := by
  refine List.ext_getElem (by simp [blwL, h.len]) ?_
  intro i h1 h2
  have := h.fin hG ho (i := i) (by rw [← h.len]; exact h1)
  rw [iAt_eq h1] at this
  rw [this]
  simp [blwL]
/-- The greatest of them is how many steps a short scale has. -/
theorem blw_max {zs gs : List Rg} (hG : IsG gs zs) (ho : Ok zs) (hz : 0 < zs.length) : ∃ i, i < zs.length ∧ blw zs gs i = gs.length := by
  have hg : 0 < gs.length := by
    obtain ⟨g, hg, _⟩ := hG.all _ (List.getElem_mem hz)
    exact List.length_pos_of_mem hg
  obtain ⟨i, hi, e⟩ := List.mem_iff_getElem.1 (hG.sub _ (List.getElem_mem (show gs.length - 1 < gs.length by omega)))
  refine ⟨i, hi, ?_⟩
  have h1 := cntB_top hG (List.getElem_mem hi)
  unfold blw
  rw [gAt_eq hi]
  rcases Nat.eq_or_lt_of_le hg with h2 | h2
  · omega
  · have h3 := List.pairwise_iff_getElem.1 hG.apart (gs.length - 2) (gs.length - 1) (by omega) (by omega) (by omega)
    rw [← e] at h3
    have h4 := (hG.cnt_iff ho (zs[i]).lo (gs.length - 2) (by omega)).1 h3
    omega
theorem blw_le {zs gs : List Rg} (hG : IsG gs zs) {i : Nat} (hi : i < zs.length) : 1 ≤ blw zs gs i ∧ blw zs gs i ≤ gs.length := by
  have h3 := cntB_top hG (show gAt zs i ∈ zs by rw [gAt_eq hi]; exact List.getElem_mem _)
  unfold blw; omega
end Go.Proofs.Ytdfdlklglbefiaa
