/- Stage 3: fine, and mathematics of steps that are more. -/
import Derived.Test.YtdfdlklglbefiaaWk
import Derived.Test.YtdfdlklglbefiaaBlw
namespace Go.Proofs.Ytdfdlklglbefiaa
set_option linter.unusedSimpArgs false
set_option linter.unusedVariables false
open Go.RowKit Go.Shelf

theorem fine35 (A : Option Addr) (n cap : Nat) (zs : List Rg) (w : World) (h : Rgs w A n zs) (hn : n ≤ 9223372036854775807) : Calls Try.prog 35 #[.slice A n cap] w fun en w' => en = .returned (.bool (decide (chkS zs = 0))) ∧ Below w.heap.size w w' := by
  have S := Lib.hid h
  have HZl := Lib.hid h.1
  clear h
  by_cases h1 : 30 < n
  · have d1 : decide ((30 : Int) < (n : Int)) = true := decide_eq_true (by omega)
    have Hc := Lib.hid (show decide (chkS zs = 0) = false from decide_eq_false (fun h => by have := len_of h; have := HZl.out; omega))
    go_enter Try.func35, Try.ntmps35
    go_wp2_with fail
    have hc := great14 A n cap w
    rw [d1] at hc
    refine hc.mono ?_
    rintro en w' ⟨rfl, rfl⟩
    clear hc d1
    go_wp2_with fail
    go_ret
    exact ⟨by rw [Hc.out]; rfl, Below.refl _ _⟩
  · have d1 : decide ((30 : Int) < (n : Int)) = false := decide_eq_false (by omega)
    obtain ⟨c, hc⟩ : ∃ c, chkS zs = c := ⟨_, rfl⟩
    have Hc := Lib.hid hc
    clear hc
    by_cases h0 : c = 0
    · subst h0
      go_enter Try.func35, Try.ntmps35
      go_wp2_with fail
      have hc := great14 A n cap w
      rw [d1] at hc
      refine hc.mono ?_
      rintro en w' ⟨rfl, rfl⟩
      clear hc d1
      go_wp2_with fail
      have hc := refSong19 A n cap zs _ S.out hn
      rw [Hc.out] at hc
      refine hc.mono ?_
      rintro en w1 ⟨rfl, hb⟩
      have B := Lib.hid hb
      clear hc hb
      go_wp2_with fail
      go_ret
      exact ⟨by rw [Hc.out]; rfl, B.out⟩
    · have d0 : (c == 0) = false := by rw [beq_eq_false_iff_ne]; exact h0
      have H0 := Lib.hid h0
      clear h0
      go_enter Try.func35, Try.ntmps35
      go_wp2_with fail
      have hc := great14 A n cap w
      rw [d1] at hc
      refine hc.mono ?_
      rintro en w' ⟨rfl, rfl⟩
      clear hc d1
      go_wp2_with fail
      have hc := refSong19 A n cap zs _ S.out hn
      rw [Hc.out] at hc
      refine hc.mono ?_
      rintro en w1 ⟨rfl, hb⟩
      have B := Lib.hid hb
      clear hc hb
      go_wp2_with fail
      go_ret
      exact ⟨by rw [Hc.out, decide_eq_false H0.out]; rfl, B.out⟩
theorem metL_cnt (zs : List Rg) (st : List Int) : (metL zs st zs.length).length = cntM zs st := by
  unfold metL cntM
  rw [List.length_map, ← List.countP_eq_length_filter]
  have e : zs = (List.range zs.length).map (gAt zs) := by
    refine List.ext_getElem (by simp) (fun i h1 h2 => ?_)
    simp [gAt_eq h1]
  conv => rhs; rw [e]
  rw [List.countP_map]
  rfl
theorem mostR_sc {zs : List Rg} {k m : Int} {st : List Int} (h : MostR zs k st m) (hk : k ≤ 24) (hz : chkS zs = 0) : isSc zs st = 0 := by
  rw [isSc_zero, risB_iff]
  refine ⟨hz, by have := h.len; omega, ?_, h.incr⟩
  simp only [withI, List.all_eq_true, inB, Bool.and_eq_true, decide_eq_true_eq]
  exact h.rng
theorem isSc_incr {zs : List Rg} {st : List Int} (h : isSc zs st = 0) : Incr st := (risB_iff _).1 (isSc_zero.1 h).2.2.2
/-- One step more meets one tone more. -/
theorem one_more {zs : List Rg} {st : List Int} (hi : Incr st) (ho : Ok zs) (h : cntM zs st < zs.length) : ∃ st', Incr st' ∧ st'.length = st.length + 1 ∧ cntM zs st + 1 ≤ cntM zs st' := by
  have hex : ∃ r ∈ zs, meets st r = false := by
    refine Classical.byContradiction fun hne => ?_
    have : zs.countP (fun r => meets st r) = zs.length := by
      rw [List.countP_eq_length]
      intro r hr
      cases hm : meets st r
      · exact absurd ⟨r, hr, hm⟩ hne
      · rfl
    unfold cntM at h
    omega
  obtain ⟨r, hr, hm⟩ := hex
  have hlo := ho r hr
  have hx : r.lo ∉ st := fun hx => by
    have : meets st r = true := meets_iff.2 ⟨r.lo, hx, Int.le_refl _, hlo⟩
    rw [hm] at this; cases this
  have hnd : (r.lo :: st).Nodup := List.nodup_cons.2 ⟨hx, incr_nodup hi⟩
  have hmem : ∀ y, y ∈ srtL (r.lo :: st) ↔ y = r.lo ∨ y ∈ st := fun y => by rw [(srtL_perm _).mem_iff, List.mem_cons]
  refine ⟨srtL (r.lo :: st), srtL_incr hnd, by rw [srtL_len]; rfl, ?_⟩
  have hmono : ∀ q, meets st q = true → meets (srtL (r.lo :: st)) q = true := fun q hq => by
    obtain ⟨y, hy, h1, h2⟩ := meets_iff.1 hq
    exact meets_iff.2 ⟨y, (hmem y).2 (.inr hy), h1, h2⟩
  have hnew : meets (srtL (r.lo :: st)) r = true := meets_iff.2 ⟨r.lo, (hmem _).2 (.inl rfl), Int.le_refl _, hlo⟩
  unfold cntM
  clear h ho
  induction zs with
  | nil => simp at hr
  | cons q l ih =>
    simp only [List.countP_cons]
    have h3 : (if meets st q = true then 1 else 0) ≤ (if meets (srtL (r.lo :: st)) q = true then 1 else 0) := by
      split
      · next h => rw [if_pos (hmono q h)]; exact Nat.le_refl _
      · exact Nat.zero_le _
    rcases List.mem_cons.1 hr with rfl | hr
    · have h1 : l.countP (fun q => meets st q) ≤ l.countP (fun q => meets (srtL (r.lo :: st)) q) := cntM_mono (zs := l) (fun q _ hq => hmono q hq)
      rw [if_neg (by rw [hm]; simp), if_pos hnew]; omega
    · have h1 := ih hr
      omega
theorem cnt_right {zs : List Rg} {st : List Int} : cntM zs st = zs.length ↔ right zs st := by
  unfold cntM right
  rw [List.countP_eq_length]
end Go.Proofs.Ytdfdlklglbefiaa
