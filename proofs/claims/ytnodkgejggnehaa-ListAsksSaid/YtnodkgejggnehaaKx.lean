/- Stage 5: sheets with a link known, and without a link, are valid, and what their joinings are: mathematics. -/
import Derived.Test.YtnodkgejggnehaaSm
import Derived.Test.YtnodkgejggnehaaMv
import Derived.Test.YtnodkgejggnehaaMw
namespace Go.Proofs.Ytnodkgejggnehaa
set_option linter.unusedSimpArgs false
set_option linter.unusedVariables false
theorem ris_fI {n : Nat} {L : List Int} (h : risI (n : Int) L = true) : L = fI (inP L) n := ris_ext (ris_pw h) (ris_pw (fI_ris _ n)) (fun x => by
  have hr := ris_rng h
  rw [mem_fI]
  constructor
  · intro hx
    have := hr x hx
    exact ⟨x.toNat, by omega, by unfold inP; rw [Int.toNat_of_nonneg this.1]; exact decide_eq_true hx, by omega⟩
  · rintro ⟨k, _, hk, rfl⟩
    exact of_decide_eq_true hk)
theorem ap_fI {n : Nat} {zs : List Rg} (hz : ZOk n zs) {p : Nat → Bool} (h : ∀ j k, j < n → k < n → p j = true → p k = true → j ≠ k → mtB zs j k = false) : apB zs (fI p n) = true := by
  unfold fI
  refine ap_of hz (fun k hk => List.mem_range.1 (List.mem_filter.1 hk).1) ?_
  unfold Mat
  refine List.Pairwise.imp_of_mem ?_ (nd_filter _)
  intro a b ha hb hne
  have ha := List.mem_filter.1 ha
  have hb := List.mem_filter.1 hb
  exact h a b (List.mem_range.1 ha.1) (List.mem_range.1 hb.1) ha.2 hb.2 hne
theorem chs_iff {sl sr : Int} {zs : List Rg} {ks : List Int} : chkS sl sr zs ks = 0 ↔ (1 ≤ sl ∧ sl ≤ 12 ∧ 1 ≤ sr ∧ sr ≤ 12) ∧ zs.length ≤ 40 ∧ zs.all (okG sl sr) = true ∧ zs.Nodup ∧ risI (zs.length : Int) ks = true ∧ apB zs ks = true := by
  constructor
  · exact chkS_zero
  · rintro ⟨h1, h2, h3, h4, h5, h6⟩
    refine chk_0 ?_ (by omega) h3 h4 (by rw [h5, h6]; rfl)
    rw [Bool.and_eq_true, inB_iff, inB_iff]
    omega
/-- Known names with one more rise. -/
theorem kwP_inv {k : Int} {ks : List Int} (hp : ks.Pairwise (· < ·)) (hk : k ∉ ks) : ∀ q, q ≤ ks.length → (kwP k ks q).1.Pairwise (· < ·) ∧ (∀ x ∈ (kwP k ks q).1, ∀ j, q ≤ j → j < ks.length → x < iAt ks j) ∧ ((kwP k ks q).2 = false → ∀ x ∈ (kwP k ks q).1, x < k)
  | 0, _ => by refine ⟨List.Pairwise.nil, fun x hx => ?_, fun _ x hx => ?_⟩ <;> cases hx
  | q + 1, hq => by
    have hl : q < ks.length := by omega
    obtain ⟨i1, i2, i3⟩ := kwP_inv hp hk q (by omega)
    have hne : iAt ks q ≠ k := fun e => hk (by rw [← e, iAt_eq hl]; exact List.getElem_mem hl)
    have hlt : ∀ j, q < j → j < ks.length → iAt ks q < iAt ks j := fun j h1 h2 => by
      rw [iAt_eq hl, iAt_eq h2]; exact List.pairwise_iff_getElem.1 hp q j hl h2 h1
    obtain ⟨l, hll⟩ : ∃ l, (kwP k ks q).1 = l := ⟨_, rfl⟩
    rw [hll] at i1 i2 i3
    cases hf : (kwP k ks q).2 with
    | true =>
      have e := kwP_in (k := k) (ks := ks) (q := q) (l := l) (by rw [← hll, ← hf])
      rw [e]
      refine ⟨?_, fun x hx j h1 h2 => ?_, fun h => by cases h⟩
      · rw [List.pairwise_append]
        exact ⟨i1, List.pairwise_singleton _ _, fun x hx y hy => by rw [List.mem_singleton.1 hy]; exact i2 x hx q (Nat.le_refl _) hl⟩
      · rcases List.mem_append.1 hx with hx | hx
        · exact i2 x hx j (by omega) h2
        · rw [List.mem_singleton.1 hx]; exact hlt j (by omega) h2
    | false =>
      have i3 := i3 hf
      by_cases hc : k < iAt ks q
      · have e := kwP_yes (k := k) (ks := ks) (q := q) (l := l) (by rw [← hll, ← hf]) hc
        rw [e]
        refine ⟨?_, fun x hx j h1 h2 => ?_, fun h => by cases h⟩
        · rw [List.pairwise_append, List.pairwise_append]
          refine ⟨⟨i1, List.pairwise_singleton _ _, fun x hx y hy => by rw [List.mem_singleton.1 hy]; exact i3 x hx⟩, List.pairwise_singleton _ _, fun x hx y hy => ?_⟩
          rw [List.mem_singleton.1 hy]
          rcases List.mem_append.1 hx with hx | hx
          · exact i2 x hx q (Nat.le_refl _) hl
          · rw [List.mem_singleton.1 hx]; exact hc
        · have h3 := hlt j (by omega) h2
          rcases List.mem_append.1 hx with hx | hx
          · rcases List.mem_append.1 hx with hx | hx
            · exact i2 x hx j (by omega) h2
            · rw [List.mem_singleton.1 hx]; omega
          · rw [List.mem_singleton.1 hx]; exact h3
      · have e := kwP_no (k := k) (ks := ks) (q := q) (l := l) (by rw [← hll, ← hf]) hc
        rw [e]
        refine ⟨?_, fun x hx j h1 h2 => ?_, fun _ x hx => ?_⟩
        · rw [List.pairwise_append]
          exact ⟨i1, List.pairwise_singleton _ _, fun x hx y hy => by rw [List.mem_singleton.1 hy]; exact i2 x hx q (Nat.le_refl _) hl⟩
        · rcases List.mem_append.1 hx with hx | hx
          · exact i2 x hx j (by omega) h2
          · rw [List.mem_singleton.1 hx]; exact hlt j (by omega) h2
        · rcases List.mem_append.1 hx with hx | hx
          · exact i3 x hx
          · rw [List.mem_singleton.1 hx]; omega
theorem knwL_pw {k : Int} {ks : List Int} (hp : ks.Pairwise (· < ·)) (hk : k ∉ ks) : (knwL k ks).Pairwise (· < ·) := by
  obtain ⟨i1, i2, i3⟩ := kwP_inv hp hk ks.length (Nat.le_refl _)
  unfold knwL
  split
  · exact i1
  · rename_i e
    have e2 : (kwP k ks ks.length).2 = false := by simpa using e
    rw [List.pairwise_append]
    exact ⟨i1, List.pairwise_singleton _ _, fun x hx y hy => by rw [List.mem_singleton.1 hy]; exact i3 e2 x hx⟩
section
variable {sl sr : Int} {n : Nat} {zs : List Rg} {ks : List Int} {k : Nat}
theorem open_known (H : ShN n zs ks) (hk : k < n) (ho : opnL n zs ks k = true) : (k : Int) ∉ ks := fun e => by
  rw [known_closed H hk e] at ho; cases ho
/-- A sheet with an open link known is valid. -/
theorem knw_chk (he : chkS sl sr zs ks = 0) (hn : zs.length = n) (hk : k < n) (ho : opnL n zs ks k = true) : chkS sl sr zs (knwL (k : Int) ks) = 0 := by
  have H := shn_of he hn
  obtain ⟨h1, h2, h3, h4, h5, h6⟩ := chs_iff.1 he
  have hr : risI (zs.length : Int) (knwL (k : Int) ks) = true := ris_of (knwL_pw (ris_pw h5) (open_known H hk ho)) (fun x hx => by
    rcases (knwL_mem _ _ _).1 hx with e | e
    · rw [e, hn]; omega
    · exact ris_rng h5 x e)
  refine chs_iff.2 ⟨h1, h2, h3, h4, hr, ?_⟩
  rw [hn] at hr
  rw [ris_fI hr]
  have hno := (opn_iff H hk).1 ho
  refine ap_fI H.z (fun i j hi hj a b hne => ?_)
  have a2 := (knwL_mem _ _ _).1 (of_decide_eq_true a)
  have b2 := (knwL_mem _ _ _).1 (of_decide_eq_true b)
  clear a b
  rcases a2 with a2 | a2 <;> rcases b2 with b2 | b2
  · omega
  · obtain rfl : i = k := by omega
    exact hno j hj b2
  · obtain rfl : j = k := by omega
    rw [mtB_symm]; exact hno i hi a2
  · exact H.ap i j hi hj a2 b2 hne
theorem jop_knw {p : Nat → Bool} : JoP n zs (knwL (k : Int) ks) p ↔ JoP n zs ks p ∧ p k = true := by
  constructor
  · intro h
    exact ⟨⟨h.ap, fun j hj => h.kn j ((knwL_mem _ _ _).2 (.inr hj))⟩, h.kn k ((knwL_mem _ _ _).2 (.inl rfl))⟩
  · rintro ⟨h, hp⟩
    refine ⟨h.ap, fun j hj => ?_⟩
    rcases (knwL_mem _ _ _).1 hj with e | e
    · obtain rfl : j = k := by omega
      exact hp
    · exact h.kn j e
theorem shn_knw (he : chkS sl sr zs ks = 0) (hn : zs.length = n) (hk : k < n) (ho : opnL n zs ks k = true) : ShN n zs (knwL (k : Int) ks) := shn_of (knw_chk he hn hk ho) hn
/-- Greatest joinings that have a link. -/
theorem gre_knw (H : ShN n zs ks) (H2 : ShN n zs (knwL (k : Int) ks)) (hex : ∃ p, Gre n zs ks p ∧ p k = true) : siz n zs (knwL (k : Int) ks) = siz n zs ks ∧ ∀ p, Gre n zs (knwL (k : Int) ks) p ↔ Gre n zs ks p ∧ p k = true := by
  obtain ⟨p0, h0, h0k⟩ := hex
  have hs : siz n zs (knwL (k : Int) ks) = siz n zs ks := by
    refine Nat.le_antisymm ?_ ?_
    · obtain ⟨p, hp⟩ := gre_ex H2
      rw [← hp.2]; exact (jop_knw.1 hp.1).1.le H
    · rw [← h0.2]; exact (jop_knw.2 ⟨h0.1, h0k⟩).le H2
  refine ⟨hs, fun p => ?_⟩
  unfold Gre
  rw [hs, jop_knw]
  exact ⟨fun h => ⟨⟨h.1.1, h.2⟩, h.1.2⟩, fun h => ⟨⟨h.1.1, h.2⟩, h.1.2⟩⟩
/-! Without a link. -/
theorem oldN_inj {a b : Nat} (h : oldN k a = oldN k b) : a = b := by unfold oldN at h; split at h <;> split at h <;> omega
theorem oldN_ne (k j : Nat) : oldN k j ≠ k := by unfold oldN; split <;> omega
theorem range_map_gAt (zs : List Rg) : (List.range zs.length).map (gAt zs) = zs := by
  apply List.ext_getElem (by simp)
  intro i h1 h2
  simp [gAt, List.getD, h2]
theorem wz_sub (zs : List Rg) (hn : zs.length = n) : (wzP k zs n).Sublist zs := by
  have h : (wzP k zs n).Sublist ((List.range n).map (gAt zs)) := List.Sublist.map _ List.filter_sublist
  rw [← hn, range_map_gAt] at h
  rw [← hn]; exact h
theorem wz_mt (hk : k < n) {a b : Nat} (ha : a < n - 1) (hb : b < n - 1) : mtB (wzP k zs n) a b = mtB zs (oldN k a) (oldN k b) := by
  unfold mtB
  rw [wz_end zs hk ha, wz_end zs hk hb, wz_end zs hk ha, wz_end zs hk hb]
theorem mem_wk (hnm : NmOk n ks) (hin : (k : Int) ∉ ks) (j : Nat) : (j : Int) ∈ wkP k ks ks.length ↔ ((oldN k j : Nat) : Int) ∈ ks := by
  rw [wkP_eq, List.mem_map]
  constructor
  · rintro ⟨x, hx, e⟩
    obtain ⟨q, _, rfl⟩ := hnm x hx
    have hne : q ≠ k := fun e2 => hin (by rw [← e2]; exact hx)
    have : oldN k j = q := by
      unfold oldN
      split at e <;> split <;> omega
    rw [this]; exact hx
  · intro h
    refine ⟨_, h, ?_⟩
    unfold oldN
    by_cases hj : j < k
    · rw [if_pos hj, if_neg (by omega)]
    · rw [if_neg hj, if_pos (by omega)]; omega
theorem wk_ris (hr : risI (n : Int) ks = true) (hk : k < n) (hin : (k : Int) ∉ ks) : risI ((n - 1 : Nat) : Int) (wkP k ks ks.length) = true := by
  rw [wkP_eq]
  refine ris_of ?_ (fun x hx => ?_)
  · rw [List.pairwise_map]
    refine List.Pairwise.imp_of_mem ?_ (ris_pw hr)
    intro a b ha hb hab
    have h1 : a ≠ k := fun e => hin (e ▸ ha)
    have h2 : b ≠ k := fun e => hin (e ▸ hb)
    split <;> split <;> omega
  · obtain ⟨y, hy, rfl⟩ := List.mem_map.1 hx
    have h1 : y ≠ k := fun e => hin (e ▸ hy)
    have := ris_rng hr y hy
    split <;> omega
/-- A sheet without a link that is not known is valid. -/
theorem wo_chk (he : chkS sl sr zs ks = 0) (hn : zs.length = n) (hk : k < n) (hin : (k : Int) ∉ ks) : chkS sl sr (wzP k zs n) (wkP k ks ks.length) = 0 := by
  have H := shn_of he hn
  obtain ⟨h1, h2, h3, h4, h5, h6⟩ := chs_iff.1 he
  have hl := wzP_lenE zs hk
  have hsub := wz_sub (k := k) zs hn
  have hz : ZOk (n - 1) (wzP k zs n) := fun j hj => by
    obtain ⟨a, b, e, ha, hb⟩ := H.z (oldN k j) (oldN_lt hj)
    exact ⟨a, b, by rw [wzP_at zs hk hj]; exact e, ha, hb⟩
  rw [hn] at h5
  have hr := wk_ris h5 hk hin
  refine chs_iff.2 ⟨h1, by omega, ?_, h4.sublist hsub, by rw [hl]; exact hr, ?_⟩
  · rw [List.all_eq_true] at h3 ⊢
    exact fun x hx => h3 x (hsub.subset hx)
  · rw [ris_fI hr]
    refine ap_fI hz (fun i j hi hj a b hne => ?_)
    have a := (mem_wk H.nm hin i).1 (of_decide_eq_true a)
    have b := (mem_wk H.nm hin j).1 (of_decide_eq_true b)
    rw [wz_mt hk hi hj]
    exact H.ap _ _ (oldN_lt hi) (oldN_lt hj) a b (fun e => hne (oldN_inj e))
theorem shn_wo (he : chkS sl sr zs ks = 0) (hn : zs.length = n) (hk : k < n) (hin : (k : Int) ∉ ks) : ShN (n - 1) (wzP k zs n) (wkP k ks ks.length) := shn_of (wo_chk he hn hk hin) (wzP_lenE zs hk)
/-- The new name of a link. -/
def newN (k j : Nat) : Nat := if j < k then j else j - 1
theorem newN_old (k j : Nat) : newN k (oldN k j) = j := by
  unfold newN oldN
  by_cases h : j < k
  · rw [if_pos h, if_pos h]
  · rw [if_neg h, if_neg (by omega)]; omega
theorem oldN_new {j : Nat} (hjk : j ≠ k) : oldN k (newN k j) = j := by
  unfold newN oldN
  by_cases h : j < k
  · rw [if_pos h, if_pos h]
  · rw [if_neg h, if_neg (by omega)]; omega
theorem newN_lt {j : Nat} (hk : k < n) (hj : j < n) (h : j ≠ k) : newN k j < n - 1 := by unfold newN; split <;> omega
def exN (k : Nat) (p : Nat → Bool) : Nat → Bool := fun j => decide (j ≠ k) && p (newN k j)
theorem exN_old (p : Nat → Bool) (j : Nat) : exN k p (oldN k j) = p j := by
  unfold exN; rw [decide_eq_true (oldN_ne k j), newN_old]; rfl
theorem exN_self (p : Nat → Bool) : exN k p k = false := by unfold exN; simp
theorem cnt_wo (hk : k < n) {p : Nat → Bool} (hp : p k = false) : cntP (n - 1) (fun j => p (oldN k j)) = cntP n p := by
  unfold cntP
  have e3 := range_old k n
  rw [if_pos hk] at e3
  have e : ((List.range (n - 1)).filter fun j => p (oldN k j)).length = (((List.range (n - 1)).map (oldN k)).filter p).length := by
    rw [List.filter_map, List.length_map]; rfl
  rw [e, ← e3, List.filter_filter]
  congr 1
  refine List.filter_congr (fun j _ => ?_)
  by_cases hj : j = k
  · subst hj; rw [hp]; rfl
  · simp [hj]
theorem jop_wo (H : ShN n zs ks) (hk : k < n) (hin : (k : Int) ∉ ks) {p : Nat → Bool} (h : JoP n zs ks p) : JoP (n - 1) (wzP k zs n) (wkP k ks ks.length) (fun j => p (oldN k j)) := by
  refine ⟨fun i j hi hj a b hne => ?_, fun j hj => h.kn _ ((mem_wk H.nm hin j).1 hj)⟩
  rw [wz_mt hk hi hj]
  exact h.ap _ _ (oldN_lt hi) (oldN_lt hj) a b (fun e => hne (oldN_inj e))
theorem jop_ex (H : ShN n zs ks) (hk : k < n) (hin : (k : Int) ∉ ks) {p : Nat → Bool} (h : JoP (n - 1) (wzP k zs n) (wkP k ks ks.length) p) : JoP n zs ks (exN k p) := by
  refine ⟨fun i j hi hj a b hne => ?_, fun j hj => ?_⟩
  · unfold exN at a b
    rw [Bool.and_eq_true, decide_eq_true_eq] at a b
    have h1 := newN_lt hk hi a.1
    have h2 := newN_lt hk hj b.1
    have := h.ap _ _ h1 h2 a.2 b.2 (fun e => hne (by rw [← oldN_new a.1, ← oldN_new b.1, e]))
    rw [wz_mt hk h1 h2, oldN_new a.1, oldN_new b.1] at this
    exact this
  · have hne : j ≠ k := fun e => hin (e ▸ hj)
    unfold exN
    rw [decide_eq_true hne, Bool.true_and]
    exact h.kn _ ((mem_wk H.nm hin _).2 (by rw [oldN_new hne]; exact hj))
theorem cnt_ex (hk : k < n) (p : Nat → Bool) : cntP n (exN k p) = cntP (n - 1) p := by
  rw [← cnt_wo hk (exN_self p)]
  exact cntP_congr (fun j _ => exN_old p j)
/-- Greatest joinings that do not have a link. -/
theorem gre_wo (H : ShN n zs ks) (H2 : ShN (n - 1) (wzP k zs n) (wkP k ks ks.length)) (hk : k < n) (hin : (k : Int) ∉ ks) (hex : ∃ p, Gre n zs ks p ∧ p k = false) : siz (n - 1) (wzP k zs n) (wkP k ks ks.length) = siz n zs ks ∧ ∀ p, Gre (n - 1) (wzP k zs n) (wkP k ks ks.length) p ↔ Gre n zs ks (exN k p) := by
  obtain ⟨p0, h0, h0k⟩ := hex
  have hs : siz (n - 1) (wzP k zs n) (wkP k ks ks.length) = siz n zs ks := by
    refine Nat.le_antisymm ?_ ?_
    · obtain ⟨p, hp⟩ := gre_ex H2
      rw [← hp.2, ← cnt_ex hk]; exact (jop_ex H hk hin hp.1).le H
    · rw [← h0.2, ← cnt_wo hk h0k]; exact (jop_wo H hk hin h0.1).le H2
  refine ⟨hs, fun p => ?_⟩
  unfold Gre
  rw [hs, cnt_ex hk]
  constructor
  · exact fun h => ⟨jop_ex H hk hin h.1, h.2⟩
  · intro h
    have := jop_wo H hk hin h.1
    refine ⟨⟨fun i j hi hj a b => this.ap i j hi hj (by rw [exN_old]; exact a) (by rw [exN_old]; exact b), fun j hj => ?_⟩, h.2⟩
    have := this.kn j hj
    rw [exN_old] at this; exact this
end
end Go.Proofs.Ytnodkgejggnehaa
