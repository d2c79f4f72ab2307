/- Stage 5: kinds of items, and the sheet without an item's links: mathematics. -/
import Derived.Test.YtnodkgejggnehaaKx
import Derived.Test.YtnodkgejggnehaaIi
namespace Go.Proofs.Ytnodkgejggnehaa
set_option linter.unusedSimpArgs false
set_option linter.unusedVariables false
theorem filter_idx (L : List Nat) (p : Nat → Bool) : ((List.range L.length).filter fun j => p (L.getD j 0)).length = (L.filter p).length := by
  have h : (List.range L.length).map (fun j => L.getD j 0) = L := by
    apply List.ext_getElem (by simp)
    intro i h1 h2
    simp [List.getD, h2]
  have e : (L.filter p).length = (((List.range L.length).map (fun j => L.getD j 0)).filter p).length := by rw [h]
  rw [e, List.filter_map, List.length_map]; rfl
section
variable {sl sr : Int} {n : Nat} {zs : List Rg} {ks : List Int}
/-- The links that do not have an item of the left list. -/
def olL (zs : List Rg) (i n : Nat) : List Nat := (List.range n).filter fun j => !decide (eN zs 0 j = i)
def nwP (zs : List Rg) (i n : Nat) : List Rg := (olL zs i n).map (gAt zs)
theorem nwP_yes {i q : Nat} (h : eN zs 0 q ≠ i) : nwP zs i (q + 1) = nwP zs i q ++ [gAt zs q] := by
  unfold nwP olL; rw [List.range_succ, List.filter_append, List.filter_cons, if_pos (by simpa using h)]; simp
theorem nwP_no {i q : Nat} (h : eN zs 0 q = i) : nwP zs i (q + 1) = nwP zs i q := by
  unfold nwP olL; rw [List.range_succ, List.filter_append, List.filter_cons, if_neg (by simp [h])]; simp
theorem nwP_len (i q : Nat) : (nwP zs i q).length ≤ q := by
  unfold nwP olL; rw [List.length_map]
  exact Nat.le_trans (List.length_filter_le _ _) (by simp)
theorem mem_olL {i k : Nat} : k ∈ olL zs i n ↔ k < n ∧ eN zs 0 k ≠ i := by simp [olL]
theorem olL_at {i j : Nat} (hj : j < (olL zs i n).length) : (olL zs i n).getD j 0 ∈ olL zs i n := by
  rw [List.getD_eq_getElem?_getD, List.getElem?_eq_getElem hj]; exact List.getElem_mem hj
theorem olL_inj {i a b : Nat} (ha : a < (olL zs i n).length) (hb : b < (olL zs i n).length) (e : (olL zs i n).getD a 0 = (olL zs i n).getD b 0) : a = b := by
  rw [List.getD_eq_getElem?_getD, List.getElem?_eq_getElem ha, List.getD_eq_getElem?_getD, List.getElem?_eq_getElem hb] at e
  exact getElem_inj_nodup (l := olL zs i n) (nd_filter _) ha hb (by simpa using e)
theorem nwP_at {i j : Nat} (hj : j < (olL zs i n).length) : gAt (nwP zs i n) j = gAt zs ((olL zs i n).getD j 0) := by
  rw [gAt_eq (by unfold nwP; rw [List.length_map]; exact hj)]
  simp only [nwP, List.getElem_map]
  rw [List.getD_eq_getElem?_getD, List.getElem?_eq_getElem hj]; rfl
theorem nw_mt {i a b : Nat} (ha : a < (olL zs i n).length) (hb : b < (olL zs i n).length) : mtB (nwP zs i n) a b = mtB zs ((olL zs i n).getD a 0) ((olL zs i n).getD b 0) := by
  unfold mtB eN endI
  rw [nwP_at ha, nwP_at hb]
theorem nw_len (i : Nat) : (nwP zs i n).length = (olL zs i n).length := by unfold nwP; rw [List.length_map]
theorem nw_sub {i : Nat} (hn : zs.length = n) : (nwP zs i n).Sublist zs := by
  have h : (nwP zs i n).Sublist ((List.range n).map (gAt zs)) := List.Sublist.map _ List.filter_sublist
  rw [← hn, range_map_gAt] at h
  rw [← hn]; exact h
theorem nw_chk {i : Nat} (he : chkS sl sr zs [] = 0) (hn : zs.length = n) : chkS sl sr (nwP zs i n) [] = 0 := by
  obtain ⟨h1, h2, h3, h4, h5, h6⟩ := chs_iff.1 he
  have hsub := nw_sub (i := i) hn
  refine chs_iff.2 ⟨h1, Nat.le_trans hsub.length_le h2, ?_, h4.sublist hsub, rfl, rfl⟩
  rw [List.all_eq_true] at h3 ⊢
  exact fun x hx => h3 x (hsub.subset hx)
theorem nw_less {i : Nat} (H : ShN n zs []) (H2 : ShN (olL zs i n).length (nwP zs i n) []) : siz (olL zs i n).length (nwP zs i n) [] < siz n zs [] ↔ ∀ p, Gre n zs [] p → ∃ k, k < n ∧ eN zs 0 k = i ∧ p k = true := by
  constructor
  · intro hlt p hp
    apply Classical.byContradiction
    intro hno
    have hj : JoP (olL zs i n).length (nwP zs i n) [] (fun j => p ((olL zs i n).getD j 0)) := by
      refine ⟨fun a b ha hb h1 h2 hne => ?_, fun k hk => by cases hk⟩
      rw [nw_mt ha hb]
      exact hp.1.ap _ _ (mem_olL.1 (olL_at ha)).1 (mem_olL.1 (olL_at hb)).1 h1 h2 (fun e => hne (olL_inj ha hb e))
    have h1 := hj.le H2
    have h2 := hp.2
    have h3 : cntP (olL zs i n).length (fun j => p ((olL zs i n).getD j 0)) = cntP n p := by
      unfold cntP
      rw [filter_idx]
      congr 1
      unfold olL
      rw [List.filter_filter]
      refine List.filter_congr (fun k hk => ?_)
      cases e : p k
      · rfl
      · have : eN zs 0 k ≠ i := fun e2 => hno ⟨k, List.mem_range.1 hk, e2, e⟩
        simp [this]
    omega
  · intro h
    apply Classical.byContradiction
    intro hge
    obtain ⟨p, hp⟩ := gre_ex H2
    obtain ⟨Q, hQ⟩ : ∃ Q : Nat → Bool, ∀ k, Q k = true ↔ ∃ j, j < (olL zs i n).length ∧ (olL zs i n).getD j 0 = k ∧ p j = true := ⟨fun k => decide (∃ j, j < (olL zs i n).length ∧ (olL zs i n).getD j 0 = k ∧ p j = true), fun k => decide_eq_true_iff⟩
    have hq : JoP n zs [] Q := by
      refine ⟨fun a b ha hb h1 h2 hne => ?_, fun k hk => by cases hk⟩
      obtain ⟨j1, a1, a2, a3⟩ := (hQ a).1 h1
      obtain ⟨j2, b1, b2, b3⟩ := (hQ b).1 h2
      have := hp.1.ap j1 j2 a1 b1 a3 b3 (fun e => hne (by rw [← a2, ← b2, e]))
      rw [nw_mt a1 b1, a2, b2] at this
      exact this
    have hc : cntP n Q = cntP (olL zs i n).length p := by
      have e1 : cntP (olL zs i n).length p = cntP (olL zs i n).length (fun j => Q ((olL zs i n).getD j 0)) := by
        refine cntP_congr (fun j hj => ?_)
        rw [Bool.eq_iff_iff, hQ]
        constructor
        · intro e; exact ⟨j, hj, rfl, e⟩
        · rintro ⟨j2, b1, b2, b3⟩
          rw [olL_inj b1 hj b2] at b3; exact b3
      have e2 := filter_idx (olL zs i n) Q
      rw [e1]
      unfold cntP
      rw [e2]
      congr 1
      unfold olL
      rw [List.filter_filter]
      refine List.filter_congr (fun k hk => ?_)
      cases e : Q k
      · rfl
      · obtain ⟨j, a1, a2, a3⟩ := (hQ k).1 e
        have := (mem_olL.1 (olL_at a1)).2
        rw [a2] at this
        simp [this]
    obtain ⟨k, hk, hki, hpk⟩ := h _ (gre_of H hq (by rw [hc]; have := hp.2; omega))
    obtain ⟨j, a1, a2, a3⟩ := (hQ k).1 hpk
    have := (mem_olL.1 (olL_at a1)).2
    rw [a2] at this
    exact this hki
theorem selL_mem {sel : Nat → Bool} {x k : Nat} (hk : k < x) (h : sel k = true) : (k : Int) ∈ selL sel x := List.mem_map.2 ⟨k, List.mem_filter.2 ⟨List.mem_range.2 hk, h⟩, rfl⟩
/-- The kind of an item, by greatest joinings. -/
theorem mem_ikN {l i k : Nat} : (k : Int) ∈ ikN n zs (opnL n zs ks) (kNt ks) l i ↔ k < n ∧ eN zs l k = i ∧ kindS n zs (opnL n zs ks) (kNt ks) k ≠ 0 := by
  unfold ikN
  constructor
  · intro h
    obtain ⟨q, h1, h2, h3⟩ := mem_selL h
    obtain rfl : k = q := by omega
    unfold ikF at h3
    rw [Bool.and_eq_true, decide_eq_true_eq, bne_iff_ne] at h3
    exact ⟨h1, h3.1, h3.2⟩
  · rintro ⟨h1, h2, h3⟩
    exact selL_mem h1 (by unfold ikF; rw [decide_eq_true h2, Bool.true_and, bne_iff_ne]; exact h3)
theorem ik_few (H : ShN n zs ks) {l i : Nat} : (∀ p, Gre n zs ks p → ∃ k : Nat, k < n ∧ (k : Int) ∈ ikN n zs (opnL n zs ks) (kNt ks) l i ∧ p k = true) ↔ ∀ p, Gre n zs ks p → ∃ k, k < n ∧ eN zs l k = i ∧ p k = true := by
  constructor
  · intro h p hp
    obtain ⟨k, h1, h2, h3⟩ := h p hp
    exact ⟨k, h1, (mem_ikN.1 h2).2.1, h3⟩
  · intro h p hp
    obtain ⟨k, h1, h2, h3⟩ := h p hp
    refine ⟨k, h1, mem_ikN.2 ⟨h1, h2, fun e => ?_⟩, h3⟩
    rw [(kind_never H h1).1 e p hp] at h3; cases h3
theorem ik_always (H : ShN n zs ks) {l i : Nat} : ikS n zs (opnL n zs ks) (kNt ks) l i = 2 ↔ ∀ p, Gre n zs ks p → ∃ k, k < n ∧ eN zs l k = i ∧ p k = true := by
  rw [← ik_few H, ← few_iff H _ (fun k hk => (mem_ikN.1 hk).1)]
  unfold ikS
  constructor
  · intro h
    split at h
    · cases h
    · split at h
      · assumption
      · cases h
  · intro h
    rw [if_neg (fun e => ?_), if_pos h]
    have h2 := (few_iff H _ (fun k hk => (mem_ikN.1 hk).1)).1 h
    obtain ⟨p, hp⟩ := gre_ex H
    obtain ⟨k, _, h3, _⟩ := h2 p hp
    rw [List.length_eq_zero_iff.1 e] at h3; cases h3
theorem ik_never (H : ShN n zs ks) {l i : Nat} : ikS n zs (opnL n zs ks) (kNt ks) l i = 0 ↔ ∀ k, k < n → eN zs l k = i → kindS n zs (opnL n zs ks) (kNt ks) k = 0 := by
  unfold ikS
  constructor
  · intro h k hk hki
    apply Classical.byContradiction
    intro hne
    have hm := (mem_ikN (l := l) (i := i)).2 ⟨hk, hki, hne⟩
    split at h
    · rename_i e
      rw [List.length_eq_zero_iff.1 e] at hm; cases hm
    · split at h <;> cases h
  · intro h
    rw [if_pos]
    rw [List.length_eq_zero_iff]
    refine List.eq_nil_iff_forall_not_mem.2 (fun x hx => ?_)
    obtain ⟨q, h1, rfl, h3⟩ := mem_selL hx
    have := (mem_ikN.1 hx)
    exact this.2.2 (h q this.1 this.2.1)
theorem ik_may (n : Nat) (zs : List Rg) (op : Nat → Bool) (J : List Nat) (l i : Nat) : ikS n zs op J l i = 0 ∨ ikS n zs op J l i = 1 ∨ ikS n zs op J l i = 2 := by
  unfold ikS
  split
  · exact .inl rfl
  · split
    · exact .inr (.inr rfl)
    · exact .inr (.inl rfl)
theorem ik_item {i : Nat} (H : ShN n zs []) (H2 : ShN (olL zs i n).length (nwP zs i n) []) : ikS n zs (opnL n zs []) (kNt []) 0 i = 2 ↔ siz (olL zs i n).length (nwP zs i n) [] < siz n zs [] := by
  rw [ik_always H, nw_less H H2]
/-- The greatest kind of the first links of an item. -/
def IsMx (n : Nat) (zs : List Rg) (op : Nat → Bool) (J : List Nat) (i q : Nat) (mo : Int) : Prop := (mo = 0 ∨ ∃ k, k < q ∧ eN zs 0 k = i ∧ kindS n zs op J k = mo) ∧ (∀ k, k < q → eN zs 0 k = i → kindS n zs op J k ≤ mo) ∧ 0 ≤ mo ∧ mo ≤ 2
theorem IsMx.start (n : Nat) (zs : List Rg) (op : Nat → Bool) (J : List Nat) (i : Nat) : IsMx n zs op J i 0 0 := ⟨.inl rfl, fun k hk => absurd hk (by omega), by omega, by omega⟩
theorem IsMx.yes {op : Nat → Bool} {J : List Nat} {i q : Nat} {mo : Int} (h : IsMx n zs op J i q mo) (hq : eN zs 0 q = i) : IsMx n zs op J i (q + 1) (max mo (kindS n zs op J q)) := by
  obtain ⟨h1, h2, h3, h4⟩ := h
  have hm := kind_may n zs op J q
  refine ⟨?_, fun k hk hki => ?_, by omega, by omega⟩
  · rcases Int.le_total mo (kindS n zs op J q) with e | e
    · rw [Int.max_eq_right e]; exact .inr ⟨q, by omega, hq, rfl⟩
    · rw [Int.max_eq_left e]
      rcases h1 with h1 | ⟨k, a, b, c⟩
      · exact .inl h1
      · exact .inr ⟨k, by omega, b, c⟩
  · by_cases e : k = q
    · subst e; omega
    · have := h2 k (by omega) hki; omega
theorem IsMx.no {op : Nat → Bool} {J : List Nat} {i q : Nat} {mo : Int} (h : IsMx n zs op J i q mo) (hq : eN zs 0 q ≠ i) : IsMx n zs op J i (q + 1) mo := by
  obtain ⟨h1, h2, h3, h4⟩ := h
  refine ⟨?_, fun k hk hki => ?_, h3, h4⟩
  · rcases h1 with h1 | ⟨k, a, b, c⟩
    · exact .inl h1
    · exact .inr ⟨k, by omega, b, c⟩
  · by_cases e : k = q
    · subst e; exact absurd hki hq
    · exact h2 k (by omega) hki
theorem mx_two {i : Nat} {mo : Int} (H : ShN n zs ks) (h : IsMx n zs (opnL n zs ks) (kNt ks) i n mo) (e : mo = 2) : ikS n zs (opnL n zs ks) (kNt ks) 0 i = 2 := by
  rcases h.1 with h1 | ⟨k, a, b, c⟩
  · omega
  · refine (ik_always H).2 (fun p hp => ⟨k, a, b, (kind_always H a).1 (by rw [c, e]) p hp⟩)
theorem mx_pos {i : Nat} {mo : Int} (H : ShN n zs ks) (h : IsMx n zs (opnL n zs ks) (kNt ks) i n mo) : 0 < mo ↔ ikS n zs (opnL n zs ks) (kNt ks) 0 i ≠ 0 := by
  rw [Ne, ik_never H]
  constructor
  · intro h0 hno
    rcases h.1 with h1 | ⟨k, a, b, c⟩
    · omega
    · have := hno k a b; omega
  · intro h0
    apply Classical.byContradiction
    intro hle
    refine h0 (fun k hk hki => ?_)
    have := h.2.1 k hk hki
    have := kind_may n zs (opnL n zs ks) (kNt ks) k
    omega
end
end Go.Proofs.Ytnodkgejggnehaa
