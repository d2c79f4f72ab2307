/- Stage 4: longest passages, their number and grades if lines go over to others (mathematics for WordTurned). -/
import Derived.Test.YthdjbapidodlfaaMor
import Derived.Test.YthdjbapidodlfaaGrm
namespace Go.Proofs.Ythdjbapidodlfaa
set_option linter.unusedSimpArgs false
set_option linter.unusedVariables false
open Go.RowKit Go.Shelf
theorem chs_nodup {α : Type} {l : List α} {lt : α → α → Bool} (hn : l.Nodup) : ∀ k, (chs l lt k).Nodup
  | 0 => by simp [chs]
  | k + 1 => by
    have ih := chs_nodup (lt := lt) hn k
    unfold chs List.Nodup
    rw [List.pairwise_flatMap]
    refine ⟨fun p _ => ?_, ih.imp fun {a b} hab x hx y hy e => ?_⟩
    · rw [List.pairwise_map]
      exact (hn.filter _).imp fun hab e => hab (by simpa using e)
    · obtain ⟨u, _, rfl⟩ := List.mem_map.1 hx
      obtain ⟨v, _, rfl⟩ := List.mem_map.1 hy
      exact hab (List.append_inj_left' e rfl)
theorem mem_lng {nm : List Int} {L q : List (List Int)} {m : Nat} (hL : LV L m) : q ∈ lngS nm L m ↔ Chain' (bef m) q ∧ (∀ x ∈ q, x ∈ mtS nm L) ∧ q.length = topK nm L m := by
  constructor
  · intro h
    exact ⟨chs_pair bef_tr h, chs_mem (show q ∈ chs (mtS nm L) (bef m) (topK nm L m) from h), chs_len h⟩
  · rintro ⟨h1, h2, h3⟩
    have := chs_all h1 h2
    rw [h3] at this
    exact this
/-- Chains of one list go over to chains of another one by F, and back by G. -/
structure Goes (nm : List Int) (L L' : List (List Int)) (m : Nat) (F G : List (List Int) → List (List Int)) : Prop where
  fore : ∀ q, Chain' (bef m) q → (∀ x ∈ q, x ∈ mtS nm L) → Chain' (bef m) (F q) ∧ (∀ x ∈ F q, x ∈ mtS nm L') ∧ (F q).length = q.length ∧ G (F q) = q
  back : ∀ q, Chain' (bef m) q → (∀ x ∈ q, x ∈ mtS nm L') → Chain' (bef m) (G q) ∧ (∀ x ∈ G q, x ∈ mtS nm L) ∧ (G q).length = q.length ∧ F (G q) = q
section
variable {nm : List Int} {L L' : List (List Int)} {m : Nat} {F G : List (List Int) → List (List Int)}
theorem Goes.top (h : Goes nm L L' m F G) (hL : LV L m) (hL' : LV L' m) : topK nm L m = topK nm L' m :=
  Nat.le_antisymm (topK_of hL hL' F fun q h1 h2 => ⟨(h.fore q h1 h2).1, (h.fore q h1 h2).2.1, (h.fore q h1 h2).2.2.1⟩) (topK_of hL' hL G fun q h1 h2 => ⟨(h.back q h1 h2).1, (h.back q h1 h2).2.1, (h.back q h1 h2).2.2.1⟩)
theorem Goes.perm (h : Goes nm L L' m F G) (hL : LV L m) (hL' : LV L' m) : List.Perm ((lngS nm L m).map F) (lngS nm L' m) := by
  have hn : (lngS nm L m).Nodup := chs_nodup (mtS_nodup hL) _
  have hn' : (lngS nm L' m).Nodup := chs_nodup (mtS_nodup hL') _
  refine (List.perm_ext_iff_of_nodup ?_ hn').2 fun y => ?_
  · unfold List.Nodup
    rw [List.pairwise_map]
    refine (List.Pairwise.and_mem.1 hn).imp ?_
    rintro a b ⟨ha, hb, hab⟩ e
    obtain ⟨a1, a2, _⟩ := (mem_lng hL).1 ha
    obtain ⟨b1, b2, _⟩ := (mem_lng hL).1 hb
    rw [← (h.fore a a1 a2).2.2.2, ← (h.fore b b1 b2).2.2.2, e] at hab
    exact hab rfl
  · rw [List.mem_map]
    constructor
    · rintro ⟨a, ha, rfl⟩
      obtain ⟨a1, a2, a3⟩ := (mem_lng hL).1 ha
      obtain ⟨c1, c2, c3, _⟩ := h.fore a a1 a2
      exact (mem_lng hL').2 ⟨c1, c2, by rw [c3, a3, h.top hL hL']⟩
    · intro hy
      obtain ⟨a1, a2, a3⟩ := (mem_lng hL').1 hy
      obtain ⟨c1, c2, c3, c4⟩ := h.back y a1 a2
      exact ⟨G y, (mem_lng hL).2 ⟨c1, c2, by rw [c3, a3, h.top hL hL']⟩, c4⟩
theorem Goes.cnt (h : Goes nm L L' m F G) (hL : LV L m) (hL' : LV L' m) : cntS (allK (mtS nm L) m) = cntS (allK (mtS nm L') m) := by
  rw [← lng_cnt hL, ← lng_cnt hL', ← (h.perm hL hL').length_eq, List.length_map]
theorem Goes.symm (h : Goes nm L L' m F G) : Goes nm L' L m G F := ⟨h.back, h.fore⟩
theorem Goes.none (h : Goes nm L L' m F G) (e : mtS nm L = []) : mtS nm L' = [] := by
  refine List.eq_nil_iff_forall_not_mem.2 fun y hy => ?_
  obtain ⟨_, h2, h3, _⟩ := h.back [y] (List.pairwise_singleton ..) (fun x hx => by rw [List.mem_singleton.1 hx]; exact hy)
  obtain ⟨x, hx⟩ : ∃ x, x ∈ G [y] := by
    rcases hg : G [y] with _ | ⟨x, t⟩
    · rw [hg] at h3; cases h3
    · exact ⟨x, List.mem_cons_self ..⟩
  have := h2 x hx
  rw [e] at this
  cases this
theorem Goes.all (h : Goes nm L L' m F G) (hL : LV L m) (hL' : LV L' m) : (allK (mtS nm L) m).2 = (allK (mtS nm L') m).2 := by
  by_cases e : mtS nm L = []
  · rw [e, h.none e]
  · have e' : mtS nm L' ≠ [] := fun e2 => e (h.symm.none e2)
    rw [← lng_len hL e, ← lng_len hL' e', ← (h.perm hL hL').length_eq, List.length_map]
theorem Goes.grade (h : Goes nm L L' m F G) (hL : LV L m) (hL' : LV L' m) {u u' i i' : Nat} (hu : u < m) (hu' : u' < m) (hi : i < (lAt L u).length) (hi' : i' < (lAt L' u').length)
    (hh : ∀ q, (∀ x ∈ q, x ∈ mtS nm L) → hrQ u' i' (F q) = hrQ u i q) : iAt (grS nm L' m u') i' = iAt (grS nm L m u) i := by
  rw [grS_at hi', grS_at hi, h.all hL hL', sm_hear hL' hu', sm_hear hL hu]
  congr 2
  have e1 : sumN (lngS nm L' m) (fun q => if hrQ u' i' q = true then 1 else 0) = sumN ((lngS nm L m).map F) fun q => if hrQ u' i' q = true then 1 else 0 := by
    unfold sumN
    exact (((h.perm hL hL').map _).sum_nat).symm
  rw [e1, sumN_map]
  exact sumN_congr fun q hq => by rw [hh q ((mem_lng hL).1 hq).2.1]
end
/-- Lists of numbers are equal if they are as long, and equal at each index. -/
theorem list_iAt {a b : List Int} (hl : a.length = b.length) (h : ∀ i, i < a.length → iAt a i = iAt b i) : a = b := by
  refine List.ext_getElem hl fun i h1 h2 => ?_
  have := h i h1
  rw [iAt_eq h1, iAt_eq h2] at this
  exact this
theorem iAt_r4 (f : Nat → Int) (j : Nat) : iAt ((List.range 4).map f) j = if j < 4 then f j else 0 := by
  unfold iAt
  rw [List.getD_eq_getElem?_getD, List.getElem?_map]
  by_cases h : j < 4
  · rw [if_pos h, List.getElem?_range h]; rfl
  · rw [if_neg h, List.getElem?_eq_none (by simp; omega)]; rfl
section
variable {nm : List Int} {L L' : List (List Int)} {m : Nat}
/-- Matches go over, and keep their order. -/
theorem goes_map {f g : List Int → List Int} (h1 : ∀ x, x ∈ mtS nm L → f x ∈ mtS nm L' ∧ g (f x) = x) (h2 : ∀ x, x ∈ mtS nm L' → g x ∈ mtS nm L ∧ f (g x) = x)
    (b1 : ∀ x y, x ∈ mtS nm L → y ∈ mtS nm L → bef m x y = true → bef m (f x) (f y) = true) (b2 : ∀ x y, x ∈ mtS nm L' → y ∈ mtS nm L' → bef m x y = true → bef m (g x) (g y) = true) :
    Goes nm L L' m (List.map f) (List.map g) := by
  have key : ∀ {L L' : List (List Int)} {f g : List Int → List Int}, (∀ x, x ∈ mtS nm L → f x ∈ mtS nm L' ∧ g (f x) = x) → (∀ x y, x ∈ mtS nm L → y ∈ mtS nm L → bef m x y = true → bef m (f x) (f y) = true) →
      ∀ q, Chain' (bef m) q → (∀ x ∈ q, x ∈ mtS nm L) → Chain' (bef m) (q.map f) ∧ (∀ x ∈ q.map f, x ∈ mtS nm L') ∧ (q.map f).length = q.length ∧ (q.map f).map g = q := by
    intro L L' f g h1 b1 q hc hm
    refine ⟨?_, fun x hx => ?_, List.length_map .., ?_⟩
    · unfold Chain' at hc ⊢
      rw [List.pairwise_map]
      exact (List.Pairwise.and_mem.1 hc).imp fun ⟨ha, hb, h⟩ => b1 _ _ (hm _ ha) (hm _ hb) h
    · obtain ⟨y, hy, rfl⟩ := List.mem_map.1 hx
      exact (h1 y (hm y hy)).1
    · rw [List.map_map]
      conv => rhs; rw [← List.map_id q]
      exact List.map_congr_left fun x hx => (h1 x (hm x hx)).2
  exact ⟨key h1 b1, key h2 b2⟩
/-- Matches go over, and turn their order round. -/
theorem goes_rev {f g : List Int → List Int} (h1 : ∀ x, x ∈ mtS nm L → f x ∈ mtS nm L' ∧ g (f x) = x) (h2 : ∀ x, x ∈ mtS nm L' → g x ∈ mtS nm L ∧ f (g x) = x)
    (b1 : ∀ x y, x ∈ mtS nm L → y ∈ mtS nm L → bef m x y = true → bef m (f y) (f x) = true) (b2 : ∀ x y, x ∈ mtS nm L' → y ∈ mtS nm L' → bef m x y = true → bef m (g y) (g x) = true) :
    Goes nm L L' m (fun q => (q.map f).reverse) (fun q => (q.map g).reverse) := by
  have key : ∀ {L L' : List (List Int)} {f g : List Int → List Int}, (∀ x, x ∈ mtS nm L → f x ∈ mtS nm L' ∧ g (f x) = x) → (∀ x y, x ∈ mtS nm L → y ∈ mtS nm L → bef m x y = true → bef m (f y) (f x) = true) →
      ∀ q, Chain' (bef m) q → (∀ x ∈ q, x ∈ mtS nm L) → Chain' (bef m) (q.map f).reverse ∧ (∀ x ∈ (q.map f).reverse, x ∈ mtS nm L') ∧ (q.map f).reverse.length = q.length ∧ ((q.map f).reverse.map g).reverse = q := by
    intro L L' f g h1 b1 q hc hm
    refine ⟨?_, fun x hx => ?_, by rw [List.length_reverse, List.length_map], ?_⟩
    · unfold Chain' at hc ⊢
      rw [List.pairwise_reverse, List.pairwise_map]
      exact (List.Pairwise.and_mem.1 hc).imp fun ⟨ha, hb, h⟩ => b1 _ _ (hm _ ha) (hm _ hb) h
    · obtain ⟨y, hy, rfl⟩ := List.mem_map.1 (List.mem_reverse.1 hx)
      exact (h1 y (hm y hy)).1
    · rw [List.map_reverse, List.reverse_reverse, List.map_map]
      conv => rhs; rw [← List.map_id q]
      exact List.map_congr_left fun x hx => (h1 x (hm x hx)).2
  exact ⟨key h1 b1, key h2 b2⟩
/-- A match read from the ends of all lines. -/
def trF (L : List (List Int)) (m : Nat) (x : List Int) : List Int := (List.range 4).map fun h => if h < m then ((lAt L h).length : Int) - 1 - iAt x h else 0
theorem trF_at (hL : LV L m) (x : List Int) {h : Nat} (hh : h < m) : iAt (trF L m x) h = ((lAt L h).length : Int) - 1 - iAt x h := by
  have := hL.hi
  unfold trF
  rw [iAt_r4, if_pos (by omega), if_pos hh]
theorem iAt_rv {l : List Int} {i : Nat} (hi : i < l.length) : iAt l.reverse (l.length - 1 - i) = iAt l i := by
  rw [iAt_eq (by rw [List.length_reverse]; omega), iAt_eq hi, List.getElem_reverse]
  congr 1
  omega
/-- All lines are read from their ends. -/
def Revs (L L' : List (List Int)) (m : Nat) : Prop := ∀ j, j < m → lAt L' j = (lAt L j).reverse
theorem Revs.symm (h : Revs L L' m) : Revs L' L m := fun j hj => by rw [h j hj, List.reverse_reverse]
theorem trF_ok (hL : LV L m) (hL' : LV L' m) (hr : Revs L L' m) {x : List Int} (hx : x ∈ mtS nm L) : trF L m x ∈ mtS nm L' ∧ trF L' m (trF L m x) = x := by
  have ox := (mem_mtS hL x).1 hx
  have hlo := hL.lo
  have hhi := hL.hi
  have hlen : ∀ j, j < m → (lAt L' j).length = (lAt L j).length := fun j hj => by rw [hr j hj, List.length_reverse]
  have hw : ∀ h, h < m → wdA L' h (iAt (trF L m x) h).toNat = wdA L h (iAt x h).toNat := fun h hh => by
    have hrg := ox.rng h hh
    unfold wdA
    rw [hr h hh, trF_at hL x hh, show (((lAt L h).length : Int) - 1 - iAt x h).toNat = (lAt L h).length - 1 - (iAt x h).toNat by omega, iAt_rv (by omega)]
  refine ⟨(mem_mtS hL' _).2 ⟨by simp [trF], fun i hi => ?_, fun h hh => ?_, fun h hh => ?_⟩, ?_⟩
  · unfold trF
    rw [iAt_r4]
    split
    · rw [if_neg (by omega)]
    · rfl
  · have hrg := ox.rng h hh
    rw [trF_at hL x hh, hlen h hh]
    omega
  · rw [hw h hh, hw 0 (by omega)]
    exact ox.kin h hh
  · refine list_iAt (by rw [ox.len]; simp [trF]) fun i hi => ?_
    have hi4 : i < 4 := by simpa [trF] using hi
    by_cases hm : i < m
    · rw [trF_at hL' _ hm, trF_at hL _ hm, hlen i hm]
      omega
    · rw [ox.zero i (by omega)]
      unfold trF
      rw [iAt_r4, if_pos hi4, if_neg hm]
theorem trF_bef (hL : LV L m) {x y : List Int} (h : bef m x y = true) : bef m (trF L m y) (trF L m x) = true := by
  unfold bef at h ⊢
  rw [befB_iff] at h ⊢
  intro i hi
  have := h i hi
  rw [trF_at hL _ hi, trF_at hL _ hi]
  omega
theorem goes_turn (hL : LV L m) (hL' : LV L' m) (hr : Revs L L' m) : Goes nm L L' m (fun q => (q.map (trF L m)).reverse) (fun q => (q.map (trF L' m)).reverse) :=
  goes_rev (fun x hx => trF_ok hL hL' hr hx) (fun x hx => trF_ok hL' hL hr.symm hx) (fun x y _ _ h => trF_bef hL h) (fun x y _ _ h => trF_bef hL' h)
theorem turn_grade (hL : LV L m) (hL' : LV L' m) (hr : Revs L L' m) {u i : Nat} (hu : u < m) (hi : i < (lAt L u).length) : iAt (grS nm L' m u) ((lAt L u).length - 1 - i) = iAt (grS nm L m u) i := by
  refine (goes_turn (nm := nm) hL hL' hr).grade hL hL' hu hu hi (by rw [hr u hu, List.length_reverse]; omega) fun q hq => ?_
  unfold hrQ
  rw [List.any_reverse, List.any_map, Bool.eq_iff_iff, List.any_eq_true, List.any_eq_true]
  refine exists_congr fun x => and_congr_right fun hx => ?_
  have hrg := ((mem_mtS hL x).1 (hq x hx)).rng u hu
  simp only [Function.comp, decide_eq_true_eq]
  rw [trF_at hL x hu]
  omega
/-- Hearers change their places. -/
def Rots (L L' : List (List Int)) (m t : Nat) : Prop := ∀ j, j < m → lAt L' j = lAt L ((j + t) % m)
def roF (m t : Nat) (x : List Int) : List Int := (List.range 4).map fun j => if j < m then iAt x ((j + t) % m) else 0
theorem roF_at (hL : LV L m) (t : Nat) (x : List Int) {h : Nat} (hh : h < m) : iAt (roF m t x) h = iAt x ((h + t) % m) := by
  have := hL.hi
  unfold roF
  rw [iAt_r4, if_pos (by omega), if_pos hh]
theorem mod_back {m t j : Nat} (h2 : 2 ≤ m) (h4 : m ≤ 4) (ht : t < m) (hj : j < m) : ((j + t) % m + (m - t)) % m = j ∧ ((j + (m - t)) % m + t) % m = j := by
  obtain rfl | rfl | rfl : m = 2 ∨ m = 3 ∨ m = 4 := by omega
  all_goals omega
theorem Rots.symm (hL : LV L m) {t : Nat} (ht : t < m) (h : Rots L L' m t) : Rots L' L m (m - t) := fun j hj => by
  have hlo := hL.lo
  rw [h _ (Nat.mod_lt _ (by omega)), (mod_back hlo hL.hi ht hj).2]
theorem roF_ok (hL : LV L m) (hL' : LV L' m) {t s : Nat} (hr : Rots L L' m t) (hs : ∀ j, j < m → ((j + s) % m + t) % m = j) {x : List Int} (hx : x ∈ mtS nm L) : roF m t x ∈ mtS nm L' ∧ roF m s (roF m t x) = x := by
  have ox := (mem_mtS hL x).1 hx
  have hlo := hL.lo
  have hhi := hL.hi
  have hmod : ∀ j, (j + t) % m < m := fun j => Nat.mod_lt _ (by omega)
  have hw : ∀ h, h < m → wdA L' h (iAt (roF m t x) h).toNat = wdA L ((h + t) % m) (iAt x ((h + t) % m)).toNat := fun h hh => by
    unfold wdA
    rw [hr h hh, roF_at hL t x hh]
  refine ⟨(mem_mtS hL' _).2 ⟨by simp [roF], fun i hi => ?_, fun h hh => ?_, fun h hh => ?_⟩, ?_⟩
  · unfold roF
    rw [iAt_r4]
    split
    · rw [if_neg (by omega)]
    · rfl
  · rw [roF_at hL t x hh, hr h hh]
    exact ox.rng _ (hmod h)
  · rw [hw h hh, hw 0 (by omega)]
    exact (ox.kin _ (hmod h)).trans (ox.kin _ (hmod 0)).symm
  · refine list_iAt (by rw [ox.len]; simp [roF]) fun i hi => ?_
    have hi4 : i < 4 := by simpa [roF] using hi
    by_cases hm : i < m
    · rw [roF_at hL s _ hm, roF_at hL t _ (Nat.mod_lt _ (by omega)), hs i hm]
    · rw [ox.zero i (by omega)]
      unfold roF
      rw [iAt_r4, if_pos hi4, if_neg hm]
theorem roF_bef (hL : LV L m) (t : Nat) {x y : List Int} (h : bef m x y = true) : bef m (roF m t x) (roF m t y) = true := by
  have hlo := hL.lo
  unfold bef at h ⊢
  rw [befB_iff] at h ⊢
  intro i hi
  rw [roF_at hL _ _ hi, roF_at hL _ _ hi]
  exact h _ (Nat.mod_lt _ (by omega))
theorem goes_rot (hL : LV L m) (hL' : LV L' m) {t : Nat} (ht : t < m) (hr : Rots L L' m t) : Goes nm L L' m (List.map (roF m t)) (List.map (roF m (m - t))) :=
  goes_map (fun x hx => roF_ok hL hL' hr (fun j hj => (mod_back hL.lo hL.hi ht hj).2) hx) (fun x hx => roF_ok hL' hL (hr.symm hL ht) (fun j hj => (mod_back hL.lo hL.hi ht hj).1) hx) (fun x y _ _ h => roF_bef hL t h) (fun x y _ _ h => roF_bef hL' _ h)
theorem grS_len (h : Nat) : (grS nm L m h).length = (lAt L h).length := by unfold grS; rw [List.length_map, smK_len]
theorem rot_grade (hL : LV L m) (hL' : LV L' m) {t : Nat} (ht : t < m) (hr : Rots L L' m t) {u u' : Nat} (hu' : u' < m) (hu : (u' + t) % m = u) : grS nm L' m u' = grS nm L m u := by
  have hlo := hL.lo
  have hum : u < m := by rw [← hu]; exact Nat.mod_lt _ (by omega)
  have hlu : lAt L' u' = lAt L u := by rw [hr u' hu', hu]
  refine list_iAt (by rw [grS_len, grS_len, hlu]) fun i hi => ?_
  rw [grS_len] at hi
  refine (goes_rot (nm := nm) hL hL' ht hr).grade hL hL' hum hu' (by rw [← hlu]; exact hi) hi fun q hq => ?_
  unfold hrQ
  rw [List.any_map, Bool.eq_iff_iff, List.any_eq_true, List.any_eq_true]
  refine exists_congr fun x => and_congr_right fun hx => ?_
  simp only [Function.comp, decide_eq_true_eq]
  rw [roF_at hL t x hu', hu]
end
end Go.Proofs.Ythdjbapidodlfaa
