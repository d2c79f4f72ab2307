/- Stage 3, mathematics: what Share tells, said by the short scales themselves. -/
import Derived.Test.YtdfdlklglbefiaaShr
import Derived.Test.YtdfdlklglbefiaaBlm
namespace Go.Proofs.Ytdfdlklglbefiaa
set_option linter.unusedSimpArgs false
set_option linter.unusedVariables false
/-- A right scale with as few steps as can be. -/
def ShS (zs : List Rg) (st : List Int) : Prop := Incr st ∧ right zs st ∧ ∀ st', Incr st' → right zs st' → st.length ≤ st'.length
theorem up_shS {zs : List Rg} (ho : Ok zs) {x : List Int} (h : IsUp zs x) : ShS zs x := ⟨h.incr ho, h.right, fun st' h1 h2 => h.len_le h1 h2⟩
theorem shS_len {zs : List Rg} (ho : Ok zs) {a : Nat} (ha : LenU zs a) {st : List Int} (h : ShS zs st) : st.length = a := by
  obtain ⟨x, hx, rfl⟩ := lenU_up ha
  have h1 := h.2.2 x (hx.incr ho) hx.right
  have h2 := hx.len_le h.1 h.2.1
  omega
theorem shS_of {zs : List Rg} {a : Nat} (ha : LenU zs a) {st : List Int} (h1 : Incr st) (h2 : right zs st) (h3 : st.length ≤ a) : ShS zs st := by
  obtain ⟨x, hx, rfl⟩ := lenU_up ha
  exact ⟨h1, h2, fun st' h4 h5 => Nat.le_trans h3 (hx.len_le h4 h5)⟩
theorem comm_comm_ (a b : Rg) : comm a b = comm b a := by unfold comm; rw [Int.max_comm, Int.min_comm]
theorem comm_self (a : Rg) : comm a a = a := by unfold comm; rw [Int.max_self, Int.min_self]
theorem meets_comm {st : List Int} {p q : Rg} : meets st (comm p q) = true ↔ ∃ x ∈ st, onR x p = true ∧ onR x q = true := by
  unfold meets
  rw [List.any_eq_true]
  constructor
  · rintro ⟨x, hx, h⟩; exact ⟨x, hx, (onR_comm _ _ _).1 h⟩
  · rintro ⟨x, hx, h⟩; exact ⟨x, hx, (onR_comm _ _ _).2 h⟩
theorem not_meets {st : List Int} {g : Rg} (h : ¬ meets st g = true) : ∀ x ∈ st, ¬ (g.lo ≤ x ∧ x ≤ g.hi) := fun x hx h1 => h (meets_iff.2 ⟨x, hx, h1.1, h1.2⟩)
/-- Where a right scale has no step in the gap, what is left of every range is a range. -/
theorem wo_valid {zs : List Rg} (h : chkS zs = 0) {g : Rg} {st : List Int} (hr : right zs st) (hn : ∀ x ∈ st, ¬ (g.lo ≤ x ∧ x ≤ g.hi)) : validZ (zs.map (woR g)) = true := by
  unfold validZ
  rw [List.all_eq_true]
  intro q hq
  obtain ⟨r, hm, rfl⟩ := List.mem_map.1 hq
  obtain ⟨x, hx, h1, h2⟩ := meets_iff.1 (hr r hm)
  have h3 := hn x hx
  have h4 := okR h r hm
  rw [okZ_iff]
  simp only [woR]
  refine ⟨?_, ?_, ?_⟩
  · split <;> omega
  · split <;> split <;> omega
  · split <;> omega
theorem okZ_valid {zs : List Rg} (h : validZ zs = true) : Ok zs := fun r hr => (okZ_iff.1 (List.all_eq_true.1 h r hr)).2.1
/-- What Share tells of a right song and two of its tones. -/
theorem sr_sem {zs : List Rg} (hz : chkS zs = 0) {i k : Nat} (hi : i < zs.length) (hk : k < zs.length) {may must : Bool} {e : Int} (h : SrR zs (i : Int) (k : Int) may must e) :
    e = 0 ∧ (may = true ↔ okZ (comm (gAt zs i) (gAt zs k)) = true ∧ ∃ st, ShS zs st ∧ meets st (comm (gAt zs i) (gAt zs k)) = true) ∧
      (must = true ↔ okZ (comm (gAt zs i) (gAt zs k)) = true ∧ ∀ st, ShS zs st → meets st (comm (gAt zs i) (gAt zs k)) = true) := by
  have hin : withI 0 ((zs.length : Int) - 1) [(i : Int), (k : Int)] = true := by simp [withI, inB]; omega
  have ho := ok_of hz
  unfold SrR at h
  simp only [Int.toNat_natCast] at h
  rcases h with ⟨h1, _⟩ | ⟨_, h1, _⟩ | ⟨_, _, h1, rfl, rfl, rfl⟩ | ⟨_, _, h1, rfl, a, b, ha, hb, rfl, hc⟩
  · exact absurd hz h1
  · rw [hin] at h1; cases h1
  · refine ⟨rfl, ?_, ?_⟩ <;> simp [h1]
  · obtain ⟨g, hg⟩ : ∃ g, comm (gAt zs i) (gAt zs k) = g := ⟨_, rfl⟩
    have hrn := fun st => right_narrow (st := st) hi hk
    have hme := fun st => meets_comm (st := st) (p := gAt zs i) (q := gAt zs k)
    rw [hg] at hrn hme h1 hb hc ⊢
    have hg2 := okZ_iff.1 h1
    have hbo : Ok (zs.set i g) := fun q hq => by
      rcases List.mem_or_eq_of_mem_set hq with h | rfl
      · exact ho q h
      · exact hg2.2.1
    refine ⟨rfl, ?_, ?_⟩
    · rw [decide_eq_true_iff]
      constructor
      · rintro rfl
        obtain ⟨x, hx, hl⟩ := lenU_up hb
        obtain ⟨h2, h3⟩ := (hrn x).1 hx.right
        exact ⟨h1, x, shS_of ha (hx.incr hbo) h2 (Nat.le_of_eq hl), (hme x).2 h3⟩
      · rintro ⟨_, st, hs, hm⟩
        obtain ⟨x, hx, rfl⟩ := lenU_up hb
        have h2 := hx.len_le hs.1 ((hrn st).2 ⟨hs.2.1, (hme st).1 hm⟩)
        have h3 := hs.2.2 x (hx.incr hbo) ((hrn x).1 hx.right).1
        have h4 := shS_len ho ha hs
        omega
    · constructor
      · intro hmu
        refine ⟨h1, fun st hs => ?_⟩
        apply Classical.byContradiction
        intro hn
        have hv := wo_valid hz hs.2.1 (not_meets hn)
        rcases hc with ⟨h2, _⟩ | ⟨_, c, h3, rfl⟩
        · rw [hv] at h2; cases h2
        · have h4 := (wo_least hg2.2.1 (okZ_valid hv) h3).2 st hs.1 hs.2.1 (not_meets hn)
          have h5 := shS_len ho ha hs
          have h6 := of_decide_eq_true hmu
          omega
      · rintro ⟨_, hall⟩
        rcases hc with ⟨_, rfl⟩ | ⟨hv, c, h3, rfl⟩
        · rfl
        · rw [decide_eq_true_iff]
          apply Classical.byContradiction
          intro hlt
          obtain ⟨st, h4, h5, h6, h7⟩ := (wo_least hg2.2.1 (okZ_valid hv) h3).1
          have := hall st (shS_of ha h4 h5 (by omega))
          obtain ⟨x, hx, h8, h9⟩ := meets_iff.1 this
          exact h6 x hx ⟨h8, h9⟩
/-- Two tones share as much the other way round. -/
theorem sr_swap {zs : List Rg} (hz : chkS zs = 0) {i k : Nat} (hi : i < zs.length) (hk : k < zs.length) {may must may' must' : Bool} {e e' : Int} (h : SrR zs (i : Int) (k : Int) may must e) (h' : SrR zs (k : Int) (i : Int) may' must' e') : may = may' ∧ must = must' := by
  obtain ⟨_, h1, h2⟩ := sr_sem hz hi hk h
  obtain ⟨_, h3, h4⟩ := sr_sem hz hk hi h'
  rw [comm_comm_] at h3 h4
  exact ⟨Bool.eq_iff_iff.2 (h1.trans h3.symm), Bool.eq_iff_iff.2 (h2.trans h4.symm)⟩
/-- A tone shares all with itself. -/
theorem sr_self {zs : List Rg} (hz : chkS zs = 0) {i : Nat} (hi : i < zs.length) {may must : Bool} {e : Int} (h : SrR zs (i : Int) (i : Int) may must e) {x : List Int} (hx : IsUp zs x) : may = true ∧ must = true := by
  obtain ⟨_, h1, h2⟩ := sr_sem hz hi hi h
  rw [comm_self] at h1 h2
  have hm : gAt zs i ∈ zs := by rw [gAt_eq hi]; exact List.getElem_mem _
  have ho := List.all_eq_true.1 (chkS_ok hz).1 _ hm
  exact ⟨h1.2 ⟨ho, x, up_shS (ok_of hz) hx, hx.right _ hm⟩, h2.2 ⟨ho, fun st hs => hs.2.1 _ hm⟩⟩
/-- What must be shared may be shared. -/
theorem sr_must {zs : List Rg} (hz : chkS zs = 0) {i k : Nat} (hi : i < zs.length) (hk : k < zs.length) {may must : Bool} {e : Int} (h : SrR zs (i : Int) (k : Int) may must e) {x : List Int} (hx : IsUp zs x) (hm : must = true) : may = true := by
  obtain ⟨_, h1, h2⟩ := sr_sem hz hi hk h
  obtain ⟨h3, h4⟩ := h2.1 hm
  exact h1.2 ⟨h3, x, up_shS (ok_of hz) hx, h4 x (up_shS (ok_of hz) hx)⟩
/-- Every short scale keeps to what Share tells. -/
theorem sr_on {zs : List Rg} (hz : chkS zs = 0) {i k : Nat} (hi : i < zs.length) (hk : k < zs.length) {may must : Bool} {e : Int} (h : SrR zs (i : Int) (k : Int) may must e) {x st : List Int} (hx : IsUp zs x) (hs : ckSc zs st = 0) (hl : st.length = x.length) :
    (must = true → meets st (comm (gAt zs i) (gAt zs k)) = true) ∧ (may = false → meets st (comm (gAt zs i) (gAt zs k)) = false) := by
  obtain ⟨_, h1, h2⟩ := sr_sem hz hi hk h
  obtain ⟨a1, _, _, a2⟩ := (ckSc_iff hz).1 hs
  have hS : ShS zs st := ⟨a1, a2, fun st' b1 b2 => by rw [hl]; exact hx.len_le b1 b2⟩
  refine ⟨fun hm => (h2.1 hm).2 st hS, fun hm => ?_⟩
  cases hq : meets st (comm (gAt zs i) (gAt zs k)) with
  | false => rfl
  | true =>
    obtain ⟨y, hy, b1, b2⟩ := meets_iff.1 hq
    have o1 := okR hz _ (show gAt zs i ∈ zs by rw [gAt_eq hi]; exact List.getElem_mem _)
    have o2 := okR hz _ (show gAt zs k ∈ zs by rw [gAt_eq hk]; exact List.getElem_mem _)
    have := h1.2 ⟨okZ_iff.2 (by simp only [comm] at b1 b2 ⊢; omega), st, hS, hq⟩
    rw [hm] at this; cases this
/-- Where two ranges have no cent in common, nothing may be shared. -/
theorem sr_none {zs : List Rg} (hz : chkS zs = 0) {i k : Nat} (hi : i < zs.length) (hk : k < zs.length) {may must : Bool} {e : Int} (h : SrR zs (i : Int) (k : Int) may must e) (hn : (comm (gAt zs i) (gAt zs k)).hi < (comm (gAt zs i) (gAt zs k)).lo) : may = false := by
  obtain ⟨_, h1, _⟩ := sr_sem hz hi hk h
  cases hm : may with
  | false => rfl
  | true =>
    have := (okZ_iff.1 (h1.1 hm).1).2.1
    omega
end Go.Proofs.Ytdfdlklglbefiaa
