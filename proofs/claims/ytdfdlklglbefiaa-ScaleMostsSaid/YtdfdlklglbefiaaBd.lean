/- Stage 3: boards: a song with marks; set, and meet. -/
import Derived.Test.YtdfdlklglbefiaaBase
namespace Go.Proofs.Ytdfdlklglbefiaa
set_option linter.unusedSimpArgs false
set_option linter.unusedVariables false
open Go.RowKit Go.Shelf

def inB (lo hi x : Int) : Bool := decide (lo ≤ x) && decide (x ≤ hi)
theorem inB_iff {lo hi x : Int} : inB lo hi x = true ↔ lo ≤ x ∧ x ≤ hi := by simp [inB]
def withI (lo hi : Int) (zs : List Int) : Bool := zs.all (inB lo hi)
theorem withI_take (lo hi : Int) (zs : List Int) (k : Nat) (hk : k < zs.length) : withI lo hi (zs.take (k + 1)) = (withI lo hi (zs.take k) && inB lo hi (iAt zs k)) := all_take _ zs k 0 hk
theorem withI_stop (lo hi : Int) (zs : List Int) (k : Nat) (hk : k < zs.length) (h : ¬ (lo ≤ iAt zs k ∧ iAt zs k ≤ hi)) : withI lo hi zs = false := all_stop _ zs k 0 hk (by
  cases h2 : inB lo hi (zs.getD k 0)
  · rfl
  · exact absurd (inB_iff.1 h2) h)

set_option maxRecDepth 100000 in
set_option maxHeartbeats 1000000 in
theorem within60 (A : Option Addr) (n cap : Nat) (zs : List Int) (lo hi : Int) (w : World) (h : Ints w A n zs) (hn : n ≤ 1000000) :
    Calls Try.prog 60 #[.int .i64 lo, .int .i64 hi, .slice A n cap] w fun e w' => e = .returned (.bool (withI lo hi zs)) ∧ w' = w := by
  go_enter Try.func60, Try.ntmps60
  go_wp2_with fail
  go_loopw [11] (fun i wr => ∃ k : Nat, k ≤ n ∧ i = .int .i64 k ∧ withI lo hi (zs.take k) = true ∧ wr = w) (fun i _ => n - (intOf i).toNat)
  case atStart => exact ⟨0, Nat.zero_le _, rfl, rfl, rfl⟩
  case round =>
    obtain ⟨k, hk, rfl, hw, rfl⟩ := hrel
    by_cases hlt : k < n
    · obtain ⟨hl, hc⟩ := h
      obtain ⟨b, o, rfl, hc2⟩ := hc (by omega)
      have c0 := hc2 k hlt
      have Hs := Lib.hid (withI_take lo hi zs k (by omega))
      have Hf := Lib.hid (withI_stop lo hi zs k (by omega))
      have Hw := Lib.hid hw
      obtain ⟨g, hg⟩ : ∃ g, iAt zs k = g := ⟨_, rfl⟩
      rw [hg] at c0 Hs Hf
      have i0 : (0 : Int) ≤ (k : Int) := by omega
      have i1 : (k : Int) < (n : Int) := by omega
      clear hc hc2 hw hl hg
      by_cases h1 : g < lo
      · have d1 : decide (g < lo) = true := decide_eq_true h1
        go_wp2_with fail
        go_ret
        exact ⟨ret_bool (Hf.out (by omega)).symm, rfl⟩
      · have d1 : decide (g < lo) = false := decide_eq_false h1
        by_cases h3 : hi < g
        · have d3 : decide (hi < g) = true := decide_eq_true h3
          go_wp2_with fail
          go_ret
          exact ⟨ret_bool (Hf.out (by omega)).symm, rfl⟩
        · have d3 : decide (hi < g) = false := decide_eq_false h3
          go_wp2_with fail
          go_roundw
          case rel => exact ⟨k + 1, by omega, by go_num, by rw [Hs.out, Hw.out, inB_iff.2 ⟨by omega, by omega⟩]; rfl, by first | trivial | rfl⟩
          case measure => simp [intOf]; omega
    · go_wp2_with fail
      go_ret
      exact ⟨ret_bool (by rw [← hw, List.take_of_length_le (by have := h.1; omega)]), rfl⟩

set_option maxRecDepth 100000 in
set_option maxHeartbeats 1000000 in
theorem within42 (A : Option Addr) (n cap : Nat) (zs : List Int) (lo hi : Int) (w : World) (h : Ints w A n zs) (hn : n ≤ 1000000) :
    Calls Try.prog 42 #[.int .i64 lo, .int .i64 hi, .slice A n cap] w fun e w' => e = .returned (.bool (withI lo hi zs)) ∧ w' = w := by
  go_enter Try.func42, Try.ntmps42
  go_wp2_with fail
  go_loopw [11] (fun i wr => ∃ k : Nat, k ≤ n ∧ i = .int .i64 k ∧ withI lo hi (zs.take k) = true ∧ wr = w) (fun i _ => n - (intOf i).toNat)
  case atStart => exact ⟨0, Nat.zero_le _, rfl, rfl, rfl⟩
  case round =>
    obtain ⟨k, hk, rfl, hw, rfl⟩ := hrel
    by_cases hlt : k < n
    · obtain ⟨hl, hc⟩ := h
      obtain ⟨b, o, rfl, hc2⟩ := hc (by omega)
      have c0 := hc2 k hlt
      have Hs := Lib.hid (withI_take lo hi zs k (by omega))
      have Hf := Lib.hid (withI_stop lo hi zs k (by omega))
      have Hw := Lib.hid hw
      obtain ⟨g, hg⟩ : ∃ g, iAt zs k = g := ⟨_, rfl⟩
      rw [hg] at c0 Hs Hf
      have i0 : (0 : Int) ≤ (k : Int) := by omega
      have i1 : (k : Int) < (n : Int) := by omega
      clear hc hc2 hw hl hg
      by_cases h1 : g < lo
      · have d1 : decide (g < lo) = true := decide_eq_true h1
        go_wp2_with fail
        go_ret
        exact ⟨ret_bool (Hf.out (by omega)).symm, rfl⟩
      · have d1 : decide (g < lo) = false := decide_eq_false h1
        by_cases h3 : hi < g
        · have d3 : decide (hi < g) = true := decide_eq_true h3
          go_wp2_with fail
          go_ret
          exact ⟨ret_bool (Hf.out (by omega)).symm, rfl⟩
        · have d3 : decide (hi < g) = false := decide_eq_false h3
          go_wp2_with fail
          go_roundw
          case rel => exact ⟨k + 1, by omega, by go_num, by rw [Hs.out, Hw.out, inB_iff.2 ⟨by omega, by omega⟩]; rfl, by first | trivial | rfl⟩
          case measure => simp [intOf]; omega
    · go_wp2_with fail
      go_ret
      exact ⟨ret_bool (by rw [← hw, List.take_of_length_le (by have := h.1; omega)]), rfl⟩

/-- The first k numbers strictly increase. -/
def risB : List Int → Bool
  | a :: b :: l => decide (a < b) && risB (b :: l)
  | _ => true
theorem risB_iff (zs : List Int) : risB zs = true ↔ Incr zs := by
  unfold Incr
  induction zs with
  | nil => simp [risB]
  | cons a l ih =>
    cases l with
    | nil => simp [risB]
    | cons b l =>
      simp only [risB, Bool.and_eq_true, decide_eq_true_eq]
      rw [ih, List.pairwise_cons (a := a)]
      constructor
      · rintro ⟨h1, h2⟩
        refine ⟨?_, h2⟩
        intro x hx
        rcases List.mem_cons.1 hx with rfl | hx
        · exact h1
        · have := (List.pairwise_cons.1 h2).1 x hx; omega
      · rintro ⟨h1, h2⟩
        exact ⟨h1 b (by simp), h2⟩
theorem incr_of_adj (zs : List Int) (h : ∀ i, i + 1 < zs.length → iAt zs i < iAt zs (i + 1)) : Incr zs := by
  rw [← risB_iff]
  induction zs with
  | nil => rfl
  | cons a l ih =>
    cases l with
    | nil => rfl
    | cons b l =>
      simp only [risB, Bool.and_eq_true, decide_eq_true_eq]
      refine ⟨by simpa [iAt] using h 0 (by simp), ih (fun i hi => ?_)⟩
      have := h (i + 1) (by simp at hi ⊢; omega)
      simpa [iAt] using this
theorem not_incr {zs : List Int} {i : Nat} (hi : i + 1 < zs.length) (h : ¬ iAt zs i < iAt zs (i + 1)) : risB zs = false := by
  cases hr : risB zs
  · rfl
  · exfalso
    have h1 := (risB_iff zs).1 hr
    rw [iAt_eq (show i < zs.length by omega), iAt_eq hi] at h
    exact h (incr_lt h1 hi (by omega))

set_option maxRecDepth 100000 in
set_option maxHeartbeats 1000000 in
theorem rising61 (A : Option Addr) (n cap : Nat) (zs : List Int) (w : World) (h : Ints w A n zs) (hn : n ≤ 1000000) :
    Calls Try.prog 61 #[.slice A n cap] w fun e w' => e = .returned (.bool (risB zs)) ∧ Below w.heap.size w w' := by
  go_enter Try.func61, Try.ntmps61
  go_wp2_with fail
  go_loopw [3] (fun i wr => ∃ k : Nat, 1 ≤ k ∧ k ≤ n + 1 ∧ i = .int .i64 k ∧ (∀ j, j + 1 < k → j + 1 < n → iAt zs j < iAt zs (j + 1)) ∧ Below w.heap.size w wr) (fun i _ => n + 1 - (intOf i).toNat)
  case atStart => exact ⟨1, Nat.le_refl _, by omega, rfl, fun j h1 => by omega, Below.refl _ _⟩
  case round =>
    obtain ⟨k, hk1, hk, rfl, hw, hB⟩ := hrel
    by_cases hlt : k < n
    · obtain ⟨hl, hc⟩ := h.below hB (Nat.le_refl _)
      obtain ⟨b, o, rfl, hc2⟩ := hc (by omega)
      obtain ⟨q, rfl⟩ : ∃ q, k = q + 1 := ⟨k - 1, by omega⟩
      have c0 := hc2 q (by omega)
      have c1 := hc2 (q + 1) hlt
      have Hf := Lib.hid (fun hh => not_incr (zs := zs) (i := q) (by omega) hh)
      have Hw := Lib.hid hw
      have HB := Lib.hid hB
      obtain ⟨g, hg⟩ : ∃ g, iAt zs q = g := ⟨_, rfl⟩
      obtain ⟨g', hg'⟩ : ∃ g, iAt zs (q + 1) = g := ⟨_, rfl⟩
      rw [hg] at c0
      rw [hg'] at c1
      have HG := Lib.hid (And.intro hg hg')
      have i0 : (0 : Int) ≤ (q : Int) := by omega
      have i1 : (q : Int) < (n : Int) := by omega
      have i2 : (q : Int) + 1 < (n : Int) := by omega
      have i3 : (0 : Int) ≤ (q : Int) + 1 := by omega
      have e1 : ((q : Int) + 1).toNat = q + 1 := by omega
      have e2 : ((q + 1 : Nat) : Int) = (q : Int) + 1 := by omega
      clear hc hc2 hw hl hg hg' hB h
      by_cases h1 : g' ≤ g
      · have d1 : decide (g' ≤ g) = true := decide_eq_true h1
        go_wp2_with fail
        go_region
        all_goals (go_wp2_with fail)
        go_ret
        exact ⟨ret_bool (Hf.out (by have := HG.out.1; have := HG.out.2; omega)).symm, HB.out.trans (drew_b _ 1 |>.mono HB.out.size)⟩
      · have d1 : decide (g' ≤ g) = false := decide_eq_false h1
        go_wp2_with fail
        go_region
        all_goals (go_wp2_with fail)
        go_roundw
        case rel => exact ⟨q + 2, by omega, by omega, by go_num, fun j h2 h3 => by
          rcases Nat.lt_or_ge (j + 1) (q + 1) with h4 | h4
          · exact Hw.out j h4 h3
          · have e : j = q := by omega
            subst e
            have := HG.out.1; have := HG.out.2; omega, HB.out.trans (drew_b _ 1 |>.mono HB.out.size)⟩
        case measure => simp [intOf]; omega
    · go_wp2_with fail
      go_ret
      exact ⟨ret_bool ((risB_iff zs).2 (incr_of_adj zs (fun i hi => hw i (by have := h.1; omega) (by have := h.1; omega)))).symm, hB⟩

set_option maxRecDepth 100000 in
set_option maxHeartbeats 1000000 in
theorem rising44 (A : Option Addr) (n cap : Nat) (zs : List Int) (w : World) (h : Ints w A n zs) (hn : n ≤ 1000000) :
    Calls Try.prog 44 #[.slice A n cap] w fun e w' => e = .returned (.bool (risB zs)) ∧ Below w.heap.size w w' := by
  go_enter Try.func44, Try.ntmps44
  go_wp2_with fail
  go_loopw [3] (fun i wr => ∃ k : Nat, 1 ≤ k ∧ k ≤ n + 1 ∧ i = .int .i64 k ∧ (∀ j, j + 1 < k → j + 1 < n → iAt zs j < iAt zs (j + 1)) ∧ Below w.heap.size w wr) (fun i _ => n + 1 - (intOf i).toNat)
  case atStart => exact ⟨1, Nat.le_refl _, by omega, rfl, fun j h1 => by omega, Below.refl _ _⟩
  case round =>
    obtain ⟨k, hk1, hk, rfl, hw, hB⟩ := hrel
    by_cases hlt : k < n
    · obtain ⟨hl, hc⟩ := h.below hB (Nat.le_refl _)
      obtain ⟨b, o, rfl, hc2⟩ := hc (by omega)
      obtain ⟨q, rfl⟩ : ∃ q, k = q + 1 := ⟨k - 1, by omega⟩
      have c0 := hc2 q (by omega)
      have c1 := hc2 (q + 1) hlt
      have Hf := Lib.hid (fun hh => not_incr (zs := zs) (i := q) (by omega) hh)
      have Hw := Lib.hid hw
      have HB := Lib.hid hB
      obtain ⟨g, hg⟩ : ∃ g, iAt zs q = g := ⟨_, rfl⟩
      obtain ⟨g', hg'⟩ : ∃ g, iAt zs (q + 1) = g := ⟨_, rfl⟩
      rw [hg] at c0
      rw [hg'] at c1
      have HG := Lib.hid (And.intro hg hg')
      have i0 : (0 : Int) ≤ (q : Int) := by omega
      have i1 : (q : Int) < (n : Int) := by omega
      have i2 : (q : Int) + 1 < (n : Int) := by omega
      have i3 : (0 : Int) ≤ (q : Int) + 1 := by omega
      have e1 : ((q : Int) + 1).toNat = q + 1 := by omega
      have e2 : ((q + 1 : Nat) : Int) = (q : Int) + 1 := by omega
      clear hc hc2 hw hl hg hg' hB h
      by_cases h1 : g' ≤ g
      · have d1 : decide (g' ≤ g) = true := decide_eq_true h1
        go_wp2_with fail
        go_region
        all_goals (go_wp2_with fail)
        go_ret
        exact ⟨ret_bool (Hf.out (by have := HG.out.1; have := HG.out.2; omega)).symm, HB.out.trans (drew_b _ 1 |>.mono HB.out.size)⟩
      · have d1 : decide (g' ≤ g) = false := decide_eq_false h1
        go_wp2_with fail
        go_region
        all_goals (go_wp2_with fail)
        go_roundw
        case rel => exact ⟨q + 2, by omega, by omega, by go_num, fun j h2 h3 => by
          rcases Nat.lt_or_ge (j + 1) (q + 1) with h4 | h4
          · exact Hw.out j h4 h3
          · have e : j = q := by omega
            subst e
            have := HG.out.1; have := HG.out.2; omega, HB.out.trans (drew_b _ 1 |>.mono HB.out.size)⟩
        case measure => simp [intOf]; omega
    · go_wp2_with fail
      go_ret
      exact ⟨ret_bool ((risB_iff zs).2 (incr_of_adj zs (fun i hi => hw i (by have := h.1; omega) (by have := h.1; omega)))).symm, hB⟩
end Go.Proofs.Ytdfdlklglbefiaa

namespace Go.Proofs.Ytdfdlklglbefiaa
set_option linter.unusedSimpArgs false
set_option linter.unusedVariables false
open Go.RowKit Go.Shelf

def okZ (r : Rg) : Bool := decide (0 ≤ r.lo) && decide (r.lo ≤ r.hi) && decide (r.hi ≤ 10000)
theorem okZ_iff {r : Rg} : okZ r = true ↔ 0 ≤ r.lo ∧ r.lo ≤ r.hi ∧ r.hi ≤ 10000 := by simp [okZ, and_assoc]
def validZ (zs : List Rg) : Bool := zs.all okZ
theorem validZ_take (zs : List Rg) (k : Nat) (hk : k < zs.length) : validZ (zs.take (k + 1)) = (validZ (zs.take k) && okZ (gAt zs k)) := all_take _ zs k ⟨0, 0⟩ hk
theorem validZ_stop (zs : List Rg) (k : Nat) (hk : k < zs.length) (h : ¬ (0 ≤ (gAt zs k).lo ∧ (gAt zs k).lo ≤ (gAt zs k).hi ∧ (gAt zs k).hi ≤ 10000)) : validZ zs = false := all_stop _ zs k ⟨0, 0⟩ hk (by
  cases h2 : okZ (zs.getD k ⟨0, 0⟩)
  · rfl
  · exact absurd (okZ_iff.1 h2) h)
theorem with2 (a b : Int) : withI 0 10000 [a, b] = (inB 0 10000 a && inB 0 10000 b) := by simp [withI]
theorem ints_two {W : World} {Z : Nat} {a b : Int} {t : TypeId} (h : W.heap[Z]? = some (.cells #[.int .i64 a, .int .i64 b] t (0, 0))) : Ints W (some ⟨Z, 0, none⟩) 2 [a, b] :=
  ⟨rfl, fun _ => ⟨Z, 0, rfl, fun j hj => by
    simp only [cell_row h]
    match j, hj with
    | 0, _ => rfl
    | 1, _ => rfl⟩⟩

set_option maxRecDepth 100000 in
set_option maxHeartbeats 4000000 in
theorem valid43 (A : Option Addr) (n cap : Nat) (zs : List Rg) (w : World) (h : Rgs w A n zs) (hn : n ≤ 1000000) :
    Calls Try.prog 43 #[.slice A n cap] w fun e w' => e = .returned (.bool (validZ zs)) ∧ Below w.heap.size w w' := by
  go_enter Try.func43, Try.ntmps43
  go_wp2_with fail
  go_loopw [7] (fun i wr => ∃ k : Nat, k ≤ n ∧ i = .int .i64 k ∧ validZ (zs.take k) = true ∧ Below w.heap.size w wr) (fun i _ => n - (intOf i).toNat)
  case atStart => exact ⟨0, Nat.zero_le _, rfl, rfl, Below.refl _ _⟩
  case round =>
    obtain ⟨k, hk, rfl, hw, hB⟩ := hrel
    obtain ⟨wk, rfl⟩ : ∃ wk, wk = wr := ⟨_, rfl⟩
    by_cases hlt : k < n
    · obtain ⟨hl, hc⟩ := h.below hB (Nat.le_refl _)
      obtain ⟨b, o, rfl, hc2⟩ := hc (by omega)
      obtain ⟨c0, c1⟩ := hc2 k hlt
      have Hs := Lib.hid (validZ_take zs k (by omega))
      have Hf := Lib.hid (validZ_stop zs k (by omega))
      have Hw := Lib.hid hw
      obtain ⟨g, hg⟩ : ∃ g, gAt zs k = g := ⟨_, rfl⟩
      rw [hg] at c0 c1 Hs Hf
      have i0 : (0 : Int) ≤ (k : Int) := by omega
      have i1 : (k : Int) < (n : Int) := by omega
      have HB1 := Lib.hid (hB.trans ((below_alloc_ wk (.cells #[.int .i64 g.lo, .int .i64 g.hi] 56)).mono hB.size))
      clear hc hc2 hw hl hg hB h
      by_cases h1 : g.hi < g.lo
      · have d1 : decide (g.hi < g.lo) = true := decide_eq_true h1
        go_wp2_with fail
        go_ret
        exact ⟨ret_bool (Hf.out (by omega)).symm, HB1.out⟩
      · have d1 : decide (g.hi < g.lo) = false := decide_eq_false h1
        go_wp2_with fail
        have hZ : ((wk.alloc (.cells #[.int .i64 g.lo, .int .i64 g.hi] 56)).alloc (.cells #[.int .i64 g.lo, .int .i64 g.hi] 2)).heap[wk.heap.size + 1]? = some (.cells #[.int .i64 g.lo, .int .i64 g.hi] 2 (0, 0)) := hal_new (by simp)
        refine (within60 _ 2 2 [g.lo, g.hi] 0 10000 _ (ints_two hZ) (by omega)).mono ?_
        rintro e w2 ⟨rfl, rfl⟩
        have HB2 := Lib.hid (HB1.out.trans ((below_alloc_ (wk.alloc (.cells #[.int .i64 g.lo, .int .i64 g.hi] 56)) (.cells #[.int .i64 g.lo, .int .i64 g.hi] 2)).mono HB1.out.size))
        rw [with2]
        by_cases h2 : inB 0 10000 g.lo = true ∧ inB 0 10000 g.hi = true
        · have e2 : (inB 0 10000 g.lo && inB 0 10000 g.hi) = true := by rw [h2.1, h2.2]; rfl
          rw [e2]
          have h3 := inB_iff.1 h2.1
          have h4 := inB_iff.1 h2.2
          have hz : okZ g = true := okZ_iff.2 (by omega)
          have Hz := Lib.hid hz
          clear h2 e2 h3 h4 hz
          go_wp2_with fail
          go_roundw
          case rel => exact ⟨k + 1, by omega, by go_num, by rw [Hs.out, Hw.out, Hz.out]; rfl, HB2.out⟩
          case measure => simp [intOf]; omega
        · have e2 : (inB 0 10000 g.lo && inB 0 10000 g.hi) = false := by
            cases ha : inB 0 10000 g.lo
            · rfl
            · cases hb : inB 0 10000 g.hi
              · rfl
              · exact absurd ⟨ha, hb⟩ h2
          rw [e2]
          have Hz := Lib.hid (show ¬ (0 ≤ g.lo ∧ g.lo ≤ g.hi ∧ g.hi ≤ 10000) from fun hh => h2 ⟨inB_iff.2 (by omega), inB_iff.2 (by omega)⟩)
          clear h2 e2
          go_wp2_with fail
          go_ret
          exact ⟨ret_bool (Hf.out Hz.out).symm, HB2.out⟩
    · go_wp2_with fail
      go_ret
      exact ⟨ret_bool (by rw [← hw, List.take_of_length_le (by have := h.1; omega)]), hB⟩

/-- The numbers that are in both ranges. -/
def comm (a b : Rg) : Rg := ⟨max a.lo b.lo, min a.hi b.hi⟩
set_option maxRecDepth 100000 in
theorem common45 (a b : Rg) (w : World) : Calls Try.prog 45 #[.agg #[.int .i64 a.lo, .int .i64 a.hi], .agg #[.int .i64 b.lo, .int .i64 b.hi]] w fun e w' => e = .returned (.agg #[.int .i64 (comm a b).lo, .int .i64 (comm a b).hi]) ∧ Below w.heap.size w w' := by
  go_enter Try.func45, Try.ntmps45
  go_wp2_with fail
  all_goals
    refine bodyPost_ret (v := .agg #[.int .i64 (comm a b).lo, .int .i64 (comm a b).hi]) (by simp [results, Try.results45, go_sem, comm]; omega) rfl ⟨rfl, (below_alloc_ w _).trans (((below_alloc_ _ _).mono (by simp)).trans ((below_alloc_ _ _).mono (by simp; omega)))⟩
end Go.Proofs.Ytdfdlklglbefiaa

namespace Go.Proofs.Ytdfdlklglbefiaa
set_option linter.unusedSimpArgs false
set_option linter.unusedVariables false
open Go.RowKit Go.Shelf

/-- The cells of a board. -/
def brdV (v : Value) (mt al : Nat → Bool) : Array Value := (v :: ((List.range 24).map (fun i => Value.bool (mt i)) ++ (List.range 24).map (fun i => Value.bool (al i)))).toArray
theorem brdV_size (v : Value) (mt al : Nat → Bool) : (brdV v mt al).size = 49 := by simp [brdV]
theorem brdV_0 (v : Value) (mt al : Nat → Bool) : (brdV v mt al)[0]? = some v := by simp [brdV]
theorem brdV_met (v : Value) (mt al : Nat → Bool) (i : Nat) (h : i < 24) : (brdV v mt al)[1 + i]? = some (.bool (mt i)) := by
  unfold brdV
  rw [List.getElem?_toArray, show 1 + i = i + 1 by omega, List.getElem?_cons_succ, List.getElem?_append_left (by simpa using h)]
  simp [h]
theorem brdV_all (v : Value) (mt al : Nat → Bool) (i : Nat) (h : i < 24) : (brdV v mt al)[25 + i]? = some (.bool (al i)) := by
  unfold brdV
  rw [List.getElem?_toArray, show 25 + i = (24 + i) + 1 by omega, List.getElem?_cons_succ, List.getElem?_append_right (by simp)]
  simp [h]
theorem brdV_set0 (v v' : Value) (mt al : Nat → Bool) : (brdV v mt al).setIfInBounds 0 v' = brdV v' mt al := by simp [brdV]
/-- One mark more. -/
def mark (mt : Nat → Bool) (i : Nat) : Nat → Bool := fun j => mt j || decide (j = i)
theorem set_marks (n i : Nat) (h : i < n) (mt : Nat → Bool) : ((List.range n).map (fun i => Value.bool (mt i))).set i (.bool true) = (List.range n).map (fun j => Value.bool (mark mt i j)) := by
  refine List.ext_getElem (by simp) ?_
  intro j h1 h2
  simp only [List.length_set, List.length_map, List.length_range] at h1
  rw [List.getElem_set]
  by_cases e : i = j
  · subst e; simp [mark]
  · rw [if_neg e]; simp [mark, Ne.symm e]
theorem brdV_mark (v : Value) (mt al : Nat → Bool) (i : Nat) (h : i < 24) : (brdV v mt al).setIfInBounds (1 + i) (.bool true) = brdV v (mark mt i) al := by
  unfold brdV
  rw [List.setIfInBounds_toArray, show 1 + i = i + 1 by omega, List.set_cons_succ, List.set_append_left _ _ (by simpa using h), set_marks 24 i h]
theorem brdV_markAll (v : Value) (mt al : Nat → Bool) (i : Nat) (h : i < 24) : (brdV v mt al).setIfInBounds (25 + i) (.bool true) = brdV v mt (mark al i) := by
  unfold brdV
  rw [List.setIfInBounds_toArray, show 25 + i = (24 + i) + 1 by omega, List.set_cons_succ, List.set_append_right _ _ (by simp), List.length_map, List.length_range, Nat.add_sub_cancel_left, set_marks 24 i h]
def brd0 : Array Value := brdV (.slice none 0 0) (fun _ => false) (fun _ => false)
theorem exec_build76 (ρ : Operand → Value) (d : Option Tmp) (ty : TypeId) (pos : String) (af : Array Edge) (g : Option (Nat × Bool)) (W : World) :
    (execOp ρ { dst := d, op := Op.build 76 #[], type := ty, pos := pos, after := af, guard := g }).run Try.prog W = .ok (.value (.agg brd0)) W := by kernel_rfl

/-- The cells of tones. -/
def cellT (t : Tn) : List Value := [.int .i64 t.r.lo, .int .i64 t.r.hi, .int .i64 (t.nm : Int)]
def flatT (l : List Tn) : List Value := l.flatMap cellT
theorem flatT_len (l : List Tn) : (flatT l).length = l.length * 3 := by
  induction l with
  | nil => rfl
  | cons x l ih => simp [flatT, cellT] at ih ⊢; omega
def tAt (ts : List Tn) (k : Nat) : Tn := ts.getD k ⟨⟨0, 0⟩, 0⟩
theorem tAt_eq {ts : List Tn} {k : Nat} (hk : k < ts.length) : tAt ts k = ts[k] := by simp [tAt, List.getD, hk]
theorem flatT_at (l : List Tn) (j : Nat) (h : j < l.length) : (flatT l)[j * 3]? = some (.int .i64 (tAt l j).r.lo) ∧ (flatT l)[j * 3 + 1]? = some (.int .i64 (tAt l j).r.hi) ∧ (flatT l)[j * 3 + 2]? = some (.int .i64 ((tAt l j).nm : Int)) := by
  induction l generalizing j with
  | nil => simp at h
  | cons x l ih =>
    cases j with
    | zero => simp [flatT, cellT, tAt]
    | succ j =>
      have := ih j (by simpa using h)
      rw [show (j + 1) * 3 = j * 3 + 1 + 1 + 1 by omega]
      simp only [flatT, cellT, List.flatMap_cons, List.cons_append, List.nil_append, List.getElem?_cons_succ] at this ⊢
      exact this
/-- A slice of n tones reads as ts. -/
def Tns (w : World) (A : Option Addr) (n : Nat) (ts : List Tn) : Prop :=
  ts.length = n ∧ (0 < n → ∃ b o, A = some ⟨b, o, none⟩ ∧ ∀ j, j < n → w.cell? ⟨b, o + j * 3, none⟩ = some (.int .i64 (tAt ts j).r.lo) ∧ w.cell? ⟨b, o + j * 3 + 1, none⟩ = some (.int .i64 (tAt ts j).r.hi) ∧ w.cell? ⟨b, o + j * 3 + 2, none⟩ = some (.int .i64 ((tAt ts j).nm : Int)))
theorem Tns.below {w w' : World} {A : Option Addr} {n B : Nat} {ts : List Tn} (h : Tns w A n ts) (hb : Below B w w') (hB : w.heap.size ≤ B) : Tns w' A n ts := by
  refine ⟨h.1, fun hn => ?_⟩
  obtain ⟨b, o, e, hc⟩ := h.2 hn
  have hl := lt_of_cell (hc 0 hn).1
  exact ⟨b, o, e, fun j hj => ⟨(hb.cell (p := ⟨b, o + j * 3, none⟩) (by simp; omega)).trans (hc j hj).1, (hb.cell (p := ⟨b, o + j * 3 + 1, none⟩) (by simp; omega)).trans (hc j hj).2.1, (hb.cell (p := ⟨b, o + j * 3 + 2, none⟩) (by simp; omega)).trans (hc j hj).2.2⟩⟩
/-- What is owned reads as tones. -/
theorem tns_own {W : World} {v : Value} {l : List Tn} (h : W.ownsRow 0 78 3 v l.length (flatT l)) : ∃ C cap, v = .slice C l.length cap ∧ l.length ≤ cap ∧ Tns W C l.length l ∧ (∀ b o, C = some ⟨b, o, none⟩ → v.ownBlock = some b ∧ o = 0) := by
  rcases h.2 with ⟨rfl, h0⟩ | ⟨g, cap, cur, rfl, hb, hg, hc, _, hsz, htake⟩
  · rw [h0]
    exact ⟨none, 0, rfl, Nat.le_refl _, ⟨h0, by omega⟩, by intro b o e; cases e⟩
  · refine ⟨_, cap, rfl, hc, ⟨rfl, fun _ => ⟨g, 0, rfl, fun j hj => ?_⟩⟩, by rintro b o e; cases e; exact ⟨rfl, rfl⟩⟩
    have h1 := flatT_at l j hj
    have hlt : ∀ i, i < l.length * 3 → W.cell? ⟨g, i, none⟩ = (flatT l)[i]? := fun i hi => by
      rw [cell_row hg, ← htake, List.getElem?_take_of_lt hi, Array.getElem?_toList]
    rw [Nat.zero_add, hlt _ (by omega), hlt _ (by omega), hlt _ (by omega)]
    exact h1
/-- The tones of a song, by their names. -/
def tnK (zs : List Rg) (k : Nat) : List Tn := (List.range k).map fun i => ⟨gAt zs i, i⟩
theorem tnK_succ (zs : List Rg) (k : Nat) : tnK zs (k + 1) = tnK zs k ++ [⟨gAt zs k, k⟩] := by simp [tnK, List.range_succ]
theorem tnK_len (zs : List Rg) (k : Nat) : (tnK zs k).length = k := by simp [tnK]
def tnOf (zs : List Rg) : List Tn := tnK zs zs.length
theorem tAt_tnK {zs : List Rg} {k j : Nat} (h : j < k) : tAt (tnK zs k) j = ⟨gAt zs j, j⟩ := by
  rw [tAt_eq (by simpa [tnK] using h)]; simp [tnK]
theorem tnOf_r (zs : List Rg) : (tnOf zs).map (·.r) = zs := by
  refine List.ext_getElem (by simp [tnOf, tnK]) ?_
  intro j h1 h2
  simp [tnOf, tnK, gAt_eq h2]
theorem info78_ : (Try.prog.info? 78).map (fun i => (i.zero, i.size, i.bytes)) = some (some (.agg #[.int .i64 0, .int .i64 0, .int .i64 0]), 3, 24) := by kernel_rfl

/-- A board of a song. -/
structure Bd (W : World) (B : Nat) (C : Option Addr) (n cap : Nat) (zs : List Rg) (mt : Nat → Bool) : Prop where
  row : W.heap[B]? = some (.cells (brdV (.slice C n cap) mt (fun i => decide (i < n))) 76 (0, 0))
  tns : Tns W C n (tnOf zs)
  cap : n ≤ cap
  ne : ∀ b o, C = some ⟨b, o, none⟩ → b ≠ B
theorem Bd.len {W : World} {B : Nat} {C : Option Addr} {n cap : Nat} {zs : List Rg} {mt : Nat → Bool} (h : Bd W B C n cap zs mt) : zs.length = n := by
  have := h.tns.1; simpa [tnOf, tnK] using this
theorem Bd.below {w w' : World} {B : Nat} {C : Option Addr} {n cap L : Nat} {zs : List Rg} {mt : Nat → Bool} (h : Bd w B C n cap zs mt) (hb : Below L w w') (hB : w.heap.size ≤ L) : Bd w' B C n cap zs mt :=
  ⟨(hb.block _ (Nat.lt_of_lt_of_le (lt_of_block h.row) hB)).trans h.row, h.tns.below hb hB, h.cap, h.ne⟩
theorem Tns.keep {W W' : World} {A : Option Addr} {n : Nat} {ts : List Tn} {Mut : Nat → Prop} (h : Tns W A n ts) (hK : Keeps Mut W W') (hm : ∀ k o, Mut k → A ≠ some ⟨k, o, none⟩) : Tns W' A n ts := by
  refine ⟨h.1, fun hn => ?_⟩
  obtain ⟨b, o, e, hc⟩ := h.2 hn
  have hb := lt_of_cell (hc 0 hn).1
  have hk : ∀ j, W'.cell? ⟨b, j, none⟩ = W.cell? ⟨b, j, none⟩ := keep_cells hK hb (fun hm2 => hm b o hm2 e)
  exact ⟨b, o, e, fun j hj => by simp only [hk]; exact hc j hj⟩
theorem Tns.lt {W : World} {n : Nat} {ts : List Tn} {b o : Nat} (h : Tns W (some ⟨b, o, none⟩) n ts) (hn : 0 < n) : b < W.heap.size := by
  obtain ⟨b', o', e, hc⟩ := h.2 hn
  cases e
  exact lt_of_cell (hc 0 hn).1
end Go.Proofs.Ytdfdlklglbefiaa
