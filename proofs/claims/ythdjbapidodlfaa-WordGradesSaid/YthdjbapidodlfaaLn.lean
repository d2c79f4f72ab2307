/- Stage 4: lines that are valid. -/
import Derived.Test.YthdjbapidodlfaaBase
namespace Go.Proofs.Ythdjbapidodlfaa
set_option linter.unusedSimpArgs false
set_option linter.unusedVariables false
open Go.RowKit Go.Shelf

def inB (lo hi x : Int) : Bool := decide (lo ≤ x) && decide (x ≤ hi)
theorem inB_iff {lo hi x : Int} : inB lo hi x = true ↔ lo ≤ x ∧ x ≤ hi := by simp [inB]
def withI (lo hi : Int) (zs : List Int) : Bool := zs.all (inB lo hi)
theorem withI_take (lo hi : Int) (zs : List Int) (k : Nat) (hk : k < zs.length) : withI lo hi (zs.take (k + 1)) = (withI lo hi (zs.take k) && inB lo hi (iAt zs k)) := all_take _ zs k 0 hk
theorem withI_stop (lo hi : Int) (zs : List Int) (k : Nat) (hk : k < zs.length) (h : ¬ (lo ≤ iAt zs k ∧ iAt zs k ≤ hi)) : withI lo hi zs = false := all_stop _ zs k 0 hk (by
  cases h2 : inB lo hi (zs.getD k 0)
  · rfl
  · exact absurd (inB_iff.1 h2) h)

set_option maxRecDepth 100000 in
set_option maxHeartbeats 1000000 in
theorem within47 (A : Option Addr) (n cap : Nat) (zs : List Int) (lo hi : Int) (w : World) (h : Ints w A n zs) (hn : n ≤ 1000000) :
    Calls Try.prog 47 #[.int .i64 lo, .int .i64 hi, .slice A n cap] w fun e w' => e = .returned (.bool (withI lo hi zs)) ∧ w' = w := by
  go_enter Try.func47, Try.ntmps47
  go_wp2_with fail
  go_loopw [11] (fun i wr => ∃ k : Nat, k ≤ n ∧ i = .int .i64 k ∧ withI lo hi (zs.take k) = true ∧ wr = w) (fun i _ => n - (intOf i).toNat)
  case atStart => exact ⟨0, Nat.zero_le _, rfl, rfl, rfl⟩
  case round =>
    obtain ⟨k, hk, rfl, hw, rfl⟩ := hrel
    by_cases hlt : k < n
    · obtain ⟨hl, hc⟩ := h
      obtain ⟨b, o, rfl, hc2⟩ := hc (by omega)
      have c0 := hc2 k hlt
      have Hs := Lib.hid (withI_take lo hi zs k (by omega))
      have Hf := Lib.hid (withI_stop lo hi zs k (by omega))
      have Hw := Lib.hid hw
      obtain ⟨g, hg⟩ : ∃ g, iAt zs k = g := ⟨_, rfl⟩
      rw [hg] at c0 Hs Hf
      have i0 : (0 : Int) ≤ (k : Int) := by omega
      have i1 : (k : Int) < (n : Int) := by omega
      clear hc hc2 hw hl hg
      by_cases h1 : g < lo
      · have d1 : decide (g < lo) = true := decide_eq_true h1
        go_wp2_with fail
        go_ret
        exact ⟨ret_bool (Hf.out (by omega)).symm, rfl⟩
      · have d1 : decide (g < lo) = false := decide_eq_false h1
        by_cases h3 : hi < g
        · have d3 : decide (hi < g) = true := decide_eq_true h3
          go_wp2_with fail
          go_ret
          exact ⟨ret_bool (Hf.out (by omega)).symm, rfl⟩
        · have d3 : decide (hi < g) = false := decide_eq_false h3
          go_wp2_with fail
          go_roundw
          case rel => exact ⟨k + 1, by omega, by go_num, by rw [Hs.out, Hw.out, inB_iff.2 ⟨by omega, by omega⟩]; rfl, by first | trivial | rfl⟩
          case measure => simp [intOf]; omega
    · go_wp2_with fail
      go_ret
      exact ⟨ret_bool (by rw [← hw, List.take_of_length_le (by have := h.1; omega)]), rfl⟩


theorem ints_two {W : World} {Q : Nat} {a b : Int} {t : TypeId} (h : W.heap[Q]? = some (.cells #[.int .i64 a, .int .i64 b] t (0, 0))) : Ints W (some ⟨Q, 0, none⟩) 2 [a, b] :=
  ⟨rfl, fun _ => ⟨Q, 0, rfl, fun j hj => by
    rw [Nat.zero_add, cell_row h]
    rcases (by omega : j = 0 ∨ j = 1) with rfl | rfl <;> rfl⟩⟩
theorem ints_one {W : World} {Q : Nat} {a : Int} {t : TypeId} (h : W.heap[Q]? = some (.cells #[.int .i64 a] t (0, 0))) : Ints W (some ⟨Q, 0, none⟩) 1 [a] :=
  ⟨rfl, fun _ => ⟨Q, 0, rfl, fun j hj => by
    rw [Nat.zero_add, cell_row h]
    rcases (by omega : j = 0) with rfl; rfl⟩⟩
/-- A pair of words. -/
def okP (r : Rg) : Bool := inB 1 100 r.lo && inB 1 100 r.hi
def okB (zs : List Rg) : Bool := zs.all okP
def chkB (zs : List Rg) : Int := if 40 < zs.length then 6 else if okB zs then 0 else 2
theorem okB_take (zs : List Rg) (k : Nat) (hk : k < zs.length) : okB (zs.take (k + 1)) = (okB (zs.take k) && okP (gAt zs k)) := all_take _ zs k ⟨0, 0⟩ hk
theorem okB_stop (zs : List Rg) (k : Nat) (hk : k < zs.length) (h : okP (gAt zs k) = false) : okB zs = false := all_stop _ zs k ⟨0, 0⟩ hk h
theorem chkB_zero {zs : List Rg} : chkB zs = 0 ↔ zs.length ≤ 40 ∧ okB zs = true := by
  unfold chkB
  split
  · constructor
    · intro h; cases h
    · intro h; omega
  · split
    · next h => exact ⟨fun _ => ⟨by omega, h⟩, fun _ => rfl⟩
    · next h => exact ⟨fun h => (by cases h), fun h2 => absurd h2.2 h⟩
theorem withI_pair (r : Rg) : withI 1 100 [r.lo, r.hi] = okP r := by simp [withI, okP]
set_option maxRecDepth 100000 in
set_option maxHeartbeats 8000000 in
theorem checkBook19 (A : Option Addr) (n cap : Nat) (zs : List Rg) (w : World) (h : Rgs w A n zs) :
    Calls Try.prog 19 #[.agg #[.slice A n cap]] w fun e w' => e = .returned (.int .i64 (chkB zs)) ∧ Below w.heap.size w w' := by
  have Hlen := Lib.hid h.1
  have hb0 := below_alloc_ w (.cells #[.slice A n cap] 24)
  have hr0 := heap_alloc_new_ w (.cells #[.slice A n cap] 24)
  obtain ⟨W0, hW0⟩ : ∃ W0, w.alloc (.cells #[.slice A n cap] 24) = W0 := ⟨_, rfl⟩
  obtain ⟨R, hR⟩ : ∃ R, w.heap.size = R := ⟨_, rfl⟩
  rw [hW0] at hb0 hr0
  rw [hR] at hr0
  have S := Lib.hid (h.below hb0 (Nat.le_refl _))
  have B0 := Lib.hid hb0
  have R0 := Lib.hid hr0
  have HW0 := Lib.hid hW0
  have HR := Lib.hid hR
  have r0 : W0.cell? ⟨R, 0, none⟩ = some (.slice A n cap) := by rw [cell_row hr0]; rfl
  clear h hb0 hr0 hW0 hR
  go_enter Try.func19, Try.ntmps19
  by_cases h40 : 40 < n
  · have hc : (40 : Int) < (n : Int) := by omega
    have HC := Lib.hid (show chkB zs = 6 by unfold chkB; rw [if_pos (by have := Hlen.out; omega)])
    go_wp2_with fail
    rw [HW0.out]
    try rw [HR.out]
    go_wp2_with fail
    go_ret
    exact ⟨by rw [HC.out]; rfl, by rw [← HR.out]; exact B0.out⟩
  have hc : ¬ (40 : Int) < (n : Int) := by omega
  go_wp2_with fail
  rw [HW0.out]
  try rw [HR.out]
  go_wp2_with fail
  go_loopw [4, 12] (fun p i wr => ∃ k : Nat, k ≤ n ∧ i = .int .i64 (k : Int) ∧ okB (zs.take k) = true ∧ Below W0.heap.size W0 wr) (fun p i _ => n - (intOf i).toNat)
  case atStart => exact ⟨0, Nat.zero_le _, rfl, rfl, Below.refl _ _⟩
  case round =>
    obtain ⟨k, hk, rfl, hw, hB⟩ := hrel
    obtain ⟨wk, rfl⟩ : ∃ wk, wk = wr := ⟨_, rfl⟩
    have HB := Lib.hid hB
    clear r0
    by_cases hlt : k < n
    · obtain ⟨b, o, rfl, hc2⟩ := (S.out.below hB (Nat.le_refl _)).2 (by omega)
      obtain ⟨c0, c1⟩ := hc2 k hlt
      have Hs := Lib.hid (okB_take zs k (by have := Hlen.out; omega))
      have Hf := Lib.hid (okB_stop zs k (by have := Hlen.out; omega))
      have HV := Lib.hid (show ¬ 40 < zs.length by have := Hlen.out; omega)
      obtain ⟨g, hg⟩ : ∃ g, gAt zs k = g := ⟨_, rfl⟩
      rw [hg] at c0 c1 Hs Hf
      rw [hw, Bool.true_and] at Hs
      obtain ⟨lo, hi⟩ := g
      dsimp only at c0 c1
      have i0 : (0 : Int) ≤ (k : Int) := by omega
      have i1 : (k : Int) < (n : Int) := by omega
      have i2 : (k : Int) ≤ 40 := by omega
      clear hc2 hg hw hB
      go_wp2_with fail
      have hz := heap_alloc_new_ wk (.cells #[.int .i64 lo, .int .i64 hi] 57)
      have hbz := below_alloc_ wk (.cells #[.int .i64 lo, .int .i64 hi] 57)
      obtain ⟨V, hV⟩ : ∃ V, wk.alloc (.cells #[.int .i64 lo, .int .i64 hi] 57) = V := ⟨_, rfl⟩
      rw [hV] at hz hbz ⊢
      refine (within47 (some ⟨wk.heap.size, 0, none⟩) 2 2 [lo, hi] 1 100 V (ints_two hz) (by omega)).mono ?_
      rintro e V2 ⟨rfl, hV2⟩
      obtain rfl : V = V2 := hV2.symm
      rw [withI_pair ⟨lo, hi⟩]
      have HBV := Lib.hid (HB.out.trans (hbz.mono HB.out.size))
      clear hz hbz hV c0 c1
      cases hok : okP ⟨lo, hi⟩ with
      | true =>
        rw [hok] at Hs
        clear hok
        go_wp2_with fail
        go_roundw
        case rel => exact ⟨k + 1, by omega, by go_num, Hs.out, HBV.out⟩
        case measure => simp [intOf]; omega
      | false =>
        have HC := Lib.hid (show chkB zs = 2 by unfold chkB; rw [if_neg HV.out, Hf.out hok]; rfl)
        clear hok
        go_wp2_with fail
        go_ret
        exact ⟨by rw [HC.out]; rfl, B0.out.trans (HBV.out.mono B0.out.size)⟩
    · have HC := Lib.hid (show chkB zs = 0 from chkB_zero.2 ⟨by have := Hlen.out; omega, by rw [← List.take_of_length_le (l := zs) (i := k) (by have := Hlen.out; omega)]; exact hw⟩)
      clear hw hB
      go_wp2_with fail
      go_ret
      exact ⟨by rw [HC.out]; rfl, B0.out.trans (HB.out.mono B0.out.size)⟩
set_option maxRecDepth 100000 in
set_option maxHeartbeats 1000000 in
theorem isWord50 (x : Int) (w : World) : Calls Try.prog 50 #[.int .i64 x] w fun e w' => e = .returned (.bool (inB 1 100 x)) ∧ w' = w := by
  go_enter Try.func50, Try.ntmps50
  by_cases h1 : 1 ≤ x
  · by_cases h2 : x ≤ 100
    · have HC := Lib.hid (show inB 1 100 x = true from inB_iff.2 ⟨h1, h2⟩)
      go_wp2_with fail
      go_ret
      exact ⟨by rw [HC.out]; rfl, rfl⟩
    · have HC := Lib.hid (show inB 1 100 x = false by simp [inB, h2])
      go_wp2_with fail
      go_ret
      exact ⟨by rw [HC.out]; rfl, rfl⟩
  · have HC := Lib.hid (show inB 1 100 x = false by simp [inB, h1])
    go_wp2_with fail
    go_ret
    exact ⟨by rw [HC.out]; rfl, rfl⟩
set_option maxRecDepth 100000 in
set_option maxHeartbeats 8000000 in
theorem refBook20 (A : Option Addr) (n cap : Nat) (zs : List Rg) (w : World) (h : Rgs w A n zs) :
    Calls Try.prog 20 #[.agg #[.slice A n cap]] w fun e w' => e = .returned (.int .i64 (chkB zs)) ∧ Below w.heap.size w w' := by
  have Hlen := Lib.hid h.1
  have hb0 := below_alloc_ w (.cells #[.slice A n cap] 24)
  have hr0 := heap_alloc_new_ w (.cells #[.slice A n cap] 24)
  obtain ⟨W0, hW0⟩ : ∃ W0, w.alloc (.cells #[.slice A n cap] 24) = W0 := ⟨_, rfl⟩
  obtain ⟨R, hR⟩ : ∃ R, w.heap.size = R := ⟨_, rfl⟩
  rw [hW0] at hb0 hr0
  rw [hR] at hr0
  have S := Lib.hid (h.below hb0 (Nat.le_refl _))
  have B0 := Lib.hid hb0
  have HW0 := Lib.hid hW0
  have HR := Lib.hid hR
  have r0 : W0.cell? ⟨R, 0, none⟩ = some (.slice A n cap) := by rw [cell_row hr0]; rfl
  clear h hb0 hr0 hW0 hR
  go_enter Try.func20, Try.ntmps20
  by_cases h40 : 40 < n
  · have hc : (40 : Int) < (n : Int) := by omega
    have HC := Lib.hid (show chkB zs = 6 by unfold chkB; rw [if_pos (by have := Hlen.out; omega)])
    go_wp2_with fail
    rw [HW0.out]
    try rw [HR.out]
    go_wp2_with fail
    go_ret
    exact ⟨by rw [HC.out]; rfl, by rw [← HR.out]; exact B0.out⟩
  have hc : ¬ (40 : Int) < (n : Int) := by omega
  go_wp2_with fail
  rw [HW0.out]
  try rw [HR.out]
  go_wp2_with fail
  go_loopw [3] (fun i wr => ∃ k : Nat, k ≤ n ∧ i = .int .i64 (k : Int) ∧ okB (zs.take k) = true ∧ wr = W0) (fun i _ => n - (intOf i).toNat)
  case atStart => exact ⟨0, Nat.zero_le _, rfl, rfl, rfl⟩
  case round =>
    obtain ⟨k, hk, rfl, hw, rfl⟩ := hrel
    by_cases hlt : k < n
    · obtain ⟨b, o, rfl, hc2⟩ := S.out.2 (by omega)
      obtain ⟨c0, c1⟩ := hc2 k hlt
      have Hs := Lib.hid (okB_take zs k (by have := Hlen.out; omega))
      have Hf := Lib.hid (okB_stop zs k (by have := Hlen.out; omega))
      have HV := Lib.hid (show ¬ 40 < zs.length by have := Hlen.out; omega)
      obtain ⟨g, hg⟩ : ∃ g, gAt zs k = g := ⟨_, rfl⟩
      rw [hg] at c0 c1 Hs Hf
      rw [hw, Bool.true_and] at Hs
      obtain ⟨lo, hi⟩ := g
      dsimp only at c0 c1
      have i0 : (0 : Int) ≤ (k : Int) := by omega
      have i1 : (k : Int) < (n : Int) := by omega
      have i2 : (k : Int) ≤ 40 := by omega
      clear hc2 hg hw
      go_wp2_with fail
      refine (isWord50 lo _).mono ?_
      rintro e V ⟨rfl, rfl⟩
      cases ho1 : inB 1 100 lo with
      | false =>
        have HC := Lib.hid (show chkB zs = 2 by unfold chkB; rw [if_neg HV.out, Hf.out (by simp [okP, ho1])]; rfl)
        clear ho1
        go_wp2_with fail
        go_ret
        exact ⟨by rw [HC.out]; rfl, B0.out⟩
      | true =>
        go_wp2_with fail
        refine (isWord50 hi _).mono ?_
        rintro e V2 ⟨rfl, rfl⟩
        cases ho2 : inB 1 100 hi with
        | false =>
          have HC := Lib.hid (show chkB zs = 2 by unfold chkB; rw [if_neg HV.out, Hf.out (by simp [okP, ho2])]; rfl)
          clear ho1 ho2
          go_wp2_with fail
          go_ret
          exact ⟨by rw [HC.out]; rfl, B0.out⟩
        | true =>
          have HN := Lib.hid (show okB (zs.take (k + 1)) = true by rw [Hs.out]; simp [okP, ho1, ho2])
          clear ho1 ho2
          go_wp2_with fail
          go_roundw
          case rel => exact ⟨k + 1, by omega, by go_num, HN.out, by first | rfl | trivial⟩
          case measure => simp [intOf]; omega
    · have HC := Lib.hid (show chkB zs = 0 from chkB_zero.2 ⟨by have := Hlen.out; omega, by rw [← List.take_of_length_le (l := zs) (i := k) (by have := Hlen.out; omega)]; exact hw⟩)
      clear hw
      go_wp2_with fail
      go_ret
      exact ⟨by rw [HC.out]; rfl, B0.out⟩
end Go.Proofs.Ythdjbapidodlfaa

namespace Go.Proofs.Ythdjbapidodlfaa
set_option linter.unusedSimpArgs false
set_option linter.unusedVariables false
open Go.RowKit Go.Shelf

/-- The list j of a list of lists. -/
def lAt (L : List (List Int)) (k : Nat) : List Int := L.getD k []
theorem lAt_eq {L : List (List Int)} {k : Nat} (hk : k < L.length) : lAt L k = L[k] := by simp [lAt, List.getD, hk]
/-- A slice of n slices of numbers reads as L. -/
def Lns (w : World) (A : Option Addr) (n : Nat) (L : List (List Int)) : Prop :=
  L.length = n ∧ (0 < n → ∃ b o, A = some ⟨b, o, none⟩ ∧ ∀ j, j < n → ∃ C c, w.cell? ⟨b, o + j, none⟩ = some (.slice C (lAt L j).length c) ∧ Ints w C (lAt L j).length (lAt L j) ∧ (lAt L j).length ≤ c)
theorem Lns.below {w w' : World} {A : Option Addr} {n B : Nat} {L : List (List Int)} (h : Lns w A n L) (hb : Below B w w') (hB : w.heap.size ≤ B) : Lns w' A n L := by
  refine ⟨h.1, fun hn => ?_⟩
  obtain ⟨b, o, e, hc⟩ := h.2 hn
  refine ⟨b, o, e, fun j hj => ?_⟩
  obtain ⟨C, c, h1, h2, h3⟩ := hc j hj
  have hl := lt_of_cell h1
  exact ⟨C, c, (hb.cell (p := ⟨b, o + j, none⟩) (by simp; omega)).trans h1, h2.below hb hB, h3⟩
def le8 (l : List Int) : Bool := decide (l.length ≤ 8)
def chkL (zs : List Rg) (L : List (List Int)) : Int :=
  if chkB zs ≠ 0 then chkB zs else if L.length < 2 ∨ 4 < L.length then 6 else if L.all le8 = true then (if L.all (withI 1 100) = true then 0 else 2) else 6
theorem chkL_zero {zs : List Rg} {L : List (List Int)} : chkL zs L = 0 ↔ chkB zs = 0 ∧ 2 ≤ L.length ∧ L.length ≤ 4 ∧ L.all le8 = true ∧ L.all (withI 1 100) = true := by
  unfold chkL
  by_cases h1 : chkB zs = 0
  · rw [if_neg (by simpa using h1)]
    by_cases h2 : L.length < 2 ∨ 4 < L.length
    · rw [if_pos h2]; constructor
      · intro h; cases h
      · rintro ⟨_, a, b, _⟩; omega
    · rw [if_neg h2]
      by_cases h3 : L.all le8 = true
      · rw [if_pos h3]
        by_cases h4 : L.all (withI 1 100) = true
        · rw [if_pos h4]; exact ⟨fun _ => ⟨h1, by omega, by omega, h3, h4⟩, fun _ => rfl⟩
        · rw [if_neg h4]; exact ⟨fun h => (by cases h), fun h => absurd h.2.2.2.2 h4⟩
      · rw [if_neg h3]; exact ⟨fun h => (by cases h), fun h => absurd h.2.2.2.1 h3⟩
  · rw [if_pos h1]; exact ⟨fun h => absurd h h1, fun h => absurd h.1 h1⟩
theorem le8_take (L : List (List Int)) (k : Nat) (hk : k < L.length) : (L.take (k + 1)).all le8 = ((L.take k).all le8 && le8 (lAt L k)) := all_take _ L k [] hk
theorem le8_stop (L : List (List Int)) (k : Nat) (hk : k < L.length) (h : le8 (lAt L k) = false) : L.all le8 = false := all_stop _ L k [] hk h
theorem wi_take (L : List (List Int)) (k : Nat) (hk : k < L.length) : (L.take (k + 1)).all (withI 1 100) = ((L.take k).all (withI 1 100) && withI 1 100 (lAt L k)) := all_take _ L k [] hk
theorem wi_stop (L : List (List Int)) (k : Nat) (hk : k < L.length) (h : withI 1 100 (lAt L k) = false) : L.all (withI 1 100) = false := all_stop _ L k [] hk h
theorem chkL_book {zs : List Rg} {L : List (List Int)} (h : chkB zs ≠ 0) : chkL zs L = chkB zs := by unfold chkL; rw [if_pos h]
theorem chkL_many {zs : List Rg} {L : List (List Int)} (h : chkB zs = 0) (h2 : L.length < 2 ∨ 4 < L.length) : chkL zs L = 6 := by unfold chkL; rw [if_neg (by simpa using h), if_pos h2]
theorem chkL_long {zs : List Rg} {L : List (List Int)} (h : chkB zs = 0) (h2 : ¬ (L.length < 2 ∨ 4 < L.length)) (h3 : L.all le8 = false) : chkL zs L = 6 := by unfold chkL; rw [if_neg (by simpa using h), if_neg h2, if_neg (by simp [h3])]
theorem chkL_word {zs : List Rg} {L : List (List Int)} (h : chkB zs = 0) (h2 : ¬ (L.length < 2 ∨ 4 < L.length)) (h3 : L.all le8 = true) (h4 : L.all (withI 1 100) = false) : chkL zs L = 2 := by unfold chkL; rw [if_neg (by simpa using h), if_neg h2, if_pos h3, if_neg (by simp [h4])]
theorem all8 {L : List (List Int)} (h : L.all le8 = true) {k : Nat} (hk : k < L.length) : (lAt L k).length ≤ 8 := by
  rw [lAt_eq hk]
  have := List.all_eq_true.1 h _ (List.getElem_mem hk)
  simpa [le8] using this
attribute [local go_sem ↓] exec_app
set_option maxRecDepth 100000 in
set_option maxHeartbeats 8000000 in
theorem checkLines21 (A : Option Addr) (n cap : Nat) (zs : List Rg) (A2 : Option Addr) (m cap2 : Nat) (L : List (List Int)) (w : World) (h : Rgs w A n zs) (hL : Lns w A2 m L) (hm : m ≤ 9223372036854775807) :
    Calls Try.prog 21 #[.agg #[.slice A n cap], .slice A2 m cap2] w fun e w' => e = .returned (.int .i64 (chkL zs L)) ∧ Below w.heap.size w w' := by
  have Hlen := Lib.hid hL.1
  have hb0 := below_alloc_ w (.cells #[.slice A n cap] 24)
  have hr0 := heap_alloc_new_ w (.cells #[.slice A n cap] 24)
  obtain ⟨W0, hW0⟩ : ∃ W0, w.alloc (.cells #[.slice A n cap] 24) = W0 := ⟨_, rfl⟩
  obtain ⟨R, hR⟩ : ∃ R, w.heap.size = R := ⟨_, rfl⟩
  rw [hW0] at hb0 hr0
  rw [hR] at hr0
  have S := Lib.hid (h.below hb0 (Nat.le_refl _))
  have X := Lib.hid (hL.below hb0 (Nat.le_refl _))
  have B0 := Lib.hid hb0
  have R0 := Lib.hid hr0
  have HW0 := Lib.hid hW0
  have HR := Lib.hid hR
  have r0 : W0.cell? ⟨R, 0, none⟩ = some (.slice A n cap) := by rw [cell_row hr0]; rfl
  obtain ⟨c, hc⟩ : ∃ c, chkB zs = c := ⟨_, rfl⟩
  have Hc := Lib.hid hc
  clear h hL hb0 hr0 hW0 hR hc
  go_enter Try.func21, Try.ntmps21
  go_wp2_with fail
  rw [HW0.out]
  try rw [HR.out]
  try go_wp2_with fail
  have hcb := checkBook19 A n cap zs W0 S.out
  rw [Hc.out] at hcb
  refine hcb.mono ?_
  rintro en w1 ⟨rfl, hb⟩
  have B1 := Lib.hid hb
  replace X := Lib.hid (X.out.below hb (Nat.le_refl _))
  clear hb hcb r0
  by_cases h0 : c = 0
  rotate_left
  · have d0 : (c != 0) = true := by rw [bne_iff_ne]; exact h0
    have HC := Lib.hid (show chkL zs L = c by rw [chkL_book (by rw [Hc.out]; exact h0), Hc.out])
    clear h0
    go_wp2_with fail
    go_ret
    exact ⟨by rw [HC.out]; rfl, B0.out.trans (B1.out.mono B0.out.size)⟩
  subst h0
  go_wp2_with fail
  have hz := heap_alloc_new_ w1 (.cells #[.int .i64 (m : Int)] 3)
  have hbz := below_alloc_ w1 (.cells #[.int .i64 (m : Int)] 3)
  obtain ⟨V, hV⟩ : ∃ V, w1.alloc (.cells #[.int .i64 (m : Int)] 3) = V := ⟨_, rfl⟩
  rw [hV] at hz hbz ⊢
  refine (within47 (some ⟨w1.heap.size, 0, none⟩) 1 1 [(m : Int)] 2 4 V (ints_one hz) (by omega)).mono ?_
  rintro e V2 ⟨rfl, hV2⟩
  obtain rfl : V = V2 := hV2.symm
  replace B1 := Lib.hid (B1.out.trans (hbz.mono B1.out.size))
  replace X := Lib.hid (X.out.below hbz (Nat.le_refl _))
  clear hz hbz hV
  by_cases hmm : m < 2 ∨ 4 < m
  · have HC := Lib.hid (chkL_many Hc.out (L := L) (by rw [Hlen.out]; exact hmm))
    rw [show withI 2 4 [(m : Int)] = false by simp [withI, inB]; omega]
    clear hmm
    go_wp2_with fail
    go_ret
    exact ⟨by rw [HC.out]; rfl, B0.out.trans (B1.out.mono B0.out.size)⟩
  have HMM := Lib.hid (show ¬ (L.length < 2 ∨ 4 < L.length) by rw [Hlen.out]; exact hmm)
  have hm4 : m ≤ 4 := by omega
  rw [show withI 2 4 [(m : Int)] = true by simp [withI, inB]; omega]
  clear hmm
  go_wp2_with fail
  go_loopw [7, 22] (fun l i wr => ∃ k : Nat, k ≤ m ∧ i = .int .i64 (k : Int) ∧ Hid ((L.take k).all le8 = true) ∧ wr = V) (fun l i _ => m - (intOf i).toNat)
  case atStart => exact ⟨0, Nat.zero_le _, rfl, Lib.hid rfl, rfl⟩
  case round =>
    obtain ⟨k, hk, rfl, HW, rfl⟩ := hrel
    by_cases hlt : k < m
    · obtain ⟨b, o, rfl, hc2⟩ := X.out.2 (by omega)
      obtain ⟨C, cl, c0, -, -⟩ := hc2 k hlt
      have Hs := Lib.hid (le8_take L k (by have := Hlen.out; omega))
      have Hf := Lib.hid (le8_stop L k (by have := Hlen.out; omega))
      rw [HW.out, Bool.true_and] at Hs
      obtain ⟨q, hq⟩ : ∃ q, (lAt L k).length = q := ⟨_, rfl⟩
      have H8 := Lib.hid (show le8 (lAt L k) = decide (q ≤ 8) by unfold le8; rw [hq])
      rw [hq] at c0
      have i0 : (0 : Int) ≤ (k : Int) := by omega
      have i1 : (k : Int) < (m : Int) := by omega
      have i2 : (k : Int) ≤ 4 := by omega
      clear hc2 hq HW
      by_cases h8 : q ≤ 8
      · have HN := Lib.hid (show (L.take (k + 1)).all le8 = true by rw [Hs.out, H8.out, decide_eq_true h8])
        have d8 : ¬ (8 : Int) < (q : Int) := by omega
        go_wp2_with fail
        go_roundw
        case rel => exact ⟨k + 1, by omega, by go_num, HN, by first | rfl | trivial⟩
        case measure => simp [intOf]; omega
      · have HC := Lib.hid (chkL_long Hc.out HMM.out (Hf.out (by rw [H8.out, decide_eq_false h8])))
        have d8 : (8 : Int) < (q : Int) := by omega
        go_wp2_with fail
        go_ret
        exact ⟨by rw [HC.out]; rfl, B0.out.trans (B1.out.mono B0.out.size)⟩
    · have HA8 := Lib.hid (show L.all le8 = true by rw [← List.take_of_length_le (l := L) (i := k) (by have := Hlen.out; omega)]; exact HW.out)
      clear HW
      obtain ⟨wv, hwv⟩ : ∃ wv, wv = wr := ⟨_, rfl⟩
      rw [← hwv] at X B1 ⊢
      clear hwv
      go_wp2_with fail
      go_loopw [9, 32] (fun l i wr => ∃ k : Nat, k ≤ m ∧ i = .int .i64 (k : Int) ∧ Hid ((L.take k).all (withI 1 100) = true) ∧ wr = wv) (fun l i _ => m - (intOf i).toNat)
      case atStart => exact ⟨0, Nat.zero_le _, rfl, Lib.hid rfl, rfl⟩
      case round =>
        obtain ⟨j, hj, rfl, HW, rfl⟩ := hrel
        by_cases hjl : j < m
        · obtain ⟨b, o, rfl, hc2⟩ := X.out.2 (by omega)
          obtain ⟨C, cl, c0, hi, -⟩ := hc2 j hjl
          have Hs := Lib.hid (wi_take L j (by have := Hlen.out; omega))
          have Hf := Lib.hid (wi_stop L j (by have := Hlen.out; omega))
          rw [HW.out, Bool.true_and] at Hs
          have h8 := all8 HA8.out (k := j) (by have := Hlen.out; omega)
          have HI := Lib.hid hi
          obtain ⟨q, hq⟩ : ∃ q, (lAt L j).length = q := ⟨_, rfl⟩
          rw [hq] at c0 HI h8
          have i0 : (0 : Int) ≤ (j : Int) := by omega
          have i1 : (j : Int) < (m : Int) := by omega
          have i2 : (j : Int) ≤ 4 := by omega
          clear hc2 hq HW hi
          go_wp2_with fail
          refine (within47 C q cl (lAt L j) 1 100 _ HI.out (by omega)).mono ?_
          rintro e V3 ⟨rfl, rfl⟩
          cases hok : withI 1 100 (lAt L j) with
          | true =>
            rw [hok] at Hs
            clear hok
            go_wp2_with fail
            go_roundw
            case rel => exact ⟨j + 1, by omega, by go_num, Hs, by first | rfl | trivial⟩
            case measure => simp [intOf]; omega
          | false =>
            have HC := Lib.hid (chkL_word Hc.out HMM.out HA8.out (Hf.out hok))
            clear hok
            go_wp2_with fail
            go_ret
            exact ⟨by rw [HC.out]; rfl, B0.out.trans (B1.out.mono B0.out.size)⟩
        · have HC := Lib.hid (show chkL zs L = 0 from chkL_zero.2 ⟨Hc.out, by have := HMM.out; omega, by have := HMM.out; omega, HA8.out, by rw [← List.take_of_length_le (l := L) (i := j) (by have := Hlen.out; omega)]; exact HW.out⟩)
          clear HW
          go_wp2_with fail
          go_ret
          exact ⟨by rw [HC.out]; rfl, B0.out.trans (B1.out.mono B0.out.size)⟩
set_option maxRecDepth 100000 in
set_option maxHeartbeats 8000000 in
theorem refLines22 (A : Option Addr) (n cap : Nat) (zs : List Rg) (A2 : Option Addr) (m cap2 : Nat) (L : List (List Int)) (w : World) (h : Rgs w A n zs) (hL : Lns w A2 m L) (hm : m ≤ 9223372036854775807) :
    Calls Try.prog 22 #[.agg #[.slice A n cap], .slice A2 m cap2] w fun e w' => e = .returned (.int .i64 (chkL zs L)) ∧ Below w.heap.size w w' := by
  have Hlen := Lib.hid hL.1
  have hb0 := below_alloc_ w (.cells #[.slice A n cap] 24)
  have hr0 := heap_alloc_new_ w (.cells #[.slice A n cap] 24)
  obtain ⟨W0, hW0⟩ : ∃ W0, w.alloc (.cells #[.slice A n cap] 24) = W0 := ⟨_, rfl⟩
  obtain ⟨R, hR⟩ : ∃ R, w.heap.size = R := ⟨_, rfl⟩
  rw [hW0] at hb0 hr0
  rw [hR] at hr0
  have S := Lib.hid (h.below hb0 (Nat.le_refl _))
  have X := Lib.hid (hL.below hb0 (Nat.le_refl _))
  have B0 := Lib.hid hb0
  have R0 := Lib.hid hr0
  have HW0 := Lib.hid hW0
  have HR := Lib.hid hR
  have r0 : W0.cell? ⟨R, 0, none⟩ = some (.slice A n cap) := by rw [cell_row hr0]; rfl
  obtain ⟨c, hc⟩ : ∃ c, chkB zs = c := ⟨_, rfl⟩
  have Hc := Lib.hid hc
  clear h hL hb0 hr0 hW0 hR hc
  go_enter Try.func22, Try.ntmps22
  go_wp2_with fail
  rw [HW0.out]
  try rw [HR.out]
  try go_wp2_with fail
  have hcb := refBook20 A n cap zs W0 S.out
  rw [Hc.out] at hcb
  refine hcb.mono ?_
  rintro en w1 ⟨rfl, hb⟩
  have B1 := Lib.hid hb
  replace X := Lib.hid (X.out.below hb (Nat.le_refl _))
  replace S := Lib.hid (S.out.below hb (Nat.le_refl _))
  replace R0 := Lib.hid ((hb.block _ (lt_of_block R0.out)).trans R0.out)
  clear hb hcb r0
  by_cases h0 : c = 0
  rotate_left
  · have d0 : (c != 0) = true := by rw [bne_iff_ne]; exact h0
    have HC := Lib.hid (show chkL zs L = c by rw [chkL_book (by rw [Hc.out]; exact h0), Hc.out])
    have r0 : w1.cell? ⟨R, 0, none⟩ = some (.slice A n cap) := by rw [cell_row R0.out]; rfl
    clear h0
    go_wp2_with fail
    have hcb := refBook20 A n cap zs w1 S.out
    rw [Hc.out] at hcb
    refine hcb.mono ?_
    rintro en w2 ⟨rfl, hb⟩
    replace B1 := Lib.hid (B1.out.trans (hb.mono B1.out.size))
    clear hb hcb r0
    go_wp2_with fail
    go_ret
    exact ⟨by rw [HC.out]; rfl, B0.out.trans (B1.out.mono B0.out.size)⟩
  subst h0
  by_cases hm2 : m < 2
  · have HC := Lib.hid (chkL_many Hc.out (L := L) (by rw [Hlen.out]; exact .inl hm2))
    have d2 : (m : Int) < 2 := by omega
    go_wp2_with fail
    go_ret
    exact ⟨by rw [HC.out]; rfl, B0.out.trans (B1.out.mono B0.out.size)⟩
  by_cases hm5 : 4 < m
  · have HC := Lib.hid (chkL_many Hc.out (L := L) (by rw [Hlen.out]; exact .inr hm5))
    have d2 : ¬ (m : Int) < 2 := by omega
    have d3 : (4 : Int) < (m : Int) := by omega
    go_wp2_with fail
    go_ret
    exact ⟨by rw [HC.out]; rfl, B0.out.trans (B1.out.mono B0.out.size)⟩
  have HMM := Lib.hid (show ¬ (L.length < 2 ∨ 4 < L.length) by rw [Hlen.out]; omega)
  have d2 : ¬ (m : Int) < 2 := by omega
  have d3 : ¬ (4 : Int) < (m : Int) := by omega
  have hm4 : m ≤ 4 := by omega
  go_wp2_with fail
  clear d2 d3 hm2 hm5
  go_loopw [5] (fun i wr => ∃ k : Nat, k ≤ m ∧ i = .int .i64 (k : Int) ∧ Hid ((L.take k).all le8 = true) ∧ wr = w1) (fun i _ => m - (intOf i).toNat)
  case atStart => exact ⟨0, Nat.zero_le _, rfl, Lib.hid rfl, rfl⟩
  case round =>
    obtain ⟨k, hk, rfl, HW, rfl⟩ := hrel
    by_cases hlt : k < m
    · obtain ⟨b, o, rfl, hc2⟩ := X.out.2 (by omega)
      obtain ⟨C, cl, c0, -, -⟩ := hc2 k hlt
      have Hs := Lib.hid (le8_take L k (by have := Hlen.out; omega))
      have Hf := Lib.hid (le8_stop L k (by have := Hlen.out; omega))
      rw [HW.out, Bool.true_and] at Hs
      obtain ⟨q, hq⟩ : ∃ q, (lAt L k).length = q := ⟨_, rfl⟩
      have H8 := Lib.hid (show le8 (lAt L k) = decide (q ≤ 8) by unfold le8; rw [hq])
      rw [hq] at c0
      have i0 : (0 : Int) ≤ (k : Int) := by omega
      have i1 : (k : Int) < (m : Int) := by omega
      have i2 : (k : Int) ≤ 4 := by omega
      clear hc2 hq HW
      by_cases h8 : q ≤ 8
      · have HN := Lib.hid (show (L.take (k + 1)).all le8 = true by rw [Hs.out, H8.out, decide_eq_true h8])
        have d8 : ¬ (8 : Int) < (q : Int) := by omega
        go_wp2_with fail
        go_roundw
        case rel => exact ⟨k + 1, by omega, by go_num, HN, by first | rfl | trivial⟩
        case measure => simp [intOf]; omega
      · have HC := Lib.hid (chkL_long Hc.out HMM.out (Hf.out (by rw [H8.out, decide_eq_false h8])))
        have d8 : (8 : Int) < (q : Int) := by omega
        go_wp2_with fail
        go_ret
        exact ⟨by rw [HC.out]; rfl, B0.out.trans (B1.out.mono B0.out.size)⟩
    · have HA8 := Lib.hid (show L.all le8 = true by rw [← List.take_of_length_le (l := L) (i := k) (by have := Hlen.out; omega)]; exact HW.out)
      clear HW
      obtain ⟨wv, hwv⟩ : ∃ wv, wv = wr := ⟨_, rfl⟩
      rw [← hwv] at X B1 ⊢
      clear hwv
      go_wp2_with fail
      go_loopw [6, 7] (fun i p wr => ∃ k : Nat, k ≤ m ∧ i = .int .i64 (k : Int) ∧ Hid ((L.take k).all (withI 1 100) = true) ∧ wr = wv) (fun i p _ => m - (intOf i).toNat)
      case atStart => exact ⟨0, Nat.zero_le _, rfl, Lib.hid rfl, rfl⟩
      case round =>
        obtain ⟨j, hj, rfl, HW, rfl⟩ := hrel
        by_cases hjl : j < m
        · obtain ⟨b, o, hAe, hc2⟩ := X.out.2 (by omega)
          obtain ⟨C, cl, c0, hi, -⟩ := hc2 j hjl
          have Hs := Lib.hid (wi_take L j (by have := Hlen.out; omega))
          have Hf := Lib.hid (wi_stop L j (by have := Hlen.out; omega))
          rw [HW.out, Bool.true_and] at Hs
          have h8 := all8 HA8.out (k := j) (by have := Hlen.out; omega)
          have HI := Lib.hid hi
          obtain ⟨zl, hzl⟩ : ∃ zl, lAt L j = zl := ⟨_, rfl⟩
          rw [hzl] at HI h8 c0 Hs Hf
          obtain ⟨q, hq⟩ : ∃ q, zl.length = q := ⟨_, rfl⟩
          rw [hq] at c0 HI h8
          have Hq := Lib.hid hq
          subst hAe
          have i0 : (0 : Int) ≤ (j : Int) := by omega
          have i1 : (j : Int) < (m : Int) := by omega
          have i2 : (j : Int) ≤ 4 := by omega
          clear hc2 hq HW hi hzl
          obtain ⟨wu, hwu⟩ : ∃ wu, wu = wr := ⟨_, rfl⟩
          rw [← hwu] at X B1 c0 HI ⊢
          clear hwu
          go_wp2_with fail
          go_loopw [7] (fun p wr => ∃ t : Nat, t ≤ q ∧ p = .int .i64 (t : Int) ∧ Hid (withI 1 100 (zl.take t) = true) ∧ wr = wu) (fun p _ => q - (intOf p).toNat)
          case atStart => exact ⟨0, Nat.zero_le _, rfl, Lib.hid rfl, rfl⟩
          case round =>
            obtain ⟨t, ht, rfl, HT, rfl⟩ := hrel
            by_cases htl : t < q
            · obtain ⟨b2, o2, rfl, hc3⟩ := HI.out.2 (by omega)
              have c2 := hc3 t htl
              have Ks := Lib.hid (withI_take 1 100 zl t (by have := Hq.out; omega))
              rw [HT.out, Bool.true_and] at Ks
              have Kf := Lib.hid (fun hh => withI_stop 1 100 zl t (by have := Hq.out; omega) hh)
              obtain ⟨x, hx⟩ : ∃ x, iAt zl t = x := ⟨_, rfl⟩
              rw [hx] at c2 Ks Kf
              have j0 : (0 : Int) ≤ (t : Int) := by omega
              have j1 : (t : Int) < (q : Int) := by omega
              have j2 : (t : Int) ≤ 8 := by omega
              clear hc3 hx HT
              go_wp2_with fail
              refine (isWord50 x _).mono ?_
              rintro e V3 ⟨rfl, rfl⟩
              cases hok : inB 1 100 x with
              | true =>
                rw [hok] at Ks
                clear hok
                go_wp2_with fail
                go_roundw
                case rel => exact ⟨t + 1, by omega, by go_num, Ks, by first | rfl | trivial⟩
                case measure => simp [intOf]; omega
              | false =>
                have HC := Lib.hid (chkL_word Hc.out HMM.out HA8.out (Hf.out (Kf.out (fun hh => by rw [inB_iff.2 hh] at hok; cases hok))))
                clear hok
                go_wp2_with fail
                go_ret
                exact ⟨by rw [HC.out]; rfl, B0.out.trans (B1.out.mono B0.out.size)⟩
            · have HN := Lib.hid (show (L.take (j + 1)).all (withI 1 100) = true by
                rw [Hs.out, ← List.take_of_length_le (l := zl) (i := t) (by have := Hq.out; omega)]; exact HT.out)
              clear HT
              go_wp2_with fail
              go_roundw
              case rel => exact ⟨j + 1, by omega, by go_num, HN, by first | rfl | trivial⟩
              case measure => simp [intOf]; omega
        · have HC := Lib.hid (show chkL zs L = 0 from chkL_zero.2 ⟨Hc.out, by have := HMM.out; omega, by have := HMM.out; omega, HA8.out, by rw [← List.take_of_length_le (l := L) (i := j) (by have := Hlen.out; omega)]; exact HW.out⟩)
          clear HW
          go_wp2_with fail
          go_ret
          exact ⟨by rw [HC.out]; rfl, B0.out.trans (B1.out.mono B0.out.size)⟩
end Go.Proofs.Ythdjbapidodlfaa
