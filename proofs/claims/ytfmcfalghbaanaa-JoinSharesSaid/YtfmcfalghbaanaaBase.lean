/- Stage 2: what lists of ranges hold in memory; the contracts of just and within. -/
import Derived.Test.YtfmcfalghbaanaaProg
import Derived.WalkKit
import Derived.WalkSpells
import Derived.WalkLawsBesides
import Derived.Lib.Hide
namespace Go.Proofs.Ytfmcfalghbaanaa
set_option linter.unusedSimpArgs false
set_option linter.unusedVariables false
open Go.RowKit

/-- A range: from, to. -/
structure Rg where
  lo : Int
  hi : Int
deriving DecidableEq, Inhabited

def gAt (zs : List Rg) (k : Nat) : Rg := zs.getD k ⟨0, 0⟩
/-- A slice of n ranges reads as zs. -/
def Rgs (w : World) (A : Option Addr) (n : Nat) (zs : List Rg) : Prop :=
  zs.length = n ∧ (0 < n → ∃ b o, A = some ⟨b, o, none⟩ ∧ ∀ j, j < n → w.cell? ⟨b, o + j * 2, none⟩ = some (.int .i64 (gAt zs j).lo) ∧ w.cell? ⟨b, o + j * 2 + 1, none⟩ = some (.int .i64 (gAt zs j).hi))

theorem lt_of_cell {w : World} {b o : Nat} {v : Value} (h : w.cell? ⟨b, o, none⟩ = some v) : b < w.heap.size := by
  rcases Nat.lt_or_ge b w.heap.size with hl | hl
  · exact hl
  · simp [World.cell?, Array.getElem?_eq_none hl] at h
theorem below_alloc_ (W : World) (o : Obj) : Below W.heap.size W (W.alloc o) := (Below.refl _ _).alloc (Nat.le_refl _) _
theorem Rgs.below {w w' : World} {A : Option Addr} {n B : Nat} {zs : List Rg} (h : Rgs w A n zs) (hb : Below B w w') (hB : w.heap.size ≤ B) : Rgs w' A n zs := by
  refine ⟨h.1, fun hn => ?_⟩
  obtain ⟨b, o, e, hc⟩ := h.2 hn
  have hl := lt_of_cell (hc 0 hn).1
  exact ⟨b, o, e, fun j hj => ⟨(hb.cell (p := ⟨b, o + j * 2, none⟩) (by simp; omega)).trans (hc j hj).1, (hb.cell (p := ⟨b, o + j * 2 + 1, none⟩) (by simp; omega)).trans (hc j hj).2⟩⟩

/-- All ranges are valid, with ends from lo to hi. -/
def okRg (lo hi : Int) (z : Rg) : Bool := decide (lo ≤ z.lo) && decide (z.lo ≤ z.hi) && decide (z.hi ≤ hi)
def within (lo hi : Int) (zs : List Rg) : Bool := zs.all (okRg lo hi)
theorem okRg_iff {lo hi : Int} {z : Rg} : okRg lo hi z = true ↔ lo ≤ z.lo ∧ z.lo ≤ z.hi ∧ z.hi ≤ hi := by simp [okRg, and_assoc]
theorem within_take (lo hi : Int) (zs : List Rg) (k : Nat) (hk : k < zs.length) : within lo hi (zs.take (k + 1)) = (within lo hi (zs.take k) && okRg lo hi (gAt zs k)) := by
  unfold within gAt
  rw [List.take_succ_eq_append_getElem hk, List.all_append]
  simp [List.getD, hk]
theorem within_stop (lo hi : Int) (zs : List Rg) (k : Nat) (hk : k < zs.length) (h : ¬ (lo ≤ (gAt zs k).lo ∧ (gAt zs k).lo ≤ (gAt zs k).hi ∧ (gAt zs k).hi ≤ hi)) : within lo hi zs = false := by
  unfold within
  rw [List.all_eq_false]
  refine ⟨zs[k], List.getElem_mem hk, ?_⟩
  have e : gAt zs k = zs[k] := by simp [gAt, List.getD, hk]
  rw [e] at h
  intro h2
  exact h (okRg_iff.1 h2)
theorem ret_bool {a b : Bool} (h : a = b) : Ending.returned (.bool a) = .returned (.bool b) := by rw [h]

theorem just48 (n : Int) (w : World) : Calls Try.prog 48 #[.int .i64 n] w fun e w' => e = .returned (.agg #[.int .i64 n, .int .i64 n]) ∧ w' = w.alloc (.cells #[.int .i64 n, .int .i64 n] 24) := by
  go_enter Try.func48, Try.ntmps48
  go_wp2_with fail
  refine bodyPost_ret (v := .agg #[.int .i64 n, .int .i64 n]) (by simp [results, Try.results48, go_sem]) rfl ⟨rfl, rfl⟩

set_option maxRecDepth 100000 in
set_option maxHeartbeats 1000000 in
theorem within47 (A : Option Addr) (n cap : Nat) (zs : List Rg) (lo hi : Int) (w : World) (h : Rgs w A n zs) (hn : n ≤ 1000000) :
    Calls Try.prog 47 #[.int .i64 lo, .int .i64 hi, .slice A n cap] w fun e w' => e = .returned (.bool (within lo hi zs)) ∧ Below w.heap.size w w' := by
  go_enter Try.func47, Try.ntmps47
  go_wp2_with fail
  go_loopw [11] (fun i wr => ∃ k : Nat, k ≤ n ∧ i = .int .i64 k ∧ within lo hi (zs.take k) = true ∧ Below w.heap.size w wr) (fun i _ => n - (intOf i).toNat)
  case atStart => exact ⟨0, Nat.zero_le _, rfl, rfl, Below.refl _ _⟩
  case round =>
    obtain ⟨k, hk, rfl, hw, hB⟩ := hrel
    have HB := Lib.hid hB
    by_cases hlt : k < n
    · obtain ⟨hl, hc⟩ := h.below hB (Nat.le_refl _)
      obtain ⟨b, o, rfl, hc2⟩ := hc (by omega)
      obtain ⟨c0, c1⟩ := hc2 k hlt
      have Hs := Lib.hid (within_take lo hi zs k (by omega))
      have Hf := Lib.hid (within_stop lo hi zs k (by omega))
      have Hw := Lib.hid hw
      obtain ⟨g, hg⟩ : ∃ g, gAt zs k = g := ⟨_, rfl⟩
      rw [hg] at c0 c1 Hs Hf
      have HB2 := Lib.hid (hB.trans ((below_alloc_ wr (.cells #[.int .i64 g.lo, .int .i64 g.hi] 24)).mono hB.size))
      have i0 : (0 : Int) ≤ (k : Int) := by omega
      have i1 : (k : Int) < (n : Int) := by omega
      clear hc hc2 hw hl hg hB h
      by_cases h1 : g.lo < lo
      · have d1 : decide (g.lo < lo) = true := decide_eq_true h1
        go_wp2_with fail
        go_ret
        exact ⟨ret_bool (Hf.out (by omega)).symm, HB2.out⟩
      · have d1 : decide (g.lo < lo) = false := decide_eq_false h1
        by_cases h2 : g.hi < g.lo
        · have d2 : decide (g.hi < g.lo) = true := decide_eq_true h2
          go_wp2_with fail
          go_ret
          exact ⟨ret_bool (Hf.out (by omega)).symm, HB2.out⟩
        · have d2 : decide (g.hi < g.lo) = false := decide_eq_false h2
          by_cases h3 : hi < g.hi
          · have d3 : decide (hi < g.hi) = true := decide_eq_true h3
            go_wp2_with fail
            go_ret
            exact ⟨ret_bool (Hf.out (by omega)).symm, HB2.out⟩
          · have d3 : decide (hi < g.hi) = false := decide_eq_false h3
            go_wp2_with fail
            go_roundw
            case rel => exact ⟨k + 1, by omega, by go_num, by rw [Hs.out, Hw.out, okRg_iff.2 ⟨by omega, by omega, by omega⟩]; rfl, HB2.out⟩
            case measure => simp [intOf]; omega
    · go_wp2_with fail
      go_ret
      exact ⟨ret_bool (by rw [← hw, List.take_of_length_le (by have := h.1; omega)]), HB.out⟩
end Go.Proofs.Ytfmcfalghbaanaa
