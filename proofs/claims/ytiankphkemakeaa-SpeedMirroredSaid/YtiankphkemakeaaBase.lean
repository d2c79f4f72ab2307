/- What a slice, an array and a list of rules hold in memory, for the contracts of this seat. Plain facts on worlds; no function of the program. -/
import Derived.Test.YtiankphkemakeaaProg
import Derived.WalkKit
import Derived.WalkSpells
import Derived.WalkLawsBesides
import Derived.Lib.Hide
namespace Go.Proofs.Ytiankphkemakeaa
set_option linter.unusedSimpArgs false
set_option linter.unusedVariables false
open Go.RowKit

/-- The number at an index. -/
def nth (zs : List Int) (k : Nat) : Int := zs.getD k 0

/-- A rule: from, to, most. -/
structure R where
  f : Int
  t : Int
  m : Int
deriving DecidableEq, Inhabited

def rAt (rs : List R) (k : Nat) : R := rs.getD k ⟨0, 0, 0⟩
def rf (rs : List R) (k : Nat) : Int := (rAt rs k).f
def rt (rs : List R) (k : Nat) : Int := (rAt rs k).t
def rm (rs : List R) (k : Nat) : Int := (rAt rs k).m

/-- A slice of n integers reads as zs. -/
def Ints (w : World) (A : Option Addr) (n : Nat) (zs : List Int) : Prop :=
  zs.length = n ∧ (0 < n → ∃ b o, A = some ⟨b, o, none⟩ ∧ ∀ j, j < n → w.cell? ⟨b, o + j, none⟩ = some (.int .i64 (nth zs j)))

/-- A slice of n rules reads as rs. -/
def Rules (w : World) (A : Option Addr) (n : Nat) (rs : List R) : Prop :=
  rs.length = n ∧ (0 < n → ∃ b o, A = some ⟨b, o, none⟩ ∧ ∀ j, j < n → w.cell? ⟨b, o + j * 3, none⟩ = some (.int .i64 (rf rs j)) ∧ w.cell? ⟨b, o + j * 3 + 1, none⟩ = some (.int .i64 (rt rs j)) ∧ w.cell? ⟨b, o + j * 3 + 2, none⟩ = some (.int .i64 (rm rs j)))

theorem lt_of_cell {w : World} {b o : Nat} {v : Value} (h : w.cell? ⟨b, o, none⟩ = some v) : b < w.heap.size := by
  rcases Nat.lt_or_ge b w.heap.size with hl | hl
  · exact hl
  · simp [World.cell?, Array.getElem?_eq_none hl] at h

theorem Ints.below {w w' : World} {A : Option Addr} {n B : Nat} {zs : List Int} (h : Ints w A n zs) (hb : Below B w w') (hB : w.heap.size ≤ B) : Ints w' A n zs := by
  refine ⟨h.1, fun hn => ?_⟩
  obtain ⟨b, o, e, hc⟩ := h.2 hn
  have hl := lt_of_cell (hc 0 hn)
  exact ⟨b, o, e, fun j hj => (hb.cell (p := ⟨b, o + j, none⟩) (by simp; omega)).trans (hc j hj)⟩

theorem Rules.below {w w' : World} {A : Option Addr} {n B : Nat} {rs : List R} (h : Rules w A n rs) (hb : Below B w w') (hB : w.heap.size ≤ B) : Rules w' A n rs := by
  refine ⟨h.1, fun hn => ?_⟩
  obtain ⟨b, o, e, hc⟩ := h.2 hn
  have hl := lt_of_cell (hc 0 hn).1
  exact ⟨b, o, e, fun j hj => ⟨(hb.cell (p := ⟨b, o + j * 3, none⟩) (by simp; omega)).trans (hc j hj).1, (hb.cell (p := ⟨b, o + j * 3 + 1, none⟩) (by simp; omega)).trans (hc j hj).2.1, (hb.cell (p := ⟨b, o + j * 3 + 2, none⟩) (by simp; omega)).trans (hc j hj).2.2⟩⟩

end Go.Proofs.Ytiankphkemakeaa
