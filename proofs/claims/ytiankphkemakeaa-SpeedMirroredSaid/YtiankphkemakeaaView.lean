/- The contracts of ahead, around, the closure in ends, and each. -/
import Derived.RangeFuncNested
import Derived.RangeFuncBound
import Derived.RangeFuncCalls
import Derived.RangeFuncLeaves
import Derived.Shelf.Abstract
import Derived.Shelf.RegionOpen
import Derived.WalkKit
import Derived.OwnWalkIn
import Derived.TacticsInMore
import Derived.LoopNIn
import Derived.LoopIn
import Derived.Maps.OwnIn
import Derived.Test.YtiankphkemakeaaRSpd
namespace Go.Proofs.Ytiankphkemakeaa
set_option linter.unusedSimpArgs false
set_option linter.unusedVariables false
open Go.RowKit Go.Shelf

/-- A rule from its other end. -/
def flip (r : R) : R := ⟨r.t, r.f, r.m⟩
/-- What a view shows. -/
def vw (high : Bool) (r : R) : R := if high then r else flip r

set_option maxHeartbeats 400000 in
theorem ahead65 (f t m : Int) (w : World) :
    Calls Try.prog 65 #[.agg #[.int .i64 f, .int .i64 t, .int .i64 m]] w fun e w' => e = .returned (.agg #[.int .i64 f, .int .i64 t, .int .i64 m]) ∧ Below w.heap.size w w' := by
  go_enter Try.func65, Try.ntmps65
  go_wp2
  refine bodyPost_ret (v := .agg #[.int .i64 f, .int .i64 t, .int .i64 m]) (by simp [results, Try.results65, go_sem]) rfl ⟨rfl, ?_⟩
  exact ((Below.refl _ _).alloc (Nat.le_refl _) _).alloc (by simp) _

set_option maxHeartbeats 400000 in
theorem around75 (f t m : Int) (w : World) :
    Calls Try.prog 75 #[.agg #[.int .i64 f, .int .i64 t, .int .i64 m]] w fun e w' => e = .returned (.agg #[.int .i64 t, .int .i64 f, .int .i64 m]) ∧ Below w.heap.size w w' := by
  go_enter Try.func75, Try.ntmps75
  go_wp2
  refine bodyPost_ret (v := .agg #[.int .i64 t, .int .i64 f, .int .i64 m]) (by simp [results, Try.results75, go_sem]) rfl ⟨rfl, ?_⟩
  exact ((Below.refl _ _).alloc (Nat.le_refl _) _).alloc (by simp) _

set_option maxHeartbeats 400000 in
theorem ends74 (high : Bool) (H : Nat) (r : R) (w : World) (hH : w.cell? ⟨H, 0, none⟩ = some (.bool high)) :
    Calls Try.prog 74 #[.agg #[.int .i64 r.f, .int .i64 r.t, .int .i64 r.m], .pointer (some ⟨H, 0, none⟩)] w fun e w' => e = .returned (.agg #[.int .i64 (vw high r).f, .int .i64 (vw high r).t, .int .i64 (vw high r).m]) ∧ Below w.heap.size w w' := by
  have hl := lt_of_cell hH
  have hl1 : H < w.heap.size + 1 := by omega
  cases high with
  | true =>
    go_enter Try.func74, Try.ntmps74
    go_wp2_with fail
    refine (ahead65 _ _ _ _).mono ?_
    rintro e w1 ⟨rfl, hb⟩
    have hz : w.heap.size + 1 < w1.heap.size := by have := hb.size; simp at this; omega
    have d0 : w1.cell? ⟨w.heap.size + 1, 0, none⟩ = some (.int .i64 0) := by rw [(bcell hb).1 _ _ (by simp)]; go_simp
    have d1 : w1.cell? ⟨w.heap.size + 1, 1, none⟩ = some (.int .i64 0) := by rw [(bcell hb).1 _ _ (by simp)]; go_simp
    have d2 : w1.cell? ⟨w.heap.size + 1, 2, none⟩ = some (.int .i64 0) := by rw [(bcell hb).1 _ _ (by simp)]; go_simp
    have f0 : w1.frozen? ⟨w.heap.size + 1, 0, none⟩ = false := by rw [(bcell hb).2 _ _ (by simp)]; go_simp
    have f1 : w1.frozen? ⟨w.heap.size + 1, 1, none⟩ = false := by rw [(bcell hb).2 _ _ (by simp)]; go_simp
    have f2 : w1.frozen? ⟨w.heap.size + 1, 2, none⟩ = false := by rw [(bcell hb).2 _ _ (by simp)]; go_simp
    have Hb := Lib.hid ((((Below.refl w.heap.size w).alloc (Nat.le_refl _) _).alloc (by simp) _).trans (hb.mono (by simp; omega)))
    clear hb
    go_wp2_with fail
    refine bodyPost_ret (v := .agg #[.int .i64 r.f, .int .i64 r.t, .int .i64 r.m]) (by simp [results, Try.results74, go_sem, d0, d1, d2]) rfl ⟨rfl, ?_⟩
    exact ((Hb.out.setCell (by simp) _).setCell (by simp) _).setCell (by simp) _
  | false =>
    go_enter Try.func74, Try.ntmps74
    go_wp2_with fail
    refine (around75 _ _ _ _).mono ?_
    rintro e w1 ⟨rfl, hb⟩
    have hz : w.heap.size + 1 < w1.heap.size := by have := hb.size; simp at this; omega
    have d0 : w1.cell? ⟨w.heap.size + 1, 0, none⟩ = some (.int .i64 0) := by rw [(bcell hb).1 _ _ (by simp)]; go_simp
    have d1 : w1.cell? ⟨w.heap.size + 1, 1, none⟩ = some (.int .i64 0) := by rw [(bcell hb).1 _ _ (by simp)]; go_simp
    have d2 : w1.cell? ⟨w.heap.size + 1, 2, none⟩ = some (.int .i64 0) := by rw [(bcell hb).1 _ _ (by simp)]; go_simp
    have f0 : w1.frozen? ⟨w.heap.size + 1, 0, none⟩ = false := by rw [(bcell hb).2 _ _ (by simp)]; go_simp
    have f1 : w1.frozen? ⟨w.heap.size + 1, 1, none⟩ = false := by rw [(bcell hb).2 _ _ (by simp)]; go_simp
    have f2 : w1.frozen? ⟨w.heap.size + 1, 2, none⟩ = false := by rw [(bcell hb).2 _ _ (by simp)]; go_simp
    have Hb := Lib.hid ((((Below.refl w.heap.size w).alloc (Nat.le_refl _) _).alloc (by simp) _).trans (hb.mono (by simp; omega)))
    clear hb
    go_wp2_with fail
    refine bodyPost_ret (v := .agg #[.int .i64 r.t, .int .i64 r.f, .int .i64 r.m]) (by simp [results, Try.results74, go_sem, d0, d1, d2]) rfl ⟨rfl, ?_⟩
    exact ((Hb.out.setCell (by simp) _).setCell (by simp) _).setCell (by simp) _

set_option maxHeartbeats 400000 in
theorem each73 (T : Int) (A A' : Option Addr) (n cap N cap' g : Nat) (lb : Array Value) (w : World) :
    Calls Try.prog 73 #[.agg #[.int .i64 T, .slice A n cap, .slice A' N cap'], .func (.func g) #[] lb] w fun e w' =>
      e = .returned (.func (.func 76) #[] #[.pointer (some ⟨w.heap.size, 0, none⟩), .pointer (some ⟨w.heap.size + 1, 0, none⟩)]) ∧ w' = (w.alloc (.cells #[.int .i64 T, .slice A n cap, .slice A' N cap'] 79)).alloc (.cells #[.func (.func g) #[] lb] 100) := by
  go_enter Try.func73, Try.ntmps73
  go_wp2
  go_ret
  exact ⟨rfl, rfl⟩
end Go.Proofs.Ytiankphkemakeaa
