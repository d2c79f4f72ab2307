/- Stage 2: the pieces and lists of the statements; Works. -/
import Derived.Test.YtfmcfalghbaanaaRv32
import Derived.Test.YtfmcfalghbaanaaSame
import Derived.Test.YtfmcfalghbaanaaCkTop
namespace Go.Proofs.Ytfmcfalghbaanaa
set_option linter.unusedSimpArgs false
set_option linter.unusedVariables false
open Go.RowKit Go.Shelf

section
attribute [local go_sem] Oper.semAt_some
attribute [local go_sem ↓] exec_app
attribute [local go_sem ↓] at_app

def pcV (a b : Int) (l : Bool) : Array Value := #[.int .i64 a, .int .i64 a, .int .i64 0, .int .i64 b, .int .i64 b, .int .i64 0, .bool l]
def mkPc (a b : Int) (l : Bool) : Pc := ⟨⟨⟨a, a⟩, 0⟩, ⟨⟨b, b⟩, 0⟩, l⟩
/-- The pieces of the law's two cylinders. -/
def psD : List Pc := [mkPc 1 2 false, mkPc 2 2 false, mkPc 2 3 false]
def psC : List Pc := [mkPc 1 2 false, mkPc 2 2 false, mkPc 2 3 false, mkPc 2 2 true]
set_option maxRecDepth 100000 in
theorem piece64 (a b : Int) (l : Bool) (w : World) : Calls Try.prog 64 #[.int .i64 a, .int .i64 b, .bool l] w fun e w' => e = .returned (.agg #[.int .i64 a, .int .i64 a, .int .i64 0, .int .i64 b, .int .i64 b, .int .i64 0, .bool l]) ∧ Below w.heap.size w w' := by
  have hb := below_alloc_ w (.cells (pcV a b l) 62)
  have hn := heap_alloc_new_ w (.cells (pcV a b l) 62)
  have x0 : (w.alloc (.cells (pcV a b l) 62)).cell? ⟨w.heap.size, 0, none⟩ = some (.int .i64 a) := by rw [cell_row hn]; rfl
  have x1 : (w.alloc (.cells (pcV a b l) 62)).cell? ⟨w.heap.size, 1, none⟩ = some (.int .i64 a) := by rw [cell_row hn]; rfl
  have x2 : (w.alloc (.cells (pcV a b l) 62)).cell? ⟨w.heap.size, 2, none⟩ = some (.int .i64 0) := by rw [cell_row hn]; rfl
  have x3 : (w.alloc (.cells (pcV a b l) 62)).cell? ⟨w.heap.size, 3, none⟩ = some (.int .i64 b) := by rw [cell_row hn]; rfl
  have x4 : (w.alloc (.cells (pcV a b l) 62)).cell? ⟨w.heap.size, 4, none⟩ = some (.int .i64 b) := by rw [cell_row hn]; rfl
  have x5 : (w.alloc (.cells (pcV a b l) 62)).cell? ⟨w.heap.size, 5, none⟩ = some (.int .i64 0) := by rw [cell_row hn]; rfl
  have x6 : (w.alloc (.cells (pcV a b l) 62)).cell? ⟨w.heap.size, 6, none⟩ = some (.bool l) := by rw [cell_row hn]; rfl
  go_enter Try.func64, Try.ntmps64
  go_wp2_with fail
  refine bodyPost_ret (v := .agg #[.int .i64 a, .int .i64 a, .int .i64 0, .int .i64 b, .int .i64 b, .int .i64 0, .bool l]) (by simp [results, Try.results64, go_sem]) rfl ⟨rfl, hb⟩

set_option maxRecDepth 100000 in
set_option maxHeartbeats 4000000 in
theorem cracked39 (w : World) : Calls Try.prog 39 #[] w fun e w' => ∃ C, e = .returned (cyl C 4 4 0 0 0) ∧ Pcs w' C 4 psC ∧ (∀ b o, C = some ⟨b, o, none⟩ → w.heap.size ≤ b) ∧ Below w.heap.size w w' := by
  have HB0 := Lib.hid (below_alloc_ w (.cells #[Value.slice none 0 0, Value.int IntKind.i64 0, Value.int IntKind.i64 0, Value.int IntKind.i64 0] 26))
  have hz0 : (w.alloc (.cells #[Value.slice none 0 0, Value.int IntKind.i64 0, Value.int IntKind.i64 0, Value.int IntKind.i64 0] 26)).heap[w.heap.size]? = some (.cells #[Value.slice none 0 0, Value.int IntKind.i64 0, Value.int IntKind.i64 0, Value.int IntKind.i64 0] 26 (0, 0)) := heap_alloc_new_ w _
  have Hz0 := Lib.hid hz0
  clear hz0
  go_enter Try.func39, Try.ntmps39
  go_wp2_with fail
  refine (piece64 1 2 false _).mono ?_
  rintro e w1 ⟨rfl, hb1⟩
  go_wp2_with fail
  refine (piece64 2 2 false _).mono ?_
  rintro e w2 ⟨rfl, hb2⟩
  go_wp2_with fail
  refine (piece64 2 3 false _).mono ?_
  rintro e w3 ⟨rfl, hb3⟩
  go_wp2_with fail
  refine (piece64 2 2 true _).mono ?_
  rintro e w4 ⟨rfl, hb4⟩
  obtain ⟨V, hV⟩ : ∃ V, w4.alloc (.cells #[Value.int IntKind.i64 1, Value.int IntKind.i64 1, Value.int IntKind.i64 0, Value.int IntKind.i64 2, Value.int IntKind.i64 2, Value.int IntKind.i64 0, Value.bool false, Value.int IntKind.i64 2, Value.int IntKind.i64 2, Value.int IntKind.i64 0, Value.int IntKind.i64 2, Value.int IntKind.i64 2, Value.int IntKind.i64 0, Value.bool false, Value.int IntKind.i64 2, Value.int IntKind.i64 2, Value.int IntKind.i64 0, Value.int IntKind.i64 3, Value.int IntKind.i64 3, Value.int IntKind.i64 0, Value.bool false, Value.int IntKind.i64 2, Value.int IntKind.i64 2, Value.int IntKind.i64 0, Value.int IntKind.i64 2, Value.int IntKind.i64 2, Value.int IntKind.i64 0, Value.bool true] 62) = V := ⟨_, rfl⟩
  have hnew : V.heap[w4.heap.size]? = some (.cells #[Value.int IntKind.i64 1, Value.int IntKind.i64 1, Value.int IntKind.i64 0, Value.int IntKind.i64 2, Value.int IntKind.i64 2, Value.int IntKind.i64 0, Value.bool false, Value.int IntKind.i64 2, Value.int IntKind.i64 2, Value.int IntKind.i64 0, Value.int IntKind.i64 2, Value.int IntKind.i64 2, Value.int IntKind.i64 0, Value.bool false, Value.int IntKind.i64 2, Value.int IntKind.i64 2, Value.int IntKind.i64 0, Value.int IntKind.i64 3, Value.int IntKind.i64 3, Value.int IntKind.i64 0, Value.bool false, Value.int IntKind.i64 2, Value.int IntKind.i64 2, Value.int IntKind.i64 0, Value.int IntKind.i64 2, Value.int IntKind.i64 2, Value.int IntKind.i64 0, Value.bool true] 62 (0, 0)) := by rw [← hV]; exact heap_alloc_new_ w4 _
  have hb5 : Below w4.heap.size w4 V := by rw [← hV]; exact below_alloc_ w4 _
  have hB1 := hb1.trans (((hb2.trans (((hb3.trans (((hb4.trans (hb5.mono hb4.size)).mono hb3.size))).mono hb2.size))).mono hb1.size))
  have hlt := lt_of_block Hz0.out
  have hz : V.heap[w.heap.size]? = some (.cells #[Value.slice none 0 0, Value.int IntKind.i64 0, Value.int IntKind.i64 0, Value.int IntKind.i64 0] 26 (0, 0)) := (hB1.block _ hlt).trans Hz0.out
  have hle := hB1.size
  have c0 : V.cell? ⟨w.heap.size, 0, none⟩ = some (.slice none 0 0) := by rw [cell_row hz]; rfl
  have c1 : V.cell? ⟨w.heap.size, 1, none⟩ = some (.int .i64 0) := by rw [cell_row hz]; rfl
  have c2 : V.cell? ⟨w.heap.size, 2, none⟩ = some (.int .i64 0) := by rw [cell_row hz]; rfl
  have c3 : V.cell? ⟨w.heap.size, 3, none⟩ = some (.int .i64 0) := by rw [cell_row hz]; rfl
  have f0 : V.frozen? ⟨w.heap.size, 0, none⟩ = false := frozen_row hz
  have f1 : V.frozen? ⟨w.heap.size, 1, none⟩ = false := frozen_row hz
  have f2 : V.frozen? ⟨w.heap.size, 2, none⟩ = false := frozen_row hz
  have f3 : V.frozen? ⟨w.heap.size, 3, none⟩ = false := frozen_row hz
  have HB := Lib.hid hB1
  have Hnew := Lib.hid hnew
  have Hl4 := Lib.hid (show w.heap.size < w4.heap.size from Nat.lt_of_lt_of_le hlt (Nat.le_trans hb1.size (Nat.le_trans hb2.size (Nat.le_trans hb3.size hb4.size))))
  clear hb1 hb2 hb3 hb4 hb5 hB1 hnew hz hlt hle
  go_wp2_with fail
  clear hV
  obtain ⟨U, hU⟩ : ∃ U, (((V.setCell ⟨w.heap.size, 0, none⟩ (.slice (some ⟨w4.heap.size, 0, none⟩) 4 4)).setCell ⟨w.heap.size, 1, none⟩ (.int .i64 0)).setCell ⟨w.heap.size, 2, none⟩ (.int .i64 0)).setCell ⟨w.heap.size, 3, none⟩ (.int .i64 0) = U := ⟨_, rfl⟩
  have hK : Keeps (fun k => k = w.heap.size) V U := by
    rw [← hU]
    exact (((keeps_setCell _ _ _ _).trans (keeps_setCell _ _ _ _)).trans (keeps_setCell _ _ _ _)).trans (keeps_setCell _ _ _ _)
  have d0 : U.cell? ⟨w.heap.size, 0, none⟩ = some (.slice (some ⟨w4.heap.size, 0, none⟩) 4 4) := by rw [← hU]; simp [go_sem, c0, c1, c2, c3, f0, f1, f2, f3]
  have d1 : U.cell? ⟨w.heap.size, 1, none⟩ = some (.int .i64 0) := by rw [← hU]; simp [go_sem, c0, c1, c2, c3, f0, f1, f2, f3]
  have d2 : U.cell? ⟨w.heap.size, 2, none⟩ = some (.int .i64 0) := by rw [← hU]; simp [go_sem, c0, c1, c2, c3, f0, f1, f2, f3]
  have d3 : U.cell? ⟨w.heap.size, 3, none⟩ = some (.int .i64 0) := by rw [← hU]; simp [go_sem, c0, c1, c2, c3, f0, f1, f2, f3]
  rw [hU]
  clear hU c0 c1 c2 c3 f0 f1 f2 f3
  refine bodyPost_ret (v := cyl (some ⟨w4.heap.size, 0, none⟩) 4 4 0 0 0) (by unfold cyl; simp [results, Try.results39, go_sem, d0, d1, d2, d3]) rfl ⟨_, rfl, ?_, (fun b o e => by cases e; exact Nat.le_of_lt Hl4.out), ?_⟩
  · have hr := (hK.block _ (lt_of_block Hnew.out) (by have := Hl4.out; omega)).trans Hnew.out
    refine ⟨rfl, fun _ => ⟨_, 0, rfl, fun j hj => ?_⟩⟩
    simp only [cell_row hr]
    match j, hj with
    | 0, _ => exact ⟨rfl, rfl, rfl, rfl, rfl, rfl, rfl⟩
    | 1, _ => exact ⟨rfl, rfl, rfl, rfl, rfl, rfl, rfl⟩
    | 2, _ => exact ⟨rfl, rfl, rfl, rfl, rfl, rfl, rfl⟩
    | 3, _ => exact ⟨rfl, rfl, rfl, rfl, rfl, rfl, rfl⟩
  · refine (HB0.out.trans (HB.out.mono HB0.out.size)).trans (hK.below ?_ ?_)
    · exact (Nat.le_trans HB0.out.size HB.out.size)
    · intro k hk e; omega
end

section
attribute [local go_sem] Oper.semAt_some
attribute [local go_sem ↓] exec_app
attribute [local go_sem ↓] at_app

theorem field26_ (W : World) (C : Option Addr) : (Instr.field 26 (.agg #[.slice C 4 4, .int .i64 0, .int .i64 0, .int .i64 0]) 0).run Try.prog W = .ok (.slice C 4 4) W := by kernel_rfl
theorem slice22_ (W : World) (b o : Nat) : (Instr.sliceAt 22 (.slice (some ⟨b, o, none⟩) 4 4) none (some (.int .i64 3)) none).run Try.prog W = .ok (.slice (some ⟨b, o, none⟩) 3 4) W := by kernel_rfl
theorem Pcs.three {W : World} {C : Option Addr} (h : Pcs W C 4 psC) : Pcs W C 3 psD := by
  obtain ⟨b, o, e, hc⟩ := h.2 (by omega)
  refine ⟨rfl, fun _ => ⟨b, o, e, fun j hj => ?_⟩⟩
  have := hc j (by omega)
  match j, hj with
  | 0, _ => exact this
  | 1, _ => exact this
  | 2, _ => exact this
set_option maxRecDepth 100000 in
set_option maxHeartbeats 4000000 in
theorem whole40 (w : World) : Calls Try.prog 40 #[] w fun e w' => ∃ C, e = .returned (cyl C 3 4 0 0 0) ∧ Pcs w' C 3 psD ∧ Below w.heap.size w w' := by
  have HB0 := Lib.hid (below_alloc_ w (.cells #[Value.slice none 0 0, Value.int IntKind.i64 0, Value.int IntKind.i64 0, Value.int IntKind.i64 0] 26))
  have hz0 : (w.alloc (.cells #[Value.slice none 0 0, Value.int IntKind.i64 0, Value.int IntKind.i64 0, Value.int IntKind.i64 0] 26)).heap[w.heap.size]? = some (.cells #[Value.slice none 0 0, Value.int IntKind.i64 0, Value.int IntKind.i64 0, Value.int IntKind.i64 0] 26 (0, 0)) := heap_alloc_new_ w _
  have Hz0 := Lib.hid hz0
  clear hz0
  go_enter Try.func40, Try.ntmps40
  go_wp2_with fail
  refine (cracked39 _).mono ?_
  rintro e V ⟨C, rfl, hP, hnw, hb1⟩
  have hlt := lt_of_block Hz0.out
  have hz : V.heap[w.heap.size]? = some (.cells #[Value.slice none 0 0, Value.int IntKind.i64 0, Value.int IntKind.i64 0, Value.int IntKind.i64 0] 26 (0, 0)) := (hb1.block _ hlt).trans Hz0.out
  have c0 : V.cell? ⟨w.heap.size, 0, none⟩ = some (.slice none 0 0) := by rw [cell_row hz]; rfl
  have c1 : V.cell? ⟨w.heap.size, 1, none⟩ = some (.int .i64 0) := by rw [cell_row hz]; rfl
  have c2 : V.cell? ⟨w.heap.size, 2, none⟩ = some (.int .i64 0) := by rw [cell_row hz]; rfl
  have c3 : V.cell? ⟨w.heap.size, 3, none⟩ = some (.int .i64 0) := by rw [cell_row hz]; rfl
  have f0 : V.frozen? ⟨w.heap.size, 0, none⟩ = false := frozen_row hz
  have f1 : V.frozen? ⟨w.heap.size, 1, none⟩ = false := frozen_row hz
  have f2 : V.frozen? ⟨w.heap.size, 2, none⟩ = false := frozen_row hz
  have f3 : V.frozen? ⟨w.heap.size, 3, none⟩ = false := frozen_row hz
  have HB := Lib.hid hb1
  have HP := Lib.hid hP.three
  obtain ⟨b, o, rfl, -⟩ := hP.2 (by omega)
  have Hbw := Lib.hid (hnw b o rfl)
  clear hnw
  clear hb1 hz hlt hP
  have hfi := field26_ V (some ⟨b, o, none⟩)
  have hsl := slice22_ V b o
  unfold cyl
  go_wp2_with fail
  clear hfi hsl
  obtain ⟨U, hU⟩ : ∃ U, (((V.setCell ⟨w.heap.size, 0, none⟩ (.slice (some ⟨b, o, none⟩) 3 4)).setCell ⟨w.heap.size, 1, none⟩ (.int .i64 0)).setCell ⟨w.heap.size, 2, none⟩ (.int .i64 0)).setCell ⟨w.heap.size, 3, none⟩ (.int .i64 0) = U := ⟨_, rfl⟩
  have hK : Keeps (fun k => k = w.heap.size) V U := by
    rw [← hU]
    exact (((keeps_setCell _ _ _ _).trans (keeps_setCell _ _ _ _)).trans (keeps_setCell _ _ _ _)).trans (keeps_setCell _ _ _ _)
  have d0 : U.cell? ⟨w.heap.size, 0, none⟩ = some (.slice (some ⟨b, o, none⟩) 3 4) := by rw [← hU]; simp [go_sem, c0, c1, c2, c3, f0, f1, f2, f3]
  have d1 : U.cell? ⟨w.heap.size, 1, none⟩ = some (.int .i64 0) := by rw [← hU]; simp [go_sem, c0, c1, c2, c3, f0, f1, f2, f3]
  have d2 : U.cell? ⟨w.heap.size, 2, none⟩ = some (.int .i64 0) := by rw [← hU]; simp [go_sem, c0, c1, c2, c3, f0, f1, f2, f3]
  have d3 : U.cell? ⟨w.heap.size, 3, none⟩ = some (.int .i64 0) := by rw [← hU]; simp [go_sem, c0, c1, c2, c3, f0, f1, f2, f3]
  rw [hU]
  clear hU c0 c1 c2 c3 f0 f1 f2 f3
  refine bodyPost_ret (v := cyl (some ⟨b, o, none⟩) 3 4 0 0 0) (by unfold cyl; simp [results, Try.results40, go_sem, d0, d1, d2, d3]) rfl ⟨_, rfl, ?_, ?_⟩
  · exact HP.out.keep hK (fun k o' e h => by have := Hbw.out; simp at this; cases h; omega)
  · refine (HB0.out.trans (HB.out.mono HB0.out.size)).trans (hK.below ?_ ?_)
    · exact (Nat.le_trans HB0.out.size HB.out.size)
    · intro k hk e; omega

set_option maxRecDepth 100000 in
set_option maxHeartbeats 4000000 in
theorem on41 (A : Option Addr) (n cap : Nat) (l : List Nat) (w : World) (hl : l.length = n) (hn : n ≤ 1000) (h : 0 < n → ∃ b o, A = some ⟨b, o, none⟩ ∧ ∀ j, j < n → w.cell? ⟨b, o + j, none⟩ = some (.int .i64 ((l.getD j 0 : Nat) : Int))) :
    Calls Try.prog 41 #[.slice A n cap] w fun e w' => ∃ C cp, e = .returned (.slice C n cp) ∧ n ≤ cp ∧ Sts w' C n (l.map fun p : Nat => (⟨(p : Int), false⟩ : St)) ∧ Below w.heap.size w w' := by
  go_enter Try.func41, Try.ntmps41
  go_wp2_with fail
  go_loopw [3, 4] (fun v i wr => ∃ k : Nat, k ≤ n ∧ i = .int .i64 (k : Int) ∧ wr.ownsRow 0 28 2 v k (flatS ((l.take k).map (2 * ·))) ∧ (∀ b, v.ownBlock = some b → w.heap.size ≤ b) ∧ Below w.heap.size w wr) (fun v i _ => n - (intOf i).toNat)
  case atStart => exact ⟨0, Nat.zero_le _, rfl, own_nil _ _ _, fun b hb => (by cases hb), Below.refl _ _⟩
  case round =>
    obtain ⟨k, hk, rfl, hown, hob, hB⟩ := hrel
    have HB := Lib.hid hB
    by_cases hlt : k < n
    · obtain ⟨b, o, rfl, hc⟩ := h (by omega)
      have hblt := lt_of_cell (hc 0 (by omega))
      have e0 : wr.cell? ⟨b, o + k, none⟩ = some (.int .i64 ((l.getD k 0 : Nat) : Int)) := (hB.cell (p := ⟨b, o + k, none⟩) (by simp; omega)).trans (hc k hlt)
      obtain ⟨p, hp⟩ : ∃ p, l.getD k 0 = p := ⟨_, rfl⟩
      rw [hp] at e0
      have i0 : (0 : Int) ≤ (k : Int) := by omega
      have i1 : (k : Int) < (n : Int) := by omega
      obtain ⟨v', W', hap, hown', hK, hv'⟩ := app_one Try.underlying29 info28_ rfl (by omega) (by omega) (own_keep hown (Keeps.of_new (Mut := fun _ => False) (below_alloc_ wr (.cells #[.int .i64 (p : Int), .bool false] 28))) (fun _ _ e => e)) (vals := [.int .i64 (p : Int), .bool false]) rfl (heap_alloc_new_ wr _) (by simp [Value.oneCell']) (by omega)
      have hrun := run_app hap
      have HBW : Below w.heap.size w W' := hB.trans (((below_alloc_ wr _).mono hB.size).trans (hK.below (by have := hB.size; simp; omega) (fun k hk e => by have := hob _ e; omega)))
      have Hown := Lib.hid hown'
      have Hob := Lib.hid (show ∀ b, v'.ownBlock = some b → w.heap.size ≤ b from fun b hb => by
        rcases hv' with hv' | ⟨hv', _⟩
        · exact hob _ (hv' ▸ hb)
        · rw [hv'] at hb
          have := hB.size
          cases hb
          simp
          omega)
      have HBW := Lib.hid HBW
      have Htake := Lib.hid (show flatS ((l.take k).map (2 * ·)) ++ [.int .i64 (p : Int), .bool false] = flatS ((l.take (k + 1)).map (2 * ·)) from by
        have hkl : k < l.length := by omega
        rw [List.take_succ_eq_append_getElem hkl, List.map_append]
        have : l[k] = p := by rw [← hp]; simp [hkl]
        rw [this]
        unfold flatS
        rw [List.flatMap_append, ← cellS_of (t := false) rfl]
        simp)
      clear hown hown' hob hB hK hv' hc h hp hap
      go_wp2_with fail
      refine ⟨⟨k + 1, by omega, by go_num, ?_, Hob.out, HBW.out⟩, by simp [intOf]; omega⟩
      rw [← Htake.out]
      exact Hown.out
    · obtain rfl : k = n := by omega
      have hL : ((l.take k).map (2 * ·)).length = k := by simp; omega
      have hown2 : wr.ownsRow 0 28 2 u3 ((l.take k).map (2 * ·)).length (flatS ((l.take k).map (2 * ·))) := by rw [hL]; exact hown
      obtain ⟨C, cp, rfl, hcp, hS⟩ := sts_own hown2
      rw [hL] at hS hcp ⊢
      clear hown2
      have HS := Lib.hid (show Sts wr C k (l.map fun p : Nat => (⟨(p : Int), false⟩ : St)) from by
        have : ((l.take k).map (2 * ·)).map stC = l.map fun p : Nat => (⟨(p : Int), false⟩ : St) := by
          rw [List.take_of_length_le (by omega), List.map_map]
          refine List.map_congr_left fun p _ => ?_
          simp only [Function.comp, stC]
          rw [show 2 * p / 2 = p by omega, decide_eq_false (by omega)]
        rw [← this]; exact hS)
      have i1 : ¬ (k : Int) < (k : Int) := by omega
      have Hcp := Lib.hid hcp
      clear hown hL hS hob hB hlt h hcp
      go_wp2_with fail
      refine bodyPost_ret (v := .slice C k cp) (by simp [results, Try.results41, go_sem]) rfl ⟨C, cp, rfl, Hcp.out, HS.out, HB.out⟩

theorem flatP_at (l : List (Nat × Nat)) (j : Nat) (h : j < l.length) : (flatP l)[j * 4]? = some (.int .i64 ((l[j].1 / 2 : Nat) : Int)) ∧ (flatP l)[j * 4 + 1]? = some (.bool (decide (l[j].1 % 2 = 1))) ∧ (flatP l)[j * 4 + 2]? = some (.int .i64 ((l[j].2 / 2 : Nat) : Int)) ∧ (flatP l)[j * 4 + 3]? = some (.bool (decide (l[j].2 % 2 = 1))) := by
  induction l generalizing j with
  | nil => simp at h
  | cons x l ih =>
    cases j with
    | zero => simp [flatP, cellP, cellS]
    | succ j =>
      have := ih j (by simpa using h)
      rw [show (j + 1) * 4 = j * 4 + 1 + 1 + 1 + 1 by omega]
      simp only [flatP, cellP, cellS, List.flatMap_cons, List.cons_append, List.nil_append, List.getElem?_cons_succ, List.getElem_cons_succ] at this ⊢
      exact this
theorem Prs.below {w w' : World} {A : Option Addr} {n B : Nat} {l : List (Nat × Nat)} (h : Prs w A n l) (hb : Below B w w') (hB : w.heap.size ≤ B) : Prs w' A n l := by
  refine ⟨h.1, fun hn => ?_⟩
  obtain ⟨b, o, e, hc⟩ := h.2 hn
  have hl : b < w.heap.size := by
    have hl := h.1
    have h0 := (flatP_at l 0 (by omega)).1
    rw [Nat.zero_mul] at h0
    exact lt_of_cell ((hc 0 (by omega)).trans h0)
  exact ⟨b, o, e, fun j hj => (hb.cell (p := ⟨b, o + j, none⟩) (by simp; omega)).trans (hc j hj)⟩

set_option maxRecDepth 100000 in
set_option maxHeartbeats 2000000 in
theorem pairs34 (A C : Option Addr) (n cap capm : Nat) (l : List (Nat × Nat)) (w : World) (h : Prs w A n l) (h2 : Prs w C n l) (hn : n ≤ 1000000) :
    Calls Try.prog 34 #[.slice A n cap, .slice C n capm] w fun e w' => e = .returned (.bool true) ∧ Below w.heap.size w w' := by
  have Hl := Lib.hid h.1
  have d1 : ((n : Int) != (n : Int)) = false := by simp
  go_enter Try.func34, Try.ntmps34
  go_wp2_with fail
  go_loopw [5] (fun i wr => ∃ k : Nat, k ≤ n ∧ i = .int .i64 (k : Int) ∧ Below w.heap.size w wr) (fun i _ => n - (intOf i).toNat)
  case atStart => exact ⟨0, Nat.zero_le _, rfl, Below.refl _ _⟩
  case round =>
    obtain ⟨k, hk, rfl, hB⟩ := hrel
    have HB := Lib.hid hB
    by_cases hlt : k < n
    · have hx := h.below hB (Nat.le_refl _)
      have hy := h2.below hB (Nat.le_refl _)
      obtain ⟨b, o, rfl, hc⟩ := hx.2 (by omega)
      obtain ⟨b2, o2, rfl, hc2⟩ := hy.2 (by omega)
      obtain ⟨q0, q1, q2, q3⟩ := flatP_at l k (by have := Hl.out; omega)
      have e0 : wr.cell? ⟨b, o + k * 4, none⟩ = _ := (hc (k * 4) (by omega)).trans q0
      have e1 : wr.cell? ⟨b, o + k * 4 + 1, none⟩ = _ := (hc (k * 4 + 1) (by omega)).trans q1
      have e2 : wr.cell? ⟨b, o + k * 4 + 2, none⟩ = _ := (hc (k * 4 + 2) (by omega)).trans q2
      have e3 : wr.cell? ⟨b, o + k * 4 + 3, none⟩ = _ := (hc (k * 4 + 3) (by omega)).trans q3
      have e4 : wr.cell? ⟨b2, o2 + k * 4, none⟩ = _ := (hc2 (k * 4) (by omega)).trans q0
      have e5 : wr.cell? ⟨b2, o2 + k * 4 + 1, none⟩ = _ := (hc2 (k * 4 + 1) (by omega)).trans q1
      have e6 : wr.cell? ⟨b2, o2 + k * 4 + 2, none⟩ = _ := (hc2 (k * 4 + 2) (by omega)).trans q2
      have e7 : wr.cell? ⟨b2, o2 + k * 4 + 3, none⟩ = _ := (hc2 (k * 4 + 3) (by omega)).trans q3
      have i0 : (0 : Int) ≤ (k : Int) := by omega
      have i1 : (k : Int) < (n : Int) := by omega
      have HBd := Lib.hid (show ∀ q, Below w.heap.size w (wr.drewN q) from fun q => hB.trans ((drew_b wr q).mono hB.size))
      generalize ((l[k]'(by have := Hl.out; omega)).1 / 2 : Nat) = x0 at e0 e4
      generalize decide ((l[k]'(by have := Hl.out; omega)).1 % 2 = 1) = x1 at e1 e5
      generalize ((l[k]'(by have := Hl.out; omega)).2 / 2 : Nat) = x2 at e2 e6
      generalize decide ((l[k]'(by have := Hl.out; omega)).2 % 2 = 1) = x3 at e3 e7
      clear hc hc2 hx hy hB h h2 q0 q1 q2 q3
      go_wp2_with fail
      go_quiet (fail)
      go_wp2_with fail
      go_roundw
      case rel => exact ⟨k + 1, by omega, by go_num, HBd.out _⟩
      case measure => simp [intOf]; omega
    · go_wp2_with fail
      go_ret
      exact ⟨rfl, HB.out⟩
end

section
attribute [local go_sem] Oper.semAt_some

def cC : Cy := ⟨psC, 0, ⟨0, 0⟩⟩
def cD : Cy := ⟨psD, 0, ⟨0, 0⟩⟩
set_option maxRecDepth 100000
theorem v1 : countR cC = (4, 0) := by decide +kernel
theorem v2 : nthR cC 1 = ([⟨0, false⟩, ⟨1, false⟩, ⟨3, true⟩, ⟨2, false⟩], 0) := by decide +kernel
theorem v3 : rankR cC [⟨0, false⟩, ⟨3, false⟩, ⟨1, false⟩, ⟨2, false⟩] = (2, 0) := by decide +kernel
theorem v4 : onlyR cC = ([], 6) := by decide +kernel
theorem v5 : onlyR cD = ([⟨0, false⟩, ⟨1, false⟩, ⟨2, false⟩], 0) := by decide +kernel
theorem v6 : passR cC = ([], 0) := by decide +kernel
theorem v7 : passR cD = ([(0, 2), (2, 4)], 0) := by decide +kernel
theorem v8 : rivR cC ⟨1, false⟩ = ([4, 6, 7], 0) := by decide +kernel
theorem v9 : fitsR cD ⟨0, false⟩ ⟨2, false⟩ = (true, 0) := by decide +kernel
theorem v10 : ckJoin cC [⟨0, false⟩, ⟨2, false⟩, ⟨1, false⟩, ⟨3, false⟩] = 18 := by decide +kernel

/-- The law's two cylinders lie in memory. -/
structure Gd (w : World) (B : Nat) (C D : Option Addr) (W : World) : Prop where
  below : Below w.heap.size w W
  r1 : W.heap[B]? = some (.cells #[.slice C 4 4, .int .i64 0, .int .i64 0, .int .i64 0] 26 (0, 0))
  r2 : W.heap[B + 1]? = some (.cells #[.slice D 3 4, .int .i64 0, .int .i64 0, .int .i64 0] 26 (0, 0))
  p1 : Pcs W C 4 psC
  p2 : Pcs W D 3 psD
theorem Gd.next {w : World} {B : Nat} {C D : Option Addr} {W W' : World} (h : Gd w B C D W) (hb : Below W.heap.size W W') : Gd w B C D W' :=
  ⟨h.below.trans (hb.mono h.below.size), (hb.block _ (lt_of_block h.r1)).trans h.r1, (hb.block _ (lt_of_block h.r2)).trans h.r2, h.p1.below hb (Nat.le_refl _), h.p2.below hb (Nat.le_refl _)⟩
theorem Gd.c {w : World} {B : Nat} {C D : Option Addr} {W : World} (h : Gd w B C D W) :
    W.cell? ⟨B, 0, none⟩ = some (.slice C 4 4) ∧ W.cell? ⟨B, 1, none⟩ = some (.int .i64 0) ∧ W.cell? ⟨B, 2, none⟩ = some (.int .i64 0) ∧ W.cell? ⟨B, 3, none⟩ = some (.int .i64 0) ∧
    W.cell? ⟨B + 1, 0, none⟩ = some (.slice D 3 4) ∧ W.cell? ⟨B + 1, 1, none⟩ = some (.int .i64 0) ∧ W.cell? ⟨B + 1, 2, none⟩ = some (.int .i64 0) ∧ W.cell? ⟨B + 1, 3, none⟩ = some (.int .i64 0) :=
  ⟨by rw [cell_row h.r1]; rfl, by rw [cell_row h.r1]; rfl, by rw [cell_row h.r1]; rfl, by rw [cell_row h.r1]; rfl, by rw [cell_row h.r2]; rfl, by rw [cell_row h.r2]; rfl, by rw [cell_row h.r2]; rfl, by rw [cell_row h.r2]; rfl⟩
theorem Gd.new {w w2 : World} {C D : Option Addr} (hb : Below w.heap.size w w2) (hP : Pcs w2 C 4 psC) (hP2 : Pcs w2 D 3 psD) :
    Gd w w2.heap.size C D ((w2.alloc (.cells #[.slice C 4 4, .int .i64 0, .int .i64 0, .int .i64 0] 26)).alloc (.cells #[.slice D 3 4, .int .i64 0, .int .i64 0, .int .i64 0] 26)) := by
  have h1 := below_alloc_ w2 (.cells #[.slice C 4 4, .int .i64 0, .int .i64 0, .int .i64 0] 26)
  have h2 := below_alloc_ (w2.alloc (.cells #[.slice C 4 4, .int .i64 0, .int .i64 0, .int .i64 0] 26)) (.cells #[.slice D 3 4, .int .i64 0, .int .i64 0, .int .i64 0] 26)
  have h12 := h1.trans (h2.mono h1.size)
  refine ⟨hb.trans (h12.mono hb.size), ?_, ?_, hP.below h12 (Nat.le_refl _), hP2.below h12 (Nat.le_refl _)⟩
  · exact (h2.block _ (by simp)).trans (heap_alloc_new_ w2 _)
  · have := heap_alloc_new_ (w2.alloc (.cells #[.slice C 4 4, .int .i64 0, .int .i64 0, .int .i64 0] 26)) (.cells #[.slice D 3 4, .int .i64 0, .int .i64 0, .int .i64 0] 26)
    simpa using this

theorem same29_eq (A C : Option Addr) (n cap capm : Nat) (xs : List St) (w : World) (h : Sts w A n xs) (h2 : Sts w C n xs) (hn : n ≤ 1000000) :
    Calls Try.prog 29 #[.slice A n cap, .slice C n capm] w fun e w' => e = .returned (.bool true) ∧ Below w.heap.size w w' :=
  (same29 A C n cap n capm xs xs w h h2 hn hn).mono fun e w' ⟨h1, h3⟩ => ⟨by rw [h1, decide_eq_true rfl], h3⟩
set_option maxHeartbeats 4000000 in
theorem works13 (w : World) : Calls Try.prog 13 #[] w fun e w' => e = .returned (.bool true) ∧ Below w.heap.size w w' := by
  refine (callsIn_wide (n := 5)).1 ?_
  refine callsIn_of_wp Try.func13 rfl trivial ?_ rfl
  simp only [Try.ntmps13, List.size_toArray, List.length_cons, List.length_nil, Nat.reduceAdd, Nat.reduceSub, Array.replicate_succ, Array.replicate_zero, List.push_toArray, List.append_toArray, List.nil_append, List.cons_append]
  gi_wp2_with fail
  refine ⟨trivial, (callsIn_wide.2 (cracked39 _)).mono ?_⟩
  rintro e w1 ⟨C, rfl, hP, -, hb1⟩
  gi_wp2_with fail
  refine ⟨trivial, (callsIn_wide.2 (whole40 _)).mono ?_⟩
  rintro e w2 ⟨D, rfl, hP2, hb2⟩
  unfold cyl
  have hg0 := Gd.new (hb1.trans (hb2.mono hb1.size)) (hP.below hb2 (Nat.le_refl _)) hP2
  have G := Lib.hid hg0
  clear hP hP2 hb1 hb2 hg0
  gi_wp2_with fail
  generalize ((w2.alloc (.cells #[.slice C 4 4, .int .i64 0, .int .i64 0, .int .i64 0] 26)).alloc (.cells #[.slice D 3 4, .int .i64 0, .int .i64 0, .int .i64 0] 26)) = V0 at G ⊢
  generalize w2.heap.size = B at G ⊢
  refine ⟨trivial, (callsIn_wide.2 (count21 C 4 4 0 0 0 psC _ G.out.p1 (by omega))).mono ?_⟩
  rintro e V1 ⟨rfl, hb⟩
  rw [show (⟨psC, 0, ⟨0, 0⟩⟩ : Cy) = cC from rfl, v1]
  replace G := Lib.hid (G.out.next hb)
  clear hb
  obtain ⟨c0, c1, c2, c3, c4, c5, c6, c7⟩ := G.out.c
  gi_wp2_with fail
  refine ⟨trivial, (callsIn_wide.2 (nth23 C 4 4 0 0 0 1 psC _ G.out.p1 (by omega))).mono ?_⟩
  rintro e V2 ⟨C2, m2, rfl, hs, hb⟩
  rw [show (⟨psC, 0, ⟨0, 0⟩⟩ : Cy) = cC from rfl, v2] at hs ⊢
  have S2 := Lib.hid hs
  replace G := Lib.hid (G.out.next hb)
  clear hs hb c0 c1 c2 c3 c4 c5 c6 c7
  gi_wp2_with fail
  rename_i K0 hK0
  have HK0 := Lib.hid hK0
  clear hK0
  refine Code.wpIn_mono (Q := Exit.then K0 (fun _ _ _ => False)) (fun e a w h => by
    cases e with
    | normal => exact h
    | ret => exact h.elim
    | exit id => exact h.elim
    | goto l => exact h.elim
    | panic c => exact h.elim
    | outgrown => exact h.elim) ?_
  refine Out.region_R (z := 3) (S := Gd w B C D) (by kernel_rfl) ?_
  obtain ⟨W1, hW1⟩ : ∃ W1, V2.drew = W1 := ⟨_, rfl⟩
  have hbd : Below V2.heap.size V2 W1 := by rw [← hW1]; exact drew_b V2 1
  rw [hW1]
  clear hW1
  replace G := Lib.hid (G.out.next hbd)
  replace S2 := Lib.hid (S2.out.below hbd (Nat.le_refl _))
  clear hbd
  refine Out.anyR_take (i := 0) (oi := { dst := some 37, op := Op.load 26 (Operand.tmp 1), type := 26, pos := "law.go:37", after := #[], guard := none }) (v := .agg #[.slice C 4 4, .int .i64 0, .int .i64 0, .int .i64 0]) rfl (by decide) (by kernel_rfl) (by kernel_rfl) (by kernel_rfl) (by kernel_rfl) (fun _ _ _ h => h) (Or.inl ⟨by rfl, by intro W' hSw; obtain ⟨c0, c1, c2, c3, c4, c5, c6, c7⟩ := hSw.c; go_simp⟩) G.out ?_
  simp only [Act.put, List.setIfInBounds_toArray, List.set_cons_zero, List.set_cons_succ]
  refine Out.anyR_one (i := 1) (by kernel_rfl) rfl (by rfl) ?_
  intro K hK
  have HKK := Lib.hid hK
  clear hK
  go_simp
  have hba := below_alloc_ W1 (.cells #[.int .i64 0, .int .i64 3, .int .i64 1, .int .i64 2] 3)
  have hna := heap_alloc_new_ W1 (.cells #[.int .i64 0, .int .i64 3, .int .i64 1, .int .i64 2] 3)
  replace G := Lib.hid (G.out.next hba)
  replace S2 := Lib.hid (S2.out.below hba (Nat.le_refl _))
  clear hba
  refine HKK.out _ _ (fun _ _ => G.out) ?_
  clear HKK K
  refine Out.anyR_one (i := 2) (by kernel_rfl) rfl (by rfl) ?_
  intro K hK
  have HKK := Lib.hid hK
  clear hK
  go_simp
  refine ⟨trivial, (callsIn_wide.2 (on41 (some ⟨W1.heap.size, 0, none⟩) 4 4 [0, 3, 1, 2] _ rfl (by omega) (fun _ => ⟨_, 0, rfl, fun j hj => by
    rw [cell_row hna]
    match j, hj with
    | 0, _ => rfl
    | 1, _ => rfl
    | 2, _ => rfl
    | 3, _ => rfl⟩))).mono ?_⟩
  rintro e W2 ⟨C9, cp9, rfl, hcp, hS9, hbo⟩
  clear hna
  replace G := Lib.hid (G.out.next hbo)
  replace S2 := Lib.hid (S2.out.below hbo (Nat.le_refl _))
  clear hbo
  refine HKK.out _ _ (fun _ _ => G.out) ?_
  clear HKK K
  refine Out.anyR_one (i := 3) (by kernel_rfl) rfl (by rfl) ?_
  intro K hK
  have HKK := Lib.hid hK
  clear hK
  go_simp
  refine ⟨trivial, (callsIn_wide.2 (rank25 C C9 4 4 4 cp9 0 0 0 psC _ W2 G.out.p1 hS9 (by omega) (by omega) hcp)).mono ?_⟩
  rintro e V4 ⟨rfl, hbr⟩
  rw [show (⟨psC, 0, ⟨0, 0⟩⟩ : Cy) = cC from rfl, show ([0, 3, 1, 2].map fun p : Nat => (⟨(p : Int), false⟩ : St)) = [⟨0, false⟩, ⟨3, false⟩, ⟨1, false⟩, ⟨2, false⟩] from rfl, v3]
  replace G := Lib.hid (G.out.next hbr)
  replace S2 := Lib.hid (S2.out.below hbr (Nat.le_refl _))
  clear hbr hcp hS9
  refine HKK.out _ _ (fun e => absurd rfl e) ?_
  clear HKK K
  refine Out.anyR_free (i := 4) (oi := { dst := some 36, op := Op.move (Operand.tmp 40), type := 38, pos := "law.go:37", after := #[{ on := 3, ground := Ground.data }], guard := none }) (v := .tuple #[.int .i64 2, .int .i64 0]) rfl (by decide) (by kernel_rfl) (by kernel_rfl) (by kernel_rfl) (fun _ _ _ h => h) (Or.inl ⟨by rfl, by intro W' hSw; go_simp⟩) G.out ?_
  simp only [Act.put, List.setIfInBounds_toArray, List.set_cons_zero, List.set_cons_succ]
  refine Out.anyR_free (i := 5) (oi := { dst := some 41, op := Op.extract (Operand.tmp 36) 0, type := 2, pos := "law.go:37", after := #[{ on := 4, ground := Ground.data }], guard := none }) (v := .int .i64 2) rfl (by decide) (by kernel_rfl) (by kernel_rfl) (by kernel_rfl) (fun _ _ _ h => h) (Or.inl ⟨by rfl, by intro W' hSw; go_simp⟩) G.out ?_
  simp only [Act.put, List.setIfInBounds_toArray, List.set_cons_zero, List.set_cons_succ]
  refine Out.anyR_free (i := 6) (oi := { dst := some 42, op := Op.extract (Operand.tmp 36) 1, type := 31, pos := "law.go:37", after := #[{ on := 4, ground := Ground.data }, { on := 7, ground := Ground.gcOnly Departure.lateStores }], guard := none }) (v := .int .i64 0) rfl (by decide) (by kernel_rfl) (by kernel_rfl) (by kernel_rfl) (fun _ _ _ h => h) (Or.inl ⟨by rfl, by intro W' hSw; go_simp⟩) G.out ?_
  simp only [Act.put, List.setIfInBounds_toArray, List.set_cons_zero, List.set_cons_succ]
  refine Out.anyR_free (i := 7) (oi := { dst := some 7, op := Op.assign (Operand.tmp 41), type := 2, pos := "law.go:37", after := #[{ on := 5, ground := Ground.data }, { on := 3, ground := Ground.chain }, { on := 0, ground := Ground.phase }, { on := 1, ground := Ground.phase }, { on := 2, ground := Ground.phase }, { on := 3, ground := Ground.phase }, { on := 4, ground := Ground.phase }, { on := 5, ground := Ground.phase }, { on := 6, ground := Ground.textOnly Departure.lateStores }], guard := none }) (v := .int .i64 2) rfl (by decide) (by kernel_rfl) (by kernel_rfl) (by kernel_rfl) (fun _ _ _ h => h) (Or.inl ⟨by rfl, by intro W' hSw; go_simp⟩) G.out ?_
  simp only [Act.put, List.setIfInBounds_toArray, List.set_cons_zero, List.set_cons_succ]
  refine Out.anyR_free (i := 8) (oi := { dst := some 8, op := Op.assign (Operand.tmp 42), type := 31, pos := "law.go:37", after := #[{ on := 6, ground := Ground.data }, { on := 7, ground := Ground.chain }, { on := 0, ground := Ground.phase }, { on := 1, ground := Ground.phase }, { on := 2, ground := Ground.phase }, { on := 3, ground := Ground.phase }, { on := 4, ground := Ground.phase }, { on := 5, ground := Ground.phase }, { on := 6, ground := Ground.phase }, { on := 7, ground := Ground.phase }], guard := none }) (v := .int .i64 0) rfl (by decide) (by kernel_rfl) (by kernel_rfl) (by kernel_rfl) (fun _ _ _ h => h) (Or.inl ⟨by rfl, by intro W' hSw; go_simp⟩) G.out ?_
  simp only [Act.put, List.setIfInBounds_toArray, List.set_cons_zero, List.set_cons_succ]
  refine Out.anyR_done (by kernel_rfl) ?_ _
  refine HK0.out _ _ ?_
  clear HK0 K0
  obtain ⟨c0, c1, c2, c3, c4, c5, c6, c7⟩ := G.out.c
  gi_wp2_with fail
  refine ⟨trivial, (callsIn_wide.2 (only27 C 4 4 0 0 0 psC _ G.out.p1 (by omega))).mono ?_⟩
  rintro e V5 ⟨C5, m5, rfl, hs, hb⟩
  rw [show (⟨psC, 0, ⟨0, 0⟩⟩ : Cy) = cC from rfl, v4] at hs ⊢
  replace S2 := Lib.hid (S2.out.below hb (Nat.le_refl _))
  replace G := Lib.hid (G.out.next hb)
  clear hs
  clear hb
  clear c0 c1 c2 c3 c4 c5 c6 c7
  obtain ⟨c0, c1, c2, c3, c4, c5, c6, c7⟩ := G.out.c
  gi_wp2_with fail
  refine ⟨trivial, (callsIn_wide.2 (only27 D 3 4 0 0 0 psD _ G.out.p2 (by omega))).mono ?_⟩
  rintro e V6 ⟨C6, m6, rfl, hs, hb⟩
  rw [show (⟨psD, 0, ⟨0, 0⟩⟩ : Cy) = cD from rfl, v5] at hs ⊢
  replace S2 := Lib.hid (S2.out.below hb (Nat.le_refl _))
  replace G := Lib.hid (G.out.next hb)
  obtain rfl : 3 = m6 := hs.1
  have S6 := Lib.hid hs
  clear hs
  clear hb
  clear c0 c1 c2 c3 c4 c5 c6 c7
  obtain ⟨c0, c1, c2, c3, c4, c5, c6, c7⟩ := G.out.c
  gi_wp2_with fail
  refine ⟨trivial, (callsIn_wide.2 (pass30 C 4 4 0 0 0 psC _ G.out.p1 (by omega))).mono ?_⟩
  rintro e V7 ⟨C7, m7, cp7, rfl, hcp, hs, hb⟩
  rw [show (⟨psC, 0, ⟨0, 0⟩⟩ : Cy) = cC from rfl, v6] at hs ⊢
  replace S2 := Lib.hid (S2.out.below hb (Nat.le_refl _))
  replace S6 := Lib.hid (S6.out.below hb (Nat.le_refl _))
  replace G := Lib.hid (G.out.next hb)
  obtain rfl : 0 = m7 := hs.1
  clear hs hcp
  clear hb
  clear c0 c1 c2 c3 c4 c5 c6 c7
  obtain ⟨c0, c1, c2, c3, c4, c5, c6, c7⟩ := G.out.c
  gi_wp2_with fail
  refine ⟨trivial, (callsIn_wide.2 (pass30 D 3 4 0 0 0 psD _ G.out.p2 (by omega))).mono ?_⟩
  rintro e V8 ⟨C8, m8, cp8, rfl, hcp, hs, hb⟩
  rw [show (⟨psD, 0, ⟨0, 0⟩⟩ : Cy) = cD from rfl, v7] at hs ⊢
  replace S2 := Lib.hid (S2.out.below hb (Nat.le_refl _))
  replace S6 := Lib.hid (S6.out.below hb (Nat.le_refl _))
  replace G := Lib.hid (G.out.next hb)
  obtain rfl : 2 = m8 := hs.1
  have S8 := Lib.hid hs
  clear hs hcp
  clear hb
  clear c0 c1 c2 c3 c4 c5 c6 c7
  obtain ⟨c0, c1, c2, c3, c4, c5, c6, c7⟩ := G.out.c
  gi_wp2_with fail
  refine ⟨trivial, (callsIn_wide.2 (riv32 C 4 4 0 0 0 1 false psC _ G.out.p1 (by omega))).mono ?_⟩
  rintro e V9 ⟨C9', m9, cp9', rfl, hcp, hs, hb⟩
  rw [show (⟨psC, 0, ⟨0, 0⟩⟩ : Cy) = cC from rfl, v8] at hs ⊢
  replace S2 := Lib.hid (S2.out.below hb (Nat.le_refl _))
  replace S6 := Lib.hid (S6.out.below hb (Nat.le_refl _))
  replace S8 := Lib.hid (S8.out.below hb (Nat.le_refl _))
  replace G := Lib.hid (G.out.next hb)
  obtain rfl : 3 = m9 := hs.1
  have S9 := Lib.hid hs
  clear hs hcp
  clear hb
  clear c0 c1 c2 c3 c4 c5 c6 c7
  obtain ⟨c0, c1, c2, c3, c4, c5, c6, c7⟩ := G.out.c
  gi_wp2_with fail
  refine ⟨trivial, (callsIn_wide.2 (fits14 D 3 4 0 0 0 0 2 false false psD _ G.out.p2 (by omega))).mono ?_⟩
  rintro e V10 ⟨rfl, hb⟩
  rw [show (⟨psD, 0, ⟨0, 0⟩⟩ : Cy) = cD from rfl, v9]
  replace S2 := Lib.hid (S2.out.below hb (Nat.le_refl _))
  replace S6 := Lib.hid (S6.out.below hb (Nat.le_refl _))
  replace S8 := Lib.hid (S8.out.below hb (Nat.le_refl _))
  replace S9 := Lib.hid (S9.out.below hb (Nat.le_refl _))
  replace G := Lib.hid (G.out.next hb)
  clear hb
  clear c0 c1 c2 c3 c4 c5 c6 c7
  gi_wp2_with fail
  rename_i K0 hK0
  have HK0 := Lib.hid hK0
  clear hK0
  refine Code.wpIn_mono (Q := Exit.then K0 (fun _ _ _ => False)) (fun e a w h => by
    cases e with
    | normal => exact h
    | ret => exact h.elim
    | exit id => exact h.elim
    | goto l => exact h.elim
    | panic c => exact h.elim
    | outgrown => exact h.elim) ?_
  refine Out.region_R (z := 3) (S := Gd w B C D) (by kernel_rfl) ?_
  obtain ⟨W1, hW1⟩ : ∃ W1, V10.drew = W1 := ⟨_, rfl⟩
  have hbd : Below V10.heap.size V10 W1 := by rw [← hW1]; exact drew_b V10 1
  rw [hW1]
  clear hW1
  replace G := Lib.hid (G.out.next hbd)
  replace S2 := Lib.hid (S2.out.below hbd (Nat.le_refl _))
  replace S6 := Lib.hid (S6.out.below hbd (Nat.le_refl _))
  replace S8 := Lib.hid (S8.out.below hbd (Nat.le_refl _))
  replace S9 := Lib.hid (S9.out.below hbd (Nat.le_refl _))
  clear hbd
  refine Out.anyR_take (i := 0) (oi := { dst := some 76, op := Op.load 26 (Operand.tmp 1), type := 26, pos := "law.go:44", after := #[], guard := none }) (v := .agg #[.slice C 4 4, .int .i64 0, .int .i64 0, .int .i64 0]) rfl (by decide) (by kernel_rfl) (by kernel_rfl) (by kernel_rfl) (by kernel_rfl) (fun _ _ _ h => h) (Or.inl ⟨by rfl, by intro W' hSw; obtain ⟨c0, c1, c2, c3, c4, c5, c6, c7⟩ := hSw.c; go_simp⟩) G.out ?_
  simp only [Act.put, List.setIfInBounds_toArray, List.set_cons_zero, List.set_cons_succ]
  refine Out.anyR_one (i := 1) (by kernel_rfl) rfl (by rfl) ?_
  intro K hK
  have HKK := Lib.hid hK
  clear hK
  go_simp
  have hba := below_alloc_ W1 (.cells #[.int .i64 0, .int .i64 2, .int .i64 1, .int .i64 3] 3)
  have hna := heap_alloc_new_ W1 (.cells #[.int .i64 0, .int .i64 2, .int .i64 1, .int .i64 3] 3)
  replace G := Lib.hid (G.out.next hba)
  replace S2 := Lib.hid (S2.out.below hba (Nat.le_refl _))
  replace S6 := Lib.hid (S6.out.below hba (Nat.le_refl _))
  replace S8 := Lib.hid (S8.out.below hba (Nat.le_refl _))
  replace S9 := Lib.hid (S9.out.below hba (Nat.le_refl _))
  clear hba
  refine HKK.out _ _ (fun _ _ => G.out) ?_
  clear HKK K
  refine Out.anyR_one (i := 2) (by kernel_rfl) rfl (by rfl) ?_
  intro K hK
  have HKK := Lib.hid hK
  clear hK
  go_simp
  refine ⟨trivial, (callsIn_wide.2 (on41 (some ⟨W1.heap.size, 0, none⟩) 4 4 [0, 2, 1, 3] _ rfl (by omega) (fun _ => ⟨_, 0, rfl, fun j hj => by
    rw [cell_row hna]
    match j, hj with
    | 0, _ => rfl
    | 1, _ => rfl
    | 2, _ => rfl
    | 3, _ => rfl⟩))).mono ?_⟩
  rintro e W2 ⟨C9, cp9, rfl, hcp, hS9, hbo⟩
  clear hna
  replace G := Lib.hid (G.out.next hbo)
  replace S2 := Lib.hid (S2.out.below hbo (Nat.le_refl _))
  replace S6 := Lib.hid (S6.out.below hbo (Nat.le_refl _))
  replace S8 := Lib.hid (S8.out.below hbo (Nat.le_refl _))
  replace S9 := Lib.hid (S9.out.below hbo (Nat.le_refl _))
  clear hbo
  refine HKK.out _ _ (fun _ _ => G.out) ?_
  clear HKK K
  refine Out.anyR_one (i := 3) (by kernel_rfl) rfl (by rfl) ?_
  intro K hK
  have HKK := Lib.hid hK
  clear hK
  go_simp
  refine ⟨trivial, (callsIn_wide.2 (checkJoin18 C C9 4 4 4 cp9 0 0 0 psC _ W2 G.out.p1 hS9 (by omega) (by omega) hcp)).mono ?_⟩
  rintro e V11 ⟨rfl, hbr⟩
  rw [show (⟨psC, 0, ⟨0, 0⟩⟩ : Cy) = cC from rfl, show ([0, 2, 1, 3].map fun p : Nat => (⟨(p : Int), false⟩ : St)) = [⟨0, false⟩, ⟨2, false⟩, ⟨1, false⟩, ⟨3, false⟩] from rfl, v10]
  replace G := Lib.hid (G.out.next hbr)
  replace S2 := Lib.hid (S2.out.below hbr (Nat.le_refl _))
  replace S6 := Lib.hid (S6.out.below hbr (Nat.le_refl _))
  replace S8 := Lib.hid (S8.out.below hbr (Nat.le_refl _))
  replace S9 := Lib.hid (S9.out.below hbr (Nat.le_refl _))
  clear hbr hcp hS9
  refine HKK.out _ _ (fun e => absurd rfl e) ?_
  clear HKK K
  refine Out.anyR_free (i := 4) (oi := { dst := some 21, op := Op.assign (Operand.tmp 79), type := 31, pos := "law.go:44", after := #[{ on := 3, ground := Ground.data }, { on := 3, ground := Ground.chain }, { on := 0, ground := Ground.phase }, { on := 1, ground := Ground.phase }, { on := 2, ground := Ground.phase }, { on := 3, ground := Ground.phase }], guard := none }) (v := .int .i64 18) rfl (by decide) (by kernel_rfl) (by kernel_rfl) (by kernel_rfl) (fun _ _ _ h => h) (Or.inl ⟨by rfl, by intro W' hSw; go_simp⟩) G.out ?_
  simp only [Act.put, List.setIfInBounds_toArray, List.set_cons_zero, List.set_cons_succ]
  refine Out.anyR_done (by kernel_rfl) ?_ _
  refine HK0.out _ _ ?_
  clear HK0 K0
  gi_wp2_with fail
  obtain rfl : 4 = m2 := S2.out.1
  have q1 := heap_alloc_new_ V11 (.cells #[.int .i64 3, .bool true] 28)
  have q2 := below_alloc_ V11 (.cells #[.int .i64 3, .bool true] 28)
  obtain ⟨V12, hV12⟩ : ∃ V12, V11.alloc (.cells #[.int .i64 3, .bool true] 28) = V12 := ⟨_, rfl⟩
  have q3 := heap_alloc_new_ V12 (.cells #[.int .i64 0, .bool false, .int .i64 1, .bool false, .int .i64 3, .bool true, .int .i64 2, .bool false] 28)
  have q4 := below_alloc_ V12 (.cells #[.int .i64 0, .bool false, .int .i64 1, .bool false, .int .i64 3, .bool true, .int .i64 2, .bool false] 28)
  have hsz : V11.heap.size + 1 = V12.heap.size := by rw [← hV12]; simp
  rw [hV12] at q1 q2 ⊢
  rw [hsz]
  obtain ⟨Q, hQ⟩ : ∃ Q, V11.heap.size = Q := ⟨_, rfl⟩
  have q5 := q2.trans (q4.mono q2.size)
  replace G := Lib.hid (G.out.next q5)
  replace S2 := Lib.hid (S2.out.below q5 (Nat.le_refl _))
  replace S6 := Lib.hid (S6.out.below q5 (Nat.le_refl _))
  replace S8 := Lib.hid (S8.out.below q5 (Nat.le_refl _))
  replace S9 := Lib.hid (S9.out.below q5 (Nat.le_refl _))
  have R := Lib.hid ((q4.block _ (lt_of_block q1)).trans q1)
  rw [hQ] at R ⊢
  clear q1 q2 q4 q5 hV12 hsz hQ
  have hnew : Sts (V12.alloc (.cells #[.int .i64 0, .bool false, .int .i64 1, .bool false, .int .i64 3, .bool true, .int .i64 2, .bool false] 28)) (some ⟨V12.heap.size, 0, none⟩) 4 [⟨0, false⟩, ⟨1, false⟩, ⟨3, true⟩, ⟨2, false⟩] := ⟨rfl, fun _ => ⟨_, 0, rfl, fun j hj => by
    rw [cell_row q3, cell_row q3]
    match j, hj with
    | 0, _ => exact ⟨rfl, rfl⟩
    | 1, _ => exact ⟨rfl, rfl⟩
    | 2, _ => exact ⟨rfl, rfl⟩
    | 3, _ => exact ⟨rfl, rfl⟩⟩⟩
  refine ⟨trivial, (callsIn_wide.2 (same29_eq C2 _ 4 4 4 _ _ S2.out hnew (by omega))).mono ?_⟩
  rintro e V13 ⟨rfl, hb⟩
  replace G := Lib.hid (G.out.next hb)
  replace S6 := Lib.hid (S6.out.below hb (Nat.le_refl _))
  replace S8 := Lib.hid (S8.out.below hb (Nat.le_refl _))
  replace S9 := Lib.hid (S9.out.below hb (Nat.le_refl _))
  replace R := Lib.hid ((hb.block _ (lt_of_block R.out)).trans R.out)
  clear hb hnew q3
  gi_wp2_with fail
  have hba := below_alloc_ V13 (.cells #[.int .i64 0, .int .i64 1, .int .i64 2] 3)
  have hna := heap_alloc_new_ V13 (.cells #[.int .i64 0, .int .i64 1, .int .i64 2] 3)
  replace G := Lib.hid (G.out.next hba)
  replace S6 := Lib.hid (S6.out.below hba (Nat.le_refl _))
  replace S8 := Lib.hid (S8.out.below hba (Nat.le_refl _))
  replace S9 := Lib.hid (S9.out.below hba (Nat.le_refl _))
  replace R := Lib.hid ((hba.block _ (lt_of_block R.out)).trans R.out)
  clear hba
  refine ⟨trivial, (callsIn_wide.2 (on41 (some ⟨V13.heap.size, 0, none⟩) 3 3 [0, 1, 2] _ rfl (by omega) (fun _ => ⟨_, 0, rfl, fun j hj => by
    rw [cell_row hna]
    match j, hj with
    | 0, _ => rfl
    | 1, _ => rfl
    | 2, _ => rfl⟩))).mono ?_⟩
  rintro e V14 ⟨C9, cp9, rfl, hcp, hS9, hb⟩
  clear hna hcp
  replace G := Lib.hid (G.out.next hb)
  replace S6 := Lib.hid (S6.out.below hb (Nat.le_refl _))
  replace S8 := Lib.hid (S8.out.below hb (Nat.le_refl _))
  replace S9 := Lib.hid (S9.out.below hb (Nat.le_refl _))
  replace R := Lib.hid ((hb.block _ (lt_of_block R.out)).trans R.out)
  clear hb
  have S7 := Lib.hid hS9
  clear hS9
  gi_wp2_with fail
  refine ⟨trivial, (callsIn_wide.2 (same29_eq C6 C9 3 3 cp9 _ _ S6.out S7.out (by omega))).mono ?_⟩
  rintro e V15 ⟨rfl, hb⟩
  replace G := Lib.hid (G.out.next hb)
  replace S6 := Lib.hid (S6.out.below hb (Nat.le_refl _))
  replace S8 := Lib.hid (S8.out.below hb (Nat.le_refl _))
  replace S9 := Lib.hid (S9.out.below hb (Nat.le_refl _))
  replace R := Lib.hid ((hb.block _ (lt_of_block R.out)).trans R.out)
  clear hb S7
  gi_wp2_with fail
  have hba := below_alloc_ V15 (.cells #[.int .i64 0, .bool false, .int .i64 1, .bool false, .int .i64 1, .bool false, .int .i64 2, .bool false] 57)
  have hna := heap_alloc_new_ V15 (.cells #[.int .i64 0, .bool false, .int .i64 1, .bool false, .int .i64 1, .bool false, .int .i64 2, .bool false] 57)
  replace G := Lib.hid (G.out.next hba)
  replace S8 := Lib.hid (S8.out.below hba (Nat.le_refl _))
  replace S9 := Lib.hid (S9.out.below hba (Nat.le_refl _))
  replace R := Lib.hid ((hba.block _ (lt_of_block R.out)).trans R.out)
  clear hba
  have hp : Prs (V15.alloc (.cells #[.int .i64 0, .bool false, .int .i64 1, .bool false, .int .i64 1, .bool false, .int .i64 2, .bool false] 57)) (some ⟨V15.heap.size, 0, none⟩) 2 [(0, 2), (2, 4)] := ⟨rfl, fun _ => ⟨_, 0, rfl, fun j hj => by
    rw [cell_row hna]
    match j, hj with
    | 0, _ => rfl
    | 1, _ => rfl
    | 2, _ => rfl
    | 3, _ => rfl
    | 4, _ => rfl
    | 5, _ => rfl
    | 6, _ => rfl
    | 7, _ => rfl⟩⟩
  refine ⟨trivial, (callsIn_wide.2 (pairs34 C8 _ 2 cp8 2 _ _ S8.out hp (by omega))).mono ?_⟩
  rintro e V16 ⟨rfl, hb⟩
  replace G := Lib.hid (G.out.next hb)
  replace S9 := Lib.hid (S9.out.below hb (Nat.le_refl _))
  replace R := Lib.hid ((hb.block _ (lt_of_block R.out)).trans R.out)
  clear hb hp hna S8 S6
  have t0 : V16.cell? ⟨Q, 0, none⟩ = some (.int .i64 3) := by rw [cell_row R.out]; rfl
  have t1 : V16.cell? ⟨Q, 1, none⟩ = some (.bool true) := by rw [cell_row R.out]; rfl
  gi_wp2_with fail
  have hba := below_alloc_ V16 (.cells #[.int .i64 2, .bool false, .int .i64 3, .bool false, .int .i64 3, .bool true] 28)
  have hna := heap_alloc_new_ V16 (.cells #[.int .i64 2, .bool false, .int .i64 3, .bool false, .int .i64 3, .bool true] 28)
  replace G := Lib.hid (G.out.next hba)
  replace S9 := Lib.hid (S9.out.below hba (Nat.le_refl _))
  clear hba t0 t1 R
  have hnew : Sts (V16.alloc (.cells #[.int .i64 2, .bool false, .int .i64 3, .bool false, .int .i64 3, .bool true] 28)) (some ⟨V16.heap.size, 0, none⟩) 3 ([4, 6, 7].map stC) := ⟨rfl, fun _ => ⟨_, 0, rfl, fun j hj => by
    rw [cell_row hna, cell_row hna]
    match j, hj with
    | 0, _ => exact ⟨rfl, rfl⟩
    | 1, _ => exact ⟨rfl, rfl⟩
    | 2, _ => exact ⟨rfl, rfl⟩⟩⟩
  refine ⟨trivial, (callsIn_wide.2 (same29_eq C9' _ 3 cp9' 3 _ _ S9.out hnew (by omega))).mono ?_⟩
  rintro e V17 ⟨rfl, hb⟩
  replace G := Lib.hid (G.out.next hb)
  clear hb hnew hna S9
  gi_wp2_with fail
  go_ret
  exact ⟨rfl, G.out.below⟩
end
end Go.Proofs.Ytfmcfalghbaanaa
