/- Stage 6: the example's list. -/
import Derived.Test.YtigohccehllmnaaDj
import Derived.Test.YtigohccehllmnaaLa
namespace Go.Proofs.Ytigohccehllmnaa
set_option linter.unusedSimpArgs false
set_option linter.unusedVariables false
open Go.RowKit Go.Shelf
section
attribute [local go_sem ↓] exec_app at_app
attribute [local go_sem] Oper.semAt_some
set_option maxRecDepth 100000 in
set_option maxHeartbeats 16000000 in
theorem inside39 (A : Option Addr) (n c : Nat) (a : List Int) (A2 : Option Addr) (n2 c2 : Nat) (b : List Int) (w : World) (h : Ints w A n a) (h2 : Ints w A2 n2 b) (hn8 : n ≤ 10000) (hn9 : n2 ≤ 1000000) :
    Calls Try.prog 39 #[.slice A n c, .slice A2 n2 c2] w fun e w' => e = .returned (.bool (a.all (fun x => decide (x ∈ b)))) ∧ w' = w := by
  have HA := Lib.hid h
  have HB := Lib.hid h2
  clear h h2
  go_enter Try.func39, Try.ntmps39
  go_wp2_with fail
  go_loopw [5] (fun i wr => ∃ k : Nat, k ≤ n ∧ i = .int .i64 (k : Int) ∧ Hid (allT (fun x => decide (x ∈ b)) a k = true) ∧ wr = w) (fun i _ => n - (intOf i).toNat)
  case atStart => exact ⟨0, Nat.zero_le _, rfl, Lib.hid rfl, rfl⟩
  case round =>
    obtain ⟨k, hk9, rfl, HT, hw9⟩ := hrel
    subst wr
    by_cases hlt : k < n
    · obtain ⟨bz, oz, rfl, hcz⟩ := HA.out.2 (by omega)
      have z0 := hcz k hlt
      have Hs := Lib.hid (allT_succ (fun x => decide (x ∈ b)) (zs := a) (k := k) (by rw [HA.out.1]; exact hlt))
      have Hn := Lib.hid (fun e => allT_no (fun x => decide (x ∈ b)) (zs := a) (k := k) (by rw [HA.out.1]; exact hlt) e)
      rw [HT.out, Bool.true_and] at Hs
      obtain ⟨x, hx⟩ : ∃ x, iAt a k = x := ⟨_, rfl⟩
      rw [hx] at z0 Hs Hn
      obtain ⟨j, hj⟩ : ∃ v, decide (x ∈ b) = v := ⟨_, rfl⟩
      simp only [hj] at Hs Hn
      have K := Lib.hid (in38 A2 n2 c2 b x w HB.out hn9)
      rw [hj] at K
      have i0 : (0 : Int) ≤ (k : Int) := by omega
      have i1 : (k : Int) < (n : Int) := by omega
      clear hcz hx hj HT
      go_wp2_with fail
      refine K.out.mono ?_
      rintro en w9 ⟨rfl, hw9⟩
      subst w9
      rcases j with _ | _
      · go_wp2_with fail
        go_ret
        exact ⟨by rw [Hn.out (by simp)] <;> rfl, rfl⟩
      · go_wp2_with fail
        go_roundw
        case rel => exact ⟨k + 1, by omega, by go_num, Lib.hid (by rw [Hs.out] <;> rfl), trivial⟩
        case measure => simp [intOf]; omega
    · obtain rfl : k = n := by omega
      have HF := Lib.hid (show a.all (fun x => decide (x ∈ b)) = true by rw [← allT_full (fun x => decide (x ∈ b)) HA.out.1]; exact HT.out)
      clear HT
      go_wp2_with fail
      go_ret
      exact ⟨by rw [HF.out] <;> rfl, rfl⟩
end
end Go.Proofs.Ytigohccehllmnaa

namespace Go.Proofs.Ytigohccehllmnaa
set_option linter.unusedSimpArgs false
set_option linter.unusedVariables false
open Go.RowKit Go.Shelf

def exZ : List Nl := [⟨0, 1, 3⟩, ⟨1, 4, 2⟩, ⟨0, 2, 2⟩, ⟨2, 4, 4⟩, ⟨1, 2, 1⟩, ⟨3, 4, 1⟩]
def exL (a b c : Nat) : NL := ⟨5, some ⟨a, 0, none⟩, 6, 6, exZ, some ⟨b, 0, none⟩, 1, 1, [0], some ⟨c, 0, none⟩, 1, 1, [4]⟩
theorem ex_chk (a b c : Nat) : chkL (exL a b c) = 0 := by rfl
theorem flat_nls {W : World} {B : Nat} {t : TypeId} (l : List Nl) (h : W.heap[B]? = some (.cells (flatN l).toArray t (0, 0))) : Nls W (some ⟨B, 0, none⟩) l.length l := by
  refine ⟨rfl, fun _ => ⟨B, 0, rfl, fun j hj => ?_⟩⟩
  obtain ⟨h1, h2, h3⟩ := flatN_at l j hj
  rw [Nat.zero_add]
  exact ⟨by rw [cell_row h, List.getElem?_toArray]; exact h1, by rw [cell_row h, List.getElem?_toArray]; exact h2, by rw [cell_row h, List.getElem?_toArray]; exact h3⟩
theorem results_cell1 {fn : Func} {p : Tmp} {ty : TypeId} (h : fn.results = #[.cell p ty]) (tmps : Array Value) (P : Program) (w : World) :
    (results fn tmps).run P w = ((asAddr (tmps.getD p undef)).run P w).andThen fun a w₁ => (loadVar ty a).run P w₁ := by
  simp only [results, h]
  simp [Sem.run_bind, Result.andThen]
section
attribute [local go_sem ↓] exec_app at_app
attribute [local go_sem] Oper.semAt_some
set_option maxRecDepth 100000 in
set_option maxHeartbeats 16000000 in
theorem list40 (w : World) : Calls Try.prog 40 #[] w fun e w' => ∃ a b c, e = .returned (.agg #[.int .i64 (exL a b c).N, .slice (exL a b c).A (exL a b c).n (exL a b c).cap, .slice (exL a b c).LA (exL a b c).ln (exL a b c).lc, .slice (exL a b c).RA (exL a b c).rn (exL a b c).rc]) ∧ NLs w' (exL a b c) ∧ w.heap.size ≤ a ∧ w.heap.size ≤ b ∧ w.heap.size ≤ c ∧ Below w.heap.size w w' := by
  obtain ⟨R, hR⟩ : ∃ v, w.heap.size = v := ⟨_, rfl⟩
  have hb0 := below_alloc_ w (.cells #[.int .i64 5, .slice (some ⟨R + 1, 0, none⟩) 6 6, .slice (some ⟨R + 1 + 1, 0, none⟩) 1 1, .slice (some ⟨R + 1 + 1 + 1, 0, none⟩) 1 1] 25)
  have hr0 := heap_alloc_new_ w (.cells #[.int .i64 5, .slice (some ⟨R + 1, 0, none⟩) 6 6, .slice (some ⟨R + 1 + 1, 0, none⟩) 1 1, .slice (some ⟨R + 1 + 1 + 1, 0, none⟩) 1 1] 25)
  have hz0 : (w.alloc (.cells #[.int .i64 5, .slice (some ⟨R + 1, 0, none⟩) 6 6, .slice (some ⟨R + 1 + 1, 0, none⟩) 1 1, .slice (some ⟨R + 1 + 1 + 1, 0, none⟩) 1 1] 25)).heap.size = w.heap.size + 1 := by simp
  obtain ⟨w0, hw0⟩ : ∃ v, w.alloc (.cells #[.int .i64 5, .slice (some ⟨R + 1, 0, none⟩) 6 6, .slice (some ⟨R + 1 + 1, 0, none⟩) 1 1, .slice (some ⟨R + 1 + 1 + 1, 0, none⟩) 1 1] 25) = v := ⟨_, rfl⟩
  rw [hw0] at hb0 hr0 hz0
  rw [hR] at hr0 hz0
  have hb1 := below_alloc_ w0 (.cells #[.int .i64 0, .int .i64 1, .int .i64 3, .int .i64 1, .int .i64 4, .int .i64 2, .int .i64 0, .int .i64 2, .int .i64 2, .int .i64 2, .int .i64 4, .int .i64 4, .int .i64 1, .int .i64 2, .int .i64 1, .int .i64 3, .int .i64 4, .int .i64 1] 60)
  have hr1 := heap_alloc_new_ w0 (.cells #[.int .i64 0, .int .i64 1, .int .i64 3, .int .i64 1, .int .i64 4, .int .i64 2, .int .i64 0, .int .i64 2, .int .i64 2, .int .i64 2, .int .i64 4, .int .i64 4, .int .i64 1, .int .i64 2, .int .i64 1, .int .i64 3, .int .i64 4, .int .i64 1] 60)
  have hz1 : (w0.alloc (.cells #[.int .i64 0, .int .i64 1, .int .i64 3, .int .i64 1, .int .i64 4, .int .i64 2, .int .i64 0, .int .i64 2, .int .i64 2, .int .i64 2, .int .i64 4, .int .i64 4, .int .i64 1, .int .i64 2, .int .i64 1, .int .i64 3, .int .i64 4, .int .i64 1] 60)).heap.size = w0.heap.size + 1 := by simp
  obtain ⟨w1, hw1⟩ : ∃ v, w0.alloc (.cells #[.int .i64 0, .int .i64 1, .int .i64 3, .int .i64 1, .int .i64 4, .int .i64 2, .int .i64 0, .int .i64 2, .int .i64 2, .int .i64 2, .int .i64 4, .int .i64 4, .int .i64 1, .int .i64 2, .int .i64 1, .int .i64 3, .int .i64 4, .int .i64 1] 60) = v := ⟨_, rfl⟩
  rw [hw1] at hb1 hr1 hz1
  rw [hz0] at hr1 hz1
  replace hr0 := (hb1.block _ (lt_of_block hr0)).trans hr0
  have hb2 := below_alloc_ w1 (.cells #[.int .i64 0] 3)
  have hr2 := heap_alloc_new_ w1 (.cells #[.int .i64 0] 3)
  have hz2 : (w1.alloc (.cells #[.int .i64 0] 3)).heap.size = w1.heap.size + 1 := by simp
  obtain ⟨w2, hw2⟩ : ∃ v, w1.alloc (.cells #[.int .i64 0] 3) = v := ⟨_, rfl⟩
  rw [hw2] at hb2 hr2 hz2
  rw [hz1] at hr2 hz2
  replace hr0 := (hb2.block _ (lt_of_block hr0)).trans hr0
  replace hr1 := (hb2.block _ (lt_of_block hr1)).trans hr1
  have hb3 := below_alloc_ w2 (.cells #[.int .i64 4] 3)
  have hr3 := heap_alloc_new_ w2 (.cells #[.int .i64 4] 3)
  have hz3 : (w2.alloc (.cells #[.int .i64 4] 3)).heap.size = w2.heap.size + 1 := by simp
  obtain ⟨w3, hw3⟩ : ∃ v, w2.alloc (.cells #[.int .i64 4] 3) = v := ⟨_, rfl⟩
  rw [hw3] at hb3 hr3 hz3
  rw [hz2] at hr3 hz3
  replace hr0 := (hb3.block _ (lt_of_block hr0)).trans hr0
  replace hr1 := (hb3.block _ (lt_of_block hr1)).trans hr1
  replace hr2 := (hb3.block _ (lt_of_block hr2)).trans hr2
  have B := Lib.hid (((hb0.trans (hb1.mono hb0.size)).trans (hb2.mono (hb0.trans (hb1.mono hb0.size)).size)).trans (hb3.mono ((hb0.trans (hb1.mono hb0.size)).trans (hb2.mono (hb0.trans (hb1.mono hb0.size)).size)).size))
  have H0 := Lib.hid hr0
  have HW0 := Lib.hid hw0
  have H1 := Lib.hid hr1
  have HW1 := Lib.hid hw1
  have H2 := Lib.hid hr2
  have HW2 := Lib.hid hw2
  have H3 := Lib.hid hr3
  have HW3 := Lib.hid hw3
  have HR := Lib.hid hR
  have HZ0 := Lib.hid hz0
  have HZ1 := Lib.hid hz1
  have HZ2 := Lib.hid hz2
  clear hb0 hr0 hz0 hw0 hb1 hr1 hz1 hw1 hb2 hr2 hz2 hw2 hb3 hr3 hz3 hw3 hR
  go_enter Try.func40, Try.ntmps40
  go_wp2_with fail
  rw [HR.out]
  rw [HW0.out]
  rw [HW1.out]
  rw [HW2.out]
  rw [HW3.out]
  have z0 : w3.cell? ⟨R, 0, none⟩ = some (.int .i64 5) := by rw [cell_row H0.out]; rfl
  have z1 : w3.cell? ⟨R, 1, none⟩ = some (.slice (some ⟨R + 1, 0, none⟩) 6 6) := by rw [cell_row H0.out]; rfl
  have z2 : w3.cell? ⟨R, 2, none⟩ = some (.slice (some ⟨R + 1 + 1, 0, none⟩) 1 1) := by rw [cell_row H0.out]; rfl
  have z3 : w3.cell? ⟨R, 3, none⟩ = some (.slice (some ⟨R + 1 + 1 + 1, 0, none⟩) 1 1) := by rw [cell_row H0.out]; rfl
  have hnl : NLs w3 (exL (R + 1) (R + 1 + 1) (R + 1 + 1 + 1)) := ⟨flat_nls exZ H1.out, ints_one H2.out, ints_one H3.out, Nat.le_refl _, Nat.le_refl _, Nat.le_refl _, by simp [exL], by simp [exL], by simp [exL]⟩
  refine bodyPost_ret (v := .agg #[.int .i64 5, .slice (some ⟨R + 1, 0, none⟩) 6 6, .slice (some ⟨R + 1 + 1, 0, none⟩) 1 1, .slice (some ⟨R + 1 + 1 + 1, 0, none⟩) 1 1]) (by rw [results_cell1 Try.results40]; simp [go_sem, z0, z1, z2, z3]) rfl ?_
  exact ⟨R + 1, R + 1 + 1, R + 1 + 1 + 1, rfl, hnl, by omega, by omega, by omega, by rw [← HR.out]; exact B.out⟩
end
end Go.Proofs.Ytigohccehllmnaa
