/- The contracts of the small functions of the statements. -/
import Derived.Test.YtiankphkemakeaaPipe
import Derived.Deep.RegionLaw
namespace Go.Proofs.Ytiankphkemakeaa
set_option linter.unusedSimpArgs false
set_option linter.unusedVariables false
open Go.RowKit Go.Shelf

theorem rg43 (lo hi : Int) (w : World) : Calls Try.prog 43 #[.int .i64 lo, .int .i64 hi] w fun e w' => e = .returned (.agg #[.int .i64 lo, .int .i64 hi]) ∧ w' = w.alloc (.cells #[.int .i64 lo, .int .i64 hi] 43) := by
  go_enter Try.func43, Try.ntmps43
  go_wp2_with fail
  refine bodyPost_ret (v := .agg #[.int .i64 lo, .int .i64 hi]) (by simp [results, Try.results43, go_sem]) rfl ⟨rfl, rfl⟩
theorem rule48 (f t m : Int) (w : World) : Calls Try.prog 48 #[.int .i64 f, .int .i64 t, .int .i64 m] w fun e w' => e = .returned (.agg #[.int .i64 f, .int .i64 t, .int .i64 m]) ∧ w' = w.alloc (.cells #[.int .i64 f, .int .i64 t, .int .i64 m] 68) := by
  go_enter Try.func48, Try.ntmps48
  go_wp2_with fail
  refine bodyPost_ret (v := .agg #[.int .i64 f, .int .i64 t, .int .i64 m]) (by simp [results, Try.results48, go_sem]) rfl ⟨rfl, rfl⟩

/-- The rules of the chapter's examples. -/
def sheetRs : List R := [⟨0, 1, 16500⟩, ⟨1, 0, -16000⟩, ⟨1, 2, 0⟩, ⟨2, 1, 300⟩, ⟨2, 3, 0⟩, ⟨3, 2, 300⟩]
theorem rules_block {W : World} {B : Nat} {t : TypeId} {rs : List R} (h : W.heap[B]? = some (.cells (flat rs).toArray t (0, 0))) : Rules W (some ⟨B, 0, none⟩) rs.length rs := by
  refine ⟨rfl, fun _ => ⟨B, 0, rfl, fun j hj => ?_⟩⟩
  have hf := flat_at rs j hj
  simp only [Nat.zero_add]
  refine ⟨?_, ?_, ?_⟩
  · rw [cell_of_row W B _ _ _ _ h]; simpa using hf.1
  · rw [cell_of_row W B _ _ _ _ h]; simpa using hf.2.1
  · rw [cell_of_row W B _ _ _ _ h]; simpa using hf.2.2

theorem heap_last {W : World} {o : Obj} {B : Nat} (h : B = W.heap.size) : (W.alloc o).heap[B]? = some o := by subst h; exact heap_alloc_new W o
set_option maxRecDepth 100000 in
set_option maxHeartbeats 1000000 in
theorem sheet50 (w : World) : Calls Try.prog 50 #[] w fun e w' => ∃ A cap, e = .returned (.agg #[.int .i64 3, .slice A 6 cap]) ∧ w'.ownsRow w.heap.size 68 3 (.slice A 6 cap) 6 (flat sheetRs) ∧ Below w.heap.size w w' := by
  go_enter Try.func50, Try.ntmps50
  go_wp2_with (go_at_call 48; refine (rule48 _ _ _ _).mono ?_; rintro e w1 ⟨rfl, rfl⟩)
  refine bodyPost_ret (v := .agg #[.int .i64 3, .slice (some ⟨w.heap.size + 1 + 1 + 1 + 1 + 1 + 1 + 1, 0, none⟩) 6 6]) (by simp [results, Try.results50, go_sem]) rfl ⟨_, _, rfl, ?_, ?_⟩
  · exact ⟨rfl, .inr ⟨_, 6, (flat sheetRs).toArray, rfl, by omega, heap_last (by simp), Nat.le_refl _, by unfold maxLen; omega, rfl, rfl⟩⟩
  · exact ((((((((Below.refl _ _).alloc (Nat.le_refl _) _).alloc (by simp) _).alloc (by simp; omega) _).alloc (by simp; omega) _).alloc (by simp; omega) _).alloc (by simp; omega) _).alloc (by simp; omega) _).alloc (by simp; omega) _

def slowRs : List R := sheetRs ++ [⟨0, 3, 15000⟩]
theorem rules_one {W : World} {B : Nat} {t : TypeId} {fr : Nat × Nat} {a b c : Int} (h : W.heap[B]? = some (.cells #[.int .i64 a, .int .i64 b, .int .i64 c] t fr)) : Rules W (some ⟨B, 0, none⟩) 1 [⟨a, b, c⟩] := by
  refine ⟨rfl, fun _ => ⟨B, 0, rfl, fun j hj => ?_⟩⟩
  obtain rfl : j = 0 := by omega
  simp [World.cell?, h, rf, rt, rm, rAt]
theorem step_append {ops : Array Oper} {o : Oper} {a : Act} {w : World} {K : Act → World → Prop} {Q : Exit → Act → World → Prop} {E : Prop} (hg : o.guard = none) (s x : Operand)
    (ho : o.op = .call { callee := .builtin .append, args := #[s, x], argTypes := #[22, 22] })
    (base : Nat) (v : Value) (n : Nat) (xs : List R) (hs : a.eval s = v) (hown : w.ownsRow base 68 3 v n (flat xs)) (b : Nat) (m c : Nat) (ys : List R) (hx : a.eval x = .slice (some ⟨b, 0, none⟩) m c) (hr : Rules w (some ⟨b, 0, none⟩) m ys)
    (hbytes : (n + m) * 24 ≤ 140737488355328) (hbase : base ≤ w.heap.size)
    (h : ∀ A' cap' w', w'.ownsRow base 68 3 (.slice A' (n + m) cap') (n + m) (flat (xs ++ ys)) → w.grownBy w' v.ownBlock → K (a.put o.dst (.slice A' (n + m) cap')) w') :
    if Region.wanted o (yielded ops a.tmps) = true then Oper.wp Try.prog o a w K Q else E := by
  have hw : Region.wanted o (yielded ops a.tmps) = true := by simp [Region.wanted, hg]
  rw [if_pos hw]
  obtain ⟨i, hi, hz0, hz1, hz2⟩ := info_parts Try.info68
  obtain ⟨v', w', h1, h2, h3, _⟩ := run_append_own (P := Try.prog) w base 22 o.type 68 i _ 3 24 Try.underlying22 hi hz0 hz1 hz2 rfl (by decide) v n _ hown ⟨b, 0, none⟩ m c (flat ys) (by rw [flat_length, hr.1]) hr.news (flat_one ys) (by unfold maxLen; omega) hbytes hbase
  obtain ⟨A2, cap2, rfl⟩ := own_form h2
  unfold Oper.wp execOp
  simp only [ho, resolve, invoke, builtin, Sem.run_bind, Sem.run_pure, Result.andThen_ok, List.map_toArray, List.map_cons, List.map_nil, hs, hx, h1]
  exact h _ _ _ (by rw [flat_append]; exact h2) h3
theorem own_set {w : World} {base : Nat} {v : Value} {n : Nat} {xs : List Value} {b i : Nat} {x : Value} {cs : Array Value} (h : w.ownsRow base 68 3 v n xs) (hb : w.heap[b]? = some (.cells cs 24 (0, 0))) : (w.setCell ⟨b, i, none⟩ x).ownsRow base 68 3 v n xs := by
  refine ⟨h.1, ?_⟩
  rcases h.2 with h0 | ⟨g, cap', cur, h1, h2, h3, h4⟩
  · exact .inl h0
  · exact .inr ⟨g, cap', cur, h1, h2, (heap_setCell_other _ _ _ _ (fun e => by subst e; rw [hb] at h3; cases h3)).trans h3, h4⟩
theorem own_drew {w : World} {base : Nat} {v : Value} {n : Nat} {xs : List Value} {e : TypeId} {s : Nat} (h : w.ownsRow base e s v n xs) : w.drew.ownsRow base e s v n xs := h

set_option maxRecDepth 100000 in
set_option maxHeartbeats 1000000 in
theorem slow51 (w : World) : Calls Try.prog 51 #[] w fun e w' => ∃ A cap, e = .returned (.agg #[.int .i64 3, .slice A 7 cap]) ∧ Rules w' A 7 slowRs ∧ Below w.heap.size w w' := by
  have HB0 := Lib.hid ((Below.refl w.heap.size w).alloc (Nat.le_refl _) (.cells #[.int .i64 0, .slice none 0 0] 24))
  go_enter Try.func51, Try.ntmps51
  go_wp2_with fail
  refine (sheet50 _).mono ?_
  rintro e w1 ⟨A, cap, rfl, hown, hb⟩
  have Hown := Lib.hid hown
  have hz : w.heap.size < w1.heap.size := by have := hb.size; simp at this; omega
  have Hb := Lib.hid (HB0.out.trans (hb.mono (by simp)))
  have HR := Lib.hid (show w1.heap[w.heap.size]? = some (.cells #[.int .i64 0, .slice none 0 0] 24 (0, 0)) from (hb.block _ (by simp)).trans (heap_alloc_new _ _))
  have Hne := Lib.hid (show some w1.heap.size ≠ (Value.slice A 6 cap).ownBlock from fun e => by have := (hown.lt w1.heap.size e.symm).2; omega)
  have Hne0 := Lib.hid (show some w.heap.size ≠ (Value.slice A 6 cap).ownBlock from fun e => by have := (hown.lt w.heap.size e.symm).1; simp at this; omega)
  have Hlo := Lib.hid (show ∀ r, (Value.slice A 6 cap).ownBlock = some r → w.heap.size ≤ r from fun r e => by have := (hown.lt r e).1; simp at this; omega)
  clear hown hb
  go_wp2_with fail
  go_region_law (first
    | (go_simp; go_at_call 48; refine (rule48 _ _ _ _).mono ?_; rintro e w' ⟨rfl, rfl⟩; dsimp only)
    | (refine step_append rfl (.tmp 4) (.tmp 6) rfl _ _ 6 sheetRs rfl (own_keep (own_keep (own_drew (own_keep Hown.out _)) _) _) _ 1 1 [⟨0, 3, 15000⟩] rfl (rules_one (heap_last (by simp))) (by omega) (by simp; omega) ?_; intro A2 cap2 w3 hown2 hg2; have hb3 := (hg2.block w1.heap.size (by simp; omega) Hne.out).trans ((heap_alloc_old _ _ _ (by simp; omega)).trans ((heap_alloc_old _ _ _ (by simp)).trans (heap_alloc_new w1 (.cells #[.int .i64 3, .slice A 6 cap] 24)))); have hb30 := (hg2.block w.heap.size (by simp; omega) Hne0.out).trans ((heap_alloc_old _ _ _ (by simp; omega)).trans ((heap_alloc_old _ _ _ (by simp; omega)).trans ((heap_alloc_old w1 (.cells #[.int .i64 3, .slice A 6 cap] 24) _ (by omega)).trans HR.out))); have f0 : w3.cell? ⟨w1.heap.size, 0, none⟩ = some (.int .i64 3) := (by rw [cell_of_row w3 _ 0 _ _ _ hb3]; rfl); have f1 : w3.cell? ⟨w1.heap.size, 1, none⟩ = some (.slice A 6 cap) := (by rw [cell_of_row w3 _ 1 _ _ _ hb3]; rfl); have z1 : w3.frozen? ⟨w1.heap.size, 1, none⟩ = false := frozen_of_row w3 _ 1 _ _ hb3; have g0 : w3.cell? ⟨w.heap.size, 0, none⟩ = some (.int .i64 0) := (by rw [cell_of_row w3 _ 0 _ _ _ hb30]; rfl); have g1 : w3.cell? ⟨w.heap.size, 1, none⟩ = some (.slice none 0 0) := (by rw [cell_of_row w3 _ 1 _ _ _ hb30]; rfl); have y0 : w3.frozen? ⟨w.heap.size, 0, none⟩ = false := frozen_of_row w3 _ 0 _ _ hb30; have y1 : w3.frozen? ⟨w.heap.size, 1, none⟩ = false := frozen_of_row w3 _ 1 _ _ hb30; have Hown2 := Lib.hid hown2; have Hg2 := Lib.hid hg2; have Hb3 := Lib.hid hb3; have Hb30 := Lib.hid hb30; clear hown2 hg2 hb3 hb30))
  all_goals go_wp2_with fail
  all_goals refine bodyPost_ret (v := .agg #[.int .i64 3, .slice A2 7 cap2]) (by simp [results, Try.results51, go_sem, g0, g1]) rfl ⟨A2, cap2, rfl, ?_, ?_⟩
  all_goals first
    | (have k1 := own_set (i := 1) (x := .slice A2 7 cap2) Hown2.out Hb3.out
       have e1 : (w3.setCell ⟨w1.heap.size, 1, none⟩ (.slice A2 7 cap2)).heap[w.heap.size]? = some (.cells #[.int .i64 0, .slice none 0 0] 24 (0, 0)) := (heap_setCell_other _ _ _ _ (Nat.ne_of_lt hz)).trans Hb30.out
       have k2 := own_set (i := 0) (x := .int .i64 3) k1 e1
       have k3 := own_set (i := 1) (x := .slice A2 7 cap2) k2 (heap_setCell_same _ _ 0 _ _ _ e1)
       exact Rules.of_own k3)
    | (have hB3 : Below w.heap.size w w3 := (((((Hb.out.alloc (by omega) _).trans (drew_below _ 1 _)).alloc (by show w.heap.size ≤ (w1.alloc _).heap.size; simp; omega) _).alloc (by simp; omega) _)).trans (below_grown Hg2.out Hlo.out (by simp; omega))
       refine ((hB3.setCell ?_ _).setCell ?_ _).setCell ?_ _ <;> simp <;> omega)
end Go.Proofs.Ytiankphkemakeaa
