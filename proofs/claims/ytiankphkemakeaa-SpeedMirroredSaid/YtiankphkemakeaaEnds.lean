/- The contract of ends: both ends of all turns, by spread. -/
import Derived.Test.YtiankphkemakeaaSpread
namespace Go.Proofs.Ytiankphkemakeaa
set_option linter.unusedSimpArgs false
set_option linter.unusedVariables false
open Go.RowKit Go.Shelf

theorem sweep_within (high : Bool) : ∀ (ws : List R) (k j : Nat) (s : St), (∀ r ∈ ws, FitR r) → k + ws.length ≤ 1000000 → Within j s → Within (j + ws.length) (sweep high k ws s) := by
  intro ws
  induction ws with
  | nil => intro k j s _ _ h; exact h
  | cons r ws ih =>
    intro k j s hf hk h
    simp only [List.length_cons] at hk
    have := ih (k + 1) (j + 1) (relax s k (vw high r)) (fun r hr => hf r (List.mem_cons_of_mem _ hr)) (by omega) (relax_within h k (by omega) (fit_vw high (hf r (List.mem_cons_self ..))))
    simp only [sweep, List.length_cons]
    rw [show j + (ws.length + 1) = j + 1 + ws.length by omega]
    exact this
theorem rounds_within (high : Bool) (ws : List R) (hf : ∀ r ∈ ws, FitR r) (hN : ws.length ≤ 1000000) : ∀ (n j : Nat) (s : St), Within j s → Within (j + n * ws.length) (rounds high ws n s).1 := by
  intro n
  induction n with
  | zero => intro j s h; rw [Nat.zero_mul]; exact h
  | succ n ih =>
    intro j s h
    have h1 := sweep_within high ws 0 j s hf (by omega) h
    have h2 := ih _ _ h1
    unfold rounds
    split
    · exact h1.mono (by rw [Nat.succ_mul]; omega)
    · exact h2.mono (by rw [Nat.succ_mul]; omega)
theorem spread_within (high : Bool) (T x : Nat) (ws : List R) (hf : ∀ r ∈ ws, FitR r) (hN : ws.length ≤ 1000) (hT : T ≤ 20) : Within 21000 (spread high T ws x).1 :=
  (rounds_within high ws hf (by omega) (T + 1) 0 (start0 x) (start_within x)).mono (by
    have : (T + 1) * ws.length ≤ 21 * 1000 := Nat.mul_le_mul (by omega) hN
    omega)

/-- The first k speeds turned round. -/
def negs : Nat → List Int → List Int
  | 0, p => p
  | k + 1, p => (negs k p).set k (-(nth (negs k p) k))
theorem negs_length (p : List Int) : ∀ k, (negs k p).length = p.length
  | 0 => rfl
  | k + 1 => by rw [negs, List.length_set, negs_length p k]
theorem negs_bound (p : List Int) (B : Int) (h : ∀ i, -B ≤ nth p i ∧ nth p i ≤ B) : ∀ k i, -B ≤ nth (negs k p) i ∧ nth (negs k p) i ≤ B
  | 0, i => h i
  | k + 1, i => by
    rw [negs]
    rcases nth_set_cases (negs k p) k i (-(nth (negs k p) k)) with e | e
    · rw [e]; have := negs_bound p B h k k; omega
    · rw [e]; exact negs_bound p B h k i
theorem negs_at (p : List Int) : ∀ k i, k ≤ p.length → nth (negs k p) i = if i < k then -(nth p i) else nth p i
  | 0, i, _ => by simp [negs]
  | k + 1, i, h => by
    rw [negs]
    by_cases e : i = k
    · subst e
      rw [nth_set_same _ _ _ (by rw [negs_length]; omega), negs_at p i i (by omega), if_neg (by omega), if_pos (by omega)]
    · rw [nth_set_other _ _ _ _ e, negs_at p k i (by omega)]
      by_cases h1 : i < k
      · rw [if_pos h1, if_pos (by omega)]
      · rw [if_neg h1, if_neg (by omega)]

/-- What ends returns. -/
def endsOf (high : Bool) (T : Nat) (ws : List R) : List Int × Bool :=
  (if high then (spread high T ws 0).1.1 else negs 21 (spread high T ws 0).1.1, (spread high T ws 0).2)

theorem res_cell_tmp {fn : Func} {p u : Tmp} {ty : TypeId} (h : fn.results = #[.cell p ty, .tmp u]) {tmps : Array Value} {w : World} {B : Nat} {cs : Array Value} {v : Value} (hp : tmps.getD p undef = .pointer (some ⟨B, 0, none⟩)) (hv : tmps.getD u undef = v)
    (hrun : (loadVar ty ⟨B, 0, none⟩).run Try.prog w = .ok (.agg cs) w) : (results fn tmps).run Try.prog w = .ok (.tuple #[.agg cs, v]) w := by
  rw [results_cell_tmp h, hp, hv, show (asAddr (.pointer (some ⟨B, 0, none⟩))).run Try.prog w = .ok ⟨B, 0, none⟩ w from rfl, Result.andThen_ok, hrun]
  rfl
theorem loadVar87 {w : World} {B : Nat} {p : List Int} {t : TypeId} (h : w.heap[B]? = some (.cells (pv p) t (0, 0))) (hp : p.length = 21) : (loadVar 87 ⟨B, 0, none⟩).run Try.prog w = .ok (.agg (pv p)) w :=
  run_loadVar_row w B t 87 (pv p) (0, 0) _ h Try.underlying87 rfl (by rw [pv_size, hp]; kernel_rfl)

/-- An array stored into a block that is there already. -/
theorem store87 {w : World} {B : Nat} {c : Array Value} {p : List Int} {t : TypeId} (h : w.heap[B]? = some (.cells c t (0, 0))) (hc : c.size = 21) (hp : p.length = 21) :
    ∃ w', (Instr.storeAt 87 (.pointer (some ⟨B, 0, none⟩)) (.agg (pv p))).run Try.prog w = .ok () w' ∧ w'.heap[B]? = some (.cells (pv p) t (0, 0)) ∧ w.grownBy w' (some B) := by
  refine ⟨_, run_storeAt_mid (P := Try.prog) w B 0 87 (pv p) (fun j hj => ?_) (by rw [pv_size, hp]; kernel_rfl) (all_oneCell_toArray (ints_oneCell _ _)), ?_, ?_⟩
  · rw [pv_size, hp] at hj
    rw [Nat.zero_add, cell_of_row w B j _ _ _ h, frozen_of_row w B j _ _ h, Array.getElem?_eq_getElem (by omega)]
    exact ⟨rfl, rfl⟩
  · rw [heap_setCells B t _ 0 w c h]
    have := foldl_set (pv p).toList 0 [] c.toList rfl (by simp [pv_size, hp, hc])
    simp only [List.nil_append] at this
    rw [show c = c.toList.toArray from rfl, this]
  · obtain ⟨h1, h2, h3, h4⟩ := setCells_rest B (pv p).toList 0 w
    exact ⟨h1, h2, h3, Nat.le_of_eq h4.symm, fun k _ hk => heap_setCells_other B _ 0 w k (fun e => hk (by rw [e]))⟩

set_option maxRecDepth 100000 in
set_option maxHeartbeats 2000000 in
theorem ends67 (T : Nat) (A A' : Option Addr) (n cap N cap' : Nat) (high : Bool) (ws : List R) (w : World) (hr : Rules w A' N ws) (hT : T ≤ 20) (hN : N ≤ 1000) (hN1 : 0 < N) (hfit : ∀ r ∈ ws, FitR r) :
    Calls Try.prog 67 #[.agg #[.int .i64 (T : Int), .slice A n cap, .slice A' N cap'], .bool high] w fun e w' =>
      e = .returned (.tuple #[.agg (pv (endsOf high T ws).1), .bool (endsOf high T ws).2]) ∧ Below w.heap.size w w' := by
  refine (callsIn_wide (n := 5)).1 ?_
  refine callsIn_of_wp Try.func67 rfl trivial ?_ rfl
  simp only [Try.ntmps67, List.size_toArray, List.length_cons, List.length_nil, Nat.reduceAdd, Nat.reduceSub, Array.replicate_succ, Array.replicate_zero, List.push_toArray, List.append_toArray, List.nil_append, List.cons_append]
  have Hr := Lib.hid hr
  have Hfit := Lib.hid hfit
  clear hr hfit
  gi_wp2_with fail
  have HB0 := Lib.hid (show Below w.heap.size w (((w.alloc (.cells #[.int .i64 (T : Int), .slice A n cap, .slice A' N cap'] 79)).alloc (.cells #[.bool high] 4)).alloc (.cells (List.replicate 21 (Value.int .i64 0)).toArray 87)) from (((Below.refl _ _).alloc (Nat.le_refl _) _).alloc (by simp) _).alloc (by simp; omega) _)
  refine ⟨trivial, (callsIn_wide.2 (spread64 T 0 A A' n cap N cap' 74 #[.pointer (some ⟨w.heap.size + 1, 0, none⟩)] high (w.heap.size + 1) ws _ (Hr.out.below HB0.out (Nat.le_refl _)) hT (by omega) hN hN1 Hfit.out (.inr ⟨rfl, rfl, ?_⟩))).mono ?_⟩
  · go_simp
  rintro e w1 ⟨M, nn, rfl, _, _, _, hb⟩
  have hz : w.heap.size + 3 ≤ w1.heap.size := by have := hb.size; simp at this; omega
  have HB := Lib.hid (HB0.out.trans (hb.mono (by simp; omega)))
  have b1 : w1.cell? ⟨w.heap.size + 1, 0, none⟩ = some (.bool high) := by rw [(bcell hb).1 _ _ (by simp)]; go_simp
  have HR2 := Lib.hid (show w1.heap[w.heap.size + 1 + 1]? = some (.cells (List.replicate 21 (Value.int .i64 0)).toArray 87 (0, 0)) by
    rw [hb.block _ (by simp)]
    have := heap_alloc_new ((w.alloc (.cells #[.int .i64 (T : Int), .slice A n cap, .slice A' N cap'] 79)).alloc (.cells #[.bool high] 4)) (.cells (List.replicate 21 (Value.int .i64 0)).toArray 87)
    simpa using this)
  have hwi := spread_within high T 0 ws Hfit.out (by rw [Hr.out.1]; exact hN) hT
  obtain ⟨q, cq, ok, hq⟩ : ∃ q cq ok, spread high T ws 0 = ((q, cq), ok) := ⟨_, _, _, rfl⟩
  rw [hq] at hwi
  have Hq := Lib.hid hq
  have Hwi := Lib.hid hwi
  have Hq21 := Lib.hid (show q.length = 21 from hwi.1)
  rw [hq]
  clear hb hq hwi
  dsimp only
  gi_wp2_with (with_reducible refine holdStore 97 _ _ rfl ?_)
  unfold Held
  refine wpListIn_store rfl 97 (.tmp 7) (.tmp 16) rfl _ _ rfl rfl (store97_new rfl rfl (by rw [fv_size, Hq21.out]) (all_oneCell_toArray (fv_one q M))) ?_
  gi_wp2_with (with_reducible refine holdLoad 87 _ rfl ?_)
  unfold Held
  refine wpListIn_load rfl 87 (.tmp 18) rfl _ _ rfl (load87_pre (heap_alloc_new _ _) Hq21.out) ?_
  gi_wp2_with (with_reducible refine holdStore 87 _ _ rfl ?_)
  unfold Held
  refine wpListIn_store rfl 87 (.tmp 9) (.tmp 19) rfl _ _ rfl rfl (store87_new (by simp) rfl Hq21.out) ?_
  have HWa := Lib.hid (show Below w1.heap.size w1 ((w1.alloc (.cells (fv q M) 97)).alloc (.cells (pv q) 87)) from ((Below.refl _ _).alloc (Nat.le_refl _) _).alloc (by simp) _)
  have HG := Lib.hid (show ((w1.alloc (.cells (fv q M) 97)).alloc (.cells (pv q) 87)).heap[w1.heap.size + 1]? = some (.cells (pv q) 87 (0, 0)) from heap_alloc2_new w1 _ _)
  have HsW := Lib.hid (show ((w1.alloc (.cells (fv q M) 97)).alloc (.cells (pv q) 87)).heap.size = w1.heap.size + 2 by simp)
  obtain ⟨W2, hW2⟩ : ∃ W2, (w1.alloc (.cells (fv q M) 97)).alloc (.cells (pv q) 87) = W2 := ⟨_, rfl⟩
  rw [hW2] at HWa HG HsW ⊢
  have b2 := ((bcell HWa.out).1 (w.heap.size + 1) 0 (by omega)).trans b1
  have HR3 := Lib.hid ((HWa.out.block (w.heap.size + 1 + 1) (by omega)).trans HR2.out)
  clear hW2 b1
  cases high with
  | true =>
    gi_wp2_with (with_reducible refine holdLoad 87 _ rfl ?_)
    unfold Held
    refine wpListIn_load rfl 87 (.tmp 9) rfl _ _ rfl (load87 HG.out Hq21.out) ?_
    gi_wp2_with (with_reducible refine holdStore 87 _ _ rfl ?_)
    unfold Held
    obtain ⟨W6, hst, hb6, hg6⟩ := store87 HR3.out (by simp) Hq21.out
    refine wpListIn_store rfl 87 (.tmp 4) (.tmp 32) rfl _ _ rfl rfl hst ?_
    have Hb6 := Lib.hid hb6
    have Hg6 := Lib.hid hg6
    clear hst hb6 hg6
    gi_wp2_with fail
    refine bodyPost_ret (v := .tuple #[.agg (pv q), .bool ok]) (res_cell_tmp (fn := Try.f67) rfl rfl rfl (loadVar87 Hb6.out Hq21.out)) rfl ⟨by unfold endsOf; rw [Hq.out]; rfl, ?_⟩
    have h1 := HWa.out
    exact (HB.out.trans (h1.mono (by omega))).trans ⟨Hg6.out.os, Hg6.out.tape, Hg6.out.output, Hg6.out.size, fun j hj => Hg6.out.block j (by have := h1.size; omega) (fun e => by injection e with e; omega)⟩
  | false =>
    gi_wp2_with fail
    gi_loopw [22] (fun i wr => ∃ k : Nat, k ≤ 21 ∧ i = .int .i64 k ∧ wr.heap[w1.heap.size + 1]? = some (.cells (pv (negs k q)) 87 (0, 0)) ∧ W2.grownBy wr (some (w1.heap.size + 1))) (fun i _ => 21 - (intOf i).toNat)
    case atStart => exact ⟨0, by omega, rfl, HG.out, World.grownBy.refl _ _⟩
    case round =>
      obtain ⟨k, hk, rfl, hblk, hgr⟩ := hrel
      have Hblk2 := Lib.hid hblk
      have Hgr := Lib.hid hgr
      clear hblk hgr
      have hlen : (negs k q).length = 21 := by rw [negs_length]; exact Hq21.out
      have Hlen := Lib.hid hlen
      by_cases hlt : k < 21
      · have ck : wr.cell? ⟨w1.heap.size + 1, k, none⟩ = some (.int .i64 (nth (negs k q) k)) := cell_pv Hblk2.out k (by rw [hlen]; exact hlt)
        have fk : wr.frozen? ⟨w1.heap.size + 1, k, none⟩ = false := frozen_of_row wr _ k _ _ Hblk2.out
        obtain ⟨n0, n1⟩ := negs_bound q 1099511627776000 (fun i => by have := Hwi.out.2.2.1 i; simp only at this; omega) k k
        clear hlen
        gi_wp2_with fail
        go_roundw
        case rel => exact ⟨k + 1, by omega, by go_num, by rw [heap_setCell_same wr _ k _ _ _ Hblk2.out, pv_set]; rfl, grown_trans Hgr.out (grown_setCell wr _ k _)⟩
        case measure => simp [intOf]; omega
      · obtain rfl : k = 21 := by omega
        have HR4 := Lib.hid ((Hgr.out.block (w.heap.size + 1 + 1) (by have := HsW.out; omega) (fun e => by injection e with e; omega)).trans HR3.out)
        clear hlen
        gi_wp2_with (with_reducible refine holdLoad 87 _ rfl ?_)
        unfold Held
        refine wpListIn_load rfl 87 (.tmp 9) rfl _ _ rfl (load87 Hblk2.out Hlen.out) ?_
        gi_wp2_with (with_reducible refine holdStore 87 _ _ rfl ?_)
        unfold Held
        obtain ⟨W6, hst, hb6, hg6⟩ := store87 HR4.out (by simp) Hlen.out
        refine wpListIn_store rfl 87 (.tmp 4) (.tmp 32) rfl _ _ rfl rfl hst ?_
        have Hb6 := Lib.hid hb6
        have Hg6 := Lib.hid hg6
        clear hst hb6 hg6
        gi_wp2_with fail
        refine bodyPost_ret (v := .tuple #[.agg (pv (negs 21 q)), .bool ok]) (res_cell_tmp (fn := Try.f67) rfl rfl rfl (loadVar87 Hb6.out Hlen.out)) rfl ⟨by unfold endsOf; rw [Hq.out]; rfl, ?_⟩
        have h1 := HWa.out
        have h2 := HsW.out
        refine ((HB.out.trans (h1.mono (by omega))).trans (⟨Hgr.out.os, Hgr.out.tape, Hgr.out.output, Hgr.out.size, fun j hj => Hgr.out.block j (by omega) (fun e => by injection e with e; omega)⟩ : Below w.heap.size W2 wr)).trans ⟨Hg6.out.os, Hg6.out.tape, Hg6.out.output, Hg6.out.size, fun j hj => Hg6.out.block j (by have := Hgr.out.size; omega) (fun e => by injection e with e; omega)⟩
end Go.Proofs.Ytiankphkemakeaa
