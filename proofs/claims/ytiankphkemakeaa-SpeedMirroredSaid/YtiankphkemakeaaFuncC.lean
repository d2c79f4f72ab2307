/- The contract of the program's Span. -/
import Derived.Test.YtiankphkemakeaaFuncA
namespace Go.Proofs.Ytiankphkemakeaa
set_option linter.unusedSimpArgs false
set_option linter.unusedVariables false
open Go.RowKit Go.Shelf

/-- What Span returns. -/
def spanR (T : Int) (rs : List R) (t : Int) : Int × Int × Int :=
  if chk T rs ≠ 0 then (0, 0, chk T rs) else
  if within 1 T [t] then
    if (endsOf true T.toNat (whole T.toNat rs)).2 then (nth (endsOf false T.toNat (whole T.toNat rs)).1 t.toNat, nth (endsOf true T.toNat (whole T.toNat rs)).1 t.toNat, 0)
    else (0, 0, 21)
  else (0, 0, 3)
theorem endsOf_length (high : Bool) (T : Nat) (ws : List R) (hf : ∀ r ∈ ws, FitR r) (hN : ws.length ≤ 1000) (hT : T ≤ 20) : (endsOf high T ws).1.length = 21 := by
  have := (spread_within high T 0 ws hf hN hT).1
  unfold endsOf
  cases high
  · simp only [Bool.false_eq_true, if_false]; rw [negs_length]; exact this
  · exact this
theorem drew_below (w : World) (q : Nat) (B : Nat) : Below B w (w.drewN q) := ⟨rfl, rfl, rfl, Nat.le_refl _, fun _ _ => rfl⟩

/-- A range stored into a block that is there already. -/
theorem store43 {w : World} {B : Nat} {c : Array Value} {lo hi : Int} {t : TypeId} (h : w.heap[B]? = some (.cells c t (0, 0))) (hc : c.size = 2) :
    ∃ w', (Instr.storeAt 43 (.pointer (some ⟨B, 0, none⟩)) (.agg #[.int .i64 lo, .int .i64 hi])).run Try.prog w = .ok () w' ∧ w'.heap[B]? = some (.cells #[.int .i64 lo, .int .i64 hi] t (0, 0)) ∧ w.grownBy w' (some B) := by
  refine ⟨_, run_storeAt_mid (P := Try.prog) w B 0 43 #[.int .i64 lo, .int .i64 hi] (fun j hj => ?_) (by kernel_rfl) (by simp [Value.oneCell']), ?_, ?_⟩
  · have hj' : j < 2 := hj
    rw [Nat.zero_add, cell_of_row w B j _ _ _ h, frozen_of_row w B j _ _ h, Array.getElem?_eq_getElem (by omega)]
    exact ⟨rfl, rfl⟩
  · rw [heap_setCells B t _ 0 w c h]
    have := foldl_set [.int .i64 lo, .int .i64 hi] 0 [] c.toList rfl (by simp [hc])
    simp only [List.nil_append] at this
    rw [show c = c.toList.toArray from rfl, this]
  · obtain ⟨h1, h2, h3, h4⟩ := setCells_rest B [.int .i64 lo, .int .i64 hi] 0 w
    exact ⟨h1, h2, h3, Nat.le_of_eq h4.symm, fun k _ hk => heap_setCells_other B _ 0 w k (fun e => hk (by rw [e]))⟩
theorem loadVar43 {w : World} {B : Nat} {lo hi : Int} {t : TypeId} (h : w.heap[B]? = some (.cells #[.int .i64 lo, .int .i64 hi] t (0, 0))) : (loadVar 43 ⟨B, 0, none⟩).run Try.prog w = .ok (.agg #[.int .i64 lo, .int .i64 hi]) w :=
  run_loadVar_row w B t 43 _ (0, 0) _ h Try.underlying43 rfl (by kernel_rfl)
theorem below_grown {B : Nat} {w w' : World} {row : Option Nat} (h : w.grownBy w' row) (hr : ∀ r, row = some r → B ≤ r) (hB : B ≤ w.heap.size) : Below B w w' :=
  ⟨h.os, h.tape, h.output, h.size, fun j hj => h.block j (by omega) (fun e => by have := hr j e.symm; omega)⟩

set_option maxRecDepth 100000 in
theorem span29_bad (A : Option Addr) (n cap : Nat) (T t : Int) (rs : List R) (w : World) (h : Rules w A n rs) (hn : n ≤ 140737488355328) (he : chk T rs ≠ 0) :
    Calls Try.prog 29 #[.agg #[.int .i64 T, .slice A n cap], .int .i64 t] w fun e w' => e = .returned (.tuple #[.agg #[.int .i64 (spanR T rs t).1, .int .i64 (spanR T rs t).2.1], .int .i64 (spanR T rs t).2.2]) ∧ Below w.heap.size w w' := by
  have HB0 := Lib.hid (show Below w.heap.size w ((w.alloc (.cells #[.int .i64 T, .slice A n cap] 24)).alloc (.cells #[.int .i64 0, .int .i64 0] 43)) from ((Below.refl _ _).alloc (Nat.le_refl _) _).alloc (by simp) _)
  have H0 := Lib.hid (h.below HB0.out (Nat.le_refl _))
  have He := Lib.hid he
  have he2 : (chk T rs != 0) = true := by rw [bne_iff_ne]; exact he
  have Hm := Lib.hid (show spanR T rs t = (0, 0, chk T rs) by unfold spanR; rw [if_pos he])
  clear h he
  refine (callsIn_wide (n := 5)).1 ?_
  refine callsIn_of_wp Try.func29 rfl trivial ?_ rfl
  simp only [Try.ntmps29, List.size_toArray, List.length_cons, List.length_nil, Nat.reduceAdd, Nat.reduceSub, Array.replicate_succ, Array.replicate_zero, List.push_toArray, List.append_toArray, List.nil_append, List.cons_append]
  gi_wp2_with fail
  refine ⟨trivial, (callsIn_wide.2 (complete53_bad A n cap T rs _ H0.out hn He.out)).mono ?_⟩
  rintro e w1 ⟨rfl, hb⟩
  have hz : w.heap.size + 2 ≤ w1.heap.size := by have := hb.size; simp at this; omega
  have HR := Lib.hid (show w1.heap[w.heap.size + 1]? = some (.cells #[.int .i64 0, .int .i64 0] 43 (0, 0)) from (hb.block _ (by simp)).trans (heap_alloc2_new w _ _))
  have Hb := Lib.hid (HB0.out.trans (hb.mono (by simp; omega)))
  clear hb
  gi_wp2_with (with_reducible refine holdStore 43 _ _ rfl ?_)
  unfold Held
  obtain ⟨W6, hst, hb6, hg6⟩ := store43 (lo := 0) (hi := 0) (w := w1.alloc (.cells #[.int .i64 0, .slice none 0 0, .slice none 0 0] 79)) (B := w.heap.size + 1) ((heap_alloc_old _ _ _ (by omega)).trans HR.out) rfl
  refine wpListIn_store rfl 43 (.tmp 4) (.tmp 19) rfl _ _ rfl rfl hst ?_
  have Hb6 := Lib.hid hb6
  have Hg6 := Lib.hid hg6
  clear hst hb6 hg6
  gi_wp2_with fail
  refine bodyPost_ret (v := .tuple #[.agg #[.int .i64 0, .int .i64 0], .int .i64 (chk T rs)]) (res_cell_tmp (fn := Try.f29) rfl rfl rfl (loadVar43 Hb6.out)) rfl ⟨by rw [Hm.out], ?_⟩
  exact (Hb.out.alloc (by omega) _).trans (below_grown Hg6.out (fun r e => by injection e with e; omega) (by simp; omega))

set_option maxRecDepth 100000 in
set_option maxHeartbeats 2000000 in
theorem span29_ok (A : Option Addr) (n cap T : Nat) (t : Int) (rs : List R) (w : World) (h : Rules w A n rs) (he : chk T rs = 0) :
    Calls Try.prog 29 #[.agg #[.int .i64 (T : Int), .slice A n cap], .int .i64 t] w fun e w' => e = .returned (.tuple #[.agg #[.int .i64 (spanR T rs t).1, .int .i64 (spanR T rs t).2.1], .int .i64 (spanR T rs t).2.2]) ∧ Below w.heap.size w w' := by
  obtain ⟨hl60, hT1, hT20, _⟩ := chk_ok he
  have hn60 : n ≤ 60 := by rw [← h.1]; exact hl60
  have hT2 : T ≤ 20 := by omega
  have hT3 : 1 ≤ T := by omega
  have Hm := Lib.hid (show spanR T rs t = if within 1 T [t] then (if (endsOf true T (whole T rs)).2 then (nth (endsOf false T (whole T rs)).1 t.toNat, nth (endsOf true T (whole T rs)).1 t.toNat, 0) else (0, 0, 21)) else (0, 0, 3) by unfold spanR; rw [if_neg (by simpa using he), Int.toNat_natCast])
  have HB0 := Lib.hid (show Below w.heap.size w ((w.alloc (.cells #[.int .i64 (T : Int), .slice A n cap] 24)).alloc (.cells #[.int .i64 0, .int .i64 0] 43)) from ((Below.refl _ _).alloc (Nat.le_refl _) _).alloc (by simp) _)
  have H0 := Lib.hid (h.below HB0.out (Nat.le_refl _))
  have Hfit := Lib.hid (fit_whole he)
  have Hlen := Lib.hid (show (whole T rs).length = n + 2 * T by rw [whole_len2, h.1])
  have He := Lib.hid he
  clear h he hT1 hT20 hl60
  refine (callsIn_wide (n := 5)).1 ?_
  refine callsIn_of_wp Try.func29 rfl trivial ?_ rfl
  simp only [Try.ntmps29, List.size_toArray, List.length_cons, List.length_nil, Nat.reduceAdd, Nat.reduceSub, Array.replicate_succ, Array.replicate_zero, List.push_toArray, List.append_toArray, List.nil_append, List.cons_append]
  gi_wp2_with fail
  refine ⟨trivial, (callsIn_wide.2 (complete53_ok A n cap T rs _ H0.out He.out)).mono ?_⟩
  rintro e w1 ⟨A1, cap1, rfl, hown, hb⟩
  have Hb := Lib.hid (HB0.out.trans (hb.mono (by simp; omega)))
  have hz : w.heap.size + 2 ≤ w1.heap.size := by have := hb.size; simp at this; omega
  have HR := Lib.hid (show w1.heap[w.heap.size + 1]? = some (.cells #[.int .i64 0, .int .i64 0] 43 (0, 0)) from (hb.block _ (by simp)).trans (heap_alloc2_new w _ _))
  have Hr1 := Lib.hid (Rules.of_own hown)
  clear hb hown
  gi_wp2_with fail
  refine ⟨trivial, (callsIn_wide.2 (within55_1 _ _ t _ _ _ ?c1)).mono ?_⟩
  case c1 => go_simp
  rintro e w2 ⟨rfl, rfl⟩
  have HBa := Lib.hid (show Below w1.heap.size w1 ((w1.alloc (.cells #[.int .i64 (T : Int), .slice A n cap, .slice A1 (n + 2 * T) cap1] 79)).alloc (.cells #[.int .i64 t] 3)) from ((Below.refl _ _).alloc (Nat.le_refl _) _).alloc (by simp) _)
  have Hbox := Lib.hid (show Box79 ((w1.alloc (.cells #[.int .i64 (T : Int), .slice A n cap, .slice A1 (n + 2 * T) cap1] 79)).alloc (.cells #[.int .i64 t] 3)) w1.heap.size T A n cap A1 (n + 2 * T) cap1 by refine ⟨?_, ?_, ?_⟩ <;> (rw [World.cell?_alloc_past _ _ _ (by simp), World.cell?_alloc_new]; rfl))
  have Hsz := Lib.hid (show ((w1.alloc (.cells #[.int .i64 (T : Int), .slice A n cap, .slice A1 (n + 2 * T) cap1] 79)).alloc (.cells #[.int .i64 t] 3)).heap.size = w1.heap.size + 2 by simp)
  have Hr2 := Lib.hid (Hr1.out.below HBa.out (Nat.le_refl _))
  obtain ⟨W2, hW2⟩ : ∃ W2, (w1.alloc (.cells #[.int .i64 (T : Int), .slice A n cap, .slice A1 (n + 2 * T) cap1] 79)).alloc (.cells #[.int .i64 t] 3) = W2 := ⟨_, rfl⟩
  rw [hW2] at HBa Hbox Hsz Hr2 ⊢
  clear hW2
  have HR2 := Lib.hid ((HBa.out.block (w.heap.size + 1) (by omega)).trans HR.out)
  have HBw := Lib.hid (Hb.out.trans (HBa.out.mono (by omega)))
  have b0 := Hbox.out.1
  have b1 := Hbox.out.2.1
  have b2 := Hbox.out.2.2
  cases hq : within 1 (T : Int) [t] with
  | false =>
    have Hq := Lib.hid hq
    clear hq
    gi_wp2_with (with_reducible refine holdStore 43 _ _ rfl ?_)
    unfold Held
    obtain ⟨W6, hst, hb6, hg6⟩ := store43 (lo := 0) (hi := 0) HR2.out rfl
    refine wpListIn_store rfl 43 (.tmp 4) (.tmp 28) rfl _ _ rfl rfl hst ?_
    have Hb6 := Lib.hid hb6
    have Hg6 := Lib.hid hg6
    clear hst hb6 hg6
    gi_wp2_with fail
    refine bodyPost_ret (v := .tuple #[.agg #[.int .i64 0, .int .i64 0], .int .i64 3]) (res_cell_tmp (fn := Try.f29) rfl rfl rfl (loadVar43 Hb6.out)) rfl ⟨by rw [Hm.out, Hq.out]; rfl, ?_⟩
    exact HBw.out.trans (below_grown Hg6.out (fun r e => by injection e with e; omega) (by have := HBw.out.size; omega))
  | true =>
    have hxy : 1 ≤ t ∧ t ≤ (T : Int) := by simpa [within] using hq
    have Hq := Lib.hid hq
    obtain ⟨ht1, ht2⟩ := hxy
    clear hq
    obtain ⟨t', rfl⟩ := Int.eq_ofNat_of_zero_le (show 0 ≤ t by omega)
    have Hm2 := Lib.hid (show spanR T rs t' = if (endsOf true T (whole T rs)).2 then (nth (endsOf false T (whole T rs)).1 t', nth (endsOf true T (whole T rs)).1 t', 0) else (0, 0, 21) by rw [Hm.out, Hq.out, if_pos rfl, Int.toNat_natCast])
    have hlF := endsOf_length false T (whole T rs) Hfit.out (by rw [Hlen.out]; omega) hT2
    have hlT := endsOf_length true T (whole T rs) Hfit.out (by rw [Hlen.out]; omega) hT2
    gi_wp2_with fail
    refine ⟨trivial, (callsIn_wide.2 (ends67 T A A1 n cap (n + 2 * T) cap1 false (whole T rs) W2 Hr2.out hT2 (by omega) (by omega) Hfit.out)).mono ?_⟩
    rintro e w3 ⟨rfl, hb3⟩
    obtain ⟨pF, okF, hF⟩ : ∃ pF okF, endsOf false T (whole T rs) = (pF, okF) := ⟨_, _, rfl⟩
    rw [hF] at hlF ⊢
    have HF := Lib.hid hF
    have HlF := Lib.hid hlF
    have hl2 : w1.heap.size < W2.heap.size := by have := Hsz.out; omega
    have hz3 : W2.heap.size ≤ w3.heap.size := hb3.size
    have e0 := ((bcell hb3).1 w1.heap.size 0 hl2).trans b0
    have e1 := ((bcell hb3).1 w1.heap.size 1 hl2).trans b1
    have e2 := ((bcell hb3).1 w1.heap.size 2 hl2).trans b2
    have Hb3 := Lib.hid hb3
    clear hb3 hF hlF b0 b1 b2
    dsimp only
    gi_wp2_with (with_reducible refine holdStore 87 _ _ rfl ?_)
    unfold Held
    refine wpListIn_store rfl 87 (.tmp 8) (.tmp 32) rfl _ _ rfl rfl (store87_new rfl rfl HlF.out) ?_
    have HBb := Lib.hid (show Below w3.heap.size w3 (w3.alloc (.cells (pv pF) 87)) from (Below.refl _ _).alloc (Nat.le_refl _) _)
    have Hpf := Lib.hid (show (w3.alloc (.cells (pv pF) 87)).heap[w3.heap.size]? = some (.cells (pv pF) 87 (0, 0)) from heap_alloc_new _ _)
    have Hsz4 := Lib.hid (show (w3.alloc (.cells (pv pF) 87)).heap.size = w3.heap.size + 1 by simp)
    obtain ⟨W4, hW4⟩ : ∃ W4, w3.alloc (.cells (pv pF) 87) = W4 := ⟨_, rfl⟩
    rw [hW4] at HBb Hpf Hsz4 ⊢
    clear hW4
    have f0 := ((bcell HBb.out).1 w1.heap.size 0 (by omega)).trans e0
    have f1 := ((bcell HBb.out).1 w1.heap.size 1 (by omega)).trans e1
    have f2 := ((bcell HBb.out).1 w1.heap.size 2 (by omega)).trans e2
    have HB4 := Lib.hid (show Below W2.heap.size W2 W4 from Hb3.out.trans (HBb.out.mono hz3))
    clear e0 e1 e2
    gi_wp2_with fail
    clear f0 f1 f2
    refine ⟨trivial, (callsIn_wide.2 (ends67 T A A1 n cap (n + 2 * T) cap1 true (whole T rs) W4 (Hr2.out.below HB4.out (Nat.le_refl _)) hT2 (by omega) (by omega) Hfit.out)).mono ?_⟩
    rintro e w5 ⟨rfl, hb5⟩
    obtain ⟨pT, okT, hT⟩ : ∃ pT okT, endsOf true T (whole T rs) = (pT, okT) := ⟨_, _, rfl⟩
    rw [hT] at hlT ⊢
    have HT := Lib.hid hT
    have HlT := Lib.hid hlT
    have hz5 : W4.heap.size ≤ w5.heap.size := hb5.size
    have Hb5 := Lib.hid hb5
    clear hb5 hT hlT
    dsimp only
    gi_wp2_with (with_reducible refine holdStore 87 _ _ rfl ?_)
    unfold Held
    refine wpListIn_store rfl 87 (.tmp 10) (.tmp 37) rfl _ _ rfl rfl (store87_new rfl rfl HlT.out) ?_
    have HBc := Lib.hid (show Below w5.heap.size w5 (w5.alloc (.cells (pv pT) 87)) from (Below.refl _ _).alloc (Nat.le_refl _) _)
    have Hpt := Lib.hid (show (w5.alloc (.cells (pv pT) 87)).heap[w5.heap.size]? = some (.cells (pv pT) 87 (0, 0)) from heap_alloc_new _ _)
    obtain ⟨W6, hW6⟩ : ∃ W6, w5.alloc (.cells (pv pT) 87) = W6 := ⟨_, rfl⟩
    rw [hW6] at HBc Hpt ⊢
    clear hW6
    have hs4 := Hsz4.out
    have HB6 := Lib.hid (show Below W4.heap.size W4 W6 from Hb5.out.trans (HBc.out.mono hz5))
    have cF : W6.cell? ⟨w3.heap.size, t', none⟩ = some (.int .i64 (nth pF t')) := ((bcell HB6.out).1 w3.heap.size t' (by omega)).trans (cell_pv Hpf.out t' (by rw [HlF.out]; omega))
    have cT : W6.cell? ⟨w5.heap.size, t', none⟩ = some (.int .i64 (nth pT t')) := cell_pv Hpt.out t' (by rw [HlT.out]; omega)
    have HBA := Lib.hid (show Below w.heap.size w W6 from (HBw.out.trans (HB4.out.mono (by have := HBw.out.size; omega))).trans (HB6.out.mono (by have := HBw.out.size; have := HB4.out.size; omega)))
    have HR6 := Lib.hid (show W6.heap[w.heap.size + 1]? = some (.cells #[.int .i64 0, .int .i64 0] 43 (0, 0)) from (HB6.out.block _ (by have := HB4.out.size; omega)).trans ((HB4.out.block _ (by omega)).trans HR2.out))
    have ht21 : (t' : Int) < 21 := by omega
    cases okT with
    | false =>
      gi_wp2_with (with_reducible refine holdStore 43 _ _ rfl ?_)
      unfold Held
      obtain ⟨W7, hst, hb7, hg7⟩ := store43 (lo := 0) (hi := 0) HR6.out rfl
      refine wpListIn_store rfl 43 (.tmp 4) (.tmp 41) rfl _ _ rfl rfl hst ?_
      have Hb7 := Lib.hid hb7
      have Hg7 := Lib.hid hg7
      clear hst hb7 hg7
      gi_wp2_with fail
      refine bodyPost_ret (v := .tuple #[.agg #[.int .i64 0, .int .i64 0], .int .i64 21]) (res_cell_tmp (fn := Try.f29) rfl rfl rfl (loadVar43 Hb7.out)) rfl ⟨by rw [Hm2.out, HT.out]; rfl, ?_⟩
      exact HBA.out.trans (below_grown Hg7.out (fun r e => by injection e with e; omega) (by have := HBA.out.size; omega))
    | true =>
      gi_wp2_with fail
      refine region_still_tail_in openF_wide 7 (by kernel_rfl) (by kernel_rfl) (by rfl) ?_
      simp only [List.take_succ_cons, List.take_zero, List.drop_succ_cons, List.drop_zero]
      still_step
      still_step
      still_step
      still_step
      still_step
      still_step
      still_step
      refine wpStill_nil ?_
      obtain ⟨W7, hst, hb7, hg7⟩ := store43 (w := W6.drew) (lo := nth pF t') (hi := nth pT t') HR6.out rfl
      refine wpListIn_store rfl 43 (.tmp 4) (.tmp 48) rfl _ _ rfl rfl hst ?_
      have Hb7 := Lib.hid hb7
      have Hg7 := Lib.hid hg7
      clear hst hb7 hg7
      gi_wp2_with fail
      refine bodyPost_ret (v := .tuple #[.agg #[.int .i64 (nth pF t'), .int .i64 (nth pT t')], .int .i64 0]) (res_cell_tmp (fn := Try.f29) rfl rfl rfl (loadVar43 Hb7.out)) rfl ⟨by rw [Hm2.out, HT.out, HF.out]; rfl, ?_⟩
      exact (HBA.out.trans (drew_below W6 1 _)).trans (below_grown Hg7.out (fun r e => by injection e with e; omega) (by have := HBA.out.size; exact this))

theorem span29 (A : Option Addr) (n cap : Nat) (T t : Int) (rs : List R) (w : World) (h : Rules w A n rs) (hn : n ≤ 140737488355328) :
    Calls Try.prog 29 #[.agg #[.int .i64 T, .slice A n cap], .int .i64 t] w fun e w' => e = .returned (.tuple #[.agg #[.int .i64 (spanR T rs t).1, .int .i64 (spanR T rs t).2.1], .int .i64 (spanR T rs t).2.2]) ∧ Below w.heap.size w w' := by
  by_cases he : chk T rs = 0
  · obtain ⟨_, hT1, _, _⟩ := chk_ok he
    obtain ⟨k, rfl⟩ := Int.eq_ofNat_of_zero_le (show 0 ≤ T by omega)
    exact span29_ok A n cap k t rs w h he
  · exact span29_bad A n cap T t rs w h hn he
end Go.Proofs.Ytiankphkemakeaa
