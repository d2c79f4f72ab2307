/- The contract of the program's Sung. -/
import Derived.Test.YtiankphkemakeaaFuncC
namespace Go.Proofs.Ytiankphkemakeaa
set_option linter.unusedSimpArgs false
set_option linter.unusedVariables false
open Go.RowKit Go.Shelf

theorem endsOf_bound (high : Bool) (T : Nat) (ws : List R) (hf : ∀ r ∈ ws, FitR r) (hN : ws.length ≤ 1000) (hT : T ≤ 20) : ∀ i, -1099511627776 ≤ nth (endsOf high T ws).1 i ∧ nth (endsOf high T ws).1 i ≤ 1099511627776 := by
  have := (spread_within high T 0 ws hf hN hT).2.2.1
  have h1 : ∀ i, -1099511627776 ≤ nth (spread high T ws 0).1.1 i ∧ nth (spread high T ws 0).1.1 i ≤ 1099511627776 := fun i => by have := this i; omega
  unfold endsOf
  cases high
  · simp only [Bool.false_eq_true, if_false]
    exact negs_bound _ _ h1 21
  · exact h1
theorem spanR_bound (T t : Int) (rs : List R) : (-1099511627776 ≤ (spanR T rs t).1 ∧ (spanR T rs t).1 ≤ 1099511627776) ∧ -1099511627776 ≤ (spanR T rs t).2.1 ∧ (spanR T rs t).2.1 ≤ 1099511627776 := by
  unfold spanR
  by_cases he : chk T rs = 0
  · rw [if_neg (by simpa using he)]
    obtain ⟨hl, hT1, hT2, _⟩ := chk_ok he
    obtain ⟨k, rfl⟩ := Int.eq_ofNat_of_zero_le (show 0 ≤ T by omega)
    have h1 := endsOf_bound false k (whole k rs) (fit_whole he) (by rw [whole_len2]; omega) (by omega) t.toNat
    have h2 := endsOf_bound true k (whole k rs) (fit_whole he) (by rw [whole_len2]; omega) (by omega) t.toNat
    rw [Int.toNat_natCast]
    generalize nth (endsOf false k (whole k rs)).1 t.toNat = x at h1 ⊢
    generalize nth (endsOf true k (whole k rs)).1 t.toNat = y at h2 ⊢
    generalize (endsOf true k (whole k rs)).2 = b
    cases within 1 (k : Int) [t]
    · simp
    · cases b
      · simp
      · exact ⟨h1, h2⟩
  · rw [if_pos he]
    simp

/-- What Sung returns. -/
def sungR (T : Int) (rs : List R) (t h : Int) : Int × Int × Int :=
  if chk T rs ≠ 0 then (0, 0, chk T rs) else
  if within 1 1000000 [h] then
    if (spanR T rs t).2.2 ≠ 0 then (0, 0, (spanR T rs t).2.2) else ((h * (spanR T rs t).1).tdiv 16000, (h * (spanR T rs t).2.1).tdiv 16000, 0)
  else (0, 0, 3)

/-- A range and an error are returned. -/
def RetG (w : World) (r : Int × Int × Int) (e : Ending) (w' : World) : Prop := e = .returned (.tuple #[.agg #[.int .i64 r.1, .int .i64 r.2.1], .int .i64 r.2.2]) ∧ Below w.heap.size w w'

set_option maxRecDepth 100000 in
set_option maxHeartbeats 2000000 in
theorem sung33 (A : Option Addr) (n cap : Nat) (T t hd : Int) (rs : List R) (w : World) (h : Rules w A n rs) (hn : n ≤ 140737488355328) :
    Calls Try.prog 33 #[.agg #[.int .i64 T, .slice A n cap], .int .i64 t, .int .i64 hd] w (RetG w (sungR T rs t hd)) := by
  have HB0 := Lib.hid (show Below w.heap.size w ((w.alloc (.cells #[.int .i64 T, .slice A n cap] 24)).alloc (.cells #[.int .i64 0, .int .i64 0] 43)) from ((Below.refl _ _).alloc (Nat.le_refl _) _).alloc (by simp) _)
  have H0 := Lib.hid (h.below HB0.out (Nat.le_refl _))
  clear h
  refine (callsIn_wide (n := 5)).1 ?_
  refine callsIn_of_wp Try.func33 rfl trivial ?_ rfl
  simp only [Try.ntmps33, List.size_toArray, List.length_cons, List.length_nil, Nat.reduceAdd, Nat.reduceSub, Array.replicate_succ, Array.replicate_zero, List.push_toArray, List.append_toArray, List.nil_append, List.cons_append]
  gi_wp2_with fail
  refine ⟨trivial, (callsIn_wide.2 (checkSheet18 A n cap rs T _ H0.out hn)).mono ?_⟩
  rintro e w1 ⟨rfl, hb⟩
  have hz : w.heap.size + 2 ≤ w1.heap.size := by have := hb.size; simp at this; omega
  have HR := Lib.hid (show w1.heap[w.heap.size + 1]? = some (.cells #[.int .i64 0, .int .i64 0] 43 (0, 0)) from (hb.block _ (by simp)).trans (heap_alloc2_new w _ _))
  have c0 : w1.cell? ⟨w.heap.size, 0, none⟩ = some (.int .i64 T) := by rw [(bcell hb).1 _ _ (by simp; omega)]; go_simp
  have c1 : w1.cell? ⟨w.heap.size, 1, none⟩ = some (.slice A n cap) := by rw [(bcell hb).1 _ _ (by simp; omega)]; go_simp
  have H1 := Lib.hid (H0.out.below hb (Nat.le_refl _))
  have Hb := Lib.hid (HB0.out.trans (hb.mono (by simp; omega)))
  clear hb
  by_cases he : chk T rs = 0
  · have Hm := Lib.hid (show sungR T rs t hd = if within 1 1000000 [hd] then (if (spanR T rs t).2.2 ≠ 0 then (0, 0, (spanR T rs t).2.2) else ((hd * (spanR T rs t).1).tdiv 16000, (hd * (spanR T rs t).2.1).tdiv 16000, 0)) else (0, 0, 3) by unfold sungR; rw [if_neg (by simpa using he)])
    rw [he]
    gi_wp2_with fail
    refine ⟨trivial, (callsIn_wide.2 (within56_1 _ _ hd _ _ _ ?c1)).mono ?_⟩
    case c1 => go_simp
    rintro e w2 ⟨rfl, rfl⟩
    have HR2 := Lib.hid (show (w1.alloc (.cells #[.int .i64 hd] 2)).heap[w.heap.size + 1]? = some (.cells #[.int .i64 0, .int .i64 0] 43 (0, 0)) from (heap_alloc_old _ _ _ (by omega)).trans HR.out)
    have HB2 := Lib.hid (show Below w.heap.size w (w1.alloc (.cells #[.int .i64 hd] 2)) from Hb.out.alloc (by omega) _)
    cases hq : within 1 1000000 [hd] with
    | false =>
      have Hq := Lib.hid hq
      clear hq
      gi_wp2_with (with_reducible refine holdStore 43 _ _ rfl ?_)
      unfold Held
      obtain ⟨W6, hst, hb6, hg6⟩ := store43 (lo := 0) (hi := 0) HR2.out rfl
      refine wpListIn_store rfl 43 (.tmp 6) (.tmp 21) rfl _ _ rfl rfl hst ?_
      have Hb6 := Lib.hid hb6
      have Hg6 := Lib.hid hg6
      clear hst hb6 hg6
      gi_wp2_with fail
      refine bodyPost_ret (v := .tuple #[.agg #[.int .i64 0, .int .i64 0], .int .i64 3]) (res_cell_tmp (fn := Try.f33) rfl rfl rfl (loadVar43 Hb6.out)) rfl ⟨by rw [Hm.out, Hq.out]; rfl, ?_⟩
      exact HB2.out.trans (below_grown Hg6.out (fun r e => by injection e with e; omega) (by have := HB2.out.size; omega))
    | true =>
      have Hq := Lib.hid hq
      have hh : 1 ≤ hd ∧ hd ≤ 1000000 := by simpa [within] using hq
      obtain ⟨hh1, hh2⟩ := hh
      clear hq
      have d0 : (w1.alloc (.cells #[.int .i64 hd] 2)).cell? ⟨w.heap.size, 0, none⟩ = some (.int .i64 T) := by rw [World.cell?_alloc_past _ _ _ (by omega)]; exact c0
      have d1 : (w1.alloc (.cells #[.int .i64 hd] 2)).cell? ⟨w.heap.size, 1, none⟩ = some (.slice A n cap) := by rw [World.cell?_alloc_past _ _ _ (by omega)]; exact c1
      have H2 := Lib.hid (H1.out.below ((Below.refl _ w1).alloc (Nat.le_refl _) (.cells #[.int .i64 hd] 2)) (Nat.le_refl _))
      obtain ⟨W2, hW2⟩ : ∃ W2, w1.alloc (.cells #[.int .i64 hd] 2) = W2 := ⟨_, rfl⟩
      rw [hW2] at HR2 HB2 H2 d0 d1 ⊢
      clear hW2 c0 c1
      gi_wp2_with fail
      refine ⟨trivial, (callsIn_wide.2 (span29 A n cap T t rs W2 H2.out hn)).mono ?_⟩
      rintro e w3 ⟨rfl, hb3⟩
      have hbd := spanR_bound T t rs
      obtain ⟨lo, hi, er, hs⟩ : ∃ lo hi er, spanR T rs t = (lo, hi, er) := ⟨_, _, _, rfl⟩
      rw [hs] at hbd ⊢
      have Hs := Lib.hid hs
      obtain ⟨⟨l0, l1⟩, h0, h1⟩ := hbd
      have HR3 := Lib.hid ((hb3.block (w.heap.size + 1) (lt_of_block HR2.out)).trans HR2.out)
      have HB3 := Lib.hid (HB2.out.trans (hb3.mono HB2.out.size))
      have hz3 : w.heap.size + 2 ≤ w3.heap.size := by have := hb3.size; have := lt_of_block HR2.out; omega
      clear hb3 hs d0 d1
      dsimp only at l0 l1 h0 h1 ⊢
      gi_wp2_with (with_reducible refine holdStore 43 _ _ rfl ?_)
      unfold Held
      obtain ⟨W4, hst, hb4, hg4⟩ := store43 (lo := lo) (hi := hi) (w := w3.alloc (.cells #[.int .i64 0, .int .i64 0] 43)) (B := w3.heap.size) (heap_alloc_new _ _) rfl
      refine wpListIn_store rfl 43 (.tmp 9) (.tmp 26) rfl _ _ rfl rfl hst ?_
      have HB4 := Lib.hid (show Below w.heap.size w W4 from (HB3.out.alloc (by omega) _).trans (below_grown hg4 (fun r e => by injection e with e; omega) (by simp; omega)))
      have HR4 := Lib.hid (show W4.heap[w.heap.size + 1]? = some (.cells #[.int .i64 0, .int .i64 0] 43 (0, 0)) from (hg4.block _ (by simp; omega) (fun e => by injection e; omega)).trans ((heap_alloc_old _ _ _ (by omega)).trans HR3.out))
      have e0 : W4.cell? ⟨w3.heap.size, 0, none⟩ = some (.int .i64 lo) := by rw [cell_of_row W4 _ 0 _ _ _ hb4]; rfl
      have e1 : W4.cell? ⟨w3.heap.size, 1, none⟩ = some (.int .i64 hi) := by rw [cell_of_row W4 _ 1 _ _ _ hb4]; rfl
      clear hst hb4 hg4
      by_cases her : er = 0
      · have m1 : -9223372036854775808 ≤ hd * lo ∧ hd * lo ≤ 9223372036854775807 := by
          have a1 : hd * lo ≤ hd * 1099511627776 := Int.mul_le_mul_of_nonneg_left l1 (by omega)
          have a2 : hd * -1099511627776 ≤ hd * lo := Int.mul_le_mul_of_nonneg_left l0 (by omega)
          constructor <;> omega
        have m2 : -9223372036854775808 ≤ hd * hi ∧ hd * hi ≤ 9223372036854775807 := by
          have a1 : hd * hi ≤ hd * 1099511627776 := Int.mul_le_mul_of_nonneg_left h1 (by omega)
          have a2 : hd * -1099511627776 ≤ hd * hi := Int.mul_le_mul_of_nonneg_left h0 (by omega)
          constructor <;> omega
        obtain ⟨m10, m11⟩ := m1
        obtain ⟨m20, m21⟩ := m2
        subst her
        gi_wp2_with (with_reducible refine holdStore 43 _ _ rfl ?_)
        unfold Held
        obtain ⟨W6, hst, hb6, hg6⟩ := store43 (lo := (hd * lo).tdiv 16000) (hi := (hd * hi).tdiv 16000) HR4.out rfl
        refine wpListIn_store rfl 43 (.tmp 6) (.tmp 42) rfl _ _ rfl rfl hst ?_
        have Hb6 := Lib.hid hb6
        have Hg6 := Lib.hid hg6
        clear hst hb6 hg6
        gi_wp2_with fail
        refine bodyPost_ret (v := .tuple #[.agg #[.int .i64 ((hd * lo).tdiv 16000), .int .i64 ((hd * hi).tdiv 16000)], .int .i64 0]) (res_cell_tmp (fn := Try.f33) rfl rfl rfl (loadVar43 Hb6.out)) rfl ⟨by rw [Hm.out, Hq.out, Hs.out, if_pos rfl, if_neg (by simp)], ?_⟩
        exact HB4.out.trans (below_grown Hg6.out (fun r e => by injection e with e; omega) (by have := HB4.out.size; omega))
      · have her2 : (er != 0) = true := by rw [bne_iff_ne]; exact her
        have Her := Lib.hid her
        clear her
        gi_wp2_with (with_reducible refine holdStore 43 _ _ rfl ?_)
        unfold Held
        obtain ⟨W6, hst, hb6, hg6⟩ := store43 (lo := 0) (hi := 0) HR4.out rfl
        refine wpListIn_store rfl 43 (.tmp 6) (.tmp 30) rfl _ _ rfl rfl hst ?_
        have Hb6 := Lib.hid hb6
        have Hg6 := Lib.hid hg6
        clear hst hb6 hg6
        gi_wp2_with fail
        refine bodyPost_ret (v := .tuple #[.agg #[.int .i64 0, .int .i64 0], .int .i64 er]) (res_cell_tmp (fn := Try.f33) rfl rfl rfl (loadVar43 Hb6.out)) rfl ⟨by rw [Hm.out, Hq.out, Hs.out, if_pos rfl, if_pos Her.out], ?_⟩
        exact HB4.out.trans (below_grown Hg6.out (fun r e => by injection e with e; omega) (by have := HB4.out.size; omega))
  · have he2 : (chk T rs != 0) = true := by rw [bne_iff_ne]; exact he
    have Hm := Lib.hid (show sungR T rs t hd = (0, 0, chk T rs) by unfold sungR; rw [if_pos he])
    gi_wp2_with (with_reducible refine holdStore 43 _ _ rfl ?_)
    unfold Held
    obtain ⟨W6, hst, hb6, hg6⟩ := store43 (lo := 0) (hi := 0) HR.out rfl
    refine wpListIn_store rfl 43 (.tmp 6) (.tmp 15) rfl _ _ rfl rfl hst ?_
    have Hb6 := Lib.hid hb6
    have Hg6 := Lib.hid hg6
    clear hst hb6 hg6
    gi_wp2_with fail
    refine bodyPost_ret (v := .tuple #[.agg #[.int .i64 0, .int .i64 0], .int .i64 (chk T rs)]) (res_cell_tmp (fn := Try.f33) rfl rfl rfl (loadVar43 Hb6.out)) rfl ⟨by rw [Hm.out], ?_⟩
    exact Hb.out.trans (below_grown Hg6.out (fun r e => by injection e with e; omega) (by have := Hb.out.size; omega))
end Go.Proofs.Ytiankphkemakeaa
