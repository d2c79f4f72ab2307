/- Stage 3: the law ScaleKnown. -/
import Derived.Test.YtdfdlklglbefiaaWk
import Derived.Test.YtdfdlklglbefiaaCk23
namespace Go.Proofs.Ytdfdlklglbefiaa
set_option linter.unusedSimpArgs false
set_option linter.unusedVariables false
open Go.RowKit Go.Shelf
theorem songX_most1 {st : List Int} {m : Int} (h : MostR songX 1 st m) : m = 2 := by
  have h1 := h.best [130] (by unfold Incr; decide) (by decide)
  have e1 : cntM songX [130] = 2 := by decide
  have hl := h.len
  rw [h.cnt]
  have h3 : cntM songX st ≤ 2 := by
    match st, hl with
    | [], _ => rw [cntM_nil]; omega
    | [x], _ =>
      simp only [cntM, songX, meets, onR, List.countP_cons, List.countP_nil, List.any_cons, List.any_nil, Bool.or_false]
      by_cases a1 : (100 : Int) ≤ x <;> by_cases a2 : x ≤ 140 <;> by_cases a3 : (120 : Int) ≤ x <;> by_cases a4 : x ≤ 200 <;> by_cases a5 : (300 : Int) ≤ x <;> by_cases a6 : x ≤ 330 <;> by_cases a7 : (190 : Int) ≤ x <;> by_cases a8 : x ≤ 310 <;> by_cases a9 : (320 : Int) ≤ x <;> by_cases a10 : x ≤ 400 <;> first | omega | simp [a1, a2, a3, a4, a5, a6, a7, a8, a9, a10]
    | x :: y :: l, hl => simp at hl; omega
  omega
theorem songX_most3 {st : List Int} {m : Int} (h : MostR songX 3 st m) : m = 5 := by
  have h1 := h.best [140, 310, 400] (by unfold Incr; decide) (by decide)
  have e1 : cntM songX [140, 310, 400] = 5 := by decide
  have h2 : cntM songX st ≤ 5 := List.countP_le_length
  rw [h.cnt]
  omega
theorem songX_share03 {may must : Bool} {e : Int} (h : SrR songX 0 3 may must e) : may = false ∧ must = false ∧ e = 0 := by
  rcases h with ⟨h1, _⟩ | ⟨_, h1, _⟩ | ⟨_, _, _, a, b, c⟩ | ⟨_, _, h1, _⟩
  · exact absurd songX_ok h1
  · exact absurd h1 (by decide)
  · exact ⟨b, c, a⟩
  · exact absurd h1 (by decide)

set_option maxRecDepth 100000 in
set_option maxHeartbeats 40000000 in
theorem known13 (w : World) : Calls Try.prog 13 #[] w fun en w' => en = .returned (.bool true) ∧ Below w.heap.size w w' := by
  go_enter Try.func13, Try.ntmps13
  go_wp2_with fail
  refine (song39 w).mono ?_
  rintro en w1 ⟨D, rfl, hr, hD, hb⟩
  have S := Lib.hid hr
  have B := Lib.hid hb
  clear hr hb hD
  go_wp2_with fail
  refine (share30 (some ⟨D, 0, none⟩) 5 5 songX 0 3 w1 S.out).mono ?_
  rintro en w2 ⟨hb, may, must, e, hs, rfl⟩
  replace S := Lib.hid (S.out.below hb (Nat.le_refl _))
  replace B := Lib.hid (B.out.trans (hb.mono B.out.size))
  obtain ⟨rfl, rfl, rfl⟩ := songX_share03 hs
  clear hs hb
  go_wp2_with fail
  have hn := heap_alloc_new_ w2 (.cells #[.bool false, .bool false] 43)
  have hb := below_alloc_ w2 (.cells #[.bool false, .bool false] 43)
  obtain ⟨w3, hV⟩ : ∃ w3, w2.alloc (.cells #[.bool false, .bool false] 43) = w3 := ⟨_, rfl⟩
  rw [hV] at hn hb ⊢
  clear hV
  replace S := Lib.hid (S.out.below hb (Nat.le_refl _))
  replace B := Lib.hid (B.out.trans (hb.mono B.out.size))
  have R := Lib.hid hn
  clear hn hb
  refine (most33 most58 (some ⟨D, 0, none⟩) 5 5 songX 1 w3 S.out).mono ?_
  rintro en w4 ⟨hb, hor⟩
  obtain ⟨h0, _⟩ | ⟨_, h0, _⟩ | ⟨_, _, st1, Cm1, cpm1, m1, hm, rfl, hi, hf⟩ := hor
  · exact absurd songX_ok h0
  · exact absurd h0 (by decide)
  replace S := Lib.hid (S.out.below hb (Nat.le_refl _))
  replace B := Lib.hid (B.out.trans (hb.mono B.out.size))
  replace R := Lib.hid ((hb.block _ (lt_of_block R.out)).trans R.out)
  obtain rfl := songX_most1 hm
  obtain ⟨ls1, hls⟩ : ∃ ls1, st1.length = ls1 := ⟨_, rfl⟩
  rw [hls]
  clear hi hf hb hm hls
  go_wp2_with fail
  refine (most33 most58 (some ⟨D, 0, none⟩) 5 5 songX 3 w4 S.out).mono ?_
  rintro en w5 ⟨hb, hor⟩
  obtain ⟨h0, _⟩ | ⟨_, h0, _⟩ | ⟨_, _, st3, Cm3, cpm3, m3, hm, rfl, hi, hf⟩ := hor
  · exact absurd songX_ok h0
  · exact absurd h0 (by decide)
  replace S := Lib.hid (S.out.below hb (Nat.le_refl _))
  replace B := Lib.hid (B.out.trans (hb.mono B.out.size))
  replace R := Lib.hid ((hb.block _ (lt_of_block R.out)).trans R.out)
  obtain rfl := songX_most3 hm
  obtain ⟨ls3, hls⟩ : ∃ ls3, st3.length = ls3 := ⟨_, rfl⟩
  rw [hls]
  clear hi hf hb hm hls
  go_wp2_with fail
  have hi2 : Ints (w5.alloc (.cells #[.int .i64 0, .int .i64 3, .int .i64 4] 3)) (some ⟨w5.heap.size, 0, none⟩) 3 [0, 3, 4] := ints_new w5 [0, 3, 4] 3
  have hb := below_alloc_ w5 (.cells #[.int .i64 0, .int .i64 3, .int .i64 4] 3)
  obtain ⟨w6, hV⟩ : ∃ w6, w5.alloc (.cells #[.int .i64 0, .int .i64 3, .int .i64 4] 3) = w6 := ⟨_, rfl⟩
  rw [hV] at hi2 hb ⊢
  clear hV
  replace S := Lib.hid (S.out.below hb (Nat.le_refl _))
  replace B := Lib.hid (B.out.trans (hb.mono B.out.size))
  replace R := Lib.hid ((hb.block _ (lt_of_block R.out)).trans R.out)
  have L1 := Lib.hid hi2
  clear hi2 hb
  have hc := checkApart23 (some ⟨D, 0, none⟩) 5 5 songX (some ⟨w5.heap.size, 0, none⟩) 3 3 [0, 3, 4] w6 S.out L1.out (by omega) (by omega)
  rw [show ckAp songX [0, 3, 4] = 0 from by decide] at hc
  refine hc.mono ?_
  clear hc
  rintro en w7 ⟨rfl, hb⟩
  replace S := Lib.hid (S.out.below hb (Nat.le_refl _))
  replace B := Lib.hid (B.out.trans (hb.mono B.out.size))
  replace R := Lib.hid ((hb.block _ (lt_of_block R.out)).trans R.out)
  clear hb L1
  go_wp2_with fail
  have hi2 : Ints (w7.alloc (.cells #[.int .i64 0, .int .i64 1] 3)) (some ⟨w7.heap.size, 0, none⟩) 2 [0, 1] := ints_new w7 [0, 1] 3
  have hb := below_alloc_ w7 (.cells #[.int .i64 0, .int .i64 1] 3)
  obtain ⟨w8, hV⟩ : ∃ w8, w7.alloc (.cells #[.int .i64 0, .int .i64 1] 3) = w8 := ⟨_, rfl⟩
  rw [hV] at hi2 hb ⊢
  clear hV
  replace S := Lib.hid (S.out.below hb (Nat.le_refl _))
  replace B := Lib.hid (B.out.trans (hb.mono B.out.size))
  replace R := Lib.hid ((hb.block _ (lt_of_block R.out)).trans R.out)
  have L1 := Lib.hid hi2
  clear hi2 hb
  have q2 : ∀ W, (binOp .eql 43 (.agg #[.bool false, .bool false]) (.agg #[.bool false, .bool false])).run Try.prog W = .ok (.bool true) W := fun W => run_eqS false false false false W
  have hc := checkApart23 (some ⟨D, 0, none⟩) 5 5 songX (some ⟨w7.heap.size, 0, none⟩) 2 2 [0, 1] w8 S.out L1.out (by omega) (by omega)
  rw [show ckAp songX [0, 1] = 14 from by decide] at hc
  refine hc.mono ?_
  clear hc
  rintro en w9 ⟨rfl, hb⟩
  replace S := Lib.hid (S.out.below hb (Nat.le_refl _))
  replace B := Lib.hid (B.out.trans (hb.mono B.out.size))
  replace R := Lib.hid ((hb.block _ (lt_of_block R.out)).trans R.out)
  clear hb L1
  have x0 : w9.cell? ⟨w2.heap.size, 0, none⟩ = some (.bool false) := by rw [cell_row R.out]; rfl
  have x1 : w9.cell? ⟨w2.heap.size, 1, none⟩ = some (.bool false) := by rw [cell_row R.out]; rfl
  go_wp2_with fail
  clear x0 x1 q2
  have hc := works15 w9
  refine hc.mono ?_
  clear hc
  rintro en w10 ⟨rfl, hb⟩
  replace S := Lib.hid (S.out.below hb (Nat.le_refl _))
  replace B := Lib.hid (B.out.trans (hb.mono B.out.size))
  replace R := Lib.hid ((hb.block _ (lt_of_block R.out)).trans R.out)
  clear hb
  go_wp2_with fail
  go_ret
  exact ⟨rfl, B.out⟩
end Go.Proofs.Ytdfdlklglbefiaa
