/- The contracts of the document's Cost and Ends. -/
import Derived.Test.YtiankphkemakeaaRSpan
namespace Go.Proofs.Ytiankphkemakeaa
set_option linter.unusedSimpArgs false
set_option linter.unusedVariables false
open Go.RowKit Go.Shelf

theorem clash_true {T : Nat} {rs : List R} (he : chk T rs = 0) (hs : ¬ Some_ T rs) : clashM T rs = true := by
  cases hc : clashM T rs with
  | true => rfl
  | false => exact absurd ((clash_some_iff he).1 hc) hs

set_option maxRecDepth 100000 in
set_option maxHeartbeats 2000000 in
theorem cost36 (A : Option Addr) (n cap : Nat) (T x y : Int) (rs : List R) (w : World) (h : Rules w A n rs) (hn : n ≤ 140737488355328) :
    Calls Try.prog 36 #[.agg #[.int .i64 T, .slice A n cap], .int .i64 x, .int .i64 y] w (RetN w ((wayR T rs x y).2)) := by
  have X0 := Bx.new (T := T) (cap := cap) h
  clear h
  go_enter Try.func36, Try.ntmps36
  go_wp2_with fail
  refine (checkSheet19 A n cap rs T _ X0.rules hn).mono ?_
  rintro e w1 ⟨rfl, hb⟩
  have X := X0.next hb
  obtain ⟨B, hB⟩ : ∃ B, w.heap.size = B := ⟨_, rfl⟩
  rw [hB] at X
  try rw [hB]
  clear hb X0 hB
  have c0 := X.c0
  have c1 := X.c1
  by_cases he : chk T rs = 0
  · obtain ⟨hl60, hT1, hT20, hall⟩ := chk_ok he
    have He := Lib.hid he
    rw [he]
    clear he hall hl60
    obtain ⟨T, rfl⟩ := Int.eq_ofNat_of_zero_le (show 0 ≤ T by omega)
    by_cases h1 : x < 0
    · have d1 : decide (x < 0) = true := decide_eq_true h1
      go_wp2_with fail
      go_ret2
      exact ⟨by rw [wayR_arg He.out (.inl h1)]; rfl, X.below⟩
    · have d1 : decide (x < 0) = false := decide_eq_false h1
      by_cases h2 : (T : Int) < x
      · have d2 : decide ((T : Int) < x) = true := decide_eq_true h2
        go_wp2_with fail
        go_ret2
        exact ⟨by rw [wayR_arg He.out (.inr (.inl h2))]; rfl, X.below⟩
      · have d2 : decide ((T : Int) < x) = false := decide_eq_false h2
        by_cases h3 : y < 0
        · have d3 : decide (y < 0) = true := decide_eq_true h3
          go_wp2_with fail
          go_ret2
          exact ⟨by rw [wayR_arg He.out (.inr (.inr (.inl h3)))]; rfl, X.below⟩
        · have d3 : decide (y < 0) = false := decide_eq_false h3
          by_cases h4 : (T : Int) < y
          · have d4 : decide ((T : Int) < y) = true := decide_eq_true h4
            go_wp2_with fail
            go_ret2
            exact ⟨by rw [wayR_arg He.out (.inr (.inr (.inr h4)))]; rfl, X.below⟩
          · obtain ⟨x, rfl⟩ := Int.eq_ofNat_of_zero_le (show 0 ≤ x by omega)
            obtain ⟨y, rfl⟩ := Int.eq_ofNat_of_zero_le (show 0 ≤ y by omega)
            have d2 : decide (T < x) = false := decide_eq_false (by omega)
            have d4 : decide (T < y) = false := decide_eq_false (by omega)
            have hxT : x ≤ T := by omega
            have hyT : y ≤ T := by omega
            clear h1 h2 h3 h4
            go_wp2_with fail
            refine (clashes28 A n cap T rs _ X.rules He.out).mono ?_
            rintro e w2 ⟨rfl, hb⟩
            have X2 := X.next hb
            clear hb X c0 c1
            by_cases hs : Some_ T rs
            · obtain ⟨W, hW, _⟩ := wayR_far He.out hs hxT hyT
              have Hw := Lib.hid hW
              rw [(clash_some_iff He.out).2 hs]
              clear hs hW
              have c0 := X2.c0
              have c1 := X2.c1
              go_wp2_with fail
              refine (far46 A n cap T rs _ X2.rules He.out).mono ?_
              rintro e w3 ⟨G, capG, rb, rc, rfl, hM, hb⟩
              have X3 := X2.next hb
              have HM := Lib.hid hM
              obtain ⟨N, hN⟩ : ∃ N, T + 1 = N := ⟨_, rfl⟩
              rw [hN] at HM ⊢
              clear hM hb X2 c0 c1
              have oT := HM.out.cellO (show x < N by omega)
              have eT := HM.out.cellI (show x < N by omega) (show y < N by omega)
              have i0 : (0 : Int) ≤ (x : Int) := by omega
              have i1 : (x : Int) < (N : Int) := by omega
              have i2 : (0 : Int) ≤ (y : Int) := by omega
              have i3 : (y : Int) < (N : Int) := by omega
              obtain ⟨z, hz⟩ : ∃ z, farM T rs x y = z := ⟨_, rfl⟩
              rw [hz] at eT Hw
              clear hz hN
              go_wp2_with fail
              go_ret2
              exact ⟨by rw [Hw.out]; rfl, X3.below⟩
            · have Hw := Lib.hid (wayR_clash He.out hs hxT hyT)
              rw [clash_true He.out hs]
              clear hs
              go_wp2_with fail
              go_ret2
              exact ⟨by rw [Hw.out]; rfl, X2.below⟩
  · have he2 : (chk T rs != 0) = true := by rw [bne_iff_ne]; exact he
    have Hm := Lib.hid (show wayR T rs x y = ([], 0, chk T rs) by unfold wayR; rw [if_pos he])
    go_wp2_with fail
    refine (checkSheet19 A n cap rs T _ X.rules hn).mono ?_
    rintro e w2 ⟨rfl, hb⟩
    have X2 := X.next hb
    clear hb X c0 c1
    go_wp2_with fail
    go_ret2
    exact ⟨by rw [Hm.out]; rfl, X2.below⟩

/-- Numbers and an error are returned. -/
def RetI (w : World) (r : List Int × Int) (e : Ending) (w' : World) : Prop := ∃ C k capk, e = .returned (.tuple #[.slice C k capk, .int .i64 r.2]) ∧ Ints w' C k r.1 ∧ Below w.heap.size w w'
theorem RetI.none {w w' : World} {er : Int} (h : Below w.heap.size w w') : RetI w ([], er) (.returned (.tuple #[.slice none 0 0, .int .i64 er])) w' := ⟨_, _, _, rfl, ⟨rfl, fun h => absurd h (by omega)⟩, h⟩

set_option maxRecDepth 100000 in
set_option maxHeartbeats 4000000 in
theorem ends32 (A : Option Addr) (n cap : Nat) (T : Int) (high : Bool) (rs : List R) (w : World) (h : Rules w A n rs) (hn : n ≤ 140737488355328) :
    Calls Try.prog 32 #[.agg #[.int .i64 T, .slice A n cap], .bool high] w (RetI w (endsR T rs high)) := by
  have X0 := Bx.new (T := T) (cap := cap) h
  clear h
  go_enter Try.func32, Try.ntmps32
  go_wp2_with fail
  refine (checkSheet19 A n cap rs T _ X0.rules hn).mono ?_
  rintro e w1 ⟨rfl, hb⟩
  have X := X0.next hb
  obtain ⟨B, hB⟩ : ∃ B, w.heap.size = B := ⟨_, rfl⟩
  have hwB := Lib.hid hB
  rw [hB] at X
  try rw [hB]
  clear hb X0 hB
  have c0 := X.c0
  have c1 := X.c1
  by_cases he : chk T rs = 0
  · obtain ⟨hl60, hT1, hT20, hall⟩ := chk_ok he
    have He := Lib.hid he
    rw [he]
    clear he hall hl60
    obtain ⟨T, rfl⟩ := Int.eq_ofNat_of_zero_le (show 0 ≤ T by omega)
    go_wp2_with fail
    refine (clashes28 A n cap T rs _ X.rules He.out).mono ?_
    rintro e w2 ⟨rfl, hb⟩
    have X2 := X.next hb
    clear hb X c0 c1
    by_cases hs : Some_ T rs
    · have Hend := Lib.hid (endsR_far He.out hs high)
      have Hfar := Lib.hid (far_facts He.out hs).2.1
      rw [(clash_some_iff He.out).2 hs]
      clear hs
      have c0 := X2.c0
      have c1 := X2.c1
      go_wp2_with fail
      refine (far46 A n cap T rs _ X2.rules He.out).mono ?_
      rintro e w3 ⟨G, capG, rb, rc, rfl, hM, hb⟩
      have X3 := X2.next hb
      have HM := Lib.hid hM
      obtain ⟨N, hN⟩ : ∃ N, T + 1 = N := ⟨_, rfl⟩
      rw [hN] at HM ⊢
      clear hM hb X2 c0 c1
      go_wp2_with fail
      go_loopw [7, 8] (fun v7 v8 wr => ∃ (k : Nat) (A7 : Option Addr) (cap7 : Nat), k ≤ T ∧ v8 = .int .i64 ((k + 1 : Nat) : Int) ∧ v7 = .slice A7 k cap7 ∧ wr.ownsRow w3.heap.size 2 1 (.slice A7 k cap7) k (iv ((List.range k).map fun i => endM T rs high (i + 1))) ∧ Below w3.heap.size w3 wr) (fun _ v8 _ => T + 1 - (intOf v8).toNat)
      case atStart => exact ⟨0, none, 0, Nat.zero_le _, rfl, rfl, World.ownsRow_nil _ _ _ _, Below.refl _ _⟩
      case round =>
        obtain ⟨k, A7, cap7, hk, rfl, rfl, hown, hB⟩ := hrel
        have Hown := Lib.hid hown
        have HB := Lib.hid hB
        have X4 := X3.next hB
        have HM4 := Lib.hid (HM.out.below hB)
        have hz := hB.size
        clear hown hB
        have c0 := X4.c0
        by_cases hlt : k < T
        · obtain ⟨t, ht⟩ : ∃ t, k + 1 = t := ⟨_, rfl⟩
          have o0 := HM4.out.cellO (show 0 < N by omega)
          have oT := HM4.out.cellO (show t < N by omega)
          have e0T := HM4.out.cellI (show 0 < N by omega) (show t < N by omega)
          have eT0 := HM4.out.cellI (show t < N by omega) (show 0 < N by omega)
          have i0 : (0 : Int) ≤ (t : Int) := by omega
          have i1 : (t : Int) < (N : Int) := by omega
          have i2 : (0 : Int) < (N : Int) := by omega
          have i3 : 0 < N := by omega
          have i4 : t < N := by omega
          have i5 : t ≤ T := by omega
          have i6 : (t : Int) ≤ (T : Int) := by omega
          have hbd := Hfar.out t 0 (by omega) (Nat.zero_le _)
          obtain ⟨x, hx⟩ : ∃ x, farM T rs t 0 = x := ⟨_, rfl⟩
          obtain ⟨y, hy⟩ : ∃ y, farM T rs 0 t = y := ⟨_, rfl⟩
          have Hsn := Lib.hid (show (List.range (k + 1)).map (fun i => endM T rs high (i + 1)) = (List.range k).map (fun i => endM T rs high (i + 1)) ++ [if high then y else -x] by
            rw [List.range_succ, List.map_append]
            simp only [List.map_cons, List.map_nil]
            rw [ht]
            unfold endM
            rw [hx, hy])
          rw [hx] at eT0 hbd
          rw [hy] at e0T
          obtain ⟨hbd0, hbd1⟩ := hbd
          have Ht := Lib.hid ht
          rw [ht]
          clear hx hy ht
          obtain ⟨L, hL⟩ : ∃ L, (List.range k).map (fun i => endM T rs high (i + 1)) = L := ⟨_, rfl⟩
          rw [hL] at Hown Hsn
          clear hL
          cases high with
          | true =>
            go_wp2_with (at_builtin; refine wpList_append_ints rfl (.tmp 25) (.tmp 32) 25 2 rfl Try.underlying25 Try.info2 w3.heap.size _ k L rfl (own_below Hown.out (below_alloc_ _ _) (Nat.le_refl _)) (some ⟨wr.heap.size, 0, none⟩) 1 1 [y] rfl (ints_one (by rw [cell_of_row _ _ 0 _ _ _ (heap_alloc_new _ _)]; rfl)) (by omega) (by simp; omega) ?_; intro A8 cap8 w5 hown5 hb5)
            have Hown5 := Lib.hid hown5
            have HB5 := Lib.hid ((HB.out.alloc hz _).trans hb5)
            clear hown5 hb5
            go_roundw
            case rel => exact ⟨k + 1, A8, cap8, by omega, by rw [Ht.out]; go_num, rfl, by rw [Hsn.out]; exact Hown5.out, HB5.out⟩
            case measure => simp [intOf]; omega
          | false =>
            go_wp2_with (at_builtin; refine wpList_append_ints rfl (.tmp 34) (.tmp 42) 25 2 rfl Try.underlying25 Try.info2 w3.heap.size _ k L rfl (own_below Hown.out (below_alloc_ _ _) (Nat.le_refl _)) (some ⟨wr.heap.size, 0, none⟩) 1 1 [-x] rfl (ints_one (by rw [cell_of_row _ _ 0 _ _ _ (heap_alloc_new _ _)]; rfl)) (by omega) (by simp; omega) ?_; intro A8 cap8 w5 hown5 hb5)
            have Hown5 := Lib.hid hown5
            have HB5 := Lib.hid ((HB.out.alloc hz _).trans hb5)
            clear hown5 hb5
            go_roundw
            case rel => exact ⟨k + 1, A8, cap8, by omega, by rw [Ht.out]; go_num, rfl, by rw [Hsn.out]; exact Hown5.out, HB5.out⟩
            case measure => simp [intOf]; omega
        · obtain rfl : k = T := by omega
          have i6 : ¬ (((k + 1 : Nat) : Int) ≤ (k : Int)) := by omega
          have i7 : ¬ (k + 1 ≤ k) := by omega
          go_wp2_with fail
          go_ret2
          rw [Hend.out]
          exact ⟨_, _, _, rfl, Ints.of_own Hown.out, X4.below⟩
    · have Hw := Lib.hid (endsR_clash He.out hs high)
      rw [clash_true He.out hs]
      clear hs
      go_wp2_with fail
      go_ret2
      rw [Hw.out]
      exact RetI.none X2.below
  · have he2 : (chk T rs != 0) = true := by rw [bne_iff_ne]; exact he
    have Hm := Lib.hid (show endsR T rs high = ([], chk T rs) by unfold endsR; rw [if_pos he])
    go_wp2_with fail
    refine (checkSheet19 A n cap rs T _ X.rules hn).mono ?_
    rintro e w2 ⟨rfl, hb⟩
    have X2 := X.next hb
    clear hb X c0 c1
    go_wp2_with fail
    go_ret2
    rw [Hm.out]
    exact RetI.none X2.below

theorem sung_bad {T : Nat} {rs : List R} (he : chk T rs = 0) {t h : Int} (hb : t < 1 ∨ T < t ∨ within 1 1000000 [h] = false) : sungR T rs t h = (0, 0, 3) := by
  unfold sungR
  rw [if_neg (by simpa using he)]
  cases hw : within 1 1000000 [h] with
  | false => rfl
  | true =>
    rcases hb with hb | hb | hb
    · rw [spanR_range he (.inl hb)]; rfl
    · rw [spanR_range he (.inr hb)]; rfl
    · rw [hw] at hb; cases hb

set_option maxRecDepth 100000 in
set_option maxHeartbeats 4000000 in
theorem sung34 (A : Option Addr) (n cap : Nat) (T t hd : Int) (rs : List R) (w : World) (h : Rules w A n rs) (hn : n ≤ 140737488355328) :
    Calls Try.prog 34 #[.agg #[.int .i64 T, .slice A n cap], .int .i64 t, .int .i64 hd] w (RetG w (sungR T rs t hd)) := by
  have X0 := (Bx.new (T := T) (cap := cap) h).next (below_alloc_ _ (.cells #[.int .i64 0, .int .i64 0] 43))
  have Q0 : Rb ((w.alloc (.cells #[.int .i64 T, .slice A n cap] 24)).alloc (.cells #[.int .i64 0, .int .i64 0] 43)) (w.heap.size + 1) 0 0 := ⟨heap_last (by simp)⟩
  clear h
  go_enter Try.func34, Try.ntmps34
  go_wp2_with fail
  refine (checkSheet19 A n cap rs T _ X0.rules hn).mono ?_
  rintro e w1 ⟨rfl, hb⟩
  have X := X0.next hb
  have Qb := Q0.next hb
  obtain ⟨B, hB⟩ : ∃ B, w.heap.size = B := ⟨_, rfl⟩
  have hBQ : B < B + 1 := by omega
  have hwB := Lib.hid hB
  rw [hB] at X Qb
  try rw [hB]
  clear hb X0 Q0 hB
  have c0 := X.c0
  have c1 := X.c1
  by_cases he : chk T rs = 0
  · obtain ⟨hl60, hT1, hT20, hall⟩ := chk_ok he
    have He := Lib.hid he
    rw [he]
    clear he hall hl60
    obtain ⟨T, rfl⟩ := Int.eq_ofNat_of_zero_le (show 0 ≤ T by omega)
    by_cases h1 : t < 1
    · have d1 : decide (t < 1) = true := decide_eq_true h1
      have r0 := Qb.c0
      have r1 := Qb.c1
      have z0 := Qb.z 0
      have z1 := Qb.z 1
      go_wp2_with fail
      refine bodyPost_ret (v := .tuple #[.agg #[.int .i64 0, .int .i64 0], .int .i64 3]) (by simp [results, Try.results34, go_sem, r0, r1]) rfl ⟨by rw [sung_bad He.out (.inl h1)], ?_⟩
      exact (X.below.setCell (by have := hwB.out; simp; omega) _).setCell (by have := hwB.out; simp; omega) _
    · have d1 : decide (t < 1) = false := decide_eq_false h1
      by_cases h2 : (T : Int) < t
      · have d2 : decide ((T : Int) < t) = true := decide_eq_true h2
        have r0 := Qb.c0
        have r1 := Qb.c1
        have z0 := Qb.z 0
        have z1 := Qb.z 1
        go_wp2_with fail
        refine bodyPost_ret (v := .tuple #[.agg #[.int .i64 0, .int .i64 0], .int .i64 3]) (by simp [results, Try.results34, go_sem, r0, r1]) rfl ⟨by rw [sung_bad He.out (.inr (.inl h2))], ?_⟩
        exact (X.below.setCell (by have := hwB.out; simp; omega) _).setCell (by have := hwB.out; simp; omega) _
      · obtain ⟨t, rfl⟩ := Int.eq_ofNat_of_zero_le (show 0 ≤ t by omega)
        have d2 : decide (T < t) = false := decide_eq_false (by omega)
        clear h1 h2
        go_wp2_with fail
        refine (tone69 hd _).mono ?_
        rintro e w2 ⟨rfl, rfl⟩
        cases hq : within 1 1000000 [hd] with
        | false =>
          have Hq := Lib.hid hq
          clear hq
          have r0 := Qb.c0
          have r1 := Qb.c1
          have z0 := Qb.z 0
          have z1 := Qb.z 1
          go_wp2_with fail
          refine bodyPost_ret (v := .tuple #[.agg #[.int .i64 0, .int .i64 0], .int .i64 3]) (by simp [results, Try.results34, go_sem, r0, r1]) rfl ⟨by rw [sung_bad He.out (.inr (.inr Hq.out))], ?_⟩
          exact (X.below.setCell (by have := hwB.out; simp; omega) _).setCell (by have := hwB.out; simp; omega) _
        | true =>
          have Hm := Lib.hid (show sungR T rs t hd = if (spanR T rs t).2.2 ≠ 0 then (0, 0, (spanR T rs t).2.2) else ((hd * (spanR T rs t).1).tdiv 16000, (hd * (spanR T rs t).2.1).tdiv 16000, 0) by
            unfold sungR
            rw [if_neg (fun h => h He.out), hq, if_pos rfl])
          have hh : 1 ≤ hd ∧ hd ≤ 1000000 := by simpa [within] using hq
          obtain ⟨hh1, hh2⟩ := hh
          clear hq
          go_wp2_with fail
          refine (span30 A n cap T t rs _ X.rules hn).mono ?_
          rintro e w3 ⟨rfl, hb⟩
          have X3 := X.next hb
          have Q3 := Qb.next hb
          have hbd := spanR_bound T t rs
          obtain ⟨lo, hi, er, hs⟩ : ∃ lo hi er, spanR T rs t = (lo, hi, er) := ⟨_, _, _, rfl⟩
          rw [hs] at hbd Hm ⊢
          obtain ⟨⟨l0, l1⟩, h0, h1⟩ := hbd
          dsimp only at l0 l1 h0 h1 Hm ⊢
          have X4 := X3.next (below_alloc_ w3 (.cells #[.int .i64 lo, .int .i64 hi] 43))
          have Q4 := Q3.next (below_alloc_ w3 (.cells #[.int .i64 lo, .int .i64 hi] 43))
          have hQw : B + 1 < w3.heap.size := lt_of_block Q3.hp
          clear hb X Qb c0 c1 hs
          have r0 := Q3.c0
          have r1 := Q3.c1
          have z0 := Q3.z 0
          have z1 := Q3.z 1
          by_cases her : er = 0
          · subst her
            have m1 : -9223372036854775808 ≤ hd * lo ∧ hd * lo ≤ 9223372036854775807 := by
              have a1 : hd * lo ≤ hd * 1099511627776 := Int.mul_le_mul_of_nonneg_left l1 (by omega)
              have a2 : hd * -1099511627776 ≤ hd * lo := Int.mul_le_mul_of_nonneg_left l0 (by omega)
              constructor <;> omega
            have m2 : -9223372036854775808 ≤ hd * hi ∧ hd * hi ≤ 9223372036854775807 := by
              have a1 : hd * hi ≤ hd * 1099511627776 := Int.mul_le_mul_of_nonneg_left h1 (by omega)
              have a2 : hd * -1099511627776 ≤ hd * hi := Int.mul_le_mul_of_nonneg_left h0 (by omega)
              constructor <;> omega
            obtain ⟨m10, m11⟩ := m1
            obtain ⟨m20, m21⟩ := m2
            go_wp2_with fail
            refine bodyPost_ret (v := .tuple #[.agg #[.int .i64 ((hd * lo).tdiv 16000), .int .i64 ((hd * hi).tdiv 16000)], .int .i64 0]) (by simp [results, Try.results34, go_sem, r0, r1, hQw]) rfl ⟨by rw [Hm.out, if_neg (by simp)], ?_⟩
            exact ((X3.below.setCell (by have := hwB.out; simp; omega) _).setCell (by have := hwB.out; simp; omega) _).alloc (by have := hwB.out; simp; omega) _
          · have her2 : (er != 0) = true := by rw [bne_iff_ne]; exact her
            have Hr := Lib.hid (Hm.out.trans (if_pos her))
            clear her
            go_wp2_with fail
            refine bodyPost_ret (v := .tuple #[.agg #[.int .i64 0, .int .i64 0], .int .i64 er]) (by simp [results, Try.results34, go_sem, r0, r1, hQw]) rfl ⟨by rw [Hr.out], ?_⟩
            exact ((X3.below.setCell (by have := hwB.out; simp; omega) _).setCell (by have := hwB.out; simp; omega) _).alloc (by have := hwB.out; simp; omega) _
  · have he2 : (chk T rs != 0) = true := by rw [bne_iff_ne]; exact he
    have Hm := Lib.hid (show sungR T rs t hd = (0, 0, chk T rs) by unfold sungR; rw [if_pos he])
    go_wp2_with fail
    refine (checkSheet19 A n cap rs T _ X.rules hn).mono ?_
    rintro e w2 ⟨rfl, hb⟩
    have X2 := X.next hb
    have Q2 := Qb.next hb
    clear hb X Qb c0 c1
    have r0 := Q2.c0
    have r1 := Q2.c1
    have z0 := Q2.z 0
    have z1 := Q2.z 1
    go_wp2_with fail
    refine bodyPost_ret (v := .tuple #[.agg #[.int .i64 0, .int .i64 0], .int .i64 (chk T rs)]) (by simp [results, Try.results34, go_sem, r0, r1]) rfl ⟨by rw [Hm.out], ?_⟩
    exact (X2.below.setCell (by have := hwB.out; simp; omega) _).setCell (by have := hwB.out; simp; omega) _
end Go.Proofs.Ytiankphkemakeaa
