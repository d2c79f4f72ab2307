/- The contracts of the document's Span, Cost, Ends and Sung. -/
import Derived.Test.YtiankphkemakeaaLawProofs
namespace Go.Proofs.Ytiankphkemakeaa
set_option linter.unusedSimpArgs false
set_option linter.unusedVariables false
open Go.RowKit Go.Shelf

/-- The result's block: two numbers that may be written. -/
structure Rb (W : World) (Q : Nat) (lo hi : Int) : Prop where
  hp : W.heap[Q]? = some (.cells #[.int .i64 lo, .int .i64 hi] 43 (0, 0))
theorem Rb.next {W W' : World} {Q : Nat} {lo hi : Int} (hb : Below W.heap.size W W') (h : Rb W Q lo hi) : Rb W' Q lo hi := ⟨(hb.block _ (lt_of_block h.hp)).trans h.hp⟩
theorem Rb.c0 {W : World} {Q : Nat} {lo hi : Int} (h : Rb W Q lo hi) : W.cell? ⟨Q, 0, none⟩ = some (.int .i64 lo) := by rw [cell_of_row _ _ 0 _ _ _ h.hp]; rfl
theorem Rb.c1 {W : World} {Q : Nat} {lo hi : Int} (h : Rb W Q lo hi) : W.cell? ⟨Q, 1, none⟩ = some (.int .i64 hi) := by rw [cell_of_row _ _ 1 _ _ _ h.hp]; rfl
theorem Rb.z {W : World} {Q : Nat} {lo hi : Int} (h : Rb W Q lo hi) (i : Nat) : W.frozen? ⟨Q, i, none⟩ = false := frozen_of_row _ _ i _ _ h.hp

set_option maxRecDepth 100000 in
set_option maxHeartbeats 2000000 in
theorem span30 (A : Option Addr) (n cap : Nat) (T t : Int) (rs : List R) (w : World) (h : Rules w A n rs) (hn : n ≤ 140737488355328) :
    Calls Try.prog 30 #[.agg #[.int .i64 T, .slice A n cap], .int .i64 t] w (RetG w (spanR T rs t)) := by
  have X0 := (Bx.new (T := T) (cap := cap) h).next (below_alloc_ _ (.cells #[.int .i64 0, .int .i64 0] 43))
  have Q0 : Rb ((w.alloc (.cells #[.int .i64 T, .slice A n cap] 24)).alloc (.cells #[.int .i64 0, .int .i64 0] 43)) (w.heap.size + 1) 0 0 := ⟨heap_last (by simp)⟩
  clear h
  go_enter Try.func30, Try.ntmps30
  go_wp2_with fail
  refine (checkSheet19 A n cap rs T _ X0.rules hn).mono ?_
  rintro e w1 ⟨rfl, hb⟩
  have X := X0.next hb
  have Qb := Q0.next hb
  obtain ⟨B, hB⟩ : ∃ B, w.heap.size = B := ⟨_, rfl⟩
  have hBQ : B < B + 1 := by omega
  have hwB := Lib.hid hB
  rw [hB] at X Qb
  try rw [hB]
  clear hb X0 Q0 hB
  have c0 := X.c0
  have c1 := X.c1
  by_cases he : chk T rs = 0
  · obtain ⟨hl60, hT1, hT20, hall⟩ := chk_ok he
    have He := Lib.hid he
    rw [he]
    clear he hall hl60
    obtain ⟨T, rfl⟩ := Int.eq_ofNat_of_zero_le (show 0 ≤ T by omega)
    by_cases h1 : t < 1
    · have d1 : decide (t < 1) = true := decide_eq_true h1
      have r0 := Qb.c0
      have r1 := Qb.c1
      have z0 := Qb.z 0
      have z1 := Qb.z 1
      go_wp2_with fail
      refine bodyPost_ret (v := .tuple #[.agg #[.int .i64 0, .int .i64 0], .int .i64 3]) (by simp [results, Try.results30, go_sem, r0, r1]) rfl ⟨by rw [spanR_range He.out (.inl h1)], ?_⟩
      exact (X.below.setCell (by have := hwB.out; simp; omega) _).setCell (by have := hwB.out; simp; omega) _
    · have d1 : decide (t < 1) = false := decide_eq_false h1
      by_cases h2 : (T : Int) < t
      · have d2 : decide ((T : Int) < t) = true := decide_eq_true h2
        have r0 := Qb.c0
        have r1 := Qb.c1
        have z0 := Qb.z 0
        have z1 := Qb.z 1
        go_wp2_with fail
        refine bodyPost_ret (v := .tuple #[.agg #[.int .i64 0, .int .i64 0], .int .i64 3]) (by simp [results, Try.results30, go_sem, r0, r1]) rfl ⟨by rw [spanR_range He.out (.inr h2)], ?_⟩
        exact (X.below.setCell (by have := hwB.out; simp; omega) _).setCell (by have := hwB.out; simp; omega) _
      · obtain ⟨t, rfl⟩ := Int.eq_ofNat_of_zero_le (show 0 ≤ t by omega)
        have d2 : decide (T < t) = false := decide_eq_false (by omega)
        have ht1 : 1 ≤ t := by omega
        have htT : t ≤ T := by omega
        clear h1 h2
        go_wp2_with fail
        refine (clashes28 A n cap T rs _ X.rules He.out).mono ?_
        rintro e w2 ⟨rfl, hb⟩
        have X2 := X.next hb
        have Q2 := Qb.next hb
        clear hb X Qb c0 c1
        by_cases hs : Some_ T rs
        · have Hs_ := Lib.hid hs
          rw [(clash_some_iff He.out).2 hs]
          clear hs
          have c0 := X2.c0
          have c1 := X2.c1
          go_wp2_with fail
          refine (far46 A n cap T rs _ X2.rules He.out).mono ?_
          rintro e w3 ⟨G, capG, rb, rc, rfl, hM, hb⟩
          have X3 := X2.next hb
          have Q3 := Q2.next hb
          have HM := Lib.hid hM
          obtain ⟨N, hN⟩ : ∃ N, T + 1 = N := ⟨_, rfl⟩
          rw [hN] at HM ⊢
          clear hM hb X2 Q2 c0 c1
          have r0 := Q3.c0
          have r1 := Q3.c1
          have z0 := Q3.z 0
          have z1 := Q3.z 1
          have o0 := HM.out.cellO (show 0 < N by omega)
          have oT := HM.out.cellO (show t < N by omega)
          have e0T := HM.out.cellI (show 0 < N by omega) (show t < N by omega)
          have eT0 := HM.out.cellI (show t < N by omega) (show 0 < N by omega)
          have i0 : (0 : Int) ≤ (t : Int) := by omega
          have i1 : (t : Int) < (N : Int) := by omega
          have i2 : (0 : Int) < (N : Int) := by omega
          have i3 : 0 < N := by omega
          have i4 : t < N := by omega
          obtain ⟨x, hx⟩ : ∃ x, farM T rs t 0 = x := ⟨_, rfl⟩
          obtain ⟨y, hy⟩ : ∃ y, farM T rs 0 t = y := ⟨_, rfl⟩
          have hbd := (far_facts He.out Hs_.out).2.1 t 0 htT (Nat.zero_le _)
          have Hspan := Lib.hid (spanR_far He.out Hs_.out ht1 htT)
          rw [hx, hy] at Hspan
          rw [hx] at eT0 hbd
          rw [hy] at e0T
          obtain ⟨hbd0, hbd1⟩ := hbd
          clear hx hy hN
          go_wp2_with fail
          go_still_tail 14, (by kernel_rfl)
          go_wp2_with fail
          refine bodyPost_ret (v := .tuple #[.agg #[.int .i64 (-x), .int .i64 y], .int .i64 0]) (by simp [results, Try.results30, go_sem, r0, r1]) rfl ⟨by rw [Hspan.out], ?_⟩
          exact below_drewN ((X3.below.setCell (by have := hwB.out; simp; omega) _).setCell (by have := hwB.out; simp; omega) _) 1
        · have Hs_ := Lib.hid hs
          rw [show clashM T rs = true by
            cases hc : clashM T rs with
            | true => rfl
            | false => exact absurd ((clash_some_iff He.out).1 hc) hs]
          clear hs
          have r0 := Q2.c0
          have r1 := Q2.c1
          have z0 := Q2.z 0
          have z1 := Q2.z 1
          go_wp2_with fail
          refine bodyPost_ret (v := .tuple #[.agg #[.int .i64 0, .int .i64 0], .int .i64 21]) (by simp [results, Try.results30, go_sem, r0, r1]) rfl ⟨by rw [spanR_clash He.out Hs_.out ht1 htT], ?_⟩
          exact (X2.below.setCell (by have := hwB.out; simp; omega) _).setCell (by have := hwB.out; simp; omega) _
  · have he2 : (chk T rs != 0) = true := by rw [bne_iff_ne]; exact he
    have Hm := Lib.hid (show spanR T rs t = (0, 0, chk T rs) by unfold spanR; rw [if_pos he])
    go_wp2_with fail
    refine (checkSheet19 A n cap rs T _ X.rules hn).mono ?_
    rintro e w2 ⟨rfl, hb⟩
    have X2 := X.next hb
    have Q2 := Qb.next hb
    clear hb X Qb c0 c1
    have r0 := Q2.c0
    have r1 := Q2.c1
    have z0 := Q2.z 0
    have z1 := Q2.z 1
    go_wp2_with fail
    refine bodyPost_ret (v := .tuple #[.agg #[.int .i64 0, .int .i64 0], .int .i64 (chk T rs)]) (by simp [results, Try.results30, go_sem, r0, r1]) rfl ⟨by rw [Hm.out], ?_⟩
    exact (X2.below.setCell (by have := hwB.out; simp; omega) _).setCell (by have := hwB.out; simp; omega) _
end Go.Proofs.Ytiankphkemakeaa
