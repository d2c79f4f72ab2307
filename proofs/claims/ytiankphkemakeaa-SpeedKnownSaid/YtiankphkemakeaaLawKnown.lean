/- The walk of SpeedKnown. -/
import Derived.Test.YtiankphkemakeaaWorks
namespace Go.Proofs.Ytiankphkemakeaa
set_option linter.unusedSimpArgs false
set_option linter.unusedVariables false
open Go.RowKit Go.Shelf

theorem kn_spd : checkSpeeds 3 sheetRs [16200, 16300, 15900] = 17 := by decide +kernel
theorem kn_span1 : spanR 3 sheetRs 1 = (16000, 16500, 0) := by decide +kernel
theorem kn_span2 : spanR 3 sheetRs 2 = (15700, 16500, 0) := by decide +kernel
theorem kn_span3 : spanR 3 slowRs 1 = (0, 0, 21) := by decide +kernel
theorem kn_circ : checkCircle 3 slowRs [6, 5, 3, 1] = 0 := by decide +kernel
theorem kn_ends : endsR 3 sheetRs false = ([16000, 15700, 15400], 0) := by decide +kernel

theorem ints_block_four {W : World} {B : Nat} {t : TypeId} {fr : Nat × Nat} {a b c d : Int} (h : W.heap[B]? = some (.cells #[.int .i64 a, .int .i64 b, .int .i64 c, .int .i64 d] t fr)) : Ints W (some ⟨B, 0, none⟩) 4 [a, b, c, d] := by
  refine ⟨rfl, fun _ => ⟨B, 0, rfl, fun j hj => ?_⟩⟩
  rw [cell_of_row _ _ _ _ _ _ h]
  match j, hj with
  | 0, _ => simp [nth]
  | 1, _ => simp [nth]
  | 2, _ => simp [nth]
  | 3, _ => simp [nth]

/-- What the last statement of SpeedKnown reads. -/
structure Kn (w : World) (B B3 B4 : Nat) (A C9 : Option Addr) (cap k9 : Nat) (W : World) : Prop where
  ex : Ex w B A cap W
  r3 : W.heap[B3]? = some (.cells #[.int .i64 16000, .int .i64 16500] 43 (0, 0))
  r4 : W.heap[B4]? = some (.cells #[.int .i64 15700, .int .i64 16500] 43 (0, 0))
  i9 : Ints W C9 k9 [16000, 15700, 15400]
theorem Kn.next {w : World} {B B3 B4 : Nat} {A C9 : Option Addr} {cap k9 : Nat} {W W' : World} (hb : Below W.heap.size W W') (h : Kn w B B3 B4 A C9 cap k9 W) : Kn w B B3 B4 A C9 cap k9 W' :=
  ⟨h.ex.next hb, (hb.block _ (lt_of_block h.r3)).trans h.r3, (hb.block _ (lt_of_block h.r4)).trans h.r4, h.i9.below hb (Nat.le_refl _)⟩
theorem Kn.all {w : World} {B B3 B4 : Nat} {A C9 : Option Addr} {cap k9 : Nat} {W : World} (h : Kn w B B3 B4 A C9 cap k9 W) :
    Kn w B B3 B4 A C9 cap k9 W ∧ W.cell? ⟨B3, 0, none⟩ = some (.int .i64 16000) ∧ W.cell? ⟨B3, 1, none⟩ = some (.int .i64 16500) ∧ W.cell? ⟨B4, 0, none⟩ = some (.int .i64 15700) ∧ W.cell? ⟨B4, 1, none⟩ = some (.int .i64 16500) :=
  ⟨h, by rw [cell_of_row _ _ 0 _ _ _ h.r3]; rfl, by rw [cell_of_row _ _ 1 _ _ _ h.r3]; rfl, by rw [cell_of_row _ _ 0 _ _ _ h.r4]; rfl, by rw [cell_of_row _ _ 1 _ _ _ h.r4]; rfl⟩

set_option maxRecDepth 100000 in
set_option maxHeartbeats 20000000 in
theorem known13 (HW : Hid (∀ w : World, Calls Try.prog 15 #[] w fun e w' => e = .returned (.bool true) ∧ Below w.heap.size w w')) (w : World) : Calls Try.prog 13 #[] w fun e w' => e = .returned (.bool true) ∧ Below w.heap.size w w' := by
  go_enter Try.func13, Try.ntmps13
  go_wp2_with fail
  refine (sheet50 _).mono ?_
  rintro e w1 ⟨A, cap, rfl, hown, hb⟩
  have Hown := Lib.hid hown
  have HB1 := Lib.hid hb
  clear hown hb
  have X1 : Ex w w1.heap.size A cap (w1.alloc (.cells #[.int .i64 3, .slice A 6 cap] 24)) :=
    ⟨HB1.out.alloc HB1.out.size _, HB1.out.size, by simp, by rw [cell_of_row _ _ 0 _ _ _ (heap_alloc_new _ _)]; rfl, by rw [cell_of_row _ _ 1 _ _ _ (heap_alloc_new _ _)]; rfl, (Rules.of_own Hown.out).below ((Below.refl _ _).alloc (Nat.le_refl _) _) (Nat.le_refl _)⟩
  go_wp2_with fail
  have X2 := X1.next (((Below.refl _ (w1.alloc (.cells #[.int .i64 3, .slice A 6 cap] 24))).alloc (Nat.le_refl _) (.cells #[.int .i64 16200, .int .i64 16300, .int .i64 15900] 2)))
  refine (checkSpeeds21 A _ 6 cap 3 _ 3 sheetRs [16200, 16300, 15900] _ X2.rules (ints_three (by go_simp) (by go_simp) (by go_simp)) (by omega) (by omega)).mono ?_
  rintro e w2 ⟨rfl, hb⟩
  have X := X2.next hb
  obtain ⟨B, hB⟩ : ∃ B, w1.heap.size = B := ⟨_, rfl⟩
  rw [hB] at X
  clear X1 X2 hb
  rw [kn_spd]
  rw [hB]
  clear hB HB1 Hown
  have c0 := X.c0
  have c1 := X.c1
  have hlt := X.hi
  go_wp2_with fail
  clear hlt
  refine (span29 A 6 cap 3 1 sheetRs _ X.rules (by omega)).mono ?_
  rintro e w3 ⟨rfl, hb⟩
  have X' := X.next hb
  clear X
  have X := X'
  clear X'
  clear hb c0 c1
  rw [kn_span1]
  have c0 := X.c0
  have c1 := X.c1
  have hlt := X.hi
  go_wp2_with fail
  clear hlt
  have hb := (Below.refl w3.heap.size w3).alloc (Nat.le_refl _) (.cells #[.int .i64 16000, .int .i64 16500] 43)
  have X' := X.next hb
  clear X
  have X := X'
  clear X'
  clear hb c0 c1
  have R3 := Lib.hid (heap_alloc_new w3 (.cells #[.int .i64 16000, .int .i64 16500] 43))
  obtain ⟨W3, hW3⟩ : ∃ W3, w3.alloc (.cells #[.int .i64 16000, .int .i64 16500] 43) = W3 := ⟨_, rfl⟩
  rw [hW3] at X R3 ⊢
  clear hW3
  obtain ⟨B3, hB3⟩ : ∃ B3, w3.heap.size = B3 := ⟨_, rfl⟩
  rw [hB3] at R3 ⊢
  clear hB3
  have c0 := X.c0
  have c1 := X.c1
  refine (span29 A 6 cap 3 2 sheetRs _ X.rules (by omega)).mono ?_
  rintro e w4 ⟨rfl, hb⟩
  have X' := X.next hb
  clear X
  have X := X'
  clear X'
  have R3' := Lib.hid ((hb.block _ (lt_of_block R3.out)).trans R3.out)
  clear R3
  have R3 := R3'
  clear R3'
  clear hb c0 c1
  rw [kn_span2]
  have c0 := X.c0
  have c1 := X.c1
  have hlt := X.hi
  go_wp2_with fail
  clear hlt
  have hb := (Below.refl w4.heap.size w4).alloc (Nat.le_refl _) (.cells #[.int .i64 15700, .int .i64 16500] 43)
  have X' := X.next hb
  clear X
  have X := X'
  clear X'
  have R3' := Lib.hid ((hb.block _ (lt_of_block R3.out)).trans R3.out)
  clear R3
  have R3 := R3'
  clear R3'
  clear hb c0 c1
  have R4 := Lib.hid (heap_alloc_new w4 (.cells #[.int .i64 15700, .int .i64 16500] 43))
  obtain ⟨W4, hW4⟩ : ∃ W4, w4.alloc (.cells #[.int .i64 15700, .int .i64 16500] 43) = W4 := ⟨_, rfl⟩
  rw [hW4] at X R3 R4 ⊢
  clear hW4
  obtain ⟨B4, hB4⟩ : ∃ B4, w4.heap.size = B4 := ⟨_, rfl⟩
  rw [hB4] at R4 ⊢
  clear hB4
  have c0 := X.c0
  have c1 := X.c1
  refine (slow51 _).mono ?_
  rintro e w5 ⟨A5, cap5, rfl, hr5, hb⟩
  have X' := X.next hb
  clear X
  have X := X'
  clear X'
  have R3' := Lib.hid ((hb.block _ (lt_of_block R3.out)).trans R3.out)
  clear R3
  have R3 := R3'
  clear R3'
  have R4' := Lib.hid ((hb.block _ (lt_of_block R4.out)).trans R4.out)
  clear R4
  have R4 := R4'
  clear R4'
  clear hb c0 c1
  have S5 := Lib.hid hr5
  clear hr5
  have c0 := X.c0
  have c1 := X.c1
  have hlt := X.hi
  go_wp2_with fail
  clear hlt
  have hb := (Below.refl w5.heap.size w5).alloc (Nat.le_refl _) (.cells #[.int .i64 6, .int .i64 5, .int .i64 3, .int .i64 1] 3)
  have X' := X.next hb
  clear X
  have X := X'
  clear X'
  have R3' := Lib.hid ((hb.block _ (lt_of_block R3.out)).trans R3.out)
  clear R3
  have R3 := R3'
  clear R3'
  have R4' := Lib.hid ((hb.block _ (lt_of_block R4.out)).trans R4.out)
  clear R4
  have R4 := R4'
  clear R4'
  have S5' := Lib.hid (S5.out.below hb (Nat.le_refl _))
  clear S5
  have S5 := S5'
  clear S5'
  clear hb c0 c1
  have I5 := Lib.hid (ints_block_four (heap_alloc_new w5 (.cells #[.int .i64 6, .int .i64 5, .int .i64 3, .int .i64 1] 3)))
  obtain ⟨W5, hW5⟩ : ∃ W5, w5.alloc (.cells #[.int .i64 6, .int .i64 5, .int .i64 3, .int .i64 1] 3) = W5 := ⟨_, rfl⟩
  rw [hW5] at X I5 R3 R4 S5 ⊢
  clear hW5
  have c0 := X.c0
  have c1 := X.c1
  refine (checkCircle25 A5 _ 7 cap5 4 _ 3 slowRs [6, 5, 3, 1] _ S5.out I5.out (by omega) (by omega)).mono ?_
  rintro e w6 ⟨rfl, hb⟩
  have X' := X.next hb
  clear X
  have X := X'
  clear X'
  have R3' := Lib.hid ((hb.block _ (lt_of_block R3.out)).trans R3.out)
  clear R3
  have R3 := R3'
  clear R3'
  have R4' := Lib.hid ((hb.block _ (lt_of_block R4.out)).trans R4.out)
  clear R4
  have R4 := R4'
  clear R4'
  clear hb c0 c1 S5 I5
  rw [kn_circ]
  have c0 := X.c0
  have c1 := X.c1
  have hlt := X.hi
  go_wp2_with fail
  clear hlt
  refine (slow51 _).mono ?_
  rintro e w7 ⟨A7, cap7, rfl, hr7, hb⟩
  have X' := X.next hb
  clear X
  have X := X'
  clear X'
  have R3' := Lib.hid ((hb.block _ (lt_of_block R3.out)).trans R3.out)
  clear R3
  have R3 := R3'
  clear R3'
  have R4' := Lib.hid ((hb.block _ (lt_of_block R4.out)).trans R4.out)
  clear R4
  have R4 := R4'
  clear R4'
  clear hb c0 c1
  have S7 := Lib.hid hr7
  clear hr7
  have c0 := X.c0
  have c1 := X.c1
  have hlt := X.hi
  go_wp2_with fail
  clear hlt
  refine (span29 A7 7 cap7 3 1 slowRs _ S7.out (by omega)).mono ?_
  rintro e w8 ⟨rfl, hb⟩
  have X' := X.next hb
  clear X
  have X := X'
  clear X'
  have R3' := Lib.hid ((hb.block _ (lt_of_block R3.out)).trans R3.out)
  clear R3
  have R3 := R3'
  clear R3'
  have R4' := Lib.hid ((hb.block _ (lt_of_block R4.out)).trans R4.out)
  clear R4
  have R4 := R4'
  clear R4'
  clear hb c0 c1
  rw [kn_span3]
  have c0 := X.c0
  have c1 := X.c1
  have hlt := X.hi
  go_wp2_with fail
  clear hlt
  have hb := (Below.refl w8.heap.size w8).alloc (Nat.le_refl _) (.cells #[.int .i64 0, .int .i64 0] 43)
  have X' := X.next hb
  clear X
  have X := X'
  clear X'
  have R3' := Lib.hid ((hb.block _ (lt_of_block R3.out)).trans R3.out)
  clear R3
  have R3 := R3'
  clear R3'
  have R4' := Lib.hid ((hb.block _ (lt_of_block R4.out)).trans R4.out)
  clear R4
  have R4 := R4'
  clear R4'
  clear hb c0 c1
  obtain ⟨W8, hW8⟩ : ∃ W8, w8.alloc (.cells #[.int .i64 0, .int .i64 0] 43) = W8 := ⟨_, rfl⟩
  rw [hW8] at X R3 R4 ⊢
  clear hW8
  clear S7
  have c0 := X.c0
  have c1 := X.c1
  refine (ends31 A 6 cap 3 false sheetRs _ X.rules (by omega)).mono ?_
  rintro e w9 ⟨C9, k9, q9, rfl, hi9, hb⟩
  have X' := X.next hb
  clear X
  have X := X'
  clear X'
  have R3' := Lib.hid ((hb.block _ (lt_of_block R3.out)).trans R3.out)
  clear R3
  have R3 := R3'
  clear R3'
  have R4' := Lib.hid ((hb.block _ (lt_of_block R4.out)).trans R4.out)
  clear R4
  have R4 := R4'
  clear R4'
  clear hb c0 c1
  rw [kn_ends] at hi9 ⊢
  have I9 := Lib.hid hi9
  clear hi9
  have c0 := X.c0
  have c1 := X.c1
  have hlt := X.hi
  go_wp2_with fail
  clear hlt
  have G : Kn w B B3 B4 A C9 cap k9 w9 := ⟨X, R3.out, R4.out, I9.out⟩
  obtain rfl : 3 = k9 := I9.out.1
  have G2 := G.all
  clear X R3 R4 I9 c0 c1
  go_region_held3 (fun w' => Kn w B B3 B4 A C9 cap 3 w' ∧ w'.cell? ⟨B3, 0, none⟩ = some (.int .i64 16000) ∧ w'.cell? ⟨B3, 1, none⟩ = some (.int .i64 16500) ∧ w'.cell? ⟨B4, 0, none⟩ = some (.int .i64 15700) ∧ w'.cell? ⟨B4, 1, none⟩ = some (.int .i64 16500))
    (first | (go_split_ands; exact Kn.all (Kn.next (by assumption) (by assumption))) | (go_split_ands; exact Kn.all (Kn.next (below_alloc_ _ _) (by assumption))) | (go_split_ands; exact Kn.all (Kn.next (below_drew_ _) (by assumption))))
    (first
      | (go_at_call 43; refine (rg43 _ _ _).mono ?_; rintro e w' ⟨rfl, rfl⟩)
      | (go_at_call 15; refine (HW.out _).mono ?_; rintro e w' ⟨rfl, hb⟩)
      | (go_at_call 37; go_split_ands; refine (longs37 C9 _ 3 _ 3 _ [16000, 15700, 15400] [16000, 15700, 15400] _ ?_ ?_ (by omega) (by omega)).mono ?_; (exact Kn.i9 (by assumption)); (exact ints_three (by go_simp) (by go_simp) (by go_simp)); rintro e w' ⟨rfl, hb⟩; rw [decide_eq_true rfl]))
  go_wp2
  go_ret
  have hfin : Kn w B B3 B4 A C9 cap 3 w' := And.left (b := w'.cell? ⟨B3, 0, none⟩ = some (.int .i64 16000) ∧ w'.cell? ⟨B3, 1, none⟩ = some (.int .i64 16500) ∧ w'.cell? ⟨B4, 0, none⟩ = some (.int .i64 15700) ∧ w'.cell? ⟨B4, 1, none⟩ = some (.int .i64 16500)) (by assumption)
  exact ⟨rfl, hfin.ex.below⟩
end Go.Proofs.Ytiankphkemakeaa
