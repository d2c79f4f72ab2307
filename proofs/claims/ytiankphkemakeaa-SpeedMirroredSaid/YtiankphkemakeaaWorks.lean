/- The contract of the statements' Works: the examples of the chapter hold. -/
import Derived.Test.YtiankphkemakeaaLawSheets
import Derived.Test.YtiankphkemakeaaRCirc
import Derived.Test.YtiankphkemakeaaSung
import Derived.Test.YtiankphkemakeaaFuncB
import Derived.Test.YtiankphkemakeaaFuncE
import Derived.Deep.RegionHeld3
namespace Go.Proofs.Ytiankphkemakeaa
set_option linter.unusedSimpArgs false
set_option linter.unusedVariables false
open Go.RowKit Go.Shelf

theorem ex_spd : checkSpeeds 3 sheetRs [16200, 16000, 15900] = 0 := by decide +kernel
theorem ex_span : spanR 3 sheetRs 3 = (15400, 16500, 0) := by decide +kernel
theorem ex_way : wayR 3 sheetRs 3 1 = ([5, 3], 600, 0) := by decide +kernel
theorem ex_circ : circleR 3 sheetRs = ([], 5) := by decide +kernel
theorem ex_slow : (circleR 3 slowRs).2 = 0 := by decide +kernel
theorem ex_slow2 : checkCircleD 3 slowRs (circleR 3 slowRs).1 = 0 := by decide +kernel
theorem ex_pipe : pipeR 1 43500 42000 44000 = ([⟨0, 1, 16571⟩, ⟨1, 0, -15819⟩], 0) := by decide +kernel
theorem ex_spring : springR 1 3 300 = (sheetRs.drop 2, 0) := by decide +kernel
theorem ex_sung : sungR 3 sheetRs 3 40000 = (38500, 41250, 0) := by decide +kernel
theorem ex_ends : endsR 3 sheetRs true = ([16500, 16500, 16500], 0) := by decide +kernel
theorem ex_len : (circleR 3 slowRs).1.length = 4 := by decide +kernel

/-- The sheet of the examples lies in block B; nothing that was there has turned. -/
structure Ex (w : World) (B : Nat) (A : Option Addr) (cap : Nat) (W : World) : Prop where
  below : Below w.heap.size w W
  lo : w.heap.size ≤ B
  hi : B < W.heap.size
  c0 : W.cell? ⟨B, 0, none⟩ = some (.int .i64 3)
  c1 : W.cell? ⟨B, 1, none⟩ = some (.slice A 6 cap)
  rules : Rules W A 6 sheetRs
theorem Ex.next {w : World} {B : Nat} {A : Option Addr} {cap : Nat} {W W' : World} (h : Ex w B A cap W) (hb : Below W.heap.size W W') : Ex w B A cap W' :=
  ⟨h.below.trans (hb.mono h.below.size), h.lo, by have := hb.size; have := h.hi; omega, ((bcell hb).1 _ _ h.hi).trans h.c0, ((bcell hb).1 _ _ h.hi).trans h.c1, h.rules.below hb (Nat.le_refl _)⟩

/-- What the last statement of Works reads. -/
structure Big (w : World) (B B3 B13 b o : Nat) (C4 C8 C10 C11 C14 : Option Addr) (cap k4 k8 k10 k11 k14 : Nat) (W : World) : Prop where
  ex : Ex w B (some ⟨b, o, none⟩) cap W
  r3 : W.heap[B3]? = some (.cells #[.int .i64 15400, .int .i64 16500] 43 (0, 0))
  r13 : W.heap[B13]? = some (.cells #[.int .i64 38500, .int .i64 41250] 43 (0, 0))
  i4 : Ints W C4 k4 [5, 3]
  i8 : Ints W C8 k8 (circleR 3 slowRs).1
  p10 : Rules W C10 k10 [⟨0, 1, 16571⟩, ⟨1, 0, -15819⟩]
  p11 : Rules W C11 k11 (sheetRs.drop 2)
  i14 : Ints W C14 k14 [16500, 16500, 16500]
theorem Big.next {w : World} {B B3 B13 b o : Nat} {C4 C8 C10 C11 C14 : Option Addr} {cap k4 k8 k10 k11 k14 : Nat} {W W' : World} (hb : Below W.heap.size W W') (h : Big w B B3 B13 b o C4 C8 C10 C11 C14 cap k4 k8 k10 k11 k14 W) : Big w B B3 B13 b o C4 C8 C10 C11 C14 cap k4 k8 k10 k11 k14 W' :=
  ⟨h.ex.next hb, (hb.block _ (lt_of_block h.r3)).trans h.r3, (hb.block _ (lt_of_block h.r13)).trans h.r13, h.i4.below hb (Nat.le_refl _), h.i8.below hb (Nat.le_refl _), h.p10.below hb (Nat.le_refl _), h.p11.below hb (Nat.le_refl _), h.i14.below hb (Nat.le_refl _)⟩
theorem Big.all {w : World} {B B3 B13 b o : Nat} {C4 C8 C10 C11 C14 : Option Addr} {cap k4 k8 k10 k11 k14 : Nat} {W : World} (h : Big w B B3 B13 b o C4 C8 C10 C11 C14 cap k4 k8 k10 k11 k14 W) :
    Big w B B3 B13 b o C4 C8 C10 C11 C14 cap k4 k8 k10 k11 k14 W ∧ W.cell? ⟨B, 1, none⟩ = some (.slice (some ⟨b, o, none⟩) 6 cap) ∧ W.cell? ⟨B3, 0, none⟩ = some (.int .i64 15400) ∧ W.cell? ⟨B3, 1, none⟩ = some (.int .i64 16500) ∧ W.cell? ⟨B13, 0, none⟩ = some (.int .i64 38500) ∧ W.cell? ⟨B13, 1, none⟩ = some (.int .i64 41250) :=
  ⟨h, h.ex.c1, by rw [cell_of_row _ _ 0 _ _ _ h.r3]; rfl, by rw [cell_of_row _ _ 1 _ _ _ h.r3]; rfl, by rw [cell_of_row _ _ 0 _ _ _ h.r13]; rfl, by rw [cell_of_row _ _ 1 _ _ _ h.r13]; rfl⟩
theorem drop_two {W : World} {b o cap : Nat} (h : Rules W (some ⟨b, o, none⟩) 6 sheetRs) : Rules W (some ⟨b, o + 6, none⟩) 4 (sheetRs.drop 2) := by
  obtain ⟨b2, o2, e, hc⟩ := h.2 (by omega)
  injection e with e
  injection e with e1 e2
  subst e1 e2
  refine ⟨rfl, fun _ => ⟨_, _, rfl, fun j hj => ?_⟩⟩
  have := hc (j + 2) (by omega)
  have e : rAt sheetRs (j + 2) = rAt (sheetRs.drop 2) j := by simp [rAt, List.getD, List.getElem?_drop, Nat.add_comm]
  unfold rf rt rm at this ⊢
  rw [e] at this
  rw [show o + 6 + j * 3 = o + (j + 2) * 3 by omega]
  exact this

set_option maxRecDepth 100000 in
set_option maxHeartbeats 20000000 in
theorem works15 (w : World) : Calls Try.prog 15 #[] w fun e w' => e = .returned (.bool true) ∧ Below w.heap.size w w' := by
  go_enter Try.func15, Try.ntmps15
  go_wp2_with fail
  refine (sheet50 _).mono ?_
  rintro e w1 ⟨A, cap, rfl, hown, hb⟩
  have Hown := Lib.hid hown
  have HB1 := Lib.hid hb
  have hcap : 6 ≤ cap := by
    rcases hown.2 with ⟨_, h⟩ | ⟨g, c, cur, h1, _, _, h2, _⟩
    · omega
    · injection h1 with _ _ e
      omega
  clear hown hb
  have X1 : Ex w w1.heap.size A cap (w1.alloc (.cells #[.int .i64 3, .slice A 6 cap] 24)) :=
    ⟨HB1.out.alloc HB1.out.size _, HB1.out.size, by simp, by rw [cell_of_row _ _ 0 _ _ _ (heap_alloc_new _ _)]; rfl, by rw [cell_of_row _ _ 1 _ _ _ (heap_alloc_new _ _)]; rfl, (Rules.of_own Hown.out).below ((Below.refl _ _).alloc (Nat.le_refl _) _) (Nat.le_refl _)⟩
  go_wp2_with fail
  have X2 := X1.next (((Below.refl _ (w1.alloc (.cells #[.int .i64 3, .slice A 6 cap] 24))).alloc (Nat.le_refl _) (.cells #[.int .i64 16200, .int .i64 16000, .int .i64 15900] 2)))
  refine (checkSpeeds21 A _ 6 cap 3 _ 3 sheetRs [16200, 16000, 15900] _ X2.rules (ints_three (by go_simp) (by go_simp) (by go_simp)) (by omega) (by omega)).mono ?_
  rintro e w2 ⟨rfl, hb⟩
  have X3 := X2.next hb
  obtain ⟨B, hB⟩ : ∃ B, w1.heap.size = B := ⟨_, rfl⟩
  rw [hB] at X3
  clear X1 X2 hb
  rw [ex_spd]
  have c0 := X3.c0
  have c1 := X3.c1
  rw [hB]
  clear hB HB1 Hown
  go_wp2_with fail
  refine (span29 A 6 cap 3 3 sheetRs _ X3.rules (by omega)).mono ?_
  rintro e w3 ⟨rfl, hb⟩
  have X4 := X3.next hb
  clear X3 hb c0 c1
  rw [ex_span]
  have c0 := X4.c0
  have c1 := X4.c1
  have hlt := X4.hi
  go_wp2_with fail
  have X5 := X4.next ((Below.refl _ _).alloc (Nat.le_refl _) (.cells #[.int .i64 15400, .int .i64 16500] 43))
  have r3 : (w3.alloc (.cells #[.int .i64 15400, .int .i64 16500] 43)).heap[w3.heap.size]? = some (.cells #[.int .i64 15400, .int .i64 16500] 43 (0, 0)) := heap_alloc_new _ _
  have b3 : w3.heap.size < (w3.alloc (.cells #[.int .i64 15400, .int .i64 16500] 43)).heap.size := by simp
  obtain ⟨B3, hB3⟩ : ∃ B3, w3.heap.size = B3 := ⟨_, rfl⟩
  obtain ⟨W5, hW5⟩ : ∃ W5, w3.alloc (.cells #[.int .i64 15400, .int .i64 16500] 43) = W5 := ⟨_, rfl⟩
  rw [hW5] at X5 r3 b3 ⊢
  rw [hB3] at r3 b3 ⊢
  clear hB3 hW5 X4 c0 c1 hlt
  have R3 := Lib.hid r3
  clear r3
  refine (way35 A 6 cap 3 3 1 sheetRs _ X5.rules (by omega)).mono ?_
  rintro e w4 ⟨C4, k4, q4, rfl, hi4, hb⟩
  have X6 := X5.next hb
  have R3' := Lib.hid ((hb.block _ b3).trans R3.out)
  have b3' : B3 < w4.heap.size := by have := hb.size; omega
  clear X5 hb R3 b3
  rw [ex_way] at hi4 ⊢
  have c0 := X6.c0
  have c1 := X6.c1
  have I4 := Lib.hid hi4
  clear hi4
  have X := X6
  clear X6
  have R3 := R3'
  clear R3' b3'
  go_wp2_with fail
  refine (circle27 A 6 cap 3 sheetRs _ X.rules (by omega)).mono ?_
  rintro e w6 ⟨C5, k5, q5, rfl, _, hb⟩
  have X6 := X.next hb
  clear X
  have X := X6
  clear X6
  have R3' := Lib.hid ((hb.block _ (lt_of_block R3.out)).trans R3.out)
  clear R3
  have R3 := R3'
  clear R3'
  have I4' := Lib.hid (I4.out.below hb (Nat.le_refl _))
  clear I4
  have I4 := I4'
  clear I4'
  clear hb c0 c1
  rw [ex_circ]
  have c0 := X.c0
  have c1 := X.c1
  have hlt := X.hi
  go_wp2_with fail
  clear hlt
  refine (slow51 _).mono ?_
  rintro e w7 ⟨A7, cap7, rfl, hr7, hb⟩
  have X7 := X.next hb
  clear X
  have X := X7
  clear X7
  have R3' := Lib.hid ((hb.block _ (lt_of_block R3.out)).trans R3.out)
  clear R3
  have R3 := R3'
  clear R3'
  have I4' := Lib.hid (I4.out.below hb (Nat.le_refl _))
  clear I4
  have I4 := I4'
  clear I4'
  clear hb c0 c1
  have S7 := Lib.hid hr7
  clear hr7
  have c0 := X.c0
  have c1 := X.c1
  have hlt := X.hi
  go_wp2_with fail
  clear hlt
  refine (circle27 A7 7 cap7 3 slowRs _ S7.out (by omega)).mono ?_
  rintro e w8 ⟨C8, k8, q8, rfl, hi8, hb⟩
  have X8 := X.next hb
  clear X
  have X := X8
  clear X8
  have R3' := Lib.hid ((hb.block _ (lt_of_block R3.out)).trans R3.out)
  clear R3
  have R3 := R3'
  clear R3'
  have I4' := Lib.hid (I4.out.below hb (Nat.le_refl _))
  clear I4
  have I4 := I4'
  clear I4'
  have S7' := Lib.hid (S7.out.below hb (Nat.le_refl _))
  clear S7
  have S7 := S7'
  clear S7'
  clear hb c0 c1
  rw [ex_slow]
  have I8 := Lib.hid hi8
  clear hi8
  have c0 := X.c0
  have c1 := X.c1
  have hlt := X.hi
  go_wp2_with fail
  clear hlt
  clear S7
  --mark
  refine (rg43 _ _ _).mono ?_
  rintro e w9 ⟨rfl, rfl⟩
  have hb := (Below.refl w8.heap.size w8).alloc (Nat.le_refl _) (.cells #[.int .i64 42000, .int .i64 44000] 43)
  have X' := X.next hb
  clear X
  have X := X'
  clear X'
  have R3' := Lib.hid ((hb.block _ (lt_of_block R3.out)).trans R3.out)
  clear R3
  have R3 := R3'
  clear R3'
  have I4' := Lib.hid (I4.out.below hb (Nat.le_refl _))
  clear I4
  have I4 := I4'
  clear I4'
  have I8' := Lib.hid (I8.out.below hb (Nat.le_refl _))
  clear I8
  have I8 := I8'
  clear I8'
  clear hb c0 c1
  obtain ⟨W9, hW9⟩ : ∃ W9, w8.alloc (.cells #[.int .i64 42000, .int .i64 44000] 43) = W9 := ⟨_, rfl⟩
  rw [hW9] at X R3 I4 I8 ⊢
  clear hW9
  have c0 := X.c0
  have c1 := X.c1
  have hlt := X.hi
  go_wp2_with fail
  clear hlt
  refine (pipe38 1 43500 42000 44000 _).mono ?_
  rintro e w10 ⟨C10, k10, q10, rfl, hp10, hb⟩
  have X10 := X.next hb
  clear X
  have X := X10
  clear X10
  have R3' := Lib.hid ((hb.block _ (lt_of_block R3.out)).trans R3.out)
  clear R3
  have R3 := R3'
  clear R3'
  have I4' := Lib.hid (I4.out.below hb (Nat.le_refl _))
  clear I4
  have I4 := I4'
  clear I4'
  have I8' := Lib.hid (I8.out.below hb (Nat.le_refl _))
  clear I8
  have I8 := I8'
  clear I8'
  clear hb c0 c1
  rw [ex_pipe] at hp10 ⊢
  have P10 := Lib.hid hp10
  clear hp10
  have c0 := X.c0
  have c1 := X.c1
  have hlt := X.hi
  go_wp2_with fail
  clear hlt
  refine (spring40 1 3 300 _).mono ?_
  rintro e w11 ⟨C11, k11, q11, rfl, hp11, hb⟩
  have X11 := X.next hb
  clear X
  have X := X11
  clear X11
  have R3' := Lib.hid ((hb.block _ (lt_of_block R3.out)).trans R3.out)
  clear R3
  have R3 := R3'
  clear R3'
  have I4' := Lib.hid (I4.out.below hb (Nat.le_refl _))
  clear I4
  have I4 := I4'
  clear I4'
  have I8' := Lib.hid (I8.out.below hb (Nat.le_refl _))
  clear I8
  have I8 := I8'
  clear I8'
  have P10' := Lib.hid (P10.out.below hb (Nat.le_refl _))
  clear P10
  have P10 := P10'
  clear P10'
  clear hb c0 c1
  rw [ex_spring] at hp11 ⊢
  have P11 := Lib.hid hp11
  clear hp11
  have c0 := X.c0
  have c1 := X.c1
  have hlt := X.hi
  go_wp2_with fail
  clear hlt
  refine (sung33 A 6 cap 3 3 40000 sheetRs _ X.rules (by omega)).mono ?_
  rintro e w12 ⟨rfl, hb⟩
  have X12 := X.next hb
  clear X
  have X := X12
  clear X12
  have R3' := Lib.hid ((hb.block _ (lt_of_block R3.out)).trans R3.out)
  clear R3
  have R3 := R3'
  clear R3'
  have I4' := Lib.hid (I4.out.below hb (Nat.le_refl _))
  clear I4
  have I4 := I4'
  clear I4'
  have I8' := Lib.hid (I8.out.below hb (Nat.le_refl _))
  clear I8
  have I8 := I8'
  clear I8'
  have P10' := Lib.hid (P10.out.below hb (Nat.le_refl _))
  clear P10
  have P10 := P10'
  clear P10'
  have P11' := Lib.hid (P11.out.below hb (Nat.le_refl _))
  clear P11
  have P11 := P11'
  clear P11'
  clear hb c0 c1
  rw [ex_sung]
  have c0 := X.c0
  have c1 := X.c1
  have hlt := X.hi
  go_wp2_with fail
  clear hlt
  have hb := (Below.refl w12.heap.size w12).alloc (Nat.le_refl _) (.cells #[.int .i64 38500, .int .i64 41250] 43)
  have X' := X.next hb
  clear X
  have X := X'
  clear X'
  have R3' := Lib.hid ((hb.block _ (lt_of_block R3.out)).trans R3.out)
  clear R3
  have R3 := R3'
  clear R3'
  have I4' := Lib.hid (I4.out.below hb (Nat.le_refl _))
  clear I4
  have I4 := I4'
  clear I4'
  have I8' := Lib.hid (I8.out.below hb (Nat.le_refl _))
  clear I8
  have I8 := I8'
  clear I8'
  have P10' := Lib.hid (P10.out.below hb (Nat.le_refl _))
  clear P10
  have P10 := P10'
  clear P10'
  have P11' := Lib.hid (P11.out.below hb (Nat.le_refl _))
  clear P11
  have P11 := P11'
  clear P11'
  clear hb c0 c1
  have R13 := Lib.hid (heap_alloc_new w12 (.cells #[.int .i64 38500, .int .i64 41250] 43))
  obtain ⟨W13, hW13⟩ : ∃ W13, w12.alloc (.cells #[.int .i64 38500, .int .i64 41250] 43) = W13 := ⟨_, rfl⟩
  rw [hW13] at R3 I4 I8 P10 P11 R13 X ⊢
  clear hW13
  obtain ⟨B13, hB13⟩ : ∃ B13, w12.heap.size = B13 := ⟨_, rfl⟩
  rw [hB13] at R13 ⊢
  clear hB13
  have c0 := X.c0
  have c1 := X.c1
  refine (ends31 A 6 cap 3 true sheetRs _ X.rules (by omega)).mono ?_
  rintro e w14 ⟨C14, k14, q14, rfl, hi14, hb⟩
  have X14 := X.next hb
  clear X
  have X := X14
  clear X14
  have R3' := Lib.hid ((hb.block _ (lt_of_block R3.out)).trans R3.out)
  clear R3
  have R3 := R3'
  clear R3'
  have I4' := Lib.hid (I4.out.below hb (Nat.le_refl _))
  clear I4
  have I4 := I4'
  clear I4'
  have I8' := Lib.hid (I8.out.below hb (Nat.le_refl _))
  clear I8
  have I8 := I8'
  clear I8'
  have P10' := Lib.hid (P10.out.below hb (Nat.le_refl _))
  clear P10
  have P10 := P10'
  clear P10'
  have P11' := Lib.hid (P11.out.below hb (Nat.le_refl _))
  clear P11
  have P11 := P11'
  clear P11'
  have R13' := Lib.hid ((hb.block _ (lt_of_block R13.out)).trans R13.out)
  clear R13
  have R13 := R13'
  clear R13'
  clear hb c0 c1
  rw [ex_ends] at hi14 ⊢
  have I14 := Lib.hid hi14
  clear hi14
  have c0 := X.c0
  have c1 := X.c1
  have hlt := X.hi
  go_wp2_with fail
  clear hlt
  --mark2
  obtain ⟨b, o, rfl, _⟩ := X.rules.2 (by omega)
  have hcap2 : ¬ cap = 2 := by omega
  obtain rfl : 2 = k4 := I4.out.1
  obtain rfl : 4 = k8 := ex_len.symm.trans I8.out.1
  obtain rfl : 2 = k10 := P10.out.1
  obtain rfl : 4 = k11 := P11.out.1
  obtain rfl : 3 = k14 := I14.out.1
  have G : Big w B B3 B13 b o C4 C8 C10 C11 C14 cap 2 4 2 4 3 w14 := ⟨X, R3.out, R13.out, I4.out, I8.out, P10.out, P11.out, I14.out⟩
  have G2 := G.all
  clear X R3 R13 I4 I8 P10 P11 I14 c0 c1
  simp only [List.append, List.nil_append, List.cons_append]
  go_region_held3 (fun w' => Big w B B3 B13 b o C4 C8 C10 C11 C14 cap 2 4 2 4 3 w' ∧ w'.cell? ⟨B, 1, none⟩ = some (.slice (some ⟨b, o, none⟩) 6 cap) ∧ w'.cell? ⟨B3, 0, none⟩ = some (.int .i64 15400) ∧ w'.cell? ⟨B3, 1, none⟩ = some (.int .i64 16500) ∧ w'.cell? ⟨B13, 0, none⟩ = some (.int .i64 38500) ∧ w'.cell? ⟨B13, 1, none⟩ = some (.int .i64 41250))
    (first | (go_split_ands; exact Big.all (Big.next (by assumption) (by assumption))) | (go_split_ands; exact Big.all (Big.next (below_alloc_ _ _) (by assumption))) | (go_split_ands; exact Big.all (Big.next (below_drew_ _) (by assumption))))
    (first
      | (go_at_call 43; refine (rg43 _ _ _).mono ?_; rintro e w' ⟨rfl, rfl⟩)
      | (go_at_call 48; refine (rule48 _ _ _ _).mono ?_; rintro e w' ⟨rfl, rfl⟩)
      | (go_at_call 51; refine (slow51 _).mono ?_; rintro e w' ⟨A9, cap9, rfl, hr9, hb⟩)
      | (go_at_call 26; go_split_ands; refine (checkCircle26 A9 C8 7 cap9 4 _ 3 slowRs (circleR 3 slowRs).1 _ ?_ ?_ (by omega) (by omega)).mono ?_; (first | exact hr9 | assumption); (exact Big.i8 (by assumption)); rintro e w' ⟨rfl, hb⟩; rw [ex_slow2])
      | (go_at_call 37; go_split_ands; refine (longs37 C14 _ 3 _ 3 _ [16500, 16500, 16500] [16500, 16500, 16500] _ ?_ ?_ (by omega) (by omega)).mono ?_; (exact Big.i14 (by assumption)); (exact ints_three (by go_simp) (by go_simp) (by go_simp)); rintro e w' ⟨rfl, hb⟩; rw [decide_eq_true rfl])
      | (go_at_call 20; go_split_ands; (with_reducible refine (rules20 C10 _ 2 _ 2 _ [⟨0, 1, 16571⟩, ⟨1, 0, -15819⟩] [⟨0, 1, 16571⟩, ⟨1, 0, -15819⟩] _ ?_ ?_ (by omega) (by omega)).mono ?_); (exact Big.p10 (by assumption)); (exact rules_two (heap_last (by simp))); rintro e w' ⟨rfl, hb⟩; rw [decide_eq_true rfl])
      | (go_at_call 52; go_split_ands; refine (ints52 C4 _ 2 _ 2 _ [5, 3] [5, 3] _ ?_ ?_ (by omega) (by omega)).mono ?_; (exact Big.i4 (by assumption)); (exact ints_two (by go_simp) (by go_simp)); rintro e w' ⟨rfl, hb⟩; rw [decide_eq_true rfl])
      | (go_at_call 20; go_split_ands; refine (rules20 C11 _ 4 _ _ _ (sheetRs.drop 2) (sheetRs.drop 2) _ ?_ ?_ (by omega) ?_).mono ?_; (exact Big.p11 (by assumption)); (exact drop_two (cap := cap) (Ex.rules (Big.ex (by assumption)))); (first | omega | decide); rintro e w' ⟨rfl, hb⟩; rw [decide_eq_true rfl]))
  go_wp2
  go_ret
  have hfin : Big w B B3 B13 b o C4 C8 C10 C11 C14 cap 2 4 2 4 3 w' := And.left (b := w'.cell? ⟨B, 1, none⟩ = some (.slice (some ⟨b, o, none⟩) 6 cap) ∧ w'.cell? ⟨B3, 0, none⟩ = some (.int .i64 15400) ∧ w'.cell? ⟨B3, 1, none⟩ = some (.int .i64 16500) ∧ w'.cell? ⟨B13, 0, none⟩ = some (.int .i64 38500) ∧ w'.cell? ⟨B13, 1, none⟩ = some (.int .i64 41250)) (by assumption)
  exact ⟨rfl, hfin.ex.below⟩
end Go.Proofs.Ytiankphkemakeaa
