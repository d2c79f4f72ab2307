/- SpeedHeard: a number below the whole span. -/
import Derived.Test.YtiankphkemakeaaHeardT
namespace Go.Proofs.Ytiankphkemakeaa
set_option linter.unusedSimpArgs false
set_option linter.unusedVariables false
open Go.RowKit Go.Shelf

/-! The four operations that the last statement of SpeedHeard leaves out below the span. -/
@[simp] def hop35 : Oper := { dst := some 108, op := Op.move (Operand.tmp 12), type := 2, pos := "outright.go:185", after := #[{ on := 34, ground := Ground.guard }], guard := some (34, true) }
theorem hop35_fold : ({ dst := some 108, op := Op.move (Operand.tmp 12), type := 2, pos := "outright.go:185", after := #[{ on := 34, ground := Ground.guard }], guard := some (34, true) } : Oper) = hop35 := rfl
@[simp] def hop36 : Oper := { dst := some 109, op := Op.fieldAddr 43 (Operand.tmp 17) 1, type := 0, pos := "outright.go:185", after := #[{ on := 34, ground := Ground.guard }], guard := some (34, true) }
theorem hop36_fold : ({ dst := some 109, op := Op.fieldAddr 43 (Operand.tmp 17) 1, type := 0, pos := "outright.go:185", after := #[{ on := 34, ground := Ground.guard }], guard := some (34, true) } : Oper) = hop36 := rfl
@[simp] def hop37 : Oper := { dst := some 110, op := Op.load 2 (Operand.tmp 109), type := 2, pos := "outright.go:185", after := #[{ on := 36, ground := Ground.data }, { on := 34, ground := Ground.guard }], guard := some (34, true) }
theorem hop37_fold : ({ dst := some 110, op := Op.load 2 (Operand.tmp 109), type := 2, pos := "outright.go:185", after := #[{ on := 36, ground := Ground.data }, { on := 34, ground := Ground.guard }], guard := some (34, true) } : Oper) = hop37 := rfl
@[simp] def hop38 : Oper := { dst := some 111, op := Op.binOp BinOp.leq 2 (Operand.tmp 108) (Operand.tmp 110) 2, type := 4, pos := "outright.go:185", after := #[{ on := 35, ground := Ground.data }, { on := 37, ground := Ground.data }, { on := 34, ground := Ground.guard }], guard := some (34, true) }
theorem hop38_fold : ({ dst := some 111, op := Op.binOp BinOp.leq 2 (Operand.tmp 108) (Operand.tmp 110) 2, type := 4, pos := "outright.go:185", after := #[{ on := 35, ground := Ground.data }, { on := 37, ground := Ground.data }, { on := 34, ground := Ground.guard }], guard := some (34, true) } : Oper) = hop38 := rfl
set_option maxRecDepth 100000 in
set_option maxHeartbeats 4000000 in
theorem heard_1_lt (HW : Hid WorksOk) (a0 a1 a2 a3 : Int) (w : World) (b00 : 0 ≤ a0) (b01 : a0 ≤ 4294967295) (b10 : 0 ≤ a1) (b11 : a1 ≤ 4294967295) (b20 : 0 ≤ a2) (b21 : a2 ≤ 4294967295) (b30 : 0 ≤ a3) (b31 : a3 ≤ 4294967295) (hm : 1000000 ≤ 1 + a1 % 1000000 + a2) (a b : Int) (ha1 : 1 ≤ a) (hab : a ≤ b) (hb1 : b ≤ 100000) (Hp : Hid (pipeR 1 (1 + a0 % 1000000) (1 + a1 % 1000000) 1000000 = (two a b, 0))) (Hin : Hid (heardB (1 + a0 % 1000000) (a3 % 100001) (1 + a1 % 1000000) 1000000 = false)) (Ha : Hid (heardB (1 + a0 % 1000000) a (1 + a1 % 1000000) 1000000 = true)) (Hb : Hid (heardB (1 + a0 % 1000000) b (1 + a1 % 1000000) 1000000 = true)) (Hspd : Hid (checkSpeeds 1 (two a b) [(a3 % 100001)] = 17)) (Hchk : Hid (chk 1 (two a b) = 0)) (Hspan : Hid (spanR 1 (two a b) 1 = (a, b, 0))) (d1 : decide (a ≤ (a3 % 100001)) = false) :
    Calls Try.prog 12 #[.int .u32 a0, .int .u32 a1, .int .u32 a2, .int .u32 a3] w fun e w' => e = .returned (.bool true) ∧ Below w.heap.size w w' := by
  have m00 : 0 ≤ a0 % 1000000 := by omega
  have m01 : a0 % 1000000 ≤ 999999 := by omega
  have m10 : 0 ≤ a1 % 1000000 := by omega
  have m11 : a1 % 1000000 ≤ 999999 := by omega
  have m30 : 0 ≤ a3 % 100001 := by omega
  have m31 : a3 % 100001 ≤ 100000 := by omega
  go_enter Try.func12, Try.ntmps12
  go_wp2_with fail
  all_goals (try (exfalso; omega))
  refine (rg43 _ _ _).mono ?_
  rintro e w1 ⟨rfl, rfl⟩
  have HB1 := Lib.hid (below_alloc_ w (.cells #[.int .i64 (1 + a1 % 1000000), .int .i64 1000000] 43))
  go_wp2_with fail
  refine (pipe38 1 (1 + a0 % 1000000) (1 + a1 % 1000000) 1000000 _).mono ?_
  rintro e w2 ⟨C, k, q, rfl, hr, hb⟩
  rw [Hp.out] at hr ⊢
  have HB2 := Lib.hid (HB1.out.trans (hb.mono (by simp)))
  have HR := Lib.hid hr
  clear hr hb HB1
  go_wp2_with fail
  refine (rg43 _ _ _).mono ?_
  rintro e w3 ⟨rfl, rfl⟩
  have HB3 := Lib.hid (HB2.out.trans ((below_alloc_ w2 (.cells #[.int .i64 (1 + a1 % 1000000), .int .i64 1000000] 43)).mono HB2.out.size))
  have HR3 := Lib.hid (HR.out.below (below_alloc_ w2 (.cells #[.int .i64 (1 + a1 % 1000000), .int .i64 1000000] 43)) (Nat.le_refl _))
  go_wp2_with fail
  refine (heard49 (1 + a0 % 1000000) (a3 % 100001) (1 + a1 % 1000000) 1000000 _ ⟨by omega, by omega⟩ ⟨by omega, by omega⟩ ⟨by omega, by omega⟩ ⟨by omega, by omega⟩).mono ?_
  rintro e w4 ⟨rfl, hb⟩
  rw [Hin.out]
  have HB4 := Lib.hid (HB3.out.trans (hb.mono HB3.out.size))
  have HR4 := Lib.hid (HR3.out.below hb (Nat.le_refl _))
  clear hb HR3 HB3 HR HB2
  obtain rfl : 2 = k := HR4.out.1
  go_wp2_with fail
  have X5 : Bx w w4.heap.size 1 C 2 q (two a b) (w4.alloc (.cells #[.int .i64 1, .slice C 2 q] 24)) :=
    ⟨HB4.out.alloc HB4.out.size _, HB4.out.size, by simp, by rw [cell_of_row _ _ 0 _ _ _ (heap_alloc_new _ _)]; rfl, by rw [cell_of_row _ _ 1 _ _ _ (heap_alloc_new _ _)]; rfl, HR4.out.below (below_alloc_ _ _) (Nat.le_refl _)⟩
  refine (checkSheet19 C 2 q (two a b) 1 _ X5.rules (by omega)).mono ?_
  rintro e w5 ⟨rfl, hb⟩
  have X6 := X5.next hb
  obtain ⟨B, hB⟩ : ∃ B, w4.heap.size = B := ⟨_, rfl⟩
  rw [hB] at X6 ⊢
  rw [Hchk.out]
  clear hb X5 hB HB4 HR4
  have c0 := X6.c0
  have c1 := X6.c1
  have hlt := X6.hi
  go_wp2_with fail
  refine (span29 C 2 q 1 1 (two a b) _ X6.rules (by omega)).mono ?_
  rintro e w6 ⟨rfl, hb⟩
  have X7 := X6.next hb
  rw [Hspan.out]
  clear hb X6 c0 c1 hlt
  have c0 := X7.c0
  have c1 := X7.c1
  have hlt := X7.hi
  go_wp2_with fail
  have G : Hs w B w6.heap.size C q a b (w6.alloc (.cells #[.int .i64 a, .int .i64 b] 43)) := ⟨X7.next (below_alloc_ _ _), heap_alloc_new _ _⟩
  obtain ⟨W7, hW7⟩ : ∃ W7, w6.alloc (.cells #[.int .i64 a, .int .i64 b] 43) = W7 := ⟨_, rfl⟩
  rw [hW7] at G ⊢
  obtain ⟨B2, hB2⟩ : ∃ B2, w6.heap.size = B2 := ⟨_, rfl⟩
  rw [hB2] at G ⊢
  clear hW7 hB2 X7 c0 c1 hlt
  have G2 := G.all
  rw [hop35_fold, hop36_fold, hop37_fold, hop38_fold]
  (go_region_held3 (fun w' => Hs w B B2 C q a b w' ∧ w'.cell? ⟨B, 0, none⟩ = some (.int .i64 1) ∧ w'.cell? ⟨B, 1, none⟩ = some (.slice C 2 q) ∧ w'.cell? ⟨B2, 0, none⟩ = some (.int .i64 a) ∧ w'.cell? ⟨B2, 1, none⟩ = some (.int .i64 b))
    (first | (go_split_ands; exact Hs.all (by assumption)) | (go_split_ands; exact Hs.all (Hs.next (by assumption) (by assumption))) | (go_split_ands; exact Hs.all (Hs.next (below_alloc_ _ _) (by assumption))) | (go_split_ands; exact Hs.all (Hs.next (below_drew_ _) (by assumption))))
    (first
      | (go_at_call 43; refine (rg43 _ _ _).mono ?_; rintro e w' ⟨rfl, rfl⟩)
      | (go_at_call 15; refine (HW.out _).mono ?_; rintro e w' ⟨rfl, hb⟩)
      | (go_at_call 21; go_split_ands; refine (checkSpeeds21 C _ 2 q 1 _ 1 (two a b) [(a3 % 100001)] _ ?_ ?_ (by omega) (by omega)).mono ?_; (exact Bx.rules (Hs.bx (by assumption))); (exact ints_one (by go_simp)); rintro e w' ⟨rfl, hb⟩; rw [Hspd.out])
      | (go_at_call 49; (with_reducible refine (heard49 (1 + a0 % 1000000) a (1 + a1 % 1000000) 1000000 _ ⟨?_, ?_⟩ ⟨?_, ?_⟩ ⟨?_, ?_⟩ ⟨?_, ?_⟩).mono ?_); omega; omega; omega; omega; omega; omega; omega; omega; rintro e w' ⟨rfl, hb⟩; rw [Ha.out])
      | (go_at_call 49; (with_reducible refine (heard49 (1 + a0 % 1000000) b (1 + a1 % 1000000) 1000000 _ ⟨?_, ?_⟩ ⟨?_, ?_⟩ ⟨?_, ?_⟩ ⟨?_, ?_⟩).mono ?_); omega; omega; omega; omega; omega; omega; omega; omega; rintro e w' ⟨rfl, hb⟩; rw [Hb.out])))
  all_goals (
    go_wp2
    go_ret
    have hfin : Hs w B B2 C q a b w' := And.left (b := w'.cell? ⟨B, 0, none⟩ = some (.int .i64 1) ∧ w'.cell? ⟨B, 1, none⟩ = some (.slice C 2 q) ∧ w'.cell? ⟨B2, 0, none⟩ = some (.int .i64 a) ∧ w'.cell? ⟨B2, 1, none⟩ = some (.int .i64 b)) (by assumption)
    exact ⟨rfl, hfin.bx.below⟩)

set_option maxRecDepth 100000 in
set_option maxHeartbeats 4000000 in
theorem heard_2_lt (HW : Hid WorksOk) (a0 a1 a2 a3 : Int) (w : World) (b00 : 0 ≤ a0) (b01 : a0 ≤ 4294967295) (b10 : 0 ≤ a1) (b11 : a1 ≤ 4294967295) (b20 : 0 ≤ a2) (b21 : a2 ≤ 4294967295) (b30 : 0 ≤ a3) (b31 : a3 ≤ 4294967295) (hm : 1 + a1 % 1000000 + a2 < 1000000) (a b : Int) (ha1 : 1 ≤ a) (hab : a ≤ b) (hb1 : b ≤ 100000) (Hp : Hid (pipeR 1 (1 + a0 % 1000000) (1 + a1 % 1000000) (1 + a1 % 1000000 + a2) = (two a b, 0))) (Hin : Hid (heardB (1 + a0 % 1000000) (a3 % 100001) (1 + a1 % 1000000) (1 + a1 % 1000000 + a2) = false)) (Ha : Hid (heardB (1 + a0 % 1000000) a (1 + a1 % 1000000) (1 + a1 % 1000000 + a2) = true)) (Hb : Hid (heardB (1 + a0 % 1000000) b (1 + a1 % 1000000) (1 + a1 % 1000000 + a2) = true)) (Hspd : Hid (checkSpeeds 1 (two a b) [(a3 % 100001)] = 17)) (Hchk : Hid (chk 1 (two a b) = 0)) (Hspan : Hid (spanR 1 (two a b) 1 = (a, b, 0))) (d1 : decide (a ≤ (a3 % 100001)) = false) :
    Calls Try.prog 12 #[.int .u32 a0, .int .u32 a1, .int .u32 a2, .int .u32 a3] w fun e w' => e = .returned (.bool true) ∧ Below w.heap.size w w' := by
  have m00 : 0 ≤ a0 % 1000000 := by omega
  have m01 : a0 % 1000000 ≤ 999999 := by omega
  have m10 : 0 ≤ a1 % 1000000 := by omega
  have m11 : a1 % 1000000 ≤ 999999 := by omega
  have m30 : 0 ≤ a3 % 100001 := by omega
  have m31 : a3 % 100001 ≤ 100000 := by omega
  go_enter Try.func12, Try.ntmps12
  go_wp2_with fail
  all_goals (try (exfalso; omega))
  refine (rg43 _ _ _).mono ?_
  rintro e w1 ⟨rfl, rfl⟩
  have HB1 := Lib.hid (below_alloc_ w (.cells #[.int .i64 (1 + a1 % 1000000), .int .i64 (1 + a1 % 1000000 + a2)] 43))
  go_wp2_with fail
  refine (pipe38 1 (1 + a0 % 1000000) (1 + a1 % 1000000) (1 + a1 % 1000000 + a2) _).mono ?_
  rintro e w2 ⟨C, k, q, rfl, hr, hb⟩
  rw [Hp.out] at hr ⊢
  have HB2 := Lib.hid (HB1.out.trans (hb.mono (by simp)))
  have HR := Lib.hid hr
  clear hr hb HB1
  go_wp2_with fail
  refine (rg43 _ _ _).mono ?_
  rintro e w3 ⟨rfl, rfl⟩
  have HB3 := Lib.hid (HB2.out.trans ((below_alloc_ w2 (.cells #[.int .i64 (1 + a1 % 1000000), .int .i64 (1 + a1 % 1000000 + a2)] 43)).mono HB2.out.size))
  have HR3 := Lib.hid (HR.out.below (below_alloc_ w2 (.cells #[.int .i64 (1 + a1 % 1000000), .int .i64 (1 + a1 % 1000000 + a2)] 43)) (Nat.le_refl _))
  go_wp2_with fail
  refine (heard49 (1 + a0 % 1000000) (a3 % 100001) (1 + a1 % 1000000) (1 + a1 % 1000000 + a2) _ ⟨by omega, by omega⟩ ⟨by omega, by omega⟩ ⟨by omega, by omega⟩ ⟨by omega, by omega⟩).mono ?_
  rintro e w4 ⟨rfl, hb⟩
  rw [Hin.out]
  have HB4 := Lib.hid (HB3.out.trans (hb.mono HB3.out.size))
  have HR4 := Lib.hid (HR3.out.below hb (Nat.le_refl _))
  clear hb HR3 HB3 HR HB2
  obtain rfl : 2 = k := HR4.out.1
  go_wp2_with fail
  have X5 : Bx w w4.heap.size 1 C 2 q (two a b) (w4.alloc (.cells #[.int .i64 1, .slice C 2 q] 24)) :=
    ⟨HB4.out.alloc HB4.out.size _, HB4.out.size, by simp, by rw [cell_of_row _ _ 0 _ _ _ (heap_alloc_new _ _)]; rfl, by rw [cell_of_row _ _ 1 _ _ _ (heap_alloc_new _ _)]; rfl, HR4.out.below (below_alloc_ _ _) (Nat.le_refl _)⟩
  refine (checkSheet19 C 2 q (two a b) 1 _ X5.rules (by omega)).mono ?_
  rintro e w5 ⟨rfl, hb⟩
  have X6 := X5.next hb
  obtain ⟨B, hB⟩ : ∃ B, w4.heap.size = B := ⟨_, rfl⟩
  rw [hB] at X6 ⊢
  rw [Hchk.out]
  clear hb X5 hB HB4 HR4
  have c0 := X6.c0
  have c1 := X6.c1
  have hlt := X6.hi
  go_wp2_with fail
  refine (span29 C 2 q 1 1 (two a b) _ X6.rules (by omega)).mono ?_
  rintro e w6 ⟨rfl, hb⟩
  have X7 := X6.next hb
  rw [Hspan.out]
  clear hb X6 c0 c1 hlt
  have c0 := X7.c0
  have c1 := X7.c1
  have hlt := X7.hi
  go_wp2_with fail
  have G : Hs w B w6.heap.size C q a b (w6.alloc (.cells #[.int .i64 a, .int .i64 b] 43)) := ⟨X7.next (below_alloc_ _ _), heap_alloc_new _ _⟩
  obtain ⟨W7, hW7⟩ : ∃ W7, w6.alloc (.cells #[.int .i64 a, .int .i64 b] 43) = W7 := ⟨_, rfl⟩
  rw [hW7] at G ⊢
  obtain ⟨B2, hB2⟩ : ∃ B2, w6.heap.size = B2 := ⟨_, rfl⟩
  rw [hB2] at G ⊢
  clear hW7 hB2 X7 c0 c1 hlt
  have G2 := G.all
  rw [hop35_fold, hop36_fold, hop37_fold, hop38_fold]
  (go_region_held3 (fun w' => Hs w B B2 C q a b w' ∧ w'.cell? ⟨B, 0, none⟩ = some (.int .i64 1) ∧ w'.cell? ⟨B, 1, none⟩ = some (.slice C 2 q) ∧ w'.cell? ⟨B2, 0, none⟩ = some (.int .i64 a) ∧ w'.cell? ⟨B2, 1, none⟩ = some (.int .i64 b))
    (first | (go_split_ands; exact Hs.all (by assumption)) | (go_split_ands; exact Hs.all (Hs.next (by assumption) (by assumption))) | (go_split_ands; exact Hs.all (Hs.next (below_alloc_ _ _) (by assumption))) | (go_split_ands; exact Hs.all (Hs.next (below_drew_ _) (by assumption))))
    (first
      | (go_at_call 43; refine (rg43 _ _ _).mono ?_; rintro e w' ⟨rfl, rfl⟩)
      | (go_at_call 15; refine (HW.out _).mono ?_; rintro e w' ⟨rfl, hb⟩)
      | (go_at_call 21; go_split_ands; refine (checkSpeeds21 C _ 2 q 1 _ 1 (two a b) [(a3 % 100001)] _ ?_ ?_ (by omega) (by omega)).mono ?_; (exact Bx.rules (Hs.bx (by assumption))); (exact ints_one (by go_simp)); rintro e w' ⟨rfl, hb⟩; rw [Hspd.out])
      | (go_at_call 49; (with_reducible refine (heard49 (1 + a0 % 1000000) a (1 + a1 % 1000000) (1 + a1 % 1000000 + a2) _ ⟨?_, ?_⟩ ⟨?_, ?_⟩ ⟨?_, ?_⟩ ⟨?_, ?_⟩).mono ?_); omega; omega; omega; omega; omega; omega; omega; omega; rintro e w' ⟨rfl, hb⟩; rw [Ha.out])
      | (go_at_call 49; (with_reducible refine (heard49 (1 + a0 % 1000000) b (1 + a1 % 1000000) (1 + a1 % 1000000 + a2) _ ⟨?_, ?_⟩ ⟨?_, ?_⟩ ⟨?_, ?_⟩ ⟨?_, ?_⟩).mono ?_); omega; omega; omega; omega; omega; omega; omega; omega; rintro e w' ⟨rfl, hb⟩; rw [Hb.out])))
  all_goals (
    go_wp2
    go_ret
    have hfin : Hs w B B2 C q a b w' := And.left (b := w'.cell? ⟨B, 0, none⟩ = some (.int .i64 1) ∧ w'.cell? ⟨B, 1, none⟩ = some (.slice C 2 q) ∧ w'.cell? ⟨B2, 0, none⟩ = some (.int .i64 a) ∧ w'.cell? ⟨B2, 1, none⟩ = some (.int .i64 b)) (by assumption)
    exact ⟨rfl, hfin.bx.below⟩)

end Go.Proofs.Ytiankphkemakeaa
