/- Stage 2: the contract of the program's CheckCylinder. -/
import Derived.Test.YtfmcfalghbaanaaLaw0
namespace Go.Proofs.Ytfmcfalghbaanaa
set_option linter.unusedSimpArgs false
set_option linter.unusedVariables false
open Go.RowKit

theorem rgs_one {W : World} {b : Nat} {x y : Int} (h : W.heap[b]? = some (.cells #[.int .i64 x, .int .i64 y] 24 (0, 0))) : Rgs W (some ⟨b, 0, none⟩) 1 [⟨x, y⟩] :=
  ⟨rfl, fun _ => ⟨b, 0, rfl, fun j hj => by
    obtain rfl : j = 0 := by omega
    exact ⟨by rw [cell_row h]; rfl, by rw [cell_row h]; rfl⟩⟩⟩
theorem rgs_two {W : World} {b : Nat} {x y z u : Int} (h : W.heap[b]? = some (.cells #[.int .i64 x, .int .i64 y, .int .i64 z, .int .i64 u] 24 (0, 0))) : Rgs W (some ⟨b, 0, none⟩) 2 [⟨x, y⟩, ⟨z, u⟩] :=
  ⟨rfl, fun _ => ⟨b, 0, rfl, fun j hj => by
    rcases (by omega : j = 0 ∨ j = 1) with rfl | rfl
    · exact ⟨by rw [cell_row h]; rfl, by rw [cell_row h]; rfl⟩
    · exact ⟨by rw [cell_row h]; rfl, by rw [cell_row h]; rfl⟩⟩⟩
theorem bel_alloc {W0 W : World} (h : Below W0.heap.size W0 W) (o : Obj) : Below W0.heap.size W0 (W.alloc o) := h.alloc h.size o
theorem bel_drew {W0 W : World} (h : Below W0.heap.size W0 W) : Below W0.heap.size W0 W.drew := ⟨h.os, h.tape, h.output, h.size, h.block⟩
theorem bel_call {W0 W W' : World} (h : Below W0.heap.size W0 W) (hb : Below W.heap.size W W') : Below W0.heap.size W0 W' := h.trans (hb.mono h.size)
theorem within_one (lo hi x y : Int) : within lo hi [⟨x, y⟩] = okRg lo hi ⟨x, y⟩ := by simp [within]
theorem within_two (lo hi x y z u : Int) : within lo hi [⟨x, y⟩, ⟨z, u⟩] = (okRg lo hi ⟨x, y⟩ && okRg lo hi ⟨z, u⟩) := by simp [within]

theorem okPc_two (p : Pc) : okPc p = (within 0 1000 [⟨p.a.d.lo, p.a.d.hi⟩, ⟨p.b.d.lo, p.b.d.hi⟩] && within 0 100000 [⟨p.a.p, p.a.p⟩, ⟨p.b.p, p.b.p⟩]) := by
  rw [Bool.eq_iff_iff]
  simp only [okPc, okEn, within_two, okRg, Bool.and_eq_true, decide_eq_true_eq]
  omega
@[simp] def cyo8 : Oper := { dst := some 48, op := Op.fieldAddr 59 (Operand.tmp 5) 1, type := 0, pos := "join.go:16", after := #[{ on := 7, ground := Ground.guard }], guard := some (7, false) }
theorem cyo8_fold : ({ dst := some 48, op := Op.fieldAddr 59 (Operand.tmp 5) 1, type := 0, pos := "join.go:16", after := #[{ on := 7, ground := Ground.guard }], guard := some (7, false) } : Oper) = cyo8 := rfl
@[simp] def cyo9 : Oper := { dst := some 49, op := Op.load 2 (Operand.tmp 48), type := 2, pos := "join.go:16", after := #[{ on := 8, ground := Ground.data }, { on := 7, ground := Ground.guard }], guard := some (7, false) }
theorem cyo9_fold : ({ dst := some 49, op := Op.load 2 (Operand.tmp 48), type := 2, pos := "join.go:16", after := #[{ on := 8, ground := Ground.data }, { on := 7, ground := Ground.guard }], guard := some (7, false) } : Oper) = cyo9 := rfl
@[simp] def cyo10 : Oper := { dst := some 50, op := Op.call { callee := Callee.value (Operand.func 48), args := #[Operand.tmp 49], argTypes := #[2] }, type := 24, pos := "join.go:16", after := #[{ on := 9, ground := Ground.data }, { on := 7, ground := Ground.chain }, { on := 7, ground := Ground.guard }], guard := some (7, false) }
theorem cyo10_fold : ({ dst := some 50, op := Op.call { callee := Callee.value (Operand.func 48), args := #[Operand.tmp 49], argTypes := #[2] }, type := 24, pos := "join.go:16", after := #[{ on := 9, ground := Ground.data }, { on := 7, ground := Ground.chain }, { on := 7, ground := Ground.guard }], guard := some (7, false) } : Oper) = cyo10 := rfl
@[simp] def cyo11 : Oper := { dst := some 51, op := Op.fieldAddr 59 (Operand.tmp 6) 1, type := 0, pos := "join.go:16", after := #[{ on := 7, ground := Ground.guard }], guard := some (7, false) }
theorem cyo11_fold : ({ dst := some 51, op := Op.fieldAddr 59 (Operand.tmp 6) 1, type := 0, pos := "join.go:16", after := #[{ on := 7, ground := Ground.guard }], guard := some (7, false) } : Oper) = cyo11 := rfl
@[simp] def cyo12 : Oper := { dst := some 52, op := Op.load 2 (Operand.tmp 51), type := 2, pos := "join.go:16", after := #[{ on := 11, ground := Ground.data }, { on := 7, ground := Ground.guard }], guard := some (7, false) }
theorem cyo12_fold : ({ dst := some 52, op := Op.load 2 (Operand.tmp 51), type := 2, pos := "join.go:16", after := #[{ on := 11, ground := Ground.data }, { on := 7, ground := Ground.guard }], guard := some (7, false) } : Oper) = cyo12 := rfl
@[simp] def cyo13 : Oper := { dst := some 53, op := Op.call { callee := Callee.value (Operand.func 48), args := #[Operand.tmp 52], argTypes := #[2] }, type := 24, pos := "join.go:16", after := #[{ on := 12, ground := Ground.data }, { on := 10, ground := Ground.chain }, { on := 7, ground := Ground.guard }], guard := some (7, false) }
theorem cyo13_fold : ({ dst := some 53, op := Op.call { callee := Callee.value (Operand.func 48), args := #[Operand.tmp 52], argTypes := #[2] }, type := 24, pos := "join.go:16", after := #[{ on := 12, ground := Ground.data }, { on := 10, ground := Ground.chain }, { on := 7, ground := Ground.guard }], guard := some (7, false) } : Oper) = cyo13 := rfl
@[simp] def cyo14 : Oper := { dst := some 54, op := Op.buildSlice 115 2 #[(0, Operand.tmp 50), (1, Operand.tmp 53)], type := 115, pos := "join.go:16", after := #[{ on := 10, ground := Ground.data }, { on := 13, ground := Ground.data }, { on := 7, ground := Ground.guard }], guard := some (7, false) }
theorem cyo14_fold : ({ dst := some 54, op := Op.buildSlice 115 2 #[(0, Operand.tmp 50), (1, Operand.tmp 53)], type := 115, pos := "join.go:16", after := #[{ on := 10, ground := Ground.data }, { on := 13, ground := Ground.data }, { on := 7, ground := Ground.guard }], guard := some (7, false) } : Oper) = cyo14 := rfl
@[simp] def cyo15 : Oper := { dst := some 55, op := Op.call { callee := Callee.value (Operand.func 47), args := #[Operand.const (Value.int IntKind.i64 0), Operand.const (Value.int IntKind.i64 100000), Operand.tmp 54], argTypes := #[2, 2, 115] }, type := 4, pos := "join.go:16", after := #[{ on := 14, ground := Ground.data }, { on := 13, ground := Ground.chain }, { on := 7, ground := Ground.guard }], guard := some (7, false) }
theorem cyo15_fold : ({ dst := some 55, op := Op.call { callee := Callee.value (Operand.func 47), args := #[Operand.const (Value.int IntKind.i64 0), Operand.const (Value.int IntKind.i64 100000), Operand.tmp 54], argTypes := #[2, 2, 115] }, type := 4, pos := "join.go:16", after := #[{ on := 14, ground := Ground.data }, { on := 13, ground := Ground.chain }, { on := 7, ground := Ground.guard }], guard := some (7, false) } : Oper) = cyo15 := rfl
@[simp] def cyo16 : Oper := { dst := some 56, op := Op.unOp UnOp.not 4 (Operand.tmp 55), type := 4, pos := "join.go:16", after := #[{ on := 15, ground := Ground.data }, { on := 7, ground := Ground.guard }], guard := some (7, false) }
theorem cyo16_fold : ({ dst := some 56, op := Op.unOp UnOp.not 4 (Operand.tmp 55), type := 4, pos := "join.go:16", after := #[{ on := 15, ground := Ground.data }, { on := 7, ground := Ground.guard }], guard := some (7, false) } : Oper) = cyo16 := rfl

set_option maxRecDepth 100000 in
set_option maxHeartbeats 4000000 in
theorem checkCyl16 (A : Option Addr) (n cap : Nat) (off lo hi : Int) (ps : List Pc) (w : World) (h : Pcs w A n ps) (hn : n ≤ 9223372036854775807) :
    Calls Try.prog 16 #[cyl A n cap off lo hi] w fun e w' => e = .returned (.int .i64 (chkC ⟨ps, off, ⟨lo, hi⟩⟩)) ∧ Below w.heap.size w w' := by
  have X := Cx.new (cap := cap) (off := off) (lo := lo) (hi := hi) h
  have Hl := Lib.hid h.1
  have Hn := Lib.hid hn
  have hwn : IntKind.i64.wrap (n : Int) = (n : Int) := IntWalk.i64_in _ (by omega)
  unfold cyl
  obtain ⟨B, hB⟩ : ∃ B, w.heap.size = B := ⟨_, rfl⟩
  rw [hB] at X
  obtain ⟨c0, c1, c2, c3, l0⟩ := X.c
  clear h hn
  go_enter Try.func16, Try.ntmps16
  go_wp2_with fail
  clear hB
  refine (just48 n _).mono ?_
  rintro e w2 ⟨rfl, rfl⟩
  have X2 := (X.next (below_alloc_ _ (.cells #[.int .i64 (n : Int), .int .i64 (n : Int)] 24))).next (below_alloc_ _ (.cells #[.int .i64 (n : Int), .int .i64 (n : Int)] 24))
  have r2 : (((w.alloc (.cells #[.slice A n cap, .int .i64 off, .int .i64 lo, .int .i64 hi] 26)).alloc (.cells #[.int .i64 (n : Int), .int .i64 (n : Int)] 24)).alloc (.cells #[.int .i64 (n : Int), .int .i64 (n : Int)] 24)).heap[w.heap.size + 1 + 1]? = some (.cells #[.int .i64 (n : Int), .int .i64 (n : Int)] 24 (0, 0)) := hal_new (by simp)
  clear X c0 c1 c2 c3 l0
  go_wp2_with fail
  refine (within47 (some ⟨w.heap.size + 1 + 1, 0, none⟩) 1 1 [⟨(n : Int), (n : Int)⟩] 1 8 _ (rgs_one r2) (by omega)).mono ?_
  rintro e w3 ⟨rfl, hb⟩
  rw [within_one]
  have X3 := X2.next hb
  clear X2 r2 hb
  obtain ⟨c0, c1, c2, c3, l0⟩ := X3.c
  by_cases hmany : ps.length < 1 ∨ 8 < ps.length
  · have Hm := Lib.hid (chkC_many (c := ⟨ps, off, ⟨lo, hi⟩⟩) hmany)
    rw [show okRg 1 8 ⟨(n : Int), (n : Int)⟩ = false by
      cases e : okRg 1 8 ⟨(n : Int), (n : Int)⟩ with
      | false => rfl
      | true => have h1 := okRg_iff.1 e; have h2 := Hl.out; simp only at h1; omega]
    clear hmany
    go_wp2_with fail
    go_ret
    exact ⟨ret_int Hm.out.symm, X3.below⟩
  · have Hb := Lib.hid hmany
    have hn8 : n ≤ 8 := by have := Hl.out; omega
    rw [show okRg 1 8 ⟨(n : Int), (n : Int)⟩ = true from okRg_iff.2 ⟨by have := Hl.out; show (1 : Int) ≤ (n : Int); omega, Int.le_refl _, by show (n : Int) ≤ 8; omega⟩]
    clear hmany
    go_wp2_with fail
    refine (just48 off _).mono ?_
    rintro e w4 ⟨rfl, rfl⟩
    have X4 := (X3.next (below_alloc_ _ (.cells #[.int .i64 off, .int .i64 off] 24))).next (below_alloc_ _ (.cells #[.int .i64 off, .int .i64 off] 24))
    have r4 : ((w3.alloc (.cells #[.int .i64 off, .int .i64 off] 24)).alloc (.cells #[.int .i64 off, .int .i64 off] 24)).heap[w3.heap.size + 1]? = some (.cells #[.int .i64 off, .int .i64 off] 24 (0, 0)) := hal_new (by simp)
    clear X3 c0 c1 c2 c3 l0
    go_wp2_with fail
    refine (within47 (some ⟨w3.heap.size + 1, 0, none⟩) 1 1 [⟨off, off⟩] 0 1000 _ (rgs_one r4) (by omega)).mono ?_
    rintro e w5 ⟨rfl, hb⟩
    rw [within_one]
    have X5 := X4.next hb
    clear X4 r4 hb
    obtain ⟨c0, c1, c2, c3, l0⟩ := X5.c
    cases ho : okRg 0 1000 ⟨off, off⟩ with
    | false =>
      have Hm := Lib.hid (chkC_arg (c := ⟨ps, off, ⟨lo, hi⟩⟩) Hb.out (by
        show (ps.all okPc && decide (0 ≤ off) && decide (off ≤ 1000) && okRg (-100000) 100000 ⟨lo, hi⟩) = false
        have e : (decide (0 ≤ off) && decide (off ≤ 1000)) = false := by
          cases e : (decide (0 ≤ off) && decide (off ≤ 1000)) with
          | false => rfl
          | true =>
            simp only [Bool.and_eq_true, decide_eq_true_eq] at e
            rw [okRg_iff.2 ⟨e.1, Int.le_refl _, e.2⟩] at ho
            cases ho
        rw [Bool.and_assoc (ps.all okPc), e]; simp))
      clear ho
      go_wp2_with fail
      go_ret
      exact ⟨ret_int Hm.out.symm, X5.below⟩
    | true =>
      have ho2 := okRg_iff.1 ho
      simp only at ho2
      have Ho := Lib.hid (show 0 ≤ off ∧ off ≤ 1000 by omega)
      clear ho ho2
      go_wp2_with fail
      have r6 : (w5.alloc (.cells #[.int .i64 lo, .int .i64 hi] 24)).heap[w5.heap.size]? = some (.cells #[.int .i64 lo, .int .i64 hi] 24 (0, 0)) := hal_new rfl
      have X6 := X5.next (below_alloc_ _ (.cells #[.int .i64 lo, .int .i64 hi] 24))
      refine (within47 (some ⟨w5.heap.size, 0, none⟩) 1 1 [⟨lo, hi⟩] (-100000) 100000 _ (rgs_one r6) (by omega)).mono ?_
      rintro e w7 ⟨rfl, hb⟩
      rw [within_one]
      have X7 := X6.next hb
      clear X5 X6 r6 hb c0 c1 c2 c3 l0
      obtain ⟨c0, c1, c2, c3, l0⟩ := X7.c
      cases hst : okRg (-100000) 100000 ⟨lo, hi⟩ with
      | false =>
        have Hm := Lib.hid (chkC_arg (c := ⟨ps, off, ⟨lo, hi⟩⟩) Hb.out (by show (ps.all okPc && decide (0 ≤ off) && decide (off ≤ 1000) && okRg (-100000) 100000 ⟨lo, hi⟩) = false; rw [hst]; simp))
        clear hst
        go_wp2_with fail
        go_ret
        exact ⟨ret_int Hm.out.symm, X7.below⟩
      | true =>
        have Hz := Lib.hid (show (ps.all okPc && decide (0 ≤ off) && decide (off ≤ 1000) && okRg (-100000) 100000 ⟨lo, hi⟩) = ps.all okPc by rw [hst, decide_eq_true Ho.out.1, decide_eq_true Ho.out.2]; simp)
        clear hst
        go_wp2_with fail
        go_loopw [30] (fun i wr => ∃ k : Nat, k ≤ n ∧ i = .int .i64 (k : Int) ∧ (ps.take k).all okPc = true ∧ Below w7.heap.size w7 wr) (fun i _ => n - (intOf i).toNat)
        case atStart => exact ⟨0, Nat.zero_le _, rfl, rfl, Below.refl _ _⟩
        case round =>
          obtain ⟨k, hk, rfl, hall, hBB⟩ := hrel
          have X8 := X7.next hBB
          by_cases hlt : k < n
          · obtain ⟨b, o, rfl, hcs⟩ := X8.pcs.2 (by omega)
            obtain ⟨a0, a1, a2, b0, b1, b2, b3⟩ := hcs k hlt
            obtain ⟨p, hp⟩ : ∃ p, pAt ps k = p := ⟨_, rfl⟩
            rw [hp] at a0 a1 a2 b0 b1 b2 b3
            have i0 : (0 : Int) ≤ (k : Int) := by omega
            have i1 : (k : Int) < (n : Int) := by omega
            clear hcs
            go_wp2_with fail
            have X9 := X8.next (below_alloc_ wr (.cells #[.int .i64 p.a.d.lo, .int .i64 p.a.d.hi, .int .i64 p.a.p, .int .i64 p.b.d.lo, .int .i64 p.b.d.hi, .int .i64 p.b.p, .bool p.loose] 62))
            have rp : (wr.alloc (.cells #[.int .i64 p.a.d.lo, .int .i64 p.a.d.hi, .int .i64 p.a.p, .int .i64 p.b.d.lo, .int .i64 p.b.d.hi, .int .i64 p.b.p, .bool p.loose] 62)).heap[wr.heap.size]? = some (.cells #[.int .i64 p.a.d.lo, .int .i64 p.a.d.hi, .int .i64 p.a.p, .int .i64 p.b.d.lo, .int .i64 p.b.d.hi, .int .i64 p.b.p, .bool p.loose] 62) := hal_new rfl
            have HB9 := Lib.hid (hBB.trans ((below_alloc_ wr (.cells #[.int .i64 p.a.d.lo, .int .i64 p.a.d.hi, .int .i64 p.a.p, .int .i64 p.b.d.lo, .int .i64 p.b.d.hi, .int .i64 p.b.p, .bool p.loose] 62)).mono hBB.size))
            obtain ⟨Wk, hWk⟩ : ∃ Wk, wr.alloc (.cells #[.int .i64 p.a.d.lo, .int .i64 p.a.d.hi, .int .i64 p.a.p, .int .i64 p.b.d.lo, .int .i64 p.b.d.hi, .int .i64 p.b.p, .bool p.loose] 62) = Wk := ⟨_, rfl⟩
            rw [hWk] at X9 rp HB9 ⊢
            obtain ⟨kp, hkp⟩ : ∃ kp, wr.heap.size = kp := ⟨_, rfl⟩
            rw [hkp] at rp ⊢
            have HX9 := Lib.hid X9
            have Hall := Lib.hid hall
            have Hp := Lib.hid hp
            clear hWk hkp X8 hBB X9 a0 a1 a2 b0 b1 b2 b3 c0 c1 c2 c3 l0 hall hp
            have Tall := Lib.hid (show ∀ W, Below Wk.heap.size Wk W → Below Wk.heap.size Wk W ∧ W.cell? ⟨kp, 0, none⟩ = some (.int .i64 p.a.d.lo) ∧ W.cell? ⟨kp, 1, none⟩ = some (.int .i64 p.a.d.hi) ∧ W.cell? ⟨kp, 2, none⟩ = some (.int .i64 p.a.p) ∧ W.cell? ⟨kp, 3, none⟩ = some (.int .i64 p.b.d.lo) ∧ W.cell? ⟨kp, 4, none⟩ = some (.int .i64 p.b.d.hi) ∧ W.cell? ⟨kp, 5, none⟩ = some (.int .i64 p.b.p) from fun W hW => by
              have r := (hW.block _ (lt_of_block rp)).trans rp
              exact ⟨hW, by rw [cell_row r]; rfl, by rw [cell_row r]; rfl, by rw [cell_row r]; rfl, by rw [cell_row r]; rfl, by rw [cell_row r]; rfl, by rw [cell_row r]; rfl⟩)
            go_cut [5, 6] from 34 to 39 (fun v5 v6 wx => ∃ k5 k6 : Nat, v5 = .pointer (some ⟨k5, 0, none⟩) ∧ v6 = .pointer (some ⟨k6, 0, none⟩) ∧ wx.heap[k5]? = some (.cells #[.int .i64 p.a.d.lo, .int .i64 p.a.d.hi, .int .i64 p.a.p] 59 (0, 0)) ∧ wx.heap[k6]? = some (.cells #[.int .i64 p.b.d.lo, .int .i64 p.b.d.hi, .int .i64 p.b.p] 59 (0, 0)) ∧ Below Wk.heap.size Wk wx)
            case first =>
             (go_region_held3 (fun W => Below Wk.heap.size Wk W ∧ W.cell? ⟨kp, 0, none⟩ = some (.int .i64 p.a.d.lo) ∧ W.cell? ⟨kp, 1, none⟩ = some (.int .i64 p.a.d.hi) ∧ W.cell? ⟨kp, 2, none⟩ = some (.int .i64 p.a.p) ∧ W.cell? ⟨kp, 3, none⟩ = some (.int .i64 p.b.d.lo) ∧ W.cell? ⟨kp, 4, none⟩ = some (.int .i64 p.b.d.hi) ∧ W.cell? ⟨kp, 5, none⟩ = some (.int .i64 p.b.p))
               ((go_split_ands; refine Tall.out _ ?_; repeat (first | exact Below.refl _ _ | assumption | (refine bel_alloc ?_ _) | (refine bel_drew ?_))))
               (fail))
             all_goals (
              go_wp2_with fail
              go_meet
              case rel => first
                | exact ⟨_, _, rfl, rfl, hal_old (hal_new rfl), hal_new (by simp), bel_drew (bel_alloc (bel_alloc (Below.refl _ _) _) _)⟩
                | exact ⟨_, _, rfl, rfl, hal_new (by simp), hal_old (hal_new rfl), bel_drew (bel_alloc (bel_alloc (Below.refl _ _) _) _)⟩)
            case rest =>
              obtain ⟨k5, k6, rfl, rfl, r5, r6, hBx⟩ := hcut
              have Tall2 := Lib.hid (show ∀ W, Below wc.heap.size wc W → Below wc.heap.size wc W ∧ W.cell? ⟨k5, 0, none⟩ = some (.int .i64 p.a.d.lo) ∧ W.cell? ⟨k5, 1, none⟩ = some (.int .i64 p.a.d.hi) ∧ W.cell? ⟨k5, 2, none⟩ = some (.int .i64 p.a.p) ∧ W.cell? ⟨k6, 0, none⟩ = some (.int .i64 p.b.d.lo) ∧ W.cell? ⟨k6, 1, none⟩ = some (.int .i64 p.b.d.hi) ∧ W.cell? ⟨k6, 2, none⟩ = some (.int .i64 p.b.p) from fun W hW => by
                have z5 := (hW.block _ (lt_of_block r5)).trans r5
                have z6 := (hW.block _ (lt_of_block r6)).trans r6
                exact ⟨hW, by rw [cell_row z5]; rfl, by rw [cell_row z5]; rfl, by rw [cell_row z5]; rfl, by rw [cell_row z6]; rfl, by rw [cell_row z6]; rfl, by rw [cell_row z6]; rfl⟩)
              have Hfin := Lib.hid (show ∀ W, Below wc.heap.size wc W → Below w7.heap.size w7 W from fun W hW => (HB9.out.trans (hBx.mono HB9.out.size)).trans (hW.mono (by have h1 := HB9.out.size; have h2 := hBx.size; omega)))
              have Hfi2 := Lib.hid (show ∀ W, Below wc.heap.size wc W → Below w.heap.size w W from fun W hW => (HX9.out.next hBx).below.trans (hW.mono (HX9.out.next hBx).below.size))
              have Hs := Lib.hid (all_take okPc ps k ⟨⟨⟨0, 0⟩, 0⟩, ⟨⟨0, 0⟩, 0⟩, false⟩ (by have := Hl.out; omega))
              have Hp2 := Lib.hid (show okPc (ps.getD k ⟨⟨⟨0, 0⟩, 0⟩, ⟨⟨0, 0⟩, 0⟩, false⟩) = okPc p by rw [← Hp.out]; rfl)
              have Hf := Lib.hid (show okPc p = false → chkC ⟨ps, off, ⟨lo, hi⟩⟩ = 2 from fun hf => chkC_arg Hb.out (Hz.out.trans (all_stop okPc ps k ⟨⟨⟨0, 0⟩, 0⟩, ⟨⟨0, 0⟩, 0⟩, false⟩ (by have := Hl.out; omega) (Hp2.out.trans hf))))
              have Htw := Lib.hid (okPc_two p)
              clear r5 r6 hBx rp
              go_wp2_with fail
              cases hv1 : within 0 1000 [⟨p.a.d.lo, p.a.d.hi⟩, ⟨p.b.d.lo, p.b.d.hi⟩] with
              | false =>
                have HV1 := Lib.hid hv1
                have Hr := Lib.hid (Hf.out (by rw [Htw.out, hv1]; rfl))
                clear hv1
                have HV2 : True := trivial
                rw [cyo8_fold, cyo9_fold, cyo10_fold, cyo11_fold, cyo12_fold, cyo13_fold, cyo14_fold, cyo15_fold, cyo16_fold]
                (go_region_held3 (fun W => Below wc.heap.size wc W ∧ W.cell? ⟨k5, 0, none⟩ = some (.int .i64 p.a.d.lo) ∧ W.cell? ⟨k5, 1, none⟩ = some (.int .i64 p.a.d.hi) ∧ W.cell? ⟨k5, 2, none⟩ = some (.int .i64 p.a.p) ∧ W.cell? ⟨k6, 0, none⟩ = some (.int .i64 p.b.d.lo) ∧ W.cell? ⟨k6, 1, none⟩ = some (.int .i64 p.b.d.hi) ∧ W.cell? ⟨k6, 2, none⟩ = some (.int .i64 p.b.p))
                  (first | (go_split_ands; exact Tall2.out _ (by assumption)) | (go_split_ands; exact Tall2.out _ (Below.refl _ _)) | (go_split_ands; exact Tall2.out _ (bel_alloc (by assumption) _)) | (go_split_ands; exact Tall2.out _ (bel_drew (by assumption))) | (go_split_ands; exact Tall2.out _ (bel_drew (Below.refl _ _))) | (go_split_ands; exact Tall2.out _ (bel_call (by assumption) (by assumption))))
                  (first
                    | (go_at_call 48; refine (just48 _ _).mono ?_; rintro e w' ⟨rfl, rfl⟩)
                    | (go_at_call 47; (with_reducible refine (within47 (some ⟨_, 0, none⟩) 2 2 [⟨p.a.d.lo, p.a.d.hi⟩, ⟨p.b.d.lo, p.b.d.hi⟩] 0 1000 _ ?hr (by omega)).mono ?_); (case hr => exact rgs_two (by (repeat (first | exact hal_new (by simp) | (refine hal_old ?_))); done)); rintro e w' ⟨rfl, hb⟩; rw [HV1.out])
                    | (go_at_call 47; (with_reducible refine (within47 (some ⟨_, 0, none⟩) 2 2 [⟨p.a.p, p.a.p⟩, ⟨p.b.p, p.b.p⟩] 0 100000 _ ?hr (by omega)).mono ?_); (case hr => exact rgs_two (by (repeat (first | exact hal_new (by simp) | (refine hal_old ?_))); done)); rintro e w' ⟨rfl, hb⟩; rw [HV2.out])))
                all_goals (
                  have hfin := (And.left (b := w'.cell? ⟨k5, 0, none⟩ = some (.int .i64 p.a.d.lo) ∧ w'.cell? ⟨k5, 1, none⟩ = some (.int .i64 p.a.d.hi) ∧ w'.cell? ⟨k5, 2, none⟩ = some (.int .i64 p.a.p) ∧ w'.cell? ⟨k6, 0, none⟩ = some (.int .i64 p.b.d.lo) ∧ w'.cell? ⟨k6, 1, none⟩ = some (.int .i64 p.b.d.hi) ∧ w'.cell? ⟨k6, 2, none⟩ = some (.int .i64 p.b.p)) (by assumption))
                  go_wp2_with fail
                  go_ret
                  exact ⟨ret_int Hr.out.symm, Hfi2.out _ hfin⟩)
              | true =>
                have HV1 := Lib.hid hv1
                cases hv2 : within 0 100000 [⟨p.a.p, p.a.p⟩, ⟨p.b.p, p.b.p⟩] with
                | false =>
                  have HV2 := Lib.hid hv2
                  have Hr := Lib.hid (Hf.out (by rw [Htw.out, hv1, hv2]; rfl))
                  clear hv1 hv2
                  (go_region_held3 (fun W => Below wc.heap.size wc W ∧ W.cell? ⟨k5, 0, none⟩ = some (.int .i64 p.a.d.lo) ∧ W.cell? ⟨k5, 1, none⟩ = some (.int .i64 p.a.d.hi) ∧ W.cell? ⟨k5, 2, none⟩ = some (.int .i64 p.a.p) ∧ W.cell? ⟨k6, 0, none⟩ = some (.int .i64 p.b.d.lo) ∧ W.cell? ⟨k6, 1, none⟩ = some (.int .i64 p.b.d.hi) ∧ W.cell? ⟨k6, 2, none⟩ = some (.int .i64 p.b.p))
                  (first | (go_split_ands; exact Tall2.out _ (by assumption)) | (go_split_ands; exact Tall2.out _ (Below.refl _ _)) | (go_split_ands; exact Tall2.out _ (bel_alloc (by assumption) _)) | (go_split_ands; exact Tall2.out _ (bel_drew (by assumption))) | (go_split_ands; exact Tall2.out _ (bel_drew (Below.refl _ _))) | (go_split_ands; exact Tall2.out _ (bel_call (by assumption) (by assumption))))
                  (first
                    | (go_at_call 48; refine (just48 _ _).mono ?_; rintro e w' ⟨rfl, rfl⟩)
                    | (go_at_call 47; (with_reducible refine (within47 (some ⟨_, 0, none⟩) 2 2 [⟨p.a.d.lo, p.a.d.hi⟩, ⟨p.b.d.lo, p.b.d.hi⟩] 0 1000 _ ?hr (by omega)).mono ?_); (case hr => exact rgs_two (by (repeat (first | exact hal_new (by simp) | (refine hal_old ?_))); done)); rintro e w' ⟨rfl, hb⟩; rw [HV1.out])
                    | (go_at_call 47; (with_reducible refine (within47 (some ⟨_, 0, none⟩) 2 2 [⟨p.a.p, p.a.p⟩, ⟨p.b.p, p.b.p⟩] 0 100000 _ ?hr (by omega)).mono ?_); (case hr => exact rgs_two (by (repeat (first | exact hal_new (by simp) | (refine hal_old ?_))); done)); rintro e w' ⟨rfl, hb⟩; rw [HV2.out])))
                  have hfin := (And.left (b := w'.cell? ⟨k5, 0, none⟩ = some (.int .i64 p.a.d.lo) ∧ w'.cell? ⟨k5, 1, none⟩ = some (.int .i64 p.a.d.hi) ∧ w'.cell? ⟨k5, 2, none⟩ = some (.int .i64 p.a.p) ∧ w'.cell? ⟨k6, 0, none⟩ = some (.int .i64 p.b.d.lo) ∧ w'.cell? ⟨k6, 1, none⟩ = some (.int .i64 p.b.d.hi) ∧ w'.cell? ⟨k6, 2, none⟩ = some (.int .i64 p.b.p)) (by assumption))
                  go_wp2_with fail
                  go_ret
                  exact ⟨ret_int Hr.out.symm, Hfi2.out _ hfin⟩
                | true =>
                  have HV2 := Lib.hid hv2
                  have Hg := Lib.hid (show okPc p = true by rw [Htw.out, hv1, hv2]; rfl)
                  clear hv1 hv2
                  (go_region_held3 (fun W => Below wc.heap.size wc W ∧ W.cell? ⟨k5, 0, none⟩ = some (.int .i64 p.a.d.lo) ∧ W.cell? ⟨k5, 1, none⟩ = some (.int .i64 p.a.d.hi) ∧ W.cell? ⟨k5, 2, none⟩ = some (.int .i64 p.a.p) ∧ W.cell? ⟨k6, 0, none⟩ = some (.int .i64 p.b.d.lo) ∧ W.cell? ⟨k6, 1, none⟩ = some (.int .i64 p.b.d.hi) ∧ W.cell? ⟨k6, 2, none⟩ = some (.int .i64 p.b.p))
                  (first | (go_split_ands; exact Tall2.out _ (by assumption)) | (go_split_ands; exact Tall2.out _ (Below.refl _ _)) | (go_split_ands; exact Tall2.out _ (bel_alloc (by assumption) _)) | (go_split_ands; exact Tall2.out _ (bel_drew (by assumption))) | (go_split_ands; exact Tall2.out _ (bel_drew (Below.refl _ _))) | (go_split_ands; exact Tall2.out _ (bel_call (by assumption) (by assumption))))
                  (first
                    | (go_at_call 48; refine (just48 _ _).mono ?_; rintro e w' ⟨rfl, rfl⟩)
                    | (go_at_call 47; (with_reducible refine (within47 (some ⟨_, 0, none⟩) 2 2 [⟨p.a.d.lo, p.a.d.hi⟩, ⟨p.b.d.lo, p.b.d.hi⟩] 0 1000 _ ?hr (by omega)).mono ?_); (case hr => exact rgs_two (by (repeat (first | exact hal_new (by simp) | (refine hal_old ?_))); done)); rintro e w' ⟨rfl, hb⟩; rw [HV1.out])
                    | (go_at_call 47; (with_reducible refine (within47 (some ⟨_, 0, none⟩) 2 2 [⟨p.a.p, p.a.p⟩, ⟨p.b.p, p.b.p⟩] 0 100000 _ ?hr (by omega)).mono ?_); (case hr => exact rgs_two (by (repeat (first | exact hal_new (by simp) | (refine hal_old ?_))); done)); rintro e w' ⟨rfl, hb⟩; rw [HV2.out])))
                  have hfin := (And.left (b := w'.cell? ⟨k5, 0, none⟩ = some (.int .i64 p.a.d.lo) ∧ w'.cell? ⟨k5, 1, none⟩ = some (.int .i64 p.a.d.hi) ∧ w'.cell? ⟨k5, 2, none⟩ = some (.int .i64 p.a.p) ∧ w'.cell? ⟨k6, 0, none⟩ = some (.int .i64 p.b.d.lo) ∧ w'.cell? ⟨k6, 1, none⟩ = some (.int .i64 p.b.d.hi) ∧ w'.cell? ⟨k6, 2, none⟩ = some (.int .i64 p.b.p)) (by assumption))
                  go_wp2_with fail
                  go_roundw
                  case rel => exact ⟨k + 1, by omega, by go_num, by rw [Hs.out, Hall.out, Hp2.out, Hg.out]; rfl, Hfin.out _ hfin⟩
                  case measure => simp [intOf]; omega
          · obtain rfl : k = n := by omega
            have Hm := Lib.hid (chkC_ok (c := ⟨ps, off, ⟨lo, hi⟩⟩) Hb.out (Hz.out.trans (by rw [← hall, List.take_of_length_le (by have := Hl.out; omega)])))
            go_wp2_with fail
            go_ret
            exact ⟨ret_int Hm.out.symm, X8.below⟩
end Go.Proofs.Ytfmcfalghbaanaa
