/- Stage 6: NameMore. -/
import Derived.Test.YtigohccehllmnaaMq
import Derived.Deep.RegionHeld3
import Derived.Deep.CutRange
import Derived.IntWalk
namespace Go.Proofs.Ytigohccehllmnaa
set_option linter.unusedSimpArgs false
set_option linter.unusedVariables false
open Go.RowKit Go.Shelf
abbrev opLmo0 : Oper := { dst := some 48, op := Go.Op.buildSlice 22 0 #[], type := 22, pos := "outright.go:176", after := #[], guard := none }
abbrev opLmo1 : Oper := { dst := some 51, op := Go.Op.call { callee := Go.Callee.builtin Go.Builtin.append, args := #[Go.Operand.tmp 48, Go.Operand.tmp 50], argTypes := #[22, 22] }, type := 22, pos := "outright.go:176", after := #[{ on := 2, ground := Go.Ground.data }, { on := 4, ground := Go.Ground.data }], guard := none }
abbrev opLmo2 : Oper := { dst := some 53, op := Go.Op.buildSlice 22 1 #[(0, Go.Operand.tmp 52)], type := 22, pos := "outright.go:176", after := #[{ on := 6, ground := Go.Ground.data }], guard := none }
abbrev opLmo3 : Oper := { dst := some 54, op := Go.Op.call { callee := Go.Callee.builtin Go.Builtin.append, args := #[Go.Operand.tmp 51, Go.Operand.tmp 53], argTypes := #[22, 22] }, type := 22, pos := "outright.go:176", after := #[{ on := 5, ground := Go.Ground.data }, { on := 7, ground := Go.Ground.data }, { on := 5, ground := Go.Ground.chain }], guard := none }
abbrev opLmo4 : Oper := { dst := some 59, op := Go.Op.build 25 #[(0, Go.Operand.tmp 47), (1, Go.Operand.tmp 54), (2, Go.Operand.tmp 56), (3, Go.Operand.tmp 58)], type := 25, pos := "outright.go:176", after := #[{ on := 1, ground := Go.Ground.data }, { on := 8, ground := Go.Ground.data }, { on := 10, ground := Go.Ground.data }, { on := 12, ground := Go.Ground.data }], guard := none }
abbrev opLmo5 : Oper := { dst := some 14, op := Go.Op.alloc 25, type := 0, pos := "outright.go:176", after := #[], guard := none }
abbrev opLmo6 : Oper := { dst := none, op := Go.Op.store 25 (Go.Operand.tmp 14) (Go.Operand.tmp 59), type := 0, pos := "outright.go:176", after := #[{ on := 14, ground := Go.Ground.data }, { on := 13, ground := Go.Ground.data }, { on := 8, ground := Go.Ground.chain }, { on := 0, ground := Go.Ground.phase }, { on := 1, ground := Go.Ground.phase }, { on := 2, ground := Go.Ground.phase }, { on := 3, ground := Go.Ground.phase }, { on := 4, ground := Go.Ground.phase }, { on := 5, ground := Go.Ground.phase }, { on := 6, ground := Go.Ground.phase }, { on := 7, ground := Go.Ground.phase }, { on := 8, ground := Go.Ground.phase }, { on := 9, ground := Go.Ground.phase }, { on := 10, ground := Go.Ground.phase }, { on := 11, ground := Go.Ground.phase }, { on := 12, ground := Go.Ground.phase }, { on := 13, ground := Go.Ground.phase }, { on := 14, ground := Go.Ground.phase }], guard := none }
abbrev opLmo7 : Oper := { dst := some 96, op := Go.Op.buildSlice 22 0 #[], type := 22, pos := "outright.go:187", after := #[], guard := none }
abbrev opLmo8 : Oper := { dst := some 99, op := Go.Op.call { callee := Go.Callee.builtin Go.Builtin.append, args := #[Go.Operand.tmp 96, Go.Operand.tmp 98], argTypes := #[22, 22] }, type := 22, pos := "outright.go:187", after := #[{ on := 2, ground := Go.Ground.data }, { on := 4, ground := Go.Ground.data }], guard := none }
abbrev opLmo9 : Oper := { dst := some 104, op := Go.Op.build 25 #[(0, Go.Operand.tmp 95), (1, Go.Operand.tmp 99), (2, Go.Operand.tmp 101), (3, Go.Operand.tmp 103)], type := 25, pos := "outright.go:187", after := #[{ on := 1, ground := Go.Ground.data }, { on := 5, ground := Go.Ground.data }, { on := 7, ground := Go.Ground.data }, { on := 9, ground := Go.Ground.data }], guard := none }
abbrev opLmo10 : Oper := { dst := some 19, op := Go.Op.alloc 25, type := 0, pos := "outright.go:187", after := #[], guard := none }
abbrev opLmo11 : Oper := { dst := none, op := Go.Op.store 25 (Go.Operand.tmp 19) (Go.Operand.tmp 104), type := 0, pos := "outright.go:187", after := #[{ on := 11, ground := Go.Ground.data }, { on := 10, ground := Go.Ground.data }, { on := 5, ground := Go.Ground.chain }, { on := 0, ground := Go.Ground.phase }, { on := 1, ground := Go.Ground.phase }, { on := 2, ground := Go.Ground.phase }, { on := 3, ground := Go.Ground.phase }, { on := 4, ground := Go.Ground.phase }, { on := 5, ground := Go.Ground.phase }, { on := 6, ground := Go.Ground.phase }, { on := 7, ground := Go.Ground.phase }, { on := 8, ground := Go.Ground.phase }, { on := 9, ground := Go.Ground.phase }, { on := 10, ground := Go.Ground.phase }, { on := 11, ground := Go.Ground.phase }], guard := none }
abbrev opLmo12 : Oper := { dst := some 215, op := Go.Op.move (Go.Operand.tmp 32), type := 4, pos := "outright.go:213", after := #[], guard := none }
abbrev opLmo13 : Oper := { dst := some 216, op := Go.Op.move (Go.Operand.tmp 215), type := 4, pos := "outright.go:213", after := #[{ on := 0, ground := Go.Ground.data }], guard := none }
abbrev opLmo14 : Oper := { dst := some 217, op := Go.Op.move (Go.Operand.tmp 29), type := 28, pos := "outright.go:213", after := #[{ on := 1, ground := Go.Ground.guard }], guard := some (1, false) }
abbrev opLmo15 : Oper := { dst := some 218, op := Go.Op.move (Go.Operand.tmp 31), type := 3, pos := "outright.go:213", after := #[{ on := 1, ground := Go.Ground.guard }], guard := some (1, false) }
abbrev opLmo16 : Oper := { dst := some 219, op := Go.Op.indexAddr 28 (Go.Operand.tmp 217) (Go.Operand.tmp 218), type := 0, pos := "outright.go:213", after := #[{ on := 2, ground := Go.Ground.data }, { on := 3, ground := Go.Ground.data }, { on := 1, ground := Go.Ground.guard }], guard := some (1, false) }
abbrev opLmo17 : Oper := { dst := some 220, op := Go.Op.load 23 (Go.Operand.tmp 219), type := 23, pos := "outright.go:213", after := #[{ on := 4, ground := Go.Ground.data }, { on := 1, ground := Go.Ground.guard }], guard := some (1, false) }
abbrev opLmo18 : Oper := { dst := some 221, op := Go.Op.move (Go.Operand.tmp 27), type := 28, pos := "outright.go:213", after := #[{ on := 1, ground := Go.Ground.guard }], guard := some (1, false) }
abbrev opLmo19 : Oper := { dst := some 222, op := Go.Op.move (Go.Operand.tmp 33), type := 3, pos := "outright.go:213", after := #[{ on := 1, ground := Go.Ground.guard }], guard := some (1, false) }
abbrev opLmo20 : Oper := { dst := some 223, op := Go.Op.indexAddr 28 (Go.Operand.tmp 221) (Go.Operand.tmp 222), type := 0, pos := "outright.go:213", after := #[{ on := 6, ground := Go.Ground.data }, { on := 7, ground := Go.Ground.data }, { on := 1, ground := Go.Ground.guard }], guard := some (1, false) }
abbrev opLmo21 : Oper := { dst := some 224, op := Go.Op.load 23 (Go.Operand.tmp 223), type := 23, pos := "outright.go:213", after := #[{ on := 8, ground := Go.Ground.data }, { on := 1, ground := Go.Ground.guard }], guard := some (1, false) }
abbrev opLmo22 : Oper := { dst := some 225, op := Go.Op.call { callee := Go.Callee.value (Go.Operand.func 39), args := #[Go.Operand.tmp 220, Go.Operand.tmp 224], argTypes := #[23, 23] }, type := 4, pos := "outright.go:213", after := #[{ on := 5, ground := Go.Ground.data }, { on := 9, ground := Go.Ground.data }, { on := 1, ground := Go.Ground.chain }, { on := 1, ground := Go.Ground.guard }], guard := some (1, false) }
abbrev opLmo23 : Oper := { dst := some 226, op := Go.Op.pick (Go.Operand.tmp 216) (Go.Operand.const (Go.Value.bool true)) (Go.Operand.tmp 225), type := 4, pos := "outright.go:213", after := #[{ on := 1, ground := Go.Ground.data }, { on := 10, ground := Go.Ground.data }], guard := none }
abbrev opLmo24 : Oper := { dst := some 32, op := Go.Op.assign (Go.Operand.tmp 226), type := 4, pos := "outright.go:213", after := #[{ on := 11, ground := Go.Ground.data }, { on := 10, ground := Go.Ground.chain }, { on := 0, ground := Go.Ground.phase }, { on := 1, ground := Go.Ground.phase }, { on := 2, ground := Go.Ground.phase }, { on := 3, ground := Go.Ground.phase }, { on := 4, ground := Go.Ground.phase }, { on := 5, ground := Go.Ground.phase }, { on := 6, ground := Go.Ground.phase }, { on := 7, ground := Go.Ground.phase }, { on := 8, ground := Go.Ground.phase }, { on := 9, ground := Go.Ground.phase }, { on := 10, ground := Go.Ground.phase }, { on := 11, ground := Go.Ground.phase }], guard := none }

theorem getD_mem2 {gl : List (List Int)} {n : Nat} (h : n < gl.length) : gl.getD n [] ∈ gl := by simp [List.getD, h]
theorem fine_yes {l : NL} (h : fineL l = true) : grtL l = false ∧ chkL l = 0 := by
  unfold fineL at h
  simpa using h
section
attribute [local go_sem ↓] exec_app at_app
attribute [local go_sem] Oper.semAt_some
set_option maxRecDepth 100000 in
set_option maxHeartbeats 40000000 in
theorem more11 (l : NL) (r : Nl) (x tq xa xb : Nat) (w : World) (h : NLo w l) (hr1 : -9223372036854775808 ≤ r.tr) (hr2 : r.tr ≤ 9223372036854775807) (hx : x ≤ 255) (htq : tq ≤ 4294967295) (hxa : xa ≤ 18446744073709551615) (hxb : xb ≤ 18446744073709551615) :
    Calls Try.prog 11 #[.agg #[.int .i64 l.N, .slice l.A l.n l.cap, .slice l.LA l.ln l.lc, .slice l.RA l.rn l.rc], .agg #[.int .i64 r.one, .int .i64 r.two, .int .i64 r.tr], .int .u8 (x : Int), .int .u32 (tq : Int), .agg #[.int .u64 (xa : Int), .int .u64 (xb : Int)]] w fun e w' => e = .returned (.bool true) ∧ Below w.heap.size w w' := by
  obtain ⟨R, hR⟩ : ∃ v, w.heap.size = v := ⟨_, rfl⟩
  have hb0 := below_alloc_ w (.cells #[.int .i64 l.N, .slice l.A l.n l.cap, .slice l.LA l.ln l.lc, .slice l.RA l.rn l.rc] 25)
  have hr0 := heap_alloc_new_ w (.cells #[.int .i64 l.N, .slice l.A l.n l.cap, .slice l.LA l.ln l.lc, .slice l.RA l.rn l.rc] 25)
  have hz0 : (w.alloc (.cells #[.int .i64 l.N, .slice l.A l.n l.cap, .slice l.LA l.ln l.lc, .slice l.RA l.rn l.rc] 25)).heap.size = w.heap.size + 1 := by simp
  obtain ⟨wb0, hwb0⟩ : ∃ v, w.alloc (.cells #[.int .i64 l.N, .slice l.A l.n l.cap, .slice l.LA l.ln l.lc, .slice l.RA l.rn l.rc] 25) = v := ⟨_, rfl⟩
  rw [hwb0] at hb0 hr0 hz0
  rw [hR] at hr0 hz0
  have hB := hb0
  have hb1 := below_alloc_ wb0 (.cells #[.int .i64 r.one, .int .i64 r.two, .int .i64 r.tr] 60)
  have hr1 := heap_alloc_new_ wb0 (.cells #[.int .i64 r.one, .int .i64 r.two, .int .i64 r.tr] 60)
  have hz1 : (wb0.alloc (.cells #[.int .i64 r.one, .int .i64 r.two, .int .i64 r.tr] 60)).heap.size = wb0.heap.size + 1 := by simp
  obtain ⟨wb1, hwb1⟩ : ∃ v, wb0.alloc (.cells #[.int .i64 r.one, .int .i64 r.two, .int .i64 r.tr] 60) = v := ⟨_, rfl⟩
  rw [hwb1] at hb1 hr1 hz1
  rw [hz0] at hr1 hz1
  replace hr0 := (hb1.block _ (lt_of_block hr0)).trans hr0
  replace hB := hB.trans (hb1.mono hB.size)
  have hb2 := below_alloc_ wb1 (.cells #[.int .u64 (xa : Int), .int .u64 (xb : Int)] 56)
  have hr2 := heap_alloc_new_ wb1 (.cells #[.int .u64 (xa : Int), .int .u64 (xb : Int)] 56)
  have hz2 : (wb1.alloc (.cells #[.int .u64 (xa : Int), .int .u64 (xb : Int)] 56)).heap.size = wb1.heap.size + 1 := by simp
  obtain ⟨w0, hw0⟩ : ∃ v, wb1.alloc (.cells #[.int .u64 (xa : Int), .int .u64 (xb : Int)] 56) = v := ⟨_, rfl⟩
  rw [hw0] at hb2 hr2 hz2
  rw [hz1] at hr2 hz2
  replace hr0 := (hb2.block _ (lt_of_block hr0)).trans hr0
  replace hr1 := (hb2.block _ (lt_of_block hr1)).trans hr1
  replace hB := hB.trans (hb2.mono hB.size)
  have LO := Lib.hid (h.below hB (Nat.le_refl _))
  have X := Lib.hid hr0
  have M := Lib.hid hr1
  have Y := Lib.hid hr2
  have HW0 := Lib.hid hwb0
  have HW1 := Lib.hid hwb1
  have HW2 := Lib.hid hw0
  have B := Lib.hid hB
  have HR := Lib.hid hR
  clear hB hR hb0 hr0 hz0 hwb0 hb1 hr1 hz1 hwb1 hb2 hr2 hz2 hw0 h
  have Hx := Lib.hid hx
  have Hq := Lib.hid htq
  have Hxa := Lib.hid hxa
  have Hxb := Lib.hid hxb
  clear hx htq hxa hxb hr1 hr2
  have ltX : R < w0.heap.size := lt_of_block X.out
  have zX0 : w0.cell? ⟨R, 0, none⟩ = some (.int .i64 l.N) := by rw [cell_row X.out]; rfl
  have zX1 : w0.cell? ⟨R, 1, none⟩ = some (.slice l.A l.n l.cap) := by rw [cell_row X.out]; rfl
  have zX2 : w0.cell? ⟨R, 2, none⟩ = some (.slice l.LA l.ln l.lc) := by rw [cell_row X.out]; rfl
  have zX3 : w0.cell? ⟨R, 3, none⟩ = some (.slice l.RA l.rn l.rc) := by rw [cell_row X.out]; rfl
  have ltM : R + 1 < w0.heap.size := lt_of_block M.out
  have zM0 : w0.cell? ⟨R + 1, 0, none⟩ = some (.int .i64 r.one) := by rw [cell_row M.out]; rfl
  have zM1 : w0.cell? ⟨R + 1, 1, none⟩ = some (.int .i64 r.two) := by rw [cell_row M.out]; rfl
  have zM2 : w0.cell? ⟨R + 1, 2, none⟩ = some (.int .i64 r.tr) := by rw [cell_row M.out]; rfl
  have ltY : R + 2 < w0.heap.size := lt_of_block Y.out
  have zY0 : w0.cell? ⟨R + 2, 0, none⟩ = some (.int .u64 (xa : Int)) := by rw [cell_row Y.out]; rfl
  have zY1 : w0.cell? ⟨R + 2, 1, none⟩ = some (.int .u64 (xb : Int)) := by rw [cell_row Y.out]; rfl
  go_enter Try.func11, Try.ntmps11
  go_wp2_with fail
  try rw [HW0.out]
  try rw [HW1.out]
  try rw [HW2.out]
  try rw [HR.out]
  try simp only [Nat.add_assoc, Nat.reduceAdd]
  try go_wp2_with fail
  clear zX0 zX1 zX2 zX3 zM0 zM1 zM2 zY0 zY1 ltX ltM ltY
  refine (fineO l w0 LO.out).mono ?_
  rintro en w1 ⟨rfl, hb⟩
  replace LO := Lib.hid (LO.out.below hb (Nat.le_refl _))
  replace X := Lib.hid ((hb.block _ (lt_of_block X.out)).trans X.out)
  replace M := Lib.hid ((hb.block _ (lt_of_block M.out)).trans M.out)
  replace Y := Lib.hid ((hb.block _ (lt_of_block Y.out)).trans Y.out)
  replace B := Lib.hid (B.out.trans (hb.mono B.out.size))
  cases hg : fineL l
  try clear hb
  · clear hg
    have ltX : R < w1.heap.size := lt_of_block X.out
    have zX0 : w1.cell? ⟨R, 0, none⟩ = some (.int .i64 l.N) := by rw [cell_row X.out]; rfl
    have zX1 : w1.cell? ⟨R, 1, none⟩ = some (.slice l.A l.n l.cap) := by rw [cell_row X.out]; rfl
    have zX2 : w1.cell? ⟨R, 2, none⟩ = some (.slice l.LA l.ln l.lc) := by rw [cell_row X.out]; rfl
    have zX3 : w1.cell? ⟨R, 3, none⟩ = some (.slice l.RA l.rn l.rc) := by rw [cell_row X.out]; rfl
    have ltM : R + 1 < w1.heap.size := lt_of_block M.out
    have zM0 : w1.cell? ⟨R + 1, 0, none⟩ = some (.int .i64 r.one) := by rw [cell_row M.out]; rfl
    have zM1 : w1.cell? ⟨R + 1, 1, none⟩ = some (.int .i64 r.two) := by rw [cell_row M.out]; rfl
    have zM2 : w1.cell? ⟨R + 1, 2, none⟩ = some (.int .i64 r.tr) := by rw [cell_row M.out]; rfl
    have ltY : R + 2 < w1.heap.size := lt_of_block Y.out
    have zY0 : w1.cell? ⟨R + 2, 0, none⟩ = some (.int .u64 (xa : Int)) := by rw [cell_row Y.out]; rfl
    have zY1 : w1.cell? ⟨R + 2, 1, none⟩ = some (.int .u64 (xb : Int)) := by rw [cell_row Y.out]; rfl
    go_wp2_with fail
    clear zX0 zX1 zX2 zX3 zM0 zM1 zM2 zY0 zY1 ltX ltM ltY
    refine (works14 w1).mono ?_
    rintro en w2 ⟨rfl, hb⟩
    replace B := Lib.hid (B.out.trans (hb.mono B.out.size))
    clear hb
    go_wp2_with fail
    go_ret
    exact ⟨rfl, B.out⟩
  have S := Lib.hid (LO.out.nls (fine_yes hg).1)
  have HCH := Lib.hid (fine_yes hg).2
  clear hg
  have hN := (chk_zero HCH.out).1
  obtain ⟨c, hcN⟩ : ∃ c : Nat, l.N = (c : Int) := ⟨l.N.toNat, by omega⟩
  have HCN := Lib.hid hcN
  have HTO := Lib.hid (show l.N.toNat = c by omega)
  have HC40 := Lib.hid (show c ≤ 40 by omega)
  have HN12 := Lib.hid (chk_zero HCH.out).2.1
  clear hN hcN
  have ltX : R < w1.heap.size := lt_of_block X.out
  have zX0 : w1.cell? ⟨R, 0, none⟩ = some (.int .i64 l.N) := by rw [cell_row X.out]; rfl
  have zX1 : w1.cell? ⟨R, 1, none⟩ = some (.slice l.A l.n l.cap) := by rw [cell_row X.out]; rfl
  have zX2 : w1.cell? ⟨R, 2, none⟩ = some (.slice l.LA l.ln l.lc) := by rw [cell_row X.out]; rfl
  have zX3 : w1.cell? ⟨R, 3, none⟩ = some (.slice l.RA l.rn l.rc) := by rw [cell_row X.out]; rfl
  have ltM : R + 1 < w1.heap.size := lt_of_block M.out
  have zM0 : w1.cell? ⟨R + 1, 0, none⟩ = some (.int .i64 r.one) := by rw [cell_row M.out]; rfl
  have zM1 : w1.cell? ⟨R + 1, 1, none⟩ = some (.int .i64 r.two) := by rw [cell_row M.out]; rfl
  have zM2 : w1.cell? ⟨R + 1, 2, none⟩ = some (.int .i64 r.tr) := by rw [cell_row M.out]; rfl
  have ltY : R + 2 < w1.heap.size := lt_of_block Y.out
  have zY0 : w1.cell? ⟨R + 2, 0, none⟩ = some (.int .u64 (xa : Int)) := by rw [cell_row Y.out]; rfl
  have zY1 : w1.cell? ⟨R + 2, 1, none⟩ = some (.int .u64 (xb : Int)) := by rw [cell_row Y.out]; rfl
  go_wp2_with fail
  clear zX0 zX1 zX2 zX3 zM0 zM1 zM2 zY0 zY1 ltX ltM ltY
  refine (leastA l w1 S.out HCH.out).mono ?_
  rintro en w2 ⟨QL, R1, rfl, hI, hCh, hAl, hb⟩
  replace LO := Lib.hid (LO.out.below hb (Nat.le_refl _))
  replace S := Lib.hid (S.out.below hb (Nat.le_refl _))
  replace X := Lib.hid ((hb.block _ (lt_of_block X.out)).trans X.out)
  replace M := Lib.hid ((hb.block _ (lt_of_block M.out)).trans M.out)
  replace Y := Lib.hid ((hb.block _ (lt_of_block Y.out)).trans Y.out)
  replace B := Lib.hid (B.out.trans (hb.mono B.out.size))
  rw [HTO.out] at hI ⊢
  have HQ := Lib.hid hI
  have HCR := Lib.hid hCh
  have HAR := Lib.hid hAl
  obtain ⟨sR, hsR⟩ : ∃ v, nmK R1 c = v := ⟨_, rfl⟩
  obtain ⟨nR, hnR⟩ : ∃ v, sR.length = v := ⟨_, rfl⟩
  rw [hsR, hnR] at HQ ⊢
  have HSR := Lib.hid hsR
  obtain ⟨q, hq⟩ : ∃ v, costS l.zs R1 = v := ⟨_, rfl⟩
  rw [hq]
  have HQV := Lib.hid hq
  clear hI hCh hAl hsR hnR hq
  have hn12 := HN12.out
  have Hzl := Lib.hid S.out.zs.1
  try clear hb
  have ltX : R < w2.heap.size := lt_of_block X.out
  have zX0 : w2.cell? ⟨R, 0, none⟩ = some (.int .i64 l.N) := by rw [cell_row X.out]; rfl
  have zX1 : w2.cell? ⟨R, 1, none⟩ = some (.slice l.A l.n l.cap) := by rw [cell_row X.out]; rfl
  have zX2 : w2.cell? ⟨R, 2, none⟩ = some (.slice l.LA l.ln l.lc) := by rw [cell_row X.out]; rfl
  have zX3 : w2.cell? ⟨R, 3, none⟩ = some (.slice l.RA l.rn l.rc) := by rw [cell_row X.out]; rfl
  have ltM : R + 1 < w2.heap.size := lt_of_block M.out
  have zM0 : w2.cell? ⟨R + 1, 0, none⟩ = some (.int .i64 r.one) := by rw [cell_row M.out]; rfl
  have zM1 : w2.cell? ⟨R + 1, 1, none⟩ = some (.int .i64 r.two) := by rw [cell_row M.out]; rfl
  have zM2 : w2.cell? ⟨R + 1, 2, none⟩ = some (.int .i64 r.tr) := by rw [cell_row M.out]; rfl
  have ltY : R + 2 < w2.heap.size := lt_of_block Y.out
  have zY0 : w2.cell? ⟨R + 2, 0, none⟩ = some (.int .u64 (xa : Int)) := by rw [cell_row Y.out]; rfl
  have zY1 : w2.cell? ⟨R + 2, 1, none⟩ = some (.int .u64 (xb : Int)) := by rw [cell_row Y.out]; rfl
  go_upto_region 6 with fail
  obtain ⟨wB, rfl⟩ : ∃ v, v = w2 := ⟨_, rfl⟩
  go_cut [14] from 46 to 59 (fun v14 wx => ∃ D C8 c8, v14 = .pointer (some ⟨D, 0, none⟩) ∧ wx.heap[D]? = some (.cells #[.int .i64 l.N, .slice C8 (l.n + 1) c8, .slice l.LA l.ln l.lc, .slice l.RA l.rn l.rc] 25 (0, 0)) ∧ l.n + 1 ≤ c8 ∧ Nls wx C8 (l.n + 1) (l.zs ++ [r]) ∧ Below wB.heap.size wB wx)
  case first =>
    refine wp_region_held_drew (S := fun w2 => Below wB.heap.size wB w2) (by kernel_rfl) (drew_b _ _) (fun hS0 => ?_)
    refine wpAnyH_take (i := 0) (oi := { dst := some 46, op := Go.Op.fieldAddr 25 (Go.Operand.tmp 5) 0, type := 0, pos := "outright.go:176", after := #[], guard := none }) (v := .pointer (some ⟨R, 0, none⟩)) rfl (by kernel_rfl) (by kernel_rfl) (by kernel_rfl) (fun _ _ _ h => h) (Or.inl ⟨by rfl, by intro w2 hSw; (try dsimp only at hSw);  go_simp⟩) hS0 ?_
    try simp only [Act.put, List.setIfInBounds_toArray, List.set_cons_zero, List.set_cons_succ]
    refine wpAnyH_take (i := 1) (oi := { dst := some 47, op := Go.Op.load 3 (Go.Operand.tmp 46), type := 3, pos := "outright.go:176", after := #[{ on := 0, ground := Go.Ground.data }], guard := none }) (v := .int .i64 l.N) rfl (by kernel_rfl) (by kernel_rfl) (by kernel_rfl) (fun _ _ _ h => h) (Or.inl ⟨by rfl, by intro w2 hSw; (try dsimp only at hSw); have q0 := (hSw.cell (lt_of_cell zX0)).trans zX0; have q1 := (hSw.cell (lt_of_cell zX1)).trans zX1; have q2 := (hSw.cell (lt_of_cell zX2)).trans zX2; have q3 := (hSw.cell (lt_of_cell zX3)).trans zX3; have p0 := (hSw.cell (lt_of_cell zM0)).trans zM0; have p1 := (hSw.cell (lt_of_cell zM1)).trans zM1; have p2 := (hSw.cell (lt_of_cell zM2)).trans zM2; go_simp⟩) hS0 ?_
    try simp only [Act.put, List.setIfInBounds_toArray, List.set_cons_zero, List.set_cons_succ]
    refine wpAnyH_take (i := 3) (oi := { dst := some 49, op := Go.Op.fieldAddr 25 (Go.Operand.tmp 5) 1, type := 0, pos := "outright.go:176", after := #[], guard := none }) (v := .pointer (some ⟨R, 1, none⟩)) rfl (by kernel_rfl) (by kernel_rfl) (by kernel_rfl) (fun _ _ _ h => h) (Or.inl ⟨by rfl, by intro w2 hSw; (try dsimp only at hSw);  go_simp⟩) hS0 ?_
    try simp only [Act.put, List.setIfInBounds_toArray, List.set_cons_zero, List.set_cons_succ]
    refine wpAnyH_take (i := 4) (oi := { dst := some 50, op := Go.Op.load 22 (Go.Operand.tmp 49), type := 22, pos := "outright.go:176", after := #[{ on := 3, ground := Go.Ground.data }], guard := none }) (v := .slice l.A l.n l.cap) rfl (by kernel_rfl) (by kernel_rfl) (by kernel_rfl) (fun _ _ _ h => h) (Or.inl ⟨by rfl, by intro w2 hSw; (try dsimp only at hSw); have q0 := (hSw.cell (lt_of_cell zX0)).trans zX0; have q1 := (hSw.cell (lt_of_cell zX1)).trans zX1; have q2 := (hSw.cell (lt_of_cell zX2)).trans zX2; have q3 := (hSw.cell (lt_of_cell zX3)).trans zX3; have p0 := (hSw.cell (lt_of_cell zM0)).trans zM0; have p1 := (hSw.cell (lt_of_cell zM1)).trans zM1; have p2 := (hSw.cell (lt_of_cell zM2)).trans zM2; go_simp⟩) hS0 ?_
    try simp only [Act.put, List.setIfInBounds_toArray, List.set_cons_zero, List.set_cons_succ]
    refine wpAnyH_take (i := 6) (oi := { dst := some 52, op := Go.Op.load 60 (Go.Operand.tmp 6), type := 60, pos := "outright.go:176", after := #[], guard := none }) (v := .agg #[.int .i64 r.one, .int .i64 r.two, .int .i64 r.tr]) rfl (by kernel_rfl) (by kernel_rfl) (by kernel_rfl) (fun _ _ _ h => h) (Or.inl ⟨by rfl, by intro w2 hSw; (try dsimp only at hSw); have q0 := (hSw.cell (lt_of_cell zX0)).trans zX0; have q1 := (hSw.cell (lt_of_cell zX1)).trans zX1; have q2 := (hSw.cell (lt_of_cell zX2)).trans zX2; have q3 := (hSw.cell (lt_of_cell zX3)).trans zX3; have p0 := (hSw.cell (lt_of_cell zM0)).trans zM0; have p1 := (hSw.cell (lt_of_cell zM1)).trans zM1; have p2 := (hSw.cell (lt_of_cell zM2)).trans zM2; go_simp⟩) hS0 ?_
    try simp only [Act.put, List.setIfInBounds_toArray, List.set_cons_zero, List.set_cons_succ]
    refine wpAnyH_take (i := 9) (oi := { dst := some 55, op := Go.Op.fieldAddr 25 (Go.Operand.tmp 5) 2, type := 0, pos := "outright.go:176", after := #[], guard := none }) (v := .pointer (some ⟨R, 2, none⟩)) rfl (by kernel_rfl) (by kernel_rfl) (by kernel_rfl) (fun _ _ _ h => h) (Or.inl ⟨by rfl, by intro w2 hSw; (try dsimp only at hSw);  go_simp⟩) hS0 ?_
    try simp only [Act.put, List.setIfInBounds_toArray, List.set_cons_zero, List.set_cons_succ]
    refine wpAnyH_take (i := 10) (oi := { dst := some 56, op := Go.Op.load 23 (Go.Operand.tmp 55), type := 23, pos := "outright.go:176", after := #[{ on := 9, ground := Go.Ground.data }], guard := none }) (v := .slice l.LA l.ln l.lc) rfl (by kernel_rfl) (by kernel_rfl) (by kernel_rfl) (fun _ _ _ h => h) (Or.inl ⟨by rfl, by intro w2 hSw; (try dsimp only at hSw); have q0 := (hSw.cell (lt_of_cell zX0)).trans zX0; have q1 := (hSw.cell (lt_of_cell zX1)).trans zX1; have q2 := (hSw.cell (lt_of_cell zX2)).trans zX2; have q3 := (hSw.cell (lt_of_cell zX3)).trans zX3; have p0 := (hSw.cell (lt_of_cell zM0)).trans zM0; have p1 := (hSw.cell (lt_of_cell zM1)).trans zM1; have p2 := (hSw.cell (lt_of_cell zM2)).trans zM2; go_simp⟩) hS0 ?_
    try simp only [Act.put, List.setIfInBounds_toArray, List.set_cons_zero, List.set_cons_succ]
    refine wpAnyH_take (i := 11) (oi := { dst := some 57, op := Go.Op.fieldAddr 25 (Go.Operand.tmp 5) 3, type := 0, pos := "outright.go:176", after := #[], guard := none }) (v := .pointer (some ⟨R, 3, none⟩)) rfl (by kernel_rfl) (by kernel_rfl) (by kernel_rfl) (fun _ _ _ h => h) (Or.inl ⟨by rfl, by intro w2 hSw; (try dsimp only at hSw);  go_simp⟩) hS0 ?_
    try simp only [Act.put, List.setIfInBounds_toArray, List.set_cons_zero, List.set_cons_succ]
    refine wpAnyH_take (i := 12) (oi := { dst := some 58, op := Go.Op.load 23 (Go.Operand.tmp 57), type := 23, pos := "outright.go:176", after := #[{ on := 11, ground := Go.Ground.data }], guard := none }) (v := .slice l.RA l.rn l.rc) rfl (by kernel_rfl) (by kernel_rfl) (by kernel_rfl) (fun _ _ _ h => h) (Or.inl ⟨by rfl, by intro w2 hSw; (try dsimp only at hSw); have q0 := (hSw.cell (lt_of_cell zX0)).trans zX0; have q1 := (hSw.cell (lt_of_cell zX1)).trans zX1; have q2 := (hSw.cell (lt_of_cell zX2)).trans zX2; have q3 := (hSw.cell (lt_of_cell zX3)).trans zX3; have p0 := (hSw.cell (lt_of_cell zM0)).trans zM0; have p1 := (hSw.cell (lt_of_cell zM1)).trans zM1; have p2 := (hSw.cell (lt_of_cell zM2)).trans zM2; go_simp⟩) hS0 ?_
    try simp only [Act.put, List.setIfInBounds_toArray, List.set_cons_zero, List.set_cons_succ]
    generalize wB.drew = V0 at hS0 ⊢
    have hV0 := hS0
    clear hS0
    refine wpAnyH_ready (rs := [2, 7, 14]) (by kernel_rfl) (by simp) ?_
    refine AllReadyH.cons (o := opLmo0) rfl (fun K2 hK => ?_) ?_
    · go_simp
      refine hK.out _ _ (hV0.trans ((below_alloc_ _ _).mono hV0.size)) (fun hV1 => ?_)
      clear hK K2
      have hZ := heap_alloc_new_ V0 (.cells #[] 60)
      have hb := below_alloc_ V0 (.cells #[] 60)
      have HZ0 := Lib.hid (show wB.heap.size ≤ V0.heap.size from hV0.size)
      have HB := Lib.hid (show ∀ j, Value.ownBlock (.slice (some ⟨V0.heap.size, 0, none⟩) 0 0) = some j → wB.heap.size ≤ j from fun j e => by have h9 : V0.heap.size = j := Option.some.inj e; have := HZ0.out; omega)
      generalize V0.alloc (.cells #[] 60) = V1 at *
      obtain ⟨Z, hZe⟩ : ∃ Z, V0.heap.size = Z := ⟨_, rfl⟩
      rw [hZe] at hZ HZ0 HB ⊢
      clear hZe hb
      have hown := own_empty (size := 3) hZ
      clear hZ
      try simp only [Act.put, List.setIfInBounds_toArray, List.set_cons_zero, List.set_cons_succ]
      refine wpAnyH_ready (rs := [5, 7, 14]) (by kernel_rfl) (by simp) ?_
      refine AllReadyH.cons (o := opLmo1) rfl (fun K2 hK => ?_) ?_
      · obtain ⟨v1, V2, hrun, hown2, hKp, hon⟩ := app_nls (c2 := l.cap) (xs := []) hown (S.out.zs.below hV1 (Nat.le_refl _)) (by omega)
        have hV2h := Lib.hid (show Below wB.heap.size wB V2 from hV1.trans (hKp.below hV1.size (fun j hj e => by have := HB.out j e; omega)))
        have HB2 := Lib.hid (show ∀ j, Value.ownBlock v1 = some j → wB.heap.size ≤ j from fun j e => by rcases hon with h9 | h9 <;> rw [h9] at e <;> first | exact HB.out j e | (have h8 : V1.heap.size = j := Option.some.inj e; have := hV1.size; omega))
        clear HB hown hon hKp
        have HB := HB2
        have Hown := Lib.hid hown2
        clear HB2 hown2
        go_simp
        try rw [hrun]
        try go_simp
        have hown := Hown.out
        clear Hown
        refine hK.out _ _ (hV2h.out) (fun hV2 => ?_)
        clear hK K2
        clear hrun hV2h
        try simp only [Act.put, List.setIfInBounds_toArray, List.set_cons_zero, List.set_cons_succ]
        refine wpAnyH_ready (rs := [7, 14]) (by kernel_rfl) (by simp) ?_
        refine AllReadyH.cons (o := opLmo2) rfl (fun K2 hK => ?_) ?_
        · go_simp
          refine hK.out _ _ (hV2.trans ((below_alloc_ _ _).mono hV2.size)) (fun hV3 => ?_)
          clear hK K2
          have hT := heap_alloc_new_ V2 (.cells #[.int .i64 r.one, .int .i64 r.two, .int .i64 r.tr] 60)
          have hb := below_alloc_ V2 (.cells #[.int .i64 r.one, .int .i64 r.two, .int .i64 r.tr] 60)
          have HOT := Lib.hid (show Value.ownBlock (v1) ≠ some V2.heap.size from fun e => by have := own_lt hown _ e; omega)
          replace hown := own_keep hown (Keeps.of_new (Mut := fun _ => False) hb) (fun _ _ e => e)
          have HT0 := Lib.hid (show wB.heap.size ≤ V2.heap.size from hV2.size)
          generalize V2.alloc (.cells #[.int .i64 r.one, .int .i64 r.two, .int .i64 r.tr] 60) = V3 at *
          obtain ⟨T, hTe⟩ : ∃ T, V2.heap.size = T := ⟨_, rfl⟩
          rw [hTe] at hT HT0 HOT ⊢
          clear hTe hb
          try simp only [Act.put, List.setIfInBounds_toArray, List.set_cons_zero, List.set_cons_succ]
          refine wpAnyH_ready (rs := [8, 14]) (by kernel_rfl) (by simp) ?_
          refine AllReadyH.cons (o := opLmo3) rfl (fun K2 hK => ?_) ?_
          · obtain ⟨v2, V4, hrun, hown2, hKp, hon⟩ := app_1n (r := r) hown hT (by omega)
            have hV4h := Lib.hid (show Below wB.heap.size wB V4 from hV3.trans (hKp.below hV3.size (fun j hj e => by have := HB.out j e; omega)))
            have HPT := Lib.hid (show Value.ownBlock v2 ≠ some T from by rcases hon with h9 | h9 <;> rw [h9] <;> first | exact HOT.out | (intro e; have h8 : V3.heap.size = T := Option.some.inj e; have := lt_of_block hT; omega))
            replace hT := (hKp.block _ (lt_of_block hT) HOT.out).trans hT
            clear HOT
            have HOT := HPT
            clear HPT
            have HB2 := Lib.hid (show ∀ j, Value.ownBlock v2 = some j → wB.heap.size ≤ j from fun j e => by rcases hon with h9 | h9 <;> rw [h9] at e <;> first | exact HB.out j e | (have h8 : V3.heap.size = j := Option.some.inj e; have := hV3.size; omega))
            clear HB hown hon hKp
            have HB := HB2
            have Hown := Lib.hid hown2
            clear HB2 hown2
            have hown9 := Hown.out
            clear Hown
            rw [Nat.zero_add, List.nil_append] at hown9
            obtain ⟨C8, c8, rfl, hc8, hr8, hC8⟩ := nls_own (by rw [List.length_append, Hzl.out]; rfl) hown9
            have HR8 := Lib.hid hr8
            have Hc8 := Lib.hid hc8
            clear hr8 hC8 hown9 hc8
            go_simp
            try rw [hrun]
            try go_simp
            refine hK.out _ _ (hV4h.out) (fun hV4 => ?_)
            clear hK K2
            clear hrun hV4h
            try simp only [Act.put, List.setIfInBounds_toArray, List.set_cons_zero, List.set_cons_succ]
            refine wpAnyH_take (i := 13) (oi := opLmo4) (v := .agg #[.int .i64 l.N, .slice C8 (l.n + 1) c8, .slice l.LA l.ln l.lc, .slice l.RA l.rn l.rc]) rfl (by kernel_rfl) (by kernel_rfl) (by kernel_rfl) (fun _ _ _ h => h) (Or.inl ⟨by rfl, by intro w2 hSw; (try dsimp only at hSw);  go_simp⟩) hV4 ?_
            try simp only [Act.put, List.setIfInBounds_toArray, List.set_cons_zero, List.set_cons_succ]
            refine wpAnyH_ready (rs := [14]) (by kernel_rfl) (by simp) ?_
            refine AllReadyH.cons (o := opLmo5) rfl (fun K2 hK => ?_) ?_
            · go_simp
              refine hK.out _ _ (hV4.trans ((below_alloc_ _ _).mono hV4.size)) (fun hV5 => ?_)
              clear hK K2
              have hD := heap_alloc_new_ V4 (.cells #[.int .i64 0, .slice none 0 0, .slice none 0 0, .slice none 0 0] 25)
              have hb := below_alloc_ V4 (.cells #[.int .i64 0, .slice none 0 0, .slice none 0 0, .slice none 0 0] 25)
              have HNTD := Lib.hid (show T ≠ V4.heap.size from by have := lt_of_block hT; omega)
              have HOD := Lib.hid (show ∀ b o, C8 = some ⟨b, o, none⟩ → b ≠ V4.heap.size from fun b o e => by obtain ⟨b2, o2, e2, hc2⟩ := HR8.out.2 (by omega); rw [e2] at e; cases e; have := lt_of_cell (hc2 0 (by omega)).1; omega)
              replace HR8 := Lib.hid (HR8.out.below hb (Nat.le_refl _))
              replace hT := (hb.block _ (lt_of_block hT)).trans hT
              have HD0 := Lib.hid (show wB.heap.size ≤ V4.heap.size from hV4.size)
              generalize V4.alloc (.cells #[.int .i64 0, .slice none 0 0, .slice none 0 0, .slice none 0 0] 25) = V5 at *
              obtain ⟨D, hDe⟩ : ∃ D, V4.heap.size = D := ⟨_, rfl⟩
              rw [hDe] at hD HD0 HNTD HOD ⊢
              clear hDe hb
              try simp only [Act.put, List.setIfInBounds_toArray, List.set_cons_zero, List.set_cons_succ]
              have f0 : V5.cell? ⟨D, 0, none⟩ = some (.int .i64 0) := by rw [cell_row hD]; rfl
              have f1 : V5.cell? ⟨D, 1, none⟩ = some (.slice none 0 0) := by rw [cell_row hD]; rfl
              have f2 : V5.cell? ⟨D, 2, none⟩ = some (.slice none 0 0) := by rw [cell_row hD]; rfl
              have f3 : V5.cell? ⟨D, 3, none⟩ = some (.slice none 0 0) := by rw [cell_row hD]; rfl
              have fz : ∀ i, V5.frozen? ⟨D, i, none⟩ = false := fun i => frozen_row hD
              have HF := Lib.hid (more_list (c8 := c8) (N := l.N) (v2 := .slice l.LA l.ln l.lc) (v3 := .slice l.RA l.rn l.rc) hV5 hD HD0.out HR8.out HOD.out)
              clear hD
              refine wpAnyH_ready (rs := [15]) (by kernel_rfl) (by simp) ?_
              refine AllReadyH.cons (o := opLmo6) rfl (fun K2 hK => ?_) AllReadyH.nil
              go_simp
              refine hK.out _ _ HF.out.2.2 (fun hSf => ?_)
              clear hK K2
              try simp only [Act.put, List.setIfInBounds_toArray, List.set_cons_zero, List.set_cons_succ]
              refine wpAnyH_done (by kernel_rfl) ?_ _
              clear f0 f1 f2 f3 fz hSf
              go_wp2_with fail
              go_meet
              case rel => exact ⟨D, C8, c8, rfl, HF.out.1, Hc8.out, HF.out.2.1, HF.out.2.2⟩
            exact AllReadyH.nil
          refine AllReadyH.cons (o := opLmo5) rfl (fun K2 hK => ?_) ?_
          · go_simp
            refine hK.out _ _ (hV3.trans ((below_alloc_ _ _).mono hV3.size)) (fun hV4 => ?_)
            clear hK K2
            have hD := heap_alloc_new_ V3 (.cells #[.int .i64 0, .slice none 0 0, .slice none 0 0, .slice none 0 0] 25)
            have hb := below_alloc_ V3 (.cells #[.int .i64 0, .slice none 0 0, .slice none 0 0, .slice none 0 0] 25)
            have HNTD := Lib.hid (show T ≠ V3.heap.size from by have := lt_of_block hT; omega)
            have HOD := Lib.hid (show Value.ownBlock (v1) ≠ some V3.heap.size from fun e => by have := own_lt hown _ e; omega)
            replace hown := own_keep hown (Keeps.of_new (Mut := fun _ => False) hb) (fun _ _ e => e)
            replace hT := (hb.block _ (lt_of_block hT)).trans hT
            have HD0 := Lib.hid (show wB.heap.size ≤ V3.heap.size from hV3.size)
            generalize V3.alloc (.cells #[.int .i64 0, .slice none 0 0, .slice none 0 0, .slice none 0 0] 25) = V4 at *
            obtain ⟨D, hDe⟩ : ∃ D, V3.heap.size = D := ⟨_, rfl⟩
            rw [hDe] at hD HD0 HNTD HOD ⊢
            clear hDe hb
            try simp only [Act.put, List.setIfInBounds_toArray, List.set_cons_zero, List.set_cons_succ]
            refine wpAnyH_ready (rs := [8]) (by kernel_rfl) (by simp) ?_
            refine AllReadyH.cons (o := opLmo3) rfl (fun K2 hK => ?_) ?_
            · obtain ⟨v2, V5, hrun, hown2, hKp, hon⟩ := app_1n (r := r) hown hT (by omega)
              have hV5h := Lib.hid (show Below wB.heap.size wB V5 from hV4.trans (hKp.below hV4.size (fun j hj e => by have := HB.out j e; omega)))
              have HPT := Lib.hid (show Value.ownBlock v2 ≠ some T from by rcases hon with h9 | h9 <;> rw [h9] <;> first | exact HOT.out | (intro e; have h8 : V4.heap.size = T := Option.some.inj e; have := lt_of_block hT; omega))
              replace hT := (hKp.block _ (lt_of_block hT) HOT.out).trans hT
              clear HOT
              have HOT := HPT
              clear HPT
              have HPD := Lib.hid (show Value.ownBlock v2 ≠ some D from by rcases hon with h9 | h9 <;> rw [h9] <;> first | exact HOD.out | (intro e; have h8 : V4.heap.size = D := Option.some.inj e; have := lt_of_block hD; omega))
              replace hD := (hKp.block _ (lt_of_block hD) HOD.out).trans hD
              clear HOD
              have HOD := HPD
              clear HPD
              have HB2 := Lib.hid (show ∀ j, Value.ownBlock v2 = some j → wB.heap.size ≤ j from fun j e => by rcases hon with h9 | h9 <;> rw [h9] at e <;> first | exact HB.out j e | (have h8 : V4.heap.size = j := Option.some.inj e; have := hV4.size; omega))
              clear HB hown hon hKp
              have HB := HB2
              have Hown := Lib.hid hown2
              clear HB2 hown2
              have hown9 := Hown.out
              clear Hown
              rw [Nat.zero_add, List.nil_append] at hown9
              obtain ⟨C8, c8, rfl, hc8, hr8, hC8⟩ := nls_own (by rw [List.length_append, Hzl.out]; rfl) hown9
              have HR8 := Lib.hid hr8
              have Hc8 := Lib.hid hc8
              have HC8 := Lib.hid (show ∀ b o, C8 = some ⟨b, o, none⟩ → b ≠ D from fun b o e e2 => HOD.out (by rw [← e2]; exact hC8 b o e))
              clear HOD
              have HOD := HC8
              clear HC8
              clear hr8 hC8 hown9 hc8
              go_simp
              try rw [hrun]
              try go_simp
              refine hK.out _ _ (hV5h.out) (fun hV5 => ?_)
              clear hK K2
              clear hrun hV5h
              try simp only [Act.put, List.setIfInBounds_toArray, List.set_cons_zero, List.set_cons_succ]
              refine wpAnyH_take (i := 13) (oi := opLmo4) (v := .agg #[.int .i64 l.N, .slice C8 (l.n + 1) c8, .slice l.LA l.ln l.lc, .slice l.RA l.rn l.rc]) rfl (by kernel_rfl) (by kernel_rfl) (by kernel_rfl) (fun _ _ _ h => h) (Or.inl ⟨by rfl, by intro w2 hSw; (try dsimp only at hSw);  go_simp⟩) hV5 ?_
              try simp only [Act.put, List.setIfInBounds_toArray, List.set_cons_zero, List.set_cons_succ]
              have f0 : V5.cell? ⟨D, 0, none⟩ = some (.int .i64 0) := by rw [cell_row hD]; rfl
              have f1 : V5.cell? ⟨D, 1, none⟩ = some (.slice none 0 0) := by rw [cell_row hD]; rfl
              have f2 : V5.cell? ⟨D, 2, none⟩ = some (.slice none 0 0) := by rw [cell_row hD]; rfl
              have f3 : V5.cell? ⟨D, 3, none⟩ = some (.slice none 0 0) := by rw [cell_row hD]; rfl
              have fz : ∀ i, V5.frozen? ⟨D, i, none⟩ = false := fun i => frozen_row hD
              have HF := Lib.hid (more_list (c8 := c8) (N := l.N) (v2 := .slice l.LA l.ln l.lc) (v3 := .slice l.RA l.rn l.rc) hV5 hD HD0.out HR8.out HOD.out)
              clear hD
              refine wpAnyH_ready (rs := [15]) (by kernel_rfl) (by simp) ?_
              refine AllReadyH.cons (o := opLmo6) rfl (fun K2 hK => ?_) AllReadyH.nil
              go_simp
              refine hK.out _ _ HF.out.2.2 (fun hSf => ?_)
              clear hK K2
              try simp only [Act.put, List.setIfInBounds_toArray, List.set_cons_zero, List.set_cons_succ]
              refine wpAnyH_done (by kernel_rfl) ?_ _
              clear f0 f1 f2 f3 fz hSf
              go_wp2_with fail
              go_meet
              case rel => exact ⟨D, C8, c8, rfl, HF.out.1, Hc8.out, HF.out.2.1, HF.out.2.2⟩
            exact AllReadyH.nil
          exact AllReadyH.nil
        refine AllReadyH.cons (o := opLmo5) rfl (fun K2 hK => ?_) ?_
        · go_simp
          refine hK.out _ _ (hV2.trans ((below_alloc_ _ _).mono hV2.size)) (fun hV3 => ?_)
          clear hK K2
          have hD := heap_alloc_new_ V2 (.cells #[.int .i64 0, .slice none 0 0, .slice none 0 0, .slice none 0 0] 25)
          have hb := below_alloc_ V2 (.cells #[.int .i64 0, .slice none 0 0, .slice none 0 0, .slice none 0 0] 25)
          have HOD := Lib.hid (show Value.ownBlock (v1) ≠ some V2.heap.size from fun e => by have := own_lt hown _ e; omega)
          replace hown := own_keep hown (Keeps.of_new (Mut := fun _ => False) hb) (fun _ _ e => e)
          have HD0 := Lib.hid (show wB.heap.size ≤ V2.heap.size from hV2.size)
          generalize V2.alloc (.cells #[.int .i64 0, .slice none 0 0, .slice none 0 0, .slice none 0 0] 25) = V3 at *
          obtain ⟨D, hDe⟩ : ∃ D, V2.heap.size = D := ⟨_, rfl⟩
          rw [hDe] at hD HD0 HOD ⊢
          clear hDe hb
          try simp only [Act.put, List.setIfInBounds_toArray, List.set_cons_zero, List.set_cons_succ]
          refine wpAnyH_ready (rs := [7]) (by kernel_rfl) (by simp) ?_
          refine AllReadyH.cons (o := opLmo2) rfl (fun K2 hK => ?_) ?_
          · go_simp
            refine hK.out _ _ (hV3.trans ((below_alloc_ _ _).mono hV3.size)) (fun hV4 => ?_)
            clear hK K2
            have hT := heap_alloc_new_ V3 (.cells #[.int .i64 r.one, .int .i64 r.two, .int .i64 r.tr] 60)
            have hb := below_alloc_ V3 (.cells #[.int .i64 r.one, .int .i64 r.two, .int .i64 r.tr] 60)
            have HNDT := Lib.hid (show D ≠ V3.heap.size from by have := lt_of_block hD; omega)
            have HOT := Lib.hid (show Value.ownBlock (v1) ≠ some V3.heap.size from fun e => by have := own_lt hown _ e; omega)
            replace hown := own_keep hown (Keeps.of_new (Mut := fun _ => False) hb) (fun _ _ e => e)
            replace hD := (hb.block _ (lt_of_block hD)).trans hD
            have HT0 := Lib.hid (show wB.heap.size ≤ V3.heap.size from hV3.size)
            generalize V3.alloc (.cells #[.int .i64 r.one, .int .i64 r.two, .int .i64 r.tr] 60) = V4 at *
            obtain ⟨T, hTe⟩ : ∃ T, V3.heap.size = T := ⟨_, rfl⟩
            rw [hTe] at hT HT0 HNDT HOT ⊢
            clear hTe hb
            try simp only [Act.put, List.setIfInBounds_toArray, List.set_cons_zero, List.set_cons_succ]
            refine wpAnyH_ready (rs := [8]) (by kernel_rfl) (by simp) ?_
            refine AllReadyH.cons (o := opLmo3) rfl (fun K2 hK => ?_) ?_
            · obtain ⟨v2, V5, hrun, hown2, hKp, hon⟩ := app_1n (r := r) hown hT (by omega)
              have hV5h := Lib.hid (show Below wB.heap.size wB V5 from hV4.trans (hKp.below hV4.size (fun j hj e => by have := HB.out j e; omega)))
              have HPD := Lib.hid (show Value.ownBlock v2 ≠ some D from by rcases hon with h9 | h9 <;> rw [h9] <;> first | exact HOD.out | (intro e; have h8 : V4.heap.size = D := Option.some.inj e; have := lt_of_block hD; omega))
              replace hD := (hKp.block _ (lt_of_block hD) HOD.out).trans hD
              clear HOD
              have HOD := HPD
              clear HPD
              have HPT := Lib.hid (show Value.ownBlock v2 ≠ some T from by rcases hon with h9 | h9 <;> rw [h9] <;> first | exact HOT.out | (intro e; have h8 : V4.heap.size = T := Option.some.inj e; have := lt_of_block hT; omega))
              replace hT := (hKp.block _ (lt_of_block hT) HOT.out).trans hT
              clear HOT
              have HOT := HPT
              clear HPT
              have HB2 := Lib.hid (show ∀ j, Value.ownBlock v2 = some j → wB.heap.size ≤ j from fun j e => by rcases hon with h9 | h9 <;> rw [h9] at e <;> first | exact HB.out j e | (have h8 : V4.heap.size = j := Option.some.inj e; have := hV4.size; omega))
              clear HB hown hon hKp
              have HB := HB2
              have Hown := Lib.hid hown2
              clear HB2 hown2
              have hown9 := Hown.out
              clear Hown
              rw [Nat.zero_add, List.nil_append] at hown9
              obtain ⟨C8, c8, rfl, hc8, hr8, hC8⟩ := nls_own (by rw [List.length_append, Hzl.out]; rfl) hown9
              have HR8 := Lib.hid hr8
              have Hc8 := Lib.hid hc8
              have HC8 := Lib.hid (show ∀ b o, C8 = some ⟨b, o, none⟩ → b ≠ D from fun b o e e2 => HOD.out (by rw [← e2]; exact hC8 b o e))
              clear HOD
              have HOD := HC8
              clear HC8
              clear hr8 hC8 hown9 hc8
              go_simp
              try rw [hrun]
              try go_simp
              refine hK.out _ _ (hV5h.out) (fun hV5 => ?_)
              clear hK K2
              clear hrun hV5h
              try simp only [Act.put, List.setIfInBounds_toArray, List.set_cons_zero, List.set_cons_succ]
              refine wpAnyH_take (i := 13) (oi := opLmo4) (v := .agg #[.int .i64 l.N, .slice C8 (l.n + 1) c8, .slice l.LA l.ln l.lc, .slice l.RA l.rn l.rc]) rfl (by kernel_rfl) (by kernel_rfl) (by kernel_rfl) (fun _ _ _ h => h) (Or.inl ⟨by rfl, by intro w2 hSw; (try dsimp only at hSw);  go_simp⟩) hV5 ?_
              try simp only [Act.put, List.setIfInBounds_toArray, List.set_cons_zero, List.set_cons_succ]
              have f0 : V5.cell? ⟨D, 0, none⟩ = some (.int .i64 0) := by rw [cell_row hD]; rfl
              have f1 : V5.cell? ⟨D, 1, none⟩ = some (.slice none 0 0) := by rw [cell_row hD]; rfl
              have f2 : V5.cell? ⟨D, 2, none⟩ = some (.slice none 0 0) := by rw [cell_row hD]; rfl
              have f3 : V5.cell? ⟨D, 3, none⟩ = some (.slice none 0 0) := by rw [cell_row hD]; rfl
              have fz : ∀ i, V5.frozen? ⟨D, i, none⟩ = false := fun i => frozen_row hD
              have HF := Lib.hid (more_list (c8 := c8) (N := l.N) (v2 := .slice l.LA l.ln l.lc) (v3 := .slice l.RA l.rn l.rc) hV5 hD HD0.out HR8.out HOD.out)
              clear hD
              refine wpAnyH_ready (rs := [15]) (by kernel_rfl) (by simp) ?_
              refine AllReadyH.cons (o := opLmo6) rfl (fun K2 hK => ?_) AllReadyH.nil
              go_simp
              refine hK.out _ _ HF.out.2.2 (fun hSf => ?_)
              clear hK K2
              try simp only [Act.put, List.setIfInBounds_toArray, List.set_cons_zero, List.set_cons_succ]
              refine wpAnyH_done (by kernel_rfl) ?_ _
              clear f0 f1 f2 f3 fz hSf
              go_wp2_with fail
              go_meet
              case rel => exact ⟨D, C8, c8, rfl, HF.out.1, Hc8.out, HF.out.2.1, HF.out.2.2⟩
            exact AllReadyH.nil
          exact AllReadyH.nil
        exact AllReadyH.nil
      refine AllReadyH.cons (o := opLmo2) rfl (fun K2 hK => ?_) ?_
      · go_simp
        refine hK.out _ _ (hV1.trans ((below_alloc_ _ _).mono hV1.size)) (fun hV2 => ?_)
        clear hK K2
        have hT := heap_alloc_new_ V1 (.cells #[.int .i64 r.one, .int .i64 r.two, .int .i64 r.tr] 60)
        have hb := below_alloc_ V1 (.cells #[.int .i64 r.one, .int .i64 r.two, .int .i64 r.tr] 60)
        have HOT := Lib.hid (show Value.ownBlock (.slice (some ⟨Z, 0, none⟩) 0 0) ≠ some V1.heap.size from fun e => by have := own_lt hown _ e; omega)
        replace hown := own_keep hown (Keeps.of_new (Mut := fun _ => False) hb) (fun _ _ e => e)
        have HT0 := Lib.hid (show wB.heap.size ≤ V1.heap.size from hV1.size)
        generalize V1.alloc (.cells #[.int .i64 r.one, .int .i64 r.two, .int .i64 r.tr] 60) = V2 at *
        obtain ⟨T, hTe⟩ : ∃ T, V1.heap.size = T := ⟨_, rfl⟩
        rw [hTe] at hT HT0 HOT ⊢
        clear hTe hb
        try simp only [Act.put, List.setIfInBounds_toArray, List.set_cons_zero, List.set_cons_succ]
        refine wpAnyH_ready (rs := [5, 14]) (by kernel_rfl) (by simp) ?_
        refine AllReadyH.cons (o := opLmo1) rfl (fun K2 hK => ?_) ?_
        · obtain ⟨v1, V3, hrun, hown2, hKp, hon⟩ := app_nls (c2 := l.cap) (xs := []) hown (S.out.zs.below hV2 (Nat.le_refl _)) (by omega)
          have hV3h := Lib.hid (show Below wB.heap.size wB V3 from hV2.trans (hKp.below hV2.size (fun j hj e => by have := HB.out j e; omega)))
          have HPT := Lib.hid (show Value.ownBlock v1 ≠ some T from by rcases hon with h9 | h9 <;> rw [h9] <;> first | exact HOT.out | (intro e; have h8 : V2.heap.size = T := Option.some.inj e; have := lt_of_block hT; omega))
          replace hT := (hKp.block _ (lt_of_block hT) HOT.out).trans hT
          clear HOT
          have HOT := HPT
          clear HPT
          have HB2 := Lib.hid (show ∀ j, Value.ownBlock v1 = some j → wB.heap.size ≤ j from fun j e => by rcases hon with h9 | h9 <;> rw [h9] at e <;> first | exact HB.out j e | (have h8 : V2.heap.size = j := Option.some.inj e; have := hV2.size; omega))
          clear HB hown hon hKp
          have HB := HB2
          have Hown := Lib.hid hown2
          clear HB2 hown2
          go_simp
          try rw [hrun]
          try go_simp
          have hown := Hown.out
          clear Hown
          refine hK.out _ _ (hV3h.out) (fun hV3 => ?_)
          clear hK K2
          clear hrun hV3h
          try simp only [Act.put, List.setIfInBounds_toArray, List.set_cons_zero, List.set_cons_succ]
          refine wpAnyH_ready (rs := [8, 14]) (by kernel_rfl) (by simp) ?_
          refine AllReadyH.cons (o := opLmo3) rfl (fun K2 hK => ?_) ?_
          · obtain ⟨v2, V4, hrun, hown2, hKp, hon⟩ := app_1n (r := r) hown hT (by omega)
            have hV4h := Lib.hid (show Below wB.heap.size wB V4 from hV3.trans (hKp.below hV3.size (fun j hj e => by have := HB.out j e; omega)))
            have HPT := Lib.hid (show Value.ownBlock v2 ≠ some T from by rcases hon with h9 | h9 <;> rw [h9] <;> first | exact HOT.out | (intro e; have h8 : V3.heap.size = T := Option.some.inj e; have := lt_of_block hT; omega))
            replace hT := (hKp.block _ (lt_of_block hT) HOT.out).trans hT
            clear HOT
            have HOT := HPT
            clear HPT
            have HB2 := Lib.hid (show ∀ j, Value.ownBlock v2 = some j → wB.heap.size ≤ j from fun j e => by rcases hon with h9 | h9 <;> rw [h9] at e <;> first | exact HB.out j e | (have h8 : V3.heap.size = j := Option.some.inj e; have := hV3.size; omega))
            clear HB hown hon hKp
            have HB := HB2
            have Hown := Lib.hid hown2
            clear HB2 hown2
            have hown9 := Hown.out
            clear Hown
            rw [Nat.zero_add, List.nil_append] at hown9
            obtain ⟨C8, c8, rfl, hc8, hr8, hC8⟩ := nls_own (by rw [List.length_append, Hzl.out]; rfl) hown9
            have HR8 := Lib.hid hr8
            have Hc8 := Lib.hid hc8
            clear hr8 hC8 hown9 hc8
            go_simp
            try rw [hrun]
            try go_simp
            refine hK.out _ _ (hV4h.out) (fun hV4 => ?_)
            clear hK K2
            clear hrun hV4h
            try simp only [Act.put, List.setIfInBounds_toArray, List.set_cons_zero, List.set_cons_succ]
            refine wpAnyH_take (i := 13) (oi := opLmo4) (v := .agg #[.int .i64 l.N, .slice C8 (l.n + 1) c8, .slice l.LA l.ln l.lc, .slice l.RA l.rn l.rc]) rfl (by kernel_rfl) (by kernel_rfl) (by kernel_rfl) (fun _ _ _ h => h) (Or.inl ⟨by rfl, by intro w2 hSw; (try dsimp only at hSw);  go_simp⟩) hV4 ?_
            try simp only [Act.put, List.setIfInBounds_toArray, List.set_cons_zero, List.set_cons_succ]
            refine wpAnyH_ready (rs := [14]) (by kernel_rfl) (by simp) ?_
            refine AllReadyH.cons (o := opLmo5) rfl (fun K2 hK => ?_) ?_
            · go_simp
              refine hK.out _ _ (hV4.trans ((below_alloc_ _ _).mono hV4.size)) (fun hV5 => ?_)
              clear hK K2
              have hD := heap_alloc_new_ V4 (.cells #[.int .i64 0, .slice none 0 0, .slice none 0 0, .slice none 0 0] 25)
              have hb := below_alloc_ V4 (.cells #[.int .i64 0, .slice none 0 0, .slice none 0 0, .slice none 0 0] 25)
              have HNTD := Lib.hid (show T ≠ V4.heap.size from by have := lt_of_block hT; omega)
              have HOD := Lib.hid (show ∀ b o, C8 = some ⟨b, o, none⟩ → b ≠ V4.heap.size from fun b o e => by obtain ⟨b2, o2, e2, hc2⟩ := HR8.out.2 (by omega); rw [e2] at e; cases e; have := lt_of_cell (hc2 0 (by omega)).1; omega)
              replace HR8 := Lib.hid (HR8.out.below hb (Nat.le_refl _))
              replace hT := (hb.block _ (lt_of_block hT)).trans hT
              have HD0 := Lib.hid (show wB.heap.size ≤ V4.heap.size from hV4.size)
              generalize V4.alloc (.cells #[.int .i64 0, .slice none 0 0, .slice none 0 0, .slice none 0 0] 25) = V5 at *
              obtain ⟨D, hDe⟩ : ∃ D, V4.heap.size = D := ⟨_, rfl⟩
              rw [hDe] at hD HD0 HNTD HOD ⊢
              clear hDe hb
              try simp only [Act.put, List.setIfInBounds_toArray, List.set_cons_zero, List.set_cons_succ]
              have f0 : V5.cell? ⟨D, 0, none⟩ = some (.int .i64 0) := by rw [cell_row hD]; rfl
              have f1 : V5.cell? ⟨D, 1, none⟩ = some (.slice none 0 0) := by rw [cell_row hD]; rfl
              have f2 : V5.cell? ⟨D, 2, none⟩ = some (.slice none 0 0) := by rw [cell_row hD]; rfl
              have f3 : V5.cell? ⟨D, 3, none⟩ = some (.slice none 0 0) := by rw [cell_row hD]; rfl
              have fz : ∀ i, V5.frozen? ⟨D, i, none⟩ = false := fun i => frozen_row hD
              have HF := Lib.hid (more_list (c8 := c8) (N := l.N) (v2 := .slice l.LA l.ln l.lc) (v3 := .slice l.RA l.rn l.rc) hV5 hD HD0.out HR8.out HOD.out)
              clear hD
              refine wpAnyH_ready (rs := [15]) (by kernel_rfl) (by simp) ?_
              refine AllReadyH.cons (o := opLmo6) rfl (fun K2 hK => ?_) AllReadyH.nil
              go_simp
              refine hK.out _ _ HF.out.2.2 (fun hSf => ?_)
              clear hK K2
              try simp only [Act.put, List.setIfInBounds_toArray, List.set_cons_zero, List.set_cons_succ]
              refine wpAnyH_done (by kernel_rfl) ?_ _
              clear f0 f1 f2 f3 fz hSf
              go_wp2_with fail
              go_meet
              case rel => exact ⟨D, C8, c8, rfl, HF.out.1, Hc8.out, HF.out.2.1, HF.out.2.2⟩
            exact AllReadyH.nil
          refine AllReadyH.cons (o := opLmo5) rfl (fun K2 hK => ?_) ?_
          · go_simp
            refine hK.out _ _ (hV3.trans ((below_alloc_ _ _).mono hV3.size)) (fun hV4 => ?_)
            clear hK K2
            have hD := heap_alloc_new_ V3 (.cells #[.int .i64 0, .slice none 0 0, .slice none 0 0, .slice none 0 0] 25)
            have hb := below_alloc_ V3 (.cells #[.int .i64 0, .slice none 0 0, .slice none 0 0, .slice none 0 0] 25)
            have HNTD := Lib.hid (show T ≠ V3.heap.size from by have := lt_of_block hT; omega)
            have HOD := Lib.hid (show Value.ownBlock (v1) ≠ some V3.heap.size from fun e => by have := own_lt hown _ e; omega)
            replace hown := own_keep hown (Keeps.of_new (Mut := fun _ => False) hb) (fun _ _ e => e)
            replace hT := (hb.block _ (lt_of_block hT)).trans hT
            have HD0 := Lib.hid (show wB.heap.size ≤ V3.heap.size from hV3.size)
            generalize V3.alloc (.cells #[.int .i64 0, .slice none 0 0, .slice none 0 0, .slice none 0 0] 25) = V4 at *
            obtain ⟨D, hDe⟩ : ∃ D, V3.heap.size = D := ⟨_, rfl⟩
            rw [hDe] at hD HD0 HNTD HOD ⊢
            clear hDe hb
            try simp only [Act.put, List.setIfInBounds_toArray, List.set_cons_zero, List.set_cons_succ]
            refine wpAnyH_ready (rs := [8]) (by kernel_rfl) (by simp) ?_
            refine AllReadyH.cons (o := opLmo3) rfl (fun K2 hK => ?_) ?_
            · obtain ⟨v2, V5, hrun, hown2, hKp, hon⟩ := app_1n (r := r) hown hT (by omega)
              have hV5h := Lib.hid (show Below wB.heap.size wB V5 from hV4.trans (hKp.below hV4.size (fun j hj e => by have := HB.out j e; omega)))
              have HPT := Lib.hid (show Value.ownBlock v2 ≠ some T from by rcases hon with h9 | h9 <;> rw [h9] <;> first | exact HOT.out | (intro e; have h8 : V4.heap.size = T := Option.some.inj e; have := lt_of_block hT; omega))
              replace hT := (hKp.block _ (lt_of_block hT) HOT.out).trans hT
              clear HOT
              have HOT := HPT
              clear HPT
              have HPD := Lib.hid (show Value.ownBlock v2 ≠ some D from by rcases hon with h9 | h9 <;> rw [h9] <;> first | exact HOD.out | (intro e; have h8 : V4.heap.size = D := Option.some.inj e; have := lt_of_block hD; omega))
              replace hD := (hKp.block _ (lt_of_block hD) HOD.out).trans hD
              clear HOD
              have HOD := HPD
              clear HPD
              have HB2 := Lib.hid (show ∀ j, Value.ownBlock v2 = some j → wB.heap.size ≤ j from fun j e => by rcases hon with h9 | h9 <;> rw [h9] at e <;> first | exact HB.out j e | (have h8 : V4.heap.size = j := Option.some.inj e; have := hV4.size; omega))
              clear HB hown hon hKp
              have HB := HB2
              have Hown := Lib.hid hown2
              clear HB2 hown2
              have hown9 := Hown.out
              clear Hown
              rw [Nat.zero_add, List.nil_append] at hown9
              obtain ⟨C8, c8, rfl, hc8, hr8, hC8⟩ := nls_own (by rw [List.length_append, Hzl.out]; rfl) hown9
              have HR8 := Lib.hid hr8
              have Hc8 := Lib.hid hc8
              have HC8 := Lib.hid (show ∀ b o, C8 = some ⟨b, o, none⟩ → b ≠ D from fun b o e e2 => HOD.out (by rw [← e2]; exact hC8 b o e))
              clear HOD
              have HOD := HC8
              clear HC8
              clear hr8 hC8 hown9 hc8
              go_simp
              try rw [hrun]
              try go_simp
              refine hK.out _ _ (hV5h.out) (fun hV5 => ?_)
              clear hK K2
              clear hrun hV5h
              try simp only [Act.put, List.setIfInBounds_toArray, List.set_cons_zero, List.set_cons_succ]
              refine wpAnyH_take (i := 13) (oi := opLmo4) (v := .agg #[.int .i64 l.N, .slice C8 (l.n + 1) c8, .slice l.LA l.ln l.lc, .slice l.RA l.rn l.rc]) rfl (by kernel_rfl) (by kernel_rfl) (by kernel_rfl) (fun _ _ _ h => h) (Or.inl ⟨by rfl, by intro w2 hSw; (try dsimp only at hSw);  go_simp⟩) hV5 ?_
              try simp only [Act.put, List.setIfInBounds_toArray, List.set_cons_zero, List.set_cons_succ]
              have f0 : V5.cell? ⟨D, 0, none⟩ = some (.int .i64 0) := by rw [cell_row hD]; rfl
              have f1 : V5.cell? ⟨D, 1, none⟩ = some (.slice none 0 0) := by rw [cell_row hD]; rfl
              have f2 : V5.cell? ⟨D, 2, none⟩ = some (.slice none 0 0) := by rw [cell_row hD]; rfl
              have f3 : V5.cell? ⟨D, 3, none⟩ = some (.slice none 0 0) := by rw [cell_row hD]; rfl
              have fz : ∀ i, V5.frozen? ⟨D, i, none⟩ = false := fun i => frozen_row hD
              have HF := Lib.hid (more_list (c8 := c8) (N := l.N) (v2 := .slice l.LA l.ln l.lc) (v3 := .slice l.RA l.rn l.rc) hV5 hD HD0.out HR8.out HOD.out)
              clear hD
              refine wpAnyH_ready (rs := [15]) (by kernel_rfl) (by simp) ?_
              refine AllReadyH.cons (o := opLmo6) rfl (fun K2 hK => ?_) AllReadyH.nil
              go_simp
              refine hK.out _ _ HF.out.2.2 (fun hSf => ?_)
              clear hK K2
              try simp only [Act.put, List.setIfInBounds_toArray, List.set_cons_zero, List.set_cons_succ]
              refine wpAnyH_done (by kernel_rfl) ?_ _
              clear f0 f1 f2 f3 fz hSf
              go_wp2_with fail
              go_meet
              case rel => exact ⟨D, C8, c8, rfl, HF.out.1, Hc8.out, HF.out.2.1, HF.out.2.2⟩
            exact AllReadyH.nil
          exact AllReadyH.nil
        refine AllReadyH.cons (o := opLmo5) rfl (fun K2 hK => ?_) ?_
        · go_simp
          refine hK.out _ _ (hV2.trans ((below_alloc_ _ _).mono hV2.size)) (fun hV3 => ?_)
          clear hK K2
          have hD := heap_alloc_new_ V2 (.cells #[.int .i64 0, .slice none 0 0, .slice none 0 0, .slice none 0 0] 25)
          have hb := below_alloc_ V2 (.cells #[.int .i64 0, .slice none 0 0, .slice none 0 0, .slice none 0 0] 25)
          have HNTD := Lib.hid (show T ≠ V2.heap.size from by have := lt_of_block hT; omega)
          have HOD := Lib.hid (show Value.ownBlock (.slice (some ⟨Z, 0, none⟩) 0 0) ≠ some V2.heap.size from fun e => by have := own_lt hown _ e; omega)
          replace hown := own_keep hown (Keeps.of_new (Mut := fun _ => False) hb) (fun _ _ e => e)
          replace hT := (hb.block _ (lt_of_block hT)).trans hT
          have HD0 := Lib.hid (show wB.heap.size ≤ V2.heap.size from hV2.size)
          generalize V2.alloc (.cells #[.int .i64 0, .slice none 0 0, .slice none 0 0, .slice none 0 0] 25) = V3 at *
          obtain ⟨D, hDe⟩ : ∃ D, V2.heap.size = D := ⟨_, rfl⟩
          rw [hDe] at hD HD0 HNTD HOD ⊢
          clear hDe hb
          try simp only [Act.put, List.setIfInBounds_toArray, List.set_cons_zero, List.set_cons_succ]
          refine wpAnyH_ready (rs := [5]) (by kernel_rfl) (by simp) ?_
          refine AllReadyH.cons (o := opLmo1) rfl (fun K2 hK => ?_) ?_
          · obtain ⟨v1, V4, hrun, hown2, hKp, hon⟩ := app_nls (c2 := l.cap) (xs := []) hown (S.out.zs.below hV3 (Nat.le_refl _)) (by omega)
            have hV4h := Lib.hid (show Below wB.heap.size wB V4 from hV3.trans (hKp.below hV3.size (fun j hj e => by have := HB.out j e; omega)))
            have HPT := Lib.hid (show Value.ownBlock v1 ≠ some T from by rcases hon with h9 | h9 <;> rw [h9] <;> first | exact HOT.out | (intro e; have h8 : V3.heap.size = T := Option.some.inj e; have := lt_of_block hT; omega))
            replace hT := (hKp.block _ (lt_of_block hT) HOT.out).trans hT
            clear HOT
            have HOT := HPT
            clear HPT
            have HPD := Lib.hid (show Value.ownBlock v1 ≠ some D from by rcases hon with h9 | h9 <;> rw [h9] <;> first | exact HOD.out | (intro e; have h8 : V3.heap.size = D := Option.some.inj e; have := lt_of_block hD; omega))
            replace hD := (hKp.block _ (lt_of_block hD) HOD.out).trans hD
            clear HOD
            have HOD := HPD
            clear HPD
            have HB2 := Lib.hid (show ∀ j, Value.ownBlock v1 = some j → wB.heap.size ≤ j from fun j e => by rcases hon with h9 | h9 <;> rw [h9] at e <;> first | exact HB.out j e | (have h8 : V3.heap.size = j := Option.some.inj e; have := hV3.size; omega))
            clear HB hown hon hKp
            have HB := HB2
            have Hown := Lib.hid hown2
            clear HB2 hown2
            go_simp
            try rw [hrun]
            try go_simp
            have hown := Hown.out
            clear Hown
            refine hK.out _ _ (hV4h.out) (fun hV4 => ?_)
            clear hK K2
            clear hrun hV4h
            try simp only [Act.put, List.setIfInBounds_toArray, List.set_cons_zero, List.set_cons_succ]
            refine wpAnyH_ready (rs := [8]) (by kernel_rfl) (by simp) ?_
            refine AllReadyH.cons (o := opLmo3) rfl (fun K2 hK => ?_) ?_
            · obtain ⟨v2, V5, hrun, hown2, hKp, hon⟩ := app_1n (r := r) hown hT (by omega)
              have hV5h := Lib.hid (show Below wB.heap.size wB V5 from hV4.trans (hKp.below hV4.size (fun j hj e => by have := HB.out j e; omega)))
              have HPT := Lib.hid (show Value.ownBlock v2 ≠ some T from by rcases hon with h9 | h9 <;> rw [h9] <;> first | exact HOT.out | (intro e; have h8 : V4.heap.size = T := Option.some.inj e; have := lt_of_block hT; omega))
              replace hT := (hKp.block _ (lt_of_block hT) HOT.out).trans hT
              clear HOT
              have HOT := HPT
              clear HPT
              have HPD := Lib.hid (show Value.ownBlock v2 ≠ some D from by rcases hon with h9 | h9 <;> rw [h9] <;> first | exact HOD.out | (intro e; have h8 : V4.heap.size = D := Option.some.inj e; have := lt_of_block hD; omega))
              replace hD := (hKp.block _ (lt_of_block hD) HOD.out).trans hD
              clear HOD
              have HOD := HPD
              clear HPD
              have HB2 := Lib.hid (show ∀ j, Value.ownBlock v2 = some j → wB.heap.size ≤ j from fun j e => by rcases hon with h9 | h9 <;> rw [h9] at e <;> first | exact HB.out j e | (have h8 : V4.heap.size = j := Option.some.inj e; have := hV4.size; omega))
              clear HB hown hon hKp
              have HB := HB2
              have Hown := Lib.hid hown2
              clear HB2 hown2
              have hown9 := Hown.out
              clear Hown
              rw [Nat.zero_add, List.nil_append] at hown9
              obtain ⟨C8, c8, rfl, hc8, hr8, hC8⟩ := nls_own (by rw [List.length_append, Hzl.out]; rfl) hown9
              have HR8 := Lib.hid hr8
              have Hc8 := Lib.hid hc8
              have HC8 := Lib.hid (show ∀ b o, C8 = some ⟨b, o, none⟩ → b ≠ D from fun b o e e2 => HOD.out (by rw [← e2]; exact hC8 b o e))
              clear HOD
              have HOD := HC8
              clear HC8
              clear hr8 hC8 hown9 hc8
              go_simp
              try rw [hrun]
              try go_simp
              refine hK.out _ _ (hV5h.out) (fun hV5 => ?_)
              clear hK K2
              clear hrun hV5h
              try simp only [Act.put, List.setIfInBounds_toArray, List.set_cons_zero, List.set_cons_succ]
              refine wpAnyH_take (i := 13) (oi := opLmo4) (v := .agg #[.int .i64 l.N, .slice C8 (l.n + 1) c8, .slice l.LA l.ln l.lc, .slice l.RA l.rn l.rc]) rfl (by kernel_rfl) (by kernel_rfl) (by kernel_rfl) (fun _ _ _ h => h) (Or.inl ⟨by rfl, by intro w2 hSw; (try dsimp only at hSw);  go_simp⟩) hV5 ?_
              try simp only [Act.put, List.setIfInBounds_toArray, List.set_cons_zero, List.set_cons_succ]
              have f0 : V5.cell? ⟨D, 0, none⟩ = some (.int .i64 0) := by rw [cell_row hD]; rfl
              have f1 : V5.cell? ⟨D, 1, none⟩ = some (.slice none 0 0) := by rw [cell_row hD]; rfl
              have f2 : V5.cell? ⟨D, 2, none⟩ = some (.slice none 0 0) := by rw [cell_row hD]; rfl
              have f3 : V5.cell? ⟨D, 3, none⟩ = some (.slice none 0 0) := by rw [cell_row hD]; rfl
              have fz : ∀ i, V5.frozen? ⟨D, i, none⟩ = false := fun i => frozen_row hD
              have HF := Lib.hid (more_list (c8 := c8) (N := l.N) (v2 := .slice l.LA l.ln l.lc) (v3 := .slice l.RA l.rn l.rc) hV5 hD HD0.out HR8.out HOD.out)
              clear hD
              refine wpAnyH_ready (rs := [15]) (by kernel_rfl) (by simp) ?_
              refine AllReadyH.cons (o := opLmo6) rfl (fun K2 hK => ?_) AllReadyH.nil
              go_simp
              refine hK.out _ _ HF.out.2.2 (fun hSf => ?_)
              clear hK K2
              try simp only [Act.put, List.setIfInBounds_toArray, List.set_cons_zero, List.set_cons_succ]
              refine wpAnyH_done (by kernel_rfl) ?_ _
              clear f0 f1 f2 f3 fz hSf
              go_wp2_with fail
              go_meet
              case rel => exact ⟨D, C8, c8, rfl, HF.out.1, Hc8.out, HF.out.2.1, HF.out.2.2⟩
            exact AllReadyH.nil
          exact AllReadyH.nil
        exact AllReadyH.nil
      refine AllReadyH.cons (o := opLmo5) rfl (fun K2 hK => ?_) ?_
      · go_simp
        refine hK.out _ _ (hV1.trans ((below_alloc_ _ _).mono hV1.size)) (fun hV2 => ?_)
        clear hK K2
        have hD := heap_alloc_new_ V1 (.cells #[.int .i64 0, .slice none 0 0, .slice none 0 0, .slice none 0 0] 25)
        have hb := below_alloc_ V1 (.cells #[.int .i64 0, .slice none 0 0, .slice none 0 0, .slice none 0 0] 25)
        have HOD := Lib.hid (show Value.ownBlock (.slice (some ⟨Z, 0, none⟩) 0 0) ≠ some V1.heap.size from fun e => by have := own_lt hown _ e; omega)
        replace hown := own_keep hown (Keeps.of_new (Mut := fun _ => False) hb) (fun _ _ e => e)
        have HD0 := Lib.hid (show wB.heap.size ≤ V1.heap.size from hV1.size)
        generalize V1.alloc (.cells #[.int .i64 0, .slice none 0 0, .slice none 0 0, .slice none 0 0] 25) = V2 at *
        obtain ⟨D, hDe⟩ : ∃ D, V1.heap.size = D := ⟨_, rfl⟩
        rw [hDe] at hD HD0 HOD ⊢
        clear hDe hb
        try simp only [Act.put, List.setIfInBounds_toArray, List.set_cons_zero, List.set_cons_succ]
        refine wpAnyH_ready (rs := [5, 7]) (by kernel_rfl) (by simp) ?_
        refine AllReadyH.cons (o := opLmo1) rfl (fun K2 hK => ?_) ?_
        · obtain ⟨v1, V3, hrun, hown2, hKp, hon⟩ := app_nls (c2 := l.cap) (xs := []) hown (S.out.zs.below hV2 (Nat.le_refl _)) (by omega)
          have hV3h := Lib.hid (show Below wB.heap.size wB V3 from hV2.trans (hKp.below hV2.size (fun j hj e => by have := HB.out j e; omega)))
          have HPD := Lib.hid (show Value.ownBlock v1 ≠ some D from by rcases hon with h9 | h9 <;> rw [h9] <;> first | exact HOD.out | (intro e; have h8 : V2.heap.size = D := Option.some.inj e; have := lt_of_block hD; omega))
          replace hD := (hKp.block _ (lt_of_block hD) HOD.out).trans hD
          clear HOD
          have HOD := HPD
          clear HPD
          have HB2 := Lib.hid (show ∀ j, Value.ownBlock v1 = some j → wB.heap.size ≤ j from fun j e => by rcases hon with h9 | h9 <;> rw [h9] at e <;> first | exact HB.out j e | (have h8 : V2.heap.size = j := Option.some.inj e; have := hV2.size; omega))
          clear HB hown hon hKp
          have HB := HB2
          have Hown := Lib.hid hown2
          clear HB2 hown2
          go_simp
          try rw [hrun]
          try go_simp
          have hown := Hown.out
          clear Hown
          refine hK.out _ _ (hV3h.out) (fun hV3 => ?_)
          clear hK K2
          clear hrun hV3h
          try simp only [Act.put, List.setIfInBounds_toArray, List.set_cons_zero, List.set_cons_succ]
          refine wpAnyH_ready (rs := [7]) (by kernel_rfl) (by simp) ?_
          refine AllReadyH.cons (o := opLmo2) rfl (fun K2 hK => ?_) ?_
          · go_simp
            refine hK.out _ _ (hV3.trans ((below_alloc_ _ _).mono hV3.size)) (fun hV4 => ?_)
            clear hK K2
            have hT := heap_alloc_new_ V3 (.cells #[.int .i64 r.one, .int .i64 r.two, .int .i64 r.tr] 60)
            have hb := below_alloc_ V3 (.cells #[.int .i64 r.one, .int .i64 r.two, .int .i64 r.tr] 60)
            have HNDT := Lib.hid (show D ≠ V3.heap.size from by have := lt_of_block hD; omega)
            have HOT := Lib.hid (show Value.ownBlock (v1) ≠ some V3.heap.size from fun e => by have := own_lt hown _ e; omega)
            replace hown := own_keep hown (Keeps.of_new (Mut := fun _ => False) hb) (fun _ _ e => e)
            replace hD := (hb.block _ (lt_of_block hD)).trans hD
            have HT0 := Lib.hid (show wB.heap.size ≤ V3.heap.size from hV3.size)
            generalize V3.alloc (.cells #[.int .i64 r.one, .int .i64 r.two, .int .i64 r.tr] 60) = V4 at *
            obtain ⟨T, hTe⟩ : ∃ T, V3.heap.size = T := ⟨_, rfl⟩
            rw [hTe] at hT HT0 HNDT HOT ⊢
            clear hTe hb
            try simp only [Act.put, List.setIfInBounds_toArray, List.set_cons_zero, List.set_cons_succ]
            refine wpAnyH_ready (rs := [8]) (by kernel_rfl) (by simp) ?_
            refine AllReadyH.cons (o := opLmo3) rfl (fun K2 hK => ?_) ?_
            · obtain ⟨v2, V5, hrun, hown2, hKp, hon⟩ := app_1n (r := r) hown hT (by omega)
              have hV5h := Lib.hid (show Below wB.heap.size wB V5 from hV4.trans (hKp.below hV4.size (fun j hj e => by have := HB.out j e; omega)))
              have HPD := Lib.hid (show Value.ownBlock v2 ≠ some D from by rcases hon with h9 | h9 <;> rw [h9] <;> first | exact HOD.out | (intro e; have h8 : V4.heap.size = D := Option.some.inj e; have := lt_of_block hD; omega))
              replace hD := (hKp.block _ (lt_of_block hD) HOD.out).trans hD
              clear HOD
              have HOD := HPD
              clear HPD
              have HPT := Lib.hid (show Value.ownBlock v2 ≠ some T from by rcases hon with h9 | h9 <;> rw [h9] <;> first | exact HOT.out | (intro e; have h8 : V4.heap.size = T := Option.some.inj e; have := lt_of_block hT; omega))
              replace hT := (hKp.block _ (lt_of_block hT) HOT.out).trans hT
              clear HOT
              have HOT := HPT
              clear HPT
              have HB2 := Lib.hid (show ∀ j, Value.ownBlock v2 = some j → wB.heap.size ≤ j from fun j e => by rcases hon with h9 | h9 <;> rw [h9] at e <;> first | exact HB.out j e | (have h8 : V4.heap.size = j := Option.some.inj e; have := hV4.size; omega))
              clear HB hown hon hKp
              have HB := HB2
              have Hown := Lib.hid hown2
              clear HB2 hown2
              have hown9 := Hown.out
              clear Hown
              rw [Nat.zero_add, List.nil_append] at hown9
              obtain ⟨C8, c8, rfl, hc8, hr8, hC8⟩ := nls_own (by rw [List.length_append, Hzl.out]; rfl) hown9
              have HR8 := Lib.hid hr8
              have Hc8 := Lib.hid hc8
              have HC8 := Lib.hid (show ∀ b o, C8 = some ⟨b, o, none⟩ → b ≠ D from fun b o e e2 => HOD.out (by rw [← e2]; exact hC8 b o e))
              clear HOD
              have HOD := HC8
              clear HC8
              clear hr8 hC8 hown9 hc8
              go_simp
              try rw [hrun]
              try go_simp
              refine hK.out _ _ (hV5h.out) (fun hV5 => ?_)
              clear hK K2
              clear hrun hV5h
              try simp only [Act.put, List.setIfInBounds_toArray, List.set_cons_zero, List.set_cons_succ]
              refine wpAnyH_take (i := 13) (oi := opLmo4) (v := .agg #[.int .i64 l.N, .slice C8 (l.n + 1) c8, .slice l.LA l.ln l.lc, .slice l.RA l.rn l.rc]) rfl (by kernel_rfl) (by kernel_rfl) (by kernel_rfl) (fun _ _ _ h => h) (Or.inl ⟨by rfl, by intro w2 hSw; (try dsimp only at hSw);  go_simp⟩) hV5 ?_
              try simp only [Act.put, List.setIfInBounds_toArray, List.set_cons_zero, List.set_cons_succ]
              have f0 : V5.cell? ⟨D, 0, none⟩ = some (.int .i64 0) := by rw [cell_row hD]; rfl
              have f1 : V5.cell? ⟨D, 1, none⟩ = some (.slice none 0 0) := by rw [cell_row hD]; rfl
              have f2 : V5.cell? ⟨D, 2, none⟩ = some (.slice none 0 0) := by rw [cell_row hD]; rfl
              have f3 : V5.cell? ⟨D, 3, none⟩ = some (.slice none 0 0) := by rw [cell_row hD]; rfl
              have fz : ∀ i, V5.frozen? ⟨D, i, none⟩ = false := fun i => frozen_row hD
              have HF := Lib.hid (more_list (c8 := c8) (N := l.N) (v2 := .slice l.LA l.ln l.lc) (v3 := .slice l.RA l.rn l.rc) hV5 hD HD0.out HR8.out HOD.out)
              clear hD
              refine wpAnyH_ready (rs := [15]) (by kernel_rfl) (by simp) ?_
              refine AllReadyH.cons (o := opLmo6) rfl (fun K2 hK => ?_) AllReadyH.nil
              go_simp
              refine hK.out _ _ HF.out.2.2 (fun hSf => ?_)
              clear hK K2
              try simp only [Act.put, List.setIfInBounds_toArray, List.set_cons_zero, List.set_cons_succ]
              refine wpAnyH_done (by kernel_rfl) ?_ _
              clear f0 f1 f2 f3 fz hSf
              go_wp2_with fail
              go_meet
              case rel => exact ⟨D, C8, c8, rfl, HF.out.1, Hc8.out, HF.out.2.1, HF.out.2.2⟩
            exact AllReadyH.nil
          exact AllReadyH.nil
        refine AllReadyH.cons (o := opLmo2) rfl (fun K2 hK => ?_) ?_
        · go_simp
          refine hK.out _ _ (hV2.trans ((below_alloc_ _ _).mono hV2.size)) (fun hV3 => ?_)
          clear hK K2
          have hT := heap_alloc_new_ V2 (.cells #[.int .i64 r.one, .int .i64 r.two, .int .i64 r.tr] 60)
          have hb := below_alloc_ V2 (.cells #[.int .i64 r.one, .int .i64 r.two, .int .i64 r.tr] 60)
          have HNDT := Lib.hid (show D ≠ V2.heap.size from by have := lt_of_block hD; omega)
          have HOT := Lib.hid (show Value.ownBlock (.slice (some ⟨Z, 0, none⟩) 0 0) ≠ some V2.heap.size from fun e => by have := own_lt hown _ e; omega)
          replace hown := own_keep hown (Keeps.of_new (Mut := fun _ => False) hb) (fun _ _ e => e)
          replace hD := (hb.block _ (lt_of_block hD)).trans hD
          have HT0 := Lib.hid (show wB.heap.size ≤ V2.heap.size from hV2.size)
          generalize V2.alloc (.cells #[.int .i64 r.one, .int .i64 r.two, .int .i64 r.tr] 60) = V3 at *
          obtain ⟨T, hTe⟩ : ∃ T, V2.heap.size = T := ⟨_, rfl⟩
          rw [hTe] at hT HT0 HNDT HOT ⊢
          clear hTe hb
          try simp only [Act.put, List.setIfInBounds_toArray, List.set_cons_zero, List.set_cons_succ]
          refine wpAnyH_ready (rs := [5]) (by kernel_rfl) (by simp) ?_
          refine AllReadyH.cons (o := opLmo1) rfl (fun K2 hK => ?_) ?_
          · obtain ⟨v1, V4, hrun, hown2, hKp, hon⟩ := app_nls (c2 := l.cap) (xs := []) hown (S.out.zs.below hV3 (Nat.le_refl _)) (by omega)
            have hV4h := Lib.hid (show Below wB.heap.size wB V4 from hV3.trans (hKp.below hV3.size (fun j hj e => by have := HB.out j e; omega)))
            have HPD := Lib.hid (show Value.ownBlock v1 ≠ some D from by rcases hon with h9 | h9 <;> rw [h9] <;> first | exact HOD.out | (intro e; have h8 : V3.heap.size = D := Option.some.inj e; have := lt_of_block hD; omega))
            replace hD := (hKp.block _ (lt_of_block hD) HOD.out).trans hD
            clear HOD
            have HOD := HPD
            clear HPD
            have HPT := Lib.hid (show Value.ownBlock v1 ≠ some T from by rcases hon with h9 | h9 <;> rw [h9] <;> first | exact HOT.out | (intro e; have h8 : V3.heap.size = T := Option.some.inj e; have := lt_of_block hT; omega))
            replace hT := (hKp.block _ (lt_of_block hT) HOT.out).trans hT
            clear HOT
            have HOT := HPT
            clear HPT
            have HB2 := Lib.hid (show ∀ j, Value.ownBlock v1 = some j → wB.heap.size ≤ j from fun j e => by rcases hon with h9 | h9 <;> rw [h9] at e <;> first | exact HB.out j e | (have h8 : V3.heap.size = j := Option.some.inj e; have := hV3.size; omega))
            clear HB hown hon hKp
            have HB := HB2
            have Hown := Lib.hid hown2
            clear HB2 hown2
            go_simp
            try rw [hrun]
            try go_simp
            have hown := Hown.out
            clear Hown
            refine hK.out _ _ (hV4h.out) (fun hV4 => ?_)
            clear hK K2
            clear hrun hV4h
            try simp only [Act.put, List.setIfInBounds_toArray, List.set_cons_zero, List.set_cons_succ]
            refine wpAnyH_ready (rs := [8]) (by kernel_rfl) (by simp) ?_
            refine AllReadyH.cons (o := opLmo3) rfl (fun K2 hK => ?_) ?_
            · obtain ⟨v2, V5, hrun, hown2, hKp, hon⟩ := app_1n (r := r) hown hT (by omega)
              have hV5h := Lib.hid (show Below wB.heap.size wB V5 from hV4.trans (hKp.below hV4.size (fun j hj e => by have := HB.out j e; omega)))
              have HPD := Lib.hid (show Value.ownBlock v2 ≠ some D from by rcases hon with h9 | h9 <;> rw [h9] <;> first | exact HOD.out | (intro e; have h8 : V4.heap.size = D := Option.some.inj e; have := lt_of_block hD; omega))
              replace hD := (hKp.block _ (lt_of_block hD) HOD.out).trans hD
              clear HOD
              have HOD := HPD
              clear HPD
              have HPT := Lib.hid (show Value.ownBlock v2 ≠ some T from by rcases hon with h9 | h9 <;> rw [h9] <;> first | exact HOT.out | (intro e; have h8 : V4.heap.size = T := Option.some.inj e; have := lt_of_block hT; omega))
              replace hT := (hKp.block _ (lt_of_block hT) HOT.out).trans hT
              clear HOT
              have HOT := HPT
              clear HPT
              have HB2 := Lib.hid (show ∀ j, Value.ownBlock v2 = some j → wB.heap.size ≤ j from fun j e => by rcases hon with h9 | h9 <;> rw [h9] at e <;> first | exact HB.out j e | (have h8 : V4.heap.size = j := Option.some.inj e; have := hV4.size; omega))
              clear HB hown hon hKp
              have HB := HB2
              have Hown := Lib.hid hown2
              clear HB2 hown2
              have hown9 := Hown.out
              clear Hown
              rw [Nat.zero_add, List.nil_append] at hown9
              obtain ⟨C8, c8, rfl, hc8, hr8, hC8⟩ := nls_own (by rw [List.length_append, Hzl.out]; rfl) hown9
              have HR8 := Lib.hid hr8
              have Hc8 := Lib.hid hc8
              have HC8 := Lib.hid (show ∀ b o, C8 = some ⟨b, o, none⟩ → b ≠ D from fun b o e e2 => HOD.out (by rw [← e2]; exact hC8 b o e))
              clear HOD
              have HOD := HC8
              clear HC8
              clear hr8 hC8 hown9 hc8
              go_simp
              try rw [hrun]
              try go_simp
              refine hK.out _ _ (hV5h.out) (fun hV5 => ?_)
              clear hK K2
              clear hrun hV5h
              try simp only [Act.put, List.setIfInBounds_toArray, List.set_cons_zero, List.set_cons_succ]
              refine wpAnyH_take (i := 13) (oi := opLmo4) (v := .agg #[.int .i64 l.N, .slice C8 (l.n + 1) c8, .slice l.LA l.ln l.lc, .slice l.RA l.rn l.rc]) rfl (by kernel_rfl) (by kernel_rfl) (by kernel_rfl) (fun _ _ _ h => h) (Or.inl ⟨by rfl, by intro w2 hSw; (try dsimp only at hSw);  go_simp⟩) hV5 ?_
              try simp only [Act.put, List.setIfInBounds_toArray, List.set_cons_zero, List.set_cons_succ]
              have f0 : V5.cell? ⟨D, 0, none⟩ = some (.int .i64 0) := by rw [cell_row hD]; rfl
              have f1 : V5.cell? ⟨D, 1, none⟩ = some (.slice none 0 0) := by rw [cell_row hD]; rfl
              have f2 : V5.cell? ⟨D, 2, none⟩ = some (.slice none 0 0) := by rw [cell_row hD]; rfl
              have f3 : V5.cell? ⟨D, 3, none⟩ = some (.slice none 0 0) := by rw [cell_row hD]; rfl
              have fz : ∀ i, V5.frozen? ⟨D, i, none⟩ = false := fun i => frozen_row hD
              have HF := Lib.hid (more_list (c8 := c8) (N := l.N) (v2 := .slice l.LA l.ln l.lc) (v3 := .slice l.RA l.rn l.rc) hV5 hD HD0.out HR8.out HOD.out)
              clear hD
              refine wpAnyH_ready (rs := [15]) (by kernel_rfl) (by simp) ?_
              refine AllReadyH.cons (o := opLmo6) rfl (fun K2 hK => ?_) AllReadyH.nil
              go_simp
              refine hK.out _ _ HF.out.2.2 (fun hSf => ?_)
              clear hK K2
              try simp only [Act.put, List.setIfInBounds_toArray, List.set_cons_zero, List.set_cons_succ]
              refine wpAnyH_done (by kernel_rfl) ?_ _
              clear f0 f1 f2 f3 fz hSf
              go_wp2_with fail
              go_meet
              case rel => exact ⟨D, C8, c8, rfl, HF.out.1, Hc8.out, HF.out.2.1, HF.out.2.2⟩
            exact AllReadyH.nil
          exact AllReadyH.nil
        exact AllReadyH.nil
      exact AllReadyH.nil
    refine AllReadyH.cons (o := opLmo2) rfl (fun K2 hK => ?_) ?_
    · go_simp
      refine hK.out _ _ (hV0.trans ((below_alloc_ _ _).mono hV0.size)) (fun hV1 => ?_)
      clear hK K2
      have hT := heap_alloc_new_ V0 (.cells #[.int .i64 r.one, .int .i64 r.two, .int .i64 r.tr] 60)
      have hb := below_alloc_ V0 (.cells #[.int .i64 r.one, .int .i64 r.two, .int .i64 r.tr] 60)
      have HT0 := Lib.hid (show wB.heap.size ≤ V0.heap.size from hV0.size)
      generalize V0.alloc (.cells #[.int .i64 r.one, .int .i64 r.two, .int .i64 r.tr] 60) = V1 at *
      obtain ⟨T, hTe⟩ : ∃ T, V0.heap.size = T := ⟨_, rfl⟩
      rw [hTe] at hT HT0 ⊢
      clear hTe hb
      try simp only [Act.put, List.setIfInBounds_toArray, List.set_cons_zero, List.set_cons_succ]
      refine wpAnyH_ready (rs := [2, 14]) (by kernel_rfl) (by simp) ?_
      refine AllReadyH.cons (o := opLmo0) rfl (fun K2 hK => ?_) ?_
      · go_simp
        refine hK.out _ _ (hV1.trans ((below_alloc_ _ _).mono hV1.size)) (fun hV2 => ?_)
        clear hK K2
        have hZ := heap_alloc_new_ V1 (.cells #[] 60)
        have hb := below_alloc_ V1 (.cells #[] 60)
        have HNTZ := Lib.hid (show T ≠ V1.heap.size from by have := lt_of_block hT; omega)
        replace hT := (hb.block _ (lt_of_block hT)).trans hT
        have HZ0 := Lib.hid (show wB.heap.size ≤ V1.heap.size from hV1.size)
        have HOT := Lib.hid (show Value.ownBlock (.slice (some ⟨V1.heap.size, 0, none⟩) 0 0) ≠ some T from fun e => by have h9 : V1.heap.size = T := Option.some.inj e; exact HNTZ.out h9.symm)
        have HB := Lib.hid (show ∀ j, Value.ownBlock (.slice (some ⟨V1.heap.size, 0, none⟩) 0 0) = some j → wB.heap.size ≤ j from fun j e => by have h9 : V1.heap.size = j := Option.some.inj e; have := HZ0.out; omega)
        generalize V1.alloc (.cells #[] 60) = V2 at *
        obtain ⟨Z, hZe⟩ : ∃ Z, V1.heap.size = Z := ⟨_, rfl⟩
        rw [hZe] at hZ HZ0 HNTZ HOT HB ⊢
        clear hZe hb
        have hown := own_empty (size := 3) hZ
        clear hZ
        try simp only [Act.put, List.setIfInBounds_toArray, List.set_cons_zero, List.set_cons_succ]
        refine wpAnyH_ready (rs := [5, 14]) (by kernel_rfl) (by simp) ?_
        refine AllReadyH.cons (o := opLmo1) rfl (fun K2 hK => ?_) ?_
        · obtain ⟨v1, V3, hrun, hown2, hKp, hon⟩ := app_nls (c2 := l.cap) (xs := []) hown (S.out.zs.below hV2 (Nat.le_refl _)) (by omega)
          have hV3h := Lib.hid (show Below wB.heap.size wB V3 from hV2.trans (hKp.below hV2.size (fun j hj e => by have := HB.out j e; omega)))
          have HPT := Lib.hid (show Value.ownBlock v1 ≠ some T from by rcases hon with h9 | h9 <;> rw [h9] <;> first | exact HOT.out | (intro e; have h8 : V2.heap.size = T := Option.some.inj e; have := lt_of_block hT; omega))
          replace hT := (hKp.block _ (lt_of_block hT) HOT.out).trans hT
          clear HOT
          have HOT := HPT
          clear HPT
          have HB2 := Lib.hid (show ∀ j, Value.ownBlock v1 = some j → wB.heap.size ≤ j from fun j e => by rcases hon with h9 | h9 <;> rw [h9] at e <;> first | exact HB.out j e | (have h8 : V2.heap.size = j := Option.some.inj e; have := hV2.size; omega))
          clear HB hown hon hKp
          have HB := HB2
          have Hown := Lib.hid hown2
          clear HB2 hown2
          go_simp
          try rw [hrun]
          try go_simp
          have hown := Hown.out
          clear Hown
          refine hK.out _ _ (hV3h.out) (fun hV3 => ?_)
          clear hK K2
          clear hrun hV3h
          try simp only [Act.put, List.setIfInBounds_toArray, List.set_cons_zero, List.set_cons_succ]
          refine wpAnyH_ready (rs := [8, 14]) (by kernel_rfl) (by simp) ?_
          refine AllReadyH.cons (o := opLmo3) rfl (fun K2 hK => ?_) ?_
          · obtain ⟨v2, V4, hrun, hown2, hKp, hon⟩ := app_1n (r := r) hown hT (by omega)
            have hV4h := Lib.hid (show Below wB.heap.size wB V4 from hV3.trans (hKp.below hV3.size (fun j hj e => by have := HB.out j e; omega)))
            have HPT := Lib.hid (show Value.ownBlock v2 ≠ some T from by rcases hon with h9 | h9 <;> rw [h9] <;> first | exact HOT.out | (intro e; have h8 : V3.heap.size = T := Option.some.inj e; have := lt_of_block hT; omega))
            replace hT := (hKp.block _ (lt_of_block hT) HOT.out).trans hT
            clear HOT
            have HOT := HPT
            clear HPT
            have HB2 := Lib.hid (show ∀ j, Value.ownBlock v2 = some j → wB.heap.size ≤ j from fun j e => by rcases hon with h9 | h9 <;> rw [h9] at e <;> first | exact HB.out j e | (have h8 : V3.heap.size = j := Option.some.inj e; have := hV3.size; omega))
            clear HB hown hon hKp
            have HB := HB2
            have Hown := Lib.hid hown2
            clear HB2 hown2
            have hown9 := Hown.out
            clear Hown
            rw [Nat.zero_add, List.nil_append] at hown9
            obtain ⟨C8, c8, rfl, hc8, hr8, hC8⟩ := nls_own (by rw [List.length_append, Hzl.out]; rfl) hown9
            have HR8 := Lib.hid hr8
            have Hc8 := Lib.hid hc8
            clear hr8 hC8 hown9 hc8
            go_simp
            try rw [hrun]
            try go_simp
            refine hK.out _ _ (hV4h.out) (fun hV4 => ?_)
            clear hK K2
            clear hrun hV4h
            try simp only [Act.put, List.setIfInBounds_toArray, List.set_cons_zero, List.set_cons_succ]
            refine wpAnyH_take (i := 13) (oi := opLmo4) (v := .agg #[.int .i64 l.N, .slice C8 (l.n + 1) c8, .slice l.LA l.ln l.lc, .slice l.RA l.rn l.rc]) rfl (by kernel_rfl) (by kernel_rfl) (by kernel_rfl) (fun _ _ _ h => h) (Or.inl ⟨by rfl, by intro w2 hSw; (try dsimp only at hSw);  go_simp⟩) hV4 ?_
            try simp only [Act.put, List.setIfInBounds_toArray, List.set_cons_zero, List.set_cons_succ]
            refine wpAnyH_ready (rs := [14]) (by kernel_rfl) (by simp) ?_
            refine AllReadyH.cons (o := opLmo5) rfl (fun K2 hK => ?_) ?_
            · go_simp
              refine hK.out _ _ (hV4.trans ((below_alloc_ _ _).mono hV4.size)) (fun hV5 => ?_)
              clear hK K2
              have hD := heap_alloc_new_ V4 (.cells #[.int .i64 0, .slice none 0 0, .slice none 0 0, .slice none 0 0] 25)
              have hb := below_alloc_ V4 (.cells #[.int .i64 0, .slice none 0 0, .slice none 0 0, .slice none 0 0] 25)
              have HNTD := Lib.hid (show T ≠ V4.heap.size from by have := lt_of_block hT; omega)
              have HOD := Lib.hid (show ∀ b o, C8 = some ⟨b, o, none⟩ → b ≠ V4.heap.size from fun b o e => by obtain ⟨b2, o2, e2, hc2⟩ := HR8.out.2 (by omega); rw [e2] at e; cases e; have := lt_of_cell (hc2 0 (by omega)).1; omega)
              replace HR8 := Lib.hid (HR8.out.below hb (Nat.le_refl _))
              replace hT := (hb.block _ (lt_of_block hT)).trans hT
              have HD0 := Lib.hid (show wB.heap.size ≤ V4.heap.size from hV4.size)
              generalize V4.alloc (.cells #[.int .i64 0, .slice none 0 0, .slice none 0 0, .slice none 0 0] 25) = V5 at *
              obtain ⟨D, hDe⟩ : ∃ D, V4.heap.size = D := ⟨_, rfl⟩
              rw [hDe] at hD HD0 HNTD HOD ⊢
              clear hDe hb
              try simp only [Act.put, List.setIfInBounds_toArray, List.set_cons_zero, List.set_cons_succ]
              have f0 : V5.cell? ⟨D, 0, none⟩ = some (.int .i64 0) := by rw [cell_row hD]; rfl
              have f1 : V5.cell? ⟨D, 1, none⟩ = some (.slice none 0 0) := by rw [cell_row hD]; rfl
              have f2 : V5.cell? ⟨D, 2, none⟩ = some (.slice none 0 0) := by rw [cell_row hD]; rfl
              have f3 : V5.cell? ⟨D, 3, none⟩ = some (.slice none 0 0) := by rw [cell_row hD]; rfl
              have fz : ∀ i, V5.frozen? ⟨D, i, none⟩ = false := fun i => frozen_row hD
              have HF := Lib.hid (more_list (c8 := c8) (N := l.N) (v2 := .slice l.LA l.ln l.lc) (v3 := .slice l.RA l.rn l.rc) hV5 hD HD0.out HR8.out HOD.out)
              clear hD
              refine wpAnyH_ready (rs := [15]) (by kernel_rfl) (by simp) ?_
              refine AllReadyH.cons (o := opLmo6) rfl (fun K2 hK => ?_) AllReadyH.nil
              go_simp
              refine hK.out _ _ HF.out.2.2 (fun hSf => ?_)
              clear hK K2
              try simp only [Act.put, List.setIfInBounds_toArray, List.set_cons_zero, List.set_cons_succ]
              refine wpAnyH_done (by kernel_rfl) ?_ _
              clear f0 f1 f2 f3 fz hSf
              go_wp2_with fail
              go_meet
              case rel => exact ⟨D, C8, c8, rfl, HF.out.1, Hc8.out, HF.out.2.1, HF.out.2.2⟩
            exact AllReadyH.nil
          refine AllReadyH.cons (o := opLmo5) rfl (fun K2 hK => ?_) ?_
          · go_simp
            refine hK.out _ _ (hV3.trans ((below_alloc_ _ _).mono hV3.size)) (fun hV4 => ?_)
            clear hK K2
            have hD := heap_alloc_new_ V3 (.cells #[.int .i64 0, .slice none 0 0, .slice none 0 0, .slice none 0 0] 25)
            have hb := below_alloc_ V3 (.cells #[.int .i64 0, .slice none 0 0, .slice none 0 0, .slice none 0 0] 25)
            have HNTD := Lib.hid (show T ≠ V3.heap.size from by have := lt_of_block hT; omega)
            have HOD := Lib.hid (show Value.ownBlock (v1) ≠ some V3.heap.size from fun e => by have := own_lt hown _ e; omega)
            replace hown := own_keep hown (Keeps.of_new (Mut := fun _ => False) hb) (fun _ _ e => e)
            replace hT := (hb.block _ (lt_of_block hT)).trans hT
            have HD0 := Lib.hid (show wB.heap.size ≤ V3.heap.size from hV3.size)
            generalize V3.alloc (.cells #[.int .i64 0, .slice none 0 0, .slice none 0 0, .slice none 0 0] 25) = V4 at *
            obtain ⟨D, hDe⟩ : ∃ D, V3.heap.size = D := ⟨_, rfl⟩
            rw [hDe] at hD HD0 HNTD HOD ⊢
            clear hDe hb
            try simp only [Act.put, List.setIfInBounds_toArray, List.set_cons_zero, List.set_cons_succ]
            refine wpAnyH_ready (rs := [8]) (by kernel_rfl) (by simp) ?_
            refine AllReadyH.cons (o := opLmo3) rfl (fun K2 hK => ?_) ?_
            · obtain ⟨v2, V5, hrun, hown2, hKp, hon⟩ := app_1n (r := r) hown hT (by omega)
              have hV5h := Lib.hid (show Below wB.heap.size wB V5 from hV4.trans (hKp.below hV4.size (fun j hj e => by have := HB.out j e; omega)))
              have HPT := Lib.hid (show Value.ownBlock v2 ≠ some T from by rcases hon with h9 | h9 <;> rw [h9] <;> first | exact HOT.out | (intro e; have h8 : V4.heap.size = T := Option.some.inj e; have := lt_of_block hT; omega))
              replace hT := (hKp.block _ (lt_of_block hT) HOT.out).trans hT
              clear HOT
              have HOT := HPT
              clear HPT
              have HPD := Lib.hid (show Value.ownBlock v2 ≠ some D from by rcases hon with h9 | h9 <;> rw [h9] <;> first | exact HOD.out | (intro e; have h8 : V4.heap.size = D := Option.some.inj e; have := lt_of_block hD; omega))
              replace hD := (hKp.block _ (lt_of_block hD) HOD.out).trans hD
              clear HOD
              have HOD := HPD
              clear HPD
              have HB2 := Lib.hid (show ∀ j, Value.ownBlock v2 = some j → wB.heap.size ≤ j from fun j e => by rcases hon with h9 | h9 <;> rw [h9] at e <;> first | exact HB.out j e | (have h8 : V4.heap.size = j := Option.some.inj e; have := hV4.size; omega))
              clear HB hown hon hKp
              have HB := HB2
              have Hown := Lib.hid hown2
              clear HB2 hown2
              have hown9 := Hown.out
              clear Hown
              rw [Nat.zero_add, List.nil_append] at hown9
              obtain ⟨C8, c8, rfl, hc8, hr8, hC8⟩ := nls_own (by rw [List.length_append, Hzl.out]; rfl) hown9
              have HR8 := Lib.hid hr8
              have Hc8 := Lib.hid hc8
              have HC8 := Lib.hid (show ∀ b o, C8 = some ⟨b, o, none⟩ → b ≠ D from fun b o e e2 => HOD.out (by rw [← e2]; exact hC8 b o e))
              clear HOD
              have HOD := HC8
              clear HC8
              clear hr8 hC8 hown9 hc8
              go_simp
              try rw [hrun]
              try go_simp
              refine hK.out _ _ (hV5h.out) (fun hV5 => ?_)
              clear hK K2
              clear hrun hV5h
              try simp only [Act.put, List.setIfInBounds_toArray, List.set_cons_zero, List.set_cons_succ]
              refine wpAnyH_take (i := 13) (oi := opLmo4) (v := .agg #[.int .i64 l.N, .slice C8 (l.n + 1) c8, .slice l.LA l.ln l.lc, .slice l.RA l.rn l.rc]) rfl (by kernel_rfl) (by kernel_rfl) (by kernel_rfl) (fun _ _ _ h => h) (Or.inl ⟨by rfl, by intro w2 hSw; (try dsimp only at hSw);  go_simp⟩) hV5 ?_
              try simp only [Act.put, List.setIfInBounds_toArray, List.set_cons_zero, List.set_cons_succ]
              have f0 : V5.cell? ⟨D, 0, none⟩ = some (.int .i64 0) := by rw [cell_row hD]; rfl
              have f1 : V5.cell? ⟨D, 1, none⟩ = some (.slice none 0 0) := by rw [cell_row hD]; rfl
              have f2 : V5.cell? ⟨D, 2, none⟩ = some (.slice none 0 0) := by rw [cell_row hD]; rfl
              have f3 : V5.cell? ⟨D, 3, none⟩ = some (.slice none 0 0) := by rw [cell_row hD]; rfl
              have fz : ∀ i, V5.frozen? ⟨D, i, none⟩ = false := fun i => frozen_row hD
              have HF := Lib.hid (more_list (c8 := c8) (N := l.N) (v2 := .slice l.LA l.ln l.lc) (v3 := .slice l.RA l.rn l.rc) hV5 hD HD0.out HR8.out HOD.out)
              clear hD
              refine wpAnyH_ready (rs := [15]) (by kernel_rfl) (by simp) ?_
              refine AllReadyH.cons (o := opLmo6) rfl (fun K2 hK => ?_) AllReadyH.nil
              go_simp
              refine hK.out _ _ HF.out.2.2 (fun hSf => ?_)
              clear hK K2
              try simp only [Act.put, List.setIfInBounds_toArray, List.set_cons_zero, List.set_cons_succ]
              refine wpAnyH_done (by kernel_rfl) ?_ _
              clear f0 f1 f2 f3 fz hSf
              go_wp2_with fail
              go_meet
              case rel => exact ⟨D, C8, c8, rfl, HF.out.1, Hc8.out, HF.out.2.1, HF.out.2.2⟩
            exact AllReadyH.nil
          exact AllReadyH.nil
        refine AllReadyH.cons (o := opLmo5) rfl (fun K2 hK => ?_) ?_
        · go_simp
          refine hK.out _ _ (hV2.trans ((below_alloc_ _ _).mono hV2.size)) (fun hV3 => ?_)
          clear hK K2
          have hD := heap_alloc_new_ V2 (.cells #[.int .i64 0, .slice none 0 0, .slice none 0 0, .slice none 0 0] 25)
          have hb := below_alloc_ V2 (.cells #[.int .i64 0, .slice none 0 0, .slice none 0 0, .slice none 0 0] 25)
          have HNTD := Lib.hid (show T ≠ V2.heap.size from by have := lt_of_block hT; omega)
          have HOD := Lib.hid (show Value.ownBlock (.slice (some ⟨Z, 0, none⟩) 0 0) ≠ some V2.heap.size from fun e => by have := own_lt hown _ e; omega)
          replace hown := own_keep hown (Keeps.of_new (Mut := fun _ => False) hb) (fun _ _ e => e)
          replace hT := (hb.block _ (lt_of_block hT)).trans hT
          have HD0 := Lib.hid (show wB.heap.size ≤ V2.heap.size from hV2.size)
          generalize V2.alloc (.cells #[.int .i64 0, .slice none 0 0, .slice none 0 0, .slice none 0 0] 25) = V3 at *
          obtain ⟨D, hDe⟩ : ∃ D, V2.heap.size = D := ⟨_, rfl⟩
          rw [hDe] at hD HD0 HNTD HOD ⊢
          clear hDe hb
          try simp only [Act.put, List.setIfInBounds_toArray, List.set_cons_zero, List.set_cons_succ]
          refine wpAnyH_ready (rs := [5]) (by kernel_rfl) (by simp) ?_
          refine AllReadyH.cons (o := opLmo1) rfl (fun K2 hK => ?_) ?_
          · obtain ⟨v1, V4, hrun, hown2, hKp, hon⟩ := app_nls (c2 := l.cap) (xs := []) hown (S.out.zs.below hV3 (Nat.le_refl _)) (by omega)
            have hV4h := Lib.hid (show Below wB.heap.size wB V4 from hV3.trans (hKp.below hV3.size (fun j hj e => by have := HB.out j e; omega)))
            have HPT := Lib.hid (show Value.ownBlock v1 ≠ some T from by rcases hon with h9 | h9 <;> rw [h9] <;> first | exact HOT.out | (intro e; have h8 : V3.heap.size = T := Option.some.inj e; have := lt_of_block hT; omega))
            replace hT := (hKp.block _ (lt_of_block hT) HOT.out).trans hT
            clear HOT
            have HOT := HPT
            clear HPT
            have HPD := Lib.hid (show Value.ownBlock v1 ≠ some D from by rcases hon with h9 | h9 <;> rw [h9] <;> first | exact HOD.out | (intro e; have h8 : V3.heap.size = D := Option.some.inj e; have := lt_of_block hD; omega))
            replace hD := (hKp.block _ (lt_of_block hD) HOD.out).trans hD
            clear HOD
            have HOD := HPD
            clear HPD
            have HB2 := Lib.hid (show ∀ j, Value.ownBlock v1 = some j → wB.heap.size ≤ j from fun j e => by rcases hon with h9 | h9 <;> rw [h9] at e <;> first | exact HB.out j e | (have h8 : V3.heap.size = j := Option.some.inj e; have := hV3.size; omega))
            clear HB hown hon hKp
            have HB := HB2
            have Hown := Lib.hid hown2
            clear HB2 hown2
            go_simp
            try rw [hrun]
            try go_simp
            have hown := Hown.out
            clear Hown
            refine hK.out _ _ (hV4h.out) (fun hV4 => ?_)
            clear hK K2
            clear hrun hV4h
            try simp only [Act.put, List.setIfInBounds_toArray, List.set_cons_zero, List.set_cons_succ]
            refine wpAnyH_ready (rs := [8]) (by kernel_rfl) (by simp) ?_
            refine AllReadyH.cons (o := opLmo3) rfl (fun K2 hK => ?_) ?_
            · obtain ⟨v2, V5, hrun, hown2, hKp, hon⟩ := app_1n (r := r) hown hT (by omega)
              have hV5h := Lib.hid (show Below wB.heap.size wB V5 from hV4.trans (hKp.below hV4.size (fun j hj e => by have := HB.out j e; omega)))
              have HPT := Lib.hid (show Value.ownBlock v2 ≠ some T from by rcases hon with h9 | h9 <;> rw [h9] <;> first | exact HOT.out | (intro e; have h8 : V4.heap.size = T := Option.some.inj e; have := lt_of_block hT; omega))
              replace hT := (hKp.block _ (lt_of_block hT) HOT.out).trans hT
              clear HOT
              have HOT := HPT
              clear HPT
              have HPD := Lib.hid (show Value.ownBlock v2 ≠ some D from by rcases hon with h9 | h9 <;> rw [h9] <;> first | exact HOD.out | (intro e; have h8 : V4.heap.size = D := Option.some.inj e; have := lt_of_block hD; omega))
              replace hD := (hKp.block _ (lt_of_block hD) HOD.out).trans hD
              clear HOD
              have HOD := HPD
              clear HPD
              have HB2 := Lib.hid (show ∀ j, Value.ownBlock v2 = some j → wB.heap.size ≤ j from fun j e => by rcases hon with h9 | h9 <;> rw [h9] at e <;> first | exact HB.out j e | (have h8 : V4.heap.size = j := Option.some.inj e; have := hV4.size; omega))
              clear HB hown hon hKp
              have HB := HB2
              have Hown := Lib.hid hown2
              clear HB2 hown2
              have hown9 := Hown.out
              clear Hown
              rw [Nat.zero_add, List.nil_append] at hown9
              obtain ⟨C8, c8, rfl, hc8, hr8, hC8⟩ := nls_own (by rw [List.length_append, Hzl.out]; rfl) hown9
              have HR8 := Lib.hid hr8
              have Hc8 := Lib.hid hc8
              have HC8 := Lib.hid (show ∀ b o, C8 = some ⟨b, o, none⟩ → b ≠ D from fun b o e e2 => HOD.out (by rw [← e2]; exact hC8 b o e))
              clear HOD
              have HOD := HC8
              clear HC8
              clear hr8 hC8 hown9 hc8
              go_simp
              try rw [hrun]
              try go_simp
              refine hK.out _ _ (hV5h.out) (fun hV5 => ?_)
              clear hK K2
              clear hrun hV5h
              try simp only [Act.put, List.setIfInBounds_toArray, List.set_cons_zero, List.set_cons_succ]
              refine wpAnyH_take (i := 13) (oi := opLmo4) (v := .agg #[.int .i64 l.N, .slice C8 (l.n + 1) c8, .slice l.LA l.ln l.lc, .slice l.RA l.rn l.rc]) rfl (by kernel_rfl) (by kernel_rfl) (by kernel_rfl) (fun _ _ _ h => h) (Or.inl ⟨by rfl, by intro w2 hSw; (try dsimp only at hSw);  go_simp⟩) hV5 ?_
              try simp only [Act.put, List.setIfInBounds_toArray, List.set_cons_zero, List.set_cons_succ]
              have f0 : V5.cell? ⟨D, 0, none⟩ = some (.int .i64 0) := by rw [cell_row hD]; rfl
              have f1 : V5.cell? ⟨D, 1, none⟩ = some (.slice none 0 0) := by rw [cell_row hD]; rfl
              have f2 : V5.cell? ⟨D, 2, none⟩ = some (.slice none 0 0) := by rw [cell_row hD]; rfl
              have f3 : V5.cell? ⟨D, 3, none⟩ = some (.slice none 0 0) := by rw [cell_row hD]; rfl
              have fz : ∀ i, V5.frozen? ⟨D, i, none⟩ = false := fun i => frozen_row hD
              have HF := Lib.hid (more_list (c8 := c8) (N := l.N) (v2 := .slice l.LA l.ln l.lc) (v3 := .slice l.RA l.rn l.rc) hV5 hD HD0.out HR8.out HOD.out)
              clear hD
              refine wpAnyH_ready (rs := [15]) (by kernel_rfl) (by simp) ?_
              refine AllReadyH.cons (o := opLmo6) rfl (fun K2 hK => ?_) AllReadyH.nil
              go_simp
              refine hK.out _ _ HF.out.2.2 (fun hSf => ?_)
              clear hK K2
              try simp only [Act.put, List.setIfInBounds_toArray, List.set_cons_zero, List.set_cons_succ]
              refine wpAnyH_done (by kernel_rfl) ?_ _
              clear f0 f1 f2 f3 fz hSf
              go_wp2_with fail
              go_meet
              case rel => exact ⟨D, C8, c8, rfl, HF.out.1, Hc8.out, HF.out.2.1, HF.out.2.2⟩
            exact AllReadyH.nil
          exact AllReadyH.nil
        exact AllReadyH.nil
      refine AllReadyH.cons (o := opLmo5) rfl (fun K2 hK => ?_) ?_
      · go_simp
        refine hK.out _ _ (hV1.trans ((below_alloc_ _ _).mono hV1.size)) (fun hV2 => ?_)
        clear hK K2
        have hD := heap_alloc_new_ V1 (.cells #[.int .i64 0, .slice none 0 0, .slice none 0 0, .slice none 0 0] 25)
        have hb := below_alloc_ V1 (.cells #[.int .i64 0, .slice none 0 0, .slice none 0 0, .slice none 0 0] 25)
        have HNTD := Lib.hid (show T ≠ V1.heap.size from by have := lt_of_block hT; omega)
        replace hT := (hb.block _ (lt_of_block hT)).trans hT
        have HD0 := Lib.hid (show wB.heap.size ≤ V1.heap.size from hV1.size)
        generalize V1.alloc (.cells #[.int .i64 0, .slice none 0 0, .slice none 0 0, .slice none 0 0] 25) = V2 at *
        obtain ⟨D, hDe⟩ : ∃ D, V1.heap.size = D := ⟨_, rfl⟩
        rw [hDe] at hD HD0 HNTD ⊢
        clear hDe hb
        try simp only [Act.put, List.setIfInBounds_toArray, List.set_cons_zero, List.set_cons_succ]
        refine wpAnyH_ready (rs := [2]) (by kernel_rfl) (by simp) ?_
        refine AllReadyH.cons (o := opLmo0) rfl (fun K2 hK => ?_) ?_
        · go_simp
          refine hK.out _ _ (hV2.trans ((below_alloc_ _ _).mono hV2.size)) (fun hV3 => ?_)
          clear hK K2
          have hZ := heap_alloc_new_ V2 (.cells #[] 60)
          have hb := below_alloc_ V2 (.cells #[] 60)
          have HNTZ := Lib.hid (show T ≠ V2.heap.size from by have := lt_of_block hT; omega)
          have HNDZ := Lib.hid (show D ≠ V2.heap.size from by have := lt_of_block hD; omega)
          replace hT := (hb.block _ (lt_of_block hT)).trans hT
          replace hD := (hb.block _ (lt_of_block hD)).trans hD
          have HZ0 := Lib.hid (show wB.heap.size ≤ V2.heap.size from hV2.size)
          have HOT := Lib.hid (show Value.ownBlock (.slice (some ⟨V2.heap.size, 0, none⟩) 0 0) ≠ some T from fun e => by have h9 : V2.heap.size = T := Option.some.inj e; exact HNTZ.out h9.symm)
          have HOD := Lib.hid (show Value.ownBlock (.slice (some ⟨V2.heap.size, 0, none⟩) 0 0) ≠ some D from fun e => by have h9 : V2.heap.size = D := Option.some.inj e; exact HNDZ.out h9.symm)
          have HB := Lib.hid (show ∀ j, Value.ownBlock (.slice (some ⟨V2.heap.size, 0, none⟩) 0 0) = some j → wB.heap.size ≤ j from fun j e => by have h9 : V2.heap.size = j := Option.some.inj e; have := HZ0.out; omega)
          generalize V2.alloc (.cells #[] 60) = V3 at *
          obtain ⟨Z, hZe⟩ : ∃ Z, V2.heap.size = Z := ⟨_, rfl⟩
          rw [hZe] at hZ HZ0 HNTZ HNDZ HOT HOD HB ⊢
          clear hZe hb
          have hown := own_empty (size := 3) hZ
          clear hZ
          try simp only [Act.put, List.setIfInBounds_toArray, List.set_cons_zero, List.set_cons_succ]
          refine wpAnyH_ready (rs := [5]) (by kernel_rfl) (by simp) ?_
          refine AllReadyH.cons (o := opLmo1) rfl (fun K2 hK => ?_) ?_
          · obtain ⟨v1, V4, hrun, hown2, hKp, hon⟩ := app_nls (c2 := l.cap) (xs := []) hown (S.out.zs.below hV3 (Nat.le_refl _)) (by omega)
            have hV4h := Lib.hid (show Below wB.heap.size wB V4 from hV3.trans (hKp.below hV3.size (fun j hj e => by have := HB.out j e; omega)))
            have HPT := Lib.hid (show Value.ownBlock v1 ≠ some T from by rcases hon with h9 | h9 <;> rw [h9] <;> first | exact HOT.out | (intro e; have h8 : V3.heap.size = T := Option.some.inj e; have := lt_of_block hT; omega))
            replace hT := (hKp.block _ (lt_of_block hT) HOT.out).trans hT
            clear HOT
            have HOT := HPT
            clear HPT
            have HPD := Lib.hid (show Value.ownBlock v1 ≠ some D from by rcases hon with h9 | h9 <;> rw [h9] <;> first | exact HOD.out | (intro e; have h8 : V3.heap.size = D := Option.some.inj e; have := lt_of_block hD; omega))
            replace hD := (hKp.block _ (lt_of_block hD) HOD.out).trans hD
            clear HOD
            have HOD := HPD
            clear HPD
            have HB2 := Lib.hid (show ∀ j, Value.ownBlock v1 = some j → wB.heap.size ≤ j from fun j e => by rcases hon with h9 | h9 <;> rw [h9] at e <;> first | exact HB.out j e | (have h8 : V3.heap.size = j := Option.some.inj e; have := hV3.size; omega))
            clear HB hown hon hKp
            have HB := HB2
            have Hown := Lib.hid hown2
            clear HB2 hown2
            go_simp
            try rw [hrun]
            try go_simp
            have hown := Hown.out
            clear Hown
            refine hK.out _ _ (hV4h.out) (fun hV4 => ?_)
            clear hK K2
            clear hrun hV4h
            try simp only [Act.put, List.setIfInBounds_toArray, List.set_cons_zero, List.set_cons_succ]
            refine wpAnyH_ready (rs := [8]) (by kernel_rfl) (by simp) ?_
            refine AllReadyH.cons (o := opLmo3) rfl (fun K2 hK => ?_) ?_
            · obtain ⟨v2, V5, hrun, hown2, hKp, hon⟩ := app_1n (r := r) hown hT (by omega)
              have hV5h := Lib.hid (show Below wB.heap.size wB V5 from hV4.trans (hKp.below hV4.size (fun j hj e => by have := HB.out j e; omega)))
              have HPT := Lib.hid (show Value.ownBlock v2 ≠ some T from by rcases hon with h9 | h9 <;> rw [h9] <;> first | exact HOT.out | (intro e; have h8 : V4.heap.size = T := Option.some.inj e; have := lt_of_block hT; omega))
              replace hT := (hKp.block _ (lt_of_block hT) HOT.out).trans hT
              clear HOT
              have HOT := HPT
              clear HPT
              have HPD := Lib.hid (show Value.ownBlock v2 ≠ some D from by rcases hon with h9 | h9 <;> rw [h9] <;> first | exact HOD.out | (intro e; have h8 : V4.heap.size = D := Option.some.inj e; have := lt_of_block hD; omega))
              replace hD := (hKp.block _ (lt_of_block hD) HOD.out).trans hD
              clear HOD
              have HOD := HPD
              clear HPD
              have HB2 := Lib.hid (show ∀ j, Value.ownBlock v2 = some j → wB.heap.size ≤ j from fun j e => by rcases hon with h9 | h9 <;> rw [h9] at e <;> first | exact HB.out j e | (have h8 : V4.heap.size = j := Option.some.inj e; have := hV4.size; omega))
              clear HB hown hon hKp
              have HB := HB2
              have Hown := Lib.hid hown2
              clear HB2 hown2
              have hown9 := Hown.out
              clear Hown
              rw [Nat.zero_add, List.nil_append] at hown9
              obtain ⟨C8, c8, rfl, hc8, hr8, hC8⟩ := nls_own (by rw [List.length_append, Hzl.out]; rfl) hown9
              have HR8 := Lib.hid hr8
              have Hc8 := Lib.hid hc8
              have HC8 := Lib.hid (show ∀ b o, C8 = some ⟨b, o, none⟩ → b ≠ D from fun b o e e2 => HOD.out (by rw [← e2]; exact hC8 b o e))
              clear HOD
              have HOD := HC8
              clear HC8
              clear hr8 hC8 hown9 hc8
              go_simp
              try rw [hrun]
              try go_simp
              refine hK.out _ _ (hV5h.out) (fun hV5 => ?_)
              clear hK K2
              clear hrun hV5h
              try simp only [Act.put, List.setIfInBounds_toArray, List.set_cons_zero, List.set_cons_succ]
              refine wpAnyH_take (i := 13) (oi := opLmo4) (v := .agg #[.int .i64 l.N, .slice C8 (l.n + 1) c8, .slice l.LA l.ln l.lc, .slice l.RA l.rn l.rc]) rfl (by kernel_rfl) (by kernel_rfl) (by kernel_rfl) (fun _ _ _ h => h) (Or.inl ⟨by rfl, by intro w2 hSw; (try dsimp only at hSw);  go_simp⟩) hV5 ?_
              try simp only [Act.put, List.setIfInBounds_toArray, List.set_cons_zero, List.set_cons_succ]
              have f0 : V5.cell? ⟨D, 0, none⟩ = some (.int .i64 0) := by rw [cell_row hD]; rfl
              have f1 : V5.cell? ⟨D, 1, none⟩ = some (.slice none 0 0) := by rw [cell_row hD]; rfl
              have f2 : V5.cell? ⟨D, 2, none⟩ = some (.slice none 0 0) := by rw [cell_row hD]; rfl
              have f3 : V5.cell? ⟨D, 3, none⟩ = some (.slice none 0 0) := by rw [cell_row hD]; rfl
              have fz : ∀ i, V5.frozen? ⟨D, i, none⟩ = false := fun i => frozen_row hD
              have HF := Lib.hid (more_list (c8 := c8) (N := l.N) (v2 := .slice l.LA l.ln l.lc) (v3 := .slice l.RA l.rn l.rc) hV5 hD HD0.out HR8.out HOD.out)
              clear hD
              refine wpAnyH_ready (rs := [15]) (by kernel_rfl) (by simp) ?_
              refine AllReadyH.cons (o := opLmo6) rfl (fun K2 hK => ?_) AllReadyH.nil
              go_simp
              refine hK.out _ _ HF.out.2.2 (fun hSf => ?_)
              clear hK K2
              try simp only [Act.put, List.setIfInBounds_toArray, List.set_cons_zero, List.set_cons_succ]
              refine wpAnyH_done (by kernel_rfl) ?_ _
              clear f0 f1 f2 f3 fz hSf
              go_wp2_with fail
              go_meet
              case rel => exact ⟨D, C8, c8, rfl, HF.out.1, Hc8.out, HF.out.2.1, HF.out.2.2⟩
            exact AllReadyH.nil
          exact AllReadyH.nil
        exact AllReadyH.nil
      exact AllReadyH.nil
    refine AllReadyH.cons (o := opLmo5) rfl (fun K2 hK => ?_) ?_
    · go_simp
      refine hK.out _ _ (hV0.trans ((below_alloc_ _ _).mono hV0.size)) (fun hV1 => ?_)
      clear hK K2
      have hD := heap_alloc_new_ V0 (.cells #[.int .i64 0, .slice none 0 0, .slice none 0 0, .slice none 0 0] 25)
      have hb := below_alloc_ V0 (.cells #[.int .i64 0, .slice none 0 0, .slice none 0 0, .slice none 0 0] 25)
      have HD0 := Lib.hid (show wB.heap.size ≤ V0.heap.size from hV0.size)
      generalize V0.alloc (.cells #[.int .i64 0, .slice none 0 0, .slice none 0 0, .slice none 0 0] 25) = V1 at *
      obtain ⟨D, hDe⟩ : ∃ D, V0.heap.size = D := ⟨_, rfl⟩
      rw [hDe] at hD HD0 ⊢
      clear hDe hb
      try simp only [Act.put, List.setIfInBounds_toArray, List.set_cons_zero, List.set_cons_succ]
      refine wpAnyH_ready (rs := [2, 7]) (by kernel_rfl) (by simp) ?_
      refine AllReadyH.cons (o := opLmo0) rfl (fun K2 hK => ?_) ?_
      · go_simp
        refine hK.out _ _ (hV1.trans ((below_alloc_ _ _).mono hV1.size)) (fun hV2 => ?_)
        clear hK K2
        have hZ := heap_alloc_new_ V1 (.cells #[] 60)
        have hb := below_alloc_ V1 (.cells #[] 60)
        have HNDZ := Lib.hid (show D ≠ V1.heap.size from by have := lt_of_block hD; omega)
        replace hD := (hb.block _ (lt_of_block hD)).trans hD
        have HZ0 := Lib.hid (show wB.heap.size ≤ V1.heap.size from hV1.size)
        have HOD := Lib.hid (show Value.ownBlock (.slice (some ⟨V1.heap.size, 0, none⟩) 0 0) ≠ some D from fun e => by have h9 : V1.heap.size = D := Option.some.inj e; exact HNDZ.out h9.symm)
        have HB := Lib.hid (show ∀ j, Value.ownBlock (.slice (some ⟨V1.heap.size, 0, none⟩) 0 0) = some j → wB.heap.size ≤ j from fun j e => by have h9 : V1.heap.size = j := Option.some.inj e; have := HZ0.out; omega)
        generalize V1.alloc (.cells #[] 60) = V2 at *
        obtain ⟨Z, hZe⟩ : ∃ Z, V1.heap.size = Z := ⟨_, rfl⟩
        rw [hZe] at hZ HZ0 HNDZ HOD HB ⊢
        clear hZe hb
        have hown := own_empty (size := 3) hZ
        clear hZ
        try simp only [Act.put, List.setIfInBounds_toArray, List.set_cons_zero, List.set_cons_succ]
        refine wpAnyH_ready (rs := [5, 7]) (by kernel_rfl) (by simp) ?_
        refine AllReadyH.cons (o := opLmo1) rfl (fun K2 hK => ?_) ?_
        · obtain ⟨v1, V3, hrun, hown2, hKp, hon⟩ := app_nls (c2 := l.cap) (xs := []) hown (S.out.zs.below hV2 (Nat.le_refl _)) (by omega)
          have hV3h := Lib.hid (show Below wB.heap.size wB V3 from hV2.trans (hKp.below hV2.size (fun j hj e => by have := HB.out j e; omega)))
          have HPD := Lib.hid (show Value.ownBlock v1 ≠ some D from by rcases hon with h9 | h9 <;> rw [h9] <;> first | exact HOD.out | (intro e; have h8 : V2.heap.size = D := Option.some.inj e; have := lt_of_block hD; omega))
          replace hD := (hKp.block _ (lt_of_block hD) HOD.out).trans hD
          clear HOD
          have HOD := HPD
          clear HPD
          have HB2 := Lib.hid (show ∀ j, Value.ownBlock v1 = some j → wB.heap.size ≤ j from fun j e => by rcases hon with h9 | h9 <;> rw [h9] at e <;> first | exact HB.out j e | (have h8 : V2.heap.size = j := Option.some.inj e; have := hV2.size; omega))
          clear HB hown hon hKp
          have HB := HB2
          have Hown := Lib.hid hown2
          clear HB2 hown2
          go_simp
          try rw [hrun]
          try go_simp
          have hown := Hown.out
          clear Hown
          refine hK.out _ _ (hV3h.out) (fun hV3 => ?_)
          clear hK K2
          clear hrun hV3h
          try simp only [Act.put, List.setIfInBounds_toArray, List.set_cons_zero, List.set_cons_succ]
          refine wpAnyH_ready (rs := [7]) (by kernel_rfl) (by simp) ?_
          refine AllReadyH.cons (o := opLmo2) rfl (fun K2 hK => ?_) ?_
          · go_simp
            refine hK.out _ _ (hV3.trans ((below_alloc_ _ _).mono hV3.size)) (fun hV4 => ?_)
            clear hK K2
            have hT := heap_alloc_new_ V3 (.cells #[.int .i64 r.one, .int .i64 r.two, .int .i64 r.tr] 60)
            have hb := below_alloc_ V3 (.cells #[.int .i64 r.one, .int .i64 r.two, .int .i64 r.tr] 60)
            have HNDT := Lib.hid (show D ≠ V3.heap.size from by have := lt_of_block hD; omega)
            have HOT := Lib.hid (show Value.ownBlock (v1) ≠ some V3.heap.size from fun e => by have := own_lt hown _ e; omega)
            replace hown := own_keep hown (Keeps.of_new (Mut := fun _ => False) hb) (fun _ _ e => e)
            replace hD := (hb.block _ (lt_of_block hD)).trans hD
            have HT0 := Lib.hid (show wB.heap.size ≤ V3.heap.size from hV3.size)
            generalize V3.alloc (.cells #[.int .i64 r.one, .int .i64 r.two, .int .i64 r.tr] 60) = V4 at *
            obtain ⟨T, hTe⟩ : ∃ T, V3.heap.size = T := ⟨_, rfl⟩
            rw [hTe] at hT HT0 HNDT HOT ⊢
            clear hTe hb
            try simp only [Act.put, List.setIfInBounds_toArray, List.set_cons_zero, List.set_cons_succ]
            refine wpAnyH_ready (rs := [8]) (by kernel_rfl) (by simp) ?_
            refine AllReadyH.cons (o := opLmo3) rfl (fun K2 hK => ?_) ?_
            · obtain ⟨v2, V5, hrun, hown2, hKp, hon⟩ := app_1n (r := r) hown hT (by omega)
              have hV5h := Lib.hid (show Below wB.heap.size wB V5 from hV4.trans (hKp.below hV4.size (fun j hj e => by have := HB.out j e; omega)))
              have HPD := Lib.hid (show Value.ownBlock v2 ≠ some D from by rcases hon with h9 | h9 <;> rw [h9] <;> first | exact HOD.out | (intro e; have h8 : V4.heap.size = D := Option.some.inj e; have := lt_of_block hD; omega))
              replace hD := (hKp.block _ (lt_of_block hD) HOD.out).trans hD
              clear HOD
              have HOD := HPD
              clear HPD
              have HPT := Lib.hid (show Value.ownBlock v2 ≠ some T from by rcases hon with h9 | h9 <;> rw [h9] <;> first | exact HOT.out | (intro e; have h8 : V4.heap.size = T := Option.some.inj e; have := lt_of_block hT; omega))
              replace hT := (hKp.block _ (lt_of_block hT) HOT.out).trans hT
              clear HOT
              have HOT := HPT
              clear HPT
              have HB2 := Lib.hid (show ∀ j, Value.ownBlock v2 = some j → wB.heap.size ≤ j from fun j e => by rcases hon with h9 | h9 <;> rw [h9] at e <;> first | exact HB.out j e | (have h8 : V4.heap.size = j := Option.some.inj e; have := hV4.size; omega))
              clear HB hown hon hKp
              have HB := HB2
              have Hown := Lib.hid hown2
              clear HB2 hown2
              have hown9 := Hown.out
              clear Hown
              rw [Nat.zero_add, List.nil_append] at hown9
              obtain ⟨C8, c8, rfl, hc8, hr8, hC8⟩ := nls_own (by rw [List.length_append, Hzl.out]; rfl) hown9
              have HR8 := Lib.hid hr8
              have Hc8 := Lib.hid hc8
              have HC8 := Lib.hid (show ∀ b o, C8 = some ⟨b, o, none⟩ → b ≠ D from fun b o e e2 => HOD.out (by rw [← e2]; exact hC8 b o e))
              clear HOD
              have HOD := HC8
              clear HC8
              clear hr8 hC8 hown9 hc8
              go_simp
              try rw [hrun]
              try go_simp
              refine hK.out _ _ (hV5h.out) (fun hV5 => ?_)
              clear hK K2
              clear hrun hV5h
              try simp only [Act.put, List.setIfInBounds_toArray, List.set_cons_zero, List.set_cons_succ]
              refine wpAnyH_take (i := 13) (oi := opLmo4) (v := .agg #[.int .i64 l.N, .slice C8 (l.n + 1) c8, .slice l.LA l.ln l.lc, .slice l.RA l.rn l.rc]) rfl (by kernel_rfl) (by kernel_rfl) (by kernel_rfl) (fun _ _ _ h => h) (Or.inl ⟨by rfl, by intro w2 hSw; (try dsimp only at hSw);  go_simp⟩) hV5 ?_
              try simp only [Act.put, List.setIfInBounds_toArray, List.set_cons_zero, List.set_cons_succ]
              have f0 : V5.cell? ⟨D, 0, none⟩ = some (.int .i64 0) := by rw [cell_row hD]; rfl
              have f1 : V5.cell? ⟨D, 1, none⟩ = some (.slice none 0 0) := by rw [cell_row hD]; rfl
              have f2 : V5.cell? ⟨D, 2, none⟩ = some (.slice none 0 0) := by rw [cell_row hD]; rfl
              have f3 : V5.cell? ⟨D, 3, none⟩ = some (.slice none 0 0) := by rw [cell_row hD]; rfl
              have fz : ∀ i, V5.frozen? ⟨D, i, none⟩ = false := fun i => frozen_row hD
              have HF := Lib.hid (more_list (c8 := c8) (N := l.N) (v2 := .slice l.LA l.ln l.lc) (v3 := .slice l.RA l.rn l.rc) hV5 hD HD0.out HR8.out HOD.out)
              clear hD
              refine wpAnyH_ready (rs := [15]) (by kernel_rfl) (by simp) ?_
              refine AllReadyH.cons (o := opLmo6) rfl (fun K2 hK => ?_) AllReadyH.nil
              go_simp
              refine hK.out _ _ HF.out.2.2 (fun hSf => ?_)
              clear hK K2
              try simp only [Act.put, List.setIfInBounds_toArray, List.set_cons_zero, List.set_cons_succ]
              refine wpAnyH_done (by kernel_rfl) ?_ _
              clear f0 f1 f2 f3 fz hSf
              go_wp2_with fail
              go_meet
              case rel => exact ⟨D, C8, c8, rfl, HF.out.1, Hc8.out, HF.out.2.1, HF.out.2.2⟩
            exact AllReadyH.nil
          exact AllReadyH.nil
        refine AllReadyH.cons (o := opLmo2) rfl (fun K2 hK => ?_) ?_
        · go_simp
          refine hK.out _ _ (hV2.trans ((below_alloc_ _ _).mono hV2.size)) (fun hV3 => ?_)
          clear hK K2
          have hT := heap_alloc_new_ V2 (.cells #[.int .i64 r.one, .int .i64 r.two, .int .i64 r.tr] 60)
          have hb := below_alloc_ V2 (.cells #[.int .i64 r.one, .int .i64 r.two, .int .i64 r.tr] 60)
          have HNDT := Lib.hid (show D ≠ V2.heap.size from by have := lt_of_block hD; omega)
          have HOT := Lib.hid (show Value.ownBlock (.slice (some ⟨Z, 0, none⟩) 0 0) ≠ some V2.heap.size from fun e => by have := own_lt hown _ e; omega)
          replace hown := own_keep hown (Keeps.of_new (Mut := fun _ => False) hb) (fun _ _ e => e)
          replace hD := (hb.block _ (lt_of_block hD)).trans hD
          have HT0 := Lib.hid (show wB.heap.size ≤ V2.heap.size from hV2.size)
          generalize V2.alloc (.cells #[.int .i64 r.one, .int .i64 r.two, .int .i64 r.tr] 60) = V3 at *
          obtain ⟨T, hTe⟩ : ∃ T, V2.heap.size = T := ⟨_, rfl⟩
          rw [hTe] at hT HT0 HNDT HOT ⊢
          clear hTe hb
          try simp only [Act.put, List.setIfInBounds_toArray, List.set_cons_zero, List.set_cons_succ]
          refine wpAnyH_ready (rs := [5]) (by kernel_rfl) (by simp) ?_
          refine AllReadyH.cons (o := opLmo1) rfl (fun K2 hK => ?_) ?_
          · obtain ⟨v1, V4, hrun, hown2, hKp, hon⟩ := app_nls (c2 := l.cap) (xs := []) hown (S.out.zs.below hV3 (Nat.le_refl _)) (by omega)
            have hV4h := Lib.hid (show Below wB.heap.size wB V4 from hV3.trans (hKp.below hV3.size (fun j hj e => by have := HB.out j e; omega)))
            have HPD := Lib.hid (show Value.ownBlock v1 ≠ some D from by rcases hon with h9 | h9 <;> rw [h9] <;> first | exact HOD.out | (intro e; have h8 : V3.heap.size = D := Option.some.inj e; have := lt_of_block hD; omega))
            replace hD := (hKp.block _ (lt_of_block hD) HOD.out).trans hD
            clear HOD
            have HOD := HPD
            clear HPD
            have HPT := Lib.hid (show Value.ownBlock v1 ≠ some T from by rcases hon with h9 | h9 <;> rw [h9] <;> first | exact HOT.out | (intro e; have h8 : V3.heap.size = T := Option.some.inj e; have := lt_of_block hT; omega))
            replace hT := (hKp.block _ (lt_of_block hT) HOT.out).trans hT
            clear HOT
            have HOT := HPT
            clear HPT
            have HB2 := Lib.hid (show ∀ j, Value.ownBlock v1 = some j → wB.heap.size ≤ j from fun j e => by rcases hon with h9 | h9 <;> rw [h9] at e <;> first | exact HB.out j e | (have h8 : V3.heap.size = j := Option.some.inj e; have := hV3.size; omega))
            clear HB hown hon hKp
            have HB := HB2
            have Hown := Lib.hid hown2
            clear HB2 hown2
            go_simp
            try rw [hrun]
            try go_simp
            have hown := Hown.out
            clear Hown
            refine hK.out _ _ (hV4h.out) (fun hV4 => ?_)
            clear hK K2
            clear hrun hV4h
            try simp only [Act.put, List.setIfInBounds_toArray, List.set_cons_zero, List.set_cons_succ]
            refine wpAnyH_ready (rs := [8]) (by kernel_rfl) (by simp) ?_
            refine AllReadyH.cons (o := opLmo3) rfl (fun K2 hK => ?_) ?_
            · obtain ⟨v2, V5, hrun, hown2, hKp, hon⟩ := app_1n (r := r) hown hT (by omega)
              have hV5h := Lib.hid (show Below wB.heap.size wB V5 from hV4.trans (hKp.below hV4.size (fun j hj e => by have := HB.out j e; omega)))
              have HPD := Lib.hid (show Value.ownBlock v2 ≠ some D from by rcases hon with h9 | h9 <;> rw [h9] <;> first | exact HOD.out | (intro e; have h8 : V4.heap.size = D := Option.some.inj e; have := lt_of_block hD; omega))
              replace hD := (hKp.block _ (lt_of_block hD) HOD.out).trans hD
              clear HOD
              have HOD := HPD
              clear HPD
              have HPT := Lib.hid (show Value.ownBlock v2 ≠ some T from by rcases hon with h9 | h9 <;> rw [h9] <;> first | exact HOT.out | (intro e; have h8 : V4.heap.size = T := Option.some.inj e; have := lt_of_block hT; omega))
              replace hT := (hKp.block _ (lt_of_block hT) HOT.out).trans hT
              clear HOT
              have HOT := HPT
              clear HPT
              have HB2 := Lib.hid (show ∀ j, Value.ownBlock v2 = some j → wB.heap.size ≤ j from fun j e => by rcases hon with h9 | h9 <;> rw [h9] at e <;> first | exact HB.out j e | (have h8 : V4.heap.size = j := Option.some.inj e; have := hV4.size; omega))
              clear HB hown hon hKp
              have HB := HB2
              have Hown := Lib.hid hown2
              clear HB2 hown2
              have hown9 := Hown.out
              clear Hown
              rw [Nat.zero_add, List.nil_append] at hown9
              obtain ⟨C8, c8, rfl, hc8, hr8, hC8⟩ := nls_own (by rw [List.length_append, Hzl.out]; rfl) hown9
              have HR8 := Lib.hid hr8
              have Hc8 := Lib.hid hc8
              have HC8 := Lib.hid (show ∀ b o, C8 = some ⟨b, o, none⟩ → b ≠ D from fun b o e e2 => HOD.out (by rw [← e2]; exact hC8 b o e))
              clear HOD
              have HOD := HC8
              clear HC8
              clear hr8 hC8 hown9 hc8
              go_simp
              try rw [hrun]
              try go_simp
              refine hK.out _ _ (hV5h.out) (fun hV5 => ?_)
              clear hK K2
              clear hrun hV5h
              try simp only [Act.put, List.setIfInBounds_toArray, List.set_cons_zero, List.set_cons_succ]
              refine wpAnyH_take (i := 13) (oi := opLmo4) (v := .agg #[.int .i64 l.N, .slice C8 (l.n + 1) c8, .slice l.LA l.ln l.lc, .slice l.RA l.rn l.rc]) rfl (by kernel_rfl) (by kernel_rfl) (by kernel_rfl) (fun _ _ _ h => h) (Or.inl ⟨by rfl, by intro w2 hSw; (try dsimp only at hSw);  go_simp⟩) hV5 ?_
              try simp only [Act.put, List.setIfInBounds_toArray, List.set_cons_zero, List.set_cons_succ]
              have f0 : V5.cell? ⟨D, 0, none⟩ = some (.int .i64 0) := by rw [cell_row hD]; rfl
              have f1 : V5.cell? ⟨D, 1, none⟩ = some (.slice none 0 0) := by rw [cell_row hD]; rfl
              have f2 : V5.cell? ⟨D, 2, none⟩ = some (.slice none 0 0) := by rw [cell_row hD]; rfl
              have f3 : V5.cell? ⟨D, 3, none⟩ = some (.slice none 0 0) := by rw [cell_row hD]; rfl
              have fz : ∀ i, V5.frozen? ⟨D, i, none⟩ = false := fun i => frozen_row hD
              have HF := Lib.hid (more_list (c8 := c8) (N := l.N) (v2 := .slice l.LA l.ln l.lc) (v3 := .slice l.RA l.rn l.rc) hV5 hD HD0.out HR8.out HOD.out)
              clear hD
              refine wpAnyH_ready (rs := [15]) (by kernel_rfl) (by simp) ?_
              refine AllReadyH.cons (o := opLmo6) rfl (fun K2 hK => ?_) AllReadyH.nil
              go_simp
              refine hK.out _ _ HF.out.2.2 (fun hSf => ?_)
              clear hK K2
              try simp only [Act.put, List.setIfInBounds_toArray, List.set_cons_zero, List.set_cons_succ]
              refine wpAnyH_done (by kernel_rfl) ?_ _
              clear f0 f1 f2 f3 fz hSf
              go_wp2_with fail
              go_meet
              case rel => exact ⟨D, C8, c8, rfl, HF.out.1, Hc8.out, HF.out.2.1, HF.out.2.2⟩
            exact AllReadyH.nil
          exact AllReadyH.nil
        exact AllReadyH.nil
      refine AllReadyH.cons (o := opLmo2) rfl (fun K2 hK => ?_) ?_
      · go_simp
        refine hK.out _ _ (hV1.trans ((below_alloc_ _ _).mono hV1.size)) (fun hV2 => ?_)
        clear hK K2
        have hT := heap_alloc_new_ V1 (.cells #[.int .i64 r.one, .int .i64 r.two, .int .i64 r.tr] 60)
        have hb := below_alloc_ V1 (.cells #[.int .i64 r.one, .int .i64 r.two, .int .i64 r.tr] 60)
        have HNDT := Lib.hid (show D ≠ V1.heap.size from by have := lt_of_block hD; omega)
        replace hD := (hb.block _ (lt_of_block hD)).trans hD
        have HT0 := Lib.hid (show wB.heap.size ≤ V1.heap.size from hV1.size)
        generalize V1.alloc (.cells #[.int .i64 r.one, .int .i64 r.two, .int .i64 r.tr] 60) = V2 at *
        obtain ⟨T, hTe⟩ : ∃ T, V1.heap.size = T := ⟨_, rfl⟩
        rw [hTe] at hT HT0 HNDT ⊢
        clear hTe hb
        try simp only [Act.put, List.setIfInBounds_toArray, List.set_cons_zero, List.set_cons_succ]
        refine wpAnyH_ready (rs := [2]) (by kernel_rfl) (by simp) ?_
        refine AllReadyH.cons (o := opLmo0) rfl (fun K2 hK => ?_) ?_
        · go_simp
          refine hK.out _ _ (hV2.trans ((below_alloc_ _ _).mono hV2.size)) (fun hV3 => ?_)
          clear hK K2
          have hZ := heap_alloc_new_ V2 (.cells #[] 60)
          have hb := below_alloc_ V2 (.cells #[] 60)
          have HNDZ := Lib.hid (show D ≠ V2.heap.size from by have := lt_of_block hD; omega)
          have HNTZ := Lib.hid (show T ≠ V2.heap.size from by have := lt_of_block hT; omega)
          replace hD := (hb.block _ (lt_of_block hD)).trans hD
          replace hT := (hb.block _ (lt_of_block hT)).trans hT
          have HZ0 := Lib.hid (show wB.heap.size ≤ V2.heap.size from hV2.size)
          have HOD := Lib.hid (show Value.ownBlock (.slice (some ⟨V2.heap.size, 0, none⟩) 0 0) ≠ some D from fun e => by have h9 : V2.heap.size = D := Option.some.inj e; exact HNDZ.out h9.symm)
          have HOT := Lib.hid (show Value.ownBlock (.slice (some ⟨V2.heap.size, 0, none⟩) 0 0) ≠ some T from fun e => by have h9 : V2.heap.size = T := Option.some.inj e; exact HNTZ.out h9.symm)
          have HB := Lib.hid (show ∀ j, Value.ownBlock (.slice (some ⟨V2.heap.size, 0, none⟩) 0 0) = some j → wB.heap.size ≤ j from fun j e => by have h9 : V2.heap.size = j := Option.some.inj e; have := HZ0.out; omega)
          generalize V2.alloc (.cells #[] 60) = V3 at *
          obtain ⟨Z, hZe⟩ : ∃ Z, V2.heap.size = Z := ⟨_, rfl⟩
          rw [hZe] at hZ HZ0 HNDZ HNTZ HOD HOT HB ⊢
          clear hZe hb
          have hown := own_empty (size := 3) hZ
          clear hZ
          try simp only [Act.put, List.setIfInBounds_toArray, List.set_cons_zero, List.set_cons_succ]
          refine wpAnyH_ready (rs := [5]) (by kernel_rfl) (by simp) ?_
          refine AllReadyH.cons (o := opLmo1) rfl (fun K2 hK => ?_) ?_
          · obtain ⟨v1, V4, hrun, hown2, hKp, hon⟩ := app_nls (c2 := l.cap) (xs := []) hown (S.out.zs.below hV3 (Nat.le_refl _)) (by omega)
            have hV4h := Lib.hid (show Below wB.heap.size wB V4 from hV3.trans (hKp.below hV3.size (fun j hj e => by have := HB.out j e; omega)))
            have HPD := Lib.hid (show Value.ownBlock v1 ≠ some D from by rcases hon with h9 | h9 <;> rw [h9] <;> first | exact HOD.out | (intro e; have h8 : V3.heap.size = D := Option.some.inj e; have := lt_of_block hD; omega))
            replace hD := (hKp.block _ (lt_of_block hD) HOD.out).trans hD
            clear HOD
            have HOD := HPD
            clear HPD
            have HPT := Lib.hid (show Value.ownBlock v1 ≠ some T from by rcases hon with h9 | h9 <;> rw [h9] <;> first | exact HOT.out | (intro e; have h8 : V3.heap.size = T := Option.some.inj e; have := lt_of_block hT; omega))
            replace hT := (hKp.block _ (lt_of_block hT) HOT.out).trans hT
            clear HOT
            have HOT := HPT
            clear HPT
            have HB2 := Lib.hid (show ∀ j, Value.ownBlock v1 = some j → wB.heap.size ≤ j from fun j e => by rcases hon with h9 | h9 <;> rw [h9] at e <;> first | exact HB.out j e | (have h8 : V3.heap.size = j := Option.some.inj e; have := hV3.size; omega))
            clear HB hown hon hKp
            have HB := HB2
            have Hown := Lib.hid hown2
            clear HB2 hown2
            go_simp
            try rw [hrun]
            try go_simp
            have hown := Hown.out
            clear Hown
            refine hK.out _ _ (hV4h.out) (fun hV4 => ?_)
            clear hK K2
            clear hrun hV4h
            try simp only [Act.put, List.setIfInBounds_toArray, List.set_cons_zero, List.set_cons_succ]
            refine wpAnyH_ready (rs := [8]) (by kernel_rfl) (by simp) ?_
            refine AllReadyH.cons (o := opLmo3) rfl (fun K2 hK => ?_) ?_
            · obtain ⟨v2, V5, hrun, hown2, hKp, hon⟩ := app_1n (r := r) hown hT (by omega)
              have hV5h := Lib.hid (show Below wB.heap.size wB V5 from hV4.trans (hKp.below hV4.size (fun j hj e => by have := HB.out j e; omega)))
              have HPD := Lib.hid (show Value.ownBlock v2 ≠ some D from by rcases hon with h9 | h9 <;> rw [h9] <;> first | exact HOD.out | (intro e; have h8 : V4.heap.size = D := Option.some.inj e; have := lt_of_block hD; omega))
              replace hD := (hKp.block _ (lt_of_block hD) HOD.out).trans hD
              clear HOD
              have HOD := HPD
              clear HPD
              have HPT := Lib.hid (show Value.ownBlock v2 ≠ some T from by rcases hon with h9 | h9 <;> rw [h9] <;> first | exact HOT.out | (intro e; have h8 : V4.heap.size = T := Option.some.inj e; have := lt_of_block hT; omega))
              replace hT := (hKp.block _ (lt_of_block hT) HOT.out).trans hT
              clear HOT
              have HOT := HPT
              clear HPT
              have HB2 := Lib.hid (show ∀ j, Value.ownBlock v2 = some j → wB.heap.size ≤ j from fun j e => by rcases hon with h9 | h9 <;> rw [h9] at e <;> first | exact HB.out j e | (have h8 : V4.heap.size = j := Option.some.inj e; have := hV4.size; omega))
              clear HB hown hon hKp
              have HB := HB2
              have Hown := Lib.hid hown2
              clear HB2 hown2
              have hown9 := Hown.out
              clear Hown
              rw [Nat.zero_add, List.nil_append] at hown9
              obtain ⟨C8, c8, rfl, hc8, hr8, hC8⟩ := nls_own (by rw [List.length_append, Hzl.out]; rfl) hown9
              have HR8 := Lib.hid hr8
              have Hc8 := Lib.hid hc8
              have HC8 := Lib.hid (show ∀ b o, C8 = some ⟨b, o, none⟩ → b ≠ D from fun b o e e2 => HOD.out (by rw [← e2]; exact hC8 b o e))
              clear HOD
              have HOD := HC8
              clear HC8
              clear hr8 hC8 hown9 hc8
              go_simp
              try rw [hrun]
              try go_simp
              refine hK.out _ _ (hV5h.out) (fun hV5 => ?_)
              clear hK K2
              clear hrun hV5h
              try simp only [Act.put, List.setIfInBounds_toArray, List.set_cons_zero, List.set_cons_succ]
              refine wpAnyH_take (i := 13) (oi := opLmo4) (v := .agg #[.int .i64 l.N, .slice C8 (l.n + 1) c8, .slice l.LA l.ln l.lc, .slice l.RA l.rn l.rc]) rfl (by kernel_rfl) (by kernel_rfl) (by kernel_rfl) (fun _ _ _ h => h) (Or.inl ⟨by rfl, by intro w2 hSw; (try dsimp only at hSw);  go_simp⟩) hV5 ?_
              try simp only [Act.put, List.setIfInBounds_toArray, List.set_cons_zero, List.set_cons_succ]
              have f0 : V5.cell? ⟨D, 0, none⟩ = some (.int .i64 0) := by rw [cell_row hD]; rfl
              have f1 : V5.cell? ⟨D, 1, none⟩ = some (.slice none 0 0) := by rw [cell_row hD]; rfl
              have f2 : V5.cell? ⟨D, 2, none⟩ = some (.slice none 0 0) := by rw [cell_row hD]; rfl
              have f3 : V5.cell? ⟨D, 3, none⟩ = some (.slice none 0 0) := by rw [cell_row hD]; rfl
              have fz : ∀ i, V5.frozen? ⟨D, i, none⟩ = false := fun i => frozen_row hD
              have HF := Lib.hid (more_list (c8 := c8) (N := l.N) (v2 := .slice l.LA l.ln l.lc) (v3 := .slice l.RA l.rn l.rc) hV5 hD HD0.out HR8.out HOD.out)
              clear hD
              refine wpAnyH_ready (rs := [15]) (by kernel_rfl) (by simp) ?_
              refine AllReadyH.cons (o := opLmo6) rfl (fun K2 hK => ?_) AllReadyH.nil
              go_simp
              refine hK.out _ _ HF.out.2.2 (fun hSf => ?_)
              clear hK K2
              try simp only [Act.put, List.setIfInBounds_toArray, List.set_cons_zero, List.set_cons_succ]
              refine wpAnyH_done (by kernel_rfl) ?_ _
              clear f0 f1 f2 f3 fz hSf
              go_wp2_with fail
              go_meet
              case rel => exact ⟨D, C8, c8, rfl, HF.out.1, Hc8.out, HF.out.2.1, HF.out.2.2⟩
            exact AllReadyH.nil
          exact AllReadyH.nil
        exact AllReadyH.nil
      exact AllReadyH.nil
    exact AllReadyH.nil
  case rest =>
    obtain ⟨D, C8, c8, rfl, hd8, hc8, hr8, hb⟩ := hcut
    obtain ⟨wd, rfl⟩ : ∃ v, v = wc := ⟨_, rfl⟩
    clear zX0 zX1 zX2 zX3 zM0 zM1 zM2 zY0 zY1 ltX ltM ltY
    replace LO := Lib.hid (LO.out.below hb (Nat.le_refl _))
    replace S := Lib.hid (S.out.below hb (Nat.le_refl _))
    replace X := Lib.hid ((hb.block _ (lt_of_block X.out)).trans X.out)
    replace M := Lib.hid ((hb.block _ (lt_of_block M.out)).trans M.out)
    replace Y := Lib.hid ((hb.block _ (lt_of_block Y.out)).trans Y.out)
    replace B := Lib.hid (B.out.trans (hb.mono B.out.size))
    obtain ⟨lM, hlM⟩ : ∃ v, lkX l C8 c8 (l.zs ++ [r]) = v := ⟨_, rfl⟩
    have hlen : ((l.zs ++ [r]) : List Nl).length = (l.n + 1) := by rw [List.length_append, Hzl.out]; rfl
    obtain ⟨y1, y2, y3, y4, y5, y6, y7, y8, y9, y10, y11, y12, y13⟩ : lM.N = l.N ∧ lM.A = C8 ∧ lM.n = (l.n + 1) ∧ lM.cap = c8 ∧ lM.LA = l.LA ∧ lM.ln = l.ln ∧ lM.lc = l.lc ∧ lM.RA = l.RA ∧ lM.rn = l.rn ∧ lM.rc = l.rc ∧ lM.ls = l.ls ∧ lM.rs = l.rs ∧ lM.zs = (l.zs ++ [r]) := by
      rw [← hlM]
      exact ⟨rfl, rfl, hlen, rfl, rfl, rfl, rfl, rfl, rfl, rfl, rfl, rfl, rfl⟩
    have HlM := Lib.hid hlM
    have SlM := Lib.hid (show NLs wd lM from by
      rw [← hlM]
      exact lkX_nls S.out (by rw [hlen]; exact hr8) (by rw [hlen]; exact hc8) (by rw [hlen]; have := HN12.out; omega))
    have BlM := Lib.hid (show wd.heap[D]? = some (.cells #[.int .i64 lM.N, .slice lM.A lM.n lM.cap, .slice lM.LA lM.ln lM.lc, .slice lM.RA lM.rn lM.rc] 25 (0, 0)) by rw [y1, y2, y3, y4, y5, y6, y7, y8, y9, y10]; exact hd8)
    have VlM := Lib.hid y13
    clear hlM hlen y1 y2 y3 y4 y5 y6 y7 y8 y9 y10 y11 y12 y13 hd8 hr8 hc8 hb hn12
    have ltX : R < wd.heap.size := lt_of_block X.out
    have zX0 : wd.cell? ⟨R, 0, none⟩ = some (.int .i64 l.N) := by rw [cell_row X.out]; rfl
    have zX1 : wd.cell? ⟨R, 1, none⟩ = some (.slice l.A l.n l.cap) := by rw [cell_row X.out]; rfl
    have zX2 : wd.cell? ⟨R, 2, none⟩ = some (.slice l.LA l.ln l.lc) := by rw [cell_row X.out]; rfl
    have zX3 : wd.cell? ⟨R, 3, none⟩ = some (.slice l.RA l.rn l.rc) := by rw [cell_row X.out]; rfl
    have ltM : R + 1 < wd.heap.size := lt_of_block M.out
    have zM0 : wd.cell? ⟨R + 1, 0, none⟩ = some (.int .i64 r.one) := by rw [cell_row M.out]; rfl
    have zM1 : wd.cell? ⟨R + 1, 1, none⟩ = some (.int .i64 r.two) := by rw [cell_row M.out]; rfl
    have zM2 : wd.cell? ⟨R + 1, 2, none⟩ = some (.int .i64 r.tr) := by rw [cell_row M.out]; rfl
    have ltY : R + 2 < wd.heap.size := lt_of_block Y.out
    have zY0 : wd.cell? ⟨R + 2, 0, none⟩ = some (.int .u64 (xa : Int)) := by rw [cell_row Y.out]; rfl
    have zY1 : wd.cell? ⟨R + 2, 1, none⟩ = some (.int .u64 (xb : Int)) := by rw [cell_row Y.out]; rfl
    have ltBlM : D < wd.heap.size := lt_of_block BlM.out
    have zBlM0 : wd.cell? ⟨D, 0, none⟩ = some (.int .i64 lM.N) := by rw [cell_row BlM.out]; rfl
    have zBlM1 : wd.cell? ⟨D, 1, none⟩ = some (.slice lM.A lM.n lM.cap) := by rw [cell_row BlM.out]; rfl
    have zBlM2 : wd.cell? ⟨D, 2, none⟩ = some (.slice lM.LA lM.ln lM.lc) := by rw [cell_row BlM.out]; rfl
    have zBlM3 : wd.cell? ⟨D, 3, none⟩ = some (.slice lM.RA lM.rn lM.rc) := by rw [cell_row BlM.out]; rfl
    go_wp2_with fail
    clear zX0 zX1 zX2 zX3 zM0 zM1 zM2 zY0 zY1 zBlM0 zBlM1 zBlM2 zBlM3 ltX ltM ltY ltBlM
    refine (fine34 lM wd SlM.out).mono ?_
    rintro en wd1 ⟨rfl, hb⟩
    replace LO := Lib.hid (LO.out.below hb (Nat.le_refl _))
    replace S := Lib.hid (S.out.below hb (Nat.le_refl _))
    replace SlM := Lib.hid (SlM.out.below hb (Nat.le_refl _))
    replace X := Lib.hid ((hb.block _ (lt_of_block X.out)).trans X.out)
    replace M := Lib.hid ((hb.block _ (lt_of_block M.out)).trans M.out)
    replace Y := Lib.hid ((hb.block _ (lt_of_block Y.out)).trans Y.out)
    replace BlM := Lib.hid ((hb.block _ (lt_of_block BlM.out)).trans BlM.out)
    replace B := Lib.hid (B.out.trans (hb.mono B.out.size))
    obtain ⟨fb, hfb⟩ : ∃ v, fineL lM = v := ⟨_, rfl⟩
    rw [hfb]
    have HFB := Lib.hid hfb
    clear hfb
    try clear hb
    have ltX : R < wd1.heap.size := lt_of_block X.out
    have zX0 : wd1.cell? ⟨R, 0, none⟩ = some (.int .i64 l.N) := by rw [cell_row X.out]; rfl
    have zX1 : wd1.cell? ⟨R, 1, none⟩ = some (.slice l.A l.n l.cap) := by rw [cell_row X.out]; rfl
    have zX2 : wd1.cell? ⟨R, 2, none⟩ = some (.slice l.LA l.ln l.lc) := by rw [cell_row X.out]; rfl
    have zX3 : wd1.cell? ⟨R, 3, none⟩ = some (.slice l.RA l.rn l.rc) := by rw [cell_row X.out]; rfl
    have ltM : R + 1 < wd1.heap.size := lt_of_block M.out
    have zM0 : wd1.cell? ⟨R + 1, 0, none⟩ = some (.int .i64 r.one) := by rw [cell_row M.out]; rfl
    have zM1 : wd1.cell? ⟨R + 1, 1, none⟩ = some (.int .i64 r.two) := by rw [cell_row M.out]; rfl
    have zM2 : wd1.cell? ⟨R + 1, 2, none⟩ = some (.int .i64 r.tr) := by rw [cell_row M.out]; rfl
    have ltY : R + 2 < wd1.heap.size := lt_of_block Y.out
    have zY0 : wd1.cell? ⟨R + 2, 0, none⟩ = some (.int .u64 (xa : Int)) := by rw [cell_row Y.out]; rfl
    have zY1 : wd1.cell? ⟨R + 2, 1, none⟩ = some (.int .u64 (xb : Int)) := by rw [cell_row Y.out]; rfl
    have ltBlM : D < wd1.heap.size := lt_of_block BlM.out
    have zBlM0 : wd1.cell? ⟨D, 0, none⟩ = some (.int .i64 lM.N) := by rw [cell_row BlM.out]; rfl
    have zBlM1 : wd1.cell? ⟨D, 1, none⟩ = some (.slice lM.A lM.n lM.cap) := by rw [cell_row BlM.out]; rfl
    have zBlM2 : wd1.cell? ⟨D, 2, none⟩ = some (.slice lM.LA lM.ln lM.lc) := by rw [cell_row BlM.out]; rfl
    have zBlM3 : wd1.cell? ⟨D, 3, none⟩ = some (.slice lM.RA lM.rn lM.rc) := by rw [cell_row BlM.out]; rfl
    go_upto_if 61 with fail
    clear zX0 zX1 zX2 zX3 zM0 zM1 zM2 zY0 zY1 zBlM0 zBlM1 zBlM2 zBlM3 ltX ltM ltY ltBlM
    go_cut [15, 16, 17] from 62 to 82 (fun a1 a2 a3 wx => Below wd1.heap.size wd1 wx)
    case first =>
      rcases fb with _ | _
      · go_wp2_with fail
        go_meet
        case rel => exact Below.refl _ _
      have HCc := Lib.hid (fine_yes HFB.out).2
      have BC := Lib.hid (Below.refl wd1.heap.size wd1)
      have ltX : R < wd1.heap.size := lt_of_block X.out
      have zX0 : wd1.cell? ⟨R, 0, none⟩ = some (.int .i64 l.N) := by rw [cell_row X.out]; rfl
      have zX1 : wd1.cell? ⟨R, 1, none⟩ = some (.slice l.A l.n l.cap) := by rw [cell_row X.out]; rfl
      have zX2 : wd1.cell? ⟨R, 2, none⟩ = some (.slice l.LA l.ln l.lc) := by rw [cell_row X.out]; rfl
      have zX3 : wd1.cell? ⟨R, 3, none⟩ = some (.slice l.RA l.rn l.rc) := by rw [cell_row X.out]; rfl
      have ltM : R + 1 < wd1.heap.size := lt_of_block M.out
      have zM0 : wd1.cell? ⟨R + 1, 0, none⟩ = some (.int .i64 r.one) := by rw [cell_row M.out]; rfl
      have zM1 : wd1.cell? ⟨R + 1, 1, none⟩ = some (.int .i64 r.two) := by rw [cell_row M.out]; rfl
      have zM2 : wd1.cell? ⟨R + 1, 2, none⟩ = some (.int .i64 r.tr) := by rw [cell_row M.out]; rfl
      have ltY : R + 2 < wd1.heap.size := lt_of_block Y.out
      have zY0 : wd1.cell? ⟨R + 2, 0, none⟩ = some (.int .u64 (xa : Int)) := by rw [cell_row Y.out]; rfl
      have zY1 : wd1.cell? ⟨R + 2, 1, none⟩ = some (.int .u64 (xb : Int)) := by rw [cell_row Y.out]; rfl
      have ltBlM : D < wd1.heap.size := lt_of_block BlM.out
      have zBlM0 : wd1.cell? ⟨D, 0, none⟩ = some (.int .i64 lM.N) := by rw [cell_row BlM.out]; rfl
      have zBlM1 : wd1.cell? ⟨D, 1, none⟩ = some (.slice lM.A lM.n lM.cap) := by rw [cell_row BlM.out]; rfl
      have zBlM2 : wd1.cell? ⟨D, 2, none⟩ = some (.slice lM.LA lM.ln lM.lc) := by rw [cell_row BlM.out]; rfl
      have zBlM3 : wd1.cell? ⟨D, 3, none⟩ = some (.slice lM.RA lM.rn lM.rc) := by rw [cell_row BlM.out]; rfl
      go_wp2_with fail
      clear zX0 zX1 zX2 zX3 zM0 zM1 zM2 zY0 zY1 zBlM0 zBlM1 zBlM2 zBlM3 ltX ltM ltY ltBlM
      refine (leastA lM wd1 SlM.out HCc.out).mono ?_
      rintro en wd2 ⟨QM, RM, rfl, -, hCh, -, hb⟩
      replace LO := Lib.hid (LO.out.below hb (Nat.le_refl _))
      replace S := Lib.hid (S.out.below hb (Nat.le_refl _))
      replace SlM := Lib.hid (SlM.out.below hb (Nat.le_refl _))
      replace X := Lib.hid ((hb.block _ (lt_of_block X.out)).trans X.out)
      replace M := Lib.hid ((hb.block _ (lt_of_block M.out)).trans M.out)
      replace Y := Lib.hid ((hb.block _ (lt_of_block Y.out)).trans Y.out)
      replace BlM := Lib.hid ((hb.block _ (lt_of_block BlM.out)).trans BlM.out)
      replace B := Lib.hid (B.out.trans (hb.mono B.out.size))
      replace BC := Lib.hid (BC.out.trans (hb.mono BC.out.size))
      have htr := more_tr (l := l) (A := C8) (cap := c8) (r := r) (by rw [HlM.out]; exact HCc.out)
      have hco := more_cost (l := l) (r := r) (A := C8) (cap := c8) htr.1 HCR.out (by rw [HlM.out]; exact hCh)
      rw [← VlM.out, HQV.out] at hco
      have hq0 := cost_le_all (okl_list S.out HCH.out) R1
      have hq1 : 0 ≤ q := by rw [← HQV.out]; exact cost_nn S.out HCH.out R1
      rw [HQV.out] at hq0
      have hzl := S.out.zs.1
      have hn12 := HN12.out
      obtain ⟨mq, hmq⟩ : ∃ v, costS lM.zs RM = v := ⟨_, rfl⟩
      rw [hmq] at hco ⊢
      obtain ⟨nM, hnM⟩ : ∃ v, (nmK RM lM.N.toNat).length = v := ⟨_, rfl⟩
      rw [hnM]
      have hwn : IntKind.i64.wrap (q + r.tr) = q + r.tr := IntWalk.i64_in _ (by omega)
      have p1 : ¬ mq < q := by omega
      have p2 : ¬ q + r.tr < mq := by omega
      have d1 : decide (mq < q) = false := decide_eq_false p1
      have d2 : decide (q + r.tr < mq) = false := decide_eq_false p2
      clear htr hco hq0 hq1 hzl hn12 hmq hnM hCh
      try clear hb
      have ltX : R < wd2.heap.size := lt_of_block X.out
      have zX0 : wd2.cell? ⟨R, 0, none⟩ = some (.int .i64 l.N) := by rw [cell_row X.out]; rfl
      have zX1 : wd2.cell? ⟨R, 1, none⟩ = some (.slice l.A l.n l.cap) := by rw [cell_row X.out]; rfl
      have zX2 : wd2.cell? ⟨R, 2, none⟩ = some (.slice l.LA l.ln l.lc) := by rw [cell_row X.out]; rfl
      have zX3 : wd2.cell? ⟨R, 3, none⟩ = some (.slice l.RA l.rn l.rc) := by rw [cell_row X.out]; rfl
      have ltM : R + 1 < wd2.heap.size := lt_of_block M.out
      have zM0 : wd2.cell? ⟨R + 1, 0, none⟩ = some (.int .i64 r.one) := by rw [cell_row M.out]; rfl
      have zM1 : wd2.cell? ⟨R + 1, 1, none⟩ = some (.int .i64 r.two) := by rw [cell_row M.out]; rfl
      have zM2 : wd2.cell? ⟨R + 1, 2, none⟩ = some (.int .i64 r.tr) := by rw [cell_row M.out]; rfl
      have ltY : R + 2 < wd2.heap.size := lt_of_block Y.out
      have zY0 : wd2.cell? ⟨R + 2, 0, none⟩ = some (.int .u64 (xa : Int)) := by rw [cell_row Y.out]; rfl
      have zY1 : wd2.cell? ⟨R + 2, 1, none⟩ = some (.int .u64 (xb : Int)) := by rw [cell_row Y.out]; rfl
      have ltBlM : D < wd2.heap.size := lt_of_block BlM.out
      have zBlM0 : wd2.cell? ⟨D, 0, none⟩ = some (.int .i64 lM.N) := by rw [cell_row BlM.out]; rfl
      have zBlM1 : wd2.cell? ⟨D, 1, none⟩ = some (.slice lM.A lM.n lM.cap) := by rw [cell_row BlM.out]; rfl
      have zBlM2 : wd2.cell? ⟨D, 2, none⟩ = some (.slice lM.LA lM.ln lM.lc) := by rw [cell_row BlM.out]; rfl
      have zBlM3 : wd2.cell? ⟨D, 3, none⟩ = some (.slice lM.RA lM.rn lM.rc) := by rw [cell_row BlM.out]; rfl
      go_wp2_with fail
      go_meet
      case rel => exact BC.out
    case rest =>
      have hb := hcut
      obtain ⟨we, rfl⟩ : ∃ v, v = wc := ⟨_, rfl⟩
      obtain ⟨weinnerM, rfl⟩ : ∃ v, v = we := ⟨_, rfl⟩
      replace LO := Lib.hid (LO.out.below hb (Nat.le_refl _))
      replace S := Lib.hid (S.out.below hb (Nat.le_refl _))
      replace SlM := Lib.hid (SlM.out.below hb (Nat.le_refl _))
      replace X := Lib.hid ((hb.block _ (lt_of_block X.out)).trans X.out)
      replace M := Lib.hid ((hb.block _ (lt_of_block M.out)).trans M.out)
      replace Y := Lib.hid ((hb.block _ (lt_of_block Y.out)).trans Y.out)
      replace BlM := Lib.hid ((hb.block _ (lt_of_block BlM.out)).trans BlM.out)
      replace B := Lib.hid (B.out.trans (hb.mono B.out.size))
      clear hb hcut HFB
      clear SlM BlM VlM HlM
      have ltX : R < weinnerM.heap.size := lt_of_block X.out
      have zX0 : weinnerM.cell? ⟨R, 0, none⟩ = some (.int .i64 l.N) := by rw [cell_row X.out]; rfl
      have zX1 : weinnerM.cell? ⟨R, 1, none⟩ = some (.slice l.A l.n l.cap) := by rw [cell_row X.out]; rfl
      have zX2 : weinnerM.cell? ⟨R, 2, none⟩ = some (.slice l.LA l.ln l.lc) := by rw [cell_row X.out]; rfl
      have zX3 : weinnerM.cell? ⟨R, 3, none⟩ = some (.slice l.RA l.rn l.rc) := by rw [cell_row X.out]; rfl
      have ltM : R + 1 < weinnerM.heap.size := lt_of_block M.out
      have zM0 : weinnerM.cell? ⟨R + 1, 0, none⟩ = some (.int .i64 r.one) := by rw [cell_row M.out]; rfl
      have zM1 : weinnerM.cell? ⟨R + 1, 1, none⟩ = some (.int .i64 r.two) := by rw [cell_row M.out]; rfl
      have zM2 : weinnerM.cell? ⟨R + 1, 2, none⟩ = some (.int .i64 r.tr) := by rw [cell_row M.out]; rfl
      have ltY : R + 2 < weinnerM.heap.size := lt_of_block Y.out
      have zY0 : weinnerM.cell? ⟨R + 2, 0, none⟩ = some (.int .u64 (xa : Int)) := by rw [cell_row Y.out]; rfl
      have zY1 : weinnerM.cell? ⟨R + 2, 1, none⟩ = some (.int .u64 (xb : Int)) := by rw [cell_row Y.out]; rfl
      by_cases h0 : l.n = 0
      · have d0 : ((l.n : Int) == 0) = true := by rw [beq_iff_eq]; omega
        go_wp2_with fail
        clear zX0 zX1 zX2 zX3 zM0 zM1 zM2 zY0 zY1 ltX ltM ltY
        clear d0
        refine (works14 weinnerM).mono ?_
        rintro en weinnerM1 ⟨rfl, hb⟩
        replace B := Lib.hid (B.out.trans (hb.mono B.out.size))
        clear hb
        go_wp2_with fail
        go_ret
        exact ⟨rfl, B.out⟩
      have d0 : ((l.n : Int) == 0) = false := by rw [beq_eq_false_iff_ne]; omega
      have Hn0 := Lib.hid (show 0 < l.n by omega)
      obtain ⟨kk, hkk⟩ : ∃ v, x % l.n = v := ⟨_, rfl⟩
      have Hkk := Lib.hid (show kk < l.n by rw [← hkk]; exact Nat.mod_lt _ (by omega))
      have e1 : (x : Int).tmod (l.n : Int) = (kk : Int) := by rw [Int.tmod_eq_emod_of_nonneg (by omega), ← hkk]; omega
      have e2 : (x : Int) % (l.n : Int) = (kk : Int) := by rw [← hkk]; omega
      have d1 : ¬ (l.n : Int) = 0 := by omega
      have hx := Hx.out
      have hcv : IntKind.i64.wrap (x : Int) = (x : Int) := IntWalk.i64_in _ (by omega)
      clear hkk h0
      go_upto_region 14 with fail
      clear d0 d1 e1 e2 hx hcv
      clear zX0 zX1 zX2 zX3 zM0 zM1 zM2 zY0 zY1 ltX ltM ltY
      obtain ⟨wB, rfl⟩ : ∃ v, v = weinnerM := ⟨_, rfl⟩
      have hn12 := HN12.out
      have hn0 := Hn0.out
      have ltX : R < wB.heap.size := lt_of_block X.out
      have zX0 : wB.cell? ⟨R, 0, none⟩ = some (.int .i64 l.N) := by rw [cell_row X.out]; rfl
      have zX1 : wB.cell? ⟨R, 1, none⟩ = some (.slice l.A l.n l.cap) := by rw [cell_row X.out]; rfl
      have zX2 : wB.cell? ⟨R, 2, none⟩ = some (.slice l.LA l.ln l.lc) := by rw [cell_row X.out]; rfl
      have zX3 : wB.cell? ⟨R, 3, none⟩ = some (.slice l.RA l.rn l.rc) := by rw [cell_row X.out]; rfl
      have ltM : R + 1 < wB.heap.size := lt_of_block M.out
      have zM0 : wB.cell? ⟨R + 1, 0, none⟩ = some (.int .i64 r.one) := by rw [cell_row M.out]; rfl
      have zM1 : wB.cell? ⟨R + 1, 1, none⟩ = some (.int .i64 r.two) := by rw [cell_row M.out]; rfl
      have zM2 : wB.cell? ⟨R + 1, 2, none⟩ = some (.int .i64 r.tr) := by rw [cell_row M.out]; rfl
      have ltY : R + 2 < wB.heap.size := lt_of_block Y.out
      have zY0 : wB.cell? ⟨R + 2, 0, none⟩ = some (.int .u64 (xa : Int)) := by rw [cell_row Y.out]; rfl
      have zY1 : wB.cell? ⟨R + 2, 1, none⟩ = some (.int .u64 (xb : Int)) := by rw [cell_row Y.out]; rfl
      go_cut [19] from 94 to 104 (fun v19 wx => ∃ D g c9, v19 = .pointer (some ⟨D, 0, none⟩) ∧ wx.heap[D]? = some (.cells #[.int .i64 l.N, .slice (some ⟨g, 0, none⟩) l.n c9, .slice l.LA l.ln l.lc, .slice l.RA l.rn l.rc] 25 (0, 0)) ∧ l.n ≤ c9 ∧ RwN wx g l.zs ∧ g ≠ D ∧ Below wB.heap.size wB wx ∧ wB.heap.size ≤ D ∧ wB.heap.size ≤ g)
      case first =>
        refine wp_region_held_drew (S := fun w2 => Below wB.heap.size wB w2) (by kernel_rfl) (drew_b _ _) (fun hS0 => ?_)
        refine wpAnyH_take (i := 0) (oi := { dst := some 94, op := Go.Op.fieldAddr 25 (Go.Operand.tmp 5) 0, type := 0, pos := "outright.go:187", after := #[], guard := none }) (v := .pointer (some ⟨R, 0, none⟩)) rfl (by kernel_rfl) (by kernel_rfl) (by kernel_rfl) (fun _ _ _ h => h) (Or.inl ⟨by rfl, by intro w2 hSw; (try dsimp only at hSw);  go_simp⟩) hS0 ?_
        try simp only [Act.put, List.setIfInBounds_toArray, List.set_cons_zero, List.set_cons_succ]
        refine wpAnyH_take (i := 1) (oi := { dst := some 95, op := Go.Op.load 3 (Go.Operand.tmp 94), type := 3, pos := "outright.go:187", after := #[{ on := 0, ground := Go.Ground.data }], guard := none }) (v := .int .i64 l.N) rfl (by kernel_rfl) (by kernel_rfl) (by kernel_rfl) (fun _ _ _ h => h) (Or.inl ⟨by rfl, by intro w2 hSw; (try dsimp only at hSw); have q0 := (hSw.cell (lt_of_cell zX0)).trans zX0; have q1 := (hSw.cell (lt_of_cell zX1)).trans zX1; have q2 := (hSw.cell (lt_of_cell zX2)).trans zX2; have q3 := (hSw.cell (lt_of_cell zX3)).trans zX3; have p0 := (hSw.cell (lt_of_cell zM0)).trans zM0; have p1 := (hSw.cell (lt_of_cell zM1)).trans zM1; have p2 := (hSw.cell (lt_of_cell zM2)).trans zM2; go_simp⟩) hS0 ?_
        try simp only [Act.put, List.setIfInBounds_toArray, List.set_cons_zero, List.set_cons_succ]
        refine wpAnyH_take (i := 3) (oi := { dst := some 97, op := Go.Op.fieldAddr 25 (Go.Operand.tmp 5) 1, type := 0, pos := "outright.go:187", after := #[], guard := none }) (v := .pointer (some ⟨R, 1, none⟩)) rfl (by kernel_rfl) (by kernel_rfl) (by kernel_rfl) (fun _ _ _ h => h) (Or.inl ⟨by rfl, by intro w2 hSw; (try dsimp only at hSw);  go_simp⟩) hS0 ?_
        try simp only [Act.put, List.setIfInBounds_toArray, List.set_cons_zero, List.set_cons_succ]
        refine wpAnyH_take (i := 4) (oi := { dst := some 98, op := Go.Op.load 22 (Go.Operand.tmp 97), type := 22, pos := "outright.go:187", after := #[{ on := 3, ground := Go.Ground.data }], guard := none }) (v := .slice l.A l.n l.cap) rfl (by kernel_rfl) (by kernel_rfl) (by kernel_rfl) (fun _ _ _ h => h) (Or.inl ⟨by rfl, by intro w2 hSw; (try dsimp only at hSw); have q0 := (hSw.cell (lt_of_cell zX0)).trans zX0; have q1 := (hSw.cell (lt_of_cell zX1)).trans zX1; have q2 := (hSw.cell (lt_of_cell zX2)).trans zX2; have q3 := (hSw.cell (lt_of_cell zX3)).trans zX3; have p0 := (hSw.cell (lt_of_cell zM0)).trans zM0; have p1 := (hSw.cell (lt_of_cell zM1)).trans zM1; have p2 := (hSw.cell (lt_of_cell zM2)).trans zM2; go_simp⟩) hS0 ?_
        try simp only [Act.put, List.setIfInBounds_toArray, List.set_cons_zero, List.set_cons_succ]
        refine wpAnyH_take (i := 6) (oi := { dst := some 100, op := Go.Op.fieldAddr 25 (Go.Operand.tmp 5) 2, type := 0, pos := "outright.go:187", after := #[], guard := none }) (v := .pointer (some ⟨R, 2, none⟩)) rfl (by kernel_rfl) (by kernel_rfl) (by kernel_rfl) (fun _ _ _ h => h) (Or.inl ⟨by rfl, by intro w2 hSw; (try dsimp only at hSw);  go_simp⟩) hS0 ?_
        try simp only [Act.put, List.setIfInBounds_toArray, List.set_cons_zero, List.set_cons_succ]
        refine wpAnyH_take (i := 7) (oi := { dst := some 101, op := Go.Op.load 23 (Go.Operand.tmp 100), type := 23, pos := "outright.go:187", after := #[{ on := 6, ground := Go.Ground.data }], guard := none }) (v := .slice l.LA l.ln l.lc) rfl (by kernel_rfl) (by kernel_rfl) (by kernel_rfl) (fun _ _ _ h => h) (Or.inl ⟨by rfl, by intro w2 hSw; (try dsimp only at hSw); have q0 := (hSw.cell (lt_of_cell zX0)).trans zX0; have q1 := (hSw.cell (lt_of_cell zX1)).trans zX1; have q2 := (hSw.cell (lt_of_cell zX2)).trans zX2; have q3 := (hSw.cell (lt_of_cell zX3)).trans zX3; have p0 := (hSw.cell (lt_of_cell zM0)).trans zM0; have p1 := (hSw.cell (lt_of_cell zM1)).trans zM1; have p2 := (hSw.cell (lt_of_cell zM2)).trans zM2; go_simp⟩) hS0 ?_
        try simp only [Act.put, List.setIfInBounds_toArray, List.set_cons_zero, List.set_cons_succ]
        refine wpAnyH_take (i := 8) (oi := { dst := some 102, op := Go.Op.fieldAddr 25 (Go.Operand.tmp 5) 3, type := 0, pos := "outright.go:187", after := #[], guard := none }) (v := .pointer (some ⟨R, 3, none⟩)) rfl (by kernel_rfl) (by kernel_rfl) (by kernel_rfl) (fun _ _ _ h => h) (Or.inl ⟨by rfl, by intro w2 hSw; (try dsimp only at hSw);  go_simp⟩) hS0 ?_
        try simp only [Act.put, List.setIfInBounds_toArray, List.set_cons_zero, List.set_cons_succ]
        refine wpAnyH_take (i := 9) (oi := { dst := some 103, op := Go.Op.load 23 (Go.Operand.tmp 102), type := 23, pos := "outright.go:187", after := #[{ on := 8, ground := Go.Ground.data }], guard := none }) (v := .slice l.RA l.rn l.rc) rfl (by kernel_rfl) (by kernel_rfl) (by kernel_rfl) (fun _ _ _ h => h) (Or.inl ⟨by rfl, by intro w2 hSw; (try dsimp only at hSw); have q0 := (hSw.cell (lt_of_cell zX0)).trans zX0; have q1 := (hSw.cell (lt_of_cell zX1)).trans zX1; have q2 := (hSw.cell (lt_of_cell zX2)).trans zX2; have q3 := (hSw.cell (lt_of_cell zX3)).trans zX3; have p0 := (hSw.cell (lt_of_cell zM0)).trans zM0; have p1 := (hSw.cell (lt_of_cell zM1)).trans zM1; have p2 := (hSw.cell (lt_of_cell zM2)).trans zM2; go_simp⟩) hS0 ?_
        try simp only [Act.put, List.setIfInBounds_toArray, List.set_cons_zero, List.set_cons_succ]
        generalize wB.drew = V0 at hS0 ⊢
        have hV0 := hS0
        clear hS0
        refine wpAnyH_ready (rs := [2, 11]) (by kernel_rfl) (by simp) ?_
        refine AllReadyH.cons (o := opLmo7) rfl (fun K2 hK => ?_) ?_
        · go_simp
          refine hK.out _ _ (hV0.trans ((below_alloc_ _ _).mono hV0.size)) (fun hV1 => ?_)
          clear hK K2
          have hZ := heap_alloc_new_ V0 (.cells #[] 60)
          have hb := below_alloc_ V0 (.cells #[] 60)
          have HZ0 := Lib.hid (show wB.heap.size ≤ V0.heap.size from hV0.size)
          have HB := Lib.hid (show ∀ j, Value.ownBlock (.slice (some ⟨V0.heap.size, 0, none⟩) 0 0) = some j → wB.heap.size ≤ j from fun j e => by have h9 : V0.heap.size = j := Option.some.inj e; have := HZ0.out; omega)
          generalize V0.alloc (.cells #[] 60) = V1 at *
          obtain ⟨Z, hZe⟩ : ∃ Z, V0.heap.size = Z := ⟨_, rfl⟩
          rw [hZe] at hZ HZ0 HB ⊢
          clear hZe hb
          have hown := own_empty (size := 3) hZ
          clear hZ
          try simp only [Act.put, List.setIfInBounds_toArray, List.set_cons_zero, List.set_cons_succ]
          refine wpAnyH_ready (rs := [5, 11]) (by kernel_rfl) (by simp) ?_
          refine AllReadyH.cons (o := opLmo8) rfl (fun K2 hK => ?_) ?_
          · obtain ⟨v1, V2, hrun, hown2, hKp, hon⟩ := app_nls (c2 := l.cap) (xs := []) hown (S.out.zs.below hV1 (Nat.le_refl _)) (by omega)
            have hV2h := Lib.hid (show Below wB.heap.size wB V2 from hV1.trans (hKp.below hV1.size (fun j hj e => by have := HB.out j e; omega)))
            have HB2 := Lib.hid (show ∀ j, Value.ownBlock v1 = some j → wB.heap.size ≤ j from fun j e => by rcases hon with h9 | h9 <;> rw [h9] at e <;> first | exact HB.out j e | (have h8 : V1.heap.size = j := Option.some.inj e; have := hV1.size; omega))
            clear HB hown hon hKp
            have HB := HB2
            have Hown := Lib.hid hown2
            clear HB2 hown2
            have hown9 := Hown.out
            clear Hown
            rw [Nat.zero_add, List.nil_append] at hown9
            obtain ⟨g, c9, rfl, hc9, hr8, hC8⟩ := rwN_own hn0 hown9
            have HR8 := Lib.hid hr8
            have Hc9 := Lib.hid hc9
            have HGB := Lib.hid (HB.out g hC8)
            clear hr8 hC8 hown9 hc9
            go_simp
            try rw [hrun]
            try go_simp
            refine hK.out _ _ (hV2h.out) (fun hV2 => ?_)
            clear hK K2
            clear hrun hV2h
            try simp only [Act.put, List.setIfInBounds_toArray, List.set_cons_zero, List.set_cons_succ]
            refine wpAnyH_take (i := 10) (oi := opLmo9) (v := .agg #[.int .i64 l.N, .slice (some ⟨g, 0, none⟩) l.n c9, .slice l.LA l.ln l.lc, .slice l.RA l.rn l.rc]) rfl (by kernel_rfl) (by kernel_rfl) (by kernel_rfl) (fun _ _ _ h => h) (Or.inl ⟨by rfl, by intro w2 hSw; (try dsimp only at hSw);  go_simp⟩) hV2 ?_
            try simp only [Act.put, List.setIfInBounds_toArray, List.set_cons_zero, List.set_cons_succ]
            refine wpAnyH_ready (rs := [11]) (by kernel_rfl) (by simp) ?_
            refine AllReadyH.cons (o := opLmo10) rfl (fun K2 hK => ?_) ?_
            · go_simp
              refine hK.out _ _ (hV2.trans ((below_alloc_ _ _).mono hV2.size)) (fun hV3 => ?_)
              clear hK K2
              have hD := heap_alloc_new_ V2 (.cells #[.int .i64 0, .slice none 0 0, .slice none 0 0, .slice none 0 0] 25)
              have hb := below_alloc_ V2 (.cells #[.int .i64 0, .slice none 0 0, .slice none 0 0, .slice none 0 0] 25)
              have HOD := Lib.hid (show g ≠ V2.heap.size from fun e => by have := HR8.out.lt; omega)
              replace HR8 := Lib.hid (HR8.out.below hb (Nat.le_refl _))
              have HD0 := Lib.hid (show wB.heap.size ≤ V2.heap.size from hV2.size)
              generalize V2.alloc (.cells #[.int .i64 0, .slice none 0 0, .slice none 0 0, .slice none 0 0] 25) = V3 at *
              obtain ⟨D, hDe⟩ : ∃ D, V2.heap.size = D := ⟨_, rfl⟩
              rw [hDe] at hD HD0 HOD ⊢
              clear hDe hb
              try simp only [Act.put, List.setIfInBounds_toArray, List.set_cons_zero, List.set_cons_succ]
              have f0 : V3.cell? ⟨D, 0, none⟩ = some (.int .i64 0) := by rw [cell_row hD]; rfl
              have f1 : V3.cell? ⟨D, 1, none⟩ = some (.slice none 0 0) := by rw [cell_row hD]; rfl
              have f2 : V3.cell? ⟨D, 2, none⟩ = some (.slice none 0 0) := by rw [cell_row hD]; rfl
              have f3 : V3.cell? ⟨D, 3, none⟩ = some (.slice none 0 0) := by rw [cell_row hD]; rfl
              have fz : ∀ i, V3.frozen? ⟨D, i, none⟩ = false := fun i => frozen_row hD
              have HF := Lib.hid (more_list2 (c8 := c9) (m := l.n) (N := l.N) (v2 := .slice l.LA l.ln l.lc) (v3 := .slice l.RA l.rn l.rc) hV3 hD HD0.out HR8.out HOD.out)
              clear hD
              refine wpAnyH_ready (rs := [12]) (by kernel_rfl) (by simp) ?_
              refine AllReadyH.cons (o := opLmo11) rfl (fun K2 hK => ?_) AllReadyH.nil
              go_simp
              refine hK.out _ _ HF.out.2.2 (fun hSf => ?_)
              clear hK K2
              try simp only [Act.put, List.setIfInBounds_toArray, List.set_cons_zero, List.set_cons_succ]
              refine wpAnyH_done (by kernel_rfl) ?_ _
              clear f0 f1 f2 f3 fz hSf
              go_wp2_with fail
              go_meet
              case rel => exact ⟨D, g, c9, rfl, HF.out.1, Hc9.out, HF.out.2.1, HOD.out, HF.out.2.2, HD0.out, HGB.out⟩
            exact AllReadyH.nil
          refine AllReadyH.cons (o := opLmo10) rfl (fun K2 hK => ?_) ?_
          · go_simp
            refine hK.out _ _ (hV1.trans ((below_alloc_ _ _).mono hV1.size)) (fun hV2 => ?_)
            clear hK K2
            have hD := heap_alloc_new_ V1 (.cells #[.int .i64 0, .slice none 0 0, .slice none 0 0, .slice none 0 0] 25)
            have hb := below_alloc_ V1 (.cells #[.int .i64 0, .slice none 0 0, .slice none 0 0, .slice none 0 0] 25)
            have HOD := Lib.hid (show Value.ownBlock (.slice (some ⟨Z, 0, none⟩) 0 0) ≠ some V1.heap.size from fun e => by have := own_lt hown _ e; omega)
            replace hown := own_keep hown (Keeps.of_new (Mut := fun _ => False) hb) (fun _ _ e => e)
            have HD0 := Lib.hid (show wB.heap.size ≤ V1.heap.size from hV1.size)
            generalize V1.alloc (.cells #[.int .i64 0, .slice none 0 0, .slice none 0 0, .slice none 0 0] 25) = V2 at *
            obtain ⟨D, hDe⟩ : ∃ D, V1.heap.size = D := ⟨_, rfl⟩
            rw [hDe] at hD HD0 HOD ⊢
            clear hDe hb
            try simp only [Act.put, List.setIfInBounds_toArray, List.set_cons_zero, List.set_cons_succ]
            refine wpAnyH_ready (rs := [5]) (by kernel_rfl) (by simp) ?_
            refine AllReadyH.cons (o := opLmo8) rfl (fun K2 hK => ?_) ?_
            · obtain ⟨v1, V3, hrun, hown2, hKp, hon⟩ := app_nls (c2 := l.cap) (xs := []) hown (S.out.zs.below hV2 (Nat.le_refl _)) (by omega)
              have hV3h := Lib.hid (show Below wB.heap.size wB V3 from hV2.trans (hKp.below hV2.size (fun j hj e => by have := HB.out j e; omega)))
              have HPD := Lib.hid (show Value.ownBlock v1 ≠ some D from by rcases hon with h9 | h9 <;> rw [h9] <;> first | exact HOD.out | (intro e; have h8 : V2.heap.size = D := Option.some.inj e; have := lt_of_block hD; omega))
              replace hD := (hKp.block _ (lt_of_block hD) HOD.out).trans hD
              clear HOD
              have HOD := HPD
              clear HPD
              have HB2 := Lib.hid (show ∀ j, Value.ownBlock v1 = some j → wB.heap.size ≤ j from fun j e => by rcases hon with h9 | h9 <;> rw [h9] at e <;> first | exact HB.out j e | (have h8 : V2.heap.size = j := Option.some.inj e; have := hV2.size; omega))
              clear HB hown hon hKp
              have HB := HB2
              have Hown := Lib.hid hown2
              clear HB2 hown2
              have hown9 := Hown.out
              clear Hown
              rw [Nat.zero_add, List.nil_append] at hown9
              obtain ⟨g, c9, rfl, hc9, hr8, hC8⟩ := rwN_own hn0 hown9
              have HR8 := Lib.hid hr8
              have Hc9 := Lib.hid hc9
              have HGB := Lib.hid (HB.out g hC8)
              have HC8 := Lib.hid (show g ≠ D from fun e2 => HOD.out (by rw [← e2]; exact hC8))
              clear HOD
              have HOD := HC8
              clear HC8
              clear hr8 hC8 hown9 hc9
              go_simp
              try rw [hrun]
              try go_simp
              refine hK.out _ _ (hV3h.out) (fun hV3 => ?_)
              clear hK K2
              clear hrun hV3h
              try simp only [Act.put, List.setIfInBounds_toArray, List.set_cons_zero, List.set_cons_succ]
              refine wpAnyH_take (i := 10) (oi := opLmo9) (v := .agg #[.int .i64 l.N, .slice (some ⟨g, 0, none⟩) l.n c9, .slice l.LA l.ln l.lc, .slice l.RA l.rn l.rc]) rfl (by kernel_rfl) (by kernel_rfl) (by kernel_rfl) (fun _ _ _ h => h) (Or.inl ⟨by rfl, by intro w2 hSw; (try dsimp only at hSw);  go_simp⟩) hV3 ?_
              try simp only [Act.put, List.setIfInBounds_toArray, List.set_cons_zero, List.set_cons_succ]
              have f0 : V3.cell? ⟨D, 0, none⟩ = some (.int .i64 0) := by rw [cell_row hD]; rfl
              have f1 : V3.cell? ⟨D, 1, none⟩ = some (.slice none 0 0) := by rw [cell_row hD]; rfl
              have f2 : V3.cell? ⟨D, 2, none⟩ = some (.slice none 0 0) := by rw [cell_row hD]; rfl
              have f3 : V3.cell? ⟨D, 3, none⟩ = some (.slice none 0 0) := by rw [cell_row hD]; rfl
              have fz : ∀ i, V3.frozen? ⟨D, i, none⟩ = false := fun i => frozen_row hD
              have HF := Lib.hid (more_list2 (c8 := c9) (m := l.n) (N := l.N) (v2 := .slice l.LA l.ln l.lc) (v3 := .slice l.RA l.rn l.rc) hV3 hD HD0.out HR8.out HOD.out)
              clear hD
              refine wpAnyH_ready (rs := [12]) (by kernel_rfl) (by simp) ?_
              refine AllReadyH.cons (o := opLmo11) rfl (fun K2 hK => ?_) AllReadyH.nil
              go_simp
              refine hK.out _ _ HF.out.2.2 (fun hSf => ?_)
              clear hK K2
              try simp only [Act.put, List.setIfInBounds_toArray, List.set_cons_zero, List.set_cons_succ]
              refine wpAnyH_done (by kernel_rfl) ?_ _
              clear f0 f1 f2 f3 fz hSf
              go_wp2_with fail
              go_meet
              case rel => exact ⟨D, g, c9, rfl, HF.out.1, Hc9.out, HF.out.2.1, HOD.out, HF.out.2.2, HD0.out, HGB.out⟩
            exact AllReadyH.nil
          exact AllReadyH.nil
        refine AllReadyH.cons (o := opLmo10) rfl (fun K2 hK => ?_) ?_
        · go_simp
          refine hK.out _ _ (hV0.trans ((below_alloc_ _ _).mono hV0.size)) (fun hV1 => ?_)
          clear hK K2
          have hD := heap_alloc_new_ V0 (.cells #[.int .i64 0, .slice none 0 0, .slice none 0 0, .slice none 0 0] 25)
          have hb := below_alloc_ V0 (.cells #[.int .i64 0, .slice none 0 0, .slice none 0 0, .slice none 0 0] 25)
          have HD0 := Lib.hid (show wB.heap.size ≤ V0.heap.size from hV0.size)
          generalize V0.alloc (.cells #[.int .i64 0, .slice none 0 0, .slice none 0 0, .slice none 0 0] 25) = V1 at *
          obtain ⟨D, hDe⟩ : ∃ D, V0.heap.size = D := ⟨_, rfl⟩
          rw [hDe] at hD HD0 ⊢
          clear hDe hb
          try simp only [Act.put, List.setIfInBounds_toArray, List.set_cons_zero, List.set_cons_succ]
          refine wpAnyH_ready (rs := [2]) (by kernel_rfl) (by simp) ?_
          refine AllReadyH.cons (o := opLmo7) rfl (fun K2 hK => ?_) ?_
          · go_simp
            refine hK.out _ _ (hV1.trans ((below_alloc_ _ _).mono hV1.size)) (fun hV2 => ?_)
            clear hK K2
            have hZ := heap_alloc_new_ V1 (.cells #[] 60)
            have hb := below_alloc_ V1 (.cells #[] 60)
            have HNDZ := Lib.hid (show D ≠ V1.heap.size from by have := lt_of_block hD; omega)
            replace hD := (hb.block _ (lt_of_block hD)).trans hD
            have HZ0 := Lib.hid (show wB.heap.size ≤ V1.heap.size from hV1.size)
            have HOD := Lib.hid (show Value.ownBlock (.slice (some ⟨V1.heap.size, 0, none⟩) 0 0) ≠ some D from fun e => by have h9 : V1.heap.size = D := Option.some.inj e; exact HNDZ.out h9.symm)
            have HB := Lib.hid (show ∀ j, Value.ownBlock (.slice (some ⟨V1.heap.size, 0, none⟩) 0 0) = some j → wB.heap.size ≤ j from fun j e => by have h9 : V1.heap.size = j := Option.some.inj e; have := HZ0.out; omega)
            generalize V1.alloc (.cells #[] 60) = V2 at *
            obtain ⟨Z, hZe⟩ : ∃ Z, V1.heap.size = Z := ⟨_, rfl⟩
            rw [hZe] at hZ HZ0 HNDZ HOD HB ⊢
            clear hZe hb
            have hown := own_empty (size := 3) hZ
            clear hZ
            try simp only [Act.put, List.setIfInBounds_toArray, List.set_cons_zero, List.set_cons_succ]
            refine wpAnyH_ready (rs := [5]) (by kernel_rfl) (by simp) ?_
            refine AllReadyH.cons (o := opLmo8) rfl (fun K2 hK => ?_) ?_
            · obtain ⟨v1, V3, hrun, hown2, hKp, hon⟩ := app_nls (c2 := l.cap) (xs := []) hown (S.out.zs.below hV2 (Nat.le_refl _)) (by omega)
              have hV3h := Lib.hid (show Below wB.heap.size wB V3 from hV2.trans (hKp.below hV2.size (fun j hj e => by have := HB.out j e; omega)))
              have HPD := Lib.hid (show Value.ownBlock v1 ≠ some D from by rcases hon with h9 | h9 <;> rw [h9] <;> first | exact HOD.out | (intro e; have h8 : V2.heap.size = D := Option.some.inj e; have := lt_of_block hD; omega))
              replace hD := (hKp.block _ (lt_of_block hD) HOD.out).trans hD
              clear HOD
              have HOD := HPD
              clear HPD
              have HB2 := Lib.hid (show ∀ j, Value.ownBlock v1 = some j → wB.heap.size ≤ j from fun j e => by rcases hon with h9 | h9 <;> rw [h9] at e <;> first | exact HB.out j e | (have h8 : V2.heap.size = j := Option.some.inj e; have := hV2.size; omega))
              clear HB hown hon hKp
              have HB := HB2
              have Hown := Lib.hid hown2
              clear HB2 hown2
              have hown9 := Hown.out
              clear Hown
              rw [Nat.zero_add, List.nil_append] at hown9
              obtain ⟨g, c9, rfl, hc9, hr8, hC8⟩ := rwN_own hn0 hown9
              have HR8 := Lib.hid hr8
              have Hc9 := Lib.hid hc9
              have HGB := Lib.hid (HB.out g hC8)
              have HC8 := Lib.hid (show g ≠ D from fun e2 => HOD.out (by rw [← e2]; exact hC8))
              clear HOD
              have HOD := HC8
              clear HC8
              clear hr8 hC8 hown9 hc9
              go_simp
              try rw [hrun]
              try go_simp
              refine hK.out _ _ (hV3h.out) (fun hV3 => ?_)
              clear hK K2
              clear hrun hV3h
              try simp only [Act.put, List.setIfInBounds_toArray, List.set_cons_zero, List.set_cons_succ]
              refine wpAnyH_take (i := 10) (oi := opLmo9) (v := .agg #[.int .i64 l.N, .slice (some ⟨g, 0, none⟩) l.n c9, .slice l.LA l.ln l.lc, .slice l.RA l.rn l.rc]) rfl (by kernel_rfl) (by kernel_rfl) (by kernel_rfl) (fun _ _ _ h => h) (Or.inl ⟨by rfl, by intro w2 hSw; (try dsimp only at hSw);  go_simp⟩) hV3 ?_
              try simp only [Act.put, List.setIfInBounds_toArray, List.set_cons_zero, List.set_cons_succ]
              have f0 : V3.cell? ⟨D, 0, none⟩ = some (.int .i64 0) := by rw [cell_row hD]; rfl
              have f1 : V3.cell? ⟨D, 1, none⟩ = some (.slice none 0 0) := by rw [cell_row hD]; rfl
              have f2 : V3.cell? ⟨D, 2, none⟩ = some (.slice none 0 0) := by rw [cell_row hD]; rfl
              have f3 : V3.cell? ⟨D, 3, none⟩ = some (.slice none 0 0) := by rw [cell_row hD]; rfl
              have fz : ∀ i, V3.frozen? ⟨D, i, none⟩ = false := fun i => frozen_row hD
              have HF := Lib.hid (more_list2 (c8 := c9) (m := l.n) (N := l.N) (v2 := .slice l.LA l.ln l.lc) (v3 := .slice l.RA l.rn l.rc) hV3 hD HD0.out HR8.out HOD.out)
              clear hD
              refine wpAnyH_ready (rs := [12]) (by kernel_rfl) (by simp) ?_
              refine AllReadyH.cons (o := opLmo11) rfl (fun K2 hK => ?_) AllReadyH.nil
              go_simp
              refine hK.out _ _ HF.out.2.2 (fun hSf => ?_)
              clear hK K2
              try simp only [Act.put, List.setIfInBounds_toArray, List.set_cons_zero, List.set_cons_succ]
              refine wpAnyH_done (by kernel_rfl) ?_ _
              clear f0 f1 f2 f3 fz hSf
              go_wp2_with fail
              go_meet
              case rel => exact ⟨D, g, c9, rfl, HF.out.1, Hc9.out, HF.out.2.1, HOD.out, HF.out.2.2, HD0.out, HGB.out⟩
            exact AllReadyH.nil
          exact AllReadyH.nil
        exact AllReadyH.nil
      case rest =>
        obtain ⟨D, g, c9, rfl, hd8, hc9, hr8, hgD, hb, hDB, hgB⟩ := hcut
        obtain ⟨wd, rfl⟩ : ∃ v, v = wc := ⟨_, rfl⟩
        clear zX0 zX1 zX2 zX3 zM0 zM1 zM2 zY0 zY1 ltX ltM ltY
        have LOb := LO
        have Sb := S
        have Xb := X
        have Mb := M
        have Yb := Y
        have Bb := B
        replace LO := Lib.hid (LO.out.below hb (Nat.le_refl _))
        replace S := Lib.hid (S.out.below hb (Nat.le_refl _))
        replace X := Lib.hid ((hb.block _ (lt_of_block X.out)).trans X.out)
        replace M := Lib.hid ((hb.block _ (lt_of_block M.out)).trans M.out)
        replace Y := Lib.hid ((hb.block _ (lt_of_block Y.out)).trans Y.out)
        replace B := Lib.hid (B.out.trans (hb.mono B.out.size))
        have z1 : wd.cell? ⟨D, 1, none⟩ = some (.slice (some ⟨g, 0, none⟩) l.n c9) := by rw [cell_row hd8]; rfl
        have hkl : kk < l.zs.length := by rw [S.out.zs.1]; exact Hkk.out
        have zr := (hr8.cell hkl).2.2
        have fz := hr8.fz (kk * 3 + 2)
        have htr := chk_tr HCH.out S.out kk Hkk.out
        have hq9 := Hq.out
        have hcv : IntKind.i64.wrap (tq : Int) = (tq : Int) := IntWalk.i64_in _ (by omega)
        have hset := hr8.set hkl (tq : Int)
        have hk1 := keeps_setCell wd g (kk * 3 + 2) (.int .i64 ((lAt l.zs kk).tr + (tq : Int)))
        have hd9 := (hk1.block _ (lt_of_block hd8) (fun e => hgD e.symm)).trans hd8
        have HNB := Lib.hid (show Below wB.heap.size wB (wd.setCell ⟨g, kk * 3 + 2, none⟩ (.int .i64 ((lAt l.zs kk).tr + (tq : Int)))) from hb.trans (hk1.below hb.size (fun j hj e => by omega)))
        have HSET := Lib.hid hset
        have HD9 := Lib.hid hd9
        have Hc9 := Lib.hid hc9
        obtain ⟨tv, htv⟩ : ∃ v, (lAt l.zs kk).tr = v := ⟨_, rfl⟩
        rw [htv] at zr htr
        have hwn : IntKind.i64.wrap (tv + (tq : Int)) = tv + (tq : Int) := IntWalk.i64_in _ (by omega)
        have i0 : (0 : Int) ≤ (kk : Int) := by omega
        have i1 : (kk : Int) < (l.n : Int) := by have := Hkk.out; omega
        have Htv := Lib.hid htv
        clear htr hset hk1 hd9 hd8 hr8 hgD hb hDB hgB hkl hq9 htv hc9
        go_upto_region 16 with fail
        clear z1 zr fz hcv hwn i0 i1
        rw [← Htv.out]
        obtain ⟨wf, hwf⟩ : ∃ v, wd.setCell ⟨g, kk * 3 + 2, none⟩ (.int .i64 ((lAt l.zs kk).tr + (tq : Int))) = v := ⟨_, rfl⟩
        have hset := HSET.out
        have hd9 := HD9.out
        have hb := HNB.out
        rw [hwf] at hset hd9 hb ⊢
        have hcc := Hc9.out
        clear hwf HSET HD9 HNB Hc9
        replace LO := Lib.hid (LOb.out.below hb (Nat.le_refl _))
        clear LOb
        replace S := Lib.hid (Sb.out.below hb (Nat.le_refl _))
        clear Sb
        replace X := Lib.hid ((hb.block _ (lt_of_block Xb.out)).trans Xb.out)
        clear Xb
        replace M := Lib.hid ((hb.block _ (lt_of_block Mb.out)).trans Mb.out)
        clear Mb
        replace Y := Lib.hid ((hb.block _ (lt_of_block Yb.out)).trans Yb.out)
        clear Yb
        replace B := Lib.hid (Bb.out.trans (hb.mono Bb.out.size))
        clear Bb
        obtain ⟨lY, hlY⟩ : ∃ v, lkX l (some ⟨g, 0, none⟩) c9 (l.zs.set kk ⟨(lAt l.zs kk).one, (lAt l.zs kk).two, (lAt l.zs kk).tr + (tq : Int)⟩) = v := ⟨_, rfl⟩
        have hlen : ((l.zs.set kk ⟨(lAt l.zs kk).one, (lAt l.zs kk).two, (lAt l.zs kk).tr + (tq : Int)⟩) : List Nl).length = l.n := by rw [List.length_set, Hzl.out]
        obtain ⟨y1, y2, y3, y4, y5, y6, y7, y8, y9, y10, y11, y12, y13⟩ : lY.N = l.N ∧ lY.A = (some ⟨g, 0, none⟩) ∧ lY.n = l.n ∧ lY.cap = c9 ∧ lY.LA = l.LA ∧ lY.ln = l.ln ∧ lY.lc = l.lc ∧ lY.RA = l.RA ∧ lY.rn = l.rn ∧ lY.rc = l.rc ∧ lY.ls = l.ls ∧ lY.rs = l.rs ∧ lY.zs = (l.zs.set kk ⟨(lAt l.zs kk).one, (lAt l.zs kk).two, (lAt l.zs kk).tr + (tq : Int)⟩) := by
          rw [← hlY]
          exact ⟨rfl, rfl, hlen, rfl, rfl, rfl, rfl, rfl, rfl, rfl, rfl, rfl, rfl⟩
        have HlY := Lib.hid hlY
        have SlY := Lib.hid (show NLs wf lY from by
          rw [← hlY]
          exact lkX_nls S.out (by rw [hlen]; exact (by have h7 := hset.nls; rw [List.length_set, Hzl.out] at h7; exact h7)) (by rw [hlen]; exact hcc) (by rw [hlen]; have := HN12.out; omega))
        have BlY := Lib.hid (show wf.heap[D]? = some (.cells #[.int .i64 lY.N, .slice lY.A lY.n lY.cap, .slice lY.LA lY.ln lY.lc, .slice lY.RA lY.rn lY.rc] 25 (0, 0)) by rw [y1, y2, y3, y4, y5, y6, y7, y8, y9, y10]; exact hd9)
        have VlY := Lib.hid y13
        clear hlY hlen y1 y2 y3 y4 y5 y6 y7 y8 y9 y10 y11 y12 y13 hset hd9 hb hcc
        have ltX : R < wf.heap.size := lt_of_block X.out
        have zX0 : wf.cell? ⟨R, 0, none⟩ = some (.int .i64 l.N) := by rw [cell_row X.out]; rfl
        have zX1 : wf.cell? ⟨R, 1, none⟩ = some (.slice l.A l.n l.cap) := by rw [cell_row X.out]; rfl
        have zX2 : wf.cell? ⟨R, 2, none⟩ = some (.slice l.LA l.ln l.lc) := by rw [cell_row X.out]; rfl
        have zX3 : wf.cell? ⟨R, 3, none⟩ = some (.slice l.RA l.rn l.rc) := by rw [cell_row X.out]; rfl
        have ltM : R + 1 < wf.heap.size := lt_of_block M.out
        have zM0 : wf.cell? ⟨R + 1, 0, none⟩ = some (.int .i64 r.one) := by rw [cell_row M.out]; rfl
        have zM1 : wf.cell? ⟨R + 1, 1, none⟩ = some (.int .i64 r.two) := by rw [cell_row M.out]; rfl
        have zM2 : wf.cell? ⟨R + 1, 2, none⟩ = some (.int .i64 r.tr) := by rw [cell_row M.out]; rfl
        have ltY : R + 2 < wf.heap.size := lt_of_block Y.out
        have zY0 : wf.cell? ⟨R + 2, 0, none⟩ = some (.int .u64 (xa : Int)) := by rw [cell_row Y.out]; rfl
        have zY1 : wf.cell? ⟨R + 2, 1, none⟩ = some (.int .u64 (xb : Int)) := by rw [cell_row Y.out]; rfl
        have ltBlY : D < wf.heap.size := lt_of_block BlY.out
        have zBlY0 : wf.cell? ⟨D, 0, none⟩ = some (.int .i64 lY.N) := by rw [cell_row BlY.out]; rfl
        have zBlY1 : wf.cell? ⟨D, 1, none⟩ = some (.slice lY.A lY.n lY.cap) := by rw [cell_row BlY.out]; rfl
        have zBlY2 : wf.cell? ⟨D, 2, none⟩ = some (.slice lY.LA lY.ln lY.lc) := by rw [cell_row BlY.out]; rfl
        have zBlY3 : wf.cell? ⟨D, 3, none⟩ = some (.slice lY.RA lY.rn lY.rc) := by rw [cell_row BlY.out]; rfl
        go_wp2_with fail
        clear zX0 zX1 zX2 zX3 zM0 zM1 zM2 zY0 zY1 zBlY0 zBlY1 zBlY2 zBlY3 ltX ltM ltY ltBlY
        refine (fine34 lY wf SlY.out).mono ?_
        rintro en wf1 ⟨rfl, hb⟩
        replace LO := Lib.hid (LO.out.below hb (Nat.le_refl _))
        replace S := Lib.hid (S.out.below hb (Nat.le_refl _))
        replace SlY := Lib.hid (SlY.out.below hb (Nat.le_refl _))
        replace X := Lib.hid ((hb.block _ (lt_of_block X.out)).trans X.out)
        replace M := Lib.hid ((hb.block _ (lt_of_block M.out)).trans M.out)
        replace Y := Lib.hid ((hb.block _ (lt_of_block Y.out)).trans Y.out)
        replace BlY := Lib.hid ((hb.block _ (lt_of_block BlY.out)).trans BlY.out)
        replace B := Lib.hid (B.out.trans (hb.mono B.out.size))
        obtain ⟨fb, hfb⟩ : ∃ v, fineL lY = v := ⟨_, rfl⟩
        rw [hfb]
        have HFB := Lib.hid hfb
        clear hfb
        try clear hb
        have ltX : R < wf1.heap.size := lt_of_block X.out
        have zX0 : wf1.cell? ⟨R, 0, none⟩ = some (.int .i64 l.N) := by rw [cell_row X.out]; rfl
        have zX1 : wf1.cell? ⟨R, 1, none⟩ = some (.slice l.A l.n l.cap) := by rw [cell_row X.out]; rfl
        have zX2 : wf1.cell? ⟨R, 2, none⟩ = some (.slice l.LA l.ln l.lc) := by rw [cell_row X.out]; rfl
        have zX3 : wf1.cell? ⟨R, 3, none⟩ = some (.slice l.RA l.rn l.rc) := by rw [cell_row X.out]; rfl
        have ltM : R + 1 < wf1.heap.size := lt_of_block M.out
        have zM0 : wf1.cell? ⟨R + 1, 0, none⟩ = some (.int .i64 r.one) := by rw [cell_row M.out]; rfl
        have zM1 : wf1.cell? ⟨R + 1, 1, none⟩ = some (.int .i64 r.two) := by rw [cell_row M.out]; rfl
        have zM2 : wf1.cell? ⟨R + 1, 2, none⟩ = some (.int .i64 r.tr) := by rw [cell_row M.out]; rfl
        have ltY : R + 2 < wf1.heap.size := lt_of_block Y.out
        have zY0 : wf1.cell? ⟨R + 2, 0, none⟩ = some (.int .u64 (xa : Int)) := by rw [cell_row Y.out]; rfl
        have zY1 : wf1.cell? ⟨R + 2, 1, none⟩ = some (.int .u64 (xb : Int)) := by rw [cell_row Y.out]; rfl
        have ltBlY : D < wf1.heap.size := lt_of_block BlY.out
        have zBlY0 : wf1.cell? ⟨D, 0, none⟩ = some (.int .i64 lY.N) := by rw [cell_row BlY.out]; rfl
        have zBlY1 : wf1.cell? ⟨D, 1, none⟩ = some (.slice lY.A lY.n lY.cap) := by rw [cell_row BlY.out]; rfl
        have zBlY2 : wf1.cell? ⟨D, 2, none⟩ = some (.slice lY.LA lY.ln lY.lc) := by rw [cell_row BlY.out]; rfl
        have zBlY3 : wf1.cell? ⟨D, 3, none⟩ = some (.slice lY.RA lY.rn lY.rc) := by rw [cell_row BlY.out]; rfl
        go_upto_if 117 with fail
        clear zX0 zX1 zX2 zX3 zM0 zM1 zM2 zY0 zY1 zBlY0 zBlY1 zBlY2 zBlY3 ltX ltM ltY ltBlY
        go_cut [20, 21, 22] from 119 to 138 (fun a1 a2 a3 wx => Below wf1.heap.size wf1 wx)
        case first =>
          rcases fb with _ | _
          · go_wp2_with fail
            go_meet
            case rel => exact Below.refl _ _
          have HCc := Lib.hid (fine_yes HFB.out).2
          have BC := Lib.hid (Below.refl wf1.heap.size wf1)
          have ltX : R < wf1.heap.size := lt_of_block X.out
          have zX0 : wf1.cell? ⟨R, 0, none⟩ = some (.int .i64 l.N) := by rw [cell_row X.out]; rfl
          have zX1 : wf1.cell? ⟨R, 1, none⟩ = some (.slice l.A l.n l.cap) := by rw [cell_row X.out]; rfl
          have zX2 : wf1.cell? ⟨R, 2, none⟩ = some (.slice l.LA l.ln l.lc) := by rw [cell_row X.out]; rfl
          have zX3 : wf1.cell? ⟨R, 3, none⟩ = some (.slice l.RA l.rn l.rc) := by rw [cell_row X.out]; rfl
          have ltM : R + 1 < wf1.heap.size := lt_of_block M.out
          have zM0 : wf1.cell? ⟨R + 1, 0, none⟩ = some (.int .i64 r.one) := by rw [cell_row M.out]; rfl
          have zM1 : wf1.cell? ⟨R + 1, 1, none⟩ = some (.int .i64 r.two) := by rw [cell_row M.out]; rfl
          have zM2 : wf1.cell? ⟨R + 1, 2, none⟩ = some (.int .i64 r.tr) := by rw [cell_row M.out]; rfl
          have ltY : R + 2 < wf1.heap.size := lt_of_block Y.out
          have zY0 : wf1.cell? ⟨R + 2, 0, none⟩ = some (.int .u64 (xa : Int)) := by rw [cell_row Y.out]; rfl
          have zY1 : wf1.cell? ⟨R + 2, 1, none⟩ = some (.int .u64 (xb : Int)) := by rw [cell_row Y.out]; rfl
          have ltBlY : D < wf1.heap.size := lt_of_block BlY.out
          have zBlY0 : wf1.cell? ⟨D, 0, none⟩ = some (.int .i64 lY.N) := by rw [cell_row BlY.out]; rfl
          have zBlY1 : wf1.cell? ⟨D, 1, none⟩ = some (.slice lY.A lY.n lY.cap) := by rw [cell_row BlY.out]; rfl
          have zBlY2 : wf1.cell? ⟨D, 2, none⟩ = some (.slice lY.LA lY.ln lY.lc) := by rw [cell_row BlY.out]; rfl
          have zBlY3 : wf1.cell? ⟨D, 3, none⟩ = some (.slice lY.RA lY.rn lY.rc) := by rw [cell_row BlY.out]; rfl
          go_wp2_with fail
          clear zX0 zX1 zX2 zX3 zM0 zM1 zM2 zY0 zY1 zBlY0 zBlY1 zBlY2 zBlY3 ltX ltM ltY ltBlY
          refine (leastA lY wf1 SlY.out HCc.out).mono ?_
          rintro en wf2 ⟨QM, RM, rfl, -, hCh, -, hb⟩
          replace LO := Lib.hid (LO.out.below hb (Nat.le_refl _))
          replace S := Lib.hid (S.out.below hb (Nat.le_refl _))
          replace SlY := Lib.hid (SlY.out.below hb (Nat.le_refl _))
          replace X := Lib.hid ((hb.block _ (lt_of_block X.out)).trans X.out)
          replace M := Lib.hid ((hb.block _ (lt_of_block M.out)).trans M.out)
          replace Y := Lib.hid ((hb.block _ (lt_of_block Y.out)).trans Y.out)
          replace BlY := Lib.hid ((hb.block _ (lt_of_block BlY.out)).trans BlY.out)
          replace B := Lib.hid (B.out.trans (hb.mono B.out.size))
          replace BC := Lib.hid (BC.out.trans (hb.mono BC.out.size))
          have hzl := S.out.zs.1
          have hkl : kk < l.zs.length := by rw [hzl]; exact Hkk.out
          have hq9 := Hq.out
          have hco := set_cost (l := l) (k := kk) hkl (d := (tq : Int)) (by omega) (A := none) (cap := 0) HCR.out (by rw [← HlY.out] at hCh; exact hCh)
          rw [← VlY.out, HQV.out] at hco
          have hq0 := cost_le_all (okl_list S.out HCH.out) R1
          have hq1 : 0 ≤ q := by rw [← HQV.out]; exact cost_nn S.out HCH.out R1
          rw [HQV.out] at hq0
          have hn12 := HN12.out
          obtain ⟨mq, hmq⟩ : ∃ v, costS lY.zs RM = v := ⟨_, rfl⟩
          rw [hmq] at hco ⊢
          obtain ⟨nM, hnM⟩ : ∃ v, (nmK RM lY.N.toNat).length = v := ⟨_, rfl⟩
          rw [hnM]
          have hcv : IntKind.i64.wrap (tq : Int) = (tq : Int) := IntWalk.i64_in _ (by omega)
          have hwn : IntKind.i64.wrap (q + (tq : Int)) = q + (tq : Int) := IntWalk.i64_in _ (by omega)
          have p1 : ¬ mq < q := by omega
          have p2 : ¬ q + (tq : Int) < mq := by omega
          have d1 : decide (mq < q) = false := decide_eq_false p1
          have d2 : decide (q + (tq : Int) < mq) = false := decide_eq_false p2
          clear hco hq0 hq1 hzl hn12 hmq hnM hCh hkl hq9
          try clear hb
          have ltX : R < wf2.heap.size := lt_of_block X.out
          have zX0 : wf2.cell? ⟨R, 0, none⟩ = some (.int .i64 l.N) := by rw [cell_row X.out]; rfl
          have zX1 : wf2.cell? ⟨R, 1, none⟩ = some (.slice l.A l.n l.cap) := by rw [cell_row X.out]; rfl
          have zX2 : wf2.cell? ⟨R, 2, none⟩ = some (.slice l.LA l.ln l.lc) := by rw [cell_row X.out]; rfl
          have zX3 : wf2.cell? ⟨R, 3, none⟩ = some (.slice l.RA l.rn l.rc) := by rw [cell_row X.out]; rfl
          have ltM : R + 1 < wf2.heap.size := lt_of_block M.out
          have zM0 : wf2.cell? ⟨R + 1, 0, none⟩ = some (.int .i64 r.one) := by rw [cell_row M.out]; rfl
          have zM1 : wf2.cell? ⟨R + 1, 1, none⟩ = some (.int .i64 r.two) := by rw [cell_row M.out]; rfl
          have zM2 : wf2.cell? ⟨R + 1, 2, none⟩ = some (.int .i64 r.tr) := by rw [cell_row M.out]; rfl
          have ltY : R + 2 < wf2.heap.size := lt_of_block Y.out
          have zY0 : wf2.cell? ⟨R + 2, 0, none⟩ = some (.int .u64 (xa : Int)) := by rw [cell_row Y.out]; rfl
          have zY1 : wf2.cell? ⟨R + 2, 1, none⟩ = some (.int .u64 (xb : Int)) := by rw [cell_row Y.out]; rfl
          have ltBlY : D < wf2.heap.size := lt_of_block BlY.out
          have zBlY0 : wf2.cell? ⟨D, 0, none⟩ = some (.int .i64 lY.N) := by rw [cell_row BlY.out]; rfl
          have zBlY1 : wf2.cell? ⟨D, 1, none⟩ = some (.slice lY.A lY.n lY.cap) := by rw [cell_row BlY.out]; rfl
          have zBlY2 : wf2.cell? ⟨D, 2, none⟩ = some (.slice lY.LA lY.ln lY.lc) := by rw [cell_row BlY.out]; rfl
          have zBlY3 : wf2.cell? ⟨D, 3, none⟩ = some (.slice lY.RA lY.rn lY.rc) := by rw [cell_row BlY.out]; rfl
          go_wp2_with fail
          go_meet
          case rel => exact BC.out
        case rest =>
          have hb := hcut
          obtain ⟨we, rfl⟩ : ∃ v, v = wc := ⟨_, rfl⟩
          obtain ⟨weinnerY, rfl⟩ : ∃ v, v = we := ⟨_, rfl⟩
          replace LO := Lib.hid (LO.out.below hb (Nat.le_refl _))
          replace S := Lib.hid (S.out.below hb (Nat.le_refl _))
          replace SlY := Lib.hid (SlY.out.below hb (Nat.le_refl _))
          replace X := Lib.hid ((hb.block _ (lt_of_block X.out)).trans X.out)
          replace M := Lib.hid ((hb.block _ (lt_of_block M.out)).trans M.out)
          replace Y := Lib.hid ((hb.block _ (lt_of_block Y.out)).trans Y.out)
          replace BlY := Lib.hid ((hb.block _ (lt_of_block BlY.out)).trans BlY.out)
          replace B := Lib.hid (B.out.trans (hb.mono B.out.size))
          clear hb hcut HFB
          clear SlY BlY VlY HlY
          have ltX : R < weinnerY.heap.size := lt_of_block X.out
          have zX0 : weinnerY.cell? ⟨R, 0, none⟩ = some (.int .i64 l.N) := by rw [cell_row X.out]; rfl
          have zX1 : weinnerY.cell? ⟨R, 1, none⟩ = some (.slice l.A l.n l.cap) := by rw [cell_row X.out]; rfl
          have zX2 : weinnerY.cell? ⟨R, 2, none⟩ = some (.slice l.LA l.ln l.lc) := by rw [cell_row X.out]; rfl
          have zX3 : weinnerY.cell? ⟨R, 3, none⟩ = some (.slice l.RA l.rn l.rc) := by rw [cell_row X.out]; rfl
          have ltM : R + 1 < weinnerY.heap.size := lt_of_block M.out
          have zM0 : weinnerY.cell? ⟨R + 1, 0, none⟩ = some (.int .i64 r.one) := by rw [cell_row M.out]; rfl
          have zM1 : weinnerY.cell? ⟨R + 1, 1, none⟩ = some (.int .i64 r.two) := by rw [cell_row M.out]; rfl
          have zM2 : weinnerY.cell? ⟨R + 1, 2, none⟩ = some (.int .i64 r.tr) := by rw [cell_row M.out]; rfl
          have ltY : R + 2 < weinnerY.heap.size := lt_of_block Y.out
          have zY0 : weinnerY.cell? ⟨R + 2, 0, none⟩ = some (.int .u64 (xa : Int)) := by rw [cell_row Y.out]; rfl
          have zY1 : weinnerY.cell? ⟨R + 2, 1, none⟩ = some (.int .u64 (xb : Int)) := by rw [cell_row Y.out]; rfl
          go_wp2_with fail
          clear zX0 zX1 zX2 zX3 zM0 zM1 zM2 zY0 zY1 ltX ltM ltY
          go_loopw [23, 24, 25, 26] (fun v1 v2 i a1 wr => ∃ m : Nat, m ≤ l.n ∧ i = .int .i64 (m : Int) ∧ Hid (∃ u1 u2 : Value, v1 = u1 ∧ v2 = u2 ∧ Gr3 weinnerY wr u1 u2 (.slice none 0 0) (nmK (dpP xa xb) m) (nmK (dqP xa xb kk) m) [])) (fun v1 v2 i a1 _ => l.n - (intOf i).toNat)
          case atStart => exact ⟨0, Nat.zero_le _, rfl, Lib.hid ⟨_, _, rfl, rfl, Gr3.nil _⟩⟩
          case round =>
            obtain ⟨m, hm9, rfl, HX⟩ := hrel
            obtain ⟨wm, rfl⟩ : ∃ wm, wm = wr := ⟨_, rfl⟩
            obtain ⟨u1, u2, e1, e2, hG⟩ := HX.out
            obtain rfl : u1 = _ := e1.symm
            obtain rfl : u2 = _ := e2.symm
            clear HX e1 e2
            have hbk := hG.g1.2.2
            have Xm := Lib.hid ((hbk.block _ (lt_of_block X.out)).trans X.out)
            have Ym := Lib.hid ((hbk.block _ (lt_of_block Y.out)).trans Y.out)
            have zX1 : wm.cell? ⟨R, 1, none⟩ = some (.slice l.A l.n l.cap) := by rw [cell_row Xm.out]; rfl
            have hn12 := HN12.out
            by_cases hlt : m < l.n
            · obtain ⟨d, hd⟩ : ∃ d, m / 64 = d := ⟨_, rfl⟩
              obtain ⟨s, hs⟩ : ∃ s, m % 64 = s := ⟨_, rfl⟩
              have hd1 : d ≤ 1 := by omega
              have hs1 : s < 64 := by omega
              obtain ⟨xd, hxd⟩ : ∃ xd : Nat, (if m < 64 then xa else xb) = xd := ⟨_, rfl⟩
              have y1 : wm.cell? ⟨R + 2, d, none⟩ = some (.int .u64 (xd : Int)) := by
                rw [cell_row Ym.out]
                rcases (by omega : d = 0 ∨ d = 1) with e | e
                · rw [if_pos (by omega)] at hxd; subst hxd; rw [e]; rfl
                · rw [if_neg (by omega)] at hxd; subst hxd; rw [e]; rfl
              have hxm : xd ≤ 18446744073709551615 := by have := Hxa.out; have := Hxb.out; split at hxd <;> omega
              have hab := and_bit xd s hxm
              have hpe : dpP xa xb (m : Int) = xd.testBit s := by unfold dpP; rw [Int.toNat_natCast, hxd, hs]
              have e1 : (m : Int).tdiv 64 = (d : Int) := by rw [Int.tdiv_eq_ediv_of_nonneg (by omega)]; omega
              have e2 : (m : Int) / 64 = (d : Int) := by omega
              have e3 : (m : Int).tmod 64 = (s : Int) := by rw [Int.tmod_eq_emod_of_nonneg (by omega)]; omega
              have e4 : (m : Int) % 64 = (s : Int) := by omega
              have hl1 := nmK_len (dpP xa xb) m
              have hl2 := nmK_len (dqP xa xb kk) m
              have HLE := Lib.hid (show (nmK (dpP xa xb) m).length ≤ 100000 ∧ (nmK (dqP xa xb kk) m).length ≤ 100000 by omega)
              have HG := Lib.hid hG
              have Hlt := Lib.hid hlt
              have i0 : (0 : Int) ≤ (d : Int) := by omega
              have i1 : (d : Int) < 2 := by omega
              have i2 : (0 : Int) ≤ (s : Int) := by omega
              have i3 : ¬ (s : Int) < 0 := by omega
              have i4 : (s : Int) < 64 := by omega
              have i5 : (0 : Int) ≤ (m : Int) := by omega
              clear hd hs hxd hxm hG hbk hl1 hl2
              cases hbt : xd.testBit s
              · rw [hbt, if_neg (by simp)] at hab
                rw [hbt] at hpe
                have d1 : ¬ bits BinOp.and IntKind.u64 ((xd : Int) / 2 ^ s) 1 = 1 := by rw [hab]; decide
                have E1 := Lib.hid (nmK_no (p := (dpP xa xb)) (k := m) hpe)
                by_cases hk : m = kk
                · have E2 := Lib.hid (nmK_yes (p := (dqP xa xb kk)) (k := m) (by unfold dqP; rw [hpe, hk]; simp))
                  have d2 : ((m : Int) == (kk : Int)) = true := by rw [beq_iff_eq]; omega
                  obtain ⟨C5, d5, V5, hrun, hG5, hk5⟩ := HG.out.rot.app (m : Int) HLE.out.2
                  have HG5 := Lib.hid hG5.rot.rot
                  clear hG5 hk5 hab hbt hpe hk
                  go_wp2_with fail
                  go_roundw
                  case rel => exact ⟨m + 1, by have := Hlt.out; omega, by go_num, Lib.hid ⟨_, _, rfl, rfl, by rw [E1.out, E2.out]; exact HG5.out⟩⟩
                  case measure => have := Hlt.out; simp [intOf]; omega
                have E2 := Lib.hid (nmK_no (p := (dqP xa xb kk)) (k := m) (by unfold dqP; rw [hpe, decide_eq_false (by omega)]; rfl))
                have d2 : ((m : Int) == (kk : Int)) = false := by rw [beq_eq_false_iff_ne]; omega
                clear hab hbt hpe hk
                go_wp2_with fail
                go_roundw
                case rel => exact ⟨m + 1, by have := Hlt.out; omega, by go_num, Lib.hid ⟨_, _, rfl, rfl, by rw [E1.out, E2.out]; exact HG.out⟩⟩
                case measure => have := Hlt.out; simp [intOf]; omega
              · rw [hbt, if_pos rfl] at hab
                rw [hbt] at hpe
                have d1 : bits BinOp.and IntKind.u64 ((xd : Int) / 2 ^ s) 1 = 1 := hab
                have E1 := Lib.hid (nmK_yes (p := (dpP xa xb)) (k := m) hpe)
                have E2 := Lib.hid (nmK_yes (p := (dqP xa xb kk)) (k := m) (by unfold dqP; rw [hpe]; rfl))
                obtain ⟨C4, d4, V4, hrun4, hG4, hk4⟩ := HG.out.app (m : Int) HLE.out.1
                obtain ⟨C5, d5, V5, hrun5, hG5, hk5⟩ := hG4.rot.app (m : Int) HLE.out.2
                have HG5 := Lib.hid hG5.rot.rot
                clear hG4 hG5 hk4 hk5 hab hbt hpe
                go_wp2_with fail
                go_roundw
                case rel => exact ⟨m + 1, by have := Hlt.out; omega, by go_num, Lib.hid ⟨_, _, rfl, rfl, by rw [E1.out, E2.out]; exact HG5.out⟩⟩
                case measure => have := Hlt.out; simp [intOf]; omega
            · obtain rfl : m = l.n := by omega
              obtain ⟨C4, d4, rfl, hd4, hI4, -⟩ := ints_own rfl hG.g1.1
              obtain ⟨C5, d5, rfl, hd5, hI5, -⟩ := ints_own rfl hG.g2.1
              have hGM := groups_more S.out HCH.out xa xb Hkk.out
              have hLA := layE_dp HCH.out (dpP xa xb)
              have hLB := layE_dp HCH.out (dqP xa xb kk)
              have hl4 := nmK_len (dpP xa xb) l.n
              have hl5 := nmK_len (dqP xa xb kk) l.n
              obtain ⟨s4, hs4⟩ : ∃ v, nmK (dpP xa xb) l.n = v := ⟨_, rfl⟩
              obtain ⟨s5, hs5⟩ : ∃ v, nmK (dqP xa xb kk) l.n = v := ⟨_, rfl⟩
              rw [hs4] at hI4 hd4 hl4 hGM hLA ⊢
              rw [hs5] at hI5 hd5 hl5 hGM hLB ⊢
              obtain ⟨n4, hn4⟩ : ∃ v, s4.length = v := ⟨_, rfl⟩
              obtain ⟨n5, hn5⟩ : ∃ v, s5.length = v := ⟨_, rfl⟩
              rw [hn4] at hI4 hd4 hl4 ⊢
              rw [hn5] at hI5 hd5 hl5 ⊢
              have hb := hbk
              have H4 := Lib.hid hI4
              have H5 := Lib.hid hI5
              have Hd4 := Lib.hid (show n4 ≤ d4 ∧ n4 ≤ 1000000 by omega)
              have Hd5 := Lib.hid (show n5 ≤ d5 ∧ n5 ≤ 1000000 by omega)
              have HGM := Lib.hid hGM
              have HLA := Lib.hid hLA
              have HLB := Lib.hid hLB
              clear hd4 hI4 hd5 hI5 hn4 hn5 hl4 hl5 hs4 hs5 hGM hLA hLB hG hbk
              replace LO := Lib.hid (LO.out.below hb (Nat.le_refl _))
              replace S := Lib.hid (S.out.below hb (Nat.le_refl _))
              replace X := Lib.hid ((hb.block _ (lt_of_block X.out)).trans X.out)
              replace M := Lib.hid ((hb.block _ (lt_of_block M.out)).trans M.out)
              replace Y := Lib.hid ((hb.block _ (lt_of_block Y.out)).trans Y.out)
              replace B := Lib.hid (B.out.trans (hb.mono B.out.size))
              clear hb hm9 hlt hn12 Xm Ym zX1
              have ltX : R < wm.heap.size := lt_of_block X.out
              have zX0 : wm.cell? ⟨R, 0, none⟩ = some (.int .i64 l.N) := by rw [cell_row X.out]; rfl
              have zX1 : wm.cell? ⟨R, 1, none⟩ = some (.slice l.A l.n l.cap) := by rw [cell_row X.out]; rfl
              have zX2 : wm.cell? ⟨R, 2, none⟩ = some (.slice l.LA l.ln l.lc) := by rw [cell_row X.out]; rfl
              have zX3 : wm.cell? ⟨R, 3, none⟩ = some (.slice l.RA l.rn l.rc) := by rw [cell_row X.out]; rfl
              have ltM : R + 1 < wm.heap.size := lt_of_block M.out
              have zM0 : wm.cell? ⟨R + 1, 0, none⟩ = some (.int .i64 r.one) := by rw [cell_row M.out]; rfl
              have zM1 : wm.cell? ⟨R + 1, 1, none⟩ = some (.int .i64 r.two) := by rw [cell_row M.out]; rfl
              have zM2 : wm.cell? ⟨R + 1, 2, none⟩ = some (.int .i64 r.tr) := by rw [cell_row M.out]; rfl
              have ltY : R + 2 < wm.heap.size := lt_of_block Y.out
              have zY0 : wm.cell? ⟨R + 2, 0, none⟩ = some (.int .u64 (xa : Int)) := by rw [cell_row Y.out]; rfl
              have zY1 : wm.cell? ⟨R + 2, 1, none⟩ = some (.int .u64 (xb : Int)) := by rw [cell_row Y.out]; rfl
              go_wp2_with fail
              clear zX0 zX1 zX2 zX3 zM0 zM1 zM2 zY0 zY1 ltX ltM ltY
              refine (groupsA l C4 n4 d4 s4 wm S.out H4.out Hd4.out.1 Hd4.out.2).mono ?_
              rintro en wm1 ⟨CG, cg, rfl, hcg, hR, hb⟩
              replace LO := Lib.hid (LO.out.below hb (Nat.le_refl _))
              replace S := Lib.hid (S.out.below hb (Nat.le_refl _))
              replace H4 := Lib.hid (H4.out.below hb (Nat.le_refl _))
              replace H5 := Lib.hid (H5.out.below hb (Nat.le_refl _))
              replace X := Lib.hid ((hb.block _ (lt_of_block X.out)).trans X.out)
              replace M := Lib.hid ((hb.block _ (lt_of_block M.out)).trans M.out)
              replace Y := Lib.hid ((hb.block _ (lt_of_block Y.out)).trans Y.out)
              replace B := Lib.hid (B.out.trans (hb.mono B.out.size))
              have hsm := docG_small (l := l) (ds := s4)
              have hGM := HGM.out
              obtain ⟨al, hal⟩ : ∃ v, docG l s4 = v := ⟨_, rfl⟩
              rw [hal] at hsm hR hGM ⊢
              rw [HLA.out]
              obtain ⟨na, hna⟩ : ∃ v, al.length = v := ⟨_, rfl⟩
              rw [hna] at hsm hR hGM ⊢
              have HNA := Lib.hid hna
              have HSA := Lib.hid hsm
              have HG := Lib.hid hR
              replace HGM := Lib.hid hGM
              clear hal hsm hR hcg hna hGM
              try clear hb
              have ltX : R < wm1.heap.size := lt_of_block X.out
              have zX0 : wm1.cell? ⟨R, 0, none⟩ = some (.int .i64 l.N) := by rw [cell_row X.out]; rfl
              have zX1 : wm1.cell? ⟨R, 1, none⟩ = some (.slice l.A l.n l.cap) := by rw [cell_row X.out]; rfl
              have zX2 : wm1.cell? ⟨R, 2, none⟩ = some (.slice l.LA l.ln l.lc) := by rw [cell_row X.out]; rfl
              have zX3 : wm1.cell? ⟨R, 3, none⟩ = some (.slice l.RA l.rn l.rc) := by rw [cell_row X.out]; rfl
              have ltM : R + 1 < wm1.heap.size := lt_of_block M.out
              have zM0 : wm1.cell? ⟨R + 1, 0, none⟩ = some (.int .i64 r.one) := by rw [cell_row M.out]; rfl
              have zM1 : wm1.cell? ⟨R + 1, 1, none⟩ = some (.int .i64 r.two) := by rw [cell_row M.out]; rfl
              have zM2 : wm1.cell? ⟨R + 1, 2, none⟩ = some (.int .i64 r.tr) := by rw [cell_row M.out]; rfl
              have ltY : R + 2 < wm1.heap.size := lt_of_block Y.out
              have zY0 : wm1.cell? ⟨R + 2, 0, none⟩ = some (.int .u64 (xa : Int)) := by rw [cell_row Y.out]; rfl
              have zY1 : wm1.cell? ⟨R + 2, 1, none⟩ = some (.int .u64 (xb : Int)) := by rw [cell_row Y.out]; rfl
              go_wp2_with fail
              clear zX0 zX1 zX2 zX3 zM0 zM1 zM2 zY0 zY1 ltX ltM ltY
              refine (groupsA l C5 n5 d5 s5 wm1 S.out H5.out Hd5.out.1 Hd5.out.2).mono ?_
              rintro en wm2 ⟨CB2, cb, rfl, hcg, hR, hb⟩
              replace LO := Lib.hid (LO.out.below hb (Nat.le_refl _))
              replace S := Lib.hid (S.out.below hb (Nat.le_refl _))
              replace H4 := Lib.hid (H4.out.below hb (Nat.le_refl _))
              replace H5 := Lib.hid (H5.out.below hb (Nat.le_refl _))
              replace HG := Lib.hid (HG.out.below hb (Nat.le_refl _))
              replace X := Lib.hid ((hb.block _ (lt_of_block X.out)).trans X.out)
              replace M := Lib.hid ((hb.block _ (lt_of_block M.out)).trans M.out)
              replace Y := Lib.hid ((hb.block _ (lt_of_block Y.out)).trans Y.out)
              replace B := Lib.hid (B.out.trans (hb.mono B.out.size))
              have hsm := docG_small (l := l) (ds := s5)
              have hGM := HGM.out
              obtain ⟨bl, hbl⟩ : ∃ v, docG l s5 = v := ⟨_, rfl⟩
              rw [hbl] at hsm hR hGM ⊢
              rw [HLB.out]
              obtain ⟨nb, hnb⟩ : ∃ v, bl.length = v := ⟨_, rfl⟩
              rw [hnb] at hsm hR hGM ⊢
              have HNBb := Lib.hid hnb
              have HSB := Lib.hid hsm
              have HGb := Lib.hid hR
              have HGI := Lib.hid hGM.2.2
              have g1 : ¬ (nb : Int) < (na : Int) := by have := hGM.1; omega
              have g2 : ¬ (na : Int) + 1 < (nb : Int) := by have := hGM.2.1; omega
              have g3 : IntKind.i64.wrap ((na : Int) + 1) = (na : Int) + 1 := IntWalk.i64_in _ (by have := HSA.out.1; omega)
              have g4 : ¬ nb < na := by omega
              have g5 : ¬ na + 1 < nb := by omega
              have hsa := HSA.out.1
              clear hbl hsm hR hcg hnb hGM
              try clear hb
              have ltX : R < wm2.heap.size := lt_of_block X.out
              have zX0 : wm2.cell? ⟨R, 0, none⟩ = some (.int .i64 l.N) := by rw [cell_row X.out]; rfl
              have zX1 : wm2.cell? ⟨R, 1, none⟩ = some (.slice l.A l.n l.cap) := by rw [cell_row X.out]; rfl
              have zX2 : wm2.cell? ⟨R, 2, none⟩ = some (.slice l.LA l.ln l.lc) := by rw [cell_row X.out]; rfl
              have zX3 : wm2.cell? ⟨R, 3, none⟩ = some (.slice l.RA l.rn l.rc) := by rw [cell_row X.out]; rfl
              have ltM : R + 1 < wm2.heap.size := lt_of_block M.out
              have zM0 : wm2.cell? ⟨R + 1, 0, none⟩ = some (.int .i64 r.one) := by rw [cell_row M.out]; rfl
              have zM1 : wm2.cell? ⟨R + 1, 1, none⟩ = some (.int .i64 r.two) := by rw [cell_row M.out]; rfl
              have zM2 : wm2.cell? ⟨R + 1, 2, none⟩ = some (.int .i64 r.tr) := by rw [cell_row M.out]; rfl
              have ltY : R + 2 < wm2.heap.size := lt_of_block Y.out
              have zY0 : wm2.cell? ⟨R + 2, 0, none⟩ = some (.int .u64 (xa : Int)) := by rw [cell_row Y.out]; rfl
              have zY1 : wm2.cell? ⟨R + 2, 1, none⟩ = some (.int .u64 (xb : Int)) := by rw [cell_row Y.out]; rfl
              go_wp2_with fail
              clear zX0 zX1 zX2 zX3 zM0 zM1 zM2 zY0 zY1 ltX ltM ltY
              clear g1 g2 g3 g4 g5 hsa
              go_loopw [31, 32, 33] (fun i a1 a2 wr => ∃ n : Nat, n ≤ nb ∧ i = .int .i64 (n : Int) ∧ Hid (Below wm2.heap.size wm2 wr)) (fun i a1 a2 _ => nb - (intOf i).toNat)
              case atStart => exact ⟨0, Nat.zero_le _, rfl, Lib.hid (Below.refl _ _)⟩
              case round =>
                obtain ⟨n, hn9, rfl, HBk⟩ := hrel
                obtain ⟨wk, rfl⟩ : ∃ wk, wk = wr := ⟨_, rfl⟩
                have hsm := HSB.out.1
                by_cases hlt : n < nb
                · obtain ⟨bg, og, hA, hcz⟩ := HGb.out.2 (by omega)
                  obtain ⟨Ci, mi, ci, hci, hIi, hmc, hm6⟩ := hcz n hlt
                  subst hA
                  have hin := HGI.out _ (getD_mem2 (gl := bl) (n := n) (by rw [HNBb.out]; exact hlt))
                  have hyes := inK_yes HNA.out hin
                  have hlen2 := HSB.out.2 _ (getD_mem2 (gl := bl) (n := n) (by rw [HNBb.out]; exact hlt))
                  obtain ⟨xi, hxi⟩ : ∃ v, bl.getD n [] = v := ⟨_, rfl⟩
                  rw [hxi] at hIi hyes hlen2
                  have HYES := Lib.hid hyes
                  have RC0 := Lib.hid (show CellV wm2 bg (og + n) (.slice Ci mi ci) from hci)
                  have HI0 := Lib.hid hIi
                  have Hm6 := Lib.hid (show mi ≤ 10000 by rw [← hIi.1]; exact hlen2)
                  have Hlt := Lib.hid hlt
                  clear hxi hcz hci hIi hmc hm6 hin hyes hlen2
                  go_wp2_with fail
                  go_loopw [32, 33] (fun a k wr => ∃ q : Nat, q ≤ na ∧ k = .int .i64 (q : Int) ∧ a = .bool (inK xi al q) ∧ Hid (Below wm2.heap.size wm2 wr)) (fun a k _ => na - (intOf k).toNat)
                  case atStart => exact ⟨0, Nat.zero_le _, rfl, rfl, HBk⟩
                  case round =>
                    obtain ⟨q, hq9, rfl, rfl, HBq⟩ := hrel
                    obtain ⟨wq, rfl⟩ : ∃ wk, wk = wr := ⟨_, rfl⟩
                    have hsa := HSA.out.1
                    by_cases hlt2 : q < na
                    · obtain ⟨ba, oa, hAa, hca⟩ := HG.out.2 (by omega)
                      obtain ⟨Cj, mj, cj, hcj, hIj, hmcj, hmj6⟩ := hca q hlt2
                      subst hAa
                      have hst := inK_succ xi al q
                      obtain ⟨xj, hxj⟩ : ∃ v, al.getD q [] = v := ⟨_, rfl⟩
                      rw [hxj] at hIj hst
                      have RC := Lib.hid (RC0.out.below HBq.out (Nat.le_refl _))
                      have RA := Lib.hid (CellV.below (show CellV wm2 ba (oa + q) (.slice Cj mj cj) from hcj) HBq.out (Nat.le_refl _))
                      have HIi := Lib.hid (HI0.out.below HBq.out (Nat.le_refl _))
                      have HIj := Lib.hid (hIj.below HBq.out (Nat.le_refl _))
                      have Hmj6 := Lib.hid hmj6
                      obtain ⟨b1, hb1⟩ : ∃ v, (xi.all fun y => decide (y ∈ xj)) = v := ⟨_, rfl⟩
                      rw [hb1] at hst
                      have HB1 := Lib.hid hb1
                      have i0 : (0 : Int) ≤ (q : Int) := by omega
                      have i1 : (q : Int) < (na : Int) := by omega
                      have i2 : (0 : Int) ≤ (n : Int) := by omega
                      have i3 : (n : Int) < (nb : Int) := by have := Hlt.out; omega
                      obtain ⟨u1, hu1⟩ : ∃ v, inK xi al q = v := ⟨_, rfl⟩
                      rw [hu1] at hst ⊢
                      have HS1 := Lib.hid hst
                      clear hst hu1 hb1 hxj hca hcj hIj hmcj hmj6
                      go_upto_region 40 with fail
                      rcases u1 with _ | _
                      · have rc : wq.cell? ⟨bg, og + n, none⟩ = some (.slice Ci mi ci) := RC.out
                        have ra : wq.cell? ⟨ba, oa + q, none⟩ = some (.slice Cj mj cj) := RA.out
                        refine wp_region_held_drew (S := fun wS => Below wq.heap.size wq wS) (by kernel_rfl) (drew_b _ _) (fun hS0 => ?_)
                        refine wpAnyH_take (i := 0) (oi := opLmo12) (v := .bool false) rfl (by kernel_rfl) (by kernel_rfl) (by kernel_rfl) (fun _ _ _ h => h) (Or.inl ⟨by rfl, by intro wS hSw; (try dsimp only at hSw);  have yrc := (hSw.cell (lt_of_cell rc)).trans rc; have yra := (hSw.cell (lt_of_cell ra)).trans ra;  go_simp⟩) hS0 ?_
                        try simp only [Act.put, List.setIfInBounds_toArray, List.set_cons_zero, List.set_cons_succ]
                        refine wpAnyH_take (i := 1) (oi := opLmo13) (v := .bool false) rfl (by kernel_rfl) (by kernel_rfl) (by kernel_rfl) (fun _ _ _ h => h) (Or.inl ⟨by rfl, by intro wS hSw; (try dsimp only at hSw);  have yrc := (hSw.cell (lt_of_cell rc)).trans rc; have yra := (hSw.cell (lt_of_cell ra)).trans ra;  go_simp⟩) hS0 ?_
                        try simp only [Act.put, List.setIfInBounds_toArray, List.set_cons_zero, List.set_cons_succ]
                        refine wpAnyH_take (i := 2) (oi := opLmo14) (v := .slice (some ⟨bg, og, none⟩) nb cb) rfl (by kernel_rfl) (by kernel_rfl) (by kernel_rfl) (fun _ _ _ h => h) (Or.inl ⟨by rfl, by intro wS hSw; (try dsimp only at hSw);  have yrc := (hSw.cell (lt_of_cell rc)).trans rc; have yra := (hSw.cell (lt_of_cell ra)).trans ra;  go_simp⟩) hS0 ?_
                        try simp only [Act.put, List.setIfInBounds_toArray, List.set_cons_zero, List.set_cons_succ]
                        refine wpAnyH_take (i := 3) (oi := opLmo15) (v := .int .i64 (n : Int)) rfl (by kernel_rfl) (by kernel_rfl) (by kernel_rfl) (fun _ _ _ h => h) (Or.inl ⟨by rfl, by intro wS hSw; (try dsimp only at hSw);  have yrc := (hSw.cell (lt_of_cell rc)).trans rc; have yra := (hSw.cell (lt_of_cell ra)).trans ra;  go_simp⟩) hS0 ?_
                        try simp only [Act.put, List.setIfInBounds_toArray, List.set_cons_zero, List.set_cons_succ]
                        refine wpAnyH_take (i := 4) (oi := opLmo16) (v := .pointer (some ⟨bg, og + n, none⟩)) rfl (by kernel_rfl) (by kernel_rfl) (by kernel_rfl) (fun _ _ _ h => h) (Or.inl ⟨by rfl, by intro wS hSw; (try dsimp only at hSw);  have yrc := (hSw.cell (lt_of_cell rc)).trans rc; have yra := (hSw.cell (lt_of_cell ra)).trans ra;  go_simp⟩) hS0 ?_
                        try simp only [Act.put, List.setIfInBounds_toArray, List.set_cons_zero, List.set_cons_succ]
                        refine wpAnyH_take (i := 5) (oi := opLmo17) (v := .slice Ci mi ci) rfl (by kernel_rfl) (by kernel_rfl) (by kernel_rfl) (fun _ _ _ h => h) (Or.inl ⟨by rfl, by intro wS hSw; (try dsimp only at hSw);  have yrc := (hSw.cell (lt_of_cell rc)).trans rc; have yra := (hSw.cell (lt_of_cell ra)).trans ra;  go_simp⟩) hS0 ?_
                        try simp only [Act.put, List.setIfInBounds_toArray, List.set_cons_zero, List.set_cons_succ]
                        refine wpAnyH_take (i := 6) (oi := opLmo18) (v := .slice (some ⟨ba, oa, none⟩) na cg) rfl (by kernel_rfl) (by kernel_rfl) (by kernel_rfl) (fun _ _ _ h => h) (Or.inl ⟨by rfl, by intro wS hSw; (try dsimp only at hSw);  have yrc := (hSw.cell (lt_of_cell rc)).trans rc; have yra := (hSw.cell (lt_of_cell ra)).trans ra;  go_simp⟩) hS0 ?_
                        try simp only [Act.put, List.setIfInBounds_toArray, List.set_cons_zero, List.set_cons_succ]
                        refine wpAnyH_take (i := 7) (oi := opLmo19) (v := .int .i64 (q : Int)) rfl (by kernel_rfl) (by kernel_rfl) (by kernel_rfl) (fun _ _ _ h => h) (Or.inl ⟨by rfl, by intro wS hSw; (try dsimp only at hSw);  have yrc := (hSw.cell (lt_of_cell rc)).trans rc; have yra := (hSw.cell (lt_of_cell ra)).trans ra;  go_simp⟩) hS0 ?_
                        try simp only [Act.put, List.setIfInBounds_toArray, List.set_cons_zero, List.set_cons_succ]
                        refine wpAnyH_take (i := 8) (oi := opLmo20) (v := .pointer (some ⟨ba, oa + q, none⟩)) rfl (by kernel_rfl) (by kernel_rfl) (by kernel_rfl) (fun _ _ _ h => h) (Or.inl ⟨by rfl, by intro wS hSw; (try dsimp only at hSw);  have yrc := (hSw.cell (lt_of_cell rc)).trans rc; have yra := (hSw.cell (lt_of_cell ra)).trans ra;  go_simp⟩) hS0 ?_
                        try simp only [Act.put, List.setIfInBounds_toArray, List.set_cons_zero, List.set_cons_succ]
                        refine wpAnyH_take (i := 9) (oi := opLmo21) (v := .slice Cj mj cj) rfl (by kernel_rfl) (by kernel_rfl) (by kernel_rfl) (fun _ _ _ h => h) (Or.inl ⟨by rfl, by intro wS hSw; (try dsimp only at hSw);  have yrc := (hSw.cell (lt_of_cell rc)).trans rc; have yra := (hSw.cell (lt_of_cell ra)).trans ra;  go_simp⟩) hS0 ?_
                        try simp only [Act.put, List.setIfInBounds_toArray, List.set_cons_zero, List.set_cons_succ]
                        refine wpAnyH_ready (rs := [10]) (by kernel_rfl) (by simp) ?_
                        refine AllReadyH.cons (o := opLmo22) rfl (fun K2 hK => ?_) AllReadyH.nil
                        go_simp
                        refine (inside39 Ci mi ci xi Cj mj cj xj _ (HIi.out.below hS0 (Nat.le_refl _)) (HIj.out.below hS0 (Nat.le_refl _)) Hm6.out Hmj6.out).mono ?_
                        rintro e9 wqv1 ⟨rfl, hb9⟩
                        replace hb9 := below_eq hb9
                        rw [HB1.out]
                        (try go_simp)
                        refine hK.out _ _ (hS0.trans (hb9.mono hS0.size)) (fun hS1 => ?_)
                        clear hK K2 hb9
                        try simp only [Act.put, List.setIfInBounds_toArray, List.set_cons_zero, List.set_cons_succ]
                        refine wpAnyH_take (i := 11) (oi := opLmo23) (v := .bool b1) rfl (by kernel_rfl) (by kernel_rfl) (by kernel_rfl) (fun _ _ _ h => h) (Or.inl ⟨by rfl, by intro wS hSw; (try dsimp only at hSw);  have yrc := (hSw.cell (lt_of_cell rc)).trans rc; have yra := (hSw.cell (lt_of_cell ra)).trans ra;  go_simp⟩) hS1 ?_
                        try simp only [Act.put, List.setIfInBounds_toArray, List.set_cons_zero, List.set_cons_succ]
                        refine wpAnyH_take (i := 12) (oi := opLmo24) (v := .bool b1) rfl (by kernel_rfl) (by kernel_rfl) (by kernel_rfl) (fun _ _ _ h => h) (Or.inl ⟨by rfl, by intro wS hSw; (try dsimp only at hSw);  have yrc := (hSw.cell (lt_of_cell rc)).trans rc; have yra := (hSw.cell (lt_of_cell ra)).trans ra;  go_simp⟩) hS1 ?_
                        try simp only [Act.put, List.setIfInBounds_toArray, List.set_cons_zero, List.set_cons_succ]
                        refine wpAnyH_done (by kernel_rfl) ?_ _
                        clear rc ra
                        have hb := hS1
                        clear hS0 hS1
                        replace RC := Lib.hid (RC.out.below hb (Nat.le_refl _))
                        replace RA := Lib.hid (RA.out.below hb (Nat.le_refl _))
                        replace HIi := Lib.hid (HIi.out.below hb (Nat.le_refl _))
                        replace HIj := Lib.hid (HIj.out.below hb (Nat.le_refl _))
                        replace HBq := Lib.hid (HBq.out.trans (hb.mono HBq.out.size))
                        clear hb
                        go_wp2_with fail
                        go_roundw
                        case rel => exact ⟨q + 1, by omega, by go_num, by rw [HS1.out] <;> rfl, HBq⟩
                        case measure => simp [intOf]; omega
                      · have rc : wq.cell? ⟨bg, og + n, none⟩ = some (.slice Ci mi ci) := RC.out
                        have ra : wq.cell? ⟨ba, oa + q, none⟩ = some (.slice Cj mj cj) := RA.out
                        refine wp_region_held_drew (S := fun wS => Below wq.heap.size wq wS) (by kernel_rfl) (drew_b _ _) (fun hS0 => ?_)
                        refine wpAnyH_take (i := 0) (oi := opLmo12) (v := .bool true) rfl (by kernel_rfl) (by kernel_rfl) (by kernel_rfl) (fun _ _ _ h => h) (Or.inl ⟨by rfl, by intro wS hSw; (try dsimp only at hSw);  have yrc := (hSw.cell (lt_of_cell rc)).trans rc; have yra := (hSw.cell (lt_of_cell ra)).trans ra;  go_simp⟩) hS0 ?_
                        try simp only [Act.put, List.setIfInBounds_toArray, List.set_cons_zero, List.set_cons_succ]
                        refine wpAnyH_take (i := 1) (oi := opLmo13) (v := .bool true) rfl (by kernel_rfl) (by kernel_rfl) (by kernel_rfl) (fun _ _ _ h => h) (Or.inl ⟨by rfl, by intro wS hSw; (try dsimp only at hSw);  have yrc := (hSw.cell (lt_of_cell rc)).trans rc; have yra := (hSw.cell (lt_of_cell ra)).trans ra;  go_simp⟩) hS0 ?_
                        try simp only [Act.put, List.setIfInBounds_toArray, List.set_cons_zero, List.set_cons_succ]
                        refine wpAnyH_take (i := 2) (oi := opLmo14) (v := undef) rfl (by kernel_rfl) (by kernel_rfl) (by kernel_rfl) (fun _ _ _ h => h) (Or.inr ⟨by rfl, rfl⟩) hS0 ?_
                        try simp only [Act.put, List.setIfInBounds_toArray, List.set_cons_zero, List.set_cons_succ]
                        refine wpAnyH_take (i := 3) (oi := opLmo15) (v := undef) rfl (by kernel_rfl) (by kernel_rfl) (by kernel_rfl) (fun _ _ _ h => h) (Or.inr ⟨by rfl, rfl⟩) hS0 ?_
                        try simp only [Act.put, List.setIfInBounds_toArray, List.set_cons_zero, List.set_cons_succ]
                        refine wpAnyH_take (i := 4) (oi := opLmo16) (v := undef) rfl (by kernel_rfl) (by kernel_rfl) (by kernel_rfl) (fun _ _ _ h => h) (Or.inr ⟨by rfl, rfl⟩) hS0 ?_
                        try simp only [Act.put, List.setIfInBounds_toArray, List.set_cons_zero, List.set_cons_succ]
                        refine wpAnyH_take (i := 5) (oi := opLmo17) (v := undef) rfl (by kernel_rfl) (by kernel_rfl) (by kernel_rfl) (fun _ _ _ h => h) (Or.inr ⟨by rfl, rfl⟩) hS0 ?_
                        try simp only [Act.put, List.setIfInBounds_toArray, List.set_cons_zero, List.set_cons_succ]
                        refine wpAnyH_take (i := 6) (oi := opLmo18) (v := undef) rfl (by kernel_rfl) (by kernel_rfl) (by kernel_rfl) (fun _ _ _ h => h) (Or.inr ⟨by rfl, rfl⟩) hS0 ?_
                        try simp only [Act.put, List.setIfInBounds_toArray, List.set_cons_zero, List.set_cons_succ]
                        refine wpAnyH_take (i := 7) (oi := opLmo19) (v := undef) rfl (by kernel_rfl) (by kernel_rfl) (by kernel_rfl) (fun _ _ _ h => h) (Or.inr ⟨by rfl, rfl⟩) hS0 ?_
                        try simp only [Act.put, List.setIfInBounds_toArray, List.set_cons_zero, List.set_cons_succ]
                        refine wpAnyH_take (i := 8) (oi := opLmo20) (v := undef) rfl (by kernel_rfl) (by kernel_rfl) (by kernel_rfl) (fun _ _ _ h => h) (Or.inr ⟨by rfl, rfl⟩) hS0 ?_
                        try simp only [Act.put, List.setIfInBounds_toArray, List.set_cons_zero, List.set_cons_succ]
                        refine wpAnyH_take (i := 9) (oi := opLmo21) (v := undef) rfl (by kernel_rfl) (by kernel_rfl) (by kernel_rfl) (fun _ _ _ h => h) (Or.inr ⟨by rfl, rfl⟩) hS0 ?_
                        try simp only [Act.put, List.setIfInBounds_toArray, List.set_cons_zero, List.set_cons_succ]
                        refine wpAnyH_take (i := 10) (oi := opLmo22) (v := undef) rfl (by kernel_rfl) (by kernel_rfl) (by kernel_rfl) (fun _ _ _ h => h) (Or.inr ⟨by rfl, rfl⟩) hS0 ?_
                        try simp only [Act.put, List.setIfInBounds_toArray, List.set_cons_zero, List.set_cons_succ]
                        refine wpAnyH_take (i := 11) (oi := opLmo23) (v := .bool true) rfl (by kernel_rfl) (by kernel_rfl) (by kernel_rfl) (fun _ _ _ h => h) (Or.inl ⟨by rfl, by intro wS hSw; (try dsimp only at hSw);  have yrc := (hSw.cell (lt_of_cell rc)).trans rc; have yra := (hSw.cell (lt_of_cell ra)).trans ra;  go_simp⟩) hS0 ?_
                        try simp only [Act.put, List.setIfInBounds_toArray, List.set_cons_zero, List.set_cons_succ]
                        refine wpAnyH_take (i := 12) (oi := opLmo24) (v := .bool true) rfl (by kernel_rfl) (by kernel_rfl) (by kernel_rfl) (fun _ _ _ h => h) (Or.inl ⟨by rfl, by intro wS hSw; (try dsimp only at hSw);  have yrc := (hSw.cell (lt_of_cell rc)).trans rc; have yra := (hSw.cell (lt_of_cell ra)).trans ra;  go_simp⟩) hS0 ?_
                        try simp only [Act.put, List.setIfInBounds_toArray, List.set_cons_zero, List.set_cons_succ]
                        refine wpAnyH_done (by kernel_rfl) ?_ _
                        clear rc ra
                        obtain ⟨wqd, hwd⟩ : ∃ v, wq.drew = v := ⟨_, rfl⟩
                        have hb := hS0
                        rw [hwd] at hb ⊢
                        clear hS0 hwd
                        replace RC := Lib.hid (RC.out.below hb (Nat.le_refl _))
                        replace RA := Lib.hid (RA.out.below hb (Nat.le_refl _))
                        replace HIi := Lib.hid (HIi.out.below hb (Nat.le_refl _))
                        replace HIj := Lib.hid (HIj.out.below hb (Nat.le_refl _))
                        replace HBq := Lib.hid (HBq.out.trans (hb.mono HBq.out.size))
                        clear hb
                        go_wp2_with fail
                        go_roundw
                        case rel => exact ⟨q + 1, by omega, by go_num, by rw [HS1.out] <;> rfl, HBq⟩
                        case measure => simp [intOf]; omega
                    · obtain rfl : q = na := by omega
                      rw [HYES.out]
                      go_wp2_with fail
                      go_roundw
                      case rel => exact ⟨n + 1, by have := Hlt.out; omega, by go_num, HBq⟩
                      case measure => have := Hlt.out; simp [intOf]; omega
                · obtain rfl : n = nb := by omega
                  have HBB := Lib.hid (B.out.trans (HBk.out.mono B.out.size))
                  go_wp2_with fail
                  refine (works14 wk).mono ?_
                  rintro en w8 ⟨rfl, hb⟩
                  replace HBB := Lib.hid (HBB.out.trans (hb.mono HBB.out.size))
                  clear hb
                  go_wp2_with fail
                  go_ret
                  exact ⟨rfl, HBB.out⟩
end
end Go.Proofs.Ytigohccehllmnaa
