/- Stage 6: NameParted. -/
import Derived.Test.YtigohccehllmnaaPm
import Derived.Test.YtigohccehllmnaaCa
import Derived.Test.YtigohccehllmnaaGa
namespace Go.Proofs.Ytigohccehllmnaa
set_option linter.unusedSimpArgs false
set_option linter.unusedVariables false
open Go.RowKit Go.Shelf
abbrev opLpa0 : Oper := { dst := some 80, op := Go.Op.move (Go.Operand.tmp 16), type := 4, pos := "outright.go:62", after := #[], guard := none }
abbrev opLpa1 : Oper := { dst := some 81, op := Go.Op.move (Go.Operand.tmp 80), type := 4, pos := "outright.go:62", after := #[{ on := 0, ground := Go.Ground.data }], guard := none }
abbrev opLpa2 : Oper := { dst := some 82, op := Go.Op.fieldAddr 25 (Go.Operand.tmp 3) 2, type := 0, pos := "outright.go:62", after := #[{ on := 1, ground := Go.Ground.guard }], guard := some (1, false) }
abbrev opLpa3 : Oper := { dst := some 83, op := Go.Op.load 23 (Go.Operand.tmp 82), type := 23, pos := "outright.go:62", after := #[{ on := 2, ground := Go.Ground.data }, { on := 1, ground := Go.Ground.guard }], guard := some (1, false) }
abbrev opLpa4 : Oper := { dst := some 84, op := Go.Op.move (Go.Operand.tmp 13), type := 28, pos := "outright.go:62", after := #[{ on := 1, ground := Go.Ground.guard }], guard := some (1, false) }
abbrev opLpa5 : Oper := { dst := some 85, op := Go.Op.move (Go.Operand.tmp 15), type := 3, pos := "outright.go:62", after := #[{ on := 1, ground := Go.Ground.guard }], guard := some (1, false) }
abbrev opLpa6 : Oper := { dst := some 86, op := Go.Op.indexAddr 28 (Go.Operand.tmp 84) (Go.Operand.tmp 85), type := 0, pos := "outright.go:62", after := #[{ on := 4, ground := Go.Ground.data }, { on := 5, ground := Go.Ground.data }, { on := 1, ground := Go.Ground.guard }], guard := some (1, false) }
abbrev opLpa7 : Oper := { dst := some 87, op := Go.Op.load 23 (Go.Operand.tmp 86), type := 23, pos := "outright.go:62", after := #[{ on := 6, ground := Go.Ground.data }, { on := 1, ground := Go.Ground.guard }], guard := some (1, false) }
abbrev opLpa8 : Oper := { dst := some 88, op := Go.Op.move (Go.Operand.tmp 18), type := 3, pos := "outright.go:62", after := #[{ on := 1, ground := Go.Ground.guard }], guard := some (1, false) }
abbrev opLpa9 : Oper := { dst := some 89, op := Go.Op.indexAddr 23 (Go.Operand.tmp 87) (Go.Operand.tmp 88), type := 0, pos := "outright.go:62", after := #[{ on := 7, ground := Go.Ground.data }, { on := 8, ground := Go.Ground.data }, { on := 1, ground := Go.Ground.guard }], guard := some (1, false) }
abbrev opLpa10 : Oper := { dst := some 90, op := Go.Op.load 3 (Go.Operand.tmp 89), type := 3, pos := "outright.go:62", after := #[{ on := 9, ground := Go.Ground.data }, { on := 1, ground := Go.Ground.guard }], guard := some (1, false) }
abbrev opLpa11 : Oper := { dst := some 91, op := Go.Op.call { callee := Go.Callee.value (Go.Operand.func 38), args := #[Go.Operand.tmp 83, Go.Operand.tmp 90], argTypes := #[23, 3] }, type := 4, pos := "outright.go:62", after := #[{ on := 3, ground := Go.Ground.data }, { on := 10, ground := Go.Ground.data }, { on := 1, ground := Go.Ground.chain }, { on := 1, ground := Go.Ground.guard }], guard := some (1, false) }
abbrev opLpa12 : Oper := { dst := some 92, op := Go.Op.pick (Go.Operand.tmp 81) (Go.Operand.const (Go.Value.bool true)) (Go.Operand.tmp 91), type := 4, pos := "outright.go:62", after := #[{ on := 1, ground := Go.Ground.data }, { on := 11, ground := Go.Ground.data }], guard := none }
abbrev opLpa13 : Oper := { dst := some 16, op := Go.Op.assign (Go.Operand.tmp 92), type := 4, pos := "outright.go:62", after := #[{ on := 12, ground := Go.Ground.data }, { on := 11, ground := Go.Ground.chain }, { on := 0, ground := Go.Ground.phase }, { on := 1, ground := Go.Ground.phase }, { on := 2, ground := Go.Ground.phase }, { on := 3, ground := Go.Ground.phase }, { on := 4, ground := Go.Ground.phase }, { on := 5, ground := Go.Ground.phase }, { on := 6, ground := Go.Ground.phase }, { on := 7, ground := Go.Ground.phase }, { on := 8, ground := Go.Ground.phase }, { on := 9, ground := Go.Ground.phase }, { on := 10, ground := Go.Ground.phase }, { on := 11, ground := Go.Ground.phase }, { on := 12, ground := Go.Ground.phase }], guard := none }
abbrev opLpa14 : Oper := { dst := some 93, op := Go.Op.move (Go.Operand.tmp 17), type := 4, pos := "outright.go:63", after := #[], guard := none }
abbrev opLpa15 : Oper := { dst := some 94, op := Go.Op.move (Go.Operand.tmp 93), type := 4, pos := "outright.go:63", after := #[{ on := 0, ground := Go.Ground.data }], guard := none }
abbrev opLpa16 : Oper := { dst := some 95, op := Go.Op.fieldAddr 25 (Go.Operand.tmp 3) 3, type := 0, pos := "outright.go:63", after := #[{ on := 1, ground := Go.Ground.guard }], guard := some (1, false) }
abbrev opLpa17 : Oper := { dst := some 96, op := Go.Op.load 23 (Go.Operand.tmp 95), type := 23, pos := "outright.go:63", after := #[{ on := 2, ground := Go.Ground.data }, { on := 1, ground := Go.Ground.guard }], guard := some (1, false) }
abbrev opLpa18 : Oper := { dst := some 97, op := Go.Op.move (Go.Operand.tmp 13), type := 28, pos := "outright.go:63", after := #[{ on := 1, ground := Go.Ground.guard }], guard := some (1, false) }
abbrev opLpa19 : Oper := { dst := some 98, op := Go.Op.move (Go.Operand.tmp 15), type := 3, pos := "outright.go:63", after := #[{ on := 1, ground := Go.Ground.guard }], guard := some (1, false) }
abbrev opLpa20 : Oper := { dst := some 99, op := Go.Op.indexAddr 28 (Go.Operand.tmp 97) (Go.Operand.tmp 98), type := 0, pos := "outright.go:63", after := #[{ on := 4, ground := Go.Ground.data }, { on := 5, ground := Go.Ground.data }, { on := 1, ground := Go.Ground.guard }], guard := some (1, false) }
abbrev opLpa21 : Oper := { dst := some 100, op := Go.Op.load 23 (Go.Operand.tmp 99), type := 23, pos := "outright.go:63", after := #[{ on := 6, ground := Go.Ground.data }, { on := 1, ground := Go.Ground.guard }], guard := some (1, false) }
abbrev opLpa22 : Oper := { dst := some 101, op := Go.Op.move (Go.Operand.tmp 18), type := 3, pos := "outright.go:63", after := #[{ on := 1, ground := Go.Ground.guard }], guard := some (1, false) }
abbrev opLpa23 : Oper := { dst := some 102, op := Go.Op.indexAddr 23 (Go.Operand.tmp 100) (Go.Operand.tmp 101), type := 0, pos := "outright.go:63", after := #[{ on := 7, ground := Go.Ground.data }, { on := 8, ground := Go.Ground.data }, { on := 1, ground := Go.Ground.guard }], guard := some (1, false) }
abbrev opLpa24 : Oper := { dst := some 103, op := Go.Op.load 3 (Go.Operand.tmp 102), type := 3, pos := "outright.go:63", after := #[{ on := 9, ground := Go.Ground.data }, { on := 1, ground := Go.Ground.guard }], guard := some (1, false) }
abbrev opLpa25 : Oper := { dst := some 104, op := Go.Op.call { callee := Go.Callee.value (Go.Operand.func 38), args := #[Go.Operand.tmp 96, Go.Operand.tmp 103], argTypes := #[23, 3] }, type := 4, pos := "outright.go:63", after := #[{ on := 3, ground := Go.Ground.data }, { on := 10, ground := Go.Ground.data }, { on := 1, ground := Go.Ground.chain }, { on := 1, ground := Go.Ground.guard }], guard := some (1, false) }
abbrev opLpa26 : Oper := { dst := some 105, op := Go.Op.pick (Go.Operand.tmp 94) (Go.Operand.const (Go.Value.bool true)) (Go.Operand.tmp 104), type := 4, pos := "outright.go:63", after := #[{ on := 1, ground := Go.Ground.data }, { on := 11, ground := Go.Ground.data }], guard := none }
abbrev opLpa27 : Oper := { dst := some 17, op := Go.Op.assign (Go.Operand.tmp 105), type := 4, pos := "outright.go:63", after := #[{ on := 12, ground := Go.Ground.data }, { on := 11, ground := Go.Ground.chain }, { on := 0, ground := Go.Ground.phase }, { on := 1, ground := Go.Ground.phase }, { on := 2, ground := Go.Ground.phase }, { on := 3, ground := Go.Ground.phase }, { on := 4, ground := Go.Ground.phase }, { on := 5, ground := Go.Ground.phase }, { on := 6, ground := Go.Ground.phase }, { on := 7, ground := Go.Ground.phase }, { on := 8, ground := Go.Ground.phase }, { on := 9, ground := Go.Ground.phase }, { on := 10, ground := Go.Ground.phase }, { on := 11, ground := Go.Ground.phase }, { on := 12, ground := Go.Ground.phase }], guard := none }

theorem fine_yes {l : NL} (h : fineL l = true) : grtL l = false ∧ chkL l = 0 := by
  unfold fineL at h
  simpa using h
theorem mem_getD2 {gl : List (List Int)} {n : Nat} (h : n < gl.length) : gl.getD n [] ∈ gl := by simp [List.getD, h]
theorem mem_idx2 {zs : List Int} {n : Nat} (hn : zs.length = n) {p : Int → Bool} (h : ∀ k, k < n → p (iAt zs k) = true) : ∀ x ∈ zs, p x = true := fun x hx => by
  obtain ⟨k, hk, rfl⟩ := mem_idx hx
  exact h k (by omega)
section
attribute [local go_sem ↓] exec_app at_app
attribute [local go_sem] Oper.semAt_some
set_option maxRecDepth 100000 in
set_option maxHeartbeats 40000000 in
theorem parted8 (l : NL) (x xa xb : Nat) (w : World) (h : NLo w l) (hx : x ≤ 18446744073709551615) (hxa : xa ≤ 18446744073709551615) (hxb : xb ≤ 18446744073709551615) :
    Calls Try.prog 8 #[.agg #[.int .i64 l.N, .slice l.A l.n l.cap, .slice l.LA l.ln l.lc, .slice l.RA l.rn l.rc], .int .u64 (x : Int), .agg #[.int .u64 (xa : Int), .int .u64 (xb : Int)]] w fun e w' => e = .returned (.bool true) ∧ Below w.heap.size w w' := by
  obtain ⟨R, hR⟩ : ∃ v, w.heap.size = v := ⟨_, rfl⟩
  have hb0 := below_alloc_ w (.cells #[.int .i64 l.N, .slice l.A l.n l.cap, .slice l.LA l.ln l.lc, .slice l.RA l.rn l.rc] 25)
  have hr0 := heap_alloc_new_ w (.cells #[.int .i64 l.N, .slice l.A l.n l.cap, .slice l.LA l.ln l.lc, .slice l.RA l.rn l.rc] 25)
  have hz0 : (w.alloc (.cells #[.int .i64 l.N, .slice l.A l.n l.cap, .slice l.LA l.ln l.lc, .slice l.RA l.rn l.rc] 25)).heap.size = w.heap.size + 1 := by simp
  obtain ⟨wb0, hwb0⟩ : ∃ v, w.alloc (.cells #[.int .i64 l.N, .slice l.A l.n l.cap, .slice l.LA l.ln l.lc, .slice l.RA l.rn l.rc] 25) = v := ⟨_, rfl⟩
  rw [hwb0] at hb0 hr0 hz0
  rw [hR] at hr0 hz0
  have hB := hb0
  have hb1 := below_alloc_ wb0 (.cells #[.int .u64 (xa : Int), .int .u64 (xb : Int)] 56)
  have hr1 := heap_alloc_new_ wb0 (.cells #[.int .u64 (xa : Int), .int .u64 (xb : Int)] 56)
  have hz1 : (wb0.alloc (.cells #[.int .u64 (xa : Int), .int .u64 (xb : Int)] 56)).heap.size = wb0.heap.size + 1 := by simp
  obtain ⟨w0, hw0⟩ : ∃ v, wb0.alloc (.cells #[.int .u64 (xa : Int), .int .u64 (xb : Int)] 56) = v := ⟨_, rfl⟩
  rw [hw0] at hb1 hr1 hz1
  rw [hz0] at hr1 hz1
  replace hr0 := (hb1.block _ (lt_of_block hr0)).trans hr0
  replace hB := hB.trans (hb1.mono hB.size)
  have LO := Lib.hid (h.below hB (Nat.le_refl _))
  have X := Lib.hid hr0
  have Y := Lib.hid hr1
  have HW0 := Lib.hid hwb0
  have HW1 := Lib.hid hw0
  have B := Lib.hid hB
  have HR := Lib.hid hR
  clear hB hR hb0 hr0 hz0 hwb0 hb1 hr1 hz1 hw0 h
  have Hx := Lib.hid hx
  have Hxa := Lib.hid hxa
  have Hxb := Lib.hid hxb
  clear hx hxa hxb
  have ltX : R < w0.heap.size := lt_of_block X.out
  have zX0 : w0.cell? ⟨R, 0, none⟩ = some (.int .i64 l.N) := by rw [cell_row X.out]; rfl
  have zX1 : w0.cell? ⟨R, 1, none⟩ = some (.slice l.A l.n l.cap) := by rw [cell_row X.out]; rfl
  have zX2 : w0.cell? ⟨R, 2, none⟩ = some (.slice l.LA l.ln l.lc) := by rw [cell_row X.out]; rfl
  have zX3 : w0.cell? ⟨R, 3, none⟩ = some (.slice l.RA l.rn l.rc) := by rw [cell_row X.out]; rfl
  have ltY : R + 1 < w0.heap.size := lt_of_block Y.out
  have zY0 : w0.cell? ⟨R + 1, 0, none⟩ = some (.int .u64 (xa : Int)) := by rw [cell_row Y.out]; rfl
  have zY1 : w0.cell? ⟨R + 1, 1, none⟩ = some (.int .u64 (xb : Int)) := by rw [cell_row Y.out]; rfl
  go_enter Try.func8, Try.ntmps8
  go_wp2_with fail
  try rw [HW0.out]
  try rw [HW1.out]
  try rw [HR.out]
  try simp only [Nat.add_assoc, Nat.reduceAdd]
  try go_wp2_with fail
  clear zX0 zX1 zX2 zX3 zY0 zY1 ltX ltY
  refine (fineO l w0 LO.out).mono ?_
  rintro en w1 ⟨rfl, hb⟩
  replace LO := Lib.hid (LO.out.below hb (Nat.le_refl _))
  replace X := Lib.hid ((hb.block _ (lt_of_block X.out)).trans X.out)
  replace Y := Lib.hid ((hb.block _ (lt_of_block Y.out)).trans Y.out)
  replace B := Lib.hid (B.out.trans (hb.mono B.out.size))
  cases hg : fineL l
  try clear hb
  · clear hg
    have ltX : R < w1.heap.size := lt_of_block X.out
    have zX0 : w1.cell? ⟨R, 0, none⟩ = some (.int .i64 l.N) := by rw [cell_row X.out]; rfl
    have zX1 : w1.cell? ⟨R, 1, none⟩ = some (.slice l.A l.n l.cap) := by rw [cell_row X.out]; rfl
    have zX2 : w1.cell? ⟨R, 2, none⟩ = some (.slice l.LA l.ln l.lc) := by rw [cell_row X.out]; rfl
    have zX3 : w1.cell? ⟨R, 3, none⟩ = some (.slice l.RA l.rn l.rc) := by rw [cell_row X.out]; rfl
    have ltY : R + 1 < w1.heap.size := lt_of_block Y.out
    have zY0 : w1.cell? ⟨R + 1, 0, none⟩ = some (.int .u64 (xa : Int)) := by rw [cell_row Y.out]; rfl
    have zY1 : w1.cell? ⟨R + 1, 1, none⟩ = some (.int .u64 (xb : Int)) := by rw [cell_row Y.out]; rfl
    go_wp2_with fail
    clear zX0 zX1 zX2 zX3 zY0 zY1 ltX ltY
    refine (works14 w1).mono ?_
    rintro en w2 ⟨rfl, hb⟩
    replace B := Lib.hid (B.out.trans (hb.mono B.out.size))
    clear hb
    go_wp2_with fail
    go_ret
    exact ⟨rfl, B.out⟩
  have S := Lib.hid (LO.out.nls (fine_yes hg).1)
  have HCH := Lib.hid (fine_yes hg).2
  clear hg
  have hN := (chk_zero HCH.out).1
  obtain ⟨c, hcN⟩ : ∃ c : Nat, l.N = (c : Int) := ⟨l.N.toNat, by omega⟩
  have HCN := Lib.hid hcN
  have HTO := Lib.hid (show l.N.toNat = c by omega)
  have HC40 := Lib.hid (show c ≤ 40 by omega)
  have HN12 := Lib.hid (chk_zero HCH.out).2.1
  clear hN hcN
  have ltX : R < w1.heap.size := lt_of_block X.out
  have zX0 : w1.cell? ⟨R, 0, none⟩ = some (.int .i64 l.N) := by rw [cell_row X.out]; rfl
  have zX1 : w1.cell? ⟨R, 1, none⟩ = some (.slice l.A l.n l.cap) := by rw [cell_row X.out]; rfl
  have zX2 : w1.cell? ⟨R, 2, none⟩ = some (.slice l.LA l.ln l.lc) := by rw [cell_row X.out]; rfl
  have zX3 : w1.cell? ⟨R, 3, none⟩ = some (.slice l.RA l.rn l.rc) := by rw [cell_row X.out]; rfl
  have ltY : R + 1 < w1.heap.size := lt_of_block Y.out
  have zY0 : w1.cell? ⟨R + 1, 0, none⟩ = some (.int .u64 (xa : Int)) := by rw [cell_row Y.out]; rfl
  have zY1 : w1.cell? ⟨R + 1, 1, none⟩ = some (.int .u64 (xb : Int)) := by rw [cell_row Y.out]; rfl
  go_wp2_with fail
  clear zX0 zX1 zX2 zX3 zY0 zY1 ltX ltY
  refine (side36 l x c w1 S.out HCH.out HCN.out Hx.out).mono ?_
  rintro en w2 ⟨C6, c6, rfl, hc6, hI6, hb⟩
  replace LO := Lib.hid (LO.out.below hb (Nat.le_refl _))
  replace S := Lib.hid (S.out.below hb (Nat.le_refl _))
  replace X := Lib.hid ((hb.block _ (lt_of_block X.out)).trans X.out)
  replace Y := Lib.hid ((hb.block _ (lt_of_block Y.out)).trans Y.out)
  replace B := Lib.hid (B.out.trans (hb.mono B.out.size))
  obtain ⟨n6, hn6⟩ : ∃ v, (nmK (sdP l x) c).length = v := ⟨_, rfl⟩
  rw [hn6] at hI6 hc6 ⊢
  have H6 := Lib.hid hI6
  have Hc6 := Lib.hid hc6
  clear hI6 hc6 hn6
  try clear hb
  have ltX : R < w2.heap.size := lt_of_block X.out
  have zX0 : w2.cell? ⟨R, 0, none⟩ = some (.int .i64 l.N) := by rw [cell_row X.out]; rfl
  have zX1 : w2.cell? ⟨R, 1, none⟩ = some (.slice l.A l.n l.cap) := by rw [cell_row X.out]; rfl
  have zX2 : w2.cell? ⟨R, 2, none⟩ = some (.slice l.LA l.ln l.lc) := by rw [cell_row X.out]; rfl
  have zX3 : w2.cell? ⟨R, 3, none⟩ = some (.slice l.RA l.rn l.rc) := by rw [cell_row X.out]; rfl
  have ltY : R + 1 < w2.heap.size := lt_of_block Y.out
  have zY0 : w2.cell? ⟨R + 1, 0, none⟩ = some (.int .u64 (xa : Int)) := by rw [cell_row Y.out]; rfl
  have zY1 : w2.cell? ⟨R + 1, 1, none⟩ = some (.int .u64 (xb : Int)) := by rw [cell_row Y.out]; rfl
  go_wp2_with fail
  clear zX0 zX1 zX2 zX3 zY0 zY1 ltX ltY
  refine (cutS l (sdP l x) c C6 n6 c6 (nmK (sdP l x) c) w2 S.out HCH.out HCN.out rfl H6.out Hc6.out (sdP_side HCH.out x)).mono ?_
  rintro en w3 ⟨CC, cc, rfl, hcc, hI, hb⟩
  replace LO := Lib.hid (LO.out.below hb (Nat.le_refl _))
  replace S := Lib.hid (S.out.below hb (Nat.le_refl _))
  replace H6 := Lib.hid (H6.out.below hb (Nat.le_refl _))
  replace X := Lib.hid ((hb.block _ (lt_of_block X.out)).trans X.out)
  replace Y := Lib.hid ((hb.block _ (lt_of_block Y.out)).trans Y.out)
  replace B := Lib.hid (B.out.trans (hb.mono B.out.size))
  obtain ⟨z7, hz7⟩ : ∃ v, costS l.zs (sdP l x) = v := ⟨_, rfl⟩
  rw [hz7]
  have HLD := Lib.hid (layE_ct HCH.out (sdP l x))
  have HJN := Lib.hid (cut_parts S.out (sdP_side HCH.out x) HLD.out (fun _ h => h))
  obtain ⟨ds, hds⟩ : ∃ v, ctS l (sdP l x) = v := ⟨_, rfl⟩
  rw [hds] at hcc hI HLD HJN ⊢
  have HDS := Lib.hid hds
  obtain ⟨nc, hnc⟩ : ∃ v, ds.length = v := ⟨_, rfl⟩
  rw [hnc] at hcc hI ⊢
  have HC := Lib.hid hI
  have Hcc := Lib.hid hcc
  have HC6 := Lib.hid (show nc ≤ 1000000 by rw [← hnc, ← hds]; have := HN12.out; have := nmK_len (fun y => cutB l.zs (sdP l x) y.toNat) l.n; unfold ctS; omega)
  clear hI hcc hz7 hds hnc
  try clear hb
  clear H6
  have ltX : R < w3.heap.size := lt_of_block X.out
  have zX0 : w3.cell? ⟨R, 0, none⟩ = some (.int .i64 l.N) := by rw [cell_row X.out]; rfl
  have zX1 : w3.cell? ⟨R, 1, none⟩ = some (.slice l.A l.n l.cap) := by rw [cell_row X.out]; rfl
  have zX2 : w3.cell? ⟨R, 2, none⟩ = some (.slice l.LA l.ln l.lc) := by rw [cell_row X.out]; rfl
  have zX3 : w3.cell? ⟨R, 3, none⟩ = some (.slice l.RA l.rn l.rc) := by rw [cell_row X.out]; rfl
  have ltY : R + 1 < w3.heap.size := lt_of_block Y.out
  have zY0 : w3.cell? ⟨R + 1, 0, none⟩ = some (.int .u64 (xa : Int)) := by rw [cell_row Y.out]; rfl
  have zY1 : w3.cell? ⟨R + 1, 1, none⟩ = some (.int .u64 (xb : Int)) := by rw [cell_row Y.out]; rfl
  go_wp2_with fail
  clear zX0 zX1 zX2 zX3 zY0 zY1 ltX ltY
  refine (chainA l CC nc cc ds w3 S.out HC.out Hcc.out HC6.out).mono ?_
  rintro en w4 ⟨CP, np, cpp, ps, rfl, -, -, -, -, -, hb⟩
  replace LO := Lib.hid (LO.out.below hb (Nat.le_refl _))
  replace S := Lib.hid (S.out.below hb (Nat.le_refl _))
  replace HC := Lib.hid (HC.out.below hb (Nat.le_refl _))
  replace X := Lib.hid ((hb.block _ (lt_of_block X.out)).trans X.out)
  replace Y := Lib.hid ((hb.block _ (lt_of_block Y.out)).trans Y.out)
  replace B := Lib.hid (B.out.trans (hb.mono B.out.size))
  rw [show chE l ds = 5 by rw [chE_ok HLD.out, HJN.out]; rfl]
  try clear hb
  have ltX : R < w4.heap.size := lt_of_block X.out
  have zX0 : w4.cell? ⟨R, 0, none⟩ = some (.int .i64 l.N) := by rw [cell_row X.out]; rfl
  have zX1 : w4.cell? ⟨R, 1, none⟩ = some (.slice l.A l.n l.cap) := by rw [cell_row X.out]; rfl
  have zX2 : w4.cell? ⟨R, 2, none⟩ = some (.slice l.LA l.ln l.lc) := by rw [cell_row X.out]; rfl
  have zX3 : w4.cell? ⟨R, 3, none⟩ = some (.slice l.RA l.rn l.rc) := by rw [cell_row X.out]; rfl
  have ltY : R + 1 < w4.heap.size := lt_of_block Y.out
  have zY0 : w4.cell? ⟨R + 1, 0, none⟩ = some (.int .u64 (xa : Int)) := by rw [cell_row Y.out]; rfl
  have zY1 : w4.cell? ⟨R + 1, 1, none⟩ = some (.int .u64 (xb : Int)) := by rw [cell_row Y.out]; rfl
  go_wp2_with fail
  clear zX0 zX1 zX2 zX3 zY0 zY1 ltX ltY
  refine (groupsA l CC nc cc ds w4 S.out HC.out Hcc.out HC6.out).mono ?_
  rintro en w5 ⟨CG, cg, rfl, hcg, hR, hb⟩
  replace LO := Lib.hid (LO.out.below hb (Nat.le_refl _))
  replace S := Lib.hid (S.out.below hb (Nat.le_refl _))
  replace HC := Lib.hid (HC.out.below hb (Nat.le_refl _))
  replace X := Lib.hid ((hb.block _ (lt_of_block X.out)).trans X.out)
  replace Y := Lib.hid ((hb.block _ (lt_of_block Y.out)).trans Y.out)
  replace B := Lib.hid (B.out.trans (hb.mono B.out.size))
  have hap : ∀ g ∈ docG l ds, (g.any (fun y => decide (y ∈ l.ls)) && g.any (fun y => decide (y ∈ l.rs))) = false := fun g hg => by
    rw [docG_ok HLD.out] at hg
    exact dg_apart hg HJN.out
  have hsm := docG_small (l := l) (ds := ds)
  obtain ⟨gl, hgl⟩ : ∃ v, docG l ds = v := ⟨_, rfl⟩
  rw [hgl] at hap hsm hR ⊢
  rw [HLD.out]
  have HAP := Lib.hid hap
  obtain ⟨ng, hng⟩ : ∃ v, gl.length = v := ⟨_, rfl⟩
  rw [hng] at hsm hR ⊢
  have HNG := Lib.hid hng
  have HSM := Lib.hid hsm
  have HG := Lib.hid hR
  clear hap hgl hsm hR hcg hng
  try clear hb
  have ltX : R < w5.heap.size := lt_of_block X.out
  have zX0 : w5.cell? ⟨R, 0, none⟩ = some (.int .i64 l.N) := by rw [cell_row X.out]; rfl
  have zX1 : w5.cell? ⟨R, 1, none⟩ = some (.slice l.A l.n l.cap) := by rw [cell_row X.out]; rfl
  have zX2 : w5.cell? ⟨R, 2, none⟩ = some (.slice l.LA l.ln l.lc) := by rw [cell_row X.out]; rfl
  have zX3 : w5.cell? ⟨R, 3, none⟩ = some (.slice l.RA l.rn l.rc) := by rw [cell_row X.out]; rfl
  have ltY : R + 1 < w5.heap.size := lt_of_block Y.out
  have zY0 : w5.cell? ⟨R + 1, 0, none⟩ = some (.int .u64 (xa : Int)) := by rw [cell_row Y.out]; rfl
  have zY1 : w5.cell? ⟨R + 1, 1, none⟩ = some (.int .u64 (xb : Int)) := by rw [cell_row Y.out]; rfl
  go_wp2_with fail
  clear zX0 zX1 zX2 zX3 zY0 zY1 ltX ltY
  refine (joined37 l CC nc cc ds c w5 S.out HC.out HC6.out HCH.out HCN.out).mono ?_
  rintro en w6 ⟨rfl, hb⟩
  replace LO := Lib.hid (LO.out.below hb (Nat.le_refl _))
  replace S := Lib.hid (S.out.below hb (Nat.le_refl _))
  replace HC := Lib.hid (HC.out.below hb (Nat.le_refl _))
  replace HG := Lib.hid (HG.out.below hb (Nat.le_refl _))
  replace X := Lib.hid ((hb.block _ (lt_of_block X.out)).trans X.out)
  replace Y := Lib.hid ((hb.block _ (lt_of_block Y.out)).trans Y.out)
  replace B := Lib.hid (B.out.trans (hb.mono B.out.size))
  rw [← HTO.out, HJN.out]
  try clear hb
  have ltX : R < w6.heap.size := lt_of_block X.out
  have zX0 : w6.cell? ⟨R, 0, none⟩ = some (.int .i64 l.N) := by rw [cell_row X.out]; rfl
  have zX1 : w6.cell? ⟨R, 1, none⟩ = some (.slice l.A l.n l.cap) := by rw [cell_row X.out]; rfl
  have zX2 : w6.cell? ⟨R, 2, none⟩ = some (.slice l.LA l.ln l.lc) := by rw [cell_row X.out]; rfl
  have zX3 : w6.cell? ⟨R, 3, none⟩ = some (.slice l.RA l.rn l.rc) := by rw [cell_row X.out]; rfl
  have ltY : R + 1 < w6.heap.size := lt_of_block Y.out
  have zY0 : w6.cell? ⟨R + 1, 0, none⟩ = some (.int .u64 (xa : Int)) := by rw [cell_row Y.out]; rfl
  have zY1 : w6.cell? ⟨R + 1, 1, none⟩ = some (.int .u64 (xb : Int)) := by rw [cell_row Y.out]; rfl
  go_wp2_with fail
  clear zX0 zX1 zX2 zX3 zY0 zY1 ltX ltY
  go_loopw [15, 16, 17, 18] (fun i a1 a2 a3 wr => ∃ n : Nat, n ≤ ng ∧ i = .int .i64 (n : Int) ∧ Hid (Below w6.heap.size w6 wr)) (fun i a1 a2 a3 _ => ng - (intOf i).toNat)
  case atStart => exact ⟨0, Nat.zero_le _, rfl, Lib.hid (Below.refl _ _)⟩
  case round =>
    obtain ⟨n, hn9, rfl, HBk⟩ := hrel
    obtain ⟨wk, rfl⟩ : ∃ wk, wk = wr := ⟨_, rfl⟩
    have hsm := HSM.out.1
    by_cases hlt : n < ng
    · obtain ⟨bg, og, hA, hcz⟩ := HG.out.2 (by omega)
      obtain ⟨Ci, mi, ci, hci, hIi, hmc, hm6⟩ := hcz n hlt
      subst hA
      have hap : (gl.getD n []).any (fun y => decide (y ∈ l.ls)) = false ∨ (gl.getD n []).any (fun y => decide (y ∈ l.rs)) = false := by
        have := HAP.out _ (mem_getD2 (by rw [HNG.out]; exact hlt))
        rwa [Bool.and_eq_false_iff] at this
      obtain ⟨xi, hxi⟩ : ∃ v, gl.getD n [] = v := ⟨_, rfl⟩
      rw [hxi] at hIi hap
      have HA9 := Lib.hid hap
      have RC0 := Lib.hid (show CellV w6 bg (og + n) (.slice Ci mi ci) from hci)
      have HI0 := Lib.hid hIi
      have Hm6 := Lib.hid hm6
      have Hlt := Lib.hid hlt
      clear hap hxi hcz hci hIi hmc hm6
      go_wp2_with fail
      go_loopw [16, 17, 18] (fun a b k wr => ∃ q : Nat, q ≤ mi ∧ k = .int .i64 (q : Int) ∧ a = .bool (anyK (fun y => decide (y ∈ l.ls)) xi q) ∧ b = .bool (anyK (fun y => decide (y ∈ l.rs)) xi q) ∧ Hid (Below w6.heap.size w6 wr)) (fun a b k _ => mi - (intOf k).toNat)
      case atStart => exact ⟨0, Nat.zero_le _, rfl, rfl, rfl, HBk⟩
      case round =>
        obtain ⟨q, hq9, rfl, rfl, rfl, HBq⟩ := hrel
        obtain ⟨wq, rfl⟩ : ∃ wk, wk = wr := ⟨_, rfl⟩
        have RC := Lib.hid (RC0.out.below HBq.out (Nat.le_refl _))
        have hm6 := Hm6.out
        have rc := RC.out
        unfold CellV at rc
        have j0 : (0 : Int) ≤ (n : Int) := by omega
        have j1 : (n : Int) < (ng : Int) := by have := Hlt.out; omega
        by_cases hlt2 : q < mi
        · obtain ⟨bi, oi, hAi, hci⟩ := HI0.out.2 (by omega)
          have re0 := hci q hlt2
          subst hAi
          have hs1 := anyK_succ (fun y => decide (y ∈ l.ls)) (zs := xi) (k := q) (by rw [HI0.out.1]; exact hlt2)
          have hs2 := anyK_succ (fun y => decide (y ∈ l.rs)) (zs := xi) (k := q) (by rw [HI0.out.1]; exact hlt2)
          obtain ⟨y, hy⟩ : ∃ v, iAt xi q = v := ⟨_, rfl⟩
          rw [hy] at re0 hs1 hs2
          have RE := Lib.hid (CellV.below (show CellV w6 bi (oi + q) (.int .i64 y) from re0) HBq.out (Nat.le_refl _))
          have Sq := Lib.hid (S.out.below HBq.out (Nat.le_refl _))
          have Xq := Lib.hid ((HBq.out.block _ (lt_of_block X.out)).trans X.out)
          obtain ⟨b1, hb1⟩ : ∃ v, decide (y ∈ l.ls) = v := ⟨_, rfl⟩
          obtain ⟨b2, hb2⟩ : ∃ v, decide (y ∈ l.rs) = v := ⟨_, rfl⟩
          rw [hb1] at hs1
          rw [hb2] at hs2
          have HB1 := Lib.hid hb1
          have HB2 := Lib.hid hb2
          have i0 : (0 : Int) ≤ (q : Int) := by omega
          have i1 : (q : Int) < (mi : Int) := by omega
          obtain ⟨u1, hu1⟩ : ∃ v, anyK (fun y => decide (y ∈ l.ls)) xi q = v := ⟨_, rfl⟩
          obtain ⟨u2, hu2⟩ : ∃ v, anyK (fun y => decide (y ∈ l.rs)) xi q = v := ⟨_, rfl⟩
          rw [hu1] at hs1 ⊢
          rw [hu2] at hs2 ⊢
          have HS1 := Lib.hid hs1
          have HS2 := Lib.hid hs2
          clear hs1 hs2 hu1 hu2 hb1 hb2 hy re0 hci
          go_upto_region 16 with fail
          clear rc
          rcases u1 with _ | _
          · have ltXq : R < wq.heap.size := lt_of_block Xq.out
            have zXq0 : wq.cell? ⟨R, 0, none⟩ = some (.int .i64 l.N) := by rw [cell_row Xq.out]; rfl
            have zXq1 : wq.cell? ⟨R, 1, none⟩ = some (.slice l.A l.n l.cap) := by rw [cell_row Xq.out]; rfl
            have zXq2 : wq.cell? ⟨R, 2, none⟩ = some (.slice l.LA l.ln l.lc) := by rw [cell_row Xq.out]; rfl
            have zXq3 : wq.cell? ⟨R, 3, none⟩ = some (.slice l.RA l.rn l.rc) := by rw [cell_row Xq.out]; rfl
            have rc : wq.cell? ⟨bg, og + n, none⟩ = some (.slice (some ⟨bi, oi, none⟩) mi ci) := RC.out
            have re : wq.cell? ⟨bi, oi + q, none⟩ = some (.int .i64 y) := RE.out
            refine wp_region_held_drew (S := fun wS => Below wq.heap.size wq wS) (by kernel_rfl) (drew_b _ _) (fun hS0 => ?_)
            refine wpAnyH_take (i := 0) (oi := opLpa0) (v := .bool false) rfl (by kernel_rfl) (by kernel_rfl) (by kernel_rfl) (fun _ _ _ h => h) (Or.inl ⟨by rfl, by intro wS hSw; (try dsimp only at hSw); have yXq0 := (hSw.cell (lt_of_cell zXq0)).trans zXq0; have yXq1 := (hSw.cell (lt_of_cell zXq1)).trans zXq1; have yXq2 := (hSw.cell (lt_of_cell zXq2)).trans zXq2; have yXq3 := (hSw.cell (lt_of_cell zXq3)).trans zXq3; have yrc := (hSw.cell (lt_of_cell rc)).trans rc; have yre := (hSw.cell (lt_of_cell re)).trans re;  go_simp⟩) hS0 ?_
            try simp only [Act.put, List.setIfInBounds_toArray, List.set_cons_zero, List.set_cons_succ]
            refine wpAnyH_take (i := 1) (oi := opLpa1) (v := .bool false) rfl (by kernel_rfl) (by kernel_rfl) (by kernel_rfl) (fun _ _ _ h => h) (Or.inl ⟨by rfl, by intro wS hSw; (try dsimp only at hSw); have yXq0 := (hSw.cell (lt_of_cell zXq0)).trans zXq0; have yXq1 := (hSw.cell (lt_of_cell zXq1)).trans zXq1; have yXq2 := (hSw.cell (lt_of_cell zXq2)).trans zXq2; have yXq3 := (hSw.cell (lt_of_cell zXq3)).trans zXq3; have yrc := (hSw.cell (lt_of_cell rc)).trans rc; have yre := (hSw.cell (lt_of_cell re)).trans re;  go_simp⟩) hS0 ?_
            try simp only [Act.put, List.setIfInBounds_toArray, List.set_cons_zero, List.set_cons_succ]
            refine wpAnyH_take (i := 2) (oi := opLpa2) (v := .pointer (some ⟨R, 2, none⟩)) rfl (by kernel_rfl) (by kernel_rfl) (by kernel_rfl) (fun _ _ _ h => h) (Or.inl ⟨by rfl, by intro wS hSw; (try dsimp only at hSw); have yXq0 := (hSw.cell (lt_of_cell zXq0)).trans zXq0; have yXq1 := (hSw.cell (lt_of_cell zXq1)).trans zXq1; have yXq2 := (hSw.cell (lt_of_cell zXq2)).trans zXq2; have yXq3 := (hSw.cell (lt_of_cell zXq3)).trans zXq3; have yrc := (hSw.cell (lt_of_cell rc)).trans rc; have yre := (hSw.cell (lt_of_cell re)).trans re;  go_simp⟩) hS0 ?_
            try simp only [Act.put, List.setIfInBounds_toArray, List.set_cons_zero, List.set_cons_succ]
            refine wpAnyH_take (i := 3) (oi := opLpa3) (v := .slice l.LA l.ln l.lc) rfl (by kernel_rfl) (by kernel_rfl) (by kernel_rfl) (fun _ _ _ h => h) (Or.inl ⟨by rfl, by intro wS hSw; (try dsimp only at hSw); have yXq0 := (hSw.cell (lt_of_cell zXq0)).trans zXq0; have yXq1 := (hSw.cell (lt_of_cell zXq1)).trans zXq1; have yXq2 := (hSw.cell (lt_of_cell zXq2)).trans zXq2; have yXq3 := (hSw.cell (lt_of_cell zXq3)).trans zXq3; have yrc := (hSw.cell (lt_of_cell rc)).trans rc; have yre := (hSw.cell (lt_of_cell re)).trans re;  go_simp⟩) hS0 ?_
            try simp only [Act.put, List.setIfInBounds_toArray, List.set_cons_zero, List.set_cons_succ]
            refine wpAnyH_take (i := 4) (oi := opLpa4) (v := .slice (some ⟨bg, og, none⟩) ng cg) rfl (by kernel_rfl) (by kernel_rfl) (by kernel_rfl) (fun _ _ _ h => h) (Or.inl ⟨by rfl, by intro wS hSw; (try dsimp only at hSw); have yXq0 := (hSw.cell (lt_of_cell zXq0)).trans zXq0; have yXq1 := (hSw.cell (lt_of_cell zXq1)).trans zXq1; have yXq2 := (hSw.cell (lt_of_cell zXq2)).trans zXq2; have yXq3 := (hSw.cell (lt_of_cell zXq3)).trans zXq3; have yrc := (hSw.cell (lt_of_cell rc)).trans rc; have yre := (hSw.cell (lt_of_cell re)).trans re;  go_simp⟩) hS0 ?_
            try simp only [Act.put, List.setIfInBounds_toArray, List.set_cons_zero, List.set_cons_succ]
            refine wpAnyH_take (i := 5) (oi := opLpa5) (v := .int .i64 (n : Int)) rfl (by kernel_rfl) (by kernel_rfl) (by kernel_rfl) (fun _ _ _ h => h) (Or.inl ⟨by rfl, by intro wS hSw; (try dsimp only at hSw); have yXq0 := (hSw.cell (lt_of_cell zXq0)).trans zXq0; have yXq1 := (hSw.cell (lt_of_cell zXq1)).trans zXq1; have yXq2 := (hSw.cell (lt_of_cell zXq2)).trans zXq2; have yXq3 := (hSw.cell (lt_of_cell zXq3)).trans zXq3; have yrc := (hSw.cell (lt_of_cell rc)).trans rc; have yre := (hSw.cell (lt_of_cell re)).trans re;  go_simp⟩) hS0 ?_
            try simp only [Act.put, List.setIfInBounds_toArray, List.set_cons_zero, List.set_cons_succ]
            refine wpAnyH_take (i := 6) (oi := opLpa6) (v := .pointer (some ⟨bg, og + n, none⟩)) rfl (by kernel_rfl) (by kernel_rfl) (by kernel_rfl) (fun _ _ _ h => h) (Or.inl ⟨by rfl, by intro wS hSw; (try dsimp only at hSw); have yXq0 := (hSw.cell (lt_of_cell zXq0)).trans zXq0; have yXq1 := (hSw.cell (lt_of_cell zXq1)).trans zXq1; have yXq2 := (hSw.cell (lt_of_cell zXq2)).trans zXq2; have yXq3 := (hSw.cell (lt_of_cell zXq3)).trans zXq3; have yrc := (hSw.cell (lt_of_cell rc)).trans rc; have yre := (hSw.cell (lt_of_cell re)).trans re;  go_simp⟩) hS0 ?_
            try simp only [Act.put, List.setIfInBounds_toArray, List.set_cons_zero, List.set_cons_succ]
            refine wpAnyH_take (i := 7) (oi := opLpa7) (v := .slice (some ⟨bi, oi, none⟩) mi ci) rfl (by kernel_rfl) (by kernel_rfl) (by kernel_rfl) (fun _ _ _ h => h) (Or.inl ⟨by rfl, by intro wS hSw; (try dsimp only at hSw); have yXq0 := (hSw.cell (lt_of_cell zXq0)).trans zXq0; have yXq1 := (hSw.cell (lt_of_cell zXq1)).trans zXq1; have yXq2 := (hSw.cell (lt_of_cell zXq2)).trans zXq2; have yXq3 := (hSw.cell (lt_of_cell zXq3)).trans zXq3; have yrc := (hSw.cell (lt_of_cell rc)).trans rc; have yre := (hSw.cell (lt_of_cell re)).trans re;  go_simp⟩) hS0 ?_
            try simp only [Act.put, List.setIfInBounds_toArray, List.set_cons_zero, List.set_cons_succ]
            refine wpAnyH_take (i := 8) (oi := opLpa8) (v := .int .i64 (q : Int)) rfl (by kernel_rfl) (by kernel_rfl) (by kernel_rfl) (fun _ _ _ h => h) (Or.inl ⟨by rfl, by intro wS hSw; (try dsimp only at hSw); have yXq0 := (hSw.cell (lt_of_cell zXq0)).trans zXq0; have yXq1 := (hSw.cell (lt_of_cell zXq1)).trans zXq1; have yXq2 := (hSw.cell (lt_of_cell zXq2)).trans zXq2; have yXq3 := (hSw.cell (lt_of_cell zXq3)).trans zXq3; have yrc := (hSw.cell (lt_of_cell rc)).trans rc; have yre := (hSw.cell (lt_of_cell re)).trans re;  go_simp⟩) hS0 ?_
            try simp only [Act.put, List.setIfInBounds_toArray, List.set_cons_zero, List.set_cons_succ]
            refine wpAnyH_take (i := 9) (oi := opLpa9) (v := .pointer (some ⟨bi, oi + q, none⟩)) rfl (by kernel_rfl) (by kernel_rfl) (by kernel_rfl) (fun _ _ _ h => h) (Or.inl ⟨by rfl, by intro wS hSw; (try dsimp only at hSw); have yXq0 := (hSw.cell (lt_of_cell zXq0)).trans zXq0; have yXq1 := (hSw.cell (lt_of_cell zXq1)).trans zXq1; have yXq2 := (hSw.cell (lt_of_cell zXq2)).trans zXq2; have yXq3 := (hSw.cell (lt_of_cell zXq3)).trans zXq3; have yrc := (hSw.cell (lt_of_cell rc)).trans rc; have yre := (hSw.cell (lt_of_cell re)).trans re;  go_simp⟩) hS0 ?_
            try simp only [Act.put, List.setIfInBounds_toArray, List.set_cons_zero, List.set_cons_succ]
            refine wpAnyH_take (i := 10) (oi := opLpa10) (v := .int .i64 y) rfl (by kernel_rfl) (by kernel_rfl) (by kernel_rfl) (fun _ _ _ h => h) (Or.inl ⟨by rfl, by intro wS hSw; (try dsimp only at hSw); have yXq0 := (hSw.cell (lt_of_cell zXq0)).trans zXq0; have yXq1 := (hSw.cell (lt_of_cell zXq1)).trans zXq1; have yXq2 := (hSw.cell (lt_of_cell zXq2)).trans zXq2; have yXq3 := (hSw.cell (lt_of_cell zXq3)).trans zXq3; have yrc := (hSw.cell (lt_of_cell rc)).trans rc; have yre := (hSw.cell (lt_of_cell re)).trans re;  go_simp⟩) hS0 ?_
            try simp only [Act.put, List.setIfInBounds_toArray, List.set_cons_zero, List.set_cons_succ]
            refine wpAnyH_ready (rs := [11]) (by kernel_rfl) (by simp) ?_
            refine AllReadyH.cons (o := opLpa11) rfl (fun K2 hK => ?_) AllReadyH.nil
            go_simp
            refine (in38 l.LA l.ln l.lc l.ls y _ (Sq.out.below hS0 (Nat.le_refl _)).ls S.out.l6).mono ?_
            rintro e9 wqv1 ⟨rfl, hb9⟩
            replace hb9 := below_eq hb9
            rw [HB1.out]
            (try go_simp)
            refine hK.out _ _ (hS0.trans (hb9.mono hS0.size)) (fun hS1 => ?_)
            clear hK K2 hb9
            try simp only [Act.put, List.setIfInBounds_toArray, List.set_cons_zero, List.set_cons_succ]
            refine wpAnyH_take (i := 12) (oi := opLpa12) (v := .bool b1) rfl (by kernel_rfl) (by kernel_rfl) (by kernel_rfl) (fun _ _ _ h => h) (Or.inl ⟨by rfl, by intro wS hSw; (try dsimp only at hSw); have yXq0 := (hSw.cell (lt_of_cell zXq0)).trans zXq0; have yXq1 := (hSw.cell (lt_of_cell zXq1)).trans zXq1; have yXq2 := (hSw.cell (lt_of_cell zXq2)).trans zXq2; have yXq3 := (hSw.cell (lt_of_cell zXq3)).trans zXq3; have yrc := (hSw.cell (lt_of_cell rc)).trans rc; have yre := (hSw.cell (lt_of_cell re)).trans re;  go_simp⟩) hS1 ?_
            try simp only [Act.put, List.setIfInBounds_toArray, List.set_cons_zero, List.set_cons_succ]
            refine wpAnyH_take (i := 13) (oi := opLpa13) (v := .bool b1) rfl (by kernel_rfl) (by kernel_rfl) (by kernel_rfl) (fun _ _ _ h => h) (Or.inl ⟨by rfl, by intro wS hSw; (try dsimp only at hSw); have yXq0 := (hSw.cell (lt_of_cell zXq0)).trans zXq0; have yXq1 := (hSw.cell (lt_of_cell zXq1)).trans zXq1; have yXq2 := (hSw.cell (lt_of_cell zXq2)).trans zXq2; have yXq3 := (hSw.cell (lt_of_cell zXq3)).trans zXq3; have yrc := (hSw.cell (lt_of_cell rc)).trans rc; have yre := (hSw.cell (lt_of_cell re)).trans re;  go_simp⟩) hS1 ?_
            try simp only [Act.put, List.setIfInBounds_toArray, List.set_cons_zero, List.set_cons_succ]
            refine wpAnyH_done (by kernel_rfl) ?_ _
            clear zXq0 zXq1 zXq2 zXq3 ltXq rc re
            have hb := hS1
            clear hS0 hS1
            replace Sq := Lib.hid (Sq.out.below hb (Nat.le_refl _))
            replace RC := Lib.hid (RC.out.below hb (Nat.le_refl _))
            replace RE := Lib.hid (RE.out.below hb (Nat.le_refl _))
            replace Xq := Lib.hid ((hb.block _ (lt_of_block Xq.out)).trans Xq.out)
            replace HBq := Lib.hid (HBq.out.trans (hb.mono HBq.out.size))
            clear hb
            go_upto_region 17 with fail
            rcases u2 with _ | _
            · have ltXq : R < wqv1.heap.size := lt_of_block Xq.out
              have zXq0 : wqv1.cell? ⟨R, 0, none⟩ = some (.int .i64 l.N) := by rw [cell_row Xq.out]; rfl
              have zXq1 : wqv1.cell? ⟨R, 1, none⟩ = some (.slice l.A l.n l.cap) := by rw [cell_row Xq.out]; rfl
              have zXq2 : wqv1.cell? ⟨R, 2, none⟩ = some (.slice l.LA l.ln l.lc) := by rw [cell_row Xq.out]; rfl
              have zXq3 : wqv1.cell? ⟨R, 3, none⟩ = some (.slice l.RA l.rn l.rc) := by rw [cell_row Xq.out]; rfl
              have rc : wqv1.cell? ⟨bg, og + n, none⟩ = some (.slice (some ⟨bi, oi, none⟩) mi ci) := RC.out
              have re : wqv1.cell? ⟨bi, oi + q, none⟩ = some (.int .i64 y) := RE.out
              refine wp_region_held_drew (S := fun wS => Below wqv1.heap.size wqv1 wS) (by kernel_rfl) (drew_b _ _) (fun hS0 => ?_)
              refine wpAnyH_take (i := 0) (oi := opLpa14) (v := .bool false) rfl (by kernel_rfl) (by kernel_rfl) (by kernel_rfl) (fun _ _ _ h => h) (Or.inl ⟨by rfl, by intro wS hSw; (try dsimp only at hSw); have yXq0 := (hSw.cell (lt_of_cell zXq0)).trans zXq0; have yXq1 := (hSw.cell (lt_of_cell zXq1)).trans zXq1; have yXq2 := (hSw.cell (lt_of_cell zXq2)).trans zXq2; have yXq3 := (hSw.cell (lt_of_cell zXq3)).trans zXq3; have yrc := (hSw.cell (lt_of_cell rc)).trans rc; have yre := (hSw.cell (lt_of_cell re)).trans re;  go_simp⟩) hS0 ?_
              try simp only [Act.put, List.setIfInBounds_toArray, List.set_cons_zero, List.set_cons_succ]
              refine wpAnyH_take (i := 1) (oi := opLpa15) (v := .bool false) rfl (by kernel_rfl) (by kernel_rfl) (by kernel_rfl) (fun _ _ _ h => h) (Or.inl ⟨by rfl, by intro wS hSw; (try dsimp only at hSw); have yXq0 := (hSw.cell (lt_of_cell zXq0)).trans zXq0; have yXq1 := (hSw.cell (lt_of_cell zXq1)).trans zXq1; have yXq2 := (hSw.cell (lt_of_cell zXq2)).trans zXq2; have yXq3 := (hSw.cell (lt_of_cell zXq3)).trans zXq3; have yrc := (hSw.cell (lt_of_cell rc)).trans rc; have yre := (hSw.cell (lt_of_cell re)).trans re;  go_simp⟩) hS0 ?_
              try simp only [Act.put, List.setIfInBounds_toArray, List.set_cons_zero, List.set_cons_succ]
              refine wpAnyH_take (i := 2) (oi := opLpa16) (v := .pointer (some ⟨R, 3, none⟩)) rfl (by kernel_rfl) (by kernel_rfl) (by kernel_rfl) (fun _ _ _ h => h) (Or.inl ⟨by rfl, by intro wS hSw; (try dsimp only at hSw); have yXq0 := (hSw.cell (lt_of_cell zXq0)).trans zXq0; have yXq1 := (hSw.cell (lt_of_cell zXq1)).trans zXq1; have yXq2 := (hSw.cell (lt_of_cell zXq2)).trans zXq2; have yXq3 := (hSw.cell (lt_of_cell zXq3)).trans zXq3; have yrc := (hSw.cell (lt_of_cell rc)).trans rc; have yre := (hSw.cell (lt_of_cell re)).trans re;  go_simp⟩) hS0 ?_
              try simp only [Act.put, List.setIfInBounds_toArray, List.set_cons_zero, List.set_cons_succ]
              refine wpAnyH_take (i := 3) (oi := opLpa17) (v := .slice l.RA l.rn l.rc) rfl (by kernel_rfl) (by kernel_rfl) (by kernel_rfl) (fun _ _ _ h => h) (Or.inl ⟨by rfl, by intro wS hSw; (try dsimp only at hSw); have yXq0 := (hSw.cell (lt_of_cell zXq0)).trans zXq0; have yXq1 := (hSw.cell (lt_of_cell zXq1)).trans zXq1; have yXq2 := (hSw.cell (lt_of_cell zXq2)).trans zXq2; have yXq3 := (hSw.cell (lt_of_cell zXq3)).trans zXq3; have yrc := (hSw.cell (lt_of_cell rc)).trans rc; have yre := (hSw.cell (lt_of_cell re)).trans re;  go_simp⟩) hS0 ?_
              try simp only [Act.put, List.setIfInBounds_toArray, List.set_cons_zero, List.set_cons_succ]
              refine wpAnyH_take (i := 4) (oi := opLpa18) (v := .slice (some ⟨bg, og, none⟩) ng cg) rfl (by kernel_rfl) (by kernel_rfl) (by kernel_rfl) (fun _ _ _ h => h) (Or.inl ⟨by rfl, by intro wS hSw; (try dsimp only at hSw); have yXq0 := (hSw.cell (lt_of_cell zXq0)).trans zXq0; have yXq1 := (hSw.cell (lt_of_cell zXq1)).trans zXq1; have yXq2 := (hSw.cell (lt_of_cell zXq2)).trans zXq2; have yXq3 := (hSw.cell (lt_of_cell zXq3)).trans zXq3; have yrc := (hSw.cell (lt_of_cell rc)).trans rc; have yre := (hSw.cell (lt_of_cell re)).trans re;  go_simp⟩) hS0 ?_
              try simp only [Act.put, List.setIfInBounds_toArray, List.set_cons_zero, List.set_cons_succ]
              refine wpAnyH_take (i := 5) (oi := opLpa19) (v := .int .i64 (n : Int)) rfl (by kernel_rfl) (by kernel_rfl) (by kernel_rfl) (fun _ _ _ h => h) (Or.inl ⟨by rfl, by intro wS hSw; (try dsimp only at hSw); have yXq0 := (hSw.cell (lt_of_cell zXq0)).trans zXq0; have yXq1 := (hSw.cell (lt_of_cell zXq1)).trans zXq1; have yXq2 := (hSw.cell (lt_of_cell zXq2)).trans zXq2; have yXq3 := (hSw.cell (lt_of_cell zXq3)).trans zXq3; have yrc := (hSw.cell (lt_of_cell rc)).trans rc; have yre := (hSw.cell (lt_of_cell re)).trans re;  go_simp⟩) hS0 ?_
              try simp only [Act.put, List.setIfInBounds_toArray, List.set_cons_zero, List.set_cons_succ]
              refine wpAnyH_take (i := 6) (oi := opLpa20) (v := .pointer (some ⟨bg, og + n, none⟩)) rfl (by kernel_rfl) (by kernel_rfl) (by kernel_rfl) (fun _ _ _ h => h) (Or.inl ⟨by rfl, by intro wS hSw; (try dsimp only at hSw); have yXq0 := (hSw.cell (lt_of_cell zXq0)).trans zXq0; have yXq1 := (hSw.cell (lt_of_cell zXq1)).trans zXq1; have yXq2 := (hSw.cell (lt_of_cell zXq2)).trans zXq2; have yXq3 := (hSw.cell (lt_of_cell zXq3)).trans zXq3; have yrc := (hSw.cell (lt_of_cell rc)).trans rc; have yre := (hSw.cell (lt_of_cell re)).trans re;  go_simp⟩) hS0 ?_
              try simp only [Act.put, List.setIfInBounds_toArray, List.set_cons_zero, List.set_cons_succ]
              refine wpAnyH_take (i := 7) (oi := opLpa21) (v := .slice (some ⟨bi, oi, none⟩) mi ci) rfl (by kernel_rfl) (by kernel_rfl) (by kernel_rfl) (fun _ _ _ h => h) (Or.inl ⟨by rfl, by intro wS hSw; (try dsimp only at hSw); have yXq0 := (hSw.cell (lt_of_cell zXq0)).trans zXq0; have yXq1 := (hSw.cell (lt_of_cell zXq1)).trans zXq1; have yXq2 := (hSw.cell (lt_of_cell zXq2)).trans zXq2; have yXq3 := (hSw.cell (lt_of_cell zXq3)).trans zXq3; have yrc := (hSw.cell (lt_of_cell rc)).trans rc; have yre := (hSw.cell (lt_of_cell re)).trans re;  go_simp⟩) hS0 ?_
              try simp only [Act.put, List.setIfInBounds_toArray, List.set_cons_zero, List.set_cons_succ]
              refine wpAnyH_take (i := 8) (oi := opLpa22) (v := .int .i64 (q : Int)) rfl (by kernel_rfl) (by kernel_rfl) (by kernel_rfl) (fun _ _ _ h => h) (Or.inl ⟨by rfl, by intro wS hSw; (try dsimp only at hSw); have yXq0 := (hSw.cell (lt_of_cell zXq0)).trans zXq0; have yXq1 := (hSw.cell (lt_of_cell zXq1)).trans zXq1; have yXq2 := (hSw.cell (lt_of_cell zXq2)).trans zXq2; have yXq3 := (hSw.cell (lt_of_cell zXq3)).trans zXq3; have yrc := (hSw.cell (lt_of_cell rc)).trans rc; have yre := (hSw.cell (lt_of_cell re)).trans re;  go_simp⟩) hS0 ?_
              try simp only [Act.put, List.setIfInBounds_toArray, List.set_cons_zero, List.set_cons_succ]
              refine wpAnyH_take (i := 9) (oi := opLpa23) (v := .pointer (some ⟨bi, oi + q, none⟩)) rfl (by kernel_rfl) (by kernel_rfl) (by kernel_rfl) (fun _ _ _ h => h) (Or.inl ⟨by rfl, by intro wS hSw; (try dsimp only at hSw); have yXq0 := (hSw.cell (lt_of_cell zXq0)).trans zXq0; have yXq1 := (hSw.cell (lt_of_cell zXq1)).trans zXq1; have yXq2 := (hSw.cell (lt_of_cell zXq2)).trans zXq2; have yXq3 := (hSw.cell (lt_of_cell zXq3)).trans zXq3; have yrc := (hSw.cell (lt_of_cell rc)).trans rc; have yre := (hSw.cell (lt_of_cell re)).trans re;  go_simp⟩) hS0 ?_
              try simp only [Act.put, List.setIfInBounds_toArray, List.set_cons_zero, List.set_cons_succ]
              refine wpAnyH_take (i := 10) (oi := opLpa24) (v := .int .i64 y) rfl (by kernel_rfl) (by kernel_rfl) (by kernel_rfl) (fun _ _ _ h => h) (Or.inl ⟨by rfl, by intro wS hSw; (try dsimp only at hSw); have yXq0 := (hSw.cell (lt_of_cell zXq0)).trans zXq0; have yXq1 := (hSw.cell (lt_of_cell zXq1)).trans zXq1; have yXq2 := (hSw.cell (lt_of_cell zXq2)).trans zXq2; have yXq3 := (hSw.cell (lt_of_cell zXq3)).trans zXq3; have yrc := (hSw.cell (lt_of_cell rc)).trans rc; have yre := (hSw.cell (lt_of_cell re)).trans re;  go_simp⟩) hS0 ?_
              try simp only [Act.put, List.setIfInBounds_toArray, List.set_cons_zero, List.set_cons_succ]
              refine wpAnyH_ready (rs := [11]) (by kernel_rfl) (by simp) ?_
              refine AllReadyH.cons (o := opLpa25) rfl (fun K2 hK => ?_) AllReadyH.nil
              go_simp
              refine (in38 l.RA l.rn l.rc l.rs y _ (Sq.out.below hS0 (Nat.le_refl _)).rs S.out.r6).mono ?_
              rintro e9 wqv1v1 ⟨rfl, hb9⟩
              replace hb9 := below_eq hb9
              rw [HB2.out]
              (try go_simp)
              refine hK.out _ _ (hS0.trans (hb9.mono hS0.size)) (fun hS1 => ?_)
              clear hK K2 hb9
              try simp only [Act.put, List.setIfInBounds_toArray, List.set_cons_zero, List.set_cons_succ]
              refine wpAnyH_take (i := 12) (oi := opLpa26) (v := .bool b2) rfl (by kernel_rfl) (by kernel_rfl) (by kernel_rfl) (fun _ _ _ h => h) (Or.inl ⟨by rfl, by intro wS hSw; (try dsimp only at hSw); have yXq0 := (hSw.cell (lt_of_cell zXq0)).trans zXq0; have yXq1 := (hSw.cell (lt_of_cell zXq1)).trans zXq1; have yXq2 := (hSw.cell (lt_of_cell zXq2)).trans zXq2; have yXq3 := (hSw.cell (lt_of_cell zXq3)).trans zXq3; have yrc := (hSw.cell (lt_of_cell rc)).trans rc; have yre := (hSw.cell (lt_of_cell re)).trans re;  go_simp⟩) hS1 ?_
              try simp only [Act.put, List.setIfInBounds_toArray, List.set_cons_zero, List.set_cons_succ]
              refine wpAnyH_take (i := 13) (oi := opLpa27) (v := .bool b2) rfl (by kernel_rfl) (by kernel_rfl) (by kernel_rfl) (fun _ _ _ h => h) (Or.inl ⟨by rfl, by intro wS hSw; (try dsimp only at hSw); have yXq0 := (hSw.cell (lt_of_cell zXq0)).trans zXq0; have yXq1 := (hSw.cell (lt_of_cell zXq1)).trans zXq1; have yXq2 := (hSw.cell (lt_of_cell zXq2)).trans zXq2; have yXq3 := (hSw.cell (lt_of_cell zXq3)).trans zXq3; have yrc := (hSw.cell (lt_of_cell rc)).trans rc; have yre := (hSw.cell (lt_of_cell re)).trans re;  go_simp⟩) hS1 ?_
              try simp only [Act.put, List.setIfInBounds_toArray, List.set_cons_zero, List.set_cons_succ]
              refine wpAnyH_done (by kernel_rfl) ?_ _
              clear zXq0 zXq1 zXq2 zXq3 ltXq rc re
              have hb := hS1
              clear hS0 hS1
              replace Sq := Lib.hid (Sq.out.below hb (Nat.le_refl _))
              replace RC := Lib.hid (RC.out.below hb (Nat.le_refl _))
              replace RE := Lib.hid (RE.out.below hb (Nat.le_refl _))
              replace Xq := Lib.hid ((hb.block _ (lt_of_block Xq.out)).trans Xq.out)
              replace HBq := Lib.hid (HBq.out.trans (hb.mono HBq.out.size))
              clear hb
              go_wp2_with fail
              go_roundw
              case rel => exact ⟨q + 1, by omega, by go_num, by rw [HS1.out] <;> rfl, by rw [HS2.out] <;> rfl, HBq⟩
              case measure => simp [intOf]; omega
            · have ltXq : R < wqv1.heap.size := lt_of_block Xq.out
              have zXq0 : wqv1.cell? ⟨R, 0, none⟩ = some (.int .i64 l.N) := by rw [cell_row Xq.out]; rfl
              have zXq1 : wqv1.cell? ⟨R, 1, none⟩ = some (.slice l.A l.n l.cap) := by rw [cell_row Xq.out]; rfl
              have zXq2 : wqv1.cell? ⟨R, 2, none⟩ = some (.slice l.LA l.ln l.lc) := by rw [cell_row Xq.out]; rfl
              have zXq3 : wqv1.cell? ⟨R, 3, none⟩ = some (.slice l.RA l.rn l.rc) := by rw [cell_row Xq.out]; rfl
              have rc : wqv1.cell? ⟨bg, og + n, none⟩ = some (.slice (some ⟨bi, oi, none⟩) mi ci) := RC.out
              have re : wqv1.cell? ⟨bi, oi + q, none⟩ = some (.int .i64 y) := RE.out
              refine wp_region_held_drew (S := fun wS => Below wqv1.heap.size wqv1 wS) (by kernel_rfl) (drew_b _ _) (fun hS0 => ?_)
              refine wpAnyH_take (i := 0) (oi := opLpa14) (v := .bool true) rfl (by kernel_rfl) (by kernel_rfl) (by kernel_rfl) (fun _ _ _ h => h) (Or.inl ⟨by rfl, by intro wS hSw; (try dsimp only at hSw); have yXq0 := (hSw.cell (lt_of_cell zXq0)).trans zXq0; have yXq1 := (hSw.cell (lt_of_cell zXq1)).trans zXq1; have yXq2 := (hSw.cell (lt_of_cell zXq2)).trans zXq2; have yXq3 := (hSw.cell (lt_of_cell zXq3)).trans zXq3; have yrc := (hSw.cell (lt_of_cell rc)).trans rc; have yre := (hSw.cell (lt_of_cell re)).trans re;  go_simp⟩) hS0 ?_
              try simp only [Act.put, List.setIfInBounds_toArray, List.set_cons_zero, List.set_cons_succ]
              refine wpAnyH_take (i := 1) (oi := opLpa15) (v := .bool true) rfl (by kernel_rfl) (by kernel_rfl) (by kernel_rfl) (fun _ _ _ h => h) (Or.inl ⟨by rfl, by intro wS hSw; (try dsimp only at hSw); have yXq0 := (hSw.cell (lt_of_cell zXq0)).trans zXq0; have yXq1 := (hSw.cell (lt_of_cell zXq1)).trans zXq1; have yXq2 := (hSw.cell (lt_of_cell zXq2)).trans zXq2; have yXq3 := (hSw.cell (lt_of_cell zXq3)).trans zXq3; have yrc := (hSw.cell (lt_of_cell rc)).trans rc; have yre := (hSw.cell (lt_of_cell re)).trans re;  go_simp⟩) hS0 ?_
              try simp only [Act.put, List.setIfInBounds_toArray, List.set_cons_zero, List.set_cons_succ]
              refine wpAnyH_take (i := 2) (oi := opLpa16) (v := undef) rfl (by kernel_rfl) (by kernel_rfl) (by kernel_rfl) (fun _ _ _ h => h) (Or.inr ⟨by rfl, rfl⟩) hS0 ?_
              try simp only [Act.put, List.setIfInBounds_toArray, List.set_cons_zero, List.set_cons_succ]
              refine wpAnyH_take (i := 3) (oi := opLpa17) (v := undef) rfl (by kernel_rfl) (by kernel_rfl) (by kernel_rfl) (fun _ _ _ h => h) (Or.inr ⟨by rfl, rfl⟩) hS0 ?_
              try simp only [Act.put, List.setIfInBounds_toArray, List.set_cons_zero, List.set_cons_succ]
              refine wpAnyH_take (i := 4) (oi := opLpa18) (v := undef) rfl (by kernel_rfl) (by kernel_rfl) (by kernel_rfl) (fun _ _ _ h => h) (Or.inr ⟨by rfl, rfl⟩) hS0 ?_
              try simp only [Act.put, List.setIfInBounds_toArray, List.set_cons_zero, List.set_cons_succ]
              refine wpAnyH_take (i := 5) (oi := opLpa19) (v := undef) rfl (by kernel_rfl) (by kernel_rfl) (by kernel_rfl) (fun _ _ _ h => h) (Or.inr ⟨by rfl, rfl⟩) hS0 ?_
              try simp only [Act.put, List.setIfInBounds_toArray, List.set_cons_zero, List.set_cons_succ]
              refine wpAnyH_take (i := 6) (oi := opLpa20) (v := undef) rfl (by kernel_rfl) (by kernel_rfl) (by kernel_rfl) (fun _ _ _ h => h) (Or.inr ⟨by rfl, rfl⟩) hS0 ?_
              try simp only [Act.put, List.setIfInBounds_toArray, List.set_cons_zero, List.set_cons_succ]
              refine wpAnyH_take (i := 7) (oi := opLpa21) (v := undef) rfl (by kernel_rfl) (by kernel_rfl) (by kernel_rfl) (fun _ _ _ h => h) (Or.inr ⟨by rfl, rfl⟩) hS0 ?_
              try simp only [Act.put, List.setIfInBounds_toArray, List.set_cons_zero, List.set_cons_succ]
              refine wpAnyH_take (i := 8) (oi := opLpa22) (v := undef) rfl (by kernel_rfl) (by kernel_rfl) (by kernel_rfl) (fun _ _ _ h => h) (Or.inr ⟨by rfl, rfl⟩) hS0 ?_
              try simp only [Act.put, List.setIfInBounds_toArray, List.set_cons_zero, List.set_cons_succ]
              refine wpAnyH_take (i := 9) (oi := opLpa23) (v := undef) rfl (by kernel_rfl) (by kernel_rfl) (by kernel_rfl) (fun _ _ _ h => h) (Or.inr ⟨by rfl, rfl⟩) hS0 ?_
              try simp only [Act.put, List.setIfInBounds_toArray, List.set_cons_zero, List.set_cons_succ]
              refine wpAnyH_take (i := 10) (oi := opLpa24) (v := undef) rfl (by kernel_rfl) (by kernel_rfl) (by kernel_rfl) (fun _ _ _ h => h) (Or.inr ⟨by rfl, rfl⟩) hS0 ?_
              try simp only [Act.put, List.setIfInBounds_toArray, List.set_cons_zero, List.set_cons_succ]
              refine wpAnyH_take (i := 11) (oi := opLpa25) (v := undef) rfl (by kernel_rfl) (by kernel_rfl) (by kernel_rfl) (fun _ _ _ h => h) (Or.inr ⟨by rfl, rfl⟩) hS0 ?_
              try simp only [Act.put, List.setIfInBounds_toArray, List.set_cons_zero, List.set_cons_succ]
              refine wpAnyH_take (i := 12) (oi := opLpa26) (v := .bool true) rfl (by kernel_rfl) (by kernel_rfl) (by kernel_rfl) (fun _ _ _ h => h) (Or.inl ⟨by rfl, by intro wS hSw; (try dsimp only at hSw); have yXq0 := (hSw.cell (lt_of_cell zXq0)).trans zXq0; have yXq1 := (hSw.cell (lt_of_cell zXq1)).trans zXq1; have yXq2 := (hSw.cell (lt_of_cell zXq2)).trans zXq2; have yXq3 := (hSw.cell (lt_of_cell zXq3)).trans zXq3; have yrc := (hSw.cell (lt_of_cell rc)).trans rc; have yre := (hSw.cell (lt_of_cell re)).trans re;  go_simp⟩) hS0 ?_
              try simp only [Act.put, List.setIfInBounds_toArray, List.set_cons_zero, List.set_cons_succ]
              refine wpAnyH_take (i := 13) (oi := opLpa27) (v := .bool true) rfl (by kernel_rfl) (by kernel_rfl) (by kernel_rfl) (fun _ _ _ h => h) (Or.inl ⟨by rfl, by intro wS hSw; (try dsimp only at hSw); have yXq0 := (hSw.cell (lt_of_cell zXq0)).trans zXq0; have yXq1 := (hSw.cell (lt_of_cell zXq1)).trans zXq1; have yXq2 := (hSw.cell (lt_of_cell zXq2)).trans zXq2; have yXq3 := (hSw.cell (lt_of_cell zXq3)).trans zXq3; have yrc := (hSw.cell (lt_of_cell rc)).trans rc; have yre := (hSw.cell (lt_of_cell re)).trans re;  go_simp⟩) hS0 ?_
              try simp only [Act.put, List.setIfInBounds_toArray, List.set_cons_zero, List.set_cons_succ]
              refine wpAnyH_done (by kernel_rfl) ?_ _
              clear zXq0 zXq1 zXq2 zXq3 ltXq rc re
              obtain ⟨wqv1d, hwd⟩ : ∃ v, wqv1.drew = v := ⟨_, rfl⟩
              have hb := hS0
              rw [hwd] at hb ⊢
              clear hS0 hwd
              replace Sq := Lib.hid (Sq.out.below hb (Nat.le_refl _))
              replace RC := Lib.hid (RC.out.below hb (Nat.le_refl _))
              replace RE := Lib.hid (RE.out.below hb (Nat.le_refl _))
              replace Xq := Lib.hid ((hb.block _ (lt_of_block Xq.out)).trans Xq.out)
              replace HBq := Lib.hid (HBq.out.trans (hb.mono HBq.out.size))
              clear hb
              go_wp2_with fail
              go_roundw
              case rel => exact ⟨q + 1, by omega, by go_num, by rw [HS1.out] <;> rfl, by rw [HS2.out] <;> rfl, HBq⟩
              case measure => simp [intOf]; omega
          · have ltXq : R < wq.heap.size := lt_of_block Xq.out
            have zXq0 : wq.cell? ⟨R, 0, none⟩ = some (.int .i64 l.N) := by rw [cell_row Xq.out]; rfl
            have zXq1 : wq.cell? ⟨R, 1, none⟩ = some (.slice l.A l.n l.cap) := by rw [cell_row Xq.out]; rfl
            have zXq2 : wq.cell? ⟨R, 2, none⟩ = some (.slice l.LA l.ln l.lc) := by rw [cell_row Xq.out]; rfl
            have zXq3 : wq.cell? ⟨R, 3, none⟩ = some (.slice l.RA l.rn l.rc) := by rw [cell_row Xq.out]; rfl
            have rc : wq.cell? ⟨bg, og + n, none⟩ = some (.slice (some ⟨bi, oi, none⟩) mi ci) := RC.out
            have re : wq.cell? ⟨bi, oi + q, none⟩ = some (.int .i64 y) := RE.out
            refine wp_region_held_drew (S := fun wS => Below wq.heap.size wq wS) (by kernel_rfl) (drew_b _ _) (fun hS0 => ?_)
            refine wpAnyH_take (i := 0) (oi := opLpa0) (v := .bool true) rfl (by kernel_rfl) (by kernel_rfl) (by kernel_rfl) (fun _ _ _ h => h) (Or.inl ⟨by rfl, by intro wS hSw; (try dsimp only at hSw); have yXq0 := (hSw.cell (lt_of_cell zXq0)).trans zXq0; have yXq1 := (hSw.cell (lt_of_cell zXq1)).trans zXq1; have yXq2 := (hSw.cell (lt_of_cell zXq2)).trans zXq2; have yXq3 := (hSw.cell (lt_of_cell zXq3)).trans zXq3; have yrc := (hSw.cell (lt_of_cell rc)).trans rc; have yre := (hSw.cell (lt_of_cell re)).trans re;  go_simp⟩) hS0 ?_
            try simp only [Act.put, List.setIfInBounds_toArray, List.set_cons_zero, List.set_cons_succ]
            refine wpAnyH_take (i := 1) (oi := opLpa1) (v := .bool true) rfl (by kernel_rfl) (by kernel_rfl) (by kernel_rfl) (fun _ _ _ h => h) (Or.inl ⟨by rfl, by intro wS hSw; (try dsimp only at hSw); have yXq0 := (hSw.cell (lt_of_cell zXq0)).trans zXq0; have yXq1 := (hSw.cell (lt_of_cell zXq1)).trans zXq1; have yXq2 := (hSw.cell (lt_of_cell zXq2)).trans zXq2; have yXq3 := (hSw.cell (lt_of_cell zXq3)).trans zXq3; have yrc := (hSw.cell (lt_of_cell rc)).trans rc; have yre := (hSw.cell (lt_of_cell re)).trans re;  go_simp⟩) hS0 ?_
            try simp only [Act.put, List.setIfInBounds_toArray, List.set_cons_zero, List.set_cons_succ]
            refine wpAnyH_take (i := 2) (oi := opLpa2) (v := undef) rfl (by kernel_rfl) (by kernel_rfl) (by kernel_rfl) (fun _ _ _ h => h) (Or.inr ⟨by rfl, rfl⟩) hS0 ?_
            try simp only [Act.put, List.setIfInBounds_toArray, List.set_cons_zero, List.set_cons_succ]
            refine wpAnyH_take (i := 3) (oi := opLpa3) (v := undef) rfl (by kernel_rfl) (by kernel_rfl) (by kernel_rfl) (fun _ _ _ h => h) (Or.inr ⟨by rfl, rfl⟩) hS0 ?_
            try simp only [Act.put, List.setIfInBounds_toArray, List.set_cons_zero, List.set_cons_succ]
            refine wpAnyH_take (i := 4) (oi := opLpa4) (v := undef) rfl (by kernel_rfl) (by kernel_rfl) (by kernel_rfl) (fun _ _ _ h => h) (Or.inr ⟨by rfl, rfl⟩) hS0 ?_
            try simp only [Act.put, List.setIfInBounds_toArray, List.set_cons_zero, List.set_cons_succ]
            refine wpAnyH_take (i := 5) (oi := opLpa5) (v := undef) rfl (by kernel_rfl) (by kernel_rfl) (by kernel_rfl) (fun _ _ _ h => h) (Or.inr ⟨by rfl, rfl⟩) hS0 ?_
            try simp only [Act.put, List.setIfInBounds_toArray, List.set_cons_zero, List.set_cons_succ]
            refine wpAnyH_take (i := 6) (oi := opLpa6) (v := undef) rfl (by kernel_rfl) (by kernel_rfl) (by kernel_rfl) (fun _ _ _ h => h) (Or.inr ⟨by rfl, rfl⟩) hS0 ?_
            try simp only [Act.put, List.setIfInBounds_toArray, List.set_cons_zero, List.set_cons_succ]
            refine wpAnyH_take (i := 7) (oi := opLpa7) (v := undef) rfl (by kernel_rfl) (by kernel_rfl) (by kernel_rfl) (fun _ _ _ h => h) (Or.inr ⟨by rfl, rfl⟩) hS0 ?_
            try simp only [Act.put, List.setIfInBounds_toArray, List.set_cons_zero, List.set_cons_succ]
            refine wpAnyH_take (i := 8) (oi := opLpa8) (v := undef) rfl (by kernel_rfl) (by kernel_rfl) (by kernel_rfl) (fun _ _ _ h => h) (Or.inr ⟨by rfl, rfl⟩) hS0 ?_
            try simp only [Act.put, List.setIfInBounds_toArray, List.set_cons_zero, List.set_cons_succ]
            refine wpAnyH_take (i := 9) (oi := opLpa9) (v := undef) rfl (by kernel_rfl) (by kernel_rfl) (by kernel_rfl) (fun _ _ _ h => h) (Or.inr ⟨by rfl, rfl⟩) hS0 ?_
            try simp only [Act.put, List.setIfInBounds_toArray, List.set_cons_zero, List.set_cons_succ]
            refine wpAnyH_take (i := 10) (oi := opLpa10) (v := undef) rfl (by kernel_rfl) (by kernel_rfl) (by kernel_rfl) (fun _ _ _ h => h) (Or.inr ⟨by rfl, rfl⟩) hS0 ?_
            try simp only [Act.put, List.setIfInBounds_toArray, List.set_cons_zero, List.set_cons_succ]
            refine wpAnyH_take (i := 11) (oi := opLpa11) (v := undef) rfl (by kernel_rfl) (by kernel_rfl) (by kernel_rfl) (fun _ _ _ h => h) (Or.inr ⟨by rfl, rfl⟩) hS0 ?_
            try simp only [Act.put, List.setIfInBounds_toArray, List.set_cons_zero, List.set_cons_succ]
            refine wpAnyH_take (i := 12) (oi := opLpa12) (v := .bool true) rfl (by kernel_rfl) (by kernel_rfl) (by kernel_rfl) (fun _ _ _ h => h) (Or.inl ⟨by rfl, by intro wS hSw; (try dsimp only at hSw); have yXq0 := (hSw.cell (lt_of_cell zXq0)).trans zXq0; have yXq1 := (hSw.cell (lt_of_cell zXq1)).trans zXq1; have yXq2 := (hSw.cell (lt_of_cell zXq2)).trans zXq2; have yXq3 := (hSw.cell (lt_of_cell zXq3)).trans zXq3; have yrc := (hSw.cell (lt_of_cell rc)).trans rc; have yre := (hSw.cell (lt_of_cell re)).trans re;  go_simp⟩) hS0 ?_
            try simp only [Act.put, List.setIfInBounds_toArray, List.set_cons_zero, List.set_cons_succ]
            refine wpAnyH_take (i := 13) (oi := opLpa13) (v := .bool true) rfl (by kernel_rfl) (by kernel_rfl) (by kernel_rfl) (fun _ _ _ h => h) (Or.inl ⟨by rfl, by intro wS hSw; (try dsimp only at hSw); have yXq0 := (hSw.cell (lt_of_cell zXq0)).trans zXq0; have yXq1 := (hSw.cell (lt_of_cell zXq1)).trans zXq1; have yXq2 := (hSw.cell (lt_of_cell zXq2)).trans zXq2; have yXq3 := (hSw.cell (lt_of_cell zXq3)).trans zXq3; have yrc := (hSw.cell (lt_of_cell rc)).trans rc; have yre := (hSw.cell (lt_of_cell re)).trans re;  go_simp⟩) hS0 ?_
            try simp only [Act.put, List.setIfInBounds_toArray, List.set_cons_zero, List.set_cons_succ]
            refine wpAnyH_done (by kernel_rfl) ?_ _
            clear zXq0 zXq1 zXq2 zXq3 ltXq rc re
            obtain ⟨wqd, hwd⟩ : ∃ v, wq.drew = v := ⟨_, rfl⟩
            have hb := hS0
            rw [hwd] at hb ⊢
            clear hS0 hwd
            replace Sq := Lib.hid (Sq.out.below hb (Nat.le_refl _))
            replace RC := Lib.hid (RC.out.below hb (Nat.le_refl _))
            replace RE := Lib.hid (RE.out.below hb (Nat.le_refl _))
            replace Xq := Lib.hid ((hb.block _ (lt_of_block Xq.out)).trans Xq.out)
            replace HBq := Lib.hid (HBq.out.trans (hb.mono HBq.out.size))
            clear hb
            go_upto_region 17 with fail
            rcases u2 with _ | _
            · have ltXq : R < wqd.heap.size := lt_of_block Xq.out
              have zXq0 : wqd.cell? ⟨R, 0, none⟩ = some (.int .i64 l.N) := by rw [cell_row Xq.out]; rfl
              have zXq1 : wqd.cell? ⟨R, 1, none⟩ = some (.slice l.A l.n l.cap) := by rw [cell_row Xq.out]; rfl
              have zXq2 : wqd.cell? ⟨R, 2, none⟩ = some (.slice l.LA l.ln l.lc) := by rw [cell_row Xq.out]; rfl
              have zXq3 : wqd.cell? ⟨R, 3, none⟩ = some (.slice l.RA l.rn l.rc) := by rw [cell_row Xq.out]; rfl
              have rc : wqd.cell? ⟨bg, og + n, none⟩ = some (.slice (some ⟨bi, oi, none⟩) mi ci) := RC.out
              have re : wqd.cell? ⟨bi, oi + q, none⟩ = some (.int .i64 y) := RE.out
              refine wp_region_held_drew (S := fun wS => Below wqd.heap.size wqd wS) (by kernel_rfl) (drew_b _ _) (fun hS0 => ?_)
              refine wpAnyH_take (i := 0) (oi := opLpa14) (v := .bool false) rfl (by kernel_rfl) (by kernel_rfl) (by kernel_rfl) (fun _ _ _ h => h) (Or.inl ⟨by rfl, by intro wS hSw; (try dsimp only at hSw); have yXq0 := (hSw.cell (lt_of_cell zXq0)).trans zXq0; have yXq1 := (hSw.cell (lt_of_cell zXq1)).trans zXq1; have yXq2 := (hSw.cell (lt_of_cell zXq2)).trans zXq2; have yXq3 := (hSw.cell (lt_of_cell zXq3)).trans zXq3; have yrc := (hSw.cell (lt_of_cell rc)).trans rc; have yre := (hSw.cell (lt_of_cell re)).trans re;  go_simp⟩) hS0 ?_
              try simp only [Act.put, List.setIfInBounds_toArray, List.set_cons_zero, List.set_cons_succ]
              refine wpAnyH_take (i := 1) (oi := opLpa15) (v := .bool false) rfl (by kernel_rfl) (by kernel_rfl) (by kernel_rfl) (fun _ _ _ h => h) (Or.inl ⟨by rfl, by intro wS hSw; (try dsimp only at hSw); have yXq0 := (hSw.cell (lt_of_cell zXq0)).trans zXq0; have yXq1 := (hSw.cell (lt_of_cell zXq1)).trans zXq1; have yXq2 := (hSw.cell (lt_of_cell zXq2)).trans zXq2; have yXq3 := (hSw.cell (lt_of_cell zXq3)).trans zXq3; have yrc := (hSw.cell (lt_of_cell rc)).trans rc; have yre := (hSw.cell (lt_of_cell re)).trans re;  go_simp⟩) hS0 ?_
              try simp only [Act.put, List.setIfInBounds_toArray, List.set_cons_zero, List.set_cons_succ]
              refine wpAnyH_take (i := 2) (oi := opLpa16) (v := .pointer (some ⟨R, 3, none⟩)) rfl (by kernel_rfl) (by kernel_rfl) (by kernel_rfl) (fun _ _ _ h => h) (Or.inl ⟨by rfl, by intro wS hSw; (try dsimp only at hSw); have yXq0 := (hSw.cell (lt_of_cell zXq0)).trans zXq0; have yXq1 := (hSw.cell (lt_of_cell zXq1)).trans zXq1; have yXq2 := (hSw.cell (lt_of_cell zXq2)).trans zXq2; have yXq3 := (hSw.cell (lt_of_cell zXq3)).trans zXq3; have yrc := (hSw.cell (lt_of_cell rc)).trans rc; have yre := (hSw.cell (lt_of_cell re)).trans re;  go_simp⟩) hS0 ?_
              try simp only [Act.put, List.setIfInBounds_toArray, List.set_cons_zero, List.set_cons_succ]
              refine wpAnyH_take (i := 3) (oi := opLpa17) (v := .slice l.RA l.rn l.rc) rfl (by kernel_rfl) (by kernel_rfl) (by kernel_rfl) (fun _ _ _ h => h) (Or.inl ⟨by rfl, by intro wS hSw; (try dsimp only at hSw); have yXq0 := (hSw.cell (lt_of_cell zXq0)).trans zXq0; have yXq1 := (hSw.cell (lt_of_cell zXq1)).trans zXq1; have yXq2 := (hSw.cell (lt_of_cell zXq2)).trans zXq2; have yXq3 := (hSw.cell (lt_of_cell zXq3)).trans zXq3; have yrc := (hSw.cell (lt_of_cell rc)).trans rc; have yre := (hSw.cell (lt_of_cell re)).trans re;  go_simp⟩) hS0 ?_
              try simp only [Act.put, List.setIfInBounds_toArray, List.set_cons_zero, List.set_cons_succ]
              refine wpAnyH_take (i := 4) (oi := opLpa18) (v := .slice (some ⟨bg, og, none⟩) ng cg) rfl (by kernel_rfl) (by kernel_rfl) (by kernel_rfl) (fun _ _ _ h => h) (Or.inl ⟨by rfl, by intro wS hSw; (try dsimp only at hSw); have yXq0 := (hSw.cell (lt_of_cell zXq0)).trans zXq0; have yXq1 := (hSw.cell (lt_of_cell zXq1)).trans zXq1; have yXq2 := (hSw.cell (lt_of_cell zXq2)).trans zXq2; have yXq3 := (hSw.cell (lt_of_cell zXq3)).trans zXq3; have yrc := (hSw.cell (lt_of_cell rc)).trans rc; have yre := (hSw.cell (lt_of_cell re)).trans re;  go_simp⟩) hS0 ?_
              try simp only [Act.put, List.setIfInBounds_toArray, List.set_cons_zero, List.set_cons_succ]
              refine wpAnyH_take (i := 5) (oi := opLpa19) (v := .int .i64 (n : Int)) rfl (by kernel_rfl) (by kernel_rfl) (by kernel_rfl) (fun _ _ _ h => h) (Or.inl ⟨by rfl, by intro wS hSw; (try dsimp only at hSw); have yXq0 := (hSw.cell (lt_of_cell zXq0)).trans zXq0; have yXq1 := (hSw.cell (lt_of_cell zXq1)).trans zXq1; have yXq2 := (hSw.cell (lt_of_cell zXq2)).trans zXq2; have yXq3 := (hSw.cell (lt_of_cell zXq3)).trans zXq3; have yrc := (hSw.cell (lt_of_cell rc)).trans rc; have yre := (hSw.cell (lt_of_cell re)).trans re;  go_simp⟩) hS0 ?_
              try simp only [Act.put, List.setIfInBounds_toArray, List.set_cons_zero, List.set_cons_succ]
              refine wpAnyH_take (i := 6) (oi := opLpa20) (v := .pointer (some ⟨bg, og + n, none⟩)) rfl (by kernel_rfl) (by kernel_rfl) (by kernel_rfl) (fun _ _ _ h => h) (Or.inl ⟨by rfl, by intro wS hSw; (try dsimp only at hSw); have yXq0 := (hSw.cell (lt_of_cell zXq0)).trans zXq0; have yXq1 := (hSw.cell (lt_of_cell zXq1)).trans zXq1; have yXq2 := (hSw.cell (lt_of_cell zXq2)).trans zXq2; have yXq3 := (hSw.cell (lt_of_cell zXq3)).trans zXq3; have yrc := (hSw.cell (lt_of_cell rc)).trans rc; have yre := (hSw.cell (lt_of_cell re)).trans re;  go_simp⟩) hS0 ?_
              try simp only [Act.put, List.setIfInBounds_toArray, List.set_cons_zero, List.set_cons_succ]
              refine wpAnyH_take (i := 7) (oi := opLpa21) (v := .slice (some ⟨bi, oi, none⟩) mi ci) rfl (by kernel_rfl) (by kernel_rfl) (by kernel_rfl) (fun _ _ _ h => h) (Or.inl ⟨by rfl, by intro wS hSw; (try dsimp only at hSw); have yXq0 := (hSw.cell (lt_of_cell zXq0)).trans zXq0; have yXq1 := (hSw.cell (lt_of_cell zXq1)).trans zXq1; have yXq2 := (hSw.cell (lt_of_cell zXq2)).trans zXq2; have yXq3 := (hSw.cell (lt_of_cell zXq3)).trans zXq3; have yrc := (hSw.cell (lt_of_cell rc)).trans rc; have yre := (hSw.cell (lt_of_cell re)).trans re;  go_simp⟩) hS0 ?_
              try simp only [Act.put, List.setIfInBounds_toArray, List.set_cons_zero, List.set_cons_succ]
              refine wpAnyH_take (i := 8) (oi := opLpa22) (v := .int .i64 (q : Int)) rfl (by kernel_rfl) (by kernel_rfl) (by kernel_rfl) (fun _ _ _ h => h) (Or.inl ⟨by rfl, by intro wS hSw; (try dsimp only at hSw); have yXq0 := (hSw.cell (lt_of_cell zXq0)).trans zXq0; have yXq1 := (hSw.cell (lt_of_cell zXq1)).trans zXq1; have yXq2 := (hSw.cell (lt_of_cell zXq2)).trans zXq2; have yXq3 := (hSw.cell (lt_of_cell zXq3)).trans zXq3; have yrc := (hSw.cell (lt_of_cell rc)).trans rc; have yre := (hSw.cell (lt_of_cell re)).trans re;  go_simp⟩) hS0 ?_
              try simp only [Act.put, List.setIfInBounds_toArray, List.set_cons_zero, List.set_cons_succ]
              refine wpAnyH_take (i := 9) (oi := opLpa23) (v := .pointer (some ⟨bi, oi + q, none⟩)) rfl (by kernel_rfl) (by kernel_rfl) (by kernel_rfl) (fun _ _ _ h => h) (Or.inl ⟨by rfl, by intro wS hSw; (try dsimp only at hSw); have yXq0 := (hSw.cell (lt_of_cell zXq0)).trans zXq0; have yXq1 := (hSw.cell (lt_of_cell zXq1)).trans zXq1; have yXq2 := (hSw.cell (lt_of_cell zXq2)).trans zXq2; have yXq3 := (hSw.cell (lt_of_cell zXq3)).trans zXq3; have yrc := (hSw.cell (lt_of_cell rc)).trans rc; have yre := (hSw.cell (lt_of_cell re)).trans re;  go_simp⟩) hS0 ?_
              try simp only [Act.put, List.setIfInBounds_toArray, List.set_cons_zero, List.set_cons_succ]
              refine wpAnyH_take (i := 10) (oi := opLpa24) (v := .int .i64 y) rfl (by kernel_rfl) (by kernel_rfl) (by kernel_rfl) (fun _ _ _ h => h) (Or.inl ⟨by rfl, by intro wS hSw; (try dsimp only at hSw); have yXq0 := (hSw.cell (lt_of_cell zXq0)).trans zXq0; have yXq1 := (hSw.cell (lt_of_cell zXq1)).trans zXq1; have yXq2 := (hSw.cell (lt_of_cell zXq2)).trans zXq2; have yXq3 := (hSw.cell (lt_of_cell zXq3)).trans zXq3; have yrc := (hSw.cell (lt_of_cell rc)).trans rc; have yre := (hSw.cell (lt_of_cell re)).trans re;  go_simp⟩) hS0 ?_
              try simp only [Act.put, List.setIfInBounds_toArray, List.set_cons_zero, List.set_cons_succ]
              refine wpAnyH_ready (rs := [11]) (by kernel_rfl) (by simp) ?_
              refine AllReadyH.cons (o := opLpa25) rfl (fun K2 hK => ?_) AllReadyH.nil
              go_simp
              refine (in38 l.RA l.rn l.rc l.rs y _ (Sq.out.below hS0 (Nat.le_refl _)).rs S.out.r6).mono ?_
              rintro e9 wqdv1 ⟨rfl, hb9⟩
              replace hb9 := below_eq hb9
              rw [HB2.out]
              (try go_simp)
              refine hK.out _ _ (hS0.trans (hb9.mono hS0.size)) (fun hS1 => ?_)
              clear hK K2 hb9
              try simp only [Act.put, List.setIfInBounds_toArray, List.set_cons_zero, List.set_cons_succ]
              refine wpAnyH_take (i := 12) (oi := opLpa26) (v := .bool b2) rfl (by kernel_rfl) (by kernel_rfl) (by kernel_rfl) (fun _ _ _ h => h) (Or.inl ⟨by rfl, by intro wS hSw; (try dsimp only at hSw); have yXq0 := (hSw.cell (lt_of_cell zXq0)).trans zXq0; have yXq1 := (hSw.cell (lt_of_cell zXq1)).trans zXq1; have yXq2 := (hSw.cell (lt_of_cell zXq2)).trans zXq2; have yXq3 := (hSw.cell (lt_of_cell zXq3)).trans zXq3; have yrc := (hSw.cell (lt_of_cell rc)).trans rc; have yre := (hSw.cell (lt_of_cell re)).trans re;  go_simp⟩) hS1 ?_
              try simp only [Act.put, List.setIfInBounds_toArray, List.set_cons_zero, List.set_cons_succ]
              refine wpAnyH_take (i := 13) (oi := opLpa27) (v := .bool b2) rfl (by kernel_rfl) (by kernel_rfl) (by kernel_rfl) (fun _ _ _ h => h) (Or.inl ⟨by rfl, by intro wS hSw; (try dsimp only at hSw); have yXq0 := (hSw.cell (lt_of_cell zXq0)).trans zXq0; have yXq1 := (hSw.cell (lt_of_cell zXq1)).trans zXq1; have yXq2 := (hSw.cell (lt_of_cell zXq2)).trans zXq2; have yXq3 := (hSw.cell (lt_of_cell zXq3)).trans zXq3; have yrc := (hSw.cell (lt_of_cell rc)).trans rc; have yre := (hSw.cell (lt_of_cell re)).trans re;  go_simp⟩) hS1 ?_
              try simp only [Act.put, List.setIfInBounds_toArray, List.set_cons_zero, List.set_cons_succ]
              refine wpAnyH_done (by kernel_rfl) ?_ _
              clear zXq0 zXq1 zXq2 zXq3 ltXq rc re
              have hb := hS1
              clear hS0 hS1
              replace Sq := Lib.hid (Sq.out.below hb (Nat.le_refl _))
              replace RC := Lib.hid (RC.out.below hb (Nat.le_refl _))
              replace RE := Lib.hid (RE.out.below hb (Nat.le_refl _))
              replace Xq := Lib.hid ((hb.block _ (lt_of_block Xq.out)).trans Xq.out)
              replace HBq := Lib.hid (HBq.out.trans (hb.mono HBq.out.size))
              clear hb
              go_wp2_with fail
              go_roundw
              case rel => exact ⟨q + 1, by omega, by go_num, by rw [HS1.out] <;> rfl, by rw [HS2.out] <;> rfl, HBq⟩
              case measure => simp [intOf]; omega
            · have ltXq : R < wqd.heap.size := lt_of_block Xq.out
              have zXq0 : wqd.cell? ⟨R, 0, none⟩ = some (.int .i64 l.N) := by rw [cell_row Xq.out]; rfl
              have zXq1 : wqd.cell? ⟨R, 1, none⟩ = some (.slice l.A l.n l.cap) := by rw [cell_row Xq.out]; rfl
              have zXq2 : wqd.cell? ⟨R, 2, none⟩ = some (.slice l.LA l.ln l.lc) := by rw [cell_row Xq.out]; rfl
              have zXq3 : wqd.cell? ⟨R, 3, none⟩ = some (.slice l.RA l.rn l.rc) := by rw [cell_row Xq.out]; rfl
              have rc : wqd.cell? ⟨bg, og + n, none⟩ = some (.slice (some ⟨bi, oi, none⟩) mi ci) := RC.out
              have re : wqd.cell? ⟨bi, oi + q, none⟩ = some (.int .i64 y) := RE.out
              refine wp_region_held_drew (S := fun wS => Below wqd.heap.size wqd wS) (by kernel_rfl) (drew_b _ _) (fun hS0 => ?_)
              refine wpAnyH_take (i := 0) (oi := opLpa14) (v := .bool true) rfl (by kernel_rfl) (by kernel_rfl) (by kernel_rfl) (fun _ _ _ h => h) (Or.inl ⟨by rfl, by intro wS hSw; (try dsimp only at hSw); have yXq0 := (hSw.cell (lt_of_cell zXq0)).trans zXq0; have yXq1 := (hSw.cell (lt_of_cell zXq1)).trans zXq1; have yXq2 := (hSw.cell (lt_of_cell zXq2)).trans zXq2; have yXq3 := (hSw.cell (lt_of_cell zXq3)).trans zXq3; have yrc := (hSw.cell (lt_of_cell rc)).trans rc; have yre := (hSw.cell (lt_of_cell re)).trans re;  go_simp⟩) hS0 ?_
              try simp only [Act.put, List.setIfInBounds_toArray, List.set_cons_zero, List.set_cons_succ]
              refine wpAnyH_take (i := 1) (oi := opLpa15) (v := .bool true) rfl (by kernel_rfl) (by kernel_rfl) (by kernel_rfl) (fun _ _ _ h => h) (Or.inl ⟨by rfl, by intro wS hSw; (try dsimp only at hSw); have yXq0 := (hSw.cell (lt_of_cell zXq0)).trans zXq0; have yXq1 := (hSw.cell (lt_of_cell zXq1)).trans zXq1; have yXq2 := (hSw.cell (lt_of_cell zXq2)).trans zXq2; have yXq3 := (hSw.cell (lt_of_cell zXq3)).trans zXq3; have yrc := (hSw.cell (lt_of_cell rc)).trans rc; have yre := (hSw.cell (lt_of_cell re)).trans re;  go_simp⟩) hS0 ?_
              try simp only [Act.put, List.setIfInBounds_toArray, List.set_cons_zero, List.set_cons_succ]
              refine wpAnyH_take (i := 2) (oi := opLpa16) (v := undef) rfl (by kernel_rfl) (by kernel_rfl) (by kernel_rfl) (fun _ _ _ h => h) (Or.inr ⟨by rfl, rfl⟩) hS0 ?_
              try simp only [Act.put, List.setIfInBounds_toArray, List.set_cons_zero, List.set_cons_succ]
              refine wpAnyH_take (i := 3) (oi := opLpa17) (v := undef) rfl (by kernel_rfl) (by kernel_rfl) (by kernel_rfl) (fun _ _ _ h => h) (Or.inr ⟨by rfl, rfl⟩) hS0 ?_
              try simp only [Act.put, List.setIfInBounds_toArray, List.set_cons_zero, List.set_cons_succ]
              refine wpAnyH_take (i := 4) (oi := opLpa18) (v := undef) rfl (by kernel_rfl) (by kernel_rfl) (by kernel_rfl) (fun _ _ _ h => h) (Or.inr ⟨by rfl, rfl⟩) hS0 ?_
              try simp only [Act.put, List.setIfInBounds_toArray, List.set_cons_zero, List.set_cons_succ]
              refine wpAnyH_take (i := 5) (oi := opLpa19) (v := undef) rfl (by kernel_rfl) (by kernel_rfl) (by kernel_rfl) (fun _ _ _ h => h) (Or.inr ⟨by rfl, rfl⟩) hS0 ?_
              try simp only [Act.put, List.setIfInBounds_toArray, List.set_cons_zero, List.set_cons_succ]
              refine wpAnyH_take (i := 6) (oi := opLpa20) (v := undef) rfl (by kernel_rfl) (by kernel_rfl) (by kernel_rfl) (fun _ _ _ h => h) (Or.inr ⟨by rfl, rfl⟩) hS0 ?_
              try simp only [Act.put, List.setIfInBounds_toArray, List.set_cons_zero, List.set_cons_succ]
              refine wpAnyH_take (i := 7) (oi := opLpa21) (v := undef) rfl (by kernel_rfl) (by kernel_rfl) (by kernel_rfl) (fun _ _ _ h => h) (Or.inr ⟨by rfl, rfl⟩) hS0 ?_
              try simp only [Act.put, List.setIfInBounds_toArray, List.set_cons_zero, List.set_cons_succ]
              refine wpAnyH_take (i := 8) (oi := opLpa22) (v := undef) rfl (by kernel_rfl) (by kernel_rfl) (by kernel_rfl) (fun _ _ _ h => h) (Or.inr ⟨by rfl, rfl⟩) hS0 ?_
              try simp only [Act.put, List.setIfInBounds_toArray, List.set_cons_zero, List.set_cons_succ]
              refine wpAnyH_take (i := 9) (oi := opLpa23) (v := undef) rfl (by kernel_rfl) (by kernel_rfl) (by kernel_rfl) (fun _ _ _ h => h) (Or.inr ⟨by rfl, rfl⟩) hS0 ?_
              try simp only [Act.put, List.setIfInBounds_toArray, List.set_cons_zero, List.set_cons_succ]
              refine wpAnyH_take (i := 10) (oi := opLpa24) (v := undef) rfl (by kernel_rfl) (by kernel_rfl) (by kernel_rfl) (fun _ _ _ h => h) (Or.inr ⟨by rfl, rfl⟩) hS0 ?_
              try simp only [Act.put, List.setIfInBounds_toArray, List.set_cons_zero, List.set_cons_succ]
              refine wpAnyH_take (i := 11) (oi := opLpa25) (v := undef) rfl (by kernel_rfl) (by kernel_rfl) (by kernel_rfl) (fun _ _ _ h => h) (Or.inr ⟨by rfl, rfl⟩) hS0 ?_
              try simp only [Act.put, List.setIfInBounds_toArray, List.set_cons_zero, List.set_cons_succ]
              refine wpAnyH_take (i := 12) (oi := opLpa26) (v := .bool true) rfl (by kernel_rfl) (by kernel_rfl) (by kernel_rfl) (fun _ _ _ h => h) (Or.inl ⟨by rfl, by intro wS hSw; (try dsimp only at hSw); have yXq0 := (hSw.cell (lt_of_cell zXq0)).trans zXq0; have yXq1 := (hSw.cell (lt_of_cell zXq1)).trans zXq1; have yXq2 := (hSw.cell (lt_of_cell zXq2)).trans zXq2; have yXq3 := (hSw.cell (lt_of_cell zXq3)).trans zXq3; have yrc := (hSw.cell (lt_of_cell rc)).trans rc; have yre := (hSw.cell (lt_of_cell re)).trans re;  go_simp⟩) hS0 ?_
              try simp only [Act.put, List.setIfInBounds_toArray, List.set_cons_zero, List.set_cons_succ]
              refine wpAnyH_take (i := 13) (oi := opLpa27) (v := .bool true) rfl (by kernel_rfl) (by kernel_rfl) (by kernel_rfl) (fun _ _ _ h => h) (Or.inl ⟨by rfl, by intro wS hSw; (try dsimp only at hSw); have yXq0 := (hSw.cell (lt_of_cell zXq0)).trans zXq0; have yXq1 := (hSw.cell (lt_of_cell zXq1)).trans zXq1; have yXq2 := (hSw.cell (lt_of_cell zXq2)).trans zXq2; have yXq3 := (hSw.cell (lt_of_cell zXq3)).trans zXq3; have yrc := (hSw.cell (lt_of_cell rc)).trans rc; have yre := (hSw.cell (lt_of_cell re)).trans re;  go_simp⟩) hS0 ?_
              try simp only [Act.put, List.setIfInBounds_toArray, List.set_cons_zero, List.set_cons_succ]
              refine wpAnyH_done (by kernel_rfl) ?_ _
              clear zXq0 zXq1 zXq2 zXq3 ltXq rc re
              obtain ⟨wqdd, hwd⟩ : ∃ v, wqd.drew = v := ⟨_, rfl⟩
              have hb := hS0
              rw [hwd] at hb ⊢
              clear hS0 hwd
              replace Sq := Lib.hid (Sq.out.below hb (Nat.le_refl _))
              replace RC := Lib.hid (RC.out.below hb (Nat.le_refl _))
              replace RE := Lib.hid (RE.out.below hb (Nat.le_refl _))
              replace Xq := Lib.hid ((hb.block _ (lt_of_block Xq.out)).trans Xq.out)
              replace HBq := Lib.hid (HBq.out.trans (hb.mono HBq.out.size))
              clear hb
              go_wp2_with fail
              go_roundw
              case rel => exact ⟨q + 1, by omega, by go_num, by rw [HS1.out] <;> rfl, by rw [HS2.out] <;> rfl, HBq⟩
              case measure => simp [intOf]; omega
        · obtain rfl : q = mi := by omega
          have hA1 := anyK_full (fun y => decide (y ∈ l.ls)) HI0.out.1
          have hA2 := anyK_full (fun y => decide (y ∈ l.rs)) HI0.out.1
          rw [hA1, hA2]
          have hap := HA9.out
          obtain ⟨u1, hu1⟩ : ∃ v, xi.any (fun y => decide (y ∈ l.ls)) = v := ⟨_, rfl⟩
          obtain ⟨u2, hu2⟩ : ∃ v, xi.any (fun y => decide (y ∈ l.rs)) = v := ⟨_, rfl⟩
          rw [hu1, hu2] at hap ⊢
          clear hu1 hu2 hA1 hA2
          rcases u1 with _ | _
          · clear hap
            go_wp2_with fail
            go_roundw
            case rel => exact ⟨n + 1, by have := Hlt.out; omega, by go_num, HBq⟩
            case measure => have := Hlt.out; simp [intOf]; omega
          obtain rfl : u2 = false := by rcases hap with e | e
                                        · cases e
                                        · exact e
          clear hap
          go_wp2_with fail
          go_roundw
          case rel => exact ⟨n + 1, by have := Hlt.out; omega, by go_num, HBq⟩
          case measure => have := Hlt.out; simp [intOf]; omega
    · obtain rfl : n = ng := by omega
      have hb := HBk.out
      replace LO := Lib.hid (LO.out.below hb (Nat.le_refl _))
      replace S := Lib.hid (S.out.below hb (Nat.le_refl _))
      replace HC := Lib.hid (HC.out.below hb (Nat.le_refl _))
      replace HG := Lib.hid (HG.out.below hb (Nat.le_refl _))
      replace X := Lib.hid ((hb.block _ (lt_of_block X.out)).trans X.out)
      replace Y := Lib.hid ((hb.block _ (lt_of_block Y.out)).trans Y.out)
      replace B := Lib.hid (B.out.trans (hb.mono B.out.size))
      clear hb HBk hn9 hlt hsm
      clear HG
      have ltX : R < wk.heap.size := lt_of_block X.out
      have zX0 : wk.cell? ⟨R, 0, none⟩ = some (.int .i64 l.N) := by rw [cell_row X.out]; rfl
      have zX1 : wk.cell? ⟨R, 1, none⟩ = some (.slice l.A l.n l.cap) := by rw [cell_row X.out]; rfl
      have zX2 : wk.cell? ⟨R, 2, none⟩ = some (.slice l.LA l.ln l.lc) := by rw [cell_row X.out]; rfl
      have zX3 : wk.cell? ⟨R, 3, none⟩ = some (.slice l.RA l.rn l.rc) := by rw [cell_row X.out]; rfl
      have ltY : R + 1 < wk.heap.size := lt_of_block Y.out
      have zY0 : wk.cell? ⟨R + 1, 0, none⟩ = some (.int .u64 (xa : Int)) := by rw [cell_row Y.out]; rfl
      have zY1 : wk.cell? ⟨R + 1, 1, none⟩ = some (.int .u64 (xb : Int)) := by rw [cell_row Y.out]; rfl
      go_wp2_with fail
      clear zX0 zX1 zX2 zX3 zY0 zY1 ltX ltY
      go_loopw [19, 20] (fun v i wr => ∃ q : Nat, q ≤ l.n ∧ i = .int .i64 (q : Int) ∧ Hid (∃ v1 : Value, v = v1 ∧ GrL wk wr v1 (nmK (dpP xa xb) q))) (fun v i _ => l.n - (intOf i).toNat)
      case atStart => exact ⟨0, Nat.zero_le _, rfl, Lib.hid ⟨_, rfl, GrI.nil _⟩⟩
      case round =>
        obtain ⟨q, hq9, rfl, HY⟩ := hrel
        obtain ⟨wq, rfl⟩ : ∃ wk, wk = wr := ⟨_, rfl⟩
        obtain ⟨v1, hv, hL⟩ := HY.out
        obtain rfl : v1 = _ := hv.symm
        clear HY hv
        have hbq := hL.2.2
        have Xq := Lib.hid ((hbq.block _ (lt_of_block X.out)).trans X.out)
        have Yq := Lib.hid ((hbq.block _ (lt_of_block Y.out)).trans Y.out)
        have zX1 : wq.cell? ⟨R, 1, none⟩ = some (.slice l.A l.n l.cap) := by rw [cell_row Xq.out]; rfl
        have hn12 := HN12.out
        by_cases hlt2 : q < l.n
        · obtain ⟨d, hd⟩ : ∃ d, q / 64 = d := ⟨_, rfl⟩
          obtain ⟨r, hr⟩ : ∃ r, q % 64 = r := ⟨_, rfl⟩
          have hd1 : d ≤ 1 := by omega
          have hr1 : r < 64 := by omega
          obtain ⟨xd, hxd⟩ : ∃ xd : Nat, (if q < 64 then xa else xb) = xd := ⟨_, rfl⟩
          have y1 : wq.cell? ⟨R + 1, d, none⟩ = some (.int .u64 (xd : Int)) := by
            rw [cell_row Yq.out]
            rcases (by omega : d = 0 ∨ d = 1) with e | e
            · rw [if_pos (by omega)] at hxd; subst hxd; rw [e]; rfl
            · rw [if_neg (by omega)] at hxd; subst hxd; rw [e]; rfl
          have hxm : xd ≤ 18446744073709551615 := by have := Hxa.out; have := Hxb.out; split at hxd <;> omega
          have hab := and_bit xd r hxm
          have hpe : dpP xa xb (q : Int) = xd.testBit r := by unfold dpP; rw [Int.toNat_natCast, hxd, hr]
          have e1 : (q : Int).tdiv 64 = (d : Int) := by rw [Int.tdiv_eq_ediv_of_nonneg (by omega)]; omega
          have e2 : (q : Int) / 64 = (d : Int) := by omega
          have e3 : (q : Int).tmod 64 = (r : Int) := by rw [Int.tmod_eq_emod_of_nonneg (by omega)]; omega
          have e4 : (q : Int) % 64 = (r : Int) := by omega
          have hlen := nmK_len (dpP xa xb) q
          have HL := Lib.hid hL
          have hy := fun e => nmK_yes (p := dpP xa xb) (k := q) e
          have hno := fun e => nmK_no (p := dpP xa xb) (k := q) e
          rw [hpe] at hy hno
          obtain ⟨C, cv, W', hrun, hG2, hkp⟩ := GrI.app2 hL (q : Int) (by omega)
          have HG2 := Lib.hid (show GrL wk W' (.slice C ((nmK (dpP xa xb) q).length + 1) cv) (nmK (dpP xa xb) q ++ [(q : Int)]) from by unfold GrL; rw [List.length_append]; exact hG2)
          have Hy := Lib.hid hy
          have Hno := Lib.hid hno
          have i0 : (0 : Int) ≤ (d : Int) := by omega
          have i1 : (d : Int) < 2 := by omega
          have i2 : (0 : Int) ≤ (r : Int) := by omega
          have i3 : ¬ (r : Int) < 0 := by omega
          have i4 : (r : Int) < 64 := by omega
          have i5 : (0 : Int) ≤ (q : Int) := by omega
          clear hd hr hxd hxm hpe hy hno hL hG2 hbq hlen hkp
          cases hbt : xd.testBit r
          · rw [hbt, if_neg (by simp)] at hab
            have HN := Lib.hid (Hno.out hbt)
            have d1 : ¬ bits BinOp.and IntKind.u64 ((xd : Int) / 2 ^ r) 1 = 1 := by rw [hab]; decide
            clear hab hbt hrun
            go_wp2_with fail
            go_roundw
            case rel => exact ⟨q + 1, by omega, by go_num, Lib.hid ⟨_, rfl, by rw [HN.out]; exact HL.out⟩⟩
            case measure => simp [intOf]; omega
          · rw [hbt, if_pos rfl] at hab
            have d1 : bits BinOp.and IntKind.u64 ((xd : Int) / 2 ^ r) 1 = 1 := hab
            have HN := Lib.hid (Hy.out hbt)
            clear hab hbt
            go_wp2_with fail
            go_roundw
            case rel => exact ⟨q + 1, by omega, by go_num, Lib.hid ⟨_, rfl, by rw [HN.out]; exact HG2.out⟩⟩
            case measure => simp [intOf]; omega
        obtain rfl : q = l.n := by omega
        obtain ⟨CD, cd, rfl, hcd, hI9, -⟩ := ints_own rfl hL.1
        have hb := hbq
        replace LO := Lib.hid (LO.out.below hb (Nat.le_refl _))
        replace S := Lib.hid (S.out.below hb (Nat.le_refl _))
        replace HC := Lib.hid (HC.out.below hb (Nat.le_refl _))
        replace X := Xq
        replace Y := Yq
        replace B := Lib.hid (B.out.trans (hb.mono B.out.size))
        have HLE := Lib.hid (layE_dp HCH.out (dpP xa xb))
        have hln := nmK_len (dpP xa xb) l.n
        obtain ⟨dl, hdl⟩ : ∃ v, nmK (dpP xa xb) l.n = v := ⟨_, rfl⟩
        rw [hdl] at hI9 hcd hln HLE ⊢
        obtain ⟨nd, hnd⟩ : ∃ v, dl.length = v := ⟨_, rfl⟩
        rw [hnd] at hI9 hcd hln ⊢
        have HD := Lib.hid hI9
        have Hcd := Lib.hid hcd
        have HD6 := Lib.hid (show nd ≤ 1000000 by omega)
        clear hI9 hcd hln hdl hnd hL hbq hb Xq Yq hq9 hlt2 hn12 zX1
        have ltX : R < wq.heap.size := lt_of_block X.out
        have zX0 : wq.cell? ⟨R, 0, none⟩ = some (.int .i64 l.N) := by rw [cell_row X.out]; rfl
        have zX1 : wq.cell? ⟨R, 1, none⟩ = some (.slice l.A l.n l.cap) := by rw [cell_row X.out]; rfl
        have zX2 : wq.cell? ⟨R, 2, none⟩ = some (.slice l.LA l.ln l.lc) := by rw [cell_row X.out]; rfl
        have zX3 : wq.cell? ⟨R, 3, none⟩ = some (.slice l.RA l.rn l.rc) := by rw [cell_row X.out]; rfl
        have ltY : R + 1 < wq.heap.size := lt_of_block Y.out
        have zY0 : wq.cell? ⟨R + 1, 0, none⟩ = some (.int .u64 (xa : Int)) := by rw [cell_row Y.out]; rfl
        have zY1 : wq.cell? ⟨R + 1, 1, none⟩ = some (.int .u64 (xb : Int)) := by rw [cell_row Y.out]; rfl
        go_wp2_with fail
        clear zX0 zX1 zX2 zX3 zY0 zY1 ltX ltY
        refine (chainA l CD nd cd dl wq S.out HD.out Hcd.out HD6.out).mono ?_
        rintro en wq1 ⟨CH, nh, ch, hs, rfl, hch9, hp6, hI, hz, hk, hb⟩
        replace LO := Lib.hid (LO.out.below hb (Nat.le_refl _))
        replace S := Lib.hid (S.out.below hb (Nat.le_refl _))
        replace HC := Lib.hid (HC.out.below hb (Nat.le_refl _))
        replace HD := Lib.hid (HD.out.below hb (Nat.le_refl _))
        replace X := Lib.hid ((hb.block _ (lt_of_block X.out)).trans X.out)
        replace Y := Lib.hid ((hb.block _ (lt_of_block Y.out)).trans Y.out)
        replace B := Lib.hid (B.out.trans (hb.mono B.out.size))
        have HH := Lib.hid hI
        have HHK := Lib.hid hk
        have HH6 := Lib.hid hp6
        have hee := chE_ok HLE.out
        clear hI hz hk hp6 hch9
        cases hj : jnB (labG l.zs dl l.n l.N.toNat) l.ls l.rs
        try clear hb
        · rw [hj, if_neg (by decide)] at hee
          rw [hee]
          have HJ := Lib.hid hj
          clear hj hee
          have ltX : R < wq1.heap.size := lt_of_block X.out
          have zX0 : wq1.cell? ⟨R, 0, none⟩ = some (.int .i64 l.N) := by rw [cell_row X.out]; rfl
          have zX1 : wq1.cell? ⟨R, 1, none⟩ = some (.slice l.A l.n l.cap) := by rw [cell_row X.out]; rfl
          have zX2 : wq1.cell? ⟨R, 2, none⟩ = some (.slice l.LA l.ln l.lc) := by rw [cell_row X.out]; rfl
          have zX3 : wq1.cell? ⟨R, 3, none⟩ = some (.slice l.RA l.rn l.rc) := by rw [cell_row X.out]; rfl
          have ltY : R + 1 < wq1.heap.size := lt_of_block Y.out
          have zY0 : wq1.cell? ⟨R + 1, 0, none⟩ = some (.int .u64 (xa : Int)) := by rw [cell_row Y.out]; rfl
          have zY1 : wq1.cell? ⟨R + 1, 1, none⟩ = some (.int .u64 (xb : Int)) := by rw [cell_row Y.out]; rfl
          go_wp2_with fail
          clear zX0 zX1 zX2 zX3 zY0 zY1 ltX ltY
          refine (joined37 l CD nd cd dl c wq1 S.out HD.out HD6.out HCH.out HCN.out).mono ?_
          rintro en wq2 ⟨rfl, hb⟩
          replace LO := Lib.hid (LO.out.below hb (Nat.le_refl _))
          replace S := Lib.hid (S.out.below hb (Nat.le_refl _))
          replace HC := Lib.hid (HC.out.below hb (Nat.le_refl _))
          replace HD := Lib.hid (HD.out.below hb (Nat.le_refl _))
          replace HH := Lib.hid (HH.out.below hb (Nat.le_refl _))
          replace X := Lib.hid ((hb.block _ (lt_of_block X.out)).trans X.out)
          replace Y := Lib.hid ((hb.block _ (lt_of_block Y.out)).trans Y.out)
          replace B := Lib.hid (B.out.trans (hb.mono B.out.size))
          rw [← HTO.out, HJ.out]
          try clear hb
          have ltX : R < wq2.heap.size := lt_of_block X.out
          have zX0 : wq2.cell? ⟨R, 0, none⟩ = some (.int .i64 l.N) := by rw [cell_row X.out]; rfl
          have zX1 : wq2.cell? ⟨R, 1, none⟩ = some (.slice l.A l.n l.cap) := by rw [cell_row X.out]; rfl
          have zX2 : wq2.cell? ⟨R, 2, none⟩ = some (.slice l.LA l.ln l.lc) := by rw [cell_row X.out]; rfl
          have zX3 : wq2.cell? ⟨R, 3, none⟩ = some (.slice l.RA l.rn l.rc) := by rw [cell_row X.out]; rfl
          have ltY : R + 1 < wq2.heap.size := lt_of_block Y.out
          have zY0 : wq2.cell? ⟨R + 1, 0, none⟩ = some (.int .u64 (xa : Int)) := by rw [cell_row Y.out]; rfl
          have zY1 : wq2.cell? ⟨R + 1, 1, none⟩ = some (.int .u64 (xb : Int)) := by rw [cell_row Y.out]; rfl
          go_wp2_with fail
          clear zX0 zX1 zX2 zX3 zY0 zY1 ltX ltY
          refine (works14 wq2).mono ?_
          rintro en wq3 ⟨rfl, hb⟩
          replace B := Lib.hid (B.out.trans (hb.mono B.out.size))
          clear hb
          go_wp2_with fail
          go_ret
          exact ⟨rfl, B.out⟩
        rw [hj, if_pos rfl] at hee
        rw [hee]
        have HJ := Lib.hid hj
        have HK2 := Lib.hid (HHK.out hee).2
        clear hj hee
        have ltX : R < wq1.heap.size := lt_of_block X.out
        have zX0 : wq1.cell? ⟨R, 0, none⟩ = some (.int .i64 l.N) := by rw [cell_row X.out]; rfl
        have zX1 : wq1.cell? ⟨R, 1, none⟩ = some (.slice l.A l.n l.cap) := by rw [cell_row X.out]; rfl
        have zX2 : wq1.cell? ⟨R, 2, none⟩ = some (.slice l.LA l.ln l.lc) := by rw [cell_row X.out]; rfl
        have zX3 : wq1.cell? ⟨R, 3, none⟩ = some (.slice l.RA l.rn l.rc) := by rw [cell_row X.out]; rfl
        have ltY : R + 1 < wq1.heap.size := lt_of_block Y.out
        have zY0 : wq1.cell? ⟨R + 1, 0, none⟩ = some (.int .u64 (xa : Int)) := by rw [cell_row Y.out]; rfl
        have zY1 : wq1.cell? ⟨R + 1, 1, none⟩ = some (.int .u64 (xb : Int)) := by rw [cell_row Y.out]; rfl
        go_wp2_with fail
        clear zX0 zX1 zX2 zX3 zY0 zY1 ltX ltY
        refine (refCheckChain22 l CD nd cd dl CH nh ch hs wq1 S.out HD.out HD6.out HH.out HH6.out).mono ?_
        rintro en wq2 ⟨rfl, hb⟩
        replace LO := Lib.hid (LO.out.below hb (Nat.le_refl _))
        replace S := Lib.hid (S.out.below hb (Nat.le_refl _))
        replace HC := Lib.hid (HC.out.below hb (Nat.le_refl _))
        replace HD := Lib.hid (HD.out.below hb (Nat.le_refl _))
        replace HH := Lib.hid (HH.out.below hb (Nat.le_refl _))
        replace X := Lib.hid ((hb.block _ (lt_of_block X.out)).trans X.out)
        replace Y := Lib.hid ((hb.block _ (lt_of_block Y.out)).trans Y.out)
        replace B := Lib.hid (B.out.trans (hb.mono B.out.size))
        rw [HK2.out]
        try clear hb
        have ltX : R < wq2.heap.size := lt_of_block X.out
        have zX0 : wq2.cell? ⟨R, 0, none⟩ = some (.int .i64 l.N) := by rw [cell_row X.out]; rfl
        have zX1 : wq2.cell? ⟨R, 1, none⟩ = some (.slice l.A l.n l.cap) := by rw [cell_row X.out]; rfl
        have zX2 : wq2.cell? ⟨R, 2, none⟩ = some (.slice l.LA l.ln l.lc) := by rw [cell_row X.out]; rfl
        have zX3 : wq2.cell? ⟨R, 3, none⟩ = some (.slice l.RA l.rn l.rc) := by rw [cell_row X.out]; rfl
        have ltY : R + 1 < wq2.heap.size := lt_of_block Y.out
        have zY0 : wq2.cell? ⟨R + 1, 0, none⟩ = some (.int .u64 (xa : Int)) := by rw [cell_row Y.out]; rfl
        have zY1 : wq2.cell? ⟨R + 1, 1, none⟩ = some (.int .u64 (xb : Int)) := by rw [cell_row Y.out]; rfl
        go_wp2_with fail
        clear zX0 zX1 zX2 zX3 zY0 zY1 ltX ltY
        go_loopw [23] (fun i wr => ∃ k : Nat, k ≤ nc ∧ i = .int .i64 (k : Int) ∧ Hid (∀ j, j < k → decide (iAt ds j ∈ dl) = true) ∧ wr = wq2) (fun i _ => nc - (intOf i).toNat)
        case atStart => exact ⟨0, Nat.zero_le _, rfl, Lib.hid (fun j hj => by omega), rfl⟩
        case round =>
          obtain ⟨k, hk9, rfl, HA, hw9⟩ := hrel
          subst wr
          have hc6 := HC6.out
          by_cases hlt3 : k < nc
          · obtain ⟨bc, oc, hA, hcz⟩ := HC.out.2 (by omega)
            have z0 := hcz k hlt3
            subst hA
            have HA2 := Lib.hid (show decide (iAt ds k ∈ dl) = true → ∀ j, j < k + 1 → decide (iAt ds j ∈ dl) = true from fun e j hj => by
              rcases Nat.lt_or_ge j k with h | h
              · exact HA.out j h
              · obtain rfl : j = k := by omega
                exact e)
            obtain ⟨v, hv⟩ : ∃ v, iAt ds k = v := ⟨_, rfl⟩
            rw [hv] at z0 HA2
            have K := Lib.hid (in38 CD nd cd dl v wq2 HD.out HD6.out)
            obtain ⟨u, hu⟩ : ∃ u, decide (v ∈ dl) = u := ⟨_, rfl⟩
            rw [hu] at K HA2
            have i0 : (0 : Int) ≤ (k : Int) := by omega
            have i1 : (k : Int) < (nc : Int) := by omega
            clear hv hu hcz
            go_wp2_with fail
            refine K.out.mono ?_
            rintro en w9 ⟨rfl, hw9⟩
            subst w9
            rcases u with _ | _
            · go_wp2_with fail
              refine (works14 wq2).mono ?_
              rintro en w8 ⟨rfl, hb⟩
              replace B := Lib.hid (B.out.trans (hb.mono B.out.size))
              clear hb
              go_wp2_with fail
              go_ret
              exact ⟨rfl, B.out⟩
            · have HN := Lib.hid (HA2.out rfl)
              go_wp2_with fail
              go_roundw
              case rel => exact ⟨k + 1, by omega, by go_num, HN, trivial⟩
              case measure => simp [intOf]; omega
          · exfalso
            obtain rfl : k = nc := by omega
            have h1 := mem_idx2 HC.out.1 (p := fun y => decide (y ∈ dl)) HA.out
            have h2 := cut_parts S.out (sdP_side HCH.out x) HLE.out (fun y hy => of_decide_eq_true (h1 y (by rw [← HDS.out]; exact hy)))
            rw [HJ.out] at h2
            cases h2
end
end Go.Proofs.Ytigohccehllmnaa
