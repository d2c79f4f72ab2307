/- Stage 2: the walk of JoinWider. -/
import Derived.Test.YtfmcfalghbaanaaWdx
namespace Go.Proofs.Ytfmcfalghbaanaa
set_option linter.unusedSimpArgs false
set_option linter.unusedVariables false
open Go.RowKit Go.Shelf
attribute [local go_sem] Oper.semAt_some
attribute [local go_sem ↓] exec_app
attribute [local go_sem ↓] at_app

section
variable {w : World} {B D : Nat} {A : Option Addr} {n cap : Nat} {off lo hi : Int} {ps : List Pc} {off2 lo2 hi2 : Int} {qs : List Pc} {g cp : Nat} {W : World}
theorem Kw2.all (h : Kw2 w B D A n cap off lo hi ps off2 lo2 hi2 qs g cp W) : Kw2 w B D A n cap off lo hi ps off2 lo2 hi2 qs g cp W ∧
    W.cell? ⟨B, 0, none⟩ = some (.slice A n cap) ∧ W.cell? ⟨B, 1, none⟩ = some (.int .i64 off) ∧ W.cell? ⟨B, 2, none⟩ = some (.int .i64 lo) ∧ W.cell? ⟨B, 3, none⟩ = some (.int .i64 hi) :=
  ⟨h, h.v.k.c⟩
end
/-- One piece that is wider. -/
theorem wid_one {c : Cy} {k : Nat} {p q : Pc} (hp : pAt c.ps k = p) (hk : k < c.ps.length) (h : WidP p q) {off2 lo2 hi2 : Int} (h1 : c.off ≤ off2) (h2 : lo2 ≤ c.step.lo) (h3 : c.step.hi ≤ hi2) : WidC c ⟨c.ps.set k q, off2, ⟨lo2, hi2⟩⟩ := by
  refine ⟨List.length_set, fun j => ?_, h1, h2, h3⟩
  show WidP (pAt c.ps j) (pAt (c.ps.set k q) j)
  by_cases e : j = k
  · subst e
    have : pAt (c.ps.set j q) j = q := by
      unfold pAt
      simp [List.getD, hk]
    rw [this, hp]
    exact h
  · have : pAt (c.ps.set k q) j = pAt c.ps j := by
      unfold pAt
      rw [List.getD_eq_getElem?_getD, List.getElem?_set_ne (fun e2 => e e2.symm)]
      rfl
    rw [this]
    exact WidP.refl _
theorem pAt_set {l : List Pc} {k : Nat} (h : k < l.length) (p : Pc) : pAt (l.set k p) k = p := by
  unfold pAt
  simp [List.getD, h]
/-- The second cylinder is stored. -/
theorem Kw2.fin {w W : World} {B D g cp n cap : Nat} {A : Option Addr} {off lo hi off2 lo2 hi2 : Int} {ps : List Pc} (p0 : Pcs w A n ps) (hb : Below w.heap.size w W) (hB : w.heap.size ≤ B) (hD : w.heap.size ≤ D) (hBD : B ≠ D)
    (r0 : W.heap[B]? = some (.cells #[.slice A n cap, .int .i64 off, .int .i64 lo, .int .i64 hi] 26 (0, 0))) (hd : W.heap[D]? = some (.cells #[.slice none 0 0, .int .i64 0, .int .i64 0, .int .i64 0] 26 (0, 0)))
    (own : W.ownsRow 0 62 7 (.slice (some ⟨g, 0, none⟩) n cp) n (flatPc ps)) (hg : w.heap.size ≤ g ∧ g ≠ B ∧ g ≠ D) :
    Kw2 w B D A n cap off lo hi ps off2 lo2 hi2 ps g cp ((((W.setCell ⟨D, 0, none⟩ (.slice (some ⟨g, 0, none⟩) n cp)).setCell ⟨D, 1, none⟩ (.int .i64 off2)).setCell ⟨D, 2, none⟩ (.int .i64 lo2)).setCell ⟨D, 3, none⟩ (.int .i64 hi2)) := by
  have k0 := keeps_setCell W D 0 (.slice (some ⟨g, 0, none⟩) n cp)
  have k1 := keeps_setCell (W.setCell ⟨D, 0, none⟩ (.slice (some ⟨g, 0, none⟩) n cp)) D 1 (.int .i64 off2)
  have k2 := keeps_setCell ((W.setCell ⟨D, 0, none⟩ (.slice (some ⟨g, 0, none⟩) n cp)).setCell ⟨D, 1, none⟩ (.int .i64 off2)) D 2 (.int .i64 lo2)
  have k3 := keeps_setCell (((W.setCell ⟨D, 0, none⟩ (.slice (some ⟨g, 0, none⟩) n cp)).setCell ⟨D, 1, none⟩ (.int .i64 off2)).setCell ⟨D, 2, none⟩ (.int .i64 lo2)) D 3 (.int .i64 hi2)
  have k := ((k0.trans k1).trans k2).trans k3
  have hgl := own_lt own _ rfl
  refine ⟨p0, hb.trans (k.below (B := w.heap.size) hb.size (fun i hi e => by omega)), ⟨hB, hD, hBD⟩, (k.block _ (lt_of_block r0) hBD).trans r0, ?_, p0.1, own_keep own k (fun i hi e => by cases hi; exact hg.2.2 e), hg⟩
  rw [set_same 3 _ (set_same 2 _ (set_same 1 _ (set_same 0 _ hd)))]
  rfl

set_option maxRecDepth 100000 in
set_option maxHeartbeats 20000000 in
theorem wider9 (A : Option Addr) (n cap : Nat) (off lo hi : Int) (ao st ad wh num : Nat) (ps : List Pc) (w : World) (h : Pcs w A n ps) (hn : n ≤ 9223372036854775807) (hao : ao ≤ 255) (hst : st ≤ 255) (had : ad ≤ 255) (hwh : wh ≤ 255) (hnum : num ≤ 4294967295) :
    Calls Try.prog 9 #[cyl A n cap off lo hi, .int .u8 (ao : Int), .int .u8 (st : Int), .int .u8 (ad : Int), .int .u8 (wh : Int), .int .u32 (num : Int)] w fun e w' => e = .returned (.bool true) ∧ Below w.heap.size w w' := by
  have hk : Kz w w.heap.size A n cap off lo hi ps none 0 [] _ := Kz.new (cap := cap) (off := off) (lo := lo) (hi := hi) h ⟨rfl, by omega⟩
  have K := Lib.hid hk
  have Hp := Lib.hid h
  have Hn := Lib.hid hn
  have Hnum := Lib.hid hnum
  have Had := Lib.hid had
  have Hwh := Lib.hid hwh
  clear hnum had hwh
  clear h hn hk
  unfold cyl
  go_enter Try.func9, Try.ntmps9
  go_wp2_with fail
  have HB0 := Lib.hid (Nat.le_refl w.heap.size)
  generalize (w.alloc (.cells #[.slice A n cap, .int .i64 off, .int .i64 lo, .int .i64 hi] 26)) = W0 at K ⊢
  obtain ⟨B, hB⟩ : ∃ B, w.heap.size = B := ⟨_, rfl⟩
  replace K := Lib.hid (show Kz w B A n cap off lo hi ps none 0 [] W0 from by rw [← hB]; exact K.out)
  replace HB0 := Lib.hid (show w.heap.size ≤ B from by omega)
  rw [hB]
  clear hB
  refine (fine35 A n cap off lo hi ps W0 K.out.pcs Hn.out).mono ?_
  rintro e W1 ⟨rfl, hb⟩
  replace K := Lib.hid (K.out.next hb)
  clear hb
  obtain ⟨f, hf⟩ : ∃ f, fineB ⟨ps, off, ⟨lo, hi⟩⟩ = f := ⟨_, rfl⟩
  rw [hf]
  have Hf := Lib.hid hf
  clear hf
  cases f with
  | false =>
    go_wp2_with fail
    refine (works13 _).mono ?_
    rintro e W2 ⟨rfl, hb⟩
    have HB := Lib.hid (K.out.next hb)
    clear hb
    go_wp2_with fail
    go_ret
    exact ⟨rfl, HB.out.below⟩
  | true =>
    have he : chkC ⟨ps, off, ⟨lo, hi⟩⟩ = 0 := by
      have := Hf.out
      unfold fineB at this
      simp only [Bool.and_eq_true, decide_eq_true_eq] at this
      exact this.2
    have He := Lib.hid he
    have H8 := Lib.hid (chkC_facts he)
    obtain ⟨b1, b2, b3, b4, b5, b6, b7, -⟩ := chkC_facts he
    have hnl := K.out.pcs.1
    have hn8 : 1 ≤ n ∧ n ≤ 8 := by rw [← hnl]; exact ⟨b1, b2⟩
    obtain ⟨hn1, hn2⟩ := hn8
    have b3 : 0 ≤ off := b3
    have b4 : off ≤ 1000 := b4
    have b5 : -100000 ≤ lo := b5
    have b6 : lo ≤ hi := b6
    have b7 : hi ≤ 100000 := b7
    clear he b1 b2 hnl
    obtain ⟨c0, c1, c2, c3⟩ := K.out.c
    go_wp2_with fail
    have s1 : IntKind.i64.wrap (ao : Int) = (ao : Int) := IntWalk.i64_in _ ⟨by omega, by omega⟩
    have s2 : IntKind.i64.wrap (st : Int) = (st : Int) := IntWalk.i64_in _ ⟨by omega, by omega⟩
    have s3 : IntKind.i64.wrap (off + (ao : Int)) = off + (ao : Int) := IntWalk.i64_in _ ⟨by omega, by omega⟩
    have s4 : IntKind.i64.wrap (lo - (st : Int)) = lo - (st : Int) := IntWalk.i64_in _ ⟨by omega, by omega⟩
    have s5 : IntKind.i64.wrap (hi + (st : Int)) = hi + (st : Int) := IntWalk.i64_in _ ⟨by omega, by omega⟩
    go_cut [13] from 25 to 47 (fun v13 wx => ∃ D g cp : Nat, v13 = .pointer (some ⟨D, 0, none⟩) ∧ Kw2 w B D A n cap off lo hi ps (off + (ao : Int)) (lo - (st : Int)) (hi + (st : Int)) ps g cp wx)
    case first =>
      have HBl := Lib.hid (lt_of_block K.out.r0)
      refine wp_region_held_drew (S := fun w2 => Below W1.heap.size W1 w2) (by kernel_rfl) (drew_b _ _) (fun hS0 => ?_)
      refine wpAnyH_take (i := 1) (oi := { dst := some 26, op := Go.Op.fieldAddr 26 (Go.Operand.tmp 6) 0, type := 0, pos := "outright.go:156", after := #[], guard := none }) (v := .pointer (some ⟨B, 0, none⟩)) rfl (by kernel_rfl) (by kernel_rfl) (by kernel_rfl) (fun _ _ _ h => h) (Or.inl ⟨by rfl, by intro w2 hSw; (try dsimp only at hSw); have c0 := (hSw.cell (p := ⟨B, 0, none⟩) HBl.out).trans c0; have c1 := (hSw.cell (p := ⟨B, 1, none⟩) HBl.out).trans c1; have c2 := (hSw.cell (p := ⟨B, 2, none⟩) HBl.out).trans c2; have c3 := (hSw.cell (p := ⟨B, 3, none⟩) HBl.out).trans c3; go_simp⟩) hS0 ?_
      try simp only [Act.put, List.setIfInBounds_toArray, List.set_cons_zero, List.set_cons_succ]
      refine wpAnyH_take (i := 2) (oi := { dst := some 27, op := Go.Op.load 22 (Go.Operand.tmp 26), type := 22, pos := "outright.go:156", after := #[{ on := 1, ground := Go.Ground.data }], guard := none }) (v := .slice A n cap) rfl (by kernel_rfl) (by kernel_rfl) (by kernel_rfl) (fun _ _ _ h => h) (Or.inl ⟨by rfl, by intro w2 hSw; (try dsimp only at hSw); have c0 := (hSw.cell (p := ⟨B, 0, none⟩) HBl.out).trans c0; have c1 := (hSw.cell (p := ⟨B, 1, none⟩) HBl.out).trans c1; have c2 := (hSw.cell (p := ⟨B, 2, none⟩) HBl.out).trans c2; have c3 := (hSw.cell (p := ⟨B, 3, none⟩) HBl.out).trans c3; go_simp⟩) hS0 ?_
      try simp only [Act.put, List.setIfInBounds_toArray, List.set_cons_zero, List.set_cons_succ]
      refine wpAnyH_take (i := 4) (oi := { dst := some 29, op := Go.Op.fieldAddr 26 (Go.Operand.tmp 6) 1, type := 0, pos := "outright.go:156", after := #[], guard := none }) (v := .pointer (some ⟨B, 1, none⟩)) rfl (by kernel_rfl) (by kernel_rfl) (by kernel_rfl) (fun _ _ _ h => h) (Or.inl ⟨by rfl, by intro w2 hSw; (try dsimp only at hSw); have c0 := (hSw.cell (p := ⟨B, 0, none⟩) HBl.out).trans c0; have c1 := (hSw.cell (p := ⟨B, 1, none⟩) HBl.out).trans c1; have c2 := (hSw.cell (p := ⟨B, 2, none⟩) HBl.out).trans c2; have c3 := (hSw.cell (p := ⟨B, 3, none⟩) HBl.out).trans c3; go_simp⟩) hS0 ?_
      try simp only [Act.put, List.setIfInBounds_toArray, List.set_cons_zero, List.set_cons_succ]
      refine wpAnyH_take (i := 5) (oi := { dst := some 30, op := Go.Op.load 2 (Go.Operand.tmp 29), type := 2, pos := "outright.go:156", after := #[{ on := 4, ground := Go.Ground.data }], guard := none }) (v := .int .i64 off) rfl (by kernel_rfl) (by kernel_rfl) (by kernel_rfl) (fun _ _ _ h => h) (Or.inl ⟨by rfl, by intro w2 hSw; (try dsimp only at hSw); have c0 := (hSw.cell (p := ⟨B, 0, none⟩) HBl.out).trans c0; have c1 := (hSw.cell (p := ⟨B, 1, none⟩) HBl.out).trans c1; have c2 := (hSw.cell (p := ⟨B, 2, none⟩) HBl.out).trans c2; have c3 := (hSw.cell (p := ⟨B, 3, none⟩) HBl.out).trans c3; go_simp⟩) hS0 ?_
      try simp only [Act.put, List.setIfInBounds_toArray, List.set_cons_zero, List.set_cons_succ]
      refine wpAnyH_take (i := 6) (oi := { dst := some 31, op := Go.Op.move (Go.Operand.tmp 1), type := 5, pos := "outright.go:156", after := #[], guard := none }) (v := .int .u8 (ao : Int)) rfl (by kernel_rfl) (by kernel_rfl) (by kernel_rfl) (fun _ _ _ h => h) (Or.inl ⟨by rfl, by intro w2 hSw; (try dsimp only at hSw); have c0 := (hSw.cell (p := ⟨B, 0, none⟩) HBl.out).trans c0; have c1 := (hSw.cell (p := ⟨B, 1, none⟩) HBl.out).trans c1; have c2 := (hSw.cell (p := ⟨B, 2, none⟩) HBl.out).trans c2; have c3 := (hSw.cell (p := ⟨B, 3, none⟩) HBl.out).trans c3; go_simp⟩) hS0 ?_
      try simp only [Act.put, List.setIfInBounds_toArray, List.set_cons_zero, List.set_cons_succ]
      refine wpAnyH_take (i := 7) (oi := { dst := some 32, op := Go.Op.convert 5 2 (Go.Operand.tmp 31), type := 2, pos := "outright.go:156", after := #[{ on := 6, ground := Go.Ground.data }], guard := none }) (v := .int .i64 (ao : Int)) rfl (by kernel_rfl) (by kernel_rfl) (by kernel_rfl) (fun _ _ _ h => h) (Or.inl ⟨by rfl, by intro w2 hSw; (try dsimp only at hSw); have c0 := (hSw.cell (p := ⟨B, 0, none⟩) HBl.out).trans c0; have c1 := (hSw.cell (p := ⟨B, 1, none⟩) HBl.out).trans c1; have c2 := (hSw.cell (p := ⟨B, 2, none⟩) HBl.out).trans c2; have c3 := (hSw.cell (p := ⟨B, 3, none⟩) HBl.out).trans c3; go_simp⟩) hS0 ?_
      try simp only [Act.put, List.setIfInBounds_toArray, List.set_cons_zero, List.set_cons_succ]
      refine wpAnyH_take (i := 8) (oi := { dst := some 33, op := Go.Op.binOp Go.BinOp.add 2 (Go.Operand.tmp 30) (Go.Operand.tmp 32) 2, type := 2, pos := "outright.go:156", after := #[{ on := 5, ground := Go.Ground.data }, { on := 7, ground := Go.Ground.data }], guard := none }) (v := .int .i64 (off + (ao : Int))) rfl (by kernel_rfl) (by kernel_rfl) (by kernel_rfl) (fun _ _ _ h => h) (Or.inl ⟨by rfl, by intro w2 hSw; (try dsimp only at hSw); have c0 := (hSw.cell (p := ⟨B, 0, none⟩) HBl.out).trans c0; have c1 := (hSw.cell (p := ⟨B, 1, none⟩) HBl.out).trans c1; have c2 := (hSw.cell (p := ⟨B, 2, none⟩) HBl.out).trans c2; have c3 := (hSw.cell (p := ⟨B, 3, none⟩) HBl.out).trans c3; go_simp⟩) hS0 ?_
      try simp only [Act.put, List.setIfInBounds_toArray, List.set_cons_zero, List.set_cons_succ]
      refine wpAnyH_take (i := 9) (oi := { dst := some 34, op := Go.Op.fieldAddr 26 (Go.Operand.tmp 6) 2, type := 0, pos := "outright.go:156", after := #[], guard := none }) (v := .pointer (some ⟨B, 2, none⟩)) rfl (by kernel_rfl) (by kernel_rfl) (by kernel_rfl) (fun _ _ _ h => h) (Or.inl ⟨by rfl, by intro w2 hSw; (try dsimp only at hSw); have c0 := (hSw.cell (p := ⟨B, 0, none⟩) HBl.out).trans c0; have c1 := (hSw.cell (p := ⟨B, 1, none⟩) HBl.out).trans c1; have c2 := (hSw.cell (p := ⟨B, 2, none⟩) HBl.out).trans c2; have c3 := (hSw.cell (p := ⟨B, 3, none⟩) HBl.out).trans c3; go_simp⟩) hS0 ?_
      try simp only [Act.put, List.setIfInBounds_toArray, List.set_cons_zero, List.set_cons_succ]
      refine wpAnyH_take (i := 10) (oi := { dst := some 35, op := Go.Op.fieldAddr 24 (Go.Operand.tmp 34) 0, type := 0, pos := "outright.go:156", after := #[{ on := 9, ground := Go.Ground.data }], guard := none }) (v := .pointer (some ⟨B, 2, none⟩)) rfl (by kernel_rfl) (by kernel_rfl) (by kernel_rfl) (fun _ _ _ h => h) (Or.inl ⟨by rfl, by intro w2 hSw; (try dsimp only at hSw); have c0 := (hSw.cell (p := ⟨B, 0, none⟩) HBl.out).trans c0; have c1 := (hSw.cell (p := ⟨B, 1, none⟩) HBl.out).trans c1; have c2 := (hSw.cell (p := ⟨B, 2, none⟩) HBl.out).trans c2; have c3 := (hSw.cell (p := ⟨B, 3, none⟩) HBl.out).trans c3; go_simp⟩) hS0 ?_
      try simp only [Act.put, List.setIfInBounds_toArray, List.set_cons_zero, List.set_cons_succ]
      refine wpAnyH_take (i := 11) (oi := { dst := some 36, op := Go.Op.load 2 (Go.Operand.tmp 35), type := 2, pos := "outright.go:156", after := #[{ on := 10, ground := Go.Ground.data }], guard := none }) (v := .int .i64 lo) rfl (by kernel_rfl) (by kernel_rfl) (by kernel_rfl) (fun _ _ _ h => h) (Or.inl ⟨by rfl, by intro w2 hSw; (try dsimp only at hSw); have c0 := (hSw.cell (p := ⟨B, 0, none⟩) HBl.out).trans c0; have c1 := (hSw.cell (p := ⟨B, 1, none⟩) HBl.out).trans c1; have c2 := (hSw.cell (p := ⟨B, 2, none⟩) HBl.out).trans c2; have c3 := (hSw.cell (p := ⟨B, 3, none⟩) HBl.out).trans c3; go_simp⟩) hS0 ?_
      try simp only [Act.put, List.setIfInBounds_toArray, List.set_cons_zero, List.set_cons_succ]
      refine wpAnyH_take (i := 12) (oi := { dst := some 37, op := Go.Op.move (Go.Operand.tmp 2), type := 5, pos := "outright.go:156", after := #[], guard := none }) (v := .int .u8 (st : Int)) rfl (by kernel_rfl) (by kernel_rfl) (by kernel_rfl) (fun _ _ _ h => h) (Or.inl ⟨by rfl, by intro w2 hSw; (try dsimp only at hSw); have c0 := (hSw.cell (p := ⟨B, 0, none⟩) HBl.out).trans c0; have c1 := (hSw.cell (p := ⟨B, 1, none⟩) HBl.out).trans c1; have c2 := (hSw.cell (p := ⟨B, 2, none⟩) HBl.out).trans c2; have c3 := (hSw.cell (p := ⟨B, 3, none⟩) HBl.out).trans c3; go_simp⟩) hS0 ?_
      try simp only [Act.put, List.setIfInBounds_toArray, List.set_cons_zero, List.set_cons_succ]
      refine wpAnyH_take (i := 13) (oi := { dst := some 38, op := Go.Op.convert 5 2 (Go.Operand.tmp 37), type := 2, pos := "outright.go:156", after := #[{ on := 12, ground := Go.Ground.data }], guard := none }) (v := .int .i64 (st : Int)) rfl (by kernel_rfl) (by kernel_rfl) (by kernel_rfl) (fun _ _ _ h => h) (Or.inl ⟨by rfl, by intro w2 hSw; (try dsimp only at hSw); have c0 := (hSw.cell (p := ⟨B, 0, none⟩) HBl.out).trans c0; have c1 := (hSw.cell (p := ⟨B, 1, none⟩) HBl.out).trans c1; have c2 := (hSw.cell (p := ⟨B, 2, none⟩) HBl.out).trans c2; have c3 := (hSw.cell (p := ⟨B, 3, none⟩) HBl.out).trans c3; go_simp⟩) hS0 ?_
      try simp only [Act.put, List.setIfInBounds_toArray, List.set_cons_zero, List.set_cons_succ]
      refine wpAnyH_take (i := 14) (oi := { dst := some 39, op := Go.Op.binOp Go.BinOp.sub 2 (Go.Operand.tmp 36) (Go.Operand.tmp 38) 2, type := 2, pos := "outright.go:156", after := #[{ on := 11, ground := Go.Ground.data }, { on := 13, ground := Go.Ground.data }], guard := none }) (v := .int .i64 (lo - (st : Int))) rfl (by kernel_rfl) (by kernel_rfl) (by kernel_rfl) (fun _ _ _ h => h) (Or.inl ⟨by rfl, by intro w2 hSw; (try dsimp only at hSw); have c0 := (hSw.cell (p := ⟨B, 0, none⟩) HBl.out).trans c0; have c1 := (hSw.cell (p := ⟨B, 1, none⟩) HBl.out).trans c1; have c2 := (hSw.cell (p := ⟨B, 2, none⟩) HBl.out).trans c2; have c3 := (hSw.cell (p := ⟨B, 3, none⟩) HBl.out).trans c3; go_simp⟩) hS0 ?_
      try simp only [Act.put, List.setIfInBounds_toArray, List.set_cons_zero, List.set_cons_succ]
      refine wpAnyH_take (i := 15) (oi := { dst := some 40, op := Go.Op.fieldAddr 26 (Go.Operand.tmp 6) 2, type := 0, pos := "outright.go:156", after := #[], guard := none }) (v := .pointer (some ⟨B, 2, none⟩)) rfl (by kernel_rfl) (by kernel_rfl) (by kernel_rfl) (fun _ _ _ h => h) (Or.inl ⟨by rfl, by intro w2 hSw; (try dsimp only at hSw); have c0 := (hSw.cell (p := ⟨B, 0, none⟩) HBl.out).trans c0; have c1 := (hSw.cell (p := ⟨B, 1, none⟩) HBl.out).trans c1; have c2 := (hSw.cell (p := ⟨B, 2, none⟩) HBl.out).trans c2; have c3 := (hSw.cell (p := ⟨B, 3, none⟩) HBl.out).trans c3; go_simp⟩) hS0 ?_
      try simp only [Act.put, List.setIfInBounds_toArray, List.set_cons_zero, List.set_cons_succ]
      refine wpAnyH_take (i := 16) (oi := { dst := some 41, op := Go.Op.fieldAddr 24 (Go.Operand.tmp 40) 1, type := 0, pos := "outright.go:156", after := #[{ on := 15, ground := Go.Ground.data }], guard := none }) (v := .pointer (some ⟨B, 3, none⟩)) rfl (by kernel_rfl) (by kernel_rfl) (by kernel_rfl) (fun _ _ _ h => h) (Or.inl ⟨by rfl, by intro w2 hSw; (try dsimp only at hSw); have c0 := (hSw.cell (p := ⟨B, 0, none⟩) HBl.out).trans c0; have c1 := (hSw.cell (p := ⟨B, 1, none⟩) HBl.out).trans c1; have c2 := (hSw.cell (p := ⟨B, 2, none⟩) HBl.out).trans c2; have c3 := (hSw.cell (p := ⟨B, 3, none⟩) HBl.out).trans c3; go_simp⟩) hS0 ?_
      try simp only [Act.put, List.setIfInBounds_toArray, List.set_cons_zero, List.set_cons_succ]
      refine wpAnyH_take (i := 17) (oi := { dst := some 42, op := Go.Op.load 2 (Go.Operand.tmp 41), type := 2, pos := "outright.go:156", after := #[{ on := 16, ground := Go.Ground.data }], guard := none }) (v := .int .i64 hi) rfl (by kernel_rfl) (by kernel_rfl) (by kernel_rfl) (fun _ _ _ h => h) (Or.inl ⟨by rfl, by intro w2 hSw; (try dsimp only at hSw); have c0 := (hSw.cell (p := ⟨B, 0, none⟩) HBl.out).trans c0; have c1 := (hSw.cell (p := ⟨B, 1, none⟩) HBl.out).trans c1; have c2 := (hSw.cell (p := ⟨B, 2, none⟩) HBl.out).trans c2; have c3 := (hSw.cell (p := ⟨B, 3, none⟩) HBl.out).trans c3; go_simp⟩) hS0 ?_
      try simp only [Act.put, List.setIfInBounds_toArray, List.set_cons_zero, List.set_cons_succ]
      refine wpAnyH_take (i := 18) (oi := { dst := some 43, op := Go.Op.move (Go.Operand.tmp 2), type := 5, pos := "outright.go:156", after := #[], guard := none }) (v := .int .u8 (st : Int)) rfl (by kernel_rfl) (by kernel_rfl) (by kernel_rfl) (fun _ _ _ h => h) (Or.inl ⟨by rfl, by intro w2 hSw; (try dsimp only at hSw); have c0 := (hSw.cell (p := ⟨B, 0, none⟩) HBl.out).trans c0; have c1 := (hSw.cell (p := ⟨B, 1, none⟩) HBl.out).trans c1; have c2 := (hSw.cell (p := ⟨B, 2, none⟩) HBl.out).trans c2; have c3 := (hSw.cell (p := ⟨B, 3, none⟩) HBl.out).trans c3; go_simp⟩) hS0 ?_
      try simp only [Act.put, List.setIfInBounds_toArray, List.set_cons_zero, List.set_cons_succ]
      refine wpAnyH_take (i := 19) (oi := { dst := some 44, op := Go.Op.convert 5 2 (Go.Operand.tmp 43), type := 2, pos := "outright.go:156", after := #[{ on := 18, ground := Go.Ground.data }], guard := none }) (v := .int .i64 (st : Int)) rfl (by kernel_rfl) (by kernel_rfl) (by kernel_rfl) (fun _ _ _ h => h) (Or.inl ⟨by rfl, by intro w2 hSw; (try dsimp only at hSw); have c0 := (hSw.cell (p := ⟨B, 0, none⟩) HBl.out).trans c0; have c1 := (hSw.cell (p := ⟨B, 1, none⟩) HBl.out).trans c1; have c2 := (hSw.cell (p := ⟨B, 2, none⟩) HBl.out).trans c2; have c3 := (hSw.cell (p := ⟨B, 3, none⟩) HBl.out).trans c3; go_simp⟩) hS0 ?_
      try simp only [Act.put, List.setIfInBounds_toArray, List.set_cons_zero, List.set_cons_succ]
      refine wpAnyH_take (i := 20) (oi := { dst := some 45, op := Go.Op.binOp Go.BinOp.add 2 (Go.Operand.tmp 42) (Go.Operand.tmp 44) 2, type := 2, pos := "outright.go:156", after := #[{ on := 17, ground := Go.Ground.data }, { on := 19, ground := Go.Ground.data }], guard := none }) (v := .int .i64 (hi + (st : Int))) rfl (by kernel_rfl) (by kernel_rfl) (by kernel_rfl) (fun _ _ _ h => h) (Or.inl ⟨by rfl, by intro w2 hSw; (try dsimp only at hSw); have c0 := (hSw.cell (p := ⟨B, 0, none⟩) HBl.out).trans c0; have c1 := (hSw.cell (p := ⟨B, 1, none⟩) HBl.out).trans c1; have c2 := (hSw.cell (p := ⟨B, 2, none⟩) HBl.out).trans c2; have c3 := (hSw.cell (p := ⟨B, 3, none⟩) HBl.out).trans c3; go_simp⟩) hS0 ?_
      try simp only [Act.put, List.setIfInBounds_toArray, List.set_cons_zero, List.set_cons_succ]
      refine wpAnyH_take (i := 21) (oi := { dst := some 46, op := Go.Op.build 24 #[(0, Go.Operand.tmp 39), (1, Go.Operand.tmp 45)], type := 24, pos := "outright.go:156", after := #[{ on := 14, ground := Go.Ground.data }, { on := 20, ground := Go.Ground.data }], guard := none }) (v := .agg #[.int .i64 (lo - (st : Int)), .int .i64 (hi + (st : Int))]) rfl (by kernel_rfl) (by kernel_rfl) (by kernel_rfl) (fun _ _ _ h => h) (Or.inl ⟨by rfl, by intro w2 hSw; (try dsimp only at hSw); have c0 := (hSw.cell (p := ⟨B, 0, none⟩) HBl.out).trans c0; have c1 := (hSw.cell (p := ⟨B, 1, none⟩) HBl.out).trans c1; have c2 := (hSw.cell (p := ⟨B, 2, none⟩) HBl.out).trans c2; have c3 := (hSw.cell (p := ⟨B, 3, none⟩) HBl.out).trans c3; go_simp⟩) hS0 ?_
      try simp only [Act.put, List.setIfInBounds_toArray, List.set_cons_zero, List.set_cons_succ]
      generalize W1.drew = V0 at hS0 ⊢
      have hV0 := hS0
      clear hS0
      refine wpAnyH_ready (rs := [0, 23]) (by kernel_rfl) (by simp) ?_
      refine AllReadyH.cons (o := { dst := some 25, op := Go.Op.buildSlice 22 0 #[], type := 22, pos := "outright.go:156", after := #[], guard := none }) rfl (fun K2 hK => ?_) ?_
      · go_simp
        refine hK.out _ _ (hV0.trans ((below_alloc_ _ _).mono hV0.size)) (fun hV1 => ?_)
        clear hK K2
        have hz := heap_alloc_new_ V0 (.cells #[] 62)
        have hb := below_alloc_ V0 (.cells #[] 62)
        have hZl := Lib.hid (show W1.heap.size ≤ V0.heap.size from hV0.size)
        generalize V0.alloc (.cells #[] 62) = V1 at *
        obtain ⟨Z, hZ⟩ : ∃ Z, V0.heap.size = Z := ⟨_, rfl⟩
        rw [hZ] at hz hZl ⊢
        clear hZ hb
        try simp only [Act.put, List.setIfInBounds_toArray, List.set_cons_zero, List.set_cons_succ]
        refine wpAnyH_ready (rs := [3, 23]) (by kernel_rfl) (by simp) ?_
        refine AllReadyH.cons (o := { dst := some 28, op := Go.Op.call { callee := Go.Callee.builtin Go.Builtin.append, args := #[Go.Operand.tmp 25, Go.Operand.tmp 27], argTypes := #[22, 22] }, type := 22, pos := "outright.go:156", after := #[{ on := 0, ground := Go.Ground.data }, { on := 2, ground := Go.Ground.data }], guard := none }) rfl (fun K2 hK => ?_) ?_
        · obtain ⟨g, cp, V2, hrun, hown, hKp, hg⟩ := app_all (cap := cap) hz (K.out.pcs.below hV1 (Nat.le_refl _)) hn1 (by omega)
          have hV2h := Lib.hid (show Below W1.heap.size W1 V2 from hV1.trans (hKp.below hV1.size (fun j hj e => by have := hZl.out; omega)))
          have hgl := Lib.hid (show W1.heap.size ≤ g from by have := hZl.out; have := hV1.size; rcases hg with h | h <;> omega)
          clear hg hKp
          have Hown := Lib.hid hown
          clear hown
          go_simp
          have hown := Hown.out
          clear Hown
          refine hK.out _ _ hV2h.out (fun hV2 => ?_)
          clear hK K2 hV2h hrun hz
          try simp only [Act.put, List.setIfInBounds_toArray, List.set_cons_zero, List.set_cons_succ]
          refine wpAnyH_take (i := 22) (oi := { dst := some 47, op := Go.Op.build 26 #[(0, Go.Operand.tmp 28), (1, Go.Operand.tmp 33), (2, Go.Operand.tmp 46)], type := 26, pos := "outright.go:156", after := #[{ on := 3, ground := Go.Ground.data }, { on := 8, ground := Go.Ground.data }, { on := 21, ground := Go.Ground.data }], guard := none }) (v := .agg #[.slice (some ⟨g, 0, none⟩) n cp, .int .i64 (off + (ao : Int)), .int .i64 (lo - (st : Int)), .int .i64 (hi + (st : Int))]) rfl (by kernel_rfl) (by kernel_rfl) (by kernel_rfl) (fun _ _ _ h => h) (Or.inl ⟨by rfl, by intro w2 hSw; (try dsimp only at hSw); have c0 := (hSw.cell (p := ⟨B, 0, none⟩) HBl.out).trans c0; have c1 := (hSw.cell (p := ⟨B, 1, none⟩) HBl.out).trans c1; have c2 := (hSw.cell (p := ⟨B, 2, none⟩) HBl.out).trans c2; have c3 := (hSw.cell (p := ⟨B, 3, none⟩) HBl.out).trans c3; go_simp⟩) hV2 ?_
          try simp only [Act.put, List.setIfInBounds_toArray, List.set_cons_zero, List.set_cons_succ]
          refine wpAnyH_ready (rs := [23]) (by kernel_rfl) (by simp) ?_
          refine AllReadyH.cons (o := { dst := some 13, op := Go.Op.alloc 26, type := 0, pos := "outright.go:156", after := #[], guard := none }) rfl (fun K2 hK => ?_) ?_
          · go_simp
            refine hK.out _ _ (hV2.trans ((below_alloc_ _ _).mono hV2.size)) (fun hV3 => ?_)
            clear hK K2
            have hd := heap_alloc_new_ V2 (.cells #[.slice none 0 0, .int .i64 0, .int .i64 0, .int .i64 0] 26)
            have hb := below_alloc_ V2 (.cells #[.slice none 0 0, .int .i64 0, .int .i64 0, .int .i64 0] 26)
            have hgD := Lib.hid (show g ≠ V2.heap.size from by have : g < V2.heap.size := own_lt hown _ rfl; omega)
            replace hown := own_keep hown (Keeps.of_new (Mut := fun _ => False) hb) (fun _ _ e => e)
            have hDl := Lib.hid (show W1.heap.size ≤ V2.heap.size from hV2.size)
            have HdL := Lib.hid (show V2.heap.size < (V2.alloc (.cells #[.slice none 0 0, .int .i64 0, .int .i64 0, .int .i64 0] 26)).heap.size from lt_of_block hd)
            generalize V2.alloc (.cells #[.slice none 0 0, .int .i64 0, .int .i64 0, .int .i64 0] 26) = V3 at *
            obtain ⟨D, hD⟩ : ∃ D, V2.heap.size = D := ⟨_, rfl⟩
            rw [hD] at hd hDl HdL hgD ⊢
            clear hD hb
            try simp only [Act.put, List.setIfInBounds_toArray, List.set_cons_zero, List.set_cons_succ]
            refine wpAnyH_ready (rs := [24]) (by kernel_rfl) (by simp) ?_
            refine AllReadyH.cons (o := { dst := none, op := Go.Op.store 26 (Go.Operand.tmp 13) (Go.Operand.tmp 47), type := 0, pos := "outright.go:156", after := #[{ on := 23, ground := Go.Ground.data }, { on := 22, ground := Go.Ground.data }, { on := 3, ground := Go.Ground.chain }, { on := 0, ground := Go.Ground.phase }, { on := 1, ground := Go.Ground.phase }, { on := 2, ground := Go.Ground.phase }, { on := 3, ground := Go.Ground.phase }, { on := 4, ground := Go.Ground.phase }, { on := 5, ground := Go.Ground.phase }, { on := 6, ground := Go.Ground.phase }, { on := 7, ground := Go.Ground.phase }, { on := 8, ground := Go.Ground.phase }, { on := 9, ground := Go.Ground.phase }, { on := 10, ground := Go.Ground.phase }, { on := 11, ground := Go.Ground.phase }, { on := 12, ground := Go.Ground.phase }, { on := 13, ground := Go.Ground.phase }, { on := 14, ground := Go.Ground.phase }, { on := 15, ground := Go.Ground.phase }, { on := 16, ground := Go.Ground.phase }, { on := 17, ground := Go.Ground.phase }, { on := 18, ground := Go.Ground.phase }, { on := 19, ground := Go.Ground.phase }, { on := 20, ground := Go.Ground.phase }, { on := 21, ground := Go.Ground.phase }, { on := 22, ground := Go.Ground.phase }, { on := 23, ground := Go.Ground.phase }], guard := none }) rfl (fun K2 hK => ?_) AllReadyH.nil
            have f0 : V3.cell? ⟨D, 0, none⟩ = some (.slice none 0 0) := by rw [cell_row hd]; rfl
            have f1 : V3.cell? ⟨D, 1, none⟩ = some (.int .i64 0) := by rw [cell_row hd]; rfl
            have f2 : V3.cell? ⟨D, 2, none⟩ = some (.int .i64 0) := by rw [cell_row hd]; rfl
            have f3 : V3.cell? ⟨D, 3, none⟩ = some (.int .i64 0) := by rw [cell_row hd]; rfl
            have fz : ∀ i, V3.frozen? ⟨D, i, none⟩ = false := fun i => frozen_row hd
            have HF := Lib.hid (Kw2.fin (off2 := off + (ao : Int)) (lo2 := lo - (st : Int)) (hi2 := hi + (st : Int)) Hp.out (K.out.below.trans (hV3.mono K.out.below.size)) HB0.out (by have := hDl.out; have := K.out.below.size; omega) (by have := hDl.out; have := HBl.out; omega) ((hV3.block _ (lt_of_block K.out.r0)).trans K.out.r0) hd hown ⟨by have := hgl.out; have := K.out.below.size; omega, by have := hgl.out; have := HBl.out; omega, hgD.out⟩)
            have HFb := Lib.hid (HF.out.below)
            clear hd hown
            go_simp
            refine hK.out _ _ ((((hV3.setCell (p := ⟨D, 0, none⟩) hDl.out _).setCell (p := ⟨D, 1, none⟩) hDl.out _).setCell (p := ⟨D, 2, none⟩) hDl.out _).setCell (p := ⟨D, 3, none⟩) hDl.out _) (fun hSf => ?_)
            clear hK K2
            try simp only [Act.put, List.setIfInBounds_toArray, List.set_cons_zero, List.set_cons_succ]
            refine wpAnyH_done (by kernel_rfl) ?_ _
            clear f0 f1 f2 f3 fz hSf
            go_wp2_with fail
            go_meet
            case rel => exact ⟨D, g, cp, rfl, HF.out⟩
          exact AllReadyH.nil
        refine AllReadyH.cons (o := { dst := some 13, op := Go.Op.alloc 26, type := 0, pos := "outright.go:156", after := #[], guard := none }) rfl (fun K2 hK => ?_) ?_
        · go_simp
          refine hK.out _ _ (hV1.trans ((below_alloc_ _ _).mono hV1.size)) (fun hV2 => ?_)
          clear hK K2
          have hd := heap_alloc_new_ V1 (.cells #[.slice none 0 0, .int .i64 0, .int .i64 0, .int .i64 0] 26)
          have hb := below_alloc_ V1 (.cells #[.slice none 0 0, .int .i64 0, .int .i64 0, .int .i64 0] 26)
          have hDZ := Lib.hid (show Z ≠ V1.heap.size from by have := lt_of_block hz; omega)
          replace hz := (hb.block _ (lt_of_block hz)).trans hz
          have hDl := Lib.hid (show W1.heap.size ≤ V1.heap.size from hV1.size)
          have HdL := Lib.hid (show V1.heap.size < (V1.alloc (.cells #[.slice none 0 0, .int .i64 0, .int .i64 0, .int .i64 0] 26)).heap.size from lt_of_block hd)
          generalize V1.alloc (.cells #[.slice none 0 0, .int .i64 0, .int .i64 0, .int .i64 0] 26) = V2 at *
          obtain ⟨D, hD⟩ : ∃ D, V1.heap.size = D := ⟨_, rfl⟩
          rw [hD] at hd hDl HdL hDZ ⊢
          clear hD hb
          try simp only [Act.put, List.setIfInBounds_toArray, List.set_cons_zero, List.set_cons_succ]
          refine wpAnyH_ready (rs := [3]) (by kernel_rfl) (by simp) ?_
          refine AllReadyH.cons (o := { dst := some 28, op := Go.Op.call { callee := Go.Callee.builtin Go.Builtin.append, args := #[Go.Operand.tmp 25, Go.Operand.tmp 27], argTypes := #[22, 22] }, type := 22, pos := "outright.go:156", after := #[{ on := 0, ground := Go.Ground.data }, { on := 2, ground := Go.Ground.data }], guard := none }) rfl (fun K2 hK => ?_) ?_
          · obtain ⟨g, cp, V3, hrun, hown, hKp, hg⟩ := app_all (cap := cap) hz (K.out.pcs.below hV2 (Nat.le_refl _)) hn1 (by omega)
            have hV3h := Lib.hid (show Below W1.heap.size W1 V3 from hV2.trans (hKp.below hV2.size (fun j hj e => by have := hZl.out; omega)))
            have hgl := Lib.hid (show W1.heap.size ≤ g from by have := hZl.out; have := hV2.size; rcases hg with h | h <;> omega)
            have hgD := Lib.hid (show g ≠ D from by have := hDZ.out; have := lt_of_block hd; rcases hg with h | h <;> omega)
            replace hd := (hKp.block _ (lt_of_block hd) (by have := hDZ.out; omega)).trans hd
            clear hg hKp
            have Hown := Lib.hid hown
            clear hown
            go_simp
            have hown := Hown.out
            clear Hown
            refine hK.out _ _ hV3h.out (fun hV3 => ?_)
            clear hK K2 hV3h hrun hz
            try simp only [Act.put, List.setIfInBounds_toArray, List.set_cons_zero, List.set_cons_succ]
            refine wpAnyH_take (i := 22) (oi := { dst := some 47, op := Go.Op.build 26 #[(0, Go.Operand.tmp 28), (1, Go.Operand.tmp 33), (2, Go.Operand.tmp 46)], type := 26, pos := "outright.go:156", after := #[{ on := 3, ground := Go.Ground.data }, { on := 8, ground := Go.Ground.data }, { on := 21, ground := Go.Ground.data }], guard := none }) (v := .agg #[.slice (some ⟨g, 0, none⟩) n cp, .int .i64 (off + (ao : Int)), .int .i64 (lo - (st : Int)), .int .i64 (hi + (st : Int))]) rfl (by kernel_rfl) (by kernel_rfl) (by kernel_rfl) (fun _ _ _ h => h) (Or.inl ⟨by rfl, by intro w2 hSw; (try dsimp only at hSw); have c0 := (hSw.cell (p := ⟨B, 0, none⟩) HBl.out).trans c0; have c1 := (hSw.cell (p := ⟨B, 1, none⟩) HBl.out).trans c1; have c2 := (hSw.cell (p := ⟨B, 2, none⟩) HBl.out).trans c2; have c3 := (hSw.cell (p := ⟨B, 3, none⟩) HBl.out).trans c3; go_simp⟩) hV3 ?_
            try simp only [Act.put, List.setIfInBounds_toArray, List.set_cons_zero, List.set_cons_succ]
            refine wpAnyH_ready (rs := [24]) (by kernel_rfl) (by simp) ?_
            refine AllReadyH.cons (o := { dst := none, op := Go.Op.store 26 (Go.Operand.tmp 13) (Go.Operand.tmp 47), type := 0, pos := "outright.go:156", after := #[{ on := 23, ground := Go.Ground.data }, { on := 22, ground := Go.Ground.data }, { on := 3, ground := Go.Ground.chain }, { on := 0, ground := Go.Ground.phase }, { on := 1, ground := Go.Ground.phase }, { on := 2, ground := Go.Ground.phase }, { on := 3, ground := Go.Ground.phase }, { on := 4, ground := Go.Ground.phase }, { on := 5, ground := Go.Ground.phase }, { on := 6, ground := Go.Ground.phase }, { on := 7, ground := Go.Ground.phase }, { on := 8, ground := Go.Ground.phase }, { on := 9, ground := Go.Ground.phase }, { on := 10, ground := Go.Ground.phase }, { on := 11, ground := Go.Ground.phase }, { on := 12, ground := Go.Ground.phase }, { on := 13, ground := Go.Ground.phase }, { on := 14, ground := Go.Ground.phase }, { on := 15, ground := Go.Ground.phase }, { on := 16, ground := Go.Ground.phase }, { on := 17, ground := Go.Ground.phase }, { on := 18, ground := Go.Ground.phase }, { on := 19, ground := Go.Ground.phase }, { on := 20, ground := Go.Ground.phase }, { on := 21, ground := Go.Ground.phase }, { on := 22, ground := Go.Ground.phase }, { on := 23, ground := Go.Ground.phase }], guard := none }) rfl (fun K2 hK => ?_) AllReadyH.nil
            have f0 : V3.cell? ⟨D, 0, none⟩ = some (.slice none 0 0) := by rw [cell_row hd]; rfl
            have f1 : V3.cell? ⟨D, 1, none⟩ = some (.int .i64 0) := by rw [cell_row hd]; rfl
            have f2 : V3.cell? ⟨D, 2, none⟩ = some (.int .i64 0) := by rw [cell_row hd]; rfl
            have f3 : V3.cell? ⟨D, 3, none⟩ = some (.int .i64 0) := by rw [cell_row hd]; rfl
            have fz : ∀ i, V3.frozen? ⟨D, i, none⟩ = false := fun i => frozen_row hd
            have HF := Lib.hid (Kw2.fin (off2 := off + (ao : Int)) (lo2 := lo - (st : Int)) (hi2 := hi + (st : Int)) Hp.out (K.out.below.trans (hV3.mono K.out.below.size)) HB0.out (by have := hDl.out; have := K.out.below.size; omega) (by have := hDl.out; have := HBl.out; omega) ((hV3.block _ (lt_of_block K.out.r0)).trans K.out.r0) hd hown ⟨by have := hgl.out; have := K.out.below.size; omega, by have := hgl.out; have := HBl.out; omega, hgD.out⟩)
            have HFb := Lib.hid (HF.out.below)
            clear hd hown
            go_simp
            refine hK.out _ _ ((((hV3.setCell (p := ⟨D, 0, none⟩) hDl.out _).setCell (p := ⟨D, 1, none⟩) hDl.out _).setCell (p := ⟨D, 2, none⟩) hDl.out _).setCell (p := ⟨D, 3, none⟩) hDl.out _) (fun hSf => ?_)
            clear hK K2
            try simp only [Act.put, List.setIfInBounds_toArray, List.set_cons_zero, List.set_cons_succ]
            refine wpAnyH_done (by kernel_rfl) ?_ _
            clear f0 f1 f2 f3 fz hSf
            go_wp2_with fail
            go_meet
            case rel => exact ⟨D, g, cp, rfl, HF.out⟩
          exact AllReadyH.nil
        exact AllReadyH.nil
      refine AllReadyH.cons (o := { dst := some 13, op := Go.Op.alloc 26, type := 0, pos := "outright.go:156", after := #[], guard := none }) rfl (fun K2 hK => ?_) ?_
      · go_simp
        refine hK.out _ _ (hV0.trans ((below_alloc_ _ _).mono hV0.size)) (fun hV1 => ?_)
        clear hK K2
        have hd := heap_alloc_new_ V0 (.cells #[.slice none 0 0, .int .i64 0, .int .i64 0, .int .i64 0] 26)
        have hb := below_alloc_ V0 (.cells #[.slice none 0 0, .int .i64 0, .int .i64 0, .int .i64 0] 26)
        have hDl := Lib.hid (show W1.heap.size ≤ V0.heap.size from hV0.size)
        have HdL := Lib.hid (show V0.heap.size < (V0.alloc (.cells #[.slice none 0 0, .int .i64 0, .int .i64 0, .int .i64 0] 26)).heap.size from lt_of_block hd)
        generalize V0.alloc (.cells #[.slice none 0 0, .int .i64 0, .int .i64 0, .int .i64 0] 26) = V1 at *
        obtain ⟨D, hD⟩ : ∃ D, V0.heap.size = D := ⟨_, rfl⟩
        rw [hD] at hd hDl HdL ⊢
        clear hD hb
        try simp only [Act.put, List.setIfInBounds_toArray, List.set_cons_zero, List.set_cons_succ]
        refine wpAnyH_ready (rs := [0]) (by kernel_rfl) (by simp) ?_
        refine AllReadyH.cons (o := { dst := some 25, op := Go.Op.buildSlice 22 0 #[], type := 22, pos := "outright.go:156", after := #[], guard := none }) rfl (fun K2 hK => ?_) ?_
        · go_simp
          refine hK.out _ _ (hV1.trans ((below_alloc_ _ _).mono hV1.size)) (fun hV2 => ?_)
          clear hK K2
          have hz := heap_alloc_new_ V1 (.cells #[] 62)
          have hb := below_alloc_ V1 (.cells #[] 62)
          replace hd := (hb.block _ (lt_of_block hd)).trans hd
          have hDZ := Lib.hid (show D < V1.heap.size from HdL.out)
          have hZl := Lib.hid (show W1.heap.size ≤ V1.heap.size from hV1.size)
          generalize V1.alloc (.cells #[] 62) = V2 at *
          obtain ⟨Z, hZ⟩ : ∃ Z, V1.heap.size = Z := ⟨_, rfl⟩
          rw [hZ] at hz hZl hDZ ⊢
          clear hZ hb
          try simp only [Act.put, List.setIfInBounds_toArray, List.set_cons_zero, List.set_cons_succ]
          refine wpAnyH_ready (rs := [3]) (by kernel_rfl) (by simp) ?_
          refine AllReadyH.cons (o := { dst := some 28, op := Go.Op.call { callee := Go.Callee.builtin Go.Builtin.append, args := #[Go.Operand.tmp 25, Go.Operand.tmp 27], argTypes := #[22, 22] }, type := 22, pos := "outright.go:156", after := #[{ on := 0, ground := Go.Ground.data }, { on := 2, ground := Go.Ground.data }], guard := none }) rfl (fun K2 hK => ?_) ?_
          · obtain ⟨g, cp, V3, hrun, hown, hKp, hg⟩ := app_all (cap := cap) hz (K.out.pcs.below hV2 (Nat.le_refl _)) hn1 (by omega)
            have hV3h := Lib.hid (show Below W1.heap.size W1 V3 from hV2.trans (hKp.below hV2.size (fun j hj e => by have := hZl.out; omega)))
            have hgl := Lib.hid (show W1.heap.size ≤ g from by have := hZl.out; have := hV2.size; rcases hg with h | h <;> omega)
            have hgD := Lib.hid (show g ≠ D from by have := hDZ.out; have := lt_of_block hd; rcases hg with h | h <;> omega)
            replace hd := (hKp.block _ (lt_of_block hd) (by have := hDZ.out; omega)).trans hd
            clear hg hKp
            have Hown := Lib.hid hown
            clear hown
            go_simp
            have hown := Hown.out
            clear Hown
            refine hK.out _ _ hV3h.out (fun hV3 => ?_)
            clear hK K2 hV3h hrun hz
            try simp only [Act.put, List.setIfInBounds_toArray, List.set_cons_zero, List.set_cons_succ]
            refine wpAnyH_take (i := 22) (oi := { dst := some 47, op := Go.Op.build 26 #[(0, Go.Operand.tmp 28), (1, Go.Operand.tmp 33), (2, Go.Operand.tmp 46)], type := 26, pos := "outright.go:156", after := #[{ on := 3, ground := Go.Ground.data }, { on := 8, ground := Go.Ground.data }, { on := 21, ground := Go.Ground.data }], guard := none }) (v := .agg #[.slice (some ⟨g, 0, none⟩) n cp, .int .i64 (off + (ao : Int)), .int .i64 (lo - (st : Int)), .int .i64 (hi + (st : Int))]) rfl (by kernel_rfl) (by kernel_rfl) (by kernel_rfl) (fun _ _ _ h => h) (Or.inl ⟨by rfl, by intro w2 hSw; (try dsimp only at hSw); have c0 := (hSw.cell (p := ⟨B, 0, none⟩) HBl.out).trans c0; have c1 := (hSw.cell (p := ⟨B, 1, none⟩) HBl.out).trans c1; have c2 := (hSw.cell (p := ⟨B, 2, none⟩) HBl.out).trans c2; have c3 := (hSw.cell (p := ⟨B, 3, none⟩) HBl.out).trans c3; go_simp⟩) hV3 ?_
            try simp only [Act.put, List.setIfInBounds_toArray, List.set_cons_zero, List.set_cons_succ]
            refine wpAnyH_ready (rs := [24]) (by kernel_rfl) (by simp) ?_
            refine AllReadyH.cons (o := { dst := none, op := Go.Op.store 26 (Go.Operand.tmp 13) (Go.Operand.tmp 47), type := 0, pos := "outright.go:156", after := #[{ on := 23, ground := Go.Ground.data }, { on := 22, ground := Go.Ground.data }, { on := 3, ground := Go.Ground.chain }, { on := 0, ground := Go.Ground.phase }, { on := 1, ground := Go.Ground.phase }, { on := 2, ground := Go.Ground.phase }, { on := 3, ground := Go.Ground.phase }, { on := 4, ground := Go.Ground.phase }, { on := 5, ground := Go.Ground.phase }, { on := 6, ground := Go.Ground.phase }, { on := 7, ground := Go.Ground.phase }, { on := 8, ground := Go.Ground.phase }, { on := 9, ground := Go.Ground.phase }, { on := 10, ground := Go.Ground.phase }, { on := 11, ground := Go.Ground.phase }, { on := 12, ground := Go.Ground.phase }, { on := 13, ground := Go.Ground.phase }, { on := 14, ground := Go.Ground.phase }, { on := 15, ground := Go.Ground.phase }, { on := 16, ground := Go.Ground.phase }, { on := 17, ground := Go.Ground.phase }, { on := 18, ground := Go.Ground.phase }, { on := 19, ground := Go.Ground.phase }, { on := 20, ground := Go.Ground.phase }, { on := 21, ground := Go.Ground.phase }, { on := 22, ground := Go.Ground.phase }, { on := 23, ground := Go.Ground.phase }], guard := none }) rfl (fun K2 hK => ?_) AllReadyH.nil
            have f0 : V3.cell? ⟨D, 0, none⟩ = some (.slice none 0 0) := by rw [cell_row hd]; rfl
            have f1 : V3.cell? ⟨D, 1, none⟩ = some (.int .i64 0) := by rw [cell_row hd]; rfl
            have f2 : V3.cell? ⟨D, 2, none⟩ = some (.int .i64 0) := by rw [cell_row hd]; rfl
            have f3 : V3.cell? ⟨D, 3, none⟩ = some (.int .i64 0) := by rw [cell_row hd]; rfl
            have fz : ∀ i, V3.frozen? ⟨D, i, none⟩ = false := fun i => frozen_row hd
            have HF := Lib.hid (Kw2.fin (off2 := off + (ao : Int)) (lo2 := lo - (st : Int)) (hi2 := hi + (st : Int)) Hp.out (K.out.below.trans (hV3.mono K.out.below.size)) HB0.out (by have := hDl.out; have := K.out.below.size; omega) (by have := hDl.out; have := HBl.out; omega) ((hV3.block _ (lt_of_block K.out.r0)).trans K.out.r0) hd hown ⟨by have := hgl.out; have := K.out.below.size; omega, by have := hgl.out; have := HBl.out; omega, hgD.out⟩)
            have HFb := Lib.hid (HF.out.below)
            clear hd hown
            go_simp
            refine hK.out _ _ ((((hV3.setCell (p := ⟨D, 0, none⟩) hDl.out _).setCell (p := ⟨D, 1, none⟩) hDl.out _).setCell (p := ⟨D, 2, none⟩) hDl.out _).setCell (p := ⟨D, 3, none⟩) hDl.out _) (fun hSf => ?_)
            clear hK K2
            try simp only [Act.put, List.setIfInBounds_toArray, List.set_cons_zero, List.set_cons_succ]
            refine wpAnyH_done (by kernel_rfl) ?_ _
            clear f0 f1 f2 f3 fz hSf
            go_wp2_with fail
            go_meet
            case rel => exact ⟨D, g, cp, rfl, HF.out⟩
          exact AllReadyH.nil
        exact AllReadyH.nil
      exact AllReadyH.nil
    case rest =>
      clear s1 s2 s3 s4 s5 c0 c1 c2 c3
      obtain ⟨D, g, cp, rfl, hG⟩ := hcut
      have G := Lib.hid hG
      obtain ⟨-, -, -, -, d0, d1, d2, d3⟩ := hG.v.c
      have hwh := Hwh.out
      obtain ⟨k, hk⟩ : ∃ k, wh % n = k := ⟨_, rfl⟩
      have hkn : k < n := by rw [← hk]; exact Nat.mod_lt _ (by omega)
      have x1 : (wh : Int) % (n : Int) = (k : Int) := by rw [← hk]; exact (Int.natCast_emod wh n).symm
      have x2 : ((n : Int) == 0) = false := by rw [beq_eq_false_iff_ne]; omega
      obtain ⟨p, hp⟩ : ∃ p, pAt ps k = p := ⟨_, rfl⟩
      have hok := pAt_ok He.out (k := k) (by have := hG.p0.1; show k < ps.length; omega)
      rw [show pAt (⟨ps, off, ⟨lo, hi⟩⟩ : Cy).ps k = p from hp] at hok
      obtain ⟨hoa, hob⟩ := hok
      obtain ⟨q1, q2, q3, -, -⟩ := okEn_facts hoa
      obtain ⟨q4, q5, q6, -, -⟩ := okEn_facts hob
      obtain ⟨⟨⟨l1, h1⟩, p1⟩, ⟨⟨l2, h2⟩, p2⟩, lz⟩ := p
      simp only at q1 q2 q3 q4 q5 q6
      have hG1 := hG.set (k := k) (j := 6) (v := .bool true) (p := ⟨⟨⟨l1, h1⟩, p1⟩, ⟨⟨l2, h2⟩, p2⟩, true⟩) hkn (by omega) (by rw [hp]; rfl)
      have hpl := hG.p0.1
      have hpa := pAt_set (l := ps) (k := k) (by omega) ⟨⟨⟨l1, h1⟩, p1⟩, ⟨⟨l2, h2⟩, p2⟩, true⟩
      obtain ⟨r0, r1, -, r3, r4, -, -, -⟩ := hG1.cells hkn
      rw [hpa] at r0 r1 r3 r4
      obtain ⟨-, -, -, -, d0', -, -, -⟩ := hG1.v.c
      have fz6 := (hG.cells hkn).2.2.2.2.2.2.2 (k * 7 + 6)
      have g6 := (hG.cells hkn).2.2.2.2.2.2.1
      have y0 : (0 : Int) ≤ (k : Int) := by omega
      have y1 : (k : Int) < (n : Int) := by omega
      have Hpl := Lib.hid hpl
      have Hpp := Lib.hid hp
      have Hpa := Lib.hid hpa
      have G1 := Lib.hid hG1
      have Had2 := Had.out
      clear hG K hk hp hpa hpl hoa hob hG1
      rcases (by omega : wh % 2 = 0 ∨ wh % 2 = 1) with he | he
      · have x3 : (wh : Int) % 2 = 0 := by omega
        have Hx3 := Lib.hid x3
        clear he
        go_wp2_with fail
        have hb2 := below_alloc_ (wc.setCell ⟨g, k * 7 + 6, none⟩ (.bool true)) (.cells #[.int .i64 l1, .int .i64 h1] 24)
        have hQ := heap_alloc_new_ (wc.setCell ⟨g, k * 7 + 6, none⟩ (.bool true)) (.cells #[.int .i64 l1, .int .i64 h1] 24)
        have G2 := Lib.hid (Kw2.next hb2 G1.out)
        have hgs := G1.out.lt
        have hsz : (wc.setCell ⟨g, k * 7 + 6, none⟩ (.bool true)).heap.size = wc.heap.size := by simp [World.setCell]
        rw [hsz] at hQ hgs
        generalize (wc.setCell ⟨g, k * 7 + 6, none⟩ (.bool true)).alloc (.cells #[.int .i64 l1, .int .i64 h1] 24) = V2 at hQ G2 ⊢
        obtain ⟨Q, hQe⟩ : ∃ Q, wc.heap.size = Q := ⟨_, rfl⟩
        rw [hQe] at hQ hgs ⊢
        have HQ := Lib.hid hQ
        have Hgs := Lib.hid (show Q ≠ g from by omega)
        have hd := G2.out.r1
        have HD := Lib.hid hd
        clear hb2 hsz hQe hgs G1 r0 r1 r3 r4 d0' fz6 g6 hQ hd d0 d1 d2 d3 x1 x2 x3
        obtain ⟨mx, hmx⟩ : ∃ mx : Int, (mx = 0 ∧ l1 - (ad : Int) ≤ 0) ∨ (mx = l1 - (ad : Int) ∧ 0 ≤ l1 - (ad : Int)) := by
          by_cases h : l1 - (ad : Int) ≤ 0
          · exact ⟨0, .inl ⟨rfl, h⟩⟩
          · exact ⟨_, .inr ⟨rfl, by omega⟩⟩
        obtain ⟨mn, hmn⟩ : ∃ mn : Int, (mn = 1000 ∧ 1000 ≤ h1 + (ad : Int)) ∨ (mn = h1 + (ad : Int) ∧ h1 + (ad : Int) ≤ 1000) := by
          by_cases h : 1000 ≤ h1 + (ad : Int)
          · exact ⟨1000, .inl ⟨rfl, h⟩⟩
          · exact ⟨_, .inr ⟨rfl, by omega⟩⟩
        have t1 : IntKind.i64.wrap (wh : Int) = (wh : Int) := IntWalk.i64_in _ ⟨by omega, by omega⟩
        have t2 : IntKind.i64.wrap (ad : Int) = (ad : Int) := IntWalk.i64_in _ ⟨by omega, by omega⟩
        have t3 : IntKind.i64.wrap (l1 - (ad : Int)) = l1 - (ad : Int) := IntWalk.i64_in _ ⟨by omega, by omega⟩
        have t4 : IntKind.i64.wrap (h1 + (ad : Int)) = h1 + (ad : Int) := IntWalk.i64_in _ ⟨by omega, by omega⟩
        have t5 : (wh : Int).tmod 2 = 0 := by rw [Int.tmod_eq_emod_of_nonneg (by omega)]; exact Hx3.out
        have HM := Lib.hid (And.intro hmx hmn)
        refine wp_region_held_drew (S := fun w2 => w2.heap[D]? = some (.cells #[.slice (some ⟨g, 0, none⟩) n cp, .int .i64 (off + (ao : Int)), .int .i64 (lo - (st : Int)), .int .i64 (hi + (st : Int))] 26 (0, 0)) ∧ w2.heap[Q]? = some (.cells #[.int .i64 l1, .int .i64 h1] 24 (0, 0))) (by kernel_rfl) ⟨HD.out, HQ.out⟩ (fun hS0 => ?_)
        refine wpAnyH_take (i := 0) (oi := { dst := some 70, op := Go.Op.fieldAddr 26 (Go.Operand.tmp 13) 0, type := 0, pos := "outright.go:160", after := #[], guard := none }) (v := .pointer (some ⟨D, 0, none⟩)) rfl (by kernel_rfl) (by kernel_rfl) (by kernel_rfl) (fun _ _ _ h => h) (Or.inl ⟨by rfl, by intro w2 hSw; (try dsimp only at hSw); have d0 : w2.cell? ⟨D, 0, none⟩ = some (.slice (some ⟨g, 0, none⟩) n cp) := (by rw [cell_row hSw.1]; rfl); have q0 : w2.cell? ⟨Q, 0, none⟩ = some (.int .i64 l1) := (by rw [cell_row hSw.2]; rfl); have q1 : w2.cell? ⟨Q, 1, none⟩ = some (.int .i64 h1) := (by rw [cell_row hSw.2]; rfl); go_simp; (try (first | omega | (intro hx9; omega) | (split <;> first | omega | (simp; omega))))⟩) hS0 ?_
        try simp only [Act.put, List.setIfInBounds_toArray, List.set_cons_zero, List.set_cons_succ]
        refine wpAnyH_take (i := 1) (oi := { dst := some 71, op := Go.Op.load 22 (Go.Operand.tmp 70), type := 22, pos := "outright.go:160", after := #[{ on := 0, ground := Go.Ground.data }], guard := none }) (v := .slice (some ⟨g, 0, none⟩) n cp) rfl (by kernel_rfl) (by kernel_rfl) (by kernel_rfl) (fun _ _ _ h => h) (Or.inl ⟨by rfl, by intro w2 hSw; (try dsimp only at hSw); have d0 : w2.cell? ⟨D, 0, none⟩ = some (.slice (some ⟨g, 0, none⟩) n cp) := (by rw [cell_row hSw.1]; rfl); have q0 : w2.cell? ⟨Q, 0, none⟩ = some (.int .i64 l1) := (by rw [cell_row hSw.2]; rfl); have q1 : w2.cell? ⟨Q, 1, none⟩ = some (.int .i64 h1) := (by rw [cell_row hSw.2]; rfl); go_simp; (try (first | omega | (intro hx9; omega) | (split <;> first | omega | (simp; omega))))⟩) hS0 ?_
        try simp only [Act.put, List.setIfInBounds_toArray, List.set_cons_zero, List.set_cons_succ]
        refine wpAnyH_take (i := 2) (oi := { dst := some 72, op := Go.Op.move (Go.Operand.tmp 14), type := 3, pos := "outright.go:160", after := #[], guard := none }) (v := .int .i64 (k : Int)) rfl (by kernel_rfl) (by kernel_rfl) (by kernel_rfl) (fun _ _ _ h => h) (Or.inl ⟨by rfl, by intro w2 hSw; (try dsimp only at hSw); have d0 : w2.cell? ⟨D, 0, none⟩ = some (.slice (some ⟨g, 0, none⟩) n cp) := (by rw [cell_row hSw.1]; rfl); have q0 : w2.cell? ⟨Q, 0, none⟩ = some (.int .i64 l1) := (by rw [cell_row hSw.2]; rfl); have q1 : w2.cell? ⟨Q, 1, none⟩ = some (.int .i64 h1) := (by rw [cell_row hSw.2]; rfl); go_simp; (try (first | omega | (intro hx9; omega) | (split <;> first | omega | (simp; omega))))⟩) hS0 ?_
        try simp only [Act.put, List.setIfInBounds_toArray, List.set_cons_zero, List.set_cons_succ]
        refine wpAnyH_take (i := 3) (oi := { dst := some 73, op := Go.Op.move (Go.Operand.tmp 4), type := 5, pos := "outright.go:160", after := #[], guard := none }) (v := .int .u8 (wh : Int)) rfl (by kernel_rfl) (by kernel_rfl) (by kernel_rfl) (fun _ _ _ h => h) (Or.inl ⟨by rfl, by intro w2 hSw; (try dsimp only at hSw); have d0 : w2.cell? ⟨D, 0, none⟩ = some (.slice (some ⟨g, 0, none⟩) n cp) := (by rw [cell_row hSw.1]; rfl); have q0 : w2.cell? ⟨Q, 0, none⟩ = some (.int .i64 l1) := (by rw [cell_row hSw.2]; rfl); have q1 : w2.cell? ⟨Q, 1, none⟩ = some (.int .i64 h1) := (by rw [cell_row hSw.2]; rfl); go_simp; (try (first | omega | (intro hx9; omega) | (split <;> first | omega | (simp; omega))))⟩) hS0 ?_
        try simp only [Act.put, List.setIfInBounds_toArray, List.set_cons_zero, List.set_cons_succ]
        refine wpAnyH_take (i := 4) (oi := { dst := some 74, op := Go.Op.convert 5 3 (Go.Operand.tmp 73), type := 3, pos := "outright.go:160", after := #[{ on := 3, ground := Go.Ground.data }], guard := none }) (v := .int .i64 (wh : Int)) rfl (by kernel_rfl) (by kernel_rfl) (by kernel_rfl) (fun _ _ _ h => h) (Or.inl ⟨by rfl, by intro w2 hSw; (try dsimp only at hSw); have d0 : w2.cell? ⟨D, 0, none⟩ = some (.slice (some ⟨g, 0, none⟩) n cp) := (by rw [cell_row hSw.1]; rfl); have q0 : w2.cell? ⟨Q, 0, none⟩ = some (.int .i64 l1) := (by rw [cell_row hSw.2]; rfl); have q1 : w2.cell? ⟨Q, 1, none⟩ = some (.int .i64 h1) := (by rw [cell_row hSw.2]; rfl); go_simp; (try (first | omega | (intro hx9; omega) | (split <;> first | omega | (simp; omega))))⟩) hS0 ?_
        try simp only [Act.put, List.setIfInBounds_toArray, List.set_cons_zero, List.set_cons_succ]
        refine wpAnyH_take (i := 5) (oi := { dst := some 75, op := Go.Op.binOp Go.BinOp.rem 3 (Go.Operand.tmp 74) (Go.Operand.const (Go.Value.int Go.IntKind.i64 2)) 3, type := 3, pos := "outright.go:160", after := #[{ on := 4, ground := Go.Ground.data }], guard := none }) (v := .int .i64 0) rfl (by kernel_rfl) (by kernel_rfl) (by kernel_rfl) (fun _ _ _ h => h) (Or.inl ⟨by rfl, by intro w2 hSw; (try dsimp only at hSw); have d0 : w2.cell? ⟨D, 0, none⟩ = some (.slice (some ⟨g, 0, none⟩) n cp) := (by rw [cell_row hSw.1]; rfl); have q0 : w2.cell? ⟨Q, 0, none⟩ = some (.int .i64 l1) := (by rw [cell_row hSw.2]; rfl); have q1 : w2.cell? ⟨Q, 1, none⟩ = some (.int .i64 h1) := (by rw [cell_row hSw.2]; rfl); go_simp; (try (first | omega | (intro hx9; omega) | (split <;> first | omega | (simp; omega))))⟩) hS0 ?_
        try simp only [Act.put, List.setIfInBounds_toArray, List.set_cons_zero, List.set_cons_succ]
        refine wpAnyH_take (i := 6) (oi := { dst := some 76, op := Go.Op.fieldAddr 24 (Go.Operand.tmp 15) 0, type := 0, pos := "outright.go:160", after := #[], guard := none }) (v := .pointer (some ⟨Q, 0, none⟩)) rfl (by kernel_rfl) (by kernel_rfl) (by kernel_rfl) (fun _ _ _ h => h) (Or.inl ⟨by rfl, by intro w2 hSw; (try dsimp only at hSw); have d0 : w2.cell? ⟨D, 0, none⟩ = some (.slice (some ⟨g, 0, none⟩) n cp) := (by rw [cell_row hSw.1]; rfl); have q0 : w2.cell? ⟨Q, 0, none⟩ = some (.int .i64 l1) := (by rw [cell_row hSw.2]; rfl); have q1 : w2.cell? ⟨Q, 1, none⟩ = some (.int .i64 h1) := (by rw [cell_row hSw.2]; rfl); go_simp; (try (first | omega | (intro hx9; omega) | (split <;> first | omega | (simp; omega))))⟩) hS0 ?_
        try simp only [Act.put, List.setIfInBounds_toArray, List.set_cons_zero, List.set_cons_succ]
        refine wpAnyH_take (i := 7) (oi := { dst := some 77, op := Go.Op.load 2 (Go.Operand.tmp 76), type := 2, pos := "outright.go:160", after := #[{ on := 6, ground := Go.Ground.data }], guard := none }) (v := .int .i64 l1) rfl (by kernel_rfl) (by kernel_rfl) (by kernel_rfl) (fun _ _ _ h => h) (Or.inl ⟨by rfl, by intro w2 hSw; (try dsimp only at hSw); have d0 : w2.cell? ⟨D, 0, none⟩ = some (.slice (some ⟨g, 0, none⟩) n cp) := (by rw [cell_row hSw.1]; rfl); have q0 : w2.cell? ⟨Q, 0, none⟩ = some (.int .i64 l1) := (by rw [cell_row hSw.2]; rfl); have q1 : w2.cell? ⟨Q, 1, none⟩ = some (.int .i64 h1) := (by rw [cell_row hSw.2]; rfl); go_simp; (try (first | omega | (intro hx9; omega) | (split <;> first | omega | (simp; omega))))⟩) hS0 ?_
        try simp only [Act.put, List.setIfInBounds_toArray, List.set_cons_zero, List.set_cons_succ]
        refine wpAnyH_take (i := 8) (oi := { dst := some 78, op := Go.Op.move (Go.Operand.tmp 3), type := 5, pos := "outright.go:160", after := #[], guard := none }) (v := .int .u8 (ad : Int)) rfl (by kernel_rfl) (by kernel_rfl) (by kernel_rfl) (fun _ _ _ h => h) (Or.inl ⟨by rfl, by intro w2 hSw; (try dsimp only at hSw); have d0 : w2.cell? ⟨D, 0, none⟩ = some (.slice (some ⟨g, 0, none⟩) n cp) := (by rw [cell_row hSw.1]; rfl); have q0 : w2.cell? ⟨Q, 0, none⟩ = some (.int .i64 l1) := (by rw [cell_row hSw.2]; rfl); have q1 : w2.cell? ⟨Q, 1, none⟩ = some (.int .i64 h1) := (by rw [cell_row hSw.2]; rfl); go_simp; (try (first | omega | (intro hx9; omega) | (split <;> first | omega | (simp; omega))))⟩) hS0 ?_
        try simp only [Act.put, List.setIfInBounds_toArray, List.set_cons_zero, List.set_cons_succ]
        refine wpAnyH_take (i := 9) (oi := { dst := some 79, op := Go.Op.convert 5 2 (Go.Operand.tmp 78), type := 2, pos := "outright.go:160", after := #[{ on := 8, ground := Go.Ground.data }], guard := none }) (v := .int .i64 (ad : Int)) rfl (by kernel_rfl) (by kernel_rfl) (by kernel_rfl) (fun _ _ _ h => h) (Or.inl ⟨by rfl, by intro w2 hSw; (try dsimp only at hSw); have d0 : w2.cell? ⟨D, 0, none⟩ = some (.slice (some ⟨g, 0, none⟩) n cp) := (by rw [cell_row hSw.1]; rfl); have q0 : w2.cell? ⟨Q, 0, none⟩ = some (.int .i64 l1) := (by rw [cell_row hSw.2]; rfl); have q1 : w2.cell? ⟨Q, 1, none⟩ = some (.int .i64 h1) := (by rw [cell_row hSw.2]; rfl); go_simp; (try (first | omega | (intro hx9; omega) | (split <;> first | omega | (simp; omega))))⟩) hS0 ?_
        try simp only [Act.put, List.setIfInBounds_toArray, List.set_cons_zero, List.set_cons_succ]
        refine wpAnyH_take (i := 10) (oi := { dst := some 80, op := Go.Op.binOp Go.BinOp.sub 2 (Go.Operand.tmp 77) (Go.Operand.tmp 79) 2, type := 2, pos := "outright.go:160", after := #[{ on := 7, ground := Go.Ground.data }, { on := 9, ground := Go.Ground.data }], guard := none }) (v := .int .i64 (l1 - (ad : Int))) rfl (by kernel_rfl) (by kernel_rfl) (by kernel_rfl) (fun _ _ _ h => h) (Or.inl ⟨by rfl, by intro w2 hSw; (try dsimp only at hSw); have d0 : w2.cell? ⟨D, 0, none⟩ = some (.slice (some ⟨g, 0, none⟩) n cp) := (by rw [cell_row hSw.1]; rfl); have q0 : w2.cell? ⟨Q, 0, none⟩ = some (.int .i64 l1) := (by rw [cell_row hSw.2]; rfl); have q1 : w2.cell? ⟨Q, 1, none⟩ = some (.int .i64 h1) := (by rw [cell_row hSw.2]; rfl); go_simp; (try (first | omega | (intro hx9; omega) | (split <;> first | omega | (simp; omega))))⟩) hS0 ?_
        try simp only [Act.put, List.setIfInBounds_toArray, List.set_cons_zero, List.set_cons_succ]
        refine wpAnyH_take (i := 11) (oi := { dst := some 81, op := Go.Op.call { callee := Go.Callee.builtin Go.Builtin.max, args := #[Go.Operand.const (Go.Value.int Go.IntKind.i64 0), Go.Operand.tmp 80], argTypes := #[2, 2] }, type := 2, pos := "outright.go:160", after := #[{ on := 10, ground := Go.Ground.data }], guard := none }) (v := .int .i64 mx) rfl (by kernel_rfl) (by kernel_rfl) (by kernel_rfl) (fun _ _ _ h => h) (Or.inl ⟨by rfl, by intro w2 hSw; (try dsimp only at hSw); have d0 : w2.cell? ⟨D, 0, none⟩ = some (.slice (some ⟨g, 0, none⟩) n cp) := (by rw [cell_row hSw.1]; rfl); have q0 : w2.cell? ⟨Q, 0, none⟩ = some (.int .i64 l1) := (by rw [cell_row hSw.2]; rfl); have q1 : w2.cell? ⟨Q, 1, none⟩ = some (.int .i64 h1) := (by rw [cell_row hSw.2]; rfl); go_simp; (try (first | omega | (intro hx9; omega) | (split <;> first | omega | (simp; omega))))⟩) hS0 ?_
        try simp only [Act.put, List.setIfInBounds_toArray, List.set_cons_zero, List.set_cons_succ]
        refine wpAnyH_take (i := 12) (oi := { dst := some 82, op := Go.Op.fieldAddr 24 (Go.Operand.tmp 15) 1, type := 0, pos := "outright.go:160", after := #[], guard := none }) (v := .pointer (some ⟨Q, 1, none⟩)) rfl (by kernel_rfl) (by kernel_rfl) (by kernel_rfl) (fun _ _ _ h => h) (Or.inl ⟨by rfl, by intro w2 hSw; (try dsimp only at hSw); have d0 : w2.cell? ⟨D, 0, none⟩ = some (.slice (some ⟨g, 0, none⟩) n cp) := (by rw [cell_row hSw.1]; rfl); have q0 : w2.cell? ⟨Q, 0, none⟩ = some (.int .i64 l1) := (by rw [cell_row hSw.2]; rfl); have q1 : w2.cell? ⟨Q, 1, none⟩ = some (.int .i64 h1) := (by rw [cell_row hSw.2]; rfl); go_simp; (try (first | omega | (intro hx9; omega) | (split <;> first | omega | (simp; omega))))⟩) hS0 ?_
        try simp only [Act.put, List.setIfInBounds_toArray, List.set_cons_zero, List.set_cons_succ]
        refine wpAnyH_take (i := 13) (oi := { dst := some 83, op := Go.Op.load 2 (Go.Operand.tmp 82), type := 2, pos := "outright.go:160", after := #[{ on := 12, ground := Go.Ground.data }], guard := none }) (v := .int .i64 h1) rfl (by kernel_rfl) (by kernel_rfl) (by kernel_rfl) (fun _ _ _ h => h) (Or.inl ⟨by rfl, by intro w2 hSw; (try dsimp only at hSw); have d0 : w2.cell? ⟨D, 0, none⟩ = some (.slice (some ⟨g, 0, none⟩) n cp) := (by rw [cell_row hSw.1]; rfl); have q0 : w2.cell? ⟨Q, 0, none⟩ = some (.int .i64 l1) := (by rw [cell_row hSw.2]; rfl); have q1 : w2.cell? ⟨Q, 1, none⟩ = some (.int .i64 h1) := (by rw [cell_row hSw.2]; rfl); go_simp; (try (first | omega | (intro hx9; omega) | (split <;> first | omega | (simp; omega))))⟩) hS0 ?_
        try simp only [Act.put, List.setIfInBounds_toArray, List.set_cons_zero, List.set_cons_succ]
        refine wpAnyH_take (i := 14) (oi := { dst := some 84, op := Go.Op.move (Go.Operand.tmp 3), type := 5, pos := "outright.go:160", after := #[], guard := none }) (v := .int .u8 (ad : Int)) rfl (by kernel_rfl) (by kernel_rfl) (by kernel_rfl) (fun _ _ _ h => h) (Or.inl ⟨by rfl, by intro w2 hSw; (try dsimp only at hSw); have d0 : w2.cell? ⟨D, 0, none⟩ = some (.slice (some ⟨g, 0, none⟩) n cp) := (by rw [cell_row hSw.1]; rfl); have q0 : w2.cell? ⟨Q, 0, none⟩ = some (.int .i64 l1) := (by rw [cell_row hSw.2]; rfl); have q1 : w2.cell? ⟨Q, 1, none⟩ = some (.int .i64 h1) := (by rw [cell_row hSw.2]; rfl); go_simp; (try (first | omega | (intro hx9; omega) | (split <;> first | omega | (simp; omega))))⟩) hS0 ?_
        try simp only [Act.put, List.setIfInBounds_toArray, List.set_cons_zero, List.set_cons_succ]
        refine wpAnyH_take (i := 15) (oi := { dst := some 85, op := Go.Op.convert 5 2 (Go.Operand.tmp 84), type := 2, pos := "outright.go:160", after := #[{ on := 14, ground := Go.Ground.data }], guard := none }) (v := .int .i64 (ad : Int)) rfl (by kernel_rfl) (by kernel_rfl) (by kernel_rfl) (fun _ _ _ h => h) (Or.inl ⟨by rfl, by intro w2 hSw; (try dsimp only at hSw); have d0 : w2.cell? ⟨D, 0, none⟩ = some (.slice (some ⟨g, 0, none⟩) n cp) := (by rw [cell_row hSw.1]; rfl); have q0 : w2.cell? ⟨Q, 0, none⟩ = some (.int .i64 l1) := (by rw [cell_row hSw.2]; rfl); have q1 : w2.cell? ⟨Q, 1, none⟩ = some (.int .i64 h1) := (by rw [cell_row hSw.2]; rfl); go_simp; (try (first | omega | (intro hx9; omega) | (split <;> first | omega | (simp; omega))))⟩) hS0 ?_
        try simp only [Act.put, List.setIfInBounds_toArray, List.set_cons_zero, List.set_cons_succ]
        refine wpAnyH_take (i := 16) (oi := { dst := some 86, op := Go.Op.binOp Go.BinOp.add 2 (Go.Operand.tmp 83) (Go.Operand.tmp 85) 2, type := 2, pos := "outright.go:160", after := #[{ on := 13, ground := Go.Ground.data }, { on := 15, ground := Go.Ground.data }], guard := none }) (v := .int .i64 (h1 + (ad : Int))) rfl (by kernel_rfl) (by kernel_rfl) (by kernel_rfl) (fun _ _ _ h => h) (Or.inl ⟨by rfl, by intro w2 hSw; (try dsimp only at hSw); have d0 : w2.cell? ⟨D, 0, none⟩ = some (.slice (some ⟨g, 0, none⟩) n cp) := (by rw [cell_row hSw.1]; rfl); have q0 : w2.cell? ⟨Q, 0, none⟩ = some (.int .i64 l1) := (by rw [cell_row hSw.2]; rfl); have q1 : w2.cell? ⟨Q, 1, none⟩ = some (.int .i64 h1) := (by rw [cell_row hSw.2]; rfl); go_simp; (try (first | omega | (intro hx9; omega) | (split <;> first | omega | (simp; omega))))⟩) hS0 ?_
        try simp only [Act.put, List.setIfInBounds_toArray, List.set_cons_zero, List.set_cons_succ]
        refine wpAnyH_take (i := 17) (oi := { dst := some 87, op := Go.Op.call { callee := Go.Callee.builtin Go.Builtin.min, args := #[Go.Operand.const (Go.Value.int Go.IntKind.i64 1000), Go.Operand.tmp 86], argTypes := #[2, 2] }, type := 2, pos := "outright.go:160", after := #[{ on := 16, ground := Go.Ground.data }], guard := none }) (v := .int .i64 mn) rfl (by kernel_rfl) (by kernel_rfl) (by kernel_rfl) (fun _ _ _ h => h) (Or.inl ⟨by rfl, by intro w2 hSw; (try dsimp only at hSw); have d0 : w2.cell? ⟨D, 0, none⟩ = some (.slice (some ⟨g, 0, none⟩) n cp) := (by rw [cell_row hSw.1]; rfl); have q0 : w2.cell? ⟨Q, 0, none⟩ = some (.int .i64 l1) := (by rw [cell_row hSw.2]; rfl); have q1 : w2.cell? ⟨Q, 1, none⟩ = some (.int .i64 h1) := (by rw [cell_row hSw.2]; rfl); go_simp; (try (first | omega | (intro hx9; omega) | (split <;> first | omega | (simp; omega))))⟩) hS0 ?_
        try simp only [Act.put, List.setIfInBounds_toArray, List.set_cons_zero, List.set_cons_succ]
        refine wpAnyH_take (i := 18) (oi := { dst := some 88, op := Go.Op.build 24 #[(0, Go.Operand.tmp 81), (1, Go.Operand.tmp 87)], type := 24, pos := "outright.go:160", after := #[{ on := 11, ground := Go.Ground.data }, { on := 17, ground := Go.Ground.data }], guard := none }) (v := .agg #[.int .i64 mx, .int .i64 mn]) rfl (by kernel_rfl) (by kernel_rfl) (by kernel_rfl) (fun _ _ _ h => h) (Or.inl ⟨by rfl, by intro w2 hSw; (try dsimp only at hSw); have d0 : w2.cell? ⟨D, 0, none⟩ = some (.slice (some ⟨g, 0, none⟩) n cp) := (by rw [cell_row hSw.1]; rfl); have q0 : w2.cell? ⟨Q, 0, none⟩ = some (.int .i64 l1) := (by rw [cell_row hSw.2]; rfl); have q1 : w2.cell? ⟨Q, 1, none⟩ = some (.int .i64 h1) := (by rw [cell_row hSw.2]; rfl); go_simp; (try (first | omega | (intro hx9; omega) | (split <;> first | omega | (simp; omega))))⟩) hS0 ?_
        try simp only [Act.put, List.setIfInBounds_toArray, List.set_cons_zero, List.set_cons_succ]
        refine wpAnyH_take (i := 19) (oi := { dst := some 89, op := Go.Op.indexAddr 22 (Go.Operand.tmp 71) (Go.Operand.tmp 72), type := 0, pos := "outright.go:160", after := #[{ on := 1, ground := Go.Ground.data }, { on := 2, ground := Go.Ground.data }], guard := none }) (v := .pointer (some ⟨g, k * 7, none⟩)) rfl (by kernel_rfl) (by kernel_rfl) (by kernel_rfl) (fun _ _ _ h => h) (Or.inl ⟨by rfl, by intro w2 hSw; (try dsimp only at hSw); have d0 : w2.cell? ⟨D, 0, none⟩ = some (.slice (some ⟨g, 0, none⟩) n cp) := (by rw [cell_row hSw.1]; rfl); have q0 : w2.cell? ⟨Q, 0, none⟩ = some (.int .i64 l1) := (by rw [cell_row hSw.2]; rfl); have q1 : w2.cell? ⟨Q, 1, none⟩ = some (.int .i64 h1) := (by rw [cell_row hSw.2]; rfl); go_simp; (try (first | omega | (intro hx9; omega) | (split <;> first | omega | (simp; omega))))⟩) hS0 ?_
        try simp only [Act.put, List.setIfInBounds_toArray, List.set_cons_zero, List.set_cons_succ]
        refine wpAnyH_take (i := 20) (oi := { dst := some 90, op := Go.Op.fieldAddr 62 (Go.Operand.tmp 89) 0, type := 0, pos := "outright.go:160", after := #[{ on := 19, ground := Go.Ground.data }], guard := none }) (v := .pointer (some ⟨g, k * 7, none⟩)) rfl (by kernel_rfl) (by kernel_rfl) (by kernel_rfl) (fun _ _ _ h => h) (Or.inl ⟨by rfl, by intro w2 hSw; (try dsimp only at hSw); have d0 : w2.cell? ⟨D, 0, none⟩ = some (.slice (some ⟨g, 0, none⟩) n cp) := (by rw [cell_row hSw.1]; rfl); have q0 : w2.cell? ⟨Q, 0, none⟩ = some (.int .i64 l1) := (by rw [cell_row hSw.2]; rfl); have q1 : w2.cell? ⟨Q, 1, none⟩ = some (.int .i64 h1) := (by rw [cell_row hSw.2]; rfl); go_simp; (try (first | omega | (intro hx9; omega) | (split <;> first | omega | (simp; omega))))⟩) hS0 ?_
        try simp only [Act.put, List.setIfInBounds_toArray, List.set_cons_zero, List.set_cons_succ]
        refine wpAnyH_take (i := 21) (oi := { dst := some 91, op := Go.Op.indexAddr 60 (Go.Operand.tmp 90) (Go.Operand.tmp 75), type := 0, pos := "outright.go:160", after := #[{ on := 20, ground := Go.Ground.data }, { on := 5, ground := Go.Ground.data }, { on := 0, ground := Go.Ground.phase }, { on := 1, ground := Go.Ground.phase }, { on := 2, ground := Go.Ground.phase }, { on := 3, ground := Go.Ground.phase }, { on := 4, ground := Go.Ground.phase }, { on := 5, ground := Go.Ground.phase }, { on := 6, ground := Go.Ground.phase }, { on := 7, ground := Go.Ground.phase }, { on := 8, ground := Go.Ground.phase }, { on := 9, ground := Go.Ground.phase }, { on := 10, ground := Go.Ground.phase }, { on := 11, ground := Go.Ground.phase }, { on := 12, ground := Go.Ground.phase }, { on := 13, ground := Go.Ground.phase }, { on := 14, ground := Go.Ground.phase }, { on := 15, ground := Go.Ground.phase }, { on := 16, ground := Go.Ground.phase }, { on := 17, ground := Go.Ground.phase }, { on := 18, ground := Go.Ground.phase }], guard := none }) (v := .pointer (some ⟨g, k * 7, none⟩)) rfl (by kernel_rfl) (by kernel_rfl) (by kernel_rfl) (fun _ _ _ h => h) (Or.inl ⟨by rfl, by intro w2 hSw; (try dsimp only at hSw); have d0 : w2.cell? ⟨D, 0, none⟩ = some (.slice (some ⟨g, 0, none⟩) n cp) := (by rw [cell_row hSw.1]; rfl); have q0 : w2.cell? ⟨Q, 0, none⟩ = some (.int .i64 l1) := (by rw [cell_row hSw.2]; rfl); have q1 : w2.cell? ⟨Q, 1, none⟩ = some (.int .i64 h1) := (by rw [cell_row hSw.2]; rfl); go_simp; (try (first | omega | (intro hx9; omega) | (split <;> first | omega | (simp; omega))))⟩) hS0 ?_
        try simp only [Act.put, List.setIfInBounds_toArray, List.set_cons_zero, List.set_cons_succ]
        refine wpAnyH_take (i := 22) (oi := { dst := some 92, op := Go.Op.fieldAddr 59 (Go.Operand.tmp 91) 0, type := 0, pos := "outright.go:160", after := #[{ on := 21, ground := Go.Ground.data }, { on := 0, ground := Go.Ground.phase }, { on := 1, ground := Go.Ground.phase }, { on := 2, ground := Go.Ground.phase }, { on := 3, ground := Go.Ground.phase }, { on := 4, ground := Go.Ground.phase }, { on := 5, ground := Go.Ground.phase }, { on := 6, ground := Go.Ground.phase }, { on := 7, ground := Go.Ground.phase }, { on := 8, ground := Go.Ground.phase }, { on := 9, ground := Go.Ground.phase }, { on := 10, ground := Go.Ground.phase }, { on := 11, ground := Go.Ground.phase }, { on := 12, ground := Go.Ground.phase }, { on := 13, ground := Go.Ground.phase }, { on := 14, ground := Go.Ground.phase }, { on := 15, ground := Go.Ground.phase }, { on := 16, ground := Go.Ground.phase }, { on := 17, ground := Go.Ground.phase }, { on := 18, ground := Go.Ground.phase }], guard := none }) (v := .pointer (some ⟨g, k * 7, none⟩)) rfl (by kernel_rfl) (by kernel_rfl) (by kernel_rfl) (fun _ _ _ h => h) (Or.inl ⟨by rfl, by intro w2 hSw; (try dsimp only at hSw); have d0 : w2.cell? ⟨D, 0, none⟩ = some (.slice (some ⟨g, 0, none⟩) n cp) := (by rw [cell_row hSw.1]; rfl); have q0 : w2.cell? ⟨Q, 0, none⟩ = some (.int .i64 l1) := (by rw [cell_row hSw.2]; rfl); have q1 : w2.cell? ⟨Q, 1, none⟩ = some (.int .i64 h1) := (by rw [cell_row hSw.2]; rfl); go_simp; (try (first | omega | (intro hx9; omega) | (split <;> first | omega | (simp; omega))))⟩) hS0 ?_
        try simp only [Act.put, List.setIfInBounds_toArray, List.set_cons_zero, List.set_cons_succ]
        refine wpAnyH_ready (rs := [23]) (by kernel_rfl) (by simp) ?_
        refine AllReadyH.cons (o := { dst := none, op := Go.Op.store 24 (Go.Operand.tmp 92) (Go.Operand.tmp 88), type := 0, pos := "outright.go:160", after := #[{ on := 22, ground := Go.Ground.data }, { on := 18, ground := Go.Ground.data }, { on := 0, ground := Go.Ground.phase }, { on := 1, ground := Go.Ground.phase }, { on := 2, ground := Go.Ground.phase }, { on := 3, ground := Go.Ground.phase }, { on := 4, ground := Go.Ground.phase }, { on := 5, ground := Go.Ground.phase }, { on := 6, ground := Go.Ground.phase }, { on := 7, ground := Go.Ground.phase }, { on := 8, ground := Go.Ground.phase }, { on := 9, ground := Go.Ground.phase }, { on := 10, ground := Go.Ground.phase }, { on := 11, ground := Go.Ground.phase }, { on := 12, ground := Go.Ground.phase }, { on := 13, ground := Go.Ground.phase }, { on := 14, ground := Go.Ground.phase }, { on := 15, ground := Go.Ground.phase }, { on := 16, ground := Go.Ground.phase }, { on := 17, ground := Go.Ground.phase }, { on := 18, ground := Go.Ground.phase }], guard := none }) rfl (fun K2 hK => ?_) AllReadyH.nil
        have hVD := hS0.1
        obtain ⟨f0, f1, f2, f3, f4, f5, f6, fz⟩ := G2.out.cells hkn
        rw [Hpa.out] at f0 f1 f2 f3 f4 f5 f6
        have fz0 := fz (k * 7)
        have fz1 := fz (k * 7 + 1)
        clear fz f2 f5 f6
        go_simp
        refine hK.out _ _ ⟨set_other _ (set_other _ hS0.1 (fun e => G2.out.ob.2.2 e.symm)) (fun e => G2.out.ob.2.2 e.symm), set_other _ (set_other _ hS0.2 Hgs.out) Hgs.out⟩ (fun hSf => ?_)
        clear hK K2 f0 f1 f3 f4 fz0 fz1
        try simp only [Act.put, List.setIfInBounds_toArray, List.set_cons_zero, List.set_cons_succ]
        refine wpAnyH_done (by kernel_rfl) ?_ _
        have G4 : Kw2 w B D A n cap off lo hi ps (off + (ao : Int)) (lo - (st : Int)) (hi + (st : Int)) ((ps.set k ⟨⟨⟨l1, h1⟩, p1⟩, ⟨⟨l2, h2⟩, p2⟩, true⟩).set k ⟨⟨⟨mx, h1⟩, p1⟩, ⟨⟨l2, h2⟩, p2⟩, true⟩) g cp (V2.setCell ⟨g, k * 7, none⟩ (.int .i64 mx)) := G2.out.set (k := k) (j := 0) (v := .int .i64 mx) hkn (by omega) (by rw [Hpa.out]; rfl)
        have G5 : Kw2 w B D A n cap off lo hi ps (off + (ao : Int)) (lo - (st : Int)) (hi + (st : Int)) (((ps.set k ⟨⟨⟨l1, h1⟩, p1⟩, ⟨⟨l2, h2⟩, p2⟩, true⟩).set k ⟨⟨⟨mx, h1⟩, p1⟩, ⟨⟨l2, h2⟩, p2⟩, true⟩).set k ⟨⟨⟨mx, mn⟩, p1⟩, ⟨⟨l2, h2⟩, p2⟩, true⟩) g cp ((V2.setCell ⟨g, k * 7, none⟩ (.int .i64 mx)).setCell ⟨g, k * 7 + 1, none⟩ (.int .i64 mn)) := G4.set (k := k) (j := 1) (v := .int .i64 mn) hkn (by omega) (by rw [pAt_set (by rw [List.length_set, Hpl.out]; exact hkn)]; rfl)
        rw [List.set_set, List.set_set] at G5
        have hwc : WidC ⟨ps, off, ⟨lo, hi⟩⟩ ⟨ps.set k ⟨⟨⟨mx, mn⟩, p1⟩, ⟨⟨l2, h2⟩, p2⟩, true⟩, off + (ao : Int), ⟨lo - (st : Int), hi + (st : Int)⟩⟩ := wid_one (c := ⟨ps, off, ⟨lo, hi⟩⟩) (p := ⟨⟨⟨l1, h1⟩, p1⟩, ⟨⟨l2, h2⟩, p2⟩, lz⟩) (q := ⟨⟨⟨mx, mn⟩, p1⟩, ⟨⟨l2, h2⟩, p2⟩, true⟩) Hpp.out (by show k < ps.length; rw [Hpl.out]; exact hkn) ⟨fun _ => rfl, ⟨by dsimp only; omega, by dsimp only; omega, rfl⟩, ⟨by dsimp only; omega, by dsimp only; omega, rfl⟩⟩ (by dsimp only; omega) (by dsimp only; omega) (by dsimp only; omega)
        replace G5 := Kw2.next (W' := ((V2.setCell ⟨g, k * 7, none⟩ (.int .i64 mx)).setCell ⟨g, k * 7 + 1, none⟩ (.int .i64 mn)).drew) (drew_b _ 1) G5
        generalize ps.set k ⟨⟨⟨mx, mn⟩, p1⟩, ⟨⟨l2, h2⟩, p2⟩, true⟩ = QS at G5 hwc
        generalize ((V2.setCell ⟨g, k * 7, none⟩ (.int .i64 mx)).setCell ⟨g, k * 7 + 1, none⟩ (.int .i64 mn)).drew = V5 at G5 ⊢
        have K := Lib.hid G5
        have HWC := Lib.hid hwc
        obtain ⟨-, -, -, -, d0, d1, d2, d3⟩ := K.out.v.c
        clear G4 G5 hwc hS0 hSf G2 t1 t2 t3 t4 t5 HQ HD HM hmx hmn Hgs Hpa Hpp
        go_wp2_with fail
        refine (fine35 (some ⟨g, 0, none⟩) n cp (off + (ao : Int)) (lo - (st : Int)) (hi + (st : Int)) QS _ K.out.q Hn.out).mono ?_
        rintro e W2 ⟨rfl, hb⟩
        replace K := Lib.hid (Kw2.next hb K.out)
        clear hb d0 d1 d2 d3
        obtain ⟨f2, hf2⟩ : ∃ f2, fineB ⟨QS, off + (ao : Int), ⟨lo - (st : Int), hi + (st : Int)⟩⟩ = f2 := ⟨_, rfl⟩
        rw [hf2]
        have Hf2 := Lib.hid hf2
        clear hf2
        cases f2 with
        | false =>
          go_wp2_with fail
          refine (works13 _).mono ?_
          rintro e w9 ⟨rfl, hb⟩
          have HB := Lib.hid (K.out.v.k.next hb)
          clear hb
          go_wp2_with fail
          go_ret
          exact ⟨rfl, HB.out.below⟩
        | true =>
          have he2 : chkC ⟨QS, off + (ao : Int), ⟨lo - (st : Int), hi + (st : Int)⟩⟩ = 0 := by
            have := Hf2.out
            unfold fineB at this
            simp only [Bool.and_eq_true, decide_eq_true_eq] at this
            exact this.2
          obtain ⟨N, hN⟩ : ∃ N, (joinsC ⟨ps, off, ⟨lo, hi⟩⟩).length = N := ⟨_, rfl⟩
          obtain ⟨M, hM⟩ : ∃ M, (joinsC ⟨QS, off + (ao : Int), ⟨lo - (st : Int), hi + (st : Int)⟩⟩).length = M := ⟨_, rfl⟩
          have hNM : N ≤ M := by rw [← hN, ← hM]; exact wid_count HWC.out
          have He2 := Lib.hid he2
          have HN := Lib.hid hN
          have Hc1 := Lib.hid (show countR ⟨ps, off, ⟨lo, hi⟩⟩ = ((N : Int), 0) from by rw [countR_ok He.out, hN])
          have Hc2 := Lib.hid (show countR ⟨QS, off + (ao : Int), ⟨lo - (st : Int), hi + (st : Int)⟩⟩ = ((M : Int), 0) from by rw [countR_ok he2, hM])
          clear he2 hN hM
          obtain ⟨c0, c1, c2, c3⟩ := K.out.v.k.c
          go_wp2_with fail
          refine (count21 A n cap off lo hi ps _ K.out.v.k.pcs Hn.out).mono ?_
          rintro e2 W3 ⟨rfl, hb⟩
          rw [Hc1.out]
          replace K := Lib.hid (Kw2.next hb K.out)
          clear hb c0 c1 c2 c3
          obtain ⟨-, -, -, -, d0, d1, d2, d3⟩ := K.out.v.c
          go_wp2_with fail
          refine (count21 (some ⟨g, 0, none⟩) n cp (off + (ao : Int)) (lo - (st : Int)) (hi + (st : Int)) QS _ K.out.q Hn.out).mono ?_
          rintro e2 W4 ⟨rfl, hb⟩
          rw [Hc2.out]
          replace K := Lib.hid (Kw2.next hb K.out)
          clear hb d0 d1 d2 d3
          have z1 : decide ((M : Int) < (N : Int)) = false := decide_eq_false (by omega)
          have z2 : ¬ (M : Int) < (N : Int) := by omega
          have z3 : ¬ M < N := by omega
          have z4 : decide ((N : Int) < 0) = false := decide_eq_false (by omega)
          by_cases hN0 : N = 0
          · subst hN0
            go_wp2_with fail
            refine (works13 _).mono ?_
            rintro e w9 ⟨rfl, hb⟩
            have HB := Lib.hid (K.out.v.k.next hb)
            clear hb
            go_wp2_with fail
            go_ret
            exact ⟨rfl, HB.out.below⟩
          · have dN0 : ((N : Int) == 0) = false := by rw [beq_eq_false_iff_ne]; omega
            obtain ⟨x, hx⟩ : ∃ x, num % N = x := ⟨_, rfl⟩
            have hxN : x < N := by rw [← hx]; exact Nat.mod_lt _ (by omega)
            have hnum := Hnum.out
            have x2 : (num : Int).tmod (N : Int) = (x : Int) := by rw [Int.tmod_eq_emod_of_nonneg (by omega), ← hx]; exact (Int.natCast_emod num N).symm
            have x3 : IntKind.i64.wrap (num : Int) = (num : Int) := IntWalk.i64_in _ ⟨by omega, by omega⟩
            have hxj : x < (joinsC ⟨ps, off, ⟨lo, hi⟩⟩).length := by rw [HN.out]; exact hxN
            have np := Lib.hid (nth_at He.out hxj)
            obtain ⟨L, hL⟩ : ∃ L, (joinsC ⟨ps, off, ⟨lo, hi⟩⟩)[x] = L := ⟨_, rfl⟩
            have hmem : L ∈ joinsC ⟨ps, off, ⟨lo, hi⟩⟩ := by rw [← hL]; exact List.getElem_mem _
            rw [hL] at np
            have Hck := Lib.hid (ckJoin_of He.out hmem)
            have Hck2 := Lib.hid (ckJoin_of He2.out (wid_join HWC.out hmem))
            have hlen : L.length = n := by rw [(join_way hmem).1]; exact Hpl.out
            have Hlen := Lib.hid hlen
            have Hx := Lib.hid hx
            obtain ⟨hG, c0, c1, c2, c3⟩ := K.out.all
            clear hL hmem hlen hx hxj hxN z1 z2 z3 z4
            go_wp2_with fail
            go_region_held3 (fun w' => Kw2 w B D A n cap off lo hi ps (off + (ao : Int)) (lo - (st : Int)) (hi + (st : Int)) QS g cp w' ∧ w'.cell? ⟨B, 0, none⟩ = some (.slice A n cap) ∧ w'.cell? ⟨B, 1, none⟩ = some (.int .i64 off) ∧ w'.cell? ⟨B, 2, none⟩ = some (.int .i64 lo) ∧ w'.cell? ⟨B, 3, none⟩ = some (.int .i64 hi))
              (first | (go_split_ands; exact Kw2.all (Kw2.next (by assumption) (by assumption))) | (go_split_ands; exact Kw2.all (Kw2.next (below_alloc_ _ _) (by assumption))) | (go_split_ands; exact Kw2.all (Kw2.next (drew_b _ _) (by assumption))))
              (first
                | (go_at_call 23; go_split_ands; ((show Calls Try.prog 23 #[cyl A n cap off lo hi, .int .i64 (x : Int)] _ _); with_reducible refine (nth23 A n cap off lo hi (x : Int) ps _ (Kz.pcs (Kv.k (Kw2.v (by assumption)))) Hn.out).mono ?_); rintro e w' ⟨C4, m4, rfl, hs4, hb⟩; rw [np.out] at hs4 ⊢))
            have hfin : Kw2 w B D A n cap off lo hi ps (off + (ao : Int)) (lo - (st : Int)) (hi + (st : Int)) QS g cp w' := And.left (by assumption)
            have S1 := Lib.hid hs4
            have K9 := Lib.hid hfin
            obtain rfl : n = m4 := by rw [← hs4.1, List.length_map, Hlen.out]
            clear hfin hs4 hb hG c0 c1 c2 c3 x2 x3 K
            obtain ⟨c0, c1, c2, c3⟩ := K9.out.v.k.c
            go_wp2_with fail
            refine (checkJoin19 A C4 n cap n n off lo hi ps (L.map stC) _ K9.out.v.k.pcs S1.out Hn.out (by omega)).mono ?_
            rintro e9 w6 ⟨rfl, hb⟩
            rw [Hck.out]
            replace S1 := Lib.hid (S1.out.below hb (Nat.le_refl _))
            replace K9 := Lib.hid (Kw2.next hb K9.out)
            clear hb c0 c1 c2 c3
            obtain ⟨-, -, -, -, d0, d1, d2, d3⟩ := K9.out.v.c
            go_wp2_with fail
            refine (checkJoin18 (some ⟨g, 0, none⟩) C4 n cp n n (off + (ao : Int)) (lo - (st : Int)) (hi + (st : Int)) QS (L.map stC) _ K9.out.q S1.out Hn.out (by omega) (Nat.le_refl _)).mono ?_
            rintro e9 w7 ⟨rfl, hb⟩
            rw [Hck2.out]
            replace K9 := Lib.hid (Kw2.next hb K9.out)
            clear hb d0 d1 d2 d3
            go_wp2_with fail
            refine (works13 _).mono ?_
            rintro e w9 ⟨rfl, hb⟩
            have HB := Lib.hid (K9.out.v.k.next hb)
            clear hb
            go_wp2_with fail
            go_ret
            exact ⟨rfl, HB.out.below⟩
      · have x3 : (wh : Int) % 2 = 1 := by omega
        have Hx3 := Lib.hid x3
        clear he
        go_wp2_with fail
        have hb2 := below_alloc_ (wc.setCell ⟨g, k * 7 + 6, none⟩ (.bool true)) (.cells #[.int .i64 l2, .int .i64 h2] 24)
        have hQ := heap_alloc_new_ (wc.setCell ⟨g, k * 7 + 6, none⟩ (.bool true)) (.cells #[.int .i64 l2, .int .i64 h2] 24)
        have G2 := Lib.hid (Kw2.next hb2 G1.out)
        have hgs := G1.out.lt
        have hsz : (wc.setCell ⟨g, k * 7 + 6, none⟩ (.bool true)).heap.size = wc.heap.size := by simp [World.setCell]
        rw [hsz] at hQ hgs
        generalize (wc.setCell ⟨g, k * 7 + 6, none⟩ (.bool true)).alloc (.cells #[.int .i64 l2, .int .i64 h2] 24) = V2 at hQ G2 ⊢
        obtain ⟨Q, hQe⟩ : ∃ Q, wc.heap.size = Q := ⟨_, rfl⟩
        rw [hQe] at hQ hgs ⊢
        have HQ := Lib.hid hQ
        have Hgs := Lib.hid (show Q ≠ g from by omega)
        have hd := G2.out.r1
        have HD := Lib.hid hd
        clear hb2 hsz hQe hgs G1 r0 r1 r3 r4 d0' fz6 g6 hQ hd d0 d1 d2 d3 x1 x2 x3
        obtain ⟨mx, hmx⟩ : ∃ mx : Int, (mx = 0 ∧ l2 - (ad : Int) ≤ 0) ∨ (mx = l2 - (ad : Int) ∧ 0 ≤ l2 - (ad : Int)) := by
          by_cases h : l2 - (ad : Int) ≤ 0
          · exact ⟨0, .inl ⟨rfl, h⟩⟩
          · exact ⟨_, .inr ⟨rfl, by omega⟩⟩
        obtain ⟨mn, hmn⟩ : ∃ mn : Int, (mn = 1000 ∧ 1000 ≤ h2 + (ad : Int)) ∨ (mn = h2 + (ad : Int) ∧ h2 + (ad : Int) ≤ 1000) := by
          by_cases h : 1000 ≤ h2 + (ad : Int)
          · exact ⟨1000, .inl ⟨rfl, h⟩⟩
          · exact ⟨_, .inr ⟨rfl, by omega⟩⟩
        have t1 : IntKind.i64.wrap (wh : Int) = (wh : Int) := IntWalk.i64_in _ ⟨by omega, by omega⟩
        have t2 : IntKind.i64.wrap (ad : Int) = (ad : Int) := IntWalk.i64_in _ ⟨by omega, by omega⟩
        have t3 : IntKind.i64.wrap (l2 - (ad : Int)) = l2 - (ad : Int) := IntWalk.i64_in _ ⟨by omega, by omega⟩
        have t4 : IntKind.i64.wrap (h2 + (ad : Int)) = h2 + (ad : Int) := IntWalk.i64_in _ ⟨by omega, by omega⟩
        have t5 : (wh : Int).tmod 2 = 1 := by rw [Int.tmod_eq_emod_of_nonneg (by omega)]; exact Hx3.out
        have HM := Lib.hid (And.intro hmx hmn)
        refine wp_region_held_drew (S := fun w2 => w2.heap[D]? = some (.cells #[.slice (some ⟨g, 0, none⟩) n cp, .int .i64 (off + (ao : Int)), .int .i64 (lo - (st : Int)), .int .i64 (hi + (st : Int))] 26 (0, 0)) ∧ w2.heap[Q]? = some (.cells #[.int .i64 l2, .int .i64 h2] 24 (0, 0))) (by kernel_rfl) ⟨HD.out, HQ.out⟩ (fun hS0 => ?_)
        refine wpAnyH_take (i := 0) (oi := { dst := some 70, op := Go.Op.fieldAddr 26 (Go.Operand.tmp 13) 0, type := 0, pos := "outright.go:160", after := #[], guard := none }) (v := .pointer (some ⟨D, 0, none⟩)) rfl (by kernel_rfl) (by kernel_rfl) (by kernel_rfl) (fun _ _ _ h => h) (Or.inl ⟨by rfl, by intro w2 hSw; (try dsimp only at hSw); have d0 : w2.cell? ⟨D, 0, none⟩ = some (.slice (some ⟨g, 0, none⟩) n cp) := (by rw [cell_row hSw.1]; rfl); have q0 : w2.cell? ⟨Q, 0, none⟩ = some (.int .i64 l2) := (by rw [cell_row hSw.2]; rfl); have q1 : w2.cell? ⟨Q, 1, none⟩ = some (.int .i64 h2) := (by rw [cell_row hSw.2]; rfl); go_simp; (try (first | omega | (intro hx9; omega) | (split <;> first | omega | (simp; omega))))⟩) hS0 ?_
        try simp only [Act.put, List.setIfInBounds_toArray, List.set_cons_zero, List.set_cons_succ]
        refine wpAnyH_take (i := 1) (oi := { dst := some 71, op := Go.Op.load 22 (Go.Operand.tmp 70), type := 22, pos := "outright.go:160", after := #[{ on := 0, ground := Go.Ground.data }], guard := none }) (v := .slice (some ⟨g, 0, none⟩) n cp) rfl (by kernel_rfl) (by kernel_rfl) (by kernel_rfl) (fun _ _ _ h => h) (Or.inl ⟨by rfl, by intro w2 hSw; (try dsimp only at hSw); have d0 : w2.cell? ⟨D, 0, none⟩ = some (.slice (some ⟨g, 0, none⟩) n cp) := (by rw [cell_row hSw.1]; rfl); have q0 : w2.cell? ⟨Q, 0, none⟩ = some (.int .i64 l2) := (by rw [cell_row hSw.2]; rfl); have q1 : w2.cell? ⟨Q, 1, none⟩ = some (.int .i64 h2) := (by rw [cell_row hSw.2]; rfl); go_simp; (try (first | omega | (intro hx9; omega) | (split <;> first | omega | (simp; omega))))⟩) hS0 ?_
        try simp only [Act.put, List.setIfInBounds_toArray, List.set_cons_zero, List.set_cons_succ]
        refine wpAnyH_take (i := 2) (oi := { dst := some 72, op := Go.Op.move (Go.Operand.tmp 14), type := 3, pos := "outright.go:160", after := #[], guard := none }) (v := .int .i64 (k : Int)) rfl (by kernel_rfl) (by kernel_rfl) (by kernel_rfl) (fun _ _ _ h => h) (Or.inl ⟨by rfl, by intro w2 hSw; (try dsimp only at hSw); have d0 : w2.cell? ⟨D, 0, none⟩ = some (.slice (some ⟨g, 0, none⟩) n cp) := (by rw [cell_row hSw.1]; rfl); have q0 : w2.cell? ⟨Q, 0, none⟩ = some (.int .i64 l2) := (by rw [cell_row hSw.2]; rfl); have q1 : w2.cell? ⟨Q, 1, none⟩ = some (.int .i64 h2) := (by rw [cell_row hSw.2]; rfl); go_simp; (try (first | omega | (intro hx9; omega) | (split <;> first | omega | (simp; omega))))⟩) hS0 ?_
        try simp only [Act.put, List.setIfInBounds_toArray, List.set_cons_zero, List.set_cons_succ]
        refine wpAnyH_take (i := 3) (oi := { dst := some 73, op := Go.Op.move (Go.Operand.tmp 4), type := 5, pos := "outright.go:160", after := #[], guard := none }) (v := .int .u8 (wh : Int)) rfl (by kernel_rfl) (by kernel_rfl) (by kernel_rfl) (fun _ _ _ h => h) (Or.inl ⟨by rfl, by intro w2 hSw; (try dsimp only at hSw); have d0 : w2.cell? ⟨D, 0, none⟩ = some (.slice (some ⟨g, 0, none⟩) n cp) := (by rw [cell_row hSw.1]; rfl); have q0 : w2.cell? ⟨Q, 0, none⟩ = some (.int .i64 l2) := (by rw [cell_row hSw.2]; rfl); have q1 : w2.cell? ⟨Q, 1, none⟩ = some (.int .i64 h2) := (by rw [cell_row hSw.2]; rfl); go_simp; (try (first | omega | (intro hx9; omega) | (split <;> first | omega | (simp; omega))))⟩) hS0 ?_
        try simp only [Act.put, List.setIfInBounds_toArray, List.set_cons_zero, List.set_cons_succ]
        refine wpAnyH_take (i := 4) (oi := { dst := some 74, op := Go.Op.convert 5 3 (Go.Operand.tmp 73), type := 3, pos := "outright.go:160", after := #[{ on := 3, ground := Go.Ground.data }], guard := none }) (v := .int .i64 (wh : Int)) rfl (by kernel_rfl) (by kernel_rfl) (by kernel_rfl) (fun _ _ _ h => h) (Or.inl ⟨by rfl, by intro w2 hSw; (try dsimp only at hSw); have d0 : w2.cell? ⟨D, 0, none⟩ = some (.slice (some ⟨g, 0, none⟩) n cp) := (by rw [cell_row hSw.1]; rfl); have q0 : w2.cell? ⟨Q, 0, none⟩ = some (.int .i64 l2) := (by rw [cell_row hSw.2]; rfl); have q1 : w2.cell? ⟨Q, 1, none⟩ = some (.int .i64 h2) := (by rw [cell_row hSw.2]; rfl); go_simp; (try (first | omega | (intro hx9; omega) | (split <;> first | omega | (simp; omega))))⟩) hS0 ?_
        try simp only [Act.put, List.setIfInBounds_toArray, List.set_cons_zero, List.set_cons_succ]
        refine wpAnyH_take (i := 5) (oi := { dst := some 75, op := Go.Op.binOp Go.BinOp.rem 3 (Go.Operand.tmp 74) (Go.Operand.const (Go.Value.int Go.IntKind.i64 2)) 3, type := 3, pos := "outright.go:160", after := #[{ on := 4, ground := Go.Ground.data }], guard := none }) (v := .int .i64 1) rfl (by kernel_rfl) (by kernel_rfl) (by kernel_rfl) (fun _ _ _ h => h) (Or.inl ⟨by rfl, by intro w2 hSw; (try dsimp only at hSw); have d0 : w2.cell? ⟨D, 0, none⟩ = some (.slice (some ⟨g, 0, none⟩) n cp) := (by rw [cell_row hSw.1]; rfl); have q0 : w2.cell? ⟨Q, 0, none⟩ = some (.int .i64 l2) := (by rw [cell_row hSw.2]; rfl); have q1 : w2.cell? ⟨Q, 1, none⟩ = some (.int .i64 h2) := (by rw [cell_row hSw.2]; rfl); go_simp; (try (first | omega | (intro hx9; omega) | (split <;> first | omega | (simp; omega))))⟩) hS0 ?_
        try simp only [Act.put, List.setIfInBounds_toArray, List.set_cons_zero, List.set_cons_succ]
        refine wpAnyH_take (i := 6) (oi := { dst := some 76, op := Go.Op.fieldAddr 24 (Go.Operand.tmp 15) 0, type := 0, pos := "outright.go:160", after := #[], guard := none }) (v := .pointer (some ⟨Q, 0, none⟩)) rfl (by kernel_rfl) (by kernel_rfl) (by kernel_rfl) (fun _ _ _ h => h) (Or.inl ⟨by rfl, by intro w2 hSw; (try dsimp only at hSw); have d0 : w2.cell? ⟨D, 0, none⟩ = some (.slice (some ⟨g, 0, none⟩) n cp) := (by rw [cell_row hSw.1]; rfl); have q0 : w2.cell? ⟨Q, 0, none⟩ = some (.int .i64 l2) := (by rw [cell_row hSw.2]; rfl); have q1 : w2.cell? ⟨Q, 1, none⟩ = some (.int .i64 h2) := (by rw [cell_row hSw.2]; rfl); go_simp; (try (first | omega | (intro hx9; omega) | (split <;> first | omega | (simp; omega))))⟩) hS0 ?_
        try simp only [Act.put, List.setIfInBounds_toArray, List.set_cons_zero, List.set_cons_succ]
        refine wpAnyH_take (i := 7) (oi := { dst := some 77, op := Go.Op.load 2 (Go.Operand.tmp 76), type := 2, pos := "outright.go:160", after := #[{ on := 6, ground := Go.Ground.data }], guard := none }) (v := .int .i64 l2) rfl (by kernel_rfl) (by kernel_rfl) (by kernel_rfl) (fun _ _ _ h => h) (Or.inl ⟨by rfl, by intro w2 hSw; (try dsimp only at hSw); have d0 : w2.cell? ⟨D, 0, none⟩ = some (.slice (some ⟨g, 0, none⟩) n cp) := (by rw [cell_row hSw.1]; rfl); have q0 : w2.cell? ⟨Q, 0, none⟩ = some (.int .i64 l2) := (by rw [cell_row hSw.2]; rfl); have q1 : w2.cell? ⟨Q, 1, none⟩ = some (.int .i64 h2) := (by rw [cell_row hSw.2]; rfl); go_simp; (try (first | omega | (intro hx9; omega) | (split <;> first | omega | (simp; omega))))⟩) hS0 ?_
        try simp only [Act.put, List.setIfInBounds_toArray, List.set_cons_zero, List.set_cons_succ]
        refine wpAnyH_take (i := 8) (oi := { dst := some 78, op := Go.Op.move (Go.Operand.tmp 3), type := 5, pos := "outright.go:160", after := #[], guard := none }) (v := .int .u8 (ad : Int)) rfl (by kernel_rfl) (by kernel_rfl) (by kernel_rfl) (fun _ _ _ h => h) (Or.inl ⟨by rfl, by intro w2 hSw; (try dsimp only at hSw); have d0 : w2.cell? ⟨D, 0, none⟩ = some (.slice (some ⟨g, 0, none⟩) n cp) := (by rw [cell_row hSw.1]; rfl); have q0 : w2.cell? ⟨Q, 0, none⟩ = some (.int .i64 l2) := (by rw [cell_row hSw.2]; rfl); have q1 : w2.cell? ⟨Q, 1, none⟩ = some (.int .i64 h2) := (by rw [cell_row hSw.2]; rfl); go_simp; (try (first | omega | (intro hx9; omega) | (split <;> first | omega | (simp; omega))))⟩) hS0 ?_
        try simp only [Act.put, List.setIfInBounds_toArray, List.set_cons_zero, List.set_cons_succ]
        refine wpAnyH_take (i := 9) (oi := { dst := some 79, op := Go.Op.convert 5 2 (Go.Operand.tmp 78), type := 2, pos := "outright.go:160", after := #[{ on := 8, ground := Go.Ground.data }], guard := none }) (v := .int .i64 (ad : Int)) rfl (by kernel_rfl) (by kernel_rfl) (by kernel_rfl) (fun _ _ _ h => h) (Or.inl ⟨by rfl, by intro w2 hSw; (try dsimp only at hSw); have d0 : w2.cell? ⟨D, 0, none⟩ = some (.slice (some ⟨g, 0, none⟩) n cp) := (by rw [cell_row hSw.1]; rfl); have q0 : w2.cell? ⟨Q, 0, none⟩ = some (.int .i64 l2) := (by rw [cell_row hSw.2]; rfl); have q1 : w2.cell? ⟨Q, 1, none⟩ = some (.int .i64 h2) := (by rw [cell_row hSw.2]; rfl); go_simp; (try (first | omega | (intro hx9; omega) | (split <;> first | omega | (simp; omega))))⟩) hS0 ?_
        try simp only [Act.put, List.setIfInBounds_toArray, List.set_cons_zero, List.set_cons_succ]
        refine wpAnyH_take (i := 10) (oi := { dst := some 80, op := Go.Op.binOp Go.BinOp.sub 2 (Go.Operand.tmp 77) (Go.Operand.tmp 79) 2, type := 2, pos := "outright.go:160", after := #[{ on := 7, ground := Go.Ground.data }, { on := 9, ground := Go.Ground.data }], guard := none }) (v := .int .i64 (l2 - (ad : Int))) rfl (by kernel_rfl) (by kernel_rfl) (by kernel_rfl) (fun _ _ _ h => h) (Or.inl ⟨by rfl, by intro w2 hSw; (try dsimp only at hSw); have d0 : w2.cell? ⟨D, 0, none⟩ = some (.slice (some ⟨g, 0, none⟩) n cp) := (by rw [cell_row hSw.1]; rfl); have q0 : w2.cell? ⟨Q, 0, none⟩ = some (.int .i64 l2) := (by rw [cell_row hSw.2]; rfl); have q1 : w2.cell? ⟨Q, 1, none⟩ = some (.int .i64 h2) := (by rw [cell_row hSw.2]; rfl); go_simp; (try (first | omega | (intro hx9; omega) | (split <;> first | omega | (simp; omega))))⟩) hS0 ?_
        try simp only [Act.put, List.setIfInBounds_toArray, List.set_cons_zero, List.set_cons_succ]
        refine wpAnyH_take (i := 11) (oi := { dst := some 81, op := Go.Op.call { callee := Go.Callee.builtin Go.Builtin.max, args := #[Go.Operand.const (Go.Value.int Go.IntKind.i64 0), Go.Operand.tmp 80], argTypes := #[2, 2] }, type := 2, pos := "outright.go:160", after := #[{ on := 10, ground := Go.Ground.data }], guard := none }) (v := .int .i64 mx) rfl (by kernel_rfl) (by kernel_rfl) (by kernel_rfl) (fun _ _ _ h => h) (Or.inl ⟨by rfl, by intro w2 hSw; (try dsimp only at hSw); have d0 : w2.cell? ⟨D, 0, none⟩ = some (.slice (some ⟨g, 0, none⟩) n cp) := (by rw [cell_row hSw.1]; rfl); have q0 : w2.cell? ⟨Q, 0, none⟩ = some (.int .i64 l2) := (by rw [cell_row hSw.2]; rfl); have q1 : w2.cell? ⟨Q, 1, none⟩ = some (.int .i64 h2) := (by rw [cell_row hSw.2]; rfl); go_simp; (try (first | omega | (intro hx9; omega) | (split <;> first | omega | (simp; omega))))⟩) hS0 ?_
        try simp only [Act.put, List.setIfInBounds_toArray, List.set_cons_zero, List.set_cons_succ]
        refine wpAnyH_take (i := 12) (oi := { dst := some 82, op := Go.Op.fieldAddr 24 (Go.Operand.tmp 15) 1, type := 0, pos := "outright.go:160", after := #[], guard := none }) (v := .pointer (some ⟨Q, 1, none⟩)) rfl (by kernel_rfl) (by kernel_rfl) (by kernel_rfl) (fun _ _ _ h => h) (Or.inl ⟨by rfl, by intro w2 hSw; (try dsimp only at hSw); have d0 : w2.cell? ⟨D, 0, none⟩ = some (.slice (some ⟨g, 0, none⟩) n cp) := (by rw [cell_row hSw.1]; rfl); have q0 : w2.cell? ⟨Q, 0, none⟩ = some (.int .i64 l2) := (by rw [cell_row hSw.2]; rfl); have q1 : w2.cell? ⟨Q, 1, none⟩ = some (.int .i64 h2) := (by rw [cell_row hSw.2]; rfl); go_simp; (try (first | omega | (intro hx9; omega) | (split <;> first | omega | (simp; omega))))⟩) hS0 ?_
        try simp only [Act.put, List.setIfInBounds_toArray, List.set_cons_zero, List.set_cons_succ]
        refine wpAnyH_take (i := 13) (oi := { dst := some 83, op := Go.Op.load 2 (Go.Operand.tmp 82), type := 2, pos := "outright.go:160", after := #[{ on := 12, ground := Go.Ground.data }], guard := none }) (v := .int .i64 h2) rfl (by kernel_rfl) (by kernel_rfl) (by kernel_rfl) (fun _ _ _ h => h) (Or.inl ⟨by rfl, by intro w2 hSw; (try dsimp only at hSw); have d0 : w2.cell? ⟨D, 0, none⟩ = some (.slice (some ⟨g, 0, none⟩) n cp) := (by rw [cell_row hSw.1]; rfl); have q0 : w2.cell? ⟨Q, 0, none⟩ = some (.int .i64 l2) := (by rw [cell_row hSw.2]; rfl); have q1 : w2.cell? ⟨Q, 1, none⟩ = some (.int .i64 h2) := (by rw [cell_row hSw.2]; rfl); go_simp; (try (first | omega | (intro hx9; omega) | (split <;> first | omega | (simp; omega))))⟩) hS0 ?_
        try simp only [Act.put, List.setIfInBounds_toArray, List.set_cons_zero, List.set_cons_succ]
        refine wpAnyH_take (i := 14) (oi := { dst := some 84, op := Go.Op.move (Go.Operand.tmp 3), type := 5, pos := "outright.go:160", after := #[], guard := none }) (v := .int .u8 (ad : Int)) rfl (by kernel_rfl) (by kernel_rfl) (by kernel_rfl) (fun _ _ _ h => h) (Or.inl ⟨by rfl, by intro w2 hSw; (try dsimp only at hSw); have d0 : w2.cell? ⟨D, 0, none⟩ = some (.slice (some ⟨g, 0, none⟩) n cp) := (by rw [cell_row hSw.1]; rfl); have q0 : w2.cell? ⟨Q, 0, none⟩ = some (.int .i64 l2) := (by rw [cell_row hSw.2]; rfl); have q1 : w2.cell? ⟨Q, 1, none⟩ = some (.int .i64 h2) := (by rw [cell_row hSw.2]; rfl); go_simp; (try (first | omega | (intro hx9; omega) | (split <;> first | omega | (simp; omega))))⟩) hS0 ?_
        try simp only [Act.put, List.setIfInBounds_toArray, List.set_cons_zero, List.set_cons_succ]
        refine wpAnyH_take (i := 15) (oi := { dst := some 85, op := Go.Op.convert 5 2 (Go.Operand.tmp 84), type := 2, pos := "outright.go:160", after := #[{ on := 14, ground := Go.Ground.data }], guard := none }) (v := .int .i64 (ad : Int)) rfl (by kernel_rfl) (by kernel_rfl) (by kernel_rfl) (fun _ _ _ h => h) (Or.inl ⟨by rfl, by intro w2 hSw; (try dsimp only at hSw); have d0 : w2.cell? ⟨D, 0, none⟩ = some (.slice (some ⟨g, 0, none⟩) n cp) := (by rw [cell_row hSw.1]; rfl); have q0 : w2.cell? ⟨Q, 0, none⟩ = some (.int .i64 l2) := (by rw [cell_row hSw.2]; rfl); have q1 : w2.cell? ⟨Q, 1, none⟩ = some (.int .i64 h2) := (by rw [cell_row hSw.2]; rfl); go_simp; (try (first | omega | (intro hx9; omega) | (split <;> first | omega | (simp; omega))))⟩) hS0 ?_
        try simp only [Act.put, List.setIfInBounds_toArray, List.set_cons_zero, List.set_cons_succ]
        refine wpAnyH_take (i := 16) (oi := { dst := some 86, op := Go.Op.binOp Go.BinOp.add 2 (Go.Operand.tmp 83) (Go.Operand.tmp 85) 2, type := 2, pos := "outright.go:160", after := #[{ on := 13, ground := Go.Ground.data }, { on := 15, ground := Go.Ground.data }], guard := none }) (v := .int .i64 (h2 + (ad : Int))) rfl (by kernel_rfl) (by kernel_rfl) (by kernel_rfl) (fun _ _ _ h => h) (Or.inl ⟨by rfl, by intro w2 hSw; (try dsimp only at hSw); have d0 : w2.cell? ⟨D, 0, none⟩ = some (.slice (some ⟨g, 0, none⟩) n cp) := (by rw [cell_row hSw.1]; rfl); have q0 : w2.cell? ⟨Q, 0, none⟩ = some (.int .i64 l2) := (by rw [cell_row hSw.2]; rfl); have q1 : w2.cell? ⟨Q, 1, none⟩ = some (.int .i64 h2) := (by rw [cell_row hSw.2]; rfl); go_simp; (try (first | omega | (intro hx9; omega) | (split <;> first | omega | (simp; omega))))⟩) hS0 ?_
        try simp only [Act.put, List.setIfInBounds_toArray, List.set_cons_zero, List.set_cons_succ]
        refine wpAnyH_take (i := 17) (oi := { dst := some 87, op := Go.Op.call { callee := Go.Callee.builtin Go.Builtin.min, args := #[Go.Operand.const (Go.Value.int Go.IntKind.i64 1000), Go.Operand.tmp 86], argTypes := #[2, 2] }, type := 2, pos := "outright.go:160", after := #[{ on := 16, ground := Go.Ground.data }], guard := none }) (v := .int .i64 mn) rfl (by kernel_rfl) (by kernel_rfl) (by kernel_rfl) (fun _ _ _ h => h) (Or.inl ⟨by rfl, by intro w2 hSw; (try dsimp only at hSw); have d0 : w2.cell? ⟨D, 0, none⟩ = some (.slice (some ⟨g, 0, none⟩) n cp) := (by rw [cell_row hSw.1]; rfl); have q0 : w2.cell? ⟨Q, 0, none⟩ = some (.int .i64 l2) := (by rw [cell_row hSw.2]; rfl); have q1 : w2.cell? ⟨Q, 1, none⟩ = some (.int .i64 h2) := (by rw [cell_row hSw.2]; rfl); go_simp; (try (first | omega | (intro hx9; omega) | (split <;> first | omega | (simp; omega))))⟩) hS0 ?_
        try simp only [Act.put, List.setIfInBounds_toArray, List.set_cons_zero, List.set_cons_succ]
        refine wpAnyH_take (i := 18) (oi := { dst := some 88, op := Go.Op.build 24 #[(0, Go.Operand.tmp 81), (1, Go.Operand.tmp 87)], type := 24, pos := "outright.go:160", after := #[{ on := 11, ground := Go.Ground.data }, { on := 17, ground := Go.Ground.data }], guard := none }) (v := .agg #[.int .i64 mx, .int .i64 mn]) rfl (by kernel_rfl) (by kernel_rfl) (by kernel_rfl) (fun _ _ _ h => h) (Or.inl ⟨by rfl, by intro w2 hSw; (try dsimp only at hSw); have d0 : w2.cell? ⟨D, 0, none⟩ = some (.slice (some ⟨g, 0, none⟩) n cp) := (by rw [cell_row hSw.1]; rfl); have q0 : w2.cell? ⟨Q, 0, none⟩ = some (.int .i64 l2) := (by rw [cell_row hSw.2]; rfl); have q1 : w2.cell? ⟨Q, 1, none⟩ = some (.int .i64 h2) := (by rw [cell_row hSw.2]; rfl); go_simp; (try (first | omega | (intro hx9; omega) | (split <;> first | omega | (simp; omega))))⟩) hS0 ?_
        try simp only [Act.put, List.setIfInBounds_toArray, List.set_cons_zero, List.set_cons_succ]
        refine wpAnyH_take (i := 19) (oi := { dst := some 89, op := Go.Op.indexAddr 22 (Go.Operand.tmp 71) (Go.Operand.tmp 72), type := 0, pos := "outright.go:160", after := #[{ on := 1, ground := Go.Ground.data }, { on := 2, ground := Go.Ground.data }], guard := none }) (v := .pointer (some ⟨g, k * 7, none⟩)) rfl (by kernel_rfl) (by kernel_rfl) (by kernel_rfl) (fun _ _ _ h => h) (Or.inl ⟨by rfl, by intro w2 hSw; (try dsimp only at hSw); have d0 : w2.cell? ⟨D, 0, none⟩ = some (.slice (some ⟨g, 0, none⟩) n cp) := (by rw [cell_row hSw.1]; rfl); have q0 : w2.cell? ⟨Q, 0, none⟩ = some (.int .i64 l2) := (by rw [cell_row hSw.2]; rfl); have q1 : w2.cell? ⟨Q, 1, none⟩ = some (.int .i64 h2) := (by rw [cell_row hSw.2]; rfl); go_simp; (try (first | omega | (intro hx9; omega) | (split <;> first | omega | (simp; omega))))⟩) hS0 ?_
        try simp only [Act.put, List.setIfInBounds_toArray, List.set_cons_zero, List.set_cons_succ]
        refine wpAnyH_take (i := 20) (oi := { dst := some 90, op := Go.Op.fieldAddr 62 (Go.Operand.tmp 89) 0, type := 0, pos := "outright.go:160", after := #[{ on := 19, ground := Go.Ground.data }], guard := none }) (v := .pointer (some ⟨g, k * 7, none⟩)) rfl (by kernel_rfl) (by kernel_rfl) (by kernel_rfl) (fun _ _ _ h => h) (Or.inl ⟨by rfl, by intro w2 hSw; (try dsimp only at hSw); have d0 : w2.cell? ⟨D, 0, none⟩ = some (.slice (some ⟨g, 0, none⟩) n cp) := (by rw [cell_row hSw.1]; rfl); have q0 : w2.cell? ⟨Q, 0, none⟩ = some (.int .i64 l2) := (by rw [cell_row hSw.2]; rfl); have q1 : w2.cell? ⟨Q, 1, none⟩ = some (.int .i64 h2) := (by rw [cell_row hSw.2]; rfl); go_simp; (try (first | omega | (intro hx9; omega) | (split <;> first | omega | (simp; omega))))⟩) hS0 ?_
        try simp only [Act.put, List.setIfInBounds_toArray, List.set_cons_zero, List.set_cons_succ]
        refine wpAnyH_take (i := 21) (oi := { dst := some 91, op := Go.Op.indexAddr 60 (Go.Operand.tmp 90) (Go.Operand.tmp 75), type := 0, pos := "outright.go:160", after := #[{ on := 20, ground := Go.Ground.data }, { on := 5, ground := Go.Ground.data }, { on := 0, ground := Go.Ground.phase }, { on := 1, ground := Go.Ground.phase }, { on := 2, ground := Go.Ground.phase }, { on := 3, ground := Go.Ground.phase }, { on := 4, ground := Go.Ground.phase }, { on := 5, ground := Go.Ground.phase }, { on := 6, ground := Go.Ground.phase }, { on := 7, ground := Go.Ground.phase }, { on := 8, ground := Go.Ground.phase }, { on := 9, ground := Go.Ground.phase }, { on := 10, ground := Go.Ground.phase }, { on := 11, ground := Go.Ground.phase }, { on := 12, ground := Go.Ground.phase }, { on := 13, ground := Go.Ground.phase }, { on := 14, ground := Go.Ground.phase }, { on := 15, ground := Go.Ground.phase }, { on := 16, ground := Go.Ground.phase }, { on := 17, ground := Go.Ground.phase }, { on := 18, ground := Go.Ground.phase }], guard := none }) (v := .pointer (some ⟨g, k * 7 + 3, none⟩)) rfl (by kernel_rfl) (by kernel_rfl) (by kernel_rfl) (fun _ _ _ h => h) (Or.inl ⟨by rfl, by intro w2 hSw; (try dsimp only at hSw); have d0 : w2.cell? ⟨D, 0, none⟩ = some (.slice (some ⟨g, 0, none⟩) n cp) := (by rw [cell_row hSw.1]; rfl); have q0 : w2.cell? ⟨Q, 0, none⟩ = some (.int .i64 l2) := (by rw [cell_row hSw.2]; rfl); have q1 : w2.cell? ⟨Q, 1, none⟩ = some (.int .i64 h2) := (by rw [cell_row hSw.2]; rfl); go_simp; (try (first | omega | (intro hx9; omega) | (split <;> first | omega | (simp; omega))))⟩) hS0 ?_
        try simp only [Act.put, List.setIfInBounds_toArray, List.set_cons_zero, List.set_cons_succ]
        refine wpAnyH_take (i := 22) (oi := { dst := some 92, op := Go.Op.fieldAddr 59 (Go.Operand.tmp 91) 0, type := 0, pos := "outright.go:160", after := #[{ on := 21, ground := Go.Ground.data }, { on := 0, ground := Go.Ground.phase }, { on := 1, ground := Go.Ground.phase }, { on := 2, ground := Go.Ground.phase }, { on := 3, ground := Go.Ground.phase }, { on := 4, ground := Go.Ground.phase }, { on := 5, ground := Go.Ground.phase }, { on := 6, ground := Go.Ground.phase }, { on := 7, ground := Go.Ground.phase }, { on := 8, ground := Go.Ground.phase }, { on := 9, ground := Go.Ground.phase }, { on := 10, ground := Go.Ground.phase }, { on := 11, ground := Go.Ground.phase }, { on := 12, ground := Go.Ground.phase }, { on := 13, ground := Go.Ground.phase }, { on := 14, ground := Go.Ground.phase }, { on := 15, ground := Go.Ground.phase }, { on := 16, ground := Go.Ground.phase }, { on := 17, ground := Go.Ground.phase }, { on := 18, ground := Go.Ground.phase }], guard := none }) (v := .pointer (some ⟨g, k * 7 + 3, none⟩)) rfl (by kernel_rfl) (by kernel_rfl) (by kernel_rfl) (fun _ _ _ h => h) (Or.inl ⟨by rfl, by intro w2 hSw; (try dsimp only at hSw); have d0 : w2.cell? ⟨D, 0, none⟩ = some (.slice (some ⟨g, 0, none⟩) n cp) := (by rw [cell_row hSw.1]; rfl); have q0 : w2.cell? ⟨Q, 0, none⟩ = some (.int .i64 l2) := (by rw [cell_row hSw.2]; rfl); have q1 : w2.cell? ⟨Q, 1, none⟩ = some (.int .i64 h2) := (by rw [cell_row hSw.2]; rfl); go_simp; (try (first | omega | (intro hx9; omega) | (split <;> first | omega | (simp; omega))))⟩) hS0 ?_
        try simp only [Act.put, List.setIfInBounds_toArray, List.set_cons_zero, List.set_cons_succ]
        refine wpAnyH_ready (rs := [23]) (by kernel_rfl) (by simp) ?_
        refine AllReadyH.cons (o := { dst := none, op := Go.Op.store 24 (Go.Operand.tmp 92) (Go.Operand.tmp 88), type := 0, pos := "outright.go:160", after := #[{ on := 22, ground := Go.Ground.data }, { on := 18, ground := Go.Ground.data }, { on := 0, ground := Go.Ground.phase }, { on := 1, ground := Go.Ground.phase }, { on := 2, ground := Go.Ground.phase }, { on := 3, ground := Go.Ground.phase }, { on := 4, ground := Go.Ground.phase }, { on := 5, ground := Go.Ground.phase }, { on := 6, ground := Go.Ground.phase }, { on := 7, ground := Go.Ground.phase }, { on := 8, ground := Go.Ground.phase }, { on := 9, ground := Go.Ground.phase }, { on := 10, ground := Go.Ground.phase }, { on := 11, ground := Go.Ground.phase }, { on := 12, ground := Go.Ground.phase }, { on := 13, ground := Go.Ground.phase }, { on := 14, ground := Go.Ground.phase }, { on := 15, ground := Go.Ground.phase }, { on := 16, ground := Go.Ground.phase }, { on := 17, ground := Go.Ground.phase }, { on := 18, ground := Go.Ground.phase }], guard := none }) rfl (fun K2 hK => ?_) AllReadyH.nil
        have hVD := hS0.1
        obtain ⟨f0, f1, f2, f3, f4, f5, f6, fz⟩ := G2.out.cells hkn
        rw [Hpa.out] at f0 f1 f2 f3 f4 f5 f6
        have fz0 := fz (k * 7 + 3)
        have fz1 := fz (k * 7 + 4)
        clear fz f2 f5 f6
        go_simp
        refine hK.out _ _ ⟨set_other _ (set_other _ hS0.1 (fun e => G2.out.ob.2.2 e.symm)) (fun e => G2.out.ob.2.2 e.symm), set_other _ (set_other _ hS0.2 Hgs.out) Hgs.out⟩ (fun hSf => ?_)
        clear hK K2 f0 f1 f3 f4 fz0 fz1
        try simp only [Act.put, List.setIfInBounds_toArray, List.set_cons_zero, List.set_cons_succ]
        refine wpAnyH_done (by kernel_rfl) ?_ _
        have G4 : Kw2 w B D A n cap off lo hi ps (off + (ao : Int)) (lo - (st : Int)) (hi + (st : Int)) ((ps.set k ⟨⟨⟨l1, h1⟩, p1⟩, ⟨⟨l2, h2⟩, p2⟩, true⟩).set k ⟨⟨⟨l1, h1⟩, p1⟩, ⟨⟨mx, h2⟩, p2⟩, true⟩) g cp (V2.setCell ⟨g, k * 7 + 3, none⟩ (.int .i64 mx)) := G2.out.set (k := k) (j := 3) (v := .int .i64 mx) hkn (by omega) (by rw [Hpa.out]; rfl)
        have G5 : Kw2 w B D A n cap off lo hi ps (off + (ao : Int)) (lo - (st : Int)) (hi + (st : Int)) (((ps.set k ⟨⟨⟨l1, h1⟩, p1⟩, ⟨⟨l2, h2⟩, p2⟩, true⟩).set k ⟨⟨⟨l1, h1⟩, p1⟩, ⟨⟨mx, h2⟩, p2⟩, true⟩).set k ⟨⟨⟨l1, h1⟩, p1⟩, ⟨⟨mx, mn⟩, p2⟩, true⟩) g cp ((V2.setCell ⟨g, k * 7 + 3, none⟩ (.int .i64 mx)).setCell ⟨g, k * 7 + 4, none⟩ (.int .i64 mn)) := G4.set (k := k) (j := 4) (v := .int .i64 mn) hkn (by omega) (by rw [pAt_set (by rw [List.length_set, Hpl.out]; exact hkn)]; rfl)
        rw [List.set_set, List.set_set] at G5
        have hwc : WidC ⟨ps, off, ⟨lo, hi⟩⟩ ⟨ps.set k ⟨⟨⟨l1, h1⟩, p1⟩, ⟨⟨mx, mn⟩, p2⟩, true⟩, off + (ao : Int), ⟨lo - (st : Int), hi + (st : Int)⟩⟩ := wid_one (c := ⟨ps, off, ⟨lo, hi⟩⟩) (p := ⟨⟨⟨l1, h1⟩, p1⟩, ⟨⟨l2, h2⟩, p2⟩, lz⟩) (q := ⟨⟨⟨l1, h1⟩, p1⟩, ⟨⟨mx, mn⟩, p2⟩, true⟩) Hpp.out (by show k < ps.length; rw [Hpl.out]; exact hkn) ⟨fun _ => rfl, ⟨by dsimp only; omega, by dsimp only; omega, rfl⟩, ⟨by dsimp only; omega, by dsimp only; omega, rfl⟩⟩ (by dsimp only; omega) (by dsimp only; omega) (by dsimp only; omega)
        replace G5 := Kw2.next (W' := ((V2.setCell ⟨g, k * 7 + 3, none⟩ (.int .i64 mx)).setCell ⟨g, k * 7 + 4, none⟩ (.int .i64 mn)).drew) (drew_b _ 1) G5
        generalize ps.set k ⟨⟨⟨l1, h1⟩, p1⟩, ⟨⟨mx, mn⟩, p2⟩, true⟩ = QS at G5 hwc
        generalize ((V2.setCell ⟨g, k * 7 + 3, none⟩ (.int .i64 mx)).setCell ⟨g, k * 7 + 4, none⟩ (.int .i64 mn)).drew = V5 at G5 ⊢
        have K := Lib.hid G5
        have HWC := Lib.hid hwc
        obtain ⟨-, -, -, -, d0, d1, d2, d3⟩ := K.out.v.c
        clear G4 G5 hwc hS0 hSf G2 t1 t2 t3 t4 t5 HQ HD HM hmx hmn Hgs Hpa Hpp
        go_wp2_with fail
        refine (fine35 (some ⟨g, 0, none⟩) n cp (off + (ao : Int)) (lo - (st : Int)) (hi + (st : Int)) QS _ K.out.q Hn.out).mono ?_
        rintro e W2 ⟨rfl, hb⟩
        replace K := Lib.hid (Kw2.next hb K.out)
        clear hb d0 d1 d2 d3
        obtain ⟨f2, hf2⟩ : ∃ f2, fineB ⟨QS, off + (ao : Int), ⟨lo - (st : Int), hi + (st : Int)⟩⟩ = f2 := ⟨_, rfl⟩
        rw [hf2]
        have Hf2 := Lib.hid hf2
        clear hf2
        cases f2 with
        | false =>
          go_wp2_with fail
          refine (works13 _).mono ?_
          rintro e w9 ⟨rfl, hb⟩
          have HB := Lib.hid (K.out.v.k.next hb)
          clear hb
          go_wp2_with fail
          go_ret
          exact ⟨rfl, HB.out.below⟩
        | true =>
          have he2 : chkC ⟨QS, off + (ao : Int), ⟨lo - (st : Int), hi + (st : Int)⟩⟩ = 0 := by
            have := Hf2.out
            unfold fineB at this
            simp only [Bool.and_eq_true, decide_eq_true_eq] at this
            exact this.2
          obtain ⟨N, hN⟩ : ∃ N, (joinsC ⟨ps, off, ⟨lo, hi⟩⟩).length = N := ⟨_, rfl⟩
          obtain ⟨M, hM⟩ : ∃ M, (joinsC ⟨QS, off + (ao : Int), ⟨lo - (st : Int), hi + (st : Int)⟩⟩).length = M := ⟨_, rfl⟩
          have hNM : N ≤ M := by rw [← hN, ← hM]; exact wid_count HWC.out
          have He2 := Lib.hid he2
          have HN := Lib.hid hN
          have Hc1 := Lib.hid (show countR ⟨ps, off, ⟨lo, hi⟩⟩ = ((N : Int), 0) from by rw [countR_ok He.out, hN])
          have Hc2 := Lib.hid (show countR ⟨QS, off + (ao : Int), ⟨lo - (st : Int), hi + (st : Int)⟩⟩ = ((M : Int), 0) from by rw [countR_ok he2, hM])
          clear he2 hN hM
          obtain ⟨c0, c1, c2, c3⟩ := K.out.v.k.c
          go_wp2_with fail
          refine (count21 A n cap off lo hi ps _ K.out.v.k.pcs Hn.out).mono ?_
          rintro e2 W3 ⟨rfl, hb⟩
          rw [Hc1.out]
          replace K := Lib.hid (Kw2.next hb K.out)
          clear hb c0 c1 c2 c3
          obtain ⟨-, -, -, -, d0, d1, d2, d3⟩ := K.out.v.c
          go_wp2_with fail
          refine (count21 (some ⟨g, 0, none⟩) n cp (off + (ao : Int)) (lo - (st : Int)) (hi + (st : Int)) QS _ K.out.q Hn.out).mono ?_
          rintro e2 W4 ⟨rfl, hb⟩
          rw [Hc2.out]
          replace K := Lib.hid (Kw2.next hb K.out)
          clear hb d0 d1 d2 d3
          have z1 : decide ((M : Int) < (N : Int)) = false := decide_eq_false (by omega)
          have z2 : ¬ (M : Int) < (N : Int) := by omega
          have z3 : ¬ M < N := by omega
          have z4 : decide ((N : Int) < 0) = false := decide_eq_false (by omega)
          by_cases hN0 : N = 0
          · subst hN0
            go_wp2_with fail
            refine (works13 _).mono ?_
            rintro e w9 ⟨rfl, hb⟩
            have HB := Lib.hid (K.out.v.k.next hb)
            clear hb
            go_wp2_with fail
            go_ret
            exact ⟨rfl, HB.out.below⟩
          · have dN0 : ((N : Int) == 0) = false := by rw [beq_eq_false_iff_ne]; omega
            obtain ⟨x, hx⟩ : ∃ x, num % N = x := ⟨_, rfl⟩
            have hxN : x < N := by rw [← hx]; exact Nat.mod_lt _ (by omega)
            have hnum := Hnum.out
            have x2 : (num : Int).tmod (N : Int) = (x : Int) := by rw [Int.tmod_eq_emod_of_nonneg (by omega), ← hx]; exact (Int.natCast_emod num N).symm
            have x3 : IntKind.i64.wrap (num : Int) = (num : Int) := IntWalk.i64_in _ ⟨by omega, by omega⟩
            have hxj : x < (joinsC ⟨ps, off, ⟨lo, hi⟩⟩).length := by rw [HN.out]; exact hxN
            have np := Lib.hid (nth_at He.out hxj)
            obtain ⟨L, hL⟩ : ∃ L, (joinsC ⟨ps, off, ⟨lo, hi⟩⟩)[x] = L := ⟨_, rfl⟩
            have hmem : L ∈ joinsC ⟨ps, off, ⟨lo, hi⟩⟩ := by rw [← hL]; exact List.getElem_mem _
            rw [hL] at np
            have Hck := Lib.hid (ckJoin_of He.out hmem)
            have Hck2 := Lib.hid (ckJoin_of He2.out (wid_join HWC.out hmem))
            have hlen : L.length = n := by rw [(join_way hmem).1]; exact Hpl.out
            have Hlen := Lib.hid hlen
            have Hx := Lib.hid hx
            obtain ⟨hG, c0, c1, c2, c3⟩ := K.out.all
            clear hL hmem hlen hx hxj hxN z1 z2 z3 z4
            go_wp2_with fail
            go_region_held3 (fun w' => Kw2 w B D A n cap off lo hi ps (off + (ao : Int)) (lo - (st : Int)) (hi + (st : Int)) QS g cp w' ∧ w'.cell? ⟨B, 0, none⟩ = some (.slice A n cap) ∧ w'.cell? ⟨B, 1, none⟩ = some (.int .i64 off) ∧ w'.cell? ⟨B, 2, none⟩ = some (.int .i64 lo) ∧ w'.cell? ⟨B, 3, none⟩ = some (.int .i64 hi))
              (first | (go_split_ands; exact Kw2.all (Kw2.next (by assumption) (by assumption))) | (go_split_ands; exact Kw2.all (Kw2.next (below_alloc_ _ _) (by assumption))) | (go_split_ands; exact Kw2.all (Kw2.next (drew_b _ _) (by assumption))))
              (first
                | (go_at_call 23; go_split_ands; ((show Calls Try.prog 23 #[cyl A n cap off lo hi, .int .i64 (x : Int)] _ _); with_reducible refine (nth23 A n cap off lo hi (x : Int) ps _ (Kz.pcs (Kv.k (Kw2.v (by assumption)))) Hn.out).mono ?_); rintro e w' ⟨C4, m4, rfl, hs4, hb⟩; rw [np.out] at hs4 ⊢))
            have hfin : Kw2 w B D A n cap off lo hi ps (off + (ao : Int)) (lo - (st : Int)) (hi + (st : Int)) QS g cp w' := And.left (by assumption)
            have S1 := Lib.hid hs4
            have K9 := Lib.hid hfin
            obtain rfl : n = m4 := by rw [← hs4.1, List.length_map, Hlen.out]
            clear hfin hs4 hb hG c0 c1 c2 c3 x2 x3 K
            obtain ⟨c0, c1, c2, c3⟩ := K9.out.v.k.c
            go_wp2_with fail
            refine (checkJoin19 A C4 n cap n n off lo hi ps (L.map stC) _ K9.out.v.k.pcs S1.out Hn.out (by omega)).mono ?_
            rintro e9 w6 ⟨rfl, hb⟩
            rw [Hck.out]
            replace S1 := Lib.hid (S1.out.below hb (Nat.le_refl _))
            replace K9 := Lib.hid (Kw2.next hb K9.out)
            clear hb c0 c1 c2 c3
            obtain ⟨-, -, -, -, d0, d1, d2, d3⟩ := K9.out.v.c
            go_wp2_with fail
            refine (checkJoin18 (some ⟨g, 0, none⟩) C4 n cp n n (off + (ao : Int)) (lo - (st : Int)) (hi + (st : Int)) QS (L.map stC) _ K9.out.q S1.out Hn.out (by omega) (Nat.le_refl _)).mono ?_
            rintro e9 w7 ⟨rfl, hb⟩
            rw [Hck2.out]
            replace K9 := Lib.hid (Kw2.next hb K9.out)
            clear hb d0 d1 d2 d3
            go_wp2_with fail
            refine (works13 _).mono ?_
            rintro e w9 ⟨rfl, hb⟩
            have HB := Lib.hid (K9.out.v.k.next hb)
            clear hb
            go_wp2_with fail
            go_ret
            exact ⟨rfl, HB.out.below⟩
end Go.Proofs.Ytfmcfalghbaanaa
