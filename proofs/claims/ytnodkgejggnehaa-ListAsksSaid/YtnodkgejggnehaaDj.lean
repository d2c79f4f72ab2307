/- Stage 5: which links are a joining (the document). -/
import Derived.Test.YtnodkgejggnehaaRs
import Derived.Deep.Cut
namespace Go.Proofs.Ytnodkgejggnehaa
set_option linter.unusedSimpArgs false
set_option linter.unusedVariables false
open Go.RowKit Go.Shelf
section
attribute [local go_sem ↓] exec_app at_app
attribute [local go_sem] Oper.semAt_some
set_option maxRecDepth 100000 in
set_option maxHeartbeats 4000000 in
theorem single48 (sl sr : Int) (A : Option Addr) (n cap : Nat) (zs : List Rg) (A2 : Option Addr) (kn kc : Nat) (A3 : Option Addr) (m mc : Nat) (ns : List Int) (w : World) (h : Rgs w A n zs) (hI : Ints w A3 m ns) (hin : ∀ j, j < m → 0 ≤ iAt ns j ∧ iAt ns j < (n : Int)) (hn : n ≤ 1000000) (hm : m ≤ 100000) :
    Calls Try.prog 48 #[.agg #[.int .i64 sl, .int .i64 sr, .slice A n cap, .slice A2 kn kc], .slice A3 m mc] w fun e w' => e = .returned (.bool (apB zs ns)) ∧ Below w.heap.size w w' := by
  have hb0 := below_alloc_ w (.cells #[.int .i64 sl, .int .i64 sr, .slice A n cap, .slice A2 kn kc] 25)
  have hr0 := heap_alloc_new_ w (.cells #[.int .i64 sl, .int .i64 sr, .slice A n cap, .slice A2 kn kc] 25)
  obtain ⟨w0, hW0⟩ : ∃ w0, w.alloc (.cells #[.int .i64 sl, .int .i64 sr, .slice A n cap, .slice A2 kn kc] 25) = w0 := ⟨_, rfl⟩
  obtain ⟨R, hR⟩ : ∃ R, w.heap.size = R := ⟨_, rfl⟩
  rw [hW0] at hb0 hr0
  rw [hR] at hr0
  have HZl := Lib.hid h.1
  have S := Lib.hid (h.below hb0 (Nat.le_refl _))
  have HNl := Lib.hid hI.1
  have Y := Lib.hid (hI.below hb0 (Nat.le_refl _))
  have Hin := Lib.hid hin
  have B := Lib.hid hb0
  have HW0 := Lib.hid hW0
  have HR := Lib.hid hR
  have hrow := Lib.hid hr0
  clear h hI hb0 hr0 hW0 hR
  go_enter Try.func48, Try.ntmps48
  go_wp2_with fail
  rw [HW0.out]
  try rw [HR.out]
  try go_wp2_with fail
  clear hin
  go_loopw [5, 6] (fun i j wr => ∃ k : Nat, k ≤ m ∧ i = .int .i64 (k : Int) ∧ Hid (apB zs (ns.take k) = true ∧ Below w0.heap.size w0 wr)) (fun i j _ => m - (intOf i).toNat)
  case atStart => exact ⟨0, Nat.zero_le _, rfl, Lib.hid ⟨by rw [List.take_zero]; rfl, Below.refl _ _⟩⟩
  case round =>
    obtain ⟨k, hk9, rfl, HW⟩ := hrel
    obtain ⟨wo, rfl⟩ : ∃ wo, wo = wr := ⟨_, rfl⟩
    by_cases hlt : k < m
    · go_wp2_with fail
      go_loopw [6] (fun j wr => ∃ q : Nat, q ≤ k ∧ j = .int .i64 (q : Int) ∧ Hid ((∀ t, t < q → meB (nmG zs ns k) (nmG zs ns t) = false) ∧ Below w0.heap.size w0 wr)) (fun j _ => k - (intOf j).toNat)
      case atStart => exact ⟨0, Nat.zero_le _, rfl, Lib.hid ⟨fun t h => by omega, HW.out.2⟩⟩
      case round =>
        obtain ⟨q, hq9, rfl, HV⟩ := hrel
        obtain ⟨wk, rfl⟩ : ∃ wk, wk = wr := ⟨_, rfl⟩
        have HB := Lib.hid HV.out.2
        by_cases hql : q < k
        · obtain ⟨bj, oj, rfl, hcj⟩ := (Y.out.below HB.out (Nat.le_refl _)).2 (by omega)
          have cx0 := hcj k hlt
          have cy0 := hcj q (by omega)
          have hx9 := Hin.out k hlt
          have hy9 := Hin.out q (by omega)
          have Hst := Lib.hid (fun hh => ap_stop (zs := zs) (ns := ns) (k := k) (j := q) (by rw [HNl.out]; exact hlt) hql hh)
          have HNx := Lib.hid (show nmG zs ns k = gAt zs (iAt ns k).toNat from rfl)
          have HNy := Lib.hid (show nmG zs ns q = gAt zs (iAt ns q).toNat from rfl)
          obtain ⟨ix, hix⟩ : ∃ ix, iAt ns k = ix := ⟨_, rfl⟩
          obtain ⟨iy, hiy⟩ : ∃ iy, iAt ns q = iy := ⟨_, rfl⟩
          have cx1 := cx0
          have cy1 := cy0
          rw [hix] at cx1 hx9
          rw [hiy] at cy1 hy9
          obtain ⟨ax, rfl⟩ : ∃ ax : Nat, ix = (ax : Int) := ⟨ix.toNat, by omega⟩
          obtain ⟨ay, rfl⟩ : ∃ ay : Nat, iy = (ay : Int) := ⟨iy.toNat, by omega⟩
          obtain ⟨bz, oz, rfl, hcz⟩ := (S.out.below HB.out (Nat.le_refl _)).2 (by omega)
          have zx := hcz ax (by omega)
          have zy := hcz ay (by omega)
          have HGx := Lib.hid (show nmG zs ns k = gAt zs ax by rw [HNx.out, hix]; rfl)
          have HGy := Lib.hid (show nmG zs ns q = gAt zs ay by rw [HNy.out, hiy]; rfl)
          obtain ⟨gx, hgx⟩ : ∃ g, gAt zs ax = g := ⟨_, rfl⟩
          obtain ⟨gy, hgy⟩ : ∃ g, gAt zs ay = g := ⟨_, rfl⟩
          rw [hgx] at zx HGx
          rw [hgy] at zy HGy
          obtain ⟨xl, xh⟩ := gx
          obtain ⟨yl, yh⟩ := gy
          simp only at zx zy
          have hrk := (HB.out.block R (lt_of_block hrow.out)).trans hrow.out
          have c00 : wk.cell? ⟨R, 2, none⟩ = some (.slice (some ⟨bz, oz, none⟩) n cap) := by rw [cell_row hrk]; rfl
          have c0 : ∀ w2, Below wk.heap.size wk w2 → w2.cell? ⟨R, 2, none⟩ = some (.slice (some ⟨bz, oz, none⟩) n cap) := fun w2 hb => (hb.cell (lt_of_cell c00)).trans c00
          have cx : ∀ w2, Below wk.heap.size wk w2 → w2.cell? ⟨bj, oj + k, none⟩ = some (.int .i64 (ax : Int)) := fun w2 hb => (hb.cell (lt_of_cell cx1)).trans cx1
          have cy : ∀ w2, Below wk.heap.size wk w2 → w2.cell? ⟨bj, oj + q, none⟩ = some (.int .i64 (ay : Int)) := fun w2 hb => (hb.cell (lt_of_cell cy1)).trans cy1
          have gx : ∀ w2, Below wk.heap.size wk w2 → w2.cell? ⟨bz, oz + ax * 2, none⟩ = some (.int .i64 xl) ∧ w2.cell? ⟨bz, oz + ax * 2 + 1, none⟩ = some (.int .i64 xh) := fun w2 hb => ⟨(hb.cell (lt_of_cell zx.1)).trans zx.1, (hb.cell (lt_of_cell zx.2)).trans zx.2⟩
          have gy : ∀ w2, Below wk.heap.size wk w2 → w2.cell? ⟨bz, oz + ay * 2, none⟩ = some (.int .i64 yl) ∧ w2.cell? ⟨bz, oz + ay * 2 + 1, none⟩ = some (.int .i64 yh) := fun w2 hb => ⟨(hb.cell (lt_of_cell zy.1)).trans zy.1, (hb.cell (lt_of_cell zy.2)).trans zy.2⟩
          obtain ⟨mb, hmb⟩ : ∃ mb, meB ⟨xl, xh⟩ ⟨yl, yh⟩ = mb := ⟨_, rfl⟩
          have HMe := Lib.hid hmb
          have i0 : (0 : Int) ≤ (k : Int) := by omega
          have i1 : (k : Int) < (m : Int) := by omega
          have i2 : (0 : Int) ≤ (q : Int) := by omega
          have i3 : (q : Int) < (m : Int) := by omega
          have i4 : (0 : Int) ≤ (ax : Int) := by omega
          have i5 : (ax : Int) < (n : Int) := by omega
          have i6 : (0 : Int) ≤ (ay : Int) := by omega
          have i7 : (ay : Int) < (n : Int) := by omega
          clear hcj hcz cx0 cy0 cx1 cy1 hix hiy zx zy hgx hgy hrk c00 hmb hx9 hy9 HNx HNy
          go_wp2_with fail
          refine wp_region_held_drew (S := fun w2 => Below wk.heap.size wk w2) (by kernel_rfl) (drew_b _ _) (fun hS0 => ?_)
          refine wpAnyH_take (i := 0) (oi := { dst := some 18, op := Go.Op.fieldAddr 25 (Go.Operand.tmp 2) 2, type := 0, pos := "ref.go:50", after := #[], guard := none }) (v := .pointer (some ⟨R, 2, none⟩)) rfl (by kernel_rfl) (by kernel_rfl) (by kernel_rfl) (fun _ _ _ h => h) (Or.inl ⟨by rfl, by intro w2 hSw; (try dsimp only at hSw); go_simp⟩) hS0 ?_
          try simp only [Act.put, List.setIfInBounds_toArray, List.set_cons_zero, List.set_cons_succ]
          refine wpAnyH_take (i := 1) (oi := { dst := some 19, op := Go.Op.load 22 (Go.Operand.tmp 18), type := 22, pos := "ref.go:50", after := #[{ on := 0, ground := Go.Ground.data }], guard := none }) (v := .slice (some ⟨bz, oz, none⟩) n cap) rfl (by kernel_rfl) (by kernel_rfl) (by kernel_rfl) (fun _ _ _ h => h) (Or.inl ⟨by rfl, by intro w2 hSw; (try dsimp only at hSw); have z0 := c0 _ hSw; go_simp⟩) hS0 ?_
          try simp only [Act.put, List.setIfInBounds_toArray, List.set_cons_zero, List.set_cons_succ]
          refine wpAnyH_take (i := 2) (oi := { dst := some 20, op := Go.Op.move (Go.Operand.tmp 1), type := 23, pos := "ref.go:50", after := #[], guard := none }) (v := .slice (some ⟨bj, oj, none⟩) m mc) rfl (by kernel_rfl) (by kernel_rfl) (by kernel_rfl) (fun _ _ _ h => h) (Or.inl ⟨by rfl, by intro w2 hSw; (try dsimp only at hSw); go_simp⟩) hS0 ?_
          try simp only [Act.put, List.setIfInBounds_toArray, List.set_cons_zero, List.set_cons_succ]
          refine wpAnyH_take (i := 3) (oi := { dst := some 21, op := Go.Op.move (Go.Operand.tmp 5), type := 3, pos := "ref.go:50", after := #[], guard := none }) (v := .int .i64 (k : Int)) rfl (by kernel_rfl) (by kernel_rfl) (by kernel_rfl) (fun _ _ _ h => h) (Or.inl ⟨by rfl, by intro w2 hSw; (try dsimp only at hSw); go_simp⟩) hS0 ?_
          try simp only [Act.put, List.setIfInBounds_toArray, List.set_cons_zero, List.set_cons_succ]
          refine wpAnyH_take (i := 4) (oi := { dst := some 22, op := Go.Op.indexAddr 23 (Go.Operand.tmp 20) (Go.Operand.tmp 21), type := 0, pos := "ref.go:50", after := #[{ on := 2, ground := Go.Ground.data }, { on := 3, ground := Go.Ground.data }], guard := none }) (v := .pointer (some ⟨bj, oj + k, none⟩)) rfl (by kernel_rfl) (by kernel_rfl) (by kernel_rfl) (fun _ _ _ h => h) (Or.inl ⟨by rfl, by intro w2 hSw; (try dsimp only at hSw); go_simp⟩) hS0 ?_
          try simp only [Act.put, List.setIfInBounds_toArray, List.set_cons_zero, List.set_cons_succ]
          refine wpAnyH_take (i := 5) (oi := { dst := some 23, op := Go.Op.load 3 (Go.Operand.tmp 22), type := 3, pos := "ref.go:50", after := #[{ on := 4, ground := Go.Ground.data }], guard := none }) (v := .int .i64 (ax : Int)) rfl (by kernel_rfl) (by kernel_rfl) (by kernel_rfl) (fun _ _ _ h => h) (Or.inl ⟨by rfl, by intro w2 hSw; (try dsimp only at hSw); have z0 := cx _ hSw; go_simp⟩) hS0 ?_
          try simp only [Act.put, List.setIfInBounds_toArray, List.set_cons_zero, List.set_cons_succ]
          refine wpAnyH_take (i := 6) (oi := { dst := some 24, op := Go.Op.indexAddr 22 (Go.Operand.tmp 19) (Go.Operand.tmp 23), type := 0, pos := "ref.go:50", after := #[{ on := 1, ground := Go.Ground.data }, { on := 5, ground := Go.Ground.data }], guard := none }) (v := .pointer (some ⟨bz, oz + ax * 2, none⟩)) rfl (by kernel_rfl) (by kernel_rfl) (by kernel_rfl) (fun _ _ _ h => h) (Or.inl ⟨by rfl, by intro w2 hSw; (try dsimp only at hSw); go_simp⟩) hS0 ?_
          try simp only [Act.put, List.setIfInBounds_toArray, List.set_cons_zero, List.set_cons_succ]
          refine wpAnyH_take (i := 7) (oi := { dst := some 25, op := Go.Op.load 55 (Go.Operand.tmp 24), type := 55, pos := "ref.go:50", after := #[{ on := 6, ground := Go.Ground.data }], guard := none }) (v := .agg #[.int .i64 xl, .int .i64 xh]) rfl (by kernel_rfl) (by kernel_rfl) (by kernel_rfl) (fun _ _ _ h => h) (Or.inl ⟨by rfl, by intro w2 hSw; (try dsimp only at hSw); obtain ⟨z0, z1⟩ := gx _ hSw; go_simp⟩) hS0 ?_
          try simp only [Act.put, List.setIfInBounds_toArray, List.set_cons_zero, List.set_cons_succ]
          refine wpAnyH_take (i := 8) (oi := { dst := some 26, op := Go.Op.fieldAddr 25 (Go.Operand.tmp 2) 2, type := 0, pos := "ref.go:50", after := #[], guard := none }) (v := .pointer (some ⟨R, 2, none⟩)) rfl (by kernel_rfl) (by kernel_rfl) (by kernel_rfl) (fun _ _ _ h => h) (Or.inl ⟨by rfl, by intro w2 hSw; (try dsimp only at hSw); go_simp⟩) hS0 ?_
          try simp only [Act.put, List.setIfInBounds_toArray, List.set_cons_zero, List.set_cons_succ]
          refine wpAnyH_take (i := 9) (oi := { dst := some 27, op := Go.Op.load 22 (Go.Operand.tmp 26), type := 22, pos := "ref.go:50", after := #[{ on := 8, ground := Go.Ground.data }], guard := none }) (v := .slice (some ⟨bz, oz, none⟩) n cap) rfl (by kernel_rfl) (by kernel_rfl) (by kernel_rfl) (fun _ _ _ h => h) (Or.inl ⟨by rfl, by intro w2 hSw; (try dsimp only at hSw); have z0 := c0 _ hSw; go_simp⟩) hS0 ?_
          try simp only [Act.put, List.setIfInBounds_toArray, List.set_cons_zero, List.set_cons_succ]
          refine wpAnyH_take (i := 10) (oi := { dst := some 28, op := Go.Op.move (Go.Operand.tmp 1), type := 23, pos := "ref.go:50", after := #[], guard := none }) (v := .slice (some ⟨bj, oj, none⟩) m mc) rfl (by kernel_rfl) (by kernel_rfl) (by kernel_rfl) (fun _ _ _ h => h) (Or.inl ⟨by rfl, by intro w2 hSw; (try dsimp only at hSw); go_simp⟩) hS0 ?_
          try simp only [Act.put, List.setIfInBounds_toArray, List.set_cons_zero, List.set_cons_succ]
          refine wpAnyH_take (i := 11) (oi := { dst := some 29, op := Go.Op.move (Go.Operand.tmp 6), type := 3, pos := "ref.go:50", after := #[], guard := none }) (v := .int .i64 (q : Int)) rfl (by kernel_rfl) (by kernel_rfl) (by kernel_rfl) (fun _ _ _ h => h) (Or.inl ⟨by rfl, by intro w2 hSw; (try dsimp only at hSw); go_simp⟩) hS0 ?_
          try simp only [Act.put, List.setIfInBounds_toArray, List.set_cons_zero, List.set_cons_succ]
          refine wpAnyH_take (i := 12) (oi := { dst := some 30, op := Go.Op.indexAddr 23 (Go.Operand.tmp 28) (Go.Operand.tmp 29), type := 0, pos := "ref.go:50", after := #[{ on := 10, ground := Go.Ground.data }, { on := 11, ground := Go.Ground.data }], guard := none }) (v := .pointer (some ⟨bj, oj + q, none⟩)) rfl (by kernel_rfl) (by kernel_rfl) (by kernel_rfl) (fun _ _ _ h => h) (Or.inl ⟨by rfl, by intro w2 hSw; (try dsimp only at hSw); go_simp⟩) hS0 ?_
          try simp only [Act.put, List.setIfInBounds_toArray, List.set_cons_zero, List.set_cons_succ]
          refine wpAnyH_take (i := 13) (oi := { dst := some 31, op := Go.Op.load 3 (Go.Operand.tmp 30), type := 3, pos := "ref.go:50", after := #[{ on := 12, ground := Go.Ground.data }], guard := none }) (v := .int .i64 (ay : Int)) rfl (by kernel_rfl) (by kernel_rfl) (by kernel_rfl) (fun _ _ _ h => h) (Or.inl ⟨by rfl, by intro w2 hSw; (try dsimp only at hSw); have z0 := cy _ hSw; go_simp⟩) hS0 ?_
          try simp only [Act.put, List.setIfInBounds_toArray, List.set_cons_zero, List.set_cons_succ]
          refine wpAnyH_take (i := 14) (oi := { dst := some 32, op := Go.Op.indexAddr 22 (Go.Operand.tmp 27) (Go.Operand.tmp 31), type := 0, pos := "ref.go:50", after := #[{ on := 9, ground := Go.Ground.data }, { on := 13, ground := Go.Ground.data }], guard := none }) (v := .pointer (some ⟨bz, oz + ay * 2, none⟩)) rfl (by kernel_rfl) (by kernel_rfl) (by kernel_rfl) (fun _ _ _ h => h) (Or.inl ⟨by rfl, by intro w2 hSw; (try dsimp only at hSw); go_simp⟩) hS0 ?_
          try simp only [Act.put, List.setIfInBounds_toArray, List.set_cons_zero, List.set_cons_succ]
          refine wpAnyH_take (i := 15) (oi := { dst := some 33, op := Go.Op.load 55 (Go.Operand.tmp 32), type := 55, pos := "ref.go:50", after := #[{ on := 14, ground := Go.Ground.data }], guard := none }) (v := .agg #[.int .i64 yl, .int .i64 yh]) rfl (by kernel_rfl) (by kernel_rfl) (by kernel_rfl) (fun _ _ _ h => h) (Or.inl ⟨by rfl, by intro w2 hSw; (try dsimp only at hSw); obtain ⟨z0, z1⟩ := gy _ hSw; go_simp⟩) hS0 ?_
          try simp only [Act.put, List.setIfInBounds_toArray, List.set_cons_zero, List.set_cons_succ]
          refine wpAnyH_ready (rs := [16]) (by kernel_rfl) (by simp) ?_
          refine AllReadyH.cons (o := { dst := some 34, op := Go.Op.call { callee := Go.Callee.value (Go.Operand.func 63), args := #[Go.Operand.tmp 25, Go.Operand.tmp 33], argTypes := #[55, 55] }, type := 4, pos := "ref.go:50", after := #[{ on := 7, ground := Go.Ground.data }, { on := 15, ground := Go.Ground.data }], guard := none }) rfl (fun K hK => ?_) AllReadyH.nil
          go_simp
          refine (meet63 xl xh yl yh _).mono ?_
          rintro e9 V2 ⟨rfl, hV2⟩
          rw [HMe.out]
          try go_simp
          refine hK.out _ _ (hS0.trans (hV2.mono hS0.size)) (fun hS1 => ?_)
          clear hK
          try simp only [Act.put, List.setIfInBounds_toArray, List.set_cons_zero, List.set_cons_succ]
          refine wpAnyH_done (by kernel_rfl) ?_ _
          have HBE := Lib.hid (HB.out.trans (hS1.mono HB.out.size))
          clear c0 cx cy gx gy hS0 hS1
          cases mb with
          | true =>
            go_wp2_with fail
            go_ret
            exact ⟨ret_bool (Hst.out (by rw [HGx.out, HGy.out]; exact HMe.out)).symm, B.out.trans (HBE.out.mono B.out.size)⟩
          | false =>
            go_wp2_with fail
            go_roundw
            case rel => exact ⟨q + 1, by omega, by go_num, Lib.hid ⟨fun t ht => by
              rcases Nat.lt_or_ge t q with h | h
              · exact HV.out.1 t h
              · obtain rfl : t = q := by omega
                rw [HGx.out, HGy.out]; exact HMe.out, HBE.out⟩⟩
            case measure => simp [intOf]; omega
        · obtain rfl : q = k := by omega
          go_wp2_with fail
          go_roundw
          case rel => exact ⟨q + 1, by omega, by go_num, Lib.hid ⟨(ap_step (by rw [HNl.out]; exact hlt)).2 ⟨HW.out.1, HV.out.1⟩, HB.out⟩⟩
          case measure => simp [intOf]; omega
    · go_wp2_with fail
      go_ret
      exact ⟨ret_bool (by have := HW.out.1; rw [List.take_of_length_le (by rw [HNl.out]; omega)] at this; exact this.symm), B.out.trans (HW.out.2.mono B.out.size)⟩
end
end Go.Proofs.Ytnodkgejggnehaa

namespace Go.Proofs.Ytnodkgejggnehaa
set_option linter.unusedSimpArgs false
set_option linter.unusedVariables false
open Go.RowKit Go.Shelf
theorem bnd_false {sl sr : Int} (h : sl < 1 ∨ 12 < sl ∨ sr < 1 ∨ 12 < sr) : (inB 1 12 sl && inB 1 12 sr) = false := by
  rw [← Bool.not_eq_true, Bool.and_eq_true, inB_iff, inB_iff]; omega
theorem bnd_true {sl sr : Int} (h : ¬ sl < 1 ∧ ¬ 12 < sl ∧ ¬ sr < 1 ∧ ¬ 12 < sr) : (inB 1 12 sl && inB 1 12 sr) = true := by
  rw [Bool.and_eq_true, inB_iff, inB_iff]; omega
theorem okG_false {sl sr : Int} {r : Rg} (h : r.lo < 0 ∨ sl ≤ r.lo ∨ r.hi < 0 ∨ sr ≤ r.hi) : okG sl sr r = false := by
  unfold okG
  rw [← Bool.not_eq_true, Bool.and_eq_true, inB_iff, inB_iff]; omega
theorem okG_true {sl sr : Int} {r : Rg} (h : ¬ r.lo < 0 ∧ ¬ sl ≤ r.lo ∧ ¬ r.hi < 0 ∧ ¬ sr ≤ r.hi) : okG sl sr r = true := by
  unfold okG
  rw [Bool.and_eq_true, inB_iff, inB_iff]; omega
section
variable {sl sr : Int} {zs : List Rg} {ks : List Int}
theorem chk_2 (h1 : (inB 1 12 sl && inB 1 12 sr) = false) : chkS sl sr zs ks = 2 := by unfold chkS; rw [if_pos h1]
theorem chk_6 (h1 : (inB 1 12 sl && inB 1 12 sr) = true) (h2 : 40 < zs.length) : chkS sl sr zs ks = 6 := by unfold chkS; rw [h1, if_neg (by simp), if_pos h2]
theorem chk_3 (h1 : (inB 1 12 sl && inB 1 12 sr) = true) (h2 : ¬ 40 < zs.length) (h3 : zs.all (okG sl sr) = false) : chkS sl sr zs ks = 3 := by unfold chkS; rw [h1, if_neg (by simp), if_neg h2, if_pos h3]
theorem chk_11 (h1 : (inB 1 12 sl && inB 1 12 sr) = true) (h2 : ¬ 40 < zs.length) (h3 : zs.all (okG sl sr) = true) (h4 : ¬ zs.Nodup) : chkS sl sr zs ks = 11 := by unfold chkS; rw [h1, if_neg (by simp), if_neg h2, h3, if_neg (by simp), if_pos (decide_eq_false h4)]
theorem chk_16 (h1 : (inB 1 12 sl && inB 1 12 sr) = true) (h2 : ¬ 40 < zs.length) (h3 : zs.all (okG sl sr) = true) (h4 : zs.Nodup) (h5 : (risI (zs.length : Int) ks && apB zs ks) = false) : chkS sl sr zs ks = 16 := by unfold chkS; rw [h1, if_neg (by simp), if_neg h2, h3, if_neg (by simp), decide_eq_true h4, if_neg (by simp), if_pos h5]
theorem chk_0 (h1 : (inB 1 12 sl && inB 1 12 sr) = true) (h2 : ¬ 40 < zs.length) (h3 : zs.all (okG sl sr) = true) (h4 : zs.Nodup) (h5 : (risI (zs.length : Int) ks && apB zs ks) = true) : chkS sl sr zs ks = 0 := by unfold chkS; rw [h1, if_neg (by simp), if_neg h2, h3, if_neg (by simp), decide_eq_true h4, if_neg (by simp), h5, if_neg (by simp)]
end
theorem nodG_step {zs : List Rg} {k : Nat} (hk : k < zs.length) : (zs.take (k + 1)).Nodup ↔ (zs.take k).Nodup ∧ ∀ j, j < k → gAt zs k ≠ gAt zs j := by
  rw [nod_take hk]
  refine and_congr_right fun _ => ⟨fun h j hj e => h ?_, fun h hm => ?_⟩
  · rw [gAt_eq hk, gAt_eq (show j < zs.length by omega)] at e
    rw [e]
    exact List.mem_take_iff_getElem.2 ⟨j, by omega, rfl⟩
  · obtain ⟨j, hj, e⟩ := List.getElem_of_mem hm
    rw [List.length_take] at hj
    refine h j (by omega) ?_
    rw [gAt_eq hk, gAt_eq (show j < zs.length by omega), ← e, List.getElem_take]
theorem nodG_stop {zs : List Rg} {k j : Nat} (hk : k < zs.length) (hj : j < k) (e : gAt zs k = gAt zs j) : ¬ zs.Nodup := fun h =>
  ((nodG_step hk).1 (h.sublist (List.take_sublist _ _))).2 j hj e
section
attribute [local go_sem ↓] exec_app at_app
attribute [local go_sem] Oper.semAt_some
set_option maxRecDepth 100000 in
set_option maxHeartbeats 4000000 in
theorem checkSheet19 (sl sr : Int) (A : Option Addr) (n cap : Nat) (zs : List Rg) (A2 : Option Addr) (kn kc : Nat) (ks : List Int) (w : World) (h : Rgs w A n zs) (hI : Ints w A2 kn ks) (hn : n ≤ 1000000) (hk : kn ≤ 100000) :
    Calls Try.prog 19 #[.agg #[.int .i64 sl, .int .i64 sr, .slice A n cap, .slice A2 kn kc]] w fun e w' => e = .returned (.int .i64 (chkS sl sr zs ks)) ∧ Below w.heap.size w w' := by
  have hb0 := below_alloc_ w (.cells #[.int .i64 sl, .int .i64 sr, .slice A n cap, .slice A2 kn kc] 25)
  have hr0 := heap_alloc_new_ w (.cells #[.int .i64 sl, .int .i64 sr, .slice A n cap, .slice A2 kn kc] 25)
  obtain ⟨w0, hW0⟩ : ∃ w0, w.alloc (.cells #[.int .i64 sl, .int .i64 sr, .slice A n cap, .slice A2 kn kc] 25) = w0 := ⟨_, rfl⟩
  obtain ⟨R, hR⟩ : ∃ R, w.heap.size = R := ⟨_, rfl⟩
  rw [hW0] at hb0 hr0
  rw [hR] at hr0
  have HZl := Lib.hid h.1
  have S := Lib.hid (h.below hb0 (Nat.le_refl _))
  have HNl := Lib.hid hI.1
  have Y := Lib.hid (hI.below hb0 (Nat.le_refl _))
  have B := Lib.hid hb0
  have HW0 := Lib.hid hW0
  have HR := Lib.hid hR
  have hrow := Lib.hid hr0
  clear h hI hb0 hr0 hW0 hR
  by_cases l1 : sl < 1
  · have dl1 : decide (sl < 1) = true := decide_eq_true l1
    go_enter Try.func19, Try.ntmps19
    go_wp2_with fail
    rw [HW0.out]
    try rw [HR.out]
    try go_wp2_with fail
    go_ret
    exact ⟨by rw [chk_2 (bnd_false (by omega))] <;> rfl, by first | exact B.out | (rw [← HR.out]; exact B.out)⟩
  have dl1 : decide (sl < 1) = false := decide_eq_false l1
  by_cases l2 : 12 < sl
  · have dl2 : decide (12 < sl) = true := decide_eq_true l2
    go_enter Try.func19, Try.ntmps19
    go_wp2_with fail
    rw [HW0.out]
    try rw [HR.out]
    try go_wp2_with fail
    go_ret
    exact ⟨by rw [chk_2 (bnd_false (by omega))] <;> rfl, by first | exact B.out | (rw [← HR.out]; exact B.out)⟩
  have dl2 : decide (12 < sl) = false := decide_eq_false l2
  by_cases l3 : sr < 1
  · have dl3 : decide (sr < 1) = true := decide_eq_true l3
    go_enter Try.func19, Try.ntmps19
    go_wp2_with fail
    rw [HW0.out]
    try rw [HR.out]
    try go_wp2_with fail
    go_ret
    exact ⟨by rw [chk_2 (bnd_false (by omega))] <;> rfl, by first | exact B.out | (rw [← HR.out]; exact B.out)⟩
  have dl3 : decide (sr < 1) = false := decide_eq_false l3
  by_cases l4 : 12 < sr
  · have dl4 : decide (12 < sr) = true := decide_eq_true l4
    go_enter Try.func19, Try.ntmps19
    go_wp2_with fail
    rw [HW0.out]
    try rw [HR.out]
    try go_wp2_with fail
    go_ret
    exact ⟨by rw [chk_2 (bnd_false (by omega))] <;> rfl, by first | exact B.out | (rw [← HR.out]; exact B.out)⟩
  have dl4 : decide (12 < sr) = false := decide_eq_false l4
  have HB0 := Lib.hid (bnd_true ⟨l1, l2, l3, l4⟩)
  by_cases d40 : (40 : Int) < (n : Int)
  · have dh40 : decide ((40 : Int) < (n : Int)) = true := decide_eq_true d40
    have H40 := Lib.hid (show 40 < zs.length by rw [HZl.out]; omega)
    go_enter Try.func19, Try.ntmps19
    go_wp2_with fail
    rw [HW0.out]
    try rw [HR.out]
    try go_wp2_with fail
    go_ret
    exact ⟨by rw [chk_6 HB0.out H40.out] <;> rfl, by first | exact B.out | (rw [← HR.out]; exact B.out)⟩
  have dh40 : decide ((40 : Int) < (n : Int)) = false := decide_eq_false d40
  have H40 := Lib.hid (show ¬ 40 < zs.length by rw [HZl.out]; omega)
  go_enter Try.func19, Try.ntmps19
  go_wp2_with fail
  rw [HW0.out]
  try rw [HR.out]
  have s0 : w0.cell? ⟨R, 0, none⟩ = some (.int .i64 sl) := by rw [cell_row hrow.out]; rfl
  have s1 : w0.cell? ⟨R, 1, none⟩ = some (.int .i64 sr) := by rw [cell_row hrow.out]; rfl
  have s2 : w0.cell? ⟨R, 2, none⟩ = some (.slice A n cap) := by rw [cell_row hrow.out]; rfl
  have s3 : w0.cell? ⟨R, 3, none⟩ = some (.slice A2 kn kc) := by rw [cell_row hrow.out]; rfl
  try go_wp2_with fail
  clear d40 dh40 l1 l2 l3 l4 dl1 dl2 dl3 dl4 s0 s1 s2 s3
  go_loopw [3, 4] (fun i p wr => ∃ k : Nat, k ≤ n ∧ i = .int .i64 (k : Int) ∧ Hid ((zs.take k).all (okG sl sr) = true) ∧ Hid (Below w0.heap.size w0 wr)) (fun i p _ => n - (intOf i).toNat)
  case atStart => exact ⟨0, Nat.zero_le _, rfl, Lib.hid rfl, Lib.hid (Below.refl _ _)⟩
  case round =>
    obtain ⟨k, hk9, rfl, Hw, HBl⟩ := hrel
    obtain ⟨wk, rfl⟩ : ∃ wk, wk = wr := ⟨_, rfl⟩
    have hrk := Lib.hid ((HBl.out.block R (lt_of_block hrow.out)).trans hrow.out)
    by_cases hlt : k < n
    · obtain ⟨bz, oz, rfl, hcz⟩ := (S.out.below HBl.out (Nat.le_refl _)).2 (by omega)
      obtain ⟨z0, z1⟩ := hcz k hlt
      have Hs := Lib.hid (okG_take (sl := sl) (sr := sr) (zs := zs) (k := k) (by rw [HZl.out]; exact hlt))
      have Hf := Lib.hid (fun h => okG_stop (sl := sl) (sr := sr) (zs := zs) (k := k) (by rw [HZl.out]; exact hlt) h)
      obtain ⟨g, hg⟩ : ∃ g, gAt zs k = g := ⟨_, rfl⟩
      rw [hg] at z0 z1 Hs Hf
      obtain ⟨gl, gh⟩ := g
      simp only at z0 z1
      have i0 : (0 : Int) ≤ (k : Int) := by omega
      have i1 : (k : Int) < (n : Int) := by omega
      have hb1 := below_alloc_ wk (.cells #[.int .i64 gl, .int .i64 gh] 55)
      have hr1 := heap_alloc_new_ wk (.cells #[.int .i64 gl, .int .i64 gh] 55)
      clear hcz hg
      have s0 : wk.cell? ⟨R, 0, none⟩ = some (.int .i64 sl) := by rw [cell_row hrk.out]; rfl
      have s1 : wk.cell? ⟨R, 1, none⟩ = some (.int .i64 sr) := by rw [cell_row hrk.out]; rfl
      have s2 : wk.cell? ⟨R, 2, none⟩ = some (.slice (some ⟨bz, oz, none⟩) n cap) := by rw [cell_row hrk.out]; rfl
      have s3 : wk.cell? ⟨R, 3, none⟩ = some (.slice A2 kn kc) := by rw [cell_row hrk.out]; rfl
      go_upto_region 9 with fail
      obtain ⟨V, hV⟩ : ∃ V, wk.alloc (.cells #[.int .i64 gl, .int .i64 gh] 55) = V := ⟨_, rfl⟩
      obtain ⟨P, hP⟩ : ∃ P, wk.heap.size = P := ⟨_, rfl⟩
      rw [hV] at hb1 hr1 ⊢
      have HBV := Lib.hid (HBl.out.trans (hb1.mono HBl.out.size))
      have HBE := Lib.hid (B.out.trans (HBV.out.mono B.out.size))
      have hrV := (hb1.block R (lt_of_block hrk.out)).trans hrk.out
      rw [hP] at hr1 ⊢
      have p0 : V.cell? ⟨P, 0, none⟩ = some (.int .i64 gl) := by rw [cell_row hr1]; rfl
      have p1 : V.cell? ⟨P, 1, none⟩ = some (.int .i64 gh) := by rw [cell_row hr1]; rfl
      clear s0 s1 s2 s3 z0 z1 hV hP hr1 hb1
      have s0 : V.cell? ⟨R, 0, none⟩ = some (.int .i64 sl) := by rw [cell_row hrV]; rfl
      have s1 : V.cell? ⟨R, 1, none⟩ = some (.int .i64 sr) := by rw [cell_row hrV]; rfl
      have s2 : V.cell? ⟨R, 2, none⟩ = some (.slice (some ⟨bz, oz, none⟩) n cap) := by rw [cell_row hrV]; rfl
      have s3 : V.cell? ⟨R, 3, none⟩ = some (.slice A2 kn kc) := by rw [cell_row hrV]; rfl
      clear hrV
      by_cases t1 : gl < 0
      · have dt1 : decide (gl < 0) = true := decide_eq_true t1
        go_wp2_with fail
        go_ret
        exact ⟨by rw [chk_3 HB0.out H40.out (Hf.out (okG_false (by simp only; omega)))] <;> rfl, HBE.out⟩
      have dt1 : decide (gl < 0) = false := decide_eq_false t1
      by_cases t2 : sl ≤ gl
      · have dt2 : decide (sl ≤ gl) = true := decide_eq_true t2
        go_wp2_with fail
        go_ret
        exact ⟨by rw [chk_3 HB0.out H40.out (Hf.out (okG_false (by simp only; omega)))] <;> rfl, HBE.out⟩
      have dt2 : decide (sl ≤ gl) = false := decide_eq_false t2
      by_cases t3 : gh < 0
      · have dt3 : decide (gh < 0) = true := decide_eq_true t3
        go_wp2_with fail
        go_ret
        exact ⟨by rw [chk_3 HB0.out H40.out (Hf.out (okG_false (by simp only; omega)))] <;> rfl, HBE.out⟩
      have dt3 : decide (gh < 0) = false := decide_eq_false t3
      by_cases t4 : sr ≤ gh
      · have dt4 : decide (sr ≤ gh) = true := decide_eq_true t4
        go_wp2_with fail
        go_ret
        exact ⟨by rw [chk_3 HB0.out H40.out (Hf.out (okG_false (by simp only; omega)))] <;> rfl, HBE.out⟩
      have dt4 : decide (sr ≤ gh) = false := decide_eq_false t4
      have HO := Lib.hid (okG_true (r := ⟨gl, gh⟩) ⟨t1, t2, t3, t4⟩)
      go_wp2_with fail
      go_roundw
      case rel => exact ⟨k + 1, by omega, by go_num, Lib.hid (by rw [Hs.out, Hw.out, HO.out]; rfl), HBV⟩
      case measure => simp [intOf]; omega
    · obtain rfl : k = n := by omega
      have HA := Lib.hid (show zs.all (okG sl sr) = true by have := Hw.out; rwa [List.take_of_length_le (by rw [HZl.out]; exact Nat.le_refl _)] at this)
      have s0 : wk.cell? ⟨R, 0, none⟩ = some (.int .i64 sl) := by rw [cell_row hrk.out]; rfl
      have s1 : wk.cell? ⟨R, 1, none⟩ = some (.int .i64 sr) := by rw [cell_row hrk.out]; rfl
      have s2 : wk.cell? ⟨R, 2, none⟩ = some (.slice A k cap) := by rw [cell_row hrk.out]; rfl
      have s3 : wk.cell? ⟨R, 3, none⟩ = some (.slice A2 kn kc) := by rw [cell_row hrk.out]; rfl
      go_wp2_with fail
      clear s0 s1 s2 s3 hrk
      have HB9 := HBl
      clear HBl
      go_loopw [5, 6] (fun i j wr => ∃ a : Nat, a ≤ k ∧ i = .int .i64 (a : Int) ∧ Hid ((zs.take a).Nodup ∧ Below w0.heap.size w0 wr)) (fun i j _ => k - (intOf i).toNat)
      case atStart => exact ⟨0, Nat.zero_le _, rfl, Lib.hid ⟨by rw [List.take_zero]; exact List.nodup_nil, HB9.out⟩⟩
      case round =>
        obtain ⟨a, ha9, rfl, HX⟩ := hrel
        obtain ⟨wo, rfl⟩ : ∃ wo, wo = wr := ⟨_, rfl⟩
        have hro := Lib.hid ((HX.out.2.block R (lt_of_block hrow.out)).trans hrow.out)
        have s0 : wo.cell? ⟨R, 0, none⟩ = some (.int .i64 sl) := by rw [cell_row hro.out]; rfl
        have s1 : wo.cell? ⟨R, 1, none⟩ = some (.int .i64 sr) := by rw [cell_row hro.out]; rfl
        have s2 : wo.cell? ⟨R, 2, none⟩ = some (.slice A k cap) := by rw [cell_row hro.out]; rfl
        have s3 : wo.cell? ⟨R, 3, none⟩ = some (.slice A2 kn kc) := by rw [cell_row hro.out]; rfl
        by_cases hla : a < k
        · have da : (a : Int) < (k : Int) := by omega
          go_wp2_with fail
          clear s0 s1 s2 s3 da
          go_loopw [6] (fun j wr => ∃ q : Nat, q ≤ a ∧ j = .int .i64 (q : Int) ∧ Hid ((∀ t, t < q → gAt zs a ≠ gAt zs t) ∧ Below w0.heap.size w0 wr)) (fun j _ => a - (intOf j).toNat)
          case atStart => exact ⟨0, Nat.zero_le _, rfl, Lib.hid ⟨fun t h => by omega, HX.out.2⟩⟩
          case round =>
            obtain ⟨q, hq9, rfl, HV⟩ := hrel
            obtain ⟨wk, rfl⟩ : ∃ wk, wk = wr := ⟨_, rfl⟩
            have HB := Lib.hid HV.out.2
            by_cases hql : q < a
            · have Hst := Lib.hid (fun hh => nodG_stop (zs := zs) (k := a) (j := q) (by rw [HZl.out]; exact hla) hql hh)
              obtain ⟨bz, oz, rfl, hcz⟩ := (S.out.below HB.out (Nat.le_refl _)).2 (by omega)
              have zx := hcz a (by omega)
              have zy := hcz q (by omega)
              obtain ⟨gx, hgx⟩ : ∃ g, gAt zs a = g := ⟨_, rfl⟩
              obtain ⟨gy, hgy⟩ : ∃ g, gAt zs q = g := ⟨_, rfl⟩
              rw [hgx] at zx Hst
              rw [hgy] at zy Hst
              obtain ⟨xl, xh⟩ := gx
              obtain ⟨yl, yh⟩ := gy
              have HGx := Lib.hid hgx
              have HGy := Lib.hid hgy
              simp only at zx zy
              have hrk := (HB.out.block R (lt_of_block hrow.out)).trans hrow.out
              have c00 : wk.cell? ⟨R, 2, none⟩ = some (.slice (some ⟨bz, oz, none⟩) k cap) := by rw [cell_row hrk]; rfl
              have c0 : ∀ w2, Below wk.heap.size wk w2 → w2.cell? ⟨R, 2, none⟩ = some (.slice (some ⟨bz, oz, none⟩) k cap) := fun w2 hb => (hb.cell (lt_of_cell c00)).trans c00
              have gx : ∀ w2, Below wk.heap.size wk w2 → w2.cell? ⟨bz, oz + a * 2, none⟩ = some (.int .i64 xl) ∧ w2.cell? ⟨bz, oz + a * 2 + 1, none⟩ = some (.int .i64 xh) := fun w2 hb => ⟨(hb.cell (lt_of_cell zx.1)).trans zx.1, (hb.cell (lt_of_cell zx.2)).trans zx.2⟩
              have gy : ∀ w2, Below wk.heap.size wk w2 → w2.cell? ⟨bz, oz + q * 2, none⟩ = some (.int .i64 yl) ∧ w2.cell? ⟨bz, oz + q * 2 + 1, none⟩ = some (.int .i64 yh) := fun w2 hb => ⟨(hb.cell (lt_of_cell zy.1)).trans zy.1, (hb.cell (lt_of_cell zy.2)).trans zy.2⟩
              have i0 : (0 : Int) ≤ (a : Int) := by omega
              have i1 : (a : Int) < (k : Int) := by omega
              have i2 : (0 : Int) ≤ (q : Int) := by omega
              have i3 : (q : Int) < (k : Int) := by omega
              clear hcz zx zy hgx hgy hrk c00
              by_cases h1 : xl = yl ∧ xh = yh
              · have HE := Lib.hid (show (⟨xl, xh⟩ : Rg) = ⟨yl, yh⟩ by rw [h1.1, h1.2])
                have d1 : (xl == yl) = true := by rw [beq_iff_eq]; exact h1.1
                have d2 : (xh == yh) = true := by rw [beq_iff_eq]; exact h1.2
                clear h1
                go_wp2_with fail
                refine wp_region_held_drew (S := fun w2 => Below wk.heap.size wk w2) (by kernel_rfl) (drew_b _ _) (fun hS0 => ?_)
                refine wpAnyH_take (i := 0) (oi := { dst := some 75, op := Go.Op.fieldAddr 25 (Go.Operand.tmp 1) 2, type := 0, pos := "ref.go:35", after := #[], guard := none }) (v := .pointer (some ⟨R, 2, none⟩)) rfl (by kernel_rfl) (by kernel_rfl) (by kernel_rfl) (fun _ _ _ h => h) (Or.inl ⟨by rfl, by intro w2 hSw; (try dsimp only at hSw); go_simp⟩) hS0 ?_
                try simp only [Act.put, List.setIfInBounds_toArray, List.set_cons_zero, List.set_cons_succ]
                refine wpAnyH_take (i := 1) (oi := { dst := some 76, op := Go.Op.load 22 (Go.Operand.tmp 75), type := 22, pos := "ref.go:35", after := #[{ on := 0, ground := Go.Ground.data }], guard := none }) (v := .slice (some ⟨bz, oz, none⟩) k cap) rfl (by kernel_rfl) (by kernel_rfl) (by kernel_rfl) (fun _ _ _ h => h) (Or.inl ⟨by rfl, by intro w2 hSw; (try dsimp only at hSw); have z0 := c0 _ hSw; go_simp⟩) hS0 ?_
                try simp only [Act.put, List.setIfInBounds_toArray, List.set_cons_zero, List.set_cons_succ]
                refine wpAnyH_take (i := 2) (oi := { dst := some 77, op := Go.Op.move (Go.Operand.tmp 5), type := 3, pos := "ref.go:35", after := #[], guard := none }) (v := .int .i64 (a : Int)) rfl (by kernel_rfl) (by kernel_rfl) (by kernel_rfl) (fun _ _ _ h => h) (Or.inl ⟨by rfl, by intro w2 hSw; (try dsimp only at hSw); go_simp⟩) hS0 ?_
                try simp only [Act.put, List.setIfInBounds_toArray, List.set_cons_zero, List.set_cons_succ]
                refine wpAnyH_take (i := 3) (oi := { dst := some 78, op := Go.Op.indexAddr 22 (Go.Operand.tmp 76) (Go.Operand.tmp 77), type := 0, pos := "ref.go:35", after := #[{ on := 1, ground := Go.Ground.data }, { on := 2, ground := Go.Ground.data }], guard := none }) (v := .pointer (some ⟨bz, oz + a * 2, none⟩)) rfl (by kernel_rfl) (by kernel_rfl) (by kernel_rfl) (fun _ _ _ h => h) (Or.inl ⟨by rfl, by intro w2 hSw; (try dsimp only at hSw); go_simp⟩) hS0 ?_
                try simp only [Act.put, List.setIfInBounds_toArray, List.set_cons_zero, List.set_cons_succ]
                refine wpAnyH_take (i := 4) (oi := { dst := some 79, op := Go.Op.load 55 (Go.Operand.tmp 78), type := 55, pos := "ref.go:35", after := #[{ on := 3, ground := Go.Ground.data }], guard := none }) (v := .agg #[.int .i64 xl, .int .i64 xh]) rfl (by kernel_rfl) (by kernel_rfl) (by kernel_rfl) (fun _ _ _ h => h) (Or.inl ⟨by rfl, by intro w2 hSw; (try dsimp only at hSw); obtain ⟨z0, z1⟩ := gx _ hSw; go_simp⟩) hS0 ?_
                try simp only [Act.put, List.setIfInBounds_toArray, List.set_cons_zero, List.set_cons_succ]
                refine wpAnyH_take (i := 5) (oi := { dst := some 80, op := Go.Op.fieldAddr 25 (Go.Operand.tmp 1) 2, type := 0, pos := "ref.go:35", after := #[], guard := none }) (v := .pointer (some ⟨R, 2, none⟩)) rfl (by kernel_rfl) (by kernel_rfl) (by kernel_rfl) (fun _ _ _ h => h) (Or.inl ⟨by rfl, by intro w2 hSw; (try dsimp only at hSw); go_simp⟩) hS0 ?_
                try simp only [Act.put, List.setIfInBounds_toArray, List.set_cons_zero, List.set_cons_succ]
                refine wpAnyH_take (i := 6) (oi := { dst := some 81, op := Go.Op.load 22 (Go.Operand.tmp 80), type := 22, pos := "ref.go:35", after := #[{ on := 5, ground := Go.Ground.data }], guard := none }) (v := .slice (some ⟨bz, oz, none⟩) k cap) rfl (by kernel_rfl) (by kernel_rfl) (by kernel_rfl) (fun _ _ _ h => h) (Or.inl ⟨by rfl, by intro w2 hSw; (try dsimp only at hSw); have z0 := c0 _ hSw; go_simp⟩) hS0 ?_
                try simp only [Act.put, List.setIfInBounds_toArray, List.set_cons_zero, List.set_cons_succ]
                refine wpAnyH_take (i := 7) (oi := { dst := some 82, op := Go.Op.move (Go.Operand.tmp 6), type := 3, pos := "ref.go:35", after := #[], guard := none }) (v := .int .i64 (q : Int)) rfl (by kernel_rfl) (by kernel_rfl) (by kernel_rfl) (fun _ _ _ h => h) (Or.inl ⟨by rfl, by intro w2 hSw; (try dsimp only at hSw); go_simp⟩) hS0 ?_
                try simp only [Act.put, List.setIfInBounds_toArray, List.set_cons_zero, List.set_cons_succ]
                refine wpAnyH_take (i := 8) (oi := { dst := some 83, op := Go.Op.indexAddr 22 (Go.Operand.tmp 81) (Go.Operand.tmp 82), type := 0, pos := "ref.go:35", after := #[{ on := 6, ground := Go.Ground.data }, { on := 7, ground := Go.Ground.data }], guard := none }) (v := .pointer (some ⟨bz, oz + q * 2, none⟩)) rfl (by kernel_rfl) (by kernel_rfl) (by kernel_rfl) (fun _ _ _ h => h) (Or.inl ⟨by rfl, by intro w2 hSw; (try dsimp only at hSw); go_simp⟩) hS0 ?_
                try simp only [Act.put, List.setIfInBounds_toArray, List.set_cons_zero, List.set_cons_succ]
                refine wpAnyH_take (i := 9) (oi := { dst := some 84, op := Go.Op.load 55 (Go.Operand.tmp 83), type := 55, pos := "ref.go:35", after := #[{ on := 8, ground := Go.Ground.data }], guard := none }) (v := .agg #[.int .i64 yl, .int .i64 yh]) rfl (by kernel_rfl) (by kernel_rfl) (by kernel_rfl) (fun _ _ _ h => h) (Or.inl ⟨by rfl, by intro w2 hSw; (try dsimp only at hSw); obtain ⟨z0, z1⟩ := gy _ hSw; go_simp⟩) hS0 ?_
                try simp only [Act.put, List.setIfInBounds_toArray, List.set_cons_zero, List.set_cons_succ]
                refine wpAnyH_take (i := 10) (oi := { dst := some 85, op := Go.Op.binOp Go.BinOp.eql 55 (Go.Operand.tmp 79) (Go.Operand.tmp 84) 55, type := 4, pos := "ref.go:35", after := #[{ on := 4, ground := Go.Ground.data }, { on := 9, ground := Go.Ground.data }], guard := none }) (v := .bool true) rfl (by kernel_rfl) (by kernel_rfl) (by kernel_rfl) (fun _ _ _ h => h) (Or.inl ⟨by rfl, by intro w2 hSw; (try dsimp only at hSw); go_simp⟩) hS0 ?_
                try simp only [Act.put, List.setIfInBounds_toArray, List.set_cons_zero, List.set_cons_succ]
                refine wpAnyH_done (by kernel_rfl) ?_ _
                have HBE := Lib.hid (HB.out.trans (hS0.mono HB.out.size))
                clear c0 gx gy hS0
                go_wp2_with fail
                go_ret
                exact ⟨by rw [chk_11 HB0.out H40.out HA.out (Hst.out HE.out)] <;> rfl, B.out.trans (HBE.out.mono B.out.size)⟩
              · have HE := Lib.hid (show ¬ (⟨xl, xh⟩ : Rg) = ⟨yl, yh⟩ from fun e => h1 ⟨by injection e, by injection e⟩)
                have d1 : xl = yl → ¬ xh = yh := fun e e2 => h1 ⟨e, e2⟩
                clear h1
                go_wp2_with fail
                refine wp_region_held_drew (S := fun w2 => Below wk.heap.size wk w2) (by kernel_rfl) (drew_b _ _) (fun hS0 => ?_)
                refine wpAnyH_take (i := 0) (oi := { dst := some 75, op := Go.Op.fieldAddr 25 (Go.Operand.tmp 1) 2, type := 0, pos := "ref.go:35", after := #[], guard := none }) (v := .pointer (some ⟨R, 2, none⟩)) rfl (by kernel_rfl) (by kernel_rfl) (by kernel_rfl) (fun _ _ _ h => h) (Or.inl ⟨by rfl, by intro w2 hSw; (try dsimp only at hSw); go_simp⟩) hS0 ?_
                try simp only [Act.put, List.setIfInBounds_toArray, List.set_cons_zero, List.set_cons_succ]
                refine wpAnyH_take (i := 1) (oi := { dst := some 76, op := Go.Op.load 22 (Go.Operand.tmp 75), type := 22, pos := "ref.go:35", after := #[{ on := 0, ground := Go.Ground.data }], guard := none }) (v := .slice (some ⟨bz, oz, none⟩) k cap) rfl (by kernel_rfl) (by kernel_rfl) (by kernel_rfl) (fun _ _ _ h => h) (Or.inl ⟨by rfl, by intro w2 hSw; (try dsimp only at hSw); have z0 := c0 _ hSw; go_simp⟩) hS0 ?_
                try simp only [Act.put, List.setIfInBounds_toArray, List.set_cons_zero, List.set_cons_succ]
                refine wpAnyH_take (i := 2) (oi := { dst := some 77, op := Go.Op.move (Go.Operand.tmp 5), type := 3, pos := "ref.go:35", after := #[], guard := none }) (v := .int .i64 (a : Int)) rfl (by kernel_rfl) (by kernel_rfl) (by kernel_rfl) (fun _ _ _ h => h) (Or.inl ⟨by rfl, by intro w2 hSw; (try dsimp only at hSw); go_simp⟩) hS0 ?_
                try simp only [Act.put, List.setIfInBounds_toArray, List.set_cons_zero, List.set_cons_succ]
                refine wpAnyH_take (i := 3) (oi := { dst := some 78, op := Go.Op.indexAddr 22 (Go.Operand.tmp 76) (Go.Operand.tmp 77), type := 0, pos := "ref.go:35", after := #[{ on := 1, ground := Go.Ground.data }, { on := 2, ground := Go.Ground.data }], guard := none }) (v := .pointer (some ⟨bz, oz + a * 2, none⟩)) rfl (by kernel_rfl) (by kernel_rfl) (by kernel_rfl) (fun _ _ _ h => h) (Or.inl ⟨by rfl, by intro w2 hSw; (try dsimp only at hSw); go_simp⟩) hS0 ?_
                try simp only [Act.put, List.setIfInBounds_toArray, List.set_cons_zero, List.set_cons_succ]
                refine wpAnyH_take (i := 4) (oi := { dst := some 79, op := Go.Op.load 55 (Go.Operand.tmp 78), type := 55, pos := "ref.go:35", after := #[{ on := 3, ground := Go.Ground.data }], guard := none }) (v := .agg #[.int .i64 xl, .int .i64 xh]) rfl (by kernel_rfl) (by kernel_rfl) (by kernel_rfl) (fun _ _ _ h => h) (Or.inl ⟨by rfl, by intro w2 hSw; (try dsimp only at hSw); obtain ⟨z0, z1⟩ := gx _ hSw; go_simp⟩) hS0 ?_
                try simp only [Act.put, List.setIfInBounds_toArray, List.set_cons_zero, List.set_cons_succ]
                refine wpAnyH_take (i := 5) (oi := { dst := some 80, op := Go.Op.fieldAddr 25 (Go.Operand.tmp 1) 2, type := 0, pos := "ref.go:35", after := #[], guard := none }) (v := .pointer (some ⟨R, 2, none⟩)) rfl (by kernel_rfl) (by kernel_rfl) (by kernel_rfl) (fun _ _ _ h => h) (Or.inl ⟨by rfl, by intro w2 hSw; (try dsimp only at hSw); go_simp⟩) hS0 ?_
                try simp only [Act.put, List.setIfInBounds_toArray, List.set_cons_zero, List.set_cons_succ]
                refine wpAnyH_take (i := 6) (oi := { dst := some 81, op := Go.Op.load 22 (Go.Operand.tmp 80), type := 22, pos := "ref.go:35", after := #[{ on := 5, ground := Go.Ground.data }], guard := none }) (v := .slice (some ⟨bz, oz, none⟩) k cap) rfl (by kernel_rfl) (by kernel_rfl) (by kernel_rfl) (fun _ _ _ h => h) (Or.inl ⟨by rfl, by intro w2 hSw; (try dsimp only at hSw); have z0 := c0 _ hSw; go_simp⟩) hS0 ?_
                try simp only [Act.put, List.setIfInBounds_toArray, List.set_cons_zero, List.set_cons_succ]
                refine wpAnyH_take (i := 7) (oi := { dst := some 82, op := Go.Op.move (Go.Operand.tmp 6), type := 3, pos := "ref.go:35", after := #[], guard := none }) (v := .int .i64 (q : Int)) rfl (by kernel_rfl) (by kernel_rfl) (by kernel_rfl) (fun _ _ _ h => h) (Or.inl ⟨by rfl, by intro w2 hSw; (try dsimp only at hSw); go_simp⟩) hS0 ?_
                try simp only [Act.put, List.setIfInBounds_toArray, List.set_cons_zero, List.set_cons_succ]
                refine wpAnyH_take (i := 8) (oi := { dst := some 83, op := Go.Op.indexAddr 22 (Go.Operand.tmp 81) (Go.Operand.tmp 82), type := 0, pos := "ref.go:35", after := #[{ on := 6, ground := Go.Ground.data }, { on := 7, ground := Go.Ground.data }], guard := none }) (v := .pointer (some ⟨bz, oz + q * 2, none⟩)) rfl (by kernel_rfl) (by kernel_rfl) (by kernel_rfl) (fun _ _ _ h => h) (Or.inl ⟨by rfl, by intro w2 hSw; (try dsimp only at hSw); go_simp⟩) hS0 ?_
                try simp only [Act.put, List.setIfInBounds_toArray, List.set_cons_zero, List.set_cons_succ]
                refine wpAnyH_take (i := 9) (oi := { dst := some 84, op := Go.Op.load 55 (Go.Operand.tmp 83), type := 55, pos := "ref.go:35", after := #[{ on := 8, ground := Go.Ground.data }], guard := none }) (v := .agg #[.int .i64 yl, .int .i64 yh]) rfl (by kernel_rfl) (by kernel_rfl) (by kernel_rfl) (fun _ _ _ h => h) (Or.inl ⟨by rfl, by intro w2 hSw; (try dsimp only at hSw); obtain ⟨z0, z1⟩ := gy _ hSw; go_simp⟩) hS0 ?_
                try simp only [Act.put, List.setIfInBounds_toArray, List.set_cons_zero, List.set_cons_succ]
                refine wpAnyH_take (i := 10) (oi := { dst := some 85, op := Go.Op.binOp Go.BinOp.eql 55 (Go.Operand.tmp 79) (Go.Operand.tmp 84) 55, type := 4, pos := "ref.go:35", after := #[{ on := 4, ground := Go.Ground.data }, { on := 9, ground := Go.Ground.data }], guard := none }) (v := .bool false) rfl (by kernel_rfl) (by kernel_rfl) (by kernel_rfl) (fun _ _ _ h => h) (Or.inl ⟨by rfl, by intro w2 hSw; (try dsimp only at hSw); go_simp; (try exact d1)⟩) hS0 ?_
                try simp only [Act.put, List.setIfInBounds_toArray, List.set_cons_zero, List.set_cons_succ]
                refine wpAnyH_done (by kernel_rfl) ?_ _
                have HBE := Lib.hid (HB.out.trans (hS0.mono HB.out.size))
                clear c0 gx gy hS0
                go_wp2_with fail
                go_roundw
                case rel => exact ⟨q + 1, by omega, by go_num, Lib.hid ⟨fun t ht => by
                  rcases Nat.lt_or_ge t q with h | h
                  · exact HV.out.1 t h
                  · obtain rfl : t = q := by omega
                    rw [HGx.out, HGy.out]; exact HE.out, HBE.out⟩⟩
                case measure => simp [intOf]; omega
            · obtain rfl : q = a := by omega
              go_wp2_with fail
              go_roundw
              case rel => exact ⟨q + 1, by omega, by go_num, Lib.hid ⟨(nodG_step (by rw [HZl.out]; exact hla)).2 ⟨HX.out.1, HV.out.1⟩, HB.out⟩⟩
              case measure => simp [intOf]; omega
        · obtain rfl : a = k := by omega
          have HD := Lib.hid (show zs.Nodup by have := HX.out.1; rwa [List.take_of_length_le (by rw [HZl.out]; exact Nat.le_refl _)] at this)
          have HB := Lib.hid HX.out.2
          have k6 := rising43 A2 kn kc ks (a : Int) wo (Y.out.below HB.out (Nat.le_refl _)) (by omega)
          obtain ⟨ri, hri⟩ : ∃ ri, risI (a : Int) ks = ri := ⟨_, rfl⟩
          rw [hri] at k6
          have K6 := Lib.hid k6
          have Hri := Lib.hid hri
          clear k6 hri
          go_wp2_with fail
          refine K6.out.mono ?_
          rintro en w6 ⟨rfl, hb6⟩
          have HB6 := Lib.hid (HB.out.trans (hb6.mono HB.out.size))
          have hr6 := Lib.hid ((hb6.block R (lt_of_block hro.out)).trans hro.out)
          clear K6 hb6 s0 s1 s2 s3
          cases ri with
          | false =>
            go_wp2_with fail
            go_ret
            exact ⟨by rw [chk_16 HB0.out H40.out HA.out HD.out (by rw [HZl.out, Hri.out]; rfl)] <;> rfl, B.out.trans (HB6.out.mono B.out.size)⟩
          | true =>
            have k7 := single48 sl sr A a cap zs A2 kn kc A2 kn kc ks w6 (S.out.below HB6.out (Nat.le_refl _)) (Y.out.below HB6.out (Nat.le_refl _)) (ris_in Hri.out HNl.out) hn hk
            obtain ⟨ab, hab⟩ : ∃ ab, apB zs ks = ab := ⟨_, rfl⟩
            rw [hab] at k7
            have K7 := Lib.hid k7
            have Hab := Lib.hid hab
            clear k7 hab
            have s0 : w6.cell? ⟨R, 0, none⟩ = some (.int .i64 sl) := by rw [cell_row hr6.out]; rfl
            have s1 : w6.cell? ⟨R, 1, none⟩ = some (.int .i64 sr) := by rw [cell_row hr6.out]; rfl
            have s2 : w6.cell? ⟨R, 2, none⟩ = some (.slice A a cap) := by rw [cell_row hr6.out]; rfl
            have s3 : w6.cell? ⟨R, 3, none⟩ = some (.slice A2 kn kc) := by rw [cell_row hr6.out]; rfl
            go_wp2_with fail
            refine K7.out.mono ?_
            rintro en w7 ⟨rfl, hb7⟩
            have HB7 := Lib.hid (B.out.trans ((HB6.out.trans (hb7.mono HB6.out.size)).mono B.out.size))
            clear K7 hb7
            cases ab with
            | false =>
              go_wp2_with fail
              go_ret
              exact ⟨by rw [chk_16 HB0.out H40.out HA.out HD.out (by rw [HZl.out, Hri.out, Hab.out]; rfl)] <;> rfl, HB7.out⟩
            | true =>
              go_wp2_with fail
              go_ret
              exact ⟨by rw [chk_0 HB0.out H40.out HA.out HD.out (by rw [HZl.out, Hri.out, Hab.out]; rfl)] <;> rfl, HB7.out⟩
end
end Go.Proofs.Ytnodkgejggnehaa

namespace Go.Proofs.Ytnodkgejggnehaa
set_option linter.unusedSimpArgs false
set_option linter.unusedVariables false
open Go.RowKit Go.Shelf
theorem subI_tk {a b : List Int} {k : Nat} (hk : k < b.length) : subI a (b.take (k + 1)) = (subI a (b.take k) && decide (iAt b k ∈ a)) := all_take _ b k 0 hk
theorem subI_st {a b : List Int} {k : Nat} (hk : k < b.length) (h : decide (iAt b k ∈ a) = false) : subI a b = false := all_stop _ b k 0 hk h
section
variable {sl sr : Int} {zs : List Rg} {ks js : List Int}
theorem chj_c {c : Int} (h : chkS sl sr zs ks = c) (h0 : c ≠ 0) : chkJ sl sr zs ks js = c := by unfold chkJ; rw [h, if_pos h0]
theorem chj_3 (h : chkS sl sr zs ks = 0) (h1 : risI (zs.length : Int) js = false) : chkJ sl sr zs ks js = 3 := by unfold chkJ; rw [h, if_neg (by simp), if_pos h1]
theorem chj_16 (h : chkS sl sr zs ks = 0) (h1 : risI (zs.length : Int) js = true) (h2 : (apB zs js && subI js ks) = false) : chkJ sl sr zs ks js = 16 := by unfold chkJ; rw [h, if_neg (by simp), h1, if_neg (by simp), if_pos h2]
theorem chj_0 (h : chkS sl sr zs ks = 0) (h1 : risI (zs.length : Int) js = true) (h2 : (apB zs js && subI js ks) = true) : chkJ sl sr zs ks js = 0 := by unfold chkJ; rw [h, if_neg (by simp), h1, if_neg (by simp), h2, if_neg (by simp)]
end
section
attribute [local go_sem ↓] exec_app at_app
attribute [local go_sem] Oper.semAt_some
set_option maxRecDepth 100000 in
set_option maxHeartbeats 4000000 in
theorem checkJoining21 (sl sr : Int) (A : Option Addr) (n cap : Nat) (zs : List Rg) (A2 : Option Addr) (kn kc : Nat) (ks : List Int) (A3 : Option Addr) (m mc : Nat) (js : List Int) (w : World) (h : Rgs w A n zs) (hI : Ints w A2 kn ks) (hJ : Ints w A3 m js) (hn : n ≤ 1000000) (hk : kn ≤ 100000) (hm : m ≤ 100000) :
    Calls Try.prog 21 #[.agg #[.int .i64 sl, .int .i64 sr, .slice A n cap, .slice A2 kn kc], .slice A3 m mc] w fun e w' => e = .returned (.int .i64 (chkJ sl sr zs ks js)) ∧ Below w.heap.size w w' := by
  have hb0 := below_alloc_ w (.cells #[.int .i64 sl, .int .i64 sr, .slice A n cap, .slice A2 kn kc] 25)
  have hr0 := heap_alloc_new_ w (.cells #[.int .i64 sl, .int .i64 sr, .slice A n cap, .slice A2 kn kc] 25)
  obtain ⟨w0, hW0⟩ : ∃ w0, w.alloc (.cells #[.int .i64 sl, .int .i64 sr, .slice A n cap, .slice A2 kn kc] 25) = w0 := ⟨_, rfl⟩
  obtain ⟨R, hR⟩ : ∃ R, w.heap.size = R := ⟨_, rfl⟩
  rw [hW0] at hb0 hr0
  rw [hR] at hr0
  have HZl := Lib.hid h.1
  have S := Lib.hid (h.below hb0 (Nat.le_refl _))
  have HNl := Lib.hid hI.1
  have Y := Lib.hid (hI.below hb0 (Nat.le_refl _))
  have HJl := Lib.hid hJ.1
  have X := Lib.hid (hJ.below hb0 (Nat.le_refl _))
  have B := Lib.hid hb0
  have HW0 := Lib.hid hW0
  have HR := Lib.hid hR
  have hrow := Lib.hid hr0
  clear h hI hJ hb0 hr0 hW0 hR
  go_enter Try.func21, Try.ntmps21
  go_wp2_with fail
  rw [HW0.out]
  try rw [HR.out]
  have s0 : w0.cell? ⟨R, 0, none⟩ = some (.int .i64 sl) := by rw [cell_row hrow.out]; rfl
  have s1 : w0.cell? ⟨R, 1, none⟩ = some (.int .i64 sr) := by rw [cell_row hrow.out]; rfl
  have s2 : w0.cell? ⟨R, 2, none⟩ = some (.slice A n cap) := by rw [cell_row hrow.out]; rfl
  have s3 : w0.cell? ⟨R, 3, none⟩ = some (.slice A2 kn kc) := by rw [cell_row hrow.out]; rfl
  obtain ⟨c0, hc0⟩ : ∃ c0, chkS sl sr zs ks = c0 := ⟨_, rfl⟩
  have K0 := Lib.hid (fun W (hS : Rgs W A n zs) (hY : Ints W A2 kn ks) => checkSheet19 sl sr A n cap zs A2 kn kc ks W hS hY hn hk)
  rw [hc0] at K0
  have HC := Lib.hid hc0
  clear hc0
  try go_wp2_with fail
  refine (K0.out _ S.out Y.out).mono ?_
  rintro en w1 ⟨rfl, hb1⟩
  have hr1 := Lib.hid ((hb1.block R (lt_of_block hrow.out)).trans hrow.out)
  replace S := Lib.hid (S.out.below hb1 (Nat.le_refl _))
  replace Y := Lib.hid (Y.out.below hb1 (Nat.le_refl _))
  replace X := Lib.hid (X.out.below hb1 (Nat.le_refl _))
  replace B := Lib.hid (B.out.trans (hb1.mono B.out.size))
  clear hb1 s0 s1 s2 s3
  have s0 : w1.cell? ⟨R, 0, none⟩ = some (.int .i64 sl) := by rw [cell_row hr1.out]; rfl
  have s1 : w1.cell? ⟨R, 1, none⟩ = some (.int .i64 sr) := by rw [cell_row hr1.out]; rfl
  have s2 : w1.cell? ⟨R, 2, none⟩ = some (.slice A n cap) := by rw [cell_row hr1.out]; rfl
  have s3 : w1.cell? ⟨R, 3, none⟩ = some (.slice A2 kn kc) := by rw [cell_row hr1.out]; rfl
  by_cases h0 : c0 = 0
  rotate_left
  · have d0 : (c0 != 0) = true := by rw [bne_iff_ne]; exact h0
    have H0 := Lib.hid h0
    clear h0
    go_wp2_with fail
    refine (K0.out _ S.out Y.out).mono ?_
    rintro en w2 ⟨rfl, hb2⟩
    have HB2 := Lib.hid (B.out.trans (hb2.mono B.out.size))
    clear hb2
    go_wp2_with fail
    go_ret
    exact ⟨by rw [chj_c HC.out H0.out] <;> rfl, HB2.out⟩
  subst h0
  clear K0
  have k1 := rising43 A3 m mc js (n : Int) w1 X.out (by omega)
  obtain ⟨ri, hri⟩ : ∃ ri, risI (n : Int) js = ri := ⟨_, rfl⟩
  rw [hri] at k1
  have K1 := Lib.hid k1
  have Hri := Lib.hid hri
  clear k1 hri
  go_wp2_with fail
  refine K1.out.mono ?_
  rintro en w2 ⟨rfl, hb2⟩
  have hr2 := Lib.hid ((hb2.block R (lt_of_block hr1.out)).trans hr1.out)
  replace S := Lib.hid (S.out.below hb2 (Nat.le_refl _))
  replace Y := Lib.hid (Y.out.below hb2 (Nat.le_refl _))
  replace X := Lib.hid (X.out.below hb2 (Nat.le_refl _))
  replace B := Lib.hid (B.out.trans (hb2.mono B.out.size))
  clear K1 hb2 s0 s1 s2 s3
  rcases ri with _ | _
  · go_wp2_with fail
    go_ret
    exact ⟨by rw [chj_3 HC.out (by rw [HZl.out]; exact Hri.out)] <;> rfl, B.out⟩
  have k2 := single48 sl sr A n cap zs A2 kn kc A3 m mc js w2 S.out X.out (ris_in Hri.out HJl.out) hn hm
  obtain ⟨ab, hab⟩ : ∃ ab, apB zs js = ab := ⟨_, rfl⟩
  rw [hab] at k2
  have K2 := Lib.hid k2
  have Hab := Lib.hid hab
  clear k2 hab
  have s0 : w2.cell? ⟨R, 0, none⟩ = some (.int .i64 sl) := by rw [cell_row hr2.out]; rfl
  have s1 : w2.cell? ⟨R, 1, none⟩ = some (.int .i64 sr) := by rw [cell_row hr2.out]; rfl
  have s2 : w2.cell? ⟨R, 2, none⟩ = some (.slice A n cap) := by rw [cell_row hr2.out]; rfl
  have s3 : w2.cell? ⟨R, 3, none⟩ = some (.slice A2 kn kc) := by rw [cell_row hr2.out]; rfl
  go_wp2_with fail
  refine K2.out.mono ?_
  rintro en w3 ⟨rfl, hb3⟩
  have hr3 := Lib.hid ((hb3.block R (lt_of_block hr2.out)).trans hr2.out)
  replace Y := Lib.hid (Y.out.below hb3 (Nat.le_refl _))
  replace X := Lib.hid (X.out.below hb3 (Nat.le_refl _))
  replace B := Lib.hid (B.out.trans (hb3.mono B.out.size))
  clear K2 hb3 s0 s1 s2 s3
  rcases ab with _ | _
  · go_wp2_with fail
    go_ret
    exact ⟨by rw [chj_16 HC.out (by rw [HZl.out]; exact Hri.out) (by rw [Hab.out]; rfl)] <;> rfl, B.out⟩
  go_wp2_with fail
  go_loopw [5] (fun i wr => ∃ k : Nat, k ≤ kn ∧ i = .int .i64 (k : Int) ∧ Hid (subI js (ks.take k) = true) ∧ wr = w3) (fun i _ => kn - (intOf i).toNat)
  case atStart => exact ⟨0, Nat.zero_le _, rfl, Lib.hid rfl, rfl⟩
  case round =>
    obtain ⟨k, hk9, rfl, Hw, rfl⟩ := hrel
    have s0 : wr.cell? ⟨R, 0, none⟩ = some (.int .i64 sl) := by rw [cell_row hr3.out]; rfl
    have s1 : wr.cell? ⟨R, 1, none⟩ = some (.int .i64 sr) := by rw [cell_row hr3.out]; rfl
    have s2 : wr.cell? ⟨R, 2, none⟩ = some (.slice A n cap) := by rw [cell_row hr3.out]; rfl
    have s3 : wr.cell? ⟨R, 3, none⟩ = some (.slice A2 kn kc) := by rw [cell_row hr3.out]; rfl
    by_cases hlt : k < kn
    · obtain ⟨bk, ok, rfl, hck⟩ := Y.out.2 (by omega)
      have z0 := hck k hlt
      have Hs := Lib.hid (subI_tk (a := js) (b := ks) (k := k) (by rw [HNl.out]; exact hlt))
      have Hf := Lib.hid (fun h => subI_st (a := js) (b := ks) (k := k) (by rw [HNl.out]; exact hlt) h)
      obtain ⟨x, hx⟩ : ∃ x, iAt ks k = x := ⟨_, rfl⟩
      rw [hx] at z0 Hs Hf
      have i0 : (0 : Int) ≤ (k : Int) := by omega
      have i1 : (k : Int) < (kn : Int) := by omega
      have k4 := in34 A3 m mc js x wr X.out (by omega)
      obtain ⟨bi, hbi⟩ : ∃ bi, decide (x ∈ js) = bi := ⟨_, rfl⟩
      rw [hbi] at k4 Hs Hf
      have K4 := Lib.hid k4
      clear k4 hbi hck hx
      go_wp2_with fail
      refine K4.out.mono ?_
      rintro en w4 ⟨rfl, rfl⟩
      clear K4
      cases bi with
      | false =>
        go_wp2_with fail
        go_ret
        exact ⟨by rw [chj_16 HC.out (by rw [HZl.out]; exact Hri.out) (by rw [Hab.out, Hf.out (by trivial)]; rfl)] <;> rfl, B.out⟩
      | true =>
        go_wp2_with fail
        go_roundw
        case rel => exact ⟨k + 1, by omega, by go_num, Lib.hid (by rw [Hs.out, Hw.out]; rfl), by first | trivial | rfl⟩
        case measure => simp [intOf]; omega
    · have HA := Lib.hid (show subI js ks = true by have := Hw.out; rwa [List.take_of_length_le (by rw [HNl.out]; omega)] at this)
      go_wp2_with fail
      go_ret
      exact ⟨by rw [chj_0 HC.out (by rw [HZl.out]; exact Hri.out) (by rw [Hab.out, HA.out]; rfl)] <;> rfl, B.out⟩
end
end Go.Proofs.Ytnodkgejggnehaa
