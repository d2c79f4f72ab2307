/- Stage 5: the size of a cover (the document). -/
import Derived.Test.YtnodkgejggnehaaDj
namespace Go.Proofs.Ytnodkgejggnehaa
set_option linter.unusedSimpArgs false
set_option linter.unusedVariables false
open Go.RowKit Go.Shelf
/-- A link has an item in common with one of some links. -/
def tkG (zs : List Rg) (ks : List Int) (g : Rg) (q : Nat) : Bool := (ks.take q).any fun x => meB g (gAt zs x.toNat)
def tkB (zs : List Rg) (ks : List Int) (k : Nat) : Bool := ks.any fun x => meB (gAt zs k) (gAt zs x.toNat)
theorem tkG_succ {zs : List Rg} {ks : List Int} {g : Rg} {q : Nat} (hq : q < ks.length) : tkG zs ks g (q + 1) = (tkG zs ks g q || meB g (nmG zs ks q)) := by
  unfold tkG nmG
  rw [List.take_succ_eq_append_getElem hq, List.any_append, iAt_eq hq]
  simp
theorem tkG_stop {zs : List Rg} {ks : List Int} {k q : Nat} (hq : q < ks.length) (h : meB (gAt zs k) (nmG zs ks q) = true) : tkB zs ks k = true := by
  unfold tkB
  rw [List.any_eq_true]
  exact ⟨ks[q], List.getElem_mem hq, by unfold nmG at h; rwa [iAt_eq hq] at h⟩
section
attribute [local go_sem ↓] exec_app at_app
attribute [local go_sem] Oper.semAt_some
set_option maxRecDepth 100000 in
set_option maxHeartbeats 4000000 in
theorem taken44 (sl sr : Int) (A : Option Addr) (n cap : Nat) (zs : List Rg) (A2 : Option Addr) (kn kc : Nat) (ks : List Int) (k : Nat) (w : World) (h : Rgs w A n zs) (hI : Ints w A2 kn ks) (hin : ∀ j, j < kn → 0 ≤ iAt ks j ∧ iAt ks j < (n : Int)) (hkn : k < n) (hn : n ≤ 1000000) (hm : kn ≤ 100000) :
    Calls Try.prog 44 #[.agg #[.int .i64 sl, .int .i64 sr, .slice A n cap, .slice A2 kn kc], .int .i64 (k : Int)] w fun e w' => e = .returned (.bool (tkB zs ks k)) ∧ Below w.heap.size w w' := by
  have hb0 := below_alloc_ w (.cells #[.int .i64 sl, .int .i64 sr, .slice A n cap, .slice A2 kn kc] 25)
  have hr0 := heap_alloc_new_ w (.cells #[.int .i64 sl, .int .i64 sr, .slice A n cap, .slice A2 kn kc] 25)
  obtain ⟨w0, hW0⟩ : ∃ w0, w.alloc (.cells #[.int .i64 sl, .int .i64 sr, .slice A n cap, .slice A2 kn kc] 25) = w0 := ⟨_, rfl⟩
  obtain ⟨R, hR⟩ : ∃ R, w.heap.size = R := ⟨_, rfl⟩
  rw [hW0] at hb0 hr0
  rw [hR] at hr0
  have HZl := Lib.hid h.1
  have S := Lib.hid (h.below hb0 (Nat.le_refl _))
  have HNl := Lib.hid hI.1
  have Y := Lib.hid (hI.below hb0 (Nat.le_refl _))
  have Hin := Lib.hid hin
  have B := Lib.hid hb0
  have HW0 := Lib.hid hW0
  have HR := Lib.hid hR
  have hrow := Lib.hid hr0
  clear h hI hb0 hr0 hW0 hR
  go_enter Try.func44, Try.ntmps44
  go_wp2_with fail
  rw [HW0.out]
  try rw [HR.out]
  try go_wp2_with fail
  clear hin
  obtain ⟨gx, hgx⟩ : ∃ g, gAt zs k = g := ⟨_, rfl⟩
  have HGx := Lib.hid hgx
  obtain ⟨xl, xh⟩ := gx
  clear hgx
  go_loopw [5] (fun j wr => ∃ q : Nat, q ≤ kn ∧ j = .int .i64 (q : Int) ∧ Hid (tkG zs ks ⟨xl, xh⟩ q = false ∧ Below w0.heap.size w0 wr)) (fun j _ => kn - (intOf j).toNat)
  case atStart => exact ⟨0, Nat.zero_le _, rfl, Lib.hid ⟨by unfold tkG; rw [List.take_zero]; rfl, Below.refl _ _⟩⟩
  case round =>
    obtain ⟨q, hq9, rfl, HV⟩ := hrel
    obtain ⟨wk, rfl⟩ : ∃ wk, wk = wr := ⟨_, rfl⟩
    have HB := Lib.hid HV.out.2
    have hrk := (HB.out.block R (lt_of_block hrow.out)).trans hrow.out
    have c33 : wk.cell? ⟨R, 3, none⟩ = some (.slice A2 kn kc) := by rw [cell_row hrk]; rfl
    by_cases hql : q < kn
    · obtain ⟨bj, oj, rfl, hcj⟩ := (Y.out.below HB.out (Nat.le_refl _)).2 (by omega)
      have cy0 := hcj q hql
      have hy9 := Hin.out q hql
      have Hst := Lib.hid (fun hh => tkG_stop (zs := zs) (ks := ks) (k := k) (q := q) (by rw [HNl.out]; exact hql) hh)
      have Hsu := Lib.hid (tkG_succ (zs := zs) (ks := ks) (g := ⟨xl, xh⟩) (q := q) (by rw [HNl.out]; exact hql))
      have HNy := Lib.hid (show nmG zs ks q = gAt zs (iAt ks q).toNat from rfl)
      obtain ⟨iy, hiy⟩ : ∃ iy, iAt ks q = iy := ⟨_, rfl⟩
      have cy1 := cy0
      rw [hiy] at cy1 hy9
      obtain ⟨ay, rfl⟩ : ∃ ay : Nat, iy = (ay : Int) := ⟨iy.toNat, by omega⟩
      obtain ⟨bz, oz, rfl, hcz⟩ := (S.out.below HB.out (Nat.le_refl _)).2 (by omega)
      have zx := hcz k hkn
      have zy := hcz ay (by omega)
      have HGy := Lib.hid (show nmG zs ks q = gAt zs ay by rw [HNy.out, hiy]; rfl)
      obtain ⟨gy, hgy⟩ : ∃ g, gAt zs ay = g := ⟨_, rfl⟩
      rw [HGx.out] at zx
      rw [hgy] at zy HGy
      obtain ⟨yl, yh⟩ := gy
      simp only at zx zy
      have c00 : wk.cell? ⟨R, 2, none⟩ = some (.slice (some ⟨bz, oz, none⟩) n cap) := by rw [cell_row hrk]; rfl
      have c0 : ∀ w2, Below wk.heap.size wk w2 → w2.cell? ⟨R, 2, none⟩ = some (.slice (some ⟨bz, oz, none⟩) n cap) := fun w2 hb => (hb.cell (lt_of_cell c00)).trans c00
      have c3 : ∀ w2, Below wk.heap.size wk w2 → w2.cell? ⟨R, 3, none⟩ = some (.slice (some ⟨bj, oj, none⟩) kn kc) := fun w2 hb => (hb.cell (lt_of_cell c33)).trans c33
      have cy : ∀ w2, Below wk.heap.size wk w2 → w2.cell? ⟨bj, oj + q, none⟩ = some (.int .i64 (ay : Int)) := fun w2 hb => (hb.cell (lt_of_cell cy1)).trans cy1
      have gx : ∀ w2, Below wk.heap.size wk w2 → w2.cell? ⟨bz, oz + k * 2, none⟩ = some (.int .i64 xl) ∧ w2.cell? ⟨bz, oz + k * 2 + 1, none⟩ = some (.int .i64 xh) := fun w2 hb => ⟨(hb.cell (lt_of_cell zx.1)).trans zx.1, (hb.cell (lt_of_cell zx.2)).trans zx.2⟩
      have gy : ∀ w2, Below wk.heap.size wk w2 → w2.cell? ⟨bz, oz + ay * 2, none⟩ = some (.int .i64 yl) ∧ w2.cell? ⟨bz, oz + ay * 2 + 1, none⟩ = some (.int .i64 yh) := fun w2 hb => ⟨(hb.cell (lt_of_cell zy.1)).trans zy.1, (hb.cell (lt_of_cell zy.2)).trans zy.2⟩
      obtain ⟨mb, hmb⟩ : ∃ mb, meB ⟨xl, xh⟩ ⟨yl, yh⟩ = mb := ⟨_, rfl⟩
      have HMe := Lib.hid hmb
      have i0 : (0 : Int) ≤ (k : Int) := by omega
      have i1 : (k : Int) < (n : Int) := by omega
      have i2 : (0 : Int) ≤ (q : Int) := by omega
      have i3 : (q : Int) < (kn : Int) := by omega
      have i6 : (0 : Int) ≤ (ay : Int) := by omega
      have i7 : (ay : Int) < (n : Int) := by omega
      clear hcj hcz cy0 cy1 hiy zx zy hgy hrk c00 hmb hy9 HNy
      go_wp2_with fail
      refine wp_region_held_drew (S := fun w2 => Below wk.heap.size wk w2) (by kernel_rfl) (drew_b _ _) (fun hS0 => ?_)
      refine wpAnyH_take (i := 0) (oi := { dst := some 13, op := Go.Op.fieldAddr 25 (Go.Operand.tmp 2) 2, type := 0, pos := "ref.go:90", after := #[], guard := none }) (v := .pointer (some ⟨R, 2, none⟩)) rfl (by kernel_rfl) (by kernel_rfl) (by kernel_rfl) (fun _ _ _ h => h) (Or.inl ⟨by rfl, by intro w2 hSw; (try dsimp only at hSw); go_simp⟩) hS0 ?_
      try simp only [Act.put, List.setIfInBounds_toArray, List.set_cons_zero, List.set_cons_succ]
      refine wpAnyH_take (i := 1) (oi := { dst := some 14, op := Go.Op.load 22 (Go.Operand.tmp 13), type := 22, pos := "ref.go:90", after := #[{ on := 0, ground := Go.Ground.data }], guard := none }) (v := .slice (some ⟨bz, oz, none⟩) n cap) rfl (by kernel_rfl) (by kernel_rfl) (by kernel_rfl) (fun _ _ _ h => h) (Or.inl ⟨by rfl, by intro w2 hSw; (try dsimp only at hSw); have z0 := c0 _ hSw; go_simp⟩) hS0 ?_
      try simp only [Act.put, List.setIfInBounds_toArray, List.set_cons_zero, List.set_cons_succ]
      refine wpAnyH_take (i := 2) (oi := { dst := some 15, op := Go.Op.move (Go.Operand.tmp 1), type := 3, pos := "ref.go:90", after := #[], guard := none }) (v := .int .i64 (k : Int)) rfl (by kernel_rfl) (by kernel_rfl) (by kernel_rfl) (fun _ _ _ h => h) (Or.inl ⟨by rfl, by intro w2 hSw; (try dsimp only at hSw); go_simp⟩) hS0 ?_
      try simp only [Act.put, List.setIfInBounds_toArray, List.set_cons_zero, List.set_cons_succ]
      refine wpAnyH_take (i := 3) (oi := { dst := some 16, op := Go.Op.indexAddr 22 (Go.Operand.tmp 14) (Go.Operand.tmp 15), type := 0, pos := "ref.go:90", after := #[{ on := 1, ground := Go.Ground.data }, { on := 2, ground := Go.Ground.data }], guard := none }) (v := .pointer (some ⟨bz, oz + k * 2, none⟩)) rfl (by kernel_rfl) (by kernel_rfl) (by kernel_rfl) (fun _ _ _ h => h) (Or.inl ⟨by rfl, by intro w2 hSw; (try dsimp only at hSw); go_simp⟩) hS0 ?_
      try simp only [Act.put, List.setIfInBounds_toArray, List.set_cons_zero, List.set_cons_succ]
      refine wpAnyH_take (i := 4) (oi := { dst := some 17, op := Go.Op.load 55 (Go.Operand.tmp 16), type := 55, pos := "ref.go:90", after := #[{ on := 3, ground := Go.Ground.data }], guard := none }) (v := .agg #[.int .i64 xl, .int .i64 xh]) rfl (by kernel_rfl) (by kernel_rfl) (by kernel_rfl) (fun _ _ _ h => h) (Or.inl ⟨by rfl, by intro w2 hSw; (try dsimp only at hSw); obtain ⟨z0, z1⟩ := gx _ hSw; go_simp⟩) hS0 ?_
      try simp only [Act.put, List.setIfInBounds_toArray, List.set_cons_zero, List.set_cons_succ]
      refine wpAnyH_take (i := 5) (oi := { dst := some 18, op := Go.Op.fieldAddr 25 (Go.Operand.tmp 2) 2, type := 0, pos := "ref.go:90", after := #[], guard := none }) (v := .pointer (some ⟨R, 2, none⟩)) rfl (by kernel_rfl) (by kernel_rfl) (by kernel_rfl) (fun _ _ _ h => h) (Or.inl ⟨by rfl, by intro w2 hSw; (try dsimp only at hSw); go_simp⟩) hS0 ?_
      try simp only [Act.put, List.setIfInBounds_toArray, List.set_cons_zero, List.set_cons_succ]
      refine wpAnyH_take (i := 6) (oi := { dst := some 19, op := Go.Op.load 22 (Go.Operand.tmp 18), type := 22, pos := "ref.go:90", after := #[{ on := 5, ground := Go.Ground.data }], guard := none }) (v := .slice (some ⟨bz, oz, none⟩) n cap) rfl (by kernel_rfl) (by kernel_rfl) (by kernel_rfl) (fun _ _ _ h => h) (Or.inl ⟨by rfl, by intro w2 hSw; (try dsimp only at hSw); have z0 := c0 _ hSw; go_simp⟩) hS0 ?_
      try simp only [Act.put, List.setIfInBounds_toArray, List.set_cons_zero, List.set_cons_succ]
      refine wpAnyH_take (i := 7) (oi := { dst := some 20, op := Go.Op.fieldAddr 25 (Go.Operand.tmp 2) 3, type := 0, pos := "ref.go:90", after := #[], guard := none }) (v := .pointer (some ⟨R, 3, none⟩)) rfl (by kernel_rfl) (by kernel_rfl) (by kernel_rfl) (fun _ _ _ h => h) (Or.inl ⟨by rfl, by intro w2 hSw; (try dsimp only at hSw); go_simp⟩) hS0 ?_
      try simp only [Act.put, List.setIfInBounds_toArray, List.set_cons_zero, List.set_cons_succ]
      refine wpAnyH_take (i := 8) (oi := { dst := some 21, op := Go.Op.load 23 (Go.Operand.tmp 20), type := 23, pos := "ref.go:90", after := #[{ on := 7, ground := Go.Ground.data }], guard := none }) (v := .slice (some ⟨bj, oj, none⟩) kn kc) rfl (by kernel_rfl) (by kernel_rfl) (by kernel_rfl) (fun _ _ _ h => h) (Or.inl ⟨by rfl, by intro w2 hSw; (try dsimp only at hSw); have z0 := c3 _ hSw; go_simp⟩) hS0 ?_
      try simp only [Act.put, List.setIfInBounds_toArray, List.set_cons_zero, List.set_cons_succ]
      refine wpAnyH_take (i := 9) (oi := { dst := some 22, op := Go.Op.move (Go.Operand.tmp 5), type := 3, pos := "ref.go:90", after := #[], guard := none }) (v := .int .i64 (q : Int)) rfl (by kernel_rfl) (by kernel_rfl) (by kernel_rfl) (fun _ _ _ h => h) (Or.inl ⟨by rfl, by intro w2 hSw; (try dsimp only at hSw); go_simp⟩) hS0 ?_
      try simp only [Act.put, List.setIfInBounds_toArray, List.set_cons_zero, List.set_cons_succ]
      refine wpAnyH_take (i := 10) (oi := { dst := some 23, op := Go.Op.indexAddr 23 (Go.Operand.tmp 21) (Go.Operand.tmp 22), type := 0, pos := "ref.go:90", after := #[{ on := 8, ground := Go.Ground.data }, { on := 9, ground := Go.Ground.data }], guard := none }) (v := .pointer (some ⟨bj, oj + q, none⟩)) rfl (by kernel_rfl) (by kernel_rfl) (by kernel_rfl) (fun _ _ _ h => h) (Or.inl ⟨by rfl, by intro w2 hSw; (try dsimp only at hSw); go_simp⟩) hS0 ?_
      try simp only [Act.put, List.setIfInBounds_toArray, List.set_cons_zero, List.set_cons_succ]
      refine wpAnyH_take (i := 11) (oi := { dst := some 24, op := Go.Op.load 3 (Go.Operand.tmp 23), type := 3, pos := "ref.go:90", after := #[{ on := 10, ground := Go.Ground.data }], guard := none }) (v := .int .i64 (ay : Int)) rfl (by kernel_rfl) (by kernel_rfl) (by kernel_rfl) (fun _ _ _ h => h) (Or.inl ⟨by rfl, by intro w2 hSw; (try dsimp only at hSw); have z0 := cy _ hSw; go_simp⟩) hS0 ?_
      try simp only [Act.put, List.setIfInBounds_toArray, List.set_cons_zero, List.set_cons_succ]
      refine wpAnyH_take (i := 12) (oi := { dst := some 25, op := Go.Op.indexAddr 22 (Go.Operand.tmp 19) (Go.Operand.tmp 24), type := 0, pos := "ref.go:90", after := #[{ on := 6, ground := Go.Ground.data }, { on := 11, ground := Go.Ground.data }], guard := none }) (v := .pointer (some ⟨bz, oz + ay * 2, none⟩)) rfl (by kernel_rfl) (by kernel_rfl) (by kernel_rfl) (fun _ _ _ h => h) (Or.inl ⟨by rfl, by intro w2 hSw; (try dsimp only at hSw); go_simp⟩) hS0 ?_
      try simp only [Act.put, List.setIfInBounds_toArray, List.set_cons_zero, List.set_cons_succ]
      refine wpAnyH_take (i := 13) (oi := { dst := some 26, op := Go.Op.load 55 (Go.Operand.tmp 25), type := 55, pos := "ref.go:90", after := #[{ on := 12, ground := Go.Ground.data }], guard := none }) (v := .agg #[.int .i64 yl, .int .i64 yh]) rfl (by kernel_rfl) (by kernel_rfl) (by kernel_rfl) (fun _ _ _ h => h) (Or.inl ⟨by rfl, by intro w2 hSw; (try dsimp only at hSw); obtain ⟨z0, z1⟩ := gy _ hSw; go_simp⟩) hS0 ?_
      try simp only [Act.put, List.setIfInBounds_toArray, List.set_cons_zero, List.set_cons_succ]
      refine wpAnyH_ready (rs := [14]) (by kernel_rfl) (by simp) ?_
      refine AllReadyH.cons (o := { dst := some 27, op := Go.Op.call { callee := Go.Callee.value (Go.Operand.func 63), args := #[Go.Operand.tmp 17, Go.Operand.tmp 26], argTypes := #[55, 55] }, type := 4, pos := "ref.go:90", after := #[{ on := 4, ground := Go.Ground.data }, { on := 13, ground := Go.Ground.data }], guard := none }) rfl (fun K hK => ?_) AllReadyH.nil
      go_simp
      refine (meet63 xl xh yl yh _).mono ?_
      rintro e9 V2 ⟨rfl, hV2⟩
      rw [HMe.out]
      try go_simp
      refine hK.out _ _ (hS0.trans (hV2.mono hS0.size)) (fun hS1 => ?_)
      clear hK
      try simp only [Act.put, List.setIfInBounds_toArray, List.set_cons_zero, List.set_cons_succ]
      refine wpAnyH_done (by kernel_rfl) ?_ _
      have HBE := Lib.hid (HB.out.trans (hS1.mono HB.out.size))
      clear c0 c3 cy gx gy hS0 hS1 c33
      cases mb with
      | true =>
        go_wp2_with fail
        go_ret
        exact ⟨ret_bool (Hst.out (by rw [HGx.out, HGy.out]; exact HMe.out)).symm, B.out.trans (HBE.out.mono B.out.size)⟩
      | false =>
        go_wp2_with fail
        go_roundw
        case rel => exact ⟨q + 1, by omega, by go_num, Lib.hid ⟨by rw [Hsu.out, HV.out.1, HGy.out, HMe.out]; rfl, HBE.out⟩⟩
        case measure => simp [intOf]; omega
    · go_wp2_with fail
      go_ret
      exact ⟨ret_bool (by have := HV.out.1; unfold tkG at this; rw [List.take_of_length_le (by rw [HNl.out]; omega)] at this; unfold tkB; rw [HGx.out]; exact this.symm), B.out.trans (HB.out.mono B.out.size)⟩
end
end Go.Proofs.Ytnodkgejggnehaa

namespace Go.Proofs.Ytnodkgejggnehaa
set_option linter.unusedSimpArgs false
set_option linter.unusedVariables false
open Go.RowKit Go.Shelf
/-- A link that is covered, or taken. -/
def cvB (zs : List Rg) (ks cl cr : List Int) (k : Nat) : Bool := tkB zs ks k || decide ((gAt zs k).lo ∈ cl) || decide ((gAt zs k).hi ∈ cr)
def cvK (zs : List Rg) (ks cl cr : List Int) (k : Nat) : Bool := (List.range k).all (cvB zs ks cl cr)
theorem cvK_succ (zs : List Rg) (ks cl cr : List Int) (k : Nat) : cvK zs ks cl cr (k + 1) = (cvK zs ks cl cr k && cvB zs ks cl cr k) := by simp [cvK, List.range_succ]
theorem cvK_stop {zs : List Rg} {ks cl cr : List Int} {k n : Nat} (hk : k < n) (h : cvB zs ks cl cr k = false) : cvK zs ks cl cr n = false := by
  unfold cvK
  rw [List.all_eq_false]
  exact ⟨k, List.mem_range.2 hk, by rw [h]; simp⟩
/-- The error of a cover. -/
def chkC (sl sr : Int) (zs : List Rg) (ks cl cr : List Int) : Int := if chkS sl sr zs ks ≠ 0 then chkS sl sr zs ks else if (risI sl cl && risI sr cr) = false then 3 else if cvK zs ks cl cr zs.length = false then 14 else 0
def szC (sl sr : Int) (zs : List Rg) (ks cl cr : List Int) : Int := if chkC sl sr zs ks cl cr = 0 then (cl.length : Int) + (cr.length : Int) + (ks.length : Int) else 0
section
variable {sl sr : Int} {zs : List Rg} {ks cl cr : List Int}
theorem chc_c {c : Int} (h : chkS sl sr zs ks = c) (h0 : c ≠ 0) : chkC sl sr zs ks cl cr = c := by unfold chkC; rw [h, if_pos h0]
theorem chc_3 (h : chkS sl sr zs ks = 0) (h1 : (risI sl cl && risI sr cr) = false) : chkC sl sr zs ks cl cr = 3 := by unfold chkC; rw [h, if_neg (by simp), if_pos h1]
theorem chc_14 (h : chkS sl sr zs ks = 0) (h1 : (risI sl cl && risI sr cr) = true) (h2 : cvK zs ks cl cr zs.length = false) : chkC sl sr zs ks cl cr = 14 := by unfold chkC; rw [h, if_neg (by simp), h1, if_neg (by simp), if_pos h2]
theorem chc_0 (h : chkS sl sr zs ks = 0) (h1 : (risI sl cl && risI sr cr) = true) (h2 : cvK zs ks cl cr zs.length = true) : chkC sl sr zs ks cl cr = 0 := by unfold chkC; rw [h, if_neg (by simp), h1, if_neg (by simp), h2, if_neg (by simp)]
theorem szc_no {c : Int} (h : chkC sl sr zs ks cl cr = c) (h0 : c ≠ 0) : szC sl sr zs ks cl cr = 0 := by unfold szC; rw [h, if_neg h0]
theorem szc_0 (h : chkC sl sr zs ks cl cr = 0) : szC sl sr zs ks cl cr = (cl.length : Int) + (cr.length : Int) + (ks.length : Int) := by unfold szC; rw [if_pos h]
end
theorem ret_two {a b c d : Int} (h1 : a = c) (h2 : b = d) : (Ending.returned (.tuple #[.int .i64 a, .int .i64 b])) = Ending.returned (.tuple #[.int .i64 c, .int .i64 d]) := by rw [h1, h2]
section
attribute [local go_sem ↓] exec_app at_app
attribute [local go_sem] Oper.semAt_some
set_option maxRecDepth 100000 in
set_option maxHeartbeats 4000000 in
theorem checkCover17 (sl sr : Int) (A : Option Addr) (n cap : Nat) (zs : List Rg) (A2 : Option Addr) (kn kc : Nat) (ks : List Int) (CL : Option Addr) (ln lc : Nat) (cl : List Int) (CR : Option Addr) (rn rc : Nat) (cr : List Int) (w : World) (h : Rgs w A n zs) (hI : Ints w A2 kn ks) (hL : Ints w CL ln cl) (hR9 : Ints w CR rn cr) (hn : n ≤ 1000000) (hk : kn ≤ 100000) (hl : ln ≤ 100000) (hr : rn ≤ 100000) :
    Calls Try.prog 17 #[.agg #[.int .i64 sl, .int .i64 sr, .slice A n cap, .slice A2 kn kc], .agg #[.slice CL ln lc, .slice CR rn rc]] w fun e w' => e = .returned (.tuple #[.int .i64 (szC sl sr zs ks cl cr), .int .i64 (chkC sl sr zs ks cl cr)]) ∧ Below w.heap.size w w' := by
  have hb0 := below_alloc_ w (.cells #[.int .i64 sl, .int .i64 sr, .slice A n cap, .slice A2 kn kc] 25)
  have hr0 := heap_alloc_new_ w (.cells #[.int .i64 sl, .int .i64 sr, .slice A n cap, .slice A2 kn kc] 25)
  have hs0 : (w.alloc (.cells #[.int .i64 sl, .int .i64 sr, .slice A n cap, .slice A2 kn kc] 25)).heap.size = w.heap.size + 1 := by simp
  obtain ⟨wA, hWA⟩ : ∃ wA, w.alloc (.cells #[.int .i64 sl, .int .i64 sr, .slice A n cap, .slice A2 kn kc] 25) = wA := ⟨_, rfl⟩
  have hb1 := below_alloc_ wA (.cells #[.slice CL ln lc, .slice CR rn rc] 27)
  have hr1 := heap_alloc_new_ wA (.cells #[.slice CL ln lc, .slice CR rn rc] 27)
  obtain ⟨w0, hW0⟩ : ∃ w0, wA.alloc (.cells #[.slice CL ln lc, .slice CR rn rc] 27) = w0 := ⟨_, rfl⟩
  obtain ⟨R, hR⟩ : ∃ R, w.heap.size = R := ⟨_, rfl⟩
  rw [hWA] at hb0 hr0 hs0
  rw [hW0] at hb1 hr1
  have hr01 := (hb1.block _ (lt_of_block hr0)).trans hr0
  rw [hs0, hR] at hr1
  rw [hR] at hr01
  have hb := hb0.trans (hb1.mono hb0.size)
  have HZl := Lib.hid h.1
  have HNl := Lib.hid hI.1
  have HLl := Lib.hid hL.1
  have HRl := Lib.hid hR9.1
  have S := Lib.hid (h.below hb (Nat.le_refl _))
  have Y := Lib.hid (hI.below hb (Nat.le_refl _))
  have XL := Lib.hid (hL.below hb (Nat.le_refl _))
  have XR := Lib.hid (hR9.below hb (Nat.le_refl _))
  have B := Lib.hid hb
  have HWA := Lib.hid hWA
  have HW0 := Lib.hid hW0
  have HR := Lib.hid hR
  have hrow := Lib.hid hr01
  have crow := Lib.hid hr1
  clear h hI hL hR9 hb hb0 hb1 hr0 hr1 hr01 hs0 hWA hW0 hR
  go_enter Try.func17, Try.ntmps17
  go_wp2_with fail
  rw [HWA.out, HW0.out]
  try rw [HR.out]
  have s0 : w0.cell? ⟨R, 0, none⟩ = some (.int .i64 sl) := by rw [cell_row hrow.out]; rfl
  have s1 : w0.cell? ⟨R, 1, none⟩ = some (.int .i64 sr) := by rw [cell_row hrow.out]; rfl
  have s2 : w0.cell? ⟨R, 2, none⟩ = some (.slice A n cap) := by rw [cell_row hrow.out]; rfl
  have s3 : w0.cell? ⟨R, 3, none⟩ = some (.slice A2 kn kc) := by rw [cell_row hrow.out]; rfl
  have e0 : w0.cell? ⟨R + 1, 0, none⟩ = some (.slice CL ln lc) := by rw [cell_row crow.out]; rfl
  have e1 : w0.cell? ⟨R + 1, 1, none⟩ = some (.slice CR rn rc) := by rw [cell_row crow.out]; rfl
  obtain ⟨c0, hc0⟩ : ∃ c0, chkS sl sr zs ks = c0 := ⟨_, rfl⟩
  have K0 := Lib.hid (fun W (hS : Rgs W A n zs) (hY : Ints W A2 kn ks) => checkSheet19 sl sr A n cap zs A2 kn kc ks W hS hY hn hk)
  rw [hc0] at K0
  have HC := Lib.hid hc0
  clear hc0
  try go_wp2_with fail
  refine (K0.out _ S.out Y.out).mono ?_
  rintro en w1 ⟨rfl, hb1⟩
  replace S := Lib.hid (S.out.below hb1 (Nat.le_refl _))
  replace Y := Lib.hid (Y.out.below hb1 (Nat.le_refl _))
  replace XL := Lib.hid (XL.out.below hb1 (Nat.le_refl _))
  replace XR := Lib.hid (XR.out.below hb1 (Nat.le_refl _))
  replace hrow := Lib.hid ((hb1.block R (lt_of_block hrow.out)).trans hrow.out)
  replace crow := Lib.hid ((hb1.block (R + 1) (lt_of_block crow.out)).trans crow.out)
  replace B := Lib.hid (B.out.trans (hb1.mono B.out.size))
  clear s0 s1 s2 s3 e0 e1
  clear hb1
  have s0 : w1.cell? ⟨R, 0, none⟩ = some (.int .i64 sl) := by rw [cell_row hrow.out]; rfl
  have s1 : w1.cell? ⟨R, 1, none⟩ = some (.int .i64 sr) := by rw [cell_row hrow.out]; rfl
  have s2 : w1.cell? ⟨R, 2, none⟩ = some (.slice A n cap) := by rw [cell_row hrow.out]; rfl
  have s3 : w1.cell? ⟨R, 3, none⟩ = some (.slice A2 kn kc) := by rw [cell_row hrow.out]; rfl
  have e0 : w1.cell? ⟨R + 1, 0, none⟩ = some (.slice CL ln lc) := by rw [cell_row crow.out]; rfl
  have e1 : w1.cell? ⟨R + 1, 1, none⟩ = some (.slice CR rn rc) := by rw [cell_row crow.out]; rfl
  by_cases h0 : c0 = 0
  rotate_left
  · have d0 : (c0 != 0) = true := by rw [bne_iff_ne]; exact h0
    have H0 := Lib.hid h0
    clear h0
    go_wp2_with fail
    refine (K0.out _ S.out Y.out).mono ?_
    rintro en w2 ⟨rfl, hb2⟩
    have HB2 := Lib.hid (B.out.trans (hb2.mono B.out.size))
    clear hb2
    go_wp2_with fail
    refine bodyPost_ret (v := .tuple #[.int .i64 0, .int .i64 c0]) (by simp [results, Try.results17, go_sem]) rfl ?_
    exact ⟨ret_two (szc_no (chc_c HC.out H0.out) H0.out).symm (chc_c HC.out H0.out).symm, HB2.out⟩
  subst h0
  clear K0
  have k1 := rising43 CL ln lc cl sl w1 XL.out (by omega)
  obtain ⟨r1, hr1⟩ : ∃ r1, risI sl cl = r1 := ⟨_, rfl⟩
  rw [hr1] at k1
  have K1 := Lib.hid k1
  have Hr1 := Lib.hid hr1
  clear k1 hr1
  go_wp2_with fail
  refine K1.out.mono ?_
  rintro en w2 ⟨rfl, hb2⟩
  replace S := Lib.hid (S.out.below hb2 (Nat.le_refl _))
  replace Y := Lib.hid (Y.out.below hb2 (Nat.le_refl _))
  replace XL := Lib.hid (XL.out.below hb2 (Nat.le_refl _))
  replace XR := Lib.hid (XR.out.below hb2 (Nat.le_refl _))
  replace hrow := Lib.hid ((hb2.block R (lt_of_block hrow.out)).trans hrow.out)
  replace crow := Lib.hid ((hb2.block (R + 1) (lt_of_block crow.out)).trans crow.out)
  replace B := Lib.hid (B.out.trans (hb2.mono B.out.size))
  clear s0 s1 s2 s3 e0 e1
  clear K1 hb2
  have s0 : w2.cell? ⟨R, 0, none⟩ = some (.int .i64 sl) := by rw [cell_row hrow.out]; rfl
  have s1 : w2.cell? ⟨R, 1, none⟩ = some (.int .i64 sr) := by rw [cell_row hrow.out]; rfl
  have s2 : w2.cell? ⟨R, 2, none⟩ = some (.slice A n cap) := by rw [cell_row hrow.out]; rfl
  have s3 : w2.cell? ⟨R, 3, none⟩ = some (.slice A2 kn kc) := by rw [cell_row hrow.out]; rfl
  have e0 : w2.cell? ⟨R + 1, 0, none⟩ = some (.slice CL ln lc) := by rw [cell_row crow.out]; rfl
  have e1 : w2.cell? ⟨R + 1, 1, none⟩ = some (.slice CR rn rc) := by rw [cell_row crow.out]; rfl
  rcases r1 with _ | _
  · have HE := Lib.hid (chc_3 (cl := cl) (sr := sr) (cr := cr) HC.out (by rw [Hr1.out]; rfl))
    go_wp2_with fail
    refine bodyPost_ret (v := .tuple #[.int .i64 0, .int .i64 3]) (by simp [results, Try.results17, go_sem]) rfl ?_
    exact ⟨ret_two (szc_no HE.out (by decide)).symm (HE.out).symm, B.out⟩
  have k2 := rising43 CR rn rc cr sr w2 XR.out (by omega)
  obtain ⟨r2, hr2⟩ : ∃ r2, risI sr cr = r2 := ⟨_, rfl⟩
  rw [hr2] at k2
  have K2 := Lib.hid k2
  have Hr2 := Lib.hid hr2
  clear k2 hr2
  go_wp2_with fail
  refine K2.out.mono ?_
  rintro en w3 ⟨rfl, hb3⟩
  replace S := Lib.hid (S.out.below hb3 (Nat.le_refl _))
  replace Y := Lib.hid (Y.out.below hb3 (Nat.le_refl _))
  replace XL := Lib.hid (XL.out.below hb3 (Nat.le_refl _))
  replace XR := Lib.hid (XR.out.below hb3 (Nat.le_refl _))
  replace hrow := Lib.hid ((hb3.block R (lt_of_block hrow.out)).trans hrow.out)
  replace crow := Lib.hid ((hb3.block (R + 1) (lt_of_block crow.out)).trans crow.out)
  replace B := Lib.hid (B.out.trans (hb3.mono B.out.size))
  clear s0 s1 s2 s3 e0 e1
  clear K2 hb3
  rcases r2 with _ | _
  · have HE := Lib.hid (chc_3 (cl := cl) (sr := sr) (cr := cr) HC.out (by rw [Hr1.out, Hr2.out]; rfl))
    go_wp2_with fail
    refine bodyPost_ret (v := .tuple #[.int .i64 0, .int .i64 3]) (by simp [results, Try.results17, go_sem]) rfl ?_
    exact ⟨ret_two (szc_no HE.out (by decide)).symm (HE.out).symm, B.out⟩
  have HRr := Lib.hid (show (risI sl cl && risI sr cr) = true by rw [Hr1.out, Hr2.out]; rfl)
  have Hin := Lib.hid (show ∀ j, j < kn → 0 ≤ iAt ks j ∧ iAt ks j < (n : Int) by
    have := (chkS_zero HC.out).2.2.2.2.1
    rw [HZl.out] at this
    exact ris_in this HNl.out)
  go_wp2_with fail
  go_loopw [6] (fun i wr => ∃ k : Nat, k ≤ n ∧ i = .int .i64 (k : Int) ∧ Hid (cvK zs ks cl cr k = true ∧ Below w3.heap.size w3 wr)) (fun i _ => n - (intOf i).toNat)
  case atStart => exact ⟨0, Nat.zero_le _, rfl, Lib.hid ⟨rfl, Below.refl _ _⟩⟩
  case round =>
    obtain ⟨k, hk9, rfl, HV⟩ := hrel
    obtain ⟨wk, rfl⟩ : ∃ wk, wk = wr := ⟨_, rfl⟩
    have HB := Lib.hid HV.out.2
    have hrk := (HB.out.block R (lt_of_block hrow.out)).trans hrow.out
    have hck := (HB.out.block (R + 1) (lt_of_block crow.out)).trans crow.out
    by_cases hlt : k < n
    · have Hst := Lib.hid (fun hh => cvK_stop (zs := zs) (ks := ks) (cl := cl) (cr := cr) (k := k) (n := n) hlt hh)
      have Hsu := Lib.hid (cvK_succ zs ks cl cr k)
      obtain ⟨bz, oz, rfl, hcz⟩ := (S.out.below HB.out (Nat.le_refl _)).2 (by omega)
      have zx := hcz k hlt
      obtain ⟨gx, hgx⟩ : ∃ g, gAt zs k = g := ⟨_, rfl⟩
      have Hcv := Lib.hid (show cvB zs ks cl cr k = (tkB zs ks k || decide (gx.lo ∈ cl) || decide (gx.hi ∈ cr)) by unfold cvB; rw [hgx])
      rw [hgx] at zx
      obtain ⟨xl, xh⟩ := gx
      simp only at zx
      have m0 : wk.cell? ⟨R, 0, none⟩ = some (.int .i64 sl) := by rw [cell_row hrk]; rfl
      have m1 : wk.cell? ⟨R, 1, none⟩ = some (.int .i64 sr) := by rw [cell_row hrk]; rfl
      have m2 : wk.cell? ⟨R, 2, none⟩ = some (.slice (some ⟨bz, oz, none⟩) n cap) := by rw [cell_row hrk]; rfl
      have m3 : wk.cell? ⟨R, 3, none⟩ = some (.slice A2 kn kc) := by rw [cell_row hrk]; rfl
      have e0 : wk.cell? ⟨R + 1, 0, none⟩ = some (.slice CL ln lc) := by rw [cell_row hck]; rfl
      have e1 : wk.cell? ⟨R + 1, 1, none⟩ = some (.slice CR rn rc) := by rw [cell_row hck]; rfl
      have c0 : ∀ w2, Below wk.heap.size wk w2 → w2.cell? ⟨R, 2, none⟩ = some (.slice (some ⟨bz, oz, none⟩) n cap) := fun w2 hb => (hb.cell (lt_of_cell m2)).trans m2
      have cA : ∀ w2, Below wk.heap.size wk w2 → w2.cell? ⟨R, 0, none⟩ = some (.int .i64 sl) ∧ w2.cell? ⟨R, 1, none⟩ = some (.int .i64 sr) ∧ w2.cell? ⟨R, 2, none⟩ = some (.slice (some ⟨bz, oz, none⟩) n cap) ∧ w2.cell? ⟨R, 3, none⟩ = some (.slice A2 kn kc) := fun w2 hb => ⟨(hb.cell (lt_of_cell m0)).trans m0, (hb.cell (lt_of_cell m1)).trans m1, (hb.cell (lt_of_cell m2)).trans m2, (hb.cell (lt_of_cell m3)).trans m3⟩
      have cl0 : ∀ w2, Below wk.heap.size wk w2 → w2.cell? ⟨R + 1, 0, none⟩ = some (.slice CL ln lc) := fun w2 hb => (hb.cell (lt_of_cell e0)).trans e0
      have cr0 : ∀ w2, Below wk.heap.size wk w2 → w2.cell? ⟨R + 1, 1, none⟩ = some (.slice CR rn rc) := fun w2 hb => (hb.cell (lt_of_cell e1)).trans e1
      have gx : ∀ w2, Below wk.heap.size wk w2 → w2.cell? ⟨bz, oz + k * 2, none⟩ = some (.int .i64 xl) ∧ w2.cell? ⟨bz, oz + k * 2 + 1, none⟩ = some (.int .i64 xh) := fun w2 hb => ⟨(hb.cell (lt_of_cell zx.1)).trans zx.1, (hb.cell (lt_of_cell zx.2)).trans zx.2⟩
      obtain ⟨tb, htb⟩ : ∃ tb, tkB zs ks k = tb := ⟨_, rfl⟩
      obtain ⟨lb, hlb⟩ : ∃ lb, decide (xl ∈ cl) = lb := ⟨_, rfl⟩
      obtain ⟨rb, hrb⟩ : ∃ rb, decide (xh ∈ cr) = rb := ⟨_, rfl⟩
      simp only at Hcv
      rw [htb, hlb, hrb] at Hcv
      have HTb := Lib.hid htb
      have HLb := Lib.hid hlb
      have HRb := Lib.hid hrb
      have i0 : (0 : Int) ≤ (k : Int) := by omega
      have i1 : (k : Int) < (n : Int) := by omega
      have l1 : (k : Int) < (n : Int) := by omega
      clear hcz zx hgx hrk hck htb hlb hrb m0 m1 m3 e0 e1
      go_wp2_with fail
      rcases tb with _ | _
      rotate_left
      · clear m2
        refine wp_region_held_drew (S := fun w2 => Below wk.heap.size wk w2) (by kernel_rfl) (drew_b _ _) (fun hS0 => ?_)
        refine wpAnyH_take (i := 0) (oi := { dst := some 33, op := Go.Op.load 25 (Go.Operand.tmp 2), type := 25, pos := "ref.go:106", after := #[], guard := none }) (v := .agg #[.int .i64 sl, .int .i64 sr, .slice (some ⟨bz, oz, none⟩) n cap, .slice A2 kn kc]) rfl (by kernel_rfl) (by kernel_rfl) (by kernel_rfl) (fun _ _ _ h => h) (Or.inl ⟨by rfl, by intro w2 hSw; (try dsimp only at hSw); obtain ⟨z0, z1, z2, z3⟩ := cA _ hSw; go_simp⟩) hS0 ?_
        try simp only [Act.put, List.setIfInBounds_toArray, List.set_cons_zero, List.set_cons_succ]
        refine wpAnyH_take (i := 1) (oi := { dst := some 34, op := Go.Op.move (Go.Operand.tmp 6), type := 3, pos := "ref.go:106", after := #[], guard := none }) (v := .int .i64 (k : Int)) rfl (by kernel_rfl) (by kernel_rfl) (by kernel_rfl) (fun _ _ _ h => h) (Or.inl ⟨by rfl, by intro w2 hSw; (try dsimp only at hSw); go_simp⟩) hS0 ?_
        try simp only [Act.put, List.setIfInBounds_toArray, List.set_cons_zero, List.set_cons_succ]
        refine wpAnyH_ready (rs := [2]) (by kernel_rfl) (by simp) ?_
        refine AllReadyH.cons (o := { dst := some 35, op := Go.Op.call { callee := Go.Callee.value (Go.Operand.func 44), args := #[Go.Operand.tmp 33, Go.Operand.tmp 34], argTypes := #[25, 3] }, type := 4, pos := "ref.go:106", after := #[{ on := 0, ground := Go.Ground.data }, { on := 1, ground := Go.Ground.data }], guard := none }) rfl (fun K hK => ?_) AllReadyH.nil
        go_simp
        refine (taken44 sl sr (some ⟨bz, oz, none⟩) n cap zs A2 kn kc ks k _ (S.out.below (HB.out.trans (hS0.mono HB.out.size)) (Nat.le_refl _)) (Y.out.below (HB.out.trans (hS0.mono HB.out.size)) (Nat.le_refl _)) Hin.out hlt hn hk).mono ?_
        rintro e9 V2 ⟨rfl, hV2⟩
        rw [HTb.out]
        try go_simp
        refine hK.out _ _ (hS0.trans (hV2.mono hS0.size)) (fun hS1 => ?_)
        clear hK
        try simp only [Act.put, List.setIfInBounds_toArray, List.set_cons_zero, List.set_cons_succ]
        refine wpAnyH_take (i := 3) (oi := { dst := some 36, op := Go.Op.unOp Go.UnOp.not 4 (Go.Operand.tmp 35), type := 4, pos := "ref.go:106", after := #[{ on := 2, ground := Go.Ground.data }], guard := none }) (v := .bool false) rfl (by kernel_rfl) (by kernel_rfl) (by kernel_rfl) (fun _ _ _ h => h) (Or.inl ⟨by rfl, by intro w2 hSw; (try dsimp only at hSw); go_simp⟩) hS1 ?_
        try simp only [Act.put, List.setIfInBounds_toArray, List.set_cons_zero, List.set_cons_succ]
        refine wpAnyH_take (i := 4) (oi := { dst := some 37, op := Go.Op.move (Go.Operand.tmp 36), type := 4, pos := "ref.go:106", after := #[{ on := 3, ground := Go.Ground.data }, { on := 2, ground := Go.Ground.chain }], guard := none }) (v := .bool false) rfl (by kernel_rfl) (by kernel_rfl) (by kernel_rfl) (fun _ _ _ h => h) (Or.inl ⟨by rfl, by intro w2 hSw; (try dsimp only at hSw); go_simp⟩) hS1 ?_
        try simp only [Act.put, List.setIfInBounds_toArray, List.set_cons_zero, List.set_cons_succ]
        refine wpAnyH_take (i := 5) (oi := { dst := some 38, op := Go.Op.fieldAddr 27 (Go.Operand.tmp 3) 0, type := 0, pos := "ref.go:106", after := #[{ on := 4, ground := Go.Ground.guard }], guard := some (4, true) }) (v := undef) rfl (by kernel_rfl) (by kernel_rfl) (by kernel_rfl) (fun _ _ _ h => h) (Or.inr ⟨by rfl, rfl⟩) hS1 ?_
        try simp only [Act.put, List.setIfInBounds_toArray, List.set_cons_zero, List.set_cons_succ]
        refine wpAnyH_take (i := 6) (oi := { dst := some 39, op := Go.Op.load 23 (Go.Operand.tmp 38), type := 23, pos := "ref.go:106", after := #[{ on := 5, ground := Go.Ground.data }, { on := 4, ground := Go.Ground.guard }], guard := some (4, true) }) (v := undef) rfl (by kernel_rfl) (by kernel_rfl) (by kernel_rfl) (fun _ _ _ h => h) (Or.inr ⟨by rfl, rfl⟩) hS1 ?_
        try simp only [Act.put, List.setIfInBounds_toArray, List.set_cons_zero, List.set_cons_succ]
        refine wpAnyH_take (i := 7) (oi := { dst := some 40, op := Go.Op.fieldAddr 25 (Go.Operand.tmp 2) 2, type := 0, pos := "ref.go:106", after := #[{ on := 4, ground := Go.Ground.guard }], guard := some (4, true) }) (v := undef) rfl (by kernel_rfl) (by kernel_rfl) (by kernel_rfl) (fun _ _ _ h => h) (Or.inr ⟨by rfl, rfl⟩) hS1 ?_
        try simp only [Act.put, List.setIfInBounds_toArray, List.set_cons_zero, List.set_cons_succ]
        refine wpAnyH_take (i := 8) (oi := { dst := some 41, op := Go.Op.load 22 (Go.Operand.tmp 40), type := 22, pos := "ref.go:106", after := #[{ on := 7, ground := Go.Ground.data }, { on := 4, ground := Go.Ground.guard }], guard := some (4, true) }) (v := undef) rfl (by kernel_rfl) (by kernel_rfl) (by kernel_rfl) (fun _ _ _ h => h) (Or.inr ⟨by rfl, rfl⟩) hS1 ?_
        try simp only [Act.put, List.setIfInBounds_toArray, List.set_cons_zero, List.set_cons_succ]
        refine wpAnyH_take (i := 9) (oi := { dst := some 42, op := Go.Op.move (Go.Operand.tmp 6), type := 3, pos := "ref.go:106", after := #[{ on := 4, ground := Go.Ground.guard }], guard := some (4, true) }) (v := undef) rfl (by kernel_rfl) (by kernel_rfl) (by kernel_rfl) (fun _ _ _ h => h) (Or.inr ⟨by rfl, rfl⟩) hS1 ?_
        try simp only [Act.put, List.setIfInBounds_toArray, List.set_cons_zero, List.set_cons_succ]
        refine wpAnyH_take (i := 10) (oi := { dst := some 43, op := Go.Op.indexAddr 22 (Go.Operand.tmp 41) (Go.Operand.tmp 42), type := 0, pos := "ref.go:106", after := #[{ on := 8, ground := Go.Ground.data }, { on := 9, ground := Go.Ground.data }, { on := 4, ground := Go.Ground.guard }], guard := some (4, true) }) (v := undef) rfl (by kernel_rfl) (by kernel_rfl) (by kernel_rfl) (fun _ _ _ h => h) (Or.inr ⟨by rfl, rfl⟩) hS1 ?_
        try simp only [Act.put, List.setIfInBounds_toArray, List.set_cons_zero, List.set_cons_succ]
        refine wpAnyH_take (i := 11) (oi := { dst := some 44, op := Go.Op.fieldAddr 55 (Go.Operand.tmp 43) 0, type := 0, pos := "ref.go:106", after := #[{ on := 10, ground := Go.Ground.data }, { on := 4, ground := Go.Ground.guard }], guard := some (4, true) }) (v := undef) rfl (by kernel_rfl) (by kernel_rfl) (by kernel_rfl) (fun _ _ _ h => h) (Or.inr ⟨by rfl, rfl⟩) hS1 ?_
        try simp only [Act.put, List.setIfInBounds_toArray, List.set_cons_zero, List.set_cons_succ]
        refine wpAnyH_take (i := 12) (oi := { dst := some 45, op := Go.Op.load 3 (Go.Operand.tmp 44), type := 3, pos := "ref.go:106", after := #[{ on := 11, ground := Go.Ground.data }, { on := 4, ground := Go.Ground.guard }], guard := some (4, true) }) (v := undef) rfl (by kernel_rfl) (by kernel_rfl) (by kernel_rfl) (fun _ _ _ h => h) (Or.inr ⟨by rfl, rfl⟩) hS1 ?_
        try simp only [Act.put, List.setIfInBounds_toArray, List.set_cons_zero, List.set_cons_succ]
        refine wpAnyH_take (i := 13) (oi := { dst := some 46, op := Go.Op.call { callee := Go.Callee.value (Go.Operand.func 34), args := #[Go.Operand.tmp 39, Go.Operand.tmp 45], argTypes := #[23, 3] }, type := 4, pos := "ref.go:106", after := #[{ on := 6, ground := Go.Ground.data }, { on := 12, ground := Go.Ground.data }, { on := 4, ground := Go.Ground.chain }, { on := 4, ground := Go.Ground.guard }], guard := some (4, true) }) (v := undef) rfl (by kernel_rfl) (by kernel_rfl) (by kernel_rfl) (fun _ _ _ h => h) (Or.inr ⟨by rfl, rfl⟩) hS1 ?_
        try simp only [Act.put, List.setIfInBounds_toArray, List.set_cons_zero, List.set_cons_succ]
        refine wpAnyH_take (i := 14) (oi := { dst := some 47, op := Go.Op.unOp Go.UnOp.not 4 (Go.Operand.tmp 46), type := 4, pos := "ref.go:106", after := #[{ on := 13, ground := Go.Ground.data }, { on := 4, ground := Go.Ground.guard }], guard := some (4, true) }) (v := undef) rfl (by kernel_rfl) (by kernel_rfl) (by kernel_rfl) (fun _ _ _ h => h) (Or.inr ⟨by rfl, rfl⟩) hS1 ?_
        try simp only [Act.put, List.setIfInBounds_toArray, List.set_cons_zero, List.set_cons_succ]
        refine wpAnyH_take (i := 15) (oi := { dst := some 48, op := Go.Op.pick (Go.Operand.tmp 37) (Go.Operand.tmp 47) (Go.Operand.const (Go.Value.bool false)), type := 4, pos := "ref.go:106", after := #[{ on := 4, ground := Go.Ground.data }, { on := 14, ground := Go.Ground.data }], guard := none }) (v := .bool false) rfl (by kernel_rfl) (by kernel_rfl) (by kernel_rfl) (fun _ _ _ h => h) (Or.inl ⟨by rfl, by intro w2 hSw; (try dsimp only at hSw); go_simp⟩) hS1 ?_
        try simp only [Act.put, List.setIfInBounds_toArray, List.set_cons_zero, List.set_cons_succ]
        refine wpAnyH_take (i := 16) (oi := { dst := some 49, op := Go.Op.move (Go.Operand.tmp 48), type := 4, pos := "ref.go:106", after := #[{ on := 15, ground := Go.Ground.data }, { on := 13, ground := Go.Ground.chain }], guard := none }) (v := .bool false) rfl (by kernel_rfl) (by kernel_rfl) (by kernel_rfl) (fun _ _ _ h => h) (Or.inl ⟨by rfl, by intro w2 hSw; (try dsimp only at hSw); go_simp⟩) hS1 ?_
        try simp only [Act.put, List.setIfInBounds_toArray, List.set_cons_zero, List.set_cons_succ]
        refine wpAnyH_take (i := 17) (oi := { dst := some 50, op := Go.Op.fieldAddr 27 (Go.Operand.tmp 3) 1, type := 0, pos := "ref.go:106", after := #[{ on := 16, ground := Go.Ground.guard }], guard := some (16, true) }) (v := undef) rfl (by kernel_rfl) (by kernel_rfl) (by kernel_rfl) (fun _ _ _ h => h) (Or.inr ⟨by rfl, rfl⟩) hS1 ?_
        try simp only [Act.put, List.setIfInBounds_toArray, List.set_cons_zero, List.set_cons_succ]
        refine wpAnyH_take (i := 18) (oi := { dst := some 51, op := Go.Op.load 23 (Go.Operand.tmp 50), type := 23, pos := "ref.go:106", after := #[{ on := 17, ground := Go.Ground.data }, { on := 16, ground := Go.Ground.guard }], guard := some (16, true) }) (v := undef) rfl (by kernel_rfl) (by kernel_rfl) (by kernel_rfl) (fun _ _ _ h => h) (Or.inr ⟨by rfl, rfl⟩) hS1 ?_
        try simp only [Act.put, List.setIfInBounds_toArray, List.set_cons_zero, List.set_cons_succ]
        refine wpAnyH_take (i := 19) (oi := { dst := some 52, op := Go.Op.fieldAddr 25 (Go.Operand.tmp 2) 2, type := 0, pos := "ref.go:106", after := #[{ on := 16, ground := Go.Ground.guard }], guard := some (16, true) }) (v := undef) rfl (by kernel_rfl) (by kernel_rfl) (by kernel_rfl) (fun _ _ _ h => h) (Or.inr ⟨by rfl, rfl⟩) hS1 ?_
        try simp only [Act.put, List.setIfInBounds_toArray, List.set_cons_zero, List.set_cons_succ]
        refine wpAnyH_take (i := 20) (oi := { dst := some 53, op := Go.Op.load 22 (Go.Operand.tmp 52), type := 22, pos := "ref.go:106", after := #[{ on := 19, ground := Go.Ground.data }, { on := 16, ground := Go.Ground.guard }], guard := some (16, true) }) (v := undef) rfl (by kernel_rfl) (by kernel_rfl) (by kernel_rfl) (fun _ _ _ h => h) (Or.inr ⟨by rfl, rfl⟩) hS1 ?_
        try simp only [Act.put, List.setIfInBounds_toArray, List.set_cons_zero, List.set_cons_succ]
        refine wpAnyH_take (i := 21) (oi := { dst := some 54, op := Go.Op.move (Go.Operand.tmp 6), type := 3, pos := "ref.go:106", after := #[{ on := 16, ground := Go.Ground.guard }], guard := some (16, true) }) (v := undef) rfl (by kernel_rfl) (by kernel_rfl) (by kernel_rfl) (fun _ _ _ h => h) (Or.inr ⟨by rfl, rfl⟩) hS1 ?_
        try simp only [Act.put, List.setIfInBounds_toArray, List.set_cons_zero, List.set_cons_succ]
        refine wpAnyH_take (i := 22) (oi := { dst := some 55, op := Go.Op.indexAddr 22 (Go.Operand.tmp 53) (Go.Operand.tmp 54), type := 0, pos := "ref.go:106", after := #[{ on := 20, ground := Go.Ground.data }, { on := 21, ground := Go.Ground.data }, { on := 16, ground := Go.Ground.guard }], guard := some (16, true) }) (v := undef) rfl (by kernel_rfl) (by kernel_rfl) (by kernel_rfl) (fun _ _ _ h => h) (Or.inr ⟨by rfl, rfl⟩) hS1 ?_
        try simp only [Act.put, List.setIfInBounds_toArray, List.set_cons_zero, List.set_cons_succ]
        refine wpAnyH_take (i := 23) (oi := { dst := some 56, op := Go.Op.fieldAddr 55 (Go.Operand.tmp 55) 1, type := 0, pos := "ref.go:106", after := #[{ on := 22, ground := Go.Ground.data }, { on := 16, ground := Go.Ground.guard }], guard := some (16, true) }) (v := undef) rfl (by kernel_rfl) (by kernel_rfl) (by kernel_rfl) (fun _ _ _ h => h) (Or.inr ⟨by rfl, rfl⟩) hS1 ?_
        try simp only [Act.put, List.setIfInBounds_toArray, List.set_cons_zero, List.set_cons_succ]
        refine wpAnyH_take (i := 24) (oi := { dst := some 57, op := Go.Op.load 3 (Go.Operand.tmp 56), type := 3, pos := "ref.go:106", after := #[{ on := 23, ground := Go.Ground.data }, { on := 16, ground := Go.Ground.guard }], guard := some (16, true) }) (v := undef) rfl (by kernel_rfl) (by kernel_rfl) (by kernel_rfl) (fun _ _ _ h => h) (Or.inr ⟨by rfl, rfl⟩) hS1 ?_
        try simp only [Act.put, List.setIfInBounds_toArray, List.set_cons_zero, List.set_cons_succ]
        refine wpAnyH_take (i := 25) (oi := { dst := some 58, op := Go.Op.call { callee := Go.Callee.value (Go.Operand.func 34), args := #[Go.Operand.tmp 51, Go.Operand.tmp 57], argTypes := #[23, 3] }, type := 4, pos := "ref.go:106", after := #[{ on := 18, ground := Go.Ground.data }, { on := 24, ground := Go.Ground.data }, { on := 16, ground := Go.Ground.chain }, { on := 16, ground := Go.Ground.guard }], guard := some (16, true) }) (v := undef) rfl (by kernel_rfl) (by kernel_rfl) (by kernel_rfl) (fun _ _ _ h => h) (Or.inr ⟨by rfl, rfl⟩) hS1 ?_
        try simp only [Act.put, List.setIfInBounds_toArray, List.set_cons_zero, List.set_cons_succ]
        refine wpAnyH_take (i := 26) (oi := { dst := some 59, op := Go.Op.unOp Go.UnOp.not 4 (Go.Operand.tmp 58), type := 4, pos := "ref.go:106", after := #[{ on := 25, ground := Go.Ground.data }, { on := 16, ground := Go.Ground.guard }], guard := some (16, true) }) (v := undef) rfl (by kernel_rfl) (by kernel_rfl) (by kernel_rfl) (fun _ _ _ h => h) (Or.inr ⟨by rfl, rfl⟩) hS1 ?_
        try simp only [Act.put, List.setIfInBounds_toArray, List.set_cons_zero, List.set_cons_succ]
        refine wpAnyH_take (i := 27) (oi := { dst := some 60, op := Go.Op.pick (Go.Operand.tmp 49) (Go.Operand.tmp 59) (Go.Operand.const (Go.Value.bool false)), type := 4, pos := "ref.go:106", after := #[{ on := 16, ground := Go.Ground.data }, { on := 26, ground := Go.Ground.data }], guard := none }) (v := .bool false) rfl (by kernel_rfl) (by kernel_rfl) (by kernel_rfl) (fun _ _ _ h => h) (Or.inl ⟨by rfl, by intro w2 hSw; (try dsimp only at hSw); go_simp⟩) hS1 ?_
        try simp only [Act.put, List.setIfInBounds_toArray, List.set_cons_zero, List.set_cons_succ]
        refine wpAnyH_done (by kernel_rfl) ?_ _
        have HBE := Lib.hid (HB.out.trans (hS1.mono HB.out.size))
        clear c0 cA cl0 cr0 gx hS0 hS1
        go_wp2_with fail
        go_roundw
        case rel => exact ⟨k + 1, by omega, by go_num, Lib.hid ⟨by rw [Hsu.out, HV.out.1, Hcv.out]; rfl, HBE.out⟩⟩
        case measure => simp [intOf]; omega
      rcases lb with _ | _
      rotate_left
      · clear m2
        refine wp_region_held_drew (S := fun w2 => Below wk.heap.size wk w2) (by kernel_rfl) (drew_b _ _) (fun hS0 => ?_)
        refine wpAnyH_take (i := 0) (oi := { dst := some 33, op := Go.Op.load 25 (Go.Operand.tmp 2), type := 25, pos := "ref.go:106", after := #[], guard := none }) (v := .agg #[.int .i64 sl, .int .i64 sr, .slice (some ⟨bz, oz, none⟩) n cap, .slice A2 kn kc]) rfl (by kernel_rfl) (by kernel_rfl) (by kernel_rfl) (fun _ _ _ h => h) (Or.inl ⟨by rfl, by intro w2 hSw; (try dsimp only at hSw); obtain ⟨z0, z1, z2, z3⟩ := cA _ hSw; go_simp⟩) hS0 ?_
        try simp only [Act.put, List.setIfInBounds_toArray, List.set_cons_zero, List.set_cons_succ]
        refine wpAnyH_take (i := 1) (oi := { dst := some 34, op := Go.Op.move (Go.Operand.tmp 6), type := 3, pos := "ref.go:106", after := #[], guard := none }) (v := .int .i64 (k : Int)) rfl (by kernel_rfl) (by kernel_rfl) (by kernel_rfl) (fun _ _ _ h => h) (Or.inl ⟨by rfl, by intro w2 hSw; (try dsimp only at hSw); go_simp⟩) hS0 ?_
        try simp only [Act.put, List.setIfInBounds_toArray, List.set_cons_zero, List.set_cons_succ]
        refine wpAnyH_ready (rs := [2]) (by kernel_rfl) (by simp) ?_
        refine AllReadyH.cons (o := { dst := some 35, op := Go.Op.call { callee := Go.Callee.value (Go.Operand.func 44), args := #[Go.Operand.tmp 33, Go.Operand.tmp 34], argTypes := #[25, 3] }, type := 4, pos := "ref.go:106", after := #[{ on := 0, ground := Go.Ground.data }, { on := 1, ground := Go.Ground.data }], guard := none }) rfl (fun K hK => ?_) AllReadyH.nil
        go_simp
        refine (taken44 sl sr (some ⟨bz, oz, none⟩) n cap zs A2 kn kc ks k _ (S.out.below (HB.out.trans (hS0.mono HB.out.size)) (Nat.le_refl _)) (Y.out.below (HB.out.trans (hS0.mono HB.out.size)) (Nat.le_refl _)) Hin.out hlt hn hk).mono ?_
        rintro e9 V2 ⟨rfl, hV2⟩
        rw [HTb.out]
        try go_simp
        refine hK.out _ _ (hS0.trans (hV2.mono hS0.size)) (fun hS1 => ?_)
        clear hK
        try simp only [Act.put, List.setIfInBounds_toArray, List.set_cons_zero, List.set_cons_succ]
        refine wpAnyH_take (i := 3) (oi := { dst := some 36, op := Go.Op.unOp Go.UnOp.not 4 (Go.Operand.tmp 35), type := 4, pos := "ref.go:106", after := #[{ on := 2, ground := Go.Ground.data }], guard := none }) (v := .bool true) rfl (by kernel_rfl) (by kernel_rfl) (by kernel_rfl) (fun _ _ _ h => h) (Or.inl ⟨by rfl, by intro w2 hSw; (try dsimp only at hSw); go_simp⟩) hS1 ?_
        try simp only [Act.put, List.setIfInBounds_toArray, List.set_cons_zero, List.set_cons_succ]
        refine wpAnyH_take (i := 4) (oi := { dst := some 37, op := Go.Op.move (Go.Operand.tmp 36), type := 4, pos := "ref.go:106", after := #[{ on := 3, ground := Go.Ground.data }, { on := 2, ground := Go.Ground.chain }], guard := none }) (v := .bool true) rfl (by kernel_rfl) (by kernel_rfl) (by kernel_rfl) (fun _ _ _ h => h) (Or.inl ⟨by rfl, by intro w2 hSw; (try dsimp only at hSw); go_simp⟩) hS1 ?_
        try simp only [Act.put, List.setIfInBounds_toArray, List.set_cons_zero, List.set_cons_succ]
        refine wpAnyH_take (i := 5) (oi := { dst := some 38, op := Go.Op.fieldAddr 27 (Go.Operand.tmp 3) 0, type := 0, pos := "ref.go:106", after := #[{ on := 4, ground := Go.Ground.guard }], guard := some (4, true) }) (v := .pointer (some ⟨R + 1, 0, none⟩)) rfl (by kernel_rfl) (by kernel_rfl) (by kernel_rfl) (fun _ _ _ h => h) (Or.inl ⟨by rfl, by intro w2 hSw; (try dsimp only at hSw); go_simp⟩) hS1 ?_
        try simp only [Act.put, List.setIfInBounds_toArray, List.set_cons_zero, List.set_cons_succ]
        refine wpAnyH_take (i := 6) (oi := { dst := some 39, op := Go.Op.load 23 (Go.Operand.tmp 38), type := 23, pos := "ref.go:106", after := #[{ on := 5, ground := Go.Ground.data }, { on := 4, ground := Go.Ground.guard }], guard := some (4, true) }) (v := .slice CL ln lc) rfl (by kernel_rfl) (by kernel_rfl) (by kernel_rfl) (fun _ _ _ h => h) (Or.inl ⟨by rfl, by intro w2 hSw; (try dsimp only at hSw); have z0 := cl0 _ hSw; go_simp⟩) hS1 ?_
        try simp only [Act.put, List.setIfInBounds_toArray, List.set_cons_zero, List.set_cons_succ]
        refine wpAnyH_take (i := 7) (oi := { dst := some 40, op := Go.Op.fieldAddr 25 (Go.Operand.tmp 2) 2, type := 0, pos := "ref.go:106", after := #[{ on := 4, ground := Go.Ground.guard }], guard := some (4, true) }) (v := .pointer (some ⟨R, 2, none⟩)) rfl (by kernel_rfl) (by kernel_rfl) (by kernel_rfl) (fun _ _ _ h => h) (Or.inl ⟨by rfl, by intro w2 hSw; (try dsimp only at hSw); go_simp⟩) hS1 ?_
        try simp only [Act.put, List.setIfInBounds_toArray, List.set_cons_zero, List.set_cons_succ]
        refine wpAnyH_take (i := 8) (oi := { dst := some 41, op := Go.Op.load 22 (Go.Operand.tmp 40), type := 22, pos := "ref.go:106", after := #[{ on := 7, ground := Go.Ground.data }, { on := 4, ground := Go.Ground.guard }], guard := some (4, true) }) (v := .slice (some ⟨bz, oz, none⟩) n cap) rfl (by kernel_rfl) (by kernel_rfl) (by kernel_rfl) (fun _ _ _ h => h) (Or.inl ⟨by rfl, by intro w2 hSw; (try dsimp only at hSw); have z0 := c0 _ hSw; go_simp⟩) hS1 ?_
        try simp only [Act.put, List.setIfInBounds_toArray, List.set_cons_zero, List.set_cons_succ]
        refine wpAnyH_take (i := 9) (oi := { dst := some 42, op := Go.Op.move (Go.Operand.tmp 6), type := 3, pos := "ref.go:106", after := #[{ on := 4, ground := Go.Ground.guard }], guard := some (4, true) }) (v := .int .i64 (k : Int)) rfl (by kernel_rfl) (by kernel_rfl) (by kernel_rfl) (fun _ _ _ h => h) (Or.inl ⟨by rfl, by intro w2 hSw; (try dsimp only at hSw); go_simp⟩) hS1 ?_
        try simp only [Act.put, List.setIfInBounds_toArray, List.set_cons_zero, List.set_cons_succ]
        refine wpAnyH_take (i := 10) (oi := { dst := some 43, op := Go.Op.indexAddr 22 (Go.Operand.tmp 41) (Go.Operand.tmp 42), type := 0, pos := "ref.go:106", after := #[{ on := 8, ground := Go.Ground.data }, { on := 9, ground := Go.Ground.data }, { on := 4, ground := Go.Ground.guard }], guard := some (4, true) }) (v := .pointer (some ⟨bz, oz + k * 2, none⟩)) rfl (by kernel_rfl) (by kernel_rfl) (by kernel_rfl) (fun _ _ _ h => h) (Or.inl ⟨by rfl, by intro w2 hSw; (try dsimp only at hSw); go_simp⟩) hS1 ?_
        try simp only [Act.put, List.setIfInBounds_toArray, List.set_cons_zero, List.set_cons_succ]
        refine wpAnyH_take (i := 11) (oi := { dst := some 44, op := Go.Op.fieldAddr 55 (Go.Operand.tmp 43) 0, type := 0, pos := "ref.go:106", after := #[{ on := 10, ground := Go.Ground.data }, { on := 4, ground := Go.Ground.guard }], guard := some (4, true) }) (v := .pointer (some ⟨bz, oz + k * 2, none⟩)) rfl (by kernel_rfl) (by kernel_rfl) (by kernel_rfl) (fun _ _ _ h => h) (Or.inl ⟨by rfl, by intro w2 hSw; (try dsimp only at hSw); go_simp⟩) hS1 ?_
        try simp only [Act.put, List.setIfInBounds_toArray, List.set_cons_zero, List.set_cons_succ]
        refine wpAnyH_take (i := 12) (oi := { dst := some 45, op := Go.Op.load 3 (Go.Operand.tmp 44), type := 3, pos := "ref.go:106", after := #[{ on := 11, ground := Go.Ground.data }, { on := 4, ground := Go.Ground.guard }], guard := some (4, true) }) (v := .int .i64 xl) rfl (by kernel_rfl) (by kernel_rfl) (by kernel_rfl) (fun _ _ _ h => h) (Or.inl ⟨by rfl, by intro w2 hSw; (try dsimp only at hSw); obtain ⟨z0, z1⟩ := gx _ hSw; go_simp⟩) hS1 ?_
        try simp only [Act.put, List.setIfInBounds_toArray, List.set_cons_zero, List.set_cons_succ]
        refine wpAnyH_ready (rs := [13]) (by kernel_rfl) (by simp) ?_
        refine AllReadyH.cons (o := { dst := some 46, op := Go.Op.call { callee := Go.Callee.value (Go.Operand.func 34), args := #[Go.Operand.tmp 39, Go.Operand.tmp 45], argTypes := #[23, 3] }, type := 4, pos := "ref.go:106", after := #[{ on := 6, ground := Go.Ground.data }, { on := 12, ground := Go.Ground.data }, { on := 4, ground := Go.Ground.chain }, { on := 4, ground := Go.Ground.guard }], guard := some (4, true) }) rfl (fun K hK => ?_) AllReadyH.nil
        go_simp
        refine (in34 CL ln lc cl xl _ (XL.out.below (HB.out.trans (hS1.mono HB.out.size)) (Nat.le_refl _)) (by omega)).mono ?_
        rintro e9 V3 ⟨rfl, rfl⟩
        rw [HLb.out]
        try go_simp
        refine hK.out _ _ hS1 (fun hS2 => ?_)
        clear hK
        try simp only [Act.put, List.setIfInBounds_toArray, List.set_cons_zero, List.set_cons_succ]
        refine wpAnyH_take (i := 14) (oi := { dst := some 47, op := Go.Op.unOp Go.UnOp.not 4 (Go.Operand.tmp 46), type := 4, pos := "ref.go:106", after := #[{ on := 13, ground := Go.Ground.data }, { on := 4, ground := Go.Ground.guard }], guard := some (4, true) }) (v := .bool false) rfl (by kernel_rfl) (by kernel_rfl) (by kernel_rfl) (fun _ _ _ h => h) (Or.inl ⟨by rfl, by intro w2 hSw; (try dsimp only at hSw); go_simp⟩) hS2 ?_
        try simp only [Act.put, List.setIfInBounds_toArray, List.set_cons_zero, List.set_cons_succ]
        refine wpAnyH_take (i := 15) (oi := { dst := some 48, op := Go.Op.pick (Go.Operand.tmp 37) (Go.Operand.tmp 47) (Go.Operand.const (Go.Value.bool false)), type := 4, pos := "ref.go:106", after := #[{ on := 4, ground := Go.Ground.data }, { on := 14, ground := Go.Ground.data }], guard := none }) (v := .bool false) rfl (by kernel_rfl) (by kernel_rfl) (by kernel_rfl) (fun _ _ _ h => h) (Or.inl ⟨by rfl, by intro w2 hSw; (try dsimp only at hSw); go_simp⟩) hS2 ?_
        try simp only [Act.put, List.setIfInBounds_toArray, List.set_cons_zero, List.set_cons_succ]
        refine wpAnyH_take (i := 16) (oi := { dst := some 49, op := Go.Op.move (Go.Operand.tmp 48), type := 4, pos := "ref.go:106", after := #[{ on := 15, ground := Go.Ground.data }, { on := 13, ground := Go.Ground.chain }], guard := none }) (v := .bool false) rfl (by kernel_rfl) (by kernel_rfl) (by kernel_rfl) (fun _ _ _ h => h) (Or.inl ⟨by rfl, by intro w2 hSw; (try dsimp only at hSw); go_simp⟩) hS2 ?_
        try simp only [Act.put, List.setIfInBounds_toArray, List.set_cons_zero, List.set_cons_succ]
        refine wpAnyH_take (i := 17) (oi := { dst := some 50, op := Go.Op.fieldAddr 27 (Go.Operand.tmp 3) 1, type := 0, pos := "ref.go:106", after := #[{ on := 16, ground := Go.Ground.guard }], guard := some (16, true) }) (v := undef) rfl (by kernel_rfl) (by kernel_rfl) (by kernel_rfl) (fun _ _ _ h => h) (Or.inr ⟨by rfl, rfl⟩) hS2 ?_
        try simp only [Act.put, List.setIfInBounds_toArray, List.set_cons_zero, List.set_cons_succ]
        refine wpAnyH_take (i := 18) (oi := { dst := some 51, op := Go.Op.load 23 (Go.Operand.tmp 50), type := 23, pos := "ref.go:106", after := #[{ on := 17, ground := Go.Ground.data }, { on := 16, ground := Go.Ground.guard }], guard := some (16, true) }) (v := undef) rfl (by kernel_rfl) (by kernel_rfl) (by kernel_rfl) (fun _ _ _ h => h) (Or.inr ⟨by rfl, rfl⟩) hS2 ?_
        try simp only [Act.put, List.setIfInBounds_toArray, List.set_cons_zero, List.set_cons_succ]
        refine wpAnyH_take (i := 19) (oi := { dst := some 52, op := Go.Op.fieldAddr 25 (Go.Operand.tmp 2) 2, type := 0, pos := "ref.go:106", after := #[{ on := 16, ground := Go.Ground.guard }], guard := some (16, true) }) (v := undef) rfl (by kernel_rfl) (by kernel_rfl) (by kernel_rfl) (fun _ _ _ h => h) (Or.inr ⟨by rfl, rfl⟩) hS2 ?_
        try simp only [Act.put, List.setIfInBounds_toArray, List.set_cons_zero, List.set_cons_succ]
        refine wpAnyH_take (i := 20) (oi := { dst := some 53, op := Go.Op.load 22 (Go.Operand.tmp 52), type := 22, pos := "ref.go:106", after := #[{ on := 19, ground := Go.Ground.data }, { on := 16, ground := Go.Ground.guard }], guard := some (16, true) }) (v := undef) rfl (by kernel_rfl) (by kernel_rfl) (by kernel_rfl) (fun _ _ _ h => h) (Or.inr ⟨by rfl, rfl⟩) hS2 ?_
        try simp only [Act.put, List.setIfInBounds_toArray, List.set_cons_zero, List.set_cons_succ]
        refine wpAnyH_take (i := 21) (oi := { dst := some 54, op := Go.Op.move (Go.Operand.tmp 6), type := 3, pos := "ref.go:106", after := #[{ on := 16, ground := Go.Ground.guard }], guard := some (16, true) }) (v := undef) rfl (by kernel_rfl) (by kernel_rfl) (by kernel_rfl) (fun _ _ _ h => h) (Or.inr ⟨by rfl, rfl⟩) hS2 ?_
        try simp only [Act.put, List.setIfInBounds_toArray, List.set_cons_zero, List.set_cons_succ]
        refine wpAnyH_take (i := 22) (oi := { dst := some 55, op := Go.Op.indexAddr 22 (Go.Operand.tmp 53) (Go.Operand.tmp 54), type := 0, pos := "ref.go:106", after := #[{ on := 20, ground := Go.Ground.data }, { on := 21, ground := Go.Ground.data }, { on := 16, ground := Go.Ground.guard }], guard := some (16, true) }) (v := undef) rfl (by kernel_rfl) (by kernel_rfl) (by kernel_rfl) (fun _ _ _ h => h) (Or.inr ⟨by rfl, rfl⟩) hS2 ?_
        try simp only [Act.put, List.setIfInBounds_toArray, List.set_cons_zero, List.set_cons_succ]
        refine wpAnyH_take (i := 23) (oi := { dst := some 56, op := Go.Op.fieldAddr 55 (Go.Operand.tmp 55) 1, type := 0, pos := "ref.go:106", after := #[{ on := 22, ground := Go.Ground.data }, { on := 16, ground := Go.Ground.guard }], guard := some (16, true) }) (v := undef) rfl (by kernel_rfl) (by kernel_rfl) (by kernel_rfl) (fun _ _ _ h => h) (Or.inr ⟨by rfl, rfl⟩) hS2 ?_
        try simp only [Act.put, List.setIfInBounds_toArray, List.set_cons_zero, List.set_cons_succ]
        refine wpAnyH_take (i := 24) (oi := { dst := some 57, op := Go.Op.load 3 (Go.Operand.tmp 56), type := 3, pos := "ref.go:106", after := #[{ on := 23, ground := Go.Ground.data }, { on := 16, ground := Go.Ground.guard }], guard := some (16, true) }) (v := undef) rfl (by kernel_rfl) (by kernel_rfl) (by kernel_rfl) (fun _ _ _ h => h) (Or.inr ⟨by rfl, rfl⟩) hS2 ?_
        try simp only [Act.put, List.setIfInBounds_toArray, List.set_cons_zero, List.set_cons_succ]
        refine wpAnyH_take (i := 25) (oi := { dst := some 58, op := Go.Op.call { callee := Go.Callee.value (Go.Operand.func 34), args := #[Go.Operand.tmp 51, Go.Operand.tmp 57], argTypes := #[23, 3] }, type := 4, pos := "ref.go:106", after := #[{ on := 18, ground := Go.Ground.data }, { on := 24, ground := Go.Ground.data }, { on := 16, ground := Go.Ground.chain }, { on := 16, ground := Go.Ground.guard }], guard := some (16, true) }) (v := undef) rfl (by kernel_rfl) (by kernel_rfl) (by kernel_rfl) (fun _ _ _ h => h) (Or.inr ⟨by rfl, rfl⟩) hS2 ?_
        try simp only [Act.put, List.setIfInBounds_toArray, List.set_cons_zero, List.set_cons_succ]
        refine wpAnyH_take (i := 26) (oi := { dst := some 59, op := Go.Op.unOp Go.UnOp.not 4 (Go.Operand.tmp 58), type := 4, pos := "ref.go:106", after := #[{ on := 25, ground := Go.Ground.data }, { on := 16, ground := Go.Ground.guard }], guard := some (16, true) }) (v := undef) rfl (by kernel_rfl) (by kernel_rfl) (by kernel_rfl) (fun _ _ _ h => h) (Or.inr ⟨by rfl, rfl⟩) hS2 ?_
        try simp only [Act.put, List.setIfInBounds_toArray, List.set_cons_zero, List.set_cons_succ]
        refine wpAnyH_take (i := 27) (oi := { dst := some 60, op := Go.Op.pick (Go.Operand.tmp 49) (Go.Operand.tmp 59) (Go.Operand.const (Go.Value.bool false)), type := 4, pos := "ref.go:106", after := #[{ on := 16, ground := Go.Ground.data }, { on := 26, ground := Go.Ground.data }], guard := none }) (v := .bool false) rfl (by kernel_rfl) (by kernel_rfl) (by kernel_rfl) (fun _ _ _ h => h) (Or.inl ⟨by rfl, by intro w2 hSw; (try dsimp only at hSw); go_simp⟩) hS2 ?_
        try simp only [Act.put, List.setIfInBounds_toArray, List.set_cons_zero, List.set_cons_succ]
        refine wpAnyH_done (by kernel_rfl) ?_ _
        have HBE := Lib.hid (HB.out.trans (hS2.mono HB.out.size))
        clear c0 cA cl0 cr0 gx hS0 hS1 hS2
        go_wp2_with fail
        go_roundw
        case rel => exact ⟨k + 1, by omega, by go_num, Lib.hid ⟨by rw [Hsu.out, HV.out.1, Hcv.out]; rfl, HBE.out⟩⟩
        case measure => simp [intOf]; omega
      rcases rb with _ | _
      rotate_left
      · clear m2
        refine wp_region_held_drew (S := fun w2 => Below wk.heap.size wk w2) (by kernel_rfl) (drew_b _ _) (fun hS0 => ?_)
        refine wpAnyH_take (i := 0) (oi := { dst := some 33, op := Go.Op.load 25 (Go.Operand.tmp 2), type := 25, pos := "ref.go:106", after := #[], guard := none }) (v := .agg #[.int .i64 sl, .int .i64 sr, .slice (some ⟨bz, oz, none⟩) n cap, .slice A2 kn kc]) rfl (by kernel_rfl) (by kernel_rfl) (by kernel_rfl) (fun _ _ _ h => h) (Or.inl ⟨by rfl, by intro w2 hSw; (try dsimp only at hSw); obtain ⟨z0, z1, z2, z3⟩ := cA _ hSw; go_simp⟩) hS0 ?_
        try simp only [Act.put, List.setIfInBounds_toArray, List.set_cons_zero, List.set_cons_succ]
        refine wpAnyH_take (i := 1) (oi := { dst := some 34, op := Go.Op.move (Go.Operand.tmp 6), type := 3, pos := "ref.go:106", after := #[], guard := none }) (v := .int .i64 (k : Int)) rfl (by kernel_rfl) (by kernel_rfl) (by kernel_rfl) (fun _ _ _ h => h) (Or.inl ⟨by rfl, by intro w2 hSw; (try dsimp only at hSw); go_simp⟩) hS0 ?_
        try simp only [Act.put, List.setIfInBounds_toArray, List.set_cons_zero, List.set_cons_succ]
        refine wpAnyH_ready (rs := [2]) (by kernel_rfl) (by simp) ?_
        refine AllReadyH.cons (o := { dst := some 35, op := Go.Op.call { callee := Go.Callee.value (Go.Operand.func 44), args := #[Go.Operand.tmp 33, Go.Operand.tmp 34], argTypes := #[25, 3] }, type := 4, pos := "ref.go:106", after := #[{ on := 0, ground := Go.Ground.data }, { on := 1, ground := Go.Ground.data }], guard := none }) rfl (fun K hK => ?_) AllReadyH.nil
        go_simp
        refine (taken44 sl sr (some ⟨bz, oz, none⟩) n cap zs A2 kn kc ks k _ (S.out.below (HB.out.trans (hS0.mono HB.out.size)) (Nat.le_refl _)) (Y.out.below (HB.out.trans (hS0.mono HB.out.size)) (Nat.le_refl _)) Hin.out hlt hn hk).mono ?_
        rintro e9 V2 ⟨rfl, hV2⟩
        rw [HTb.out]
        try go_simp
        refine hK.out _ _ (hS0.trans (hV2.mono hS0.size)) (fun hS1 => ?_)
        clear hK
        try simp only [Act.put, List.setIfInBounds_toArray, List.set_cons_zero, List.set_cons_succ]
        refine wpAnyH_take (i := 3) (oi := { dst := some 36, op := Go.Op.unOp Go.UnOp.not 4 (Go.Operand.tmp 35), type := 4, pos := "ref.go:106", after := #[{ on := 2, ground := Go.Ground.data }], guard := none }) (v := .bool true) rfl (by kernel_rfl) (by kernel_rfl) (by kernel_rfl) (fun _ _ _ h => h) (Or.inl ⟨by rfl, by intro w2 hSw; (try dsimp only at hSw); go_simp⟩) hS1 ?_
        try simp only [Act.put, List.setIfInBounds_toArray, List.set_cons_zero, List.set_cons_succ]
        refine wpAnyH_take (i := 4) (oi := { dst := some 37, op := Go.Op.move (Go.Operand.tmp 36), type := 4, pos := "ref.go:106", after := #[{ on := 3, ground := Go.Ground.data }, { on := 2, ground := Go.Ground.chain }], guard := none }) (v := .bool true) rfl (by kernel_rfl) (by kernel_rfl) (by kernel_rfl) (fun _ _ _ h => h) (Or.inl ⟨by rfl, by intro w2 hSw; (try dsimp only at hSw); go_simp⟩) hS1 ?_
        try simp only [Act.put, List.setIfInBounds_toArray, List.set_cons_zero, List.set_cons_succ]
        refine wpAnyH_take (i := 5) (oi := { dst := some 38, op := Go.Op.fieldAddr 27 (Go.Operand.tmp 3) 0, type := 0, pos := "ref.go:106", after := #[{ on := 4, ground := Go.Ground.guard }], guard := some (4, true) }) (v := .pointer (some ⟨R + 1, 0, none⟩)) rfl (by kernel_rfl) (by kernel_rfl) (by kernel_rfl) (fun _ _ _ h => h) (Or.inl ⟨by rfl, by intro w2 hSw; (try dsimp only at hSw); go_simp⟩) hS1 ?_
        try simp only [Act.put, List.setIfInBounds_toArray, List.set_cons_zero, List.set_cons_succ]
        refine wpAnyH_take (i := 6) (oi := { dst := some 39, op := Go.Op.load 23 (Go.Operand.tmp 38), type := 23, pos := "ref.go:106", after := #[{ on := 5, ground := Go.Ground.data }, { on := 4, ground := Go.Ground.guard }], guard := some (4, true) }) (v := .slice CL ln lc) rfl (by kernel_rfl) (by kernel_rfl) (by kernel_rfl) (fun _ _ _ h => h) (Or.inl ⟨by rfl, by intro w2 hSw; (try dsimp only at hSw); have z0 := cl0 _ hSw; go_simp⟩) hS1 ?_
        try simp only [Act.put, List.setIfInBounds_toArray, List.set_cons_zero, List.set_cons_succ]
        refine wpAnyH_take (i := 7) (oi := { dst := some 40, op := Go.Op.fieldAddr 25 (Go.Operand.tmp 2) 2, type := 0, pos := "ref.go:106", after := #[{ on := 4, ground := Go.Ground.guard }], guard := some (4, true) }) (v := .pointer (some ⟨R, 2, none⟩)) rfl (by kernel_rfl) (by kernel_rfl) (by kernel_rfl) (fun _ _ _ h => h) (Or.inl ⟨by rfl, by intro w2 hSw; (try dsimp only at hSw); go_simp⟩) hS1 ?_
        try simp only [Act.put, List.setIfInBounds_toArray, List.set_cons_zero, List.set_cons_succ]
        refine wpAnyH_take (i := 8) (oi := { dst := some 41, op := Go.Op.load 22 (Go.Operand.tmp 40), type := 22, pos := "ref.go:106", after := #[{ on := 7, ground := Go.Ground.data }, { on := 4, ground := Go.Ground.guard }], guard := some (4, true) }) (v := .slice (some ⟨bz, oz, none⟩) n cap) rfl (by kernel_rfl) (by kernel_rfl) (by kernel_rfl) (fun _ _ _ h => h) (Or.inl ⟨by rfl, by intro w2 hSw; (try dsimp only at hSw); have z0 := c0 _ hSw; go_simp⟩) hS1 ?_
        try simp only [Act.put, List.setIfInBounds_toArray, List.set_cons_zero, List.set_cons_succ]
        refine wpAnyH_take (i := 9) (oi := { dst := some 42, op := Go.Op.move (Go.Operand.tmp 6), type := 3, pos := "ref.go:106", after := #[{ on := 4, ground := Go.Ground.guard }], guard := some (4, true) }) (v := .int .i64 (k : Int)) rfl (by kernel_rfl) (by kernel_rfl) (by kernel_rfl) (fun _ _ _ h => h) (Or.inl ⟨by rfl, by intro w2 hSw; (try dsimp only at hSw); go_simp⟩) hS1 ?_
        try simp only [Act.put, List.setIfInBounds_toArray, List.set_cons_zero, List.set_cons_succ]
        refine wpAnyH_take (i := 10) (oi := { dst := some 43, op := Go.Op.indexAddr 22 (Go.Operand.tmp 41) (Go.Operand.tmp 42), type := 0, pos := "ref.go:106", after := #[{ on := 8, ground := Go.Ground.data }, { on := 9, ground := Go.Ground.data }, { on := 4, ground := Go.Ground.guard }], guard := some (4, true) }) (v := .pointer (some ⟨bz, oz + k * 2, none⟩)) rfl (by kernel_rfl) (by kernel_rfl) (by kernel_rfl) (fun _ _ _ h => h) (Or.inl ⟨by rfl, by intro w2 hSw; (try dsimp only at hSw); go_simp⟩) hS1 ?_
        try simp only [Act.put, List.setIfInBounds_toArray, List.set_cons_zero, List.set_cons_succ]
        refine wpAnyH_take (i := 11) (oi := { dst := some 44, op := Go.Op.fieldAddr 55 (Go.Operand.tmp 43) 0, type := 0, pos := "ref.go:106", after := #[{ on := 10, ground := Go.Ground.data }, { on := 4, ground := Go.Ground.guard }], guard := some (4, true) }) (v := .pointer (some ⟨bz, oz + k * 2, none⟩)) rfl (by kernel_rfl) (by kernel_rfl) (by kernel_rfl) (fun _ _ _ h => h) (Or.inl ⟨by rfl, by intro w2 hSw; (try dsimp only at hSw); go_simp⟩) hS1 ?_
        try simp only [Act.put, List.setIfInBounds_toArray, List.set_cons_zero, List.set_cons_succ]
        refine wpAnyH_take (i := 12) (oi := { dst := some 45, op := Go.Op.load 3 (Go.Operand.tmp 44), type := 3, pos := "ref.go:106", after := #[{ on := 11, ground := Go.Ground.data }, { on := 4, ground := Go.Ground.guard }], guard := some (4, true) }) (v := .int .i64 xl) rfl (by kernel_rfl) (by kernel_rfl) (by kernel_rfl) (fun _ _ _ h => h) (Or.inl ⟨by rfl, by intro w2 hSw; (try dsimp only at hSw); obtain ⟨z0, z1⟩ := gx _ hSw; go_simp⟩) hS1 ?_
        try simp only [Act.put, List.setIfInBounds_toArray, List.set_cons_zero, List.set_cons_succ]
        refine wpAnyH_ready (rs := [13]) (by kernel_rfl) (by simp) ?_
        refine AllReadyH.cons (o := { dst := some 46, op := Go.Op.call { callee := Go.Callee.value (Go.Operand.func 34), args := #[Go.Operand.tmp 39, Go.Operand.tmp 45], argTypes := #[23, 3] }, type := 4, pos := "ref.go:106", after := #[{ on := 6, ground := Go.Ground.data }, { on := 12, ground := Go.Ground.data }, { on := 4, ground := Go.Ground.chain }, { on := 4, ground := Go.Ground.guard }], guard := some (4, true) }) rfl (fun K hK => ?_) AllReadyH.nil
        go_simp
        refine (in34 CL ln lc cl xl _ (XL.out.below (HB.out.trans (hS1.mono HB.out.size)) (Nat.le_refl _)) (by omega)).mono ?_
        rintro e9 V3 ⟨rfl, rfl⟩
        rw [HLb.out]
        try go_simp
        refine hK.out _ _ hS1 (fun hS2 => ?_)
        clear hK
        try simp only [Act.put, List.setIfInBounds_toArray, List.set_cons_zero, List.set_cons_succ]
        refine wpAnyH_take (i := 14) (oi := { dst := some 47, op := Go.Op.unOp Go.UnOp.not 4 (Go.Operand.tmp 46), type := 4, pos := "ref.go:106", after := #[{ on := 13, ground := Go.Ground.data }, { on := 4, ground := Go.Ground.guard }], guard := some (4, true) }) (v := .bool true) rfl (by kernel_rfl) (by kernel_rfl) (by kernel_rfl) (fun _ _ _ h => h) (Or.inl ⟨by rfl, by intro w2 hSw; (try dsimp only at hSw); go_simp⟩) hS2 ?_
        try simp only [Act.put, List.setIfInBounds_toArray, List.set_cons_zero, List.set_cons_succ]
        refine wpAnyH_take (i := 15) (oi := { dst := some 48, op := Go.Op.pick (Go.Operand.tmp 37) (Go.Operand.tmp 47) (Go.Operand.const (Go.Value.bool false)), type := 4, pos := "ref.go:106", after := #[{ on := 4, ground := Go.Ground.data }, { on := 14, ground := Go.Ground.data }], guard := none }) (v := .bool true) rfl (by kernel_rfl) (by kernel_rfl) (by kernel_rfl) (fun _ _ _ h => h) (Or.inl ⟨by rfl, by intro w2 hSw; (try dsimp only at hSw); go_simp⟩) hS2 ?_
        try simp only [Act.put, List.setIfInBounds_toArray, List.set_cons_zero, List.set_cons_succ]
        refine wpAnyH_take (i := 16) (oi := { dst := some 49, op := Go.Op.move (Go.Operand.tmp 48), type := 4, pos := "ref.go:106", after := #[{ on := 15, ground := Go.Ground.data }, { on := 13, ground := Go.Ground.chain }], guard := none }) (v := .bool true) rfl (by kernel_rfl) (by kernel_rfl) (by kernel_rfl) (fun _ _ _ h => h) (Or.inl ⟨by rfl, by intro w2 hSw; (try dsimp only at hSw); go_simp⟩) hS2 ?_
        try simp only [Act.put, List.setIfInBounds_toArray, List.set_cons_zero, List.set_cons_succ]
        refine wpAnyH_take (i := 17) (oi := { dst := some 50, op := Go.Op.fieldAddr 27 (Go.Operand.tmp 3) 1, type := 0, pos := "ref.go:106", after := #[{ on := 16, ground := Go.Ground.guard }], guard := some (16, true) }) (v := .pointer (some ⟨R + 1, 1, none⟩)) rfl (by kernel_rfl) (by kernel_rfl) (by kernel_rfl) (fun _ _ _ h => h) (Or.inl ⟨by rfl, by intro w2 hSw; (try dsimp only at hSw); go_simp⟩) hS2 ?_
        try simp only [Act.put, List.setIfInBounds_toArray, List.set_cons_zero, List.set_cons_succ]
        refine wpAnyH_take (i := 18) (oi := { dst := some 51, op := Go.Op.load 23 (Go.Operand.tmp 50), type := 23, pos := "ref.go:106", after := #[{ on := 17, ground := Go.Ground.data }, { on := 16, ground := Go.Ground.guard }], guard := some (16, true) }) (v := .slice CR rn rc) rfl (by kernel_rfl) (by kernel_rfl) (by kernel_rfl) (fun _ _ _ h => h) (Or.inl ⟨by rfl, by intro w2 hSw; (try dsimp only at hSw); have z0 := cr0 _ hSw; go_simp⟩) hS2 ?_
        try simp only [Act.put, List.setIfInBounds_toArray, List.set_cons_zero, List.set_cons_succ]
        refine wpAnyH_take (i := 19) (oi := { dst := some 52, op := Go.Op.fieldAddr 25 (Go.Operand.tmp 2) 2, type := 0, pos := "ref.go:106", after := #[{ on := 16, ground := Go.Ground.guard }], guard := some (16, true) }) (v := .pointer (some ⟨R, 2, none⟩)) rfl (by kernel_rfl) (by kernel_rfl) (by kernel_rfl) (fun _ _ _ h => h) (Or.inl ⟨by rfl, by intro w2 hSw; (try dsimp only at hSw); go_simp⟩) hS2 ?_
        try simp only [Act.put, List.setIfInBounds_toArray, List.set_cons_zero, List.set_cons_succ]
        refine wpAnyH_take (i := 20) (oi := { dst := some 53, op := Go.Op.load 22 (Go.Operand.tmp 52), type := 22, pos := "ref.go:106", after := #[{ on := 19, ground := Go.Ground.data }, { on := 16, ground := Go.Ground.guard }], guard := some (16, true) }) (v := .slice (some ⟨bz, oz, none⟩) n cap) rfl (by kernel_rfl) (by kernel_rfl) (by kernel_rfl) (fun _ _ _ h => h) (Or.inl ⟨by rfl, by intro w2 hSw; (try dsimp only at hSw); have z0 := c0 _ hSw; go_simp⟩) hS2 ?_
        try simp only [Act.put, List.setIfInBounds_toArray, List.set_cons_zero, List.set_cons_succ]
        refine wpAnyH_take (i := 21) (oi := { dst := some 54, op := Go.Op.move (Go.Operand.tmp 6), type := 3, pos := "ref.go:106", after := #[{ on := 16, ground := Go.Ground.guard }], guard := some (16, true) }) (v := .int .i64 (k : Int)) rfl (by kernel_rfl) (by kernel_rfl) (by kernel_rfl) (fun _ _ _ h => h) (Or.inl ⟨by rfl, by intro w2 hSw; (try dsimp only at hSw); go_simp⟩) hS2 ?_
        try simp only [Act.put, List.setIfInBounds_toArray, List.set_cons_zero, List.set_cons_succ]
        refine wpAnyH_take (i := 22) (oi := { dst := some 55, op := Go.Op.indexAddr 22 (Go.Operand.tmp 53) (Go.Operand.tmp 54), type := 0, pos := "ref.go:106", after := #[{ on := 20, ground := Go.Ground.data }, { on := 21, ground := Go.Ground.data }, { on := 16, ground := Go.Ground.guard }], guard := some (16, true) }) (v := .pointer (some ⟨bz, oz + k * 2, none⟩)) rfl (by kernel_rfl) (by kernel_rfl) (by kernel_rfl) (fun _ _ _ h => h) (Or.inl ⟨by rfl, by intro w2 hSw; (try dsimp only at hSw); go_simp⟩) hS2 ?_
        try simp only [Act.put, List.setIfInBounds_toArray, List.set_cons_zero, List.set_cons_succ]
        refine wpAnyH_take (i := 23) (oi := { dst := some 56, op := Go.Op.fieldAddr 55 (Go.Operand.tmp 55) 1, type := 0, pos := "ref.go:106", after := #[{ on := 22, ground := Go.Ground.data }, { on := 16, ground := Go.Ground.guard }], guard := some (16, true) }) (v := .pointer (some ⟨bz, oz + k * 2 + 1, none⟩)) rfl (by kernel_rfl) (by kernel_rfl) (by kernel_rfl) (fun _ _ _ h => h) (Or.inl ⟨by rfl, by intro w2 hSw; (try dsimp only at hSw); go_simp⟩) hS2 ?_
        try simp only [Act.put, List.setIfInBounds_toArray, List.set_cons_zero, List.set_cons_succ]
        refine wpAnyH_take (i := 24) (oi := { dst := some 57, op := Go.Op.load 3 (Go.Operand.tmp 56), type := 3, pos := "ref.go:106", after := #[{ on := 23, ground := Go.Ground.data }, { on := 16, ground := Go.Ground.guard }], guard := some (16, true) }) (v := .int .i64 xh) rfl (by kernel_rfl) (by kernel_rfl) (by kernel_rfl) (fun _ _ _ h => h) (Or.inl ⟨by rfl, by intro w2 hSw; (try dsimp only at hSw); obtain ⟨z0, z1⟩ := gx _ hSw; go_simp⟩) hS2 ?_
        try simp only [Act.put, List.setIfInBounds_toArray, List.set_cons_zero, List.set_cons_succ]
        refine wpAnyH_ready (rs := [25]) (by kernel_rfl) (by simp) ?_
        refine AllReadyH.cons (o := { dst := some 58, op := Go.Op.call { callee := Go.Callee.value (Go.Operand.func 34), args := #[Go.Operand.tmp 51, Go.Operand.tmp 57], argTypes := #[23, 3] }, type := 4, pos := "ref.go:106", after := #[{ on := 18, ground := Go.Ground.data }, { on := 24, ground := Go.Ground.data }, { on := 16, ground := Go.Ground.chain }, { on := 16, ground := Go.Ground.guard }], guard := some (16, true) }) rfl (fun K hK => ?_) AllReadyH.nil
        go_simp
        refine (in34 CR rn rc cr xh _ (XR.out.below (HB.out.trans (hS2.mono HB.out.size)) (Nat.le_refl _)) (by omega)).mono ?_
        rintro e9 V3 ⟨rfl, rfl⟩
        rw [HRb.out]
        try go_simp
        refine hK.out _ _ hS2 (fun hS3 => ?_)
        clear hK
        try simp only [Act.put, List.setIfInBounds_toArray, List.set_cons_zero, List.set_cons_succ]
        refine wpAnyH_take (i := 26) (oi := { dst := some 59, op := Go.Op.unOp Go.UnOp.not 4 (Go.Operand.tmp 58), type := 4, pos := "ref.go:106", after := #[{ on := 25, ground := Go.Ground.data }, { on := 16, ground := Go.Ground.guard }], guard := some (16, true) }) (v := .bool false) rfl (by kernel_rfl) (by kernel_rfl) (by kernel_rfl) (fun _ _ _ h => h) (Or.inl ⟨by rfl, by intro w2 hSw; (try dsimp only at hSw); go_simp⟩) hS3 ?_
        try simp only [Act.put, List.setIfInBounds_toArray, List.set_cons_zero, List.set_cons_succ]
        refine wpAnyH_take (i := 27) (oi := { dst := some 60, op := Go.Op.pick (Go.Operand.tmp 49) (Go.Operand.tmp 59) (Go.Operand.const (Go.Value.bool false)), type := 4, pos := "ref.go:106", after := #[{ on := 16, ground := Go.Ground.data }, { on := 26, ground := Go.Ground.data }], guard := none }) (v := .bool false) rfl (by kernel_rfl) (by kernel_rfl) (by kernel_rfl) (fun _ _ _ h => h) (Or.inl ⟨by rfl, by intro w2 hSw; (try dsimp only at hSw); go_simp⟩) hS3 ?_
        try simp only [Act.put, List.setIfInBounds_toArray, List.set_cons_zero, List.set_cons_succ]
        refine wpAnyH_done (by kernel_rfl) ?_ _
        have HBE := Lib.hid (HB.out.trans (hS3.mono HB.out.size))
        clear c0 cA cl0 cr0 gx hS0 hS1 hS2 hS3
        go_wp2_with fail
        go_roundw
        case rel => exact ⟨k + 1, by omega, by go_num, Lib.hid ⟨by rw [Hsu.out, HV.out.1, Hcv.out]; rfl, HBE.out⟩⟩
        case measure => simp [intOf]; omega
      · clear m2
        refine wp_region_held_drew (S := fun w2 => Below wk.heap.size wk w2) (by kernel_rfl) (drew_b _ _) (fun hS0 => ?_)
        refine wpAnyH_take (i := 0) (oi := { dst := some 33, op := Go.Op.load 25 (Go.Operand.tmp 2), type := 25, pos := "ref.go:106", after := #[], guard := none }) (v := .agg #[.int .i64 sl, .int .i64 sr, .slice (some ⟨bz, oz, none⟩) n cap, .slice A2 kn kc]) rfl (by kernel_rfl) (by kernel_rfl) (by kernel_rfl) (fun _ _ _ h => h) (Or.inl ⟨by rfl, by intro w2 hSw; (try dsimp only at hSw); obtain ⟨z0, z1, z2, z3⟩ := cA _ hSw; go_simp⟩) hS0 ?_
        try simp only [Act.put, List.setIfInBounds_toArray, List.set_cons_zero, List.set_cons_succ]
        refine wpAnyH_take (i := 1) (oi := { dst := some 34, op := Go.Op.move (Go.Operand.tmp 6), type := 3, pos := "ref.go:106", after := #[], guard := none }) (v := .int .i64 (k : Int)) rfl (by kernel_rfl) (by kernel_rfl) (by kernel_rfl) (fun _ _ _ h => h) (Or.inl ⟨by rfl, by intro w2 hSw; (try dsimp only at hSw); go_simp⟩) hS0 ?_
        try simp only [Act.put, List.setIfInBounds_toArray, List.set_cons_zero, List.set_cons_succ]
        refine wpAnyH_ready (rs := [2]) (by kernel_rfl) (by simp) ?_
        refine AllReadyH.cons (o := { dst := some 35, op := Go.Op.call { callee := Go.Callee.value (Go.Operand.func 44), args := #[Go.Operand.tmp 33, Go.Operand.tmp 34], argTypes := #[25, 3] }, type := 4, pos := "ref.go:106", after := #[{ on := 0, ground := Go.Ground.data }, { on := 1, ground := Go.Ground.data }], guard := none }) rfl (fun K hK => ?_) AllReadyH.nil
        go_simp
        refine (taken44 sl sr (some ⟨bz, oz, none⟩) n cap zs A2 kn kc ks k _ (S.out.below (HB.out.trans (hS0.mono HB.out.size)) (Nat.le_refl _)) (Y.out.below (HB.out.trans (hS0.mono HB.out.size)) (Nat.le_refl _)) Hin.out hlt hn hk).mono ?_
        rintro e9 V2 ⟨rfl, hV2⟩
        rw [HTb.out]
        try go_simp
        refine hK.out _ _ (hS0.trans (hV2.mono hS0.size)) (fun hS1 => ?_)
        clear hK
        try simp only [Act.put, List.setIfInBounds_toArray, List.set_cons_zero, List.set_cons_succ]
        refine wpAnyH_take (i := 3) (oi := { dst := some 36, op := Go.Op.unOp Go.UnOp.not 4 (Go.Operand.tmp 35), type := 4, pos := "ref.go:106", after := #[{ on := 2, ground := Go.Ground.data }], guard := none }) (v := .bool true) rfl (by kernel_rfl) (by kernel_rfl) (by kernel_rfl) (fun _ _ _ h => h) (Or.inl ⟨by rfl, by intro w2 hSw; (try dsimp only at hSw); go_simp⟩) hS1 ?_
        try simp only [Act.put, List.setIfInBounds_toArray, List.set_cons_zero, List.set_cons_succ]
        refine wpAnyH_take (i := 4) (oi := { dst := some 37, op := Go.Op.move (Go.Operand.tmp 36), type := 4, pos := "ref.go:106", after := #[{ on := 3, ground := Go.Ground.data }, { on := 2, ground := Go.Ground.chain }], guard := none }) (v := .bool true) rfl (by kernel_rfl) (by kernel_rfl) (by kernel_rfl) (fun _ _ _ h => h) (Or.inl ⟨by rfl, by intro w2 hSw; (try dsimp only at hSw); go_simp⟩) hS1 ?_
        try simp only [Act.put, List.setIfInBounds_toArray, List.set_cons_zero, List.set_cons_succ]
        refine wpAnyH_take (i := 5) (oi := { dst := some 38, op := Go.Op.fieldAddr 27 (Go.Operand.tmp 3) 0, type := 0, pos := "ref.go:106", after := #[{ on := 4, ground := Go.Ground.guard }], guard := some (4, true) }) (v := .pointer (some ⟨R + 1, 0, none⟩)) rfl (by kernel_rfl) (by kernel_rfl) (by kernel_rfl) (fun _ _ _ h => h) (Or.inl ⟨by rfl, by intro w2 hSw; (try dsimp only at hSw); go_simp⟩) hS1 ?_
        try simp only [Act.put, List.setIfInBounds_toArray, List.set_cons_zero, List.set_cons_succ]
        refine wpAnyH_take (i := 6) (oi := { dst := some 39, op := Go.Op.load 23 (Go.Operand.tmp 38), type := 23, pos := "ref.go:106", after := #[{ on := 5, ground := Go.Ground.data }, { on := 4, ground := Go.Ground.guard }], guard := some (4, true) }) (v := .slice CL ln lc) rfl (by kernel_rfl) (by kernel_rfl) (by kernel_rfl) (fun _ _ _ h => h) (Or.inl ⟨by rfl, by intro w2 hSw; (try dsimp only at hSw); have z0 := cl0 _ hSw; go_simp⟩) hS1 ?_
        try simp only [Act.put, List.setIfInBounds_toArray, List.set_cons_zero, List.set_cons_succ]
        refine wpAnyH_take (i := 7) (oi := { dst := some 40, op := Go.Op.fieldAddr 25 (Go.Operand.tmp 2) 2, type := 0, pos := "ref.go:106", after := #[{ on := 4, ground := Go.Ground.guard }], guard := some (4, true) }) (v := .pointer (some ⟨R, 2, none⟩)) rfl (by kernel_rfl) (by kernel_rfl) (by kernel_rfl) (fun _ _ _ h => h) (Or.inl ⟨by rfl, by intro w2 hSw; (try dsimp only at hSw); go_simp⟩) hS1 ?_
        try simp only [Act.put, List.setIfInBounds_toArray, List.set_cons_zero, List.set_cons_succ]
        refine wpAnyH_take (i := 8) (oi := { dst := some 41, op := Go.Op.load 22 (Go.Operand.tmp 40), type := 22, pos := "ref.go:106", after := #[{ on := 7, ground := Go.Ground.data }, { on := 4, ground := Go.Ground.guard }], guard := some (4, true) }) (v := .slice (some ⟨bz, oz, none⟩) n cap) rfl (by kernel_rfl) (by kernel_rfl) (by kernel_rfl) (fun _ _ _ h => h) (Or.inl ⟨by rfl, by intro w2 hSw; (try dsimp only at hSw); have z0 := c0 _ hSw; go_simp⟩) hS1 ?_
        try simp only [Act.put, List.setIfInBounds_toArray, List.set_cons_zero, List.set_cons_succ]
        refine wpAnyH_take (i := 9) (oi := { dst := some 42, op := Go.Op.move (Go.Operand.tmp 6), type := 3, pos := "ref.go:106", after := #[{ on := 4, ground := Go.Ground.guard }], guard := some (4, true) }) (v := .int .i64 (k : Int)) rfl (by kernel_rfl) (by kernel_rfl) (by kernel_rfl) (fun _ _ _ h => h) (Or.inl ⟨by rfl, by intro w2 hSw; (try dsimp only at hSw); go_simp⟩) hS1 ?_
        try simp only [Act.put, List.setIfInBounds_toArray, List.set_cons_zero, List.set_cons_succ]
        refine wpAnyH_take (i := 10) (oi := { dst := some 43, op := Go.Op.indexAddr 22 (Go.Operand.tmp 41) (Go.Operand.tmp 42), type := 0, pos := "ref.go:106", after := #[{ on := 8, ground := Go.Ground.data }, { on := 9, ground := Go.Ground.data }, { on := 4, ground := Go.Ground.guard }], guard := some (4, true) }) (v := .pointer (some ⟨bz, oz + k * 2, none⟩)) rfl (by kernel_rfl) (by kernel_rfl) (by kernel_rfl) (fun _ _ _ h => h) (Or.inl ⟨by rfl, by intro w2 hSw; (try dsimp only at hSw); go_simp⟩) hS1 ?_
        try simp only [Act.put, List.setIfInBounds_toArray, List.set_cons_zero, List.set_cons_succ]
        refine wpAnyH_take (i := 11) (oi := { dst := some 44, op := Go.Op.fieldAddr 55 (Go.Operand.tmp 43) 0, type := 0, pos := "ref.go:106", after := #[{ on := 10, ground := Go.Ground.data }, { on := 4, ground := Go.Ground.guard }], guard := some (4, true) }) (v := .pointer (some ⟨bz, oz + k * 2, none⟩)) rfl (by kernel_rfl) (by kernel_rfl) (by kernel_rfl) (fun _ _ _ h => h) (Or.inl ⟨by rfl, by intro w2 hSw; (try dsimp only at hSw); go_simp⟩) hS1 ?_
        try simp only [Act.put, List.setIfInBounds_toArray, List.set_cons_zero, List.set_cons_succ]
        refine wpAnyH_take (i := 12) (oi := { dst := some 45, op := Go.Op.load 3 (Go.Operand.tmp 44), type := 3, pos := "ref.go:106", after := #[{ on := 11, ground := Go.Ground.data }, { on := 4, ground := Go.Ground.guard }], guard := some (4, true) }) (v := .int .i64 xl) rfl (by kernel_rfl) (by kernel_rfl) (by kernel_rfl) (fun _ _ _ h => h) (Or.inl ⟨by rfl, by intro w2 hSw; (try dsimp only at hSw); obtain ⟨z0, z1⟩ := gx _ hSw; go_simp⟩) hS1 ?_
        try simp only [Act.put, List.setIfInBounds_toArray, List.set_cons_zero, List.set_cons_succ]
        refine wpAnyH_ready (rs := [13]) (by kernel_rfl) (by simp) ?_
        refine AllReadyH.cons (o := { dst := some 46, op := Go.Op.call { callee := Go.Callee.value (Go.Operand.func 34), args := #[Go.Operand.tmp 39, Go.Operand.tmp 45], argTypes := #[23, 3] }, type := 4, pos := "ref.go:106", after := #[{ on := 6, ground := Go.Ground.data }, { on := 12, ground := Go.Ground.data }, { on := 4, ground := Go.Ground.chain }, { on := 4, ground := Go.Ground.guard }], guard := some (4, true) }) rfl (fun K hK => ?_) AllReadyH.nil
        go_simp
        refine (in34 CL ln lc cl xl _ (XL.out.below (HB.out.trans (hS1.mono HB.out.size)) (Nat.le_refl _)) (by omega)).mono ?_
        rintro e9 V3 ⟨rfl, rfl⟩
        rw [HLb.out]
        try go_simp
        refine hK.out _ _ hS1 (fun hS2 => ?_)
        clear hK
        try simp only [Act.put, List.setIfInBounds_toArray, List.set_cons_zero, List.set_cons_succ]
        refine wpAnyH_take (i := 14) (oi := { dst := some 47, op := Go.Op.unOp Go.UnOp.not 4 (Go.Operand.tmp 46), type := 4, pos := "ref.go:106", after := #[{ on := 13, ground := Go.Ground.data }, { on := 4, ground := Go.Ground.guard }], guard := some (4, true) }) (v := .bool true) rfl (by kernel_rfl) (by kernel_rfl) (by kernel_rfl) (fun _ _ _ h => h) (Or.inl ⟨by rfl, by intro w2 hSw; (try dsimp only at hSw); go_simp⟩) hS2 ?_
        try simp only [Act.put, List.setIfInBounds_toArray, List.set_cons_zero, List.set_cons_succ]
        refine wpAnyH_take (i := 15) (oi := { dst := some 48, op := Go.Op.pick (Go.Operand.tmp 37) (Go.Operand.tmp 47) (Go.Operand.const (Go.Value.bool false)), type := 4, pos := "ref.go:106", after := #[{ on := 4, ground := Go.Ground.data }, { on := 14, ground := Go.Ground.data }], guard := none }) (v := .bool true) rfl (by kernel_rfl) (by kernel_rfl) (by kernel_rfl) (fun _ _ _ h => h) (Or.inl ⟨by rfl, by intro w2 hSw; (try dsimp only at hSw); go_simp⟩) hS2 ?_
        try simp only [Act.put, List.setIfInBounds_toArray, List.set_cons_zero, List.set_cons_succ]
        refine wpAnyH_take (i := 16) (oi := { dst := some 49, op := Go.Op.move (Go.Operand.tmp 48), type := 4, pos := "ref.go:106", after := #[{ on := 15, ground := Go.Ground.data }, { on := 13, ground := Go.Ground.chain }], guard := none }) (v := .bool true) rfl (by kernel_rfl) (by kernel_rfl) (by kernel_rfl) (fun _ _ _ h => h) (Or.inl ⟨by rfl, by intro w2 hSw; (try dsimp only at hSw); go_simp⟩) hS2 ?_
        try simp only [Act.put, List.setIfInBounds_toArray, List.set_cons_zero, List.set_cons_succ]
        refine wpAnyH_take (i := 17) (oi := { dst := some 50, op := Go.Op.fieldAddr 27 (Go.Operand.tmp 3) 1, type := 0, pos := "ref.go:106", after := #[{ on := 16, ground := Go.Ground.guard }], guard := some (16, true) }) (v := .pointer (some ⟨R + 1, 1, none⟩)) rfl (by kernel_rfl) (by kernel_rfl) (by kernel_rfl) (fun _ _ _ h => h) (Or.inl ⟨by rfl, by intro w2 hSw; (try dsimp only at hSw); go_simp⟩) hS2 ?_
        try simp only [Act.put, List.setIfInBounds_toArray, List.set_cons_zero, List.set_cons_succ]
        refine wpAnyH_take (i := 18) (oi := { dst := some 51, op := Go.Op.load 23 (Go.Operand.tmp 50), type := 23, pos := "ref.go:106", after := #[{ on := 17, ground := Go.Ground.data }, { on := 16, ground := Go.Ground.guard }], guard := some (16, true) }) (v := .slice CR rn rc) rfl (by kernel_rfl) (by kernel_rfl) (by kernel_rfl) (fun _ _ _ h => h) (Or.inl ⟨by rfl, by intro w2 hSw; (try dsimp only at hSw); have z0 := cr0 _ hSw; go_simp⟩) hS2 ?_
        try simp only [Act.put, List.setIfInBounds_toArray, List.set_cons_zero, List.set_cons_succ]
        refine wpAnyH_take (i := 19) (oi := { dst := some 52, op := Go.Op.fieldAddr 25 (Go.Operand.tmp 2) 2, type := 0, pos := "ref.go:106", after := #[{ on := 16, ground := Go.Ground.guard }], guard := some (16, true) }) (v := .pointer (some ⟨R, 2, none⟩)) rfl (by kernel_rfl) (by kernel_rfl) (by kernel_rfl) (fun _ _ _ h => h) (Or.inl ⟨by rfl, by intro w2 hSw; (try dsimp only at hSw); go_simp⟩) hS2 ?_
        try simp only [Act.put, List.setIfInBounds_toArray, List.set_cons_zero, List.set_cons_succ]
        refine wpAnyH_take (i := 20) (oi := { dst := some 53, op := Go.Op.load 22 (Go.Operand.tmp 52), type := 22, pos := "ref.go:106", after := #[{ on := 19, ground := Go.Ground.data }, { on := 16, ground := Go.Ground.guard }], guard := some (16, true) }) (v := .slice (some ⟨bz, oz, none⟩) n cap) rfl (by kernel_rfl) (by kernel_rfl) (by kernel_rfl) (fun _ _ _ h => h) (Or.inl ⟨by rfl, by intro w2 hSw; (try dsimp only at hSw); have z0 := c0 _ hSw; go_simp⟩) hS2 ?_
        try simp only [Act.put, List.setIfInBounds_toArray, List.set_cons_zero, List.set_cons_succ]
        refine wpAnyH_take (i := 21) (oi := { dst := some 54, op := Go.Op.move (Go.Operand.tmp 6), type := 3, pos := "ref.go:106", after := #[{ on := 16, ground := Go.Ground.guard }], guard := some (16, true) }) (v := .int .i64 (k : Int)) rfl (by kernel_rfl) (by kernel_rfl) (by kernel_rfl) (fun _ _ _ h => h) (Or.inl ⟨by rfl, by intro w2 hSw; (try dsimp only at hSw); go_simp⟩) hS2 ?_
        try simp only [Act.put, List.setIfInBounds_toArray, List.set_cons_zero, List.set_cons_succ]
        refine wpAnyH_take (i := 22) (oi := { dst := some 55, op := Go.Op.indexAddr 22 (Go.Operand.tmp 53) (Go.Operand.tmp 54), type := 0, pos := "ref.go:106", after := #[{ on := 20, ground := Go.Ground.data }, { on := 21, ground := Go.Ground.data }, { on := 16, ground := Go.Ground.guard }], guard := some (16, true) }) (v := .pointer (some ⟨bz, oz + k * 2, none⟩)) rfl (by kernel_rfl) (by kernel_rfl) (by kernel_rfl) (fun _ _ _ h => h) (Or.inl ⟨by rfl, by intro w2 hSw; (try dsimp only at hSw); go_simp⟩) hS2 ?_
        try simp only [Act.put, List.setIfInBounds_toArray, List.set_cons_zero, List.set_cons_succ]
        refine wpAnyH_take (i := 23) (oi := { dst := some 56, op := Go.Op.fieldAddr 55 (Go.Operand.tmp 55) 1, type := 0, pos := "ref.go:106", after := #[{ on := 22, ground := Go.Ground.data }, { on := 16, ground := Go.Ground.guard }], guard := some (16, true) }) (v := .pointer (some ⟨bz, oz + k * 2 + 1, none⟩)) rfl (by kernel_rfl) (by kernel_rfl) (by kernel_rfl) (fun _ _ _ h => h) (Or.inl ⟨by rfl, by intro w2 hSw; (try dsimp only at hSw); go_simp⟩) hS2 ?_
        try simp only [Act.put, List.setIfInBounds_toArray, List.set_cons_zero, List.set_cons_succ]
        refine wpAnyH_take (i := 24) (oi := { dst := some 57, op := Go.Op.load 3 (Go.Operand.tmp 56), type := 3, pos := "ref.go:106", after := #[{ on := 23, ground := Go.Ground.data }, { on := 16, ground := Go.Ground.guard }], guard := some (16, true) }) (v := .int .i64 xh) rfl (by kernel_rfl) (by kernel_rfl) (by kernel_rfl) (fun _ _ _ h => h) (Or.inl ⟨by rfl, by intro w2 hSw; (try dsimp only at hSw); obtain ⟨z0, z1⟩ := gx _ hSw; go_simp⟩) hS2 ?_
        try simp only [Act.put, List.setIfInBounds_toArray, List.set_cons_zero, List.set_cons_succ]
        refine wpAnyH_ready (rs := [25]) (by kernel_rfl) (by simp) ?_
        refine AllReadyH.cons (o := { dst := some 58, op := Go.Op.call { callee := Go.Callee.value (Go.Operand.func 34), args := #[Go.Operand.tmp 51, Go.Operand.tmp 57], argTypes := #[23, 3] }, type := 4, pos := "ref.go:106", after := #[{ on := 18, ground := Go.Ground.data }, { on := 24, ground := Go.Ground.data }, { on := 16, ground := Go.Ground.chain }, { on := 16, ground := Go.Ground.guard }], guard := some (16, true) }) rfl (fun K hK => ?_) AllReadyH.nil
        go_simp
        refine (in34 CR rn rc cr xh _ (XR.out.below (HB.out.trans (hS2.mono HB.out.size)) (Nat.le_refl _)) (by omega)).mono ?_
        rintro e9 V3 ⟨rfl, rfl⟩
        rw [HRb.out]
        try go_simp
        refine hK.out _ _ hS2 (fun hS3 => ?_)
        clear hK
        try simp only [Act.put, List.setIfInBounds_toArray, List.set_cons_zero, List.set_cons_succ]
        refine wpAnyH_take (i := 26) (oi := { dst := some 59, op := Go.Op.unOp Go.UnOp.not 4 (Go.Operand.tmp 58), type := 4, pos := "ref.go:106", after := #[{ on := 25, ground := Go.Ground.data }, { on := 16, ground := Go.Ground.guard }], guard := some (16, true) }) (v := .bool true) rfl (by kernel_rfl) (by kernel_rfl) (by kernel_rfl) (fun _ _ _ h => h) (Or.inl ⟨by rfl, by intro w2 hSw; (try dsimp only at hSw); go_simp⟩) hS3 ?_
        try simp only [Act.put, List.setIfInBounds_toArray, List.set_cons_zero, List.set_cons_succ]
        refine wpAnyH_take (i := 27) (oi := { dst := some 60, op := Go.Op.pick (Go.Operand.tmp 49) (Go.Operand.tmp 59) (Go.Operand.const (Go.Value.bool false)), type := 4, pos := "ref.go:106", after := #[{ on := 16, ground := Go.Ground.data }, { on := 26, ground := Go.Ground.data }], guard := none }) (v := .bool true) rfl (by kernel_rfl) (by kernel_rfl) (by kernel_rfl) (fun _ _ _ h => h) (Or.inl ⟨by rfl, by intro w2 hSw; (try dsimp only at hSw); go_simp⟩) hS3 ?_
        try simp only [Act.put, List.setIfInBounds_toArray, List.set_cons_zero, List.set_cons_succ]
        refine wpAnyH_done (by kernel_rfl) ?_ _
        have HBE := Lib.hid (HB.out.trans (hS3.mono HB.out.size))
        clear c0 cA cl0 cr0 gx hS0 hS1 hS2 hS3
        have HE := Lib.hid (chc_14 HC.out HRr.out (by rw [HZl.out]; exact Hst.out (by rw [Hcv.out]; rfl)))
        go_wp2_with fail
        refine bodyPost_ret (v := .tuple #[.int .i64 0, .int .i64 14]) (by simp [results, Try.results17, go_sem]) rfl ?_
        exact ⟨ret_two (szc_no HE.out (by decide)).symm (HE.out).symm, B.out.trans (HBE.out.mono B.out.size)⟩
    · obtain rfl : k = n := by omega
      have HE := Lib.hid (chc_0 (zs := zs) (ks := ks) HC.out HRr.out (by rw [HZl.out]; exact HV.out.1))
      have HSz := Lib.hid (show szC sl sr zs ks cl cr = (ln : Int) + (rn : Int) + (kn : Int) by rw [szc_0 HE.out, HLl.out, HRl.out, HNl.out])
      have q1 : IntKind.i64.wrap ((ln : Int) + (rn : Int)) = (ln : Int) + (rn : Int) := IntWalk.i64_in _ (by omega)
      have q2 : IntKind.i64.wrap ((ln : Int) + (rn : Int) + (kn : Int)) = (ln : Int) + (rn : Int) + (kn : Int) := IntWalk.i64_in _ (by omega)
      have s0 : wk.cell? ⟨R, 0, none⟩ = some (.int .i64 sl) := by rw [cell_row hrk]; rfl
      have s1 : wk.cell? ⟨R, 1, none⟩ = some (.int .i64 sr) := by rw [cell_row hrk]; rfl
      have s2 : wk.cell? ⟨R, 2, none⟩ = some (.slice A k cap) := by rw [cell_row hrk]; rfl
      have s3 : wk.cell? ⟨R, 3, none⟩ = some (.slice A2 kn kc) := by rw [cell_row hrk]; rfl
      have e0 : wk.cell? ⟨R + 1, 0, none⟩ = some (.slice CL ln lc) := by rw [cell_row hck]; rfl
      have e1 : wk.cell? ⟨R + 1, 1, none⟩ = some (.slice CR rn rc) := by rw [cell_row hck]; rfl
      go_wp2_with fail
      refine bodyPost_ret (v := .tuple #[.int .i64 ((ln : Int) + (rn : Int) + (kn : Int)), .int .i64 0]) (by simp [results, Try.results17, go_sem]) rfl ?_
      exact ⟨ret_two (HSz.out).symm (HE.out).symm, B.out.trans (HB.out.mono B.out.size)⟩
end
end Go.Proofs.Ytnodkgejggnehaa
