/- Stage 6: NameTurned. -/
import Derived.Test.YtigohccehllmnaaSde
import Derived.Test.YtigohccehllmnaaTu
namespace Go.Proofs.Ytigohccehllmnaa
set_option linter.unusedSimpArgs false
set_option linter.unusedVariables false
open Go.RowKit Go.Shelf

theorem fine_yes {l : NL} (h : fineL l = true) : grtL l = false ∧ chkL l = 0 := by
  unfold fineL at h
  simpa using h
theorem sdL_at (R R' : Int → Bool) {n x : Nat} (h : x < n) : iAt (sdL R R' n) x = sdV R R' (x : Int) := by
  rw [iAt_eq (by rw [sdL_len]; exact h)]; simp [sdL]
theorem sdV_in (R R' : Int → Bool) (x : Int) : -1 ≤ sdV R R' x ∧ sdV R R' x ≤ 1 := by
  unfold sdV
  split
  · omega
  · split <;> omega
section
attribute [local go_sem ↓] exec_app at_app
attribute [local go_sem] Oper.semAt_some
set_option maxRecDepth 100000 in
set_option maxHeartbeats 40000000 in
theorem turned10 (l : NL) (w : World) (h : NLo w l) :
    Calls Try.prog 10 #[.agg #[.int .i64 l.N, .slice l.A l.n l.cap, .slice l.LA l.ln l.lc, .slice l.RA l.rn l.rc]] w fun e w' => e = .returned (.bool true) ∧ Below w.heap.size w w' := by
  obtain ⟨R, hR⟩ : ∃ v, w.heap.size = v := ⟨_, rfl⟩
  have hb0 := below_alloc_ w (.cells #[.int .i64 l.N, .slice l.A l.n l.cap, .slice l.LA l.ln l.lc, .slice l.RA l.rn l.rc] 25)
  have hr0 := heap_alloc_new_ w (.cells #[.int .i64 l.N, .slice l.A l.n l.cap, .slice l.LA l.ln l.lc, .slice l.RA l.rn l.rc] 25)
  have hz0 : (w.alloc (.cells #[.int .i64 l.N, .slice l.A l.n l.cap, .slice l.LA l.ln l.lc, .slice l.RA l.rn l.rc] 25)).heap.size = w.heap.size + 1 := by simp
  obtain ⟨w0, hw0⟩ : ∃ v, w.alloc (.cells #[.int .i64 l.N, .slice l.A l.n l.cap, .slice l.LA l.ln l.lc, .slice l.RA l.rn l.rc] 25) = v := ⟨_, rfl⟩
  rw [hw0] at hb0 hr0 hz0
  rw [hR] at hr0 hz0
  have hB := hb0
  have LO := Lib.hid (h.below hB (Nat.le_refl _))
  have X := Lib.hid hr0
  have HW0 := Lib.hid hw0
  have B := Lib.hid hB
  have HR := Lib.hid hR
  clear hB hR hb0 hr0 hz0 hw0 h
  have ltX : R < w0.heap.size := lt_of_block X.out
  have zX0 : w0.cell? ⟨R, 0, none⟩ = some (.int .i64 l.N) := by rw [cell_row X.out]; rfl
  have zX1 : w0.cell? ⟨R, 1, none⟩ = some (.slice l.A l.n l.cap) := by rw [cell_row X.out]; rfl
  have zX2 : w0.cell? ⟨R, 2, none⟩ = some (.slice l.LA l.ln l.lc) := by rw [cell_row X.out]; rfl
  have zX3 : w0.cell? ⟨R, 3, none⟩ = some (.slice l.RA l.rn l.rc) := by rw [cell_row X.out]; rfl
  go_enter Try.func10, Try.ntmps10
  go_wp2_with fail
  try rw [HW0.out]
  try rw [HR.out]
  try simp only [Nat.add_assoc, Nat.reduceAdd]
  try go_wp2_with fail
  clear zX0 zX1 zX2 zX3 ltX
  refine (fineO l w0 LO.out).mono ?_
  rintro en w1 ⟨rfl, hb⟩
  replace LO := Lib.hid (LO.out.below hb (Nat.le_refl _))
  replace X := Lib.hid ((hb.block _ (lt_of_block X.out)).trans X.out)
  replace B := Lib.hid (B.out.trans (hb.mono B.out.size))
  cases hg : fineL l
  try clear hb
  · clear hg
    have ltX : R < w1.heap.size := lt_of_block X.out
    have zX0 : w1.cell? ⟨R, 0, none⟩ = some (.int .i64 l.N) := by rw [cell_row X.out]; rfl
    have zX1 : w1.cell? ⟨R, 1, none⟩ = some (.slice l.A l.n l.cap) := by rw [cell_row X.out]; rfl
    have zX2 : w1.cell? ⟨R, 2, none⟩ = some (.slice l.LA l.ln l.lc) := by rw [cell_row X.out]; rfl
    have zX3 : w1.cell? ⟨R, 3, none⟩ = some (.slice l.RA l.rn l.rc) := by rw [cell_row X.out]; rfl
    go_wp2_with fail
    clear zX0 zX1 zX2 zX3 ltX
    refine (works14 w1).mono ?_
    rintro en w2 ⟨rfl, hb⟩
    replace B := Lib.hid (B.out.trans (hb.mono B.out.size))
    clear hb
    go_wp2_with fail
    go_ret
    exact ⟨rfl, B.out⟩
  have S := Lib.hid (LO.out.nls (fine_yes hg).1)
  have HCH := Lib.hid (fine_yes hg).2
  clear hg
  have hN := (chk_zero HCH.out).1
  obtain ⟨c, hcN⟩ : ∃ c : Nat, l.N = (c : Int) := ⟨l.N.toNat, by omega⟩
  have HCN := Lib.hid hcN
  have HTO := Lib.hid (show l.N.toNat = c by omega)
  have HC40 := Lib.hid (show c ≤ 40 by omega)
  have HN12 := Lib.hid (chk_zero HCH.out).2.1
  clear hN hcN
  have ltX : R < w1.heap.size := lt_of_block X.out
  have zX0 : w1.cell? ⟨R, 0, none⟩ = some (.int .i64 l.N) := by rw [cell_row X.out]; rfl
  have zX1 : w1.cell? ⟨R, 1, none⟩ = some (.slice l.A l.n l.cap) := by rw [cell_row X.out]; rfl
  have zX2 : w1.cell? ⟨R, 2, none⟩ = some (.slice l.LA l.ln l.lc) := by rw [cell_row X.out]; rfl
  have zX3 : w1.cell? ⟨R, 3, none⟩ = some (.slice l.RA l.rn l.rc) := by rw [cell_row X.out]; rfl
  have hb := below_alloc_ w1 (.cells #[.int .i64 l.N, .slice l.A l.n l.cap, .slice l.RA l.rn l.rc, .slice l.LA l.ln l.lc] 25)
  have hr := heap_alloc_new_ w1 (.cells #[.int .i64 l.N, .slice l.A l.n l.cap, .slice l.RA l.rn l.rc, .slice l.LA l.ln l.lc] 25)
  obtain ⟨w2, hw2⟩ : ∃ v, w1.alloc (.cells #[.int .i64 l.N, .slice l.A l.n l.cap, .slice l.RA l.rn l.rc, .slice l.LA l.ln l.lc] 25) = v := ⟨_, rfl⟩
  obtain ⟨RX, hRX⟩ : ∃ v, w1.heap.size = v := ⟨_, rfl⟩
  rw [hw2] at hb hr
  rw [hRX] at hr
  have Hw2 := Lib.hid hw2
  have HRX := Lib.hid hRX
  clear hw2 hRX
  replace LO := Lib.hid (LO.out.below hb (Nat.le_refl _))
  replace S := Lib.hid (S.out.below hb (Nat.le_refl _))
  replace X := Lib.hid ((hb.block _ (lt_of_block X.out)).trans X.out)
  replace B := Lib.hid (B.out.trans (hb.mono B.out.size))
  clear hb
  have XX := Lib.hid hr
  clear hr
  go_upto_region 4 with fail
  rw [Hw2.out]
  rw [HRX.out]
  clear zX0 zX1 zX2 zX3 ltX
  have ltX : R < w2.heap.size := lt_of_block X.out
  have zX0 : w2.cell? ⟨R, 0, none⟩ = some (.int .i64 l.N) := by rw [cell_row X.out]; rfl
  have zX1 : w2.cell? ⟨R, 1, none⟩ = some (.slice l.A l.n l.cap) := by rw [cell_row X.out]; rfl
  have zX2 : w2.cell? ⟨R, 2, none⟩ = some (.slice l.LA l.ln l.lc) := by rw [cell_row X.out]; rfl
  have zX3 : w2.cell? ⟨R, 3, none⟩ = some (.slice l.RA l.rn l.rc) := by rw [cell_row X.out]; rfl
  have ltXX : RX < w2.heap.size := lt_of_block XX.out
  have zXX0 : w2.cell? ⟨RX, 0, none⟩ = some (.int .i64 l.N) := by rw [cell_row XX.out]; rfl
  have zXX1 : w2.cell? ⟨RX, 1, none⟩ = some (.slice l.A l.n l.cap) := by rw [cell_row XX.out]; rfl
  have zXX2 : w2.cell? ⟨RX, 2, none⟩ = some (.slice l.RA l.rn l.rc) := by rw [cell_row XX.out]; rfl
  have zXX3 : w2.cell? ⟨RX, 3, none⟩ = some (.slice l.LA l.ln l.lc) := by rw [cell_row XX.out]; rfl
  have hbY := below_alloc_ w2 (.cells #[.int .i64 l.N, .slice none 0 0, .slice l.LA l.ln l.lc, .slice l.RA l.rn l.rc] 25)
  have hrY := heap_alloc_new_ w2 (.cells #[.int .i64 l.N, .slice none 0 0, .slice l.LA l.ln l.lc, .slice l.RA l.rn l.rc] 25)
  obtain ⟨w3, hw3⟩ : ∃ v, w2.alloc (.cells #[.int .i64 l.N, .slice none 0 0, .slice l.LA l.ln l.lc, .slice l.RA l.rn l.rc] 25) = v := ⟨_, rfl⟩
  obtain ⟨Y, hY⟩ : ∃ v, w2.heap.size = v := ⟨_, rfl⟩
  rw [hw3] at hbY hrY
  rw [hY] at hrY
  have HW3 := Lib.hid hw3
  have HY := Lib.hid hY
  have HY0 := Lib.hid (show w3.heap[Y]? = some (.cells #[.int .i64 l.N, .slice none 0 0, .slice l.LA l.ln l.lc, .slice l.RA l.rn l.rc] 25 (0, 0)) ∧ Below w2.heap.size w2 w3 from ⟨hrY, hbY⟩)
  have HRY := Lib.hid (show R < Y ∧ RX < Y by rw [← hY]; exact ⟨lt_of_block X.out, lt_of_block XX.out⟩)
  clear hbY hrY hw3 hY
  go_upto_region 5 with fail
  rw [HW3.out]
  rw [HY.out]
  clear zX0 zX1 zX2 zX3 zXX0 zXX1 zXX2 zXX3 ltX ltXX
  have Xk := Lib.hid ((HY0.out.2.block _ (lt_of_block X.out)).trans X.out)
  have zX1 : w3.cell? ⟨R, 1, none⟩ = some (.slice l.A l.n l.cap) := by rw [cell_row Xk.out]; rfl
  have hn12 := HN12.out
  have hwr : IntKind.i64.wrap ((l.n : Int) - 1) = (l.n : Int) - 1 := IntWalk.i64_in _ (by omega)
  go_wp2_with fail
  clear zX1 hwr hn12 Xk
  go_loopw [5] (fun i wr => ∃ k : Nat, k ≤ l.n ∧ i = .int .i64 ((l.n : Int) - 1 - (k : Int)) ∧ Hid (∃ v0 : Value, wr.heap[Y]? = some (.cells #[.int .i64 l.N, v0, .slice l.LA l.ln l.lc, .slice l.RA l.rn l.rc] 25 (0, 0)) ∧ wr.ownsRow 0 60 3 v0 k (flatN (rvN l.zs k)) ∧ (∀ g, v0.ownBlock = some g → w2.heap.size ≤ g ∧ g ≠ Y) ∧ Below w2.heap.size w2 wr)) (fun i _ => (intOf i + 1).toNat)
  case atStart => exact ⟨0, Nat.zero_le _, by simp, Lib.hid ⟨_, HY0.out.1, own_nil _ _ _, fun g e => (by cases e), HY0.out.2⟩⟩
  case round =>
    obtain ⟨k, hk9, rfl, HX⟩ := hrel
    obtain ⟨wk, rfl⟩ : ∃ wk, wk = wr := ⟨_, rfl⟩
    obtain ⟨v0, hyb, hrow, hnew, hbk⟩ := HX.out
    clear HX
    have hn12 := HN12.out
    by_cases hlt : k < l.n
    · obtain ⟨q, hq⟩ : ∃ q : Nat, (l.n : Int) - 1 - (k : Int) = (q : Int) := ⟨l.n - 1 - k, by omega⟩
      have hq2 : q = l.n - 1 - k := by omega
      obtain ⟨ba, oa, hA, hcz⟩ := (S.out.zs.below hbk (Nat.le_refl _)).2 (by omega)
      obtain ⟨z0, z1, z2⟩ := hcz q (by omega)
      have hrv : rvN l.zs (k + 1) = rvN l.zs k ++ [swN (lAt l.zs q)] := by rw [rvN, S.out.zs.1, ← hq2]
      have htr := chk_tr HCH.out S.out q (by omega)
      have Xk := Lib.hid ((hbk.block _ (lt_of_block X.out)).trans X.out)
      obtain ⟨g3, hg⟩ : ∃ g, lAt l.zs q = g := ⟨_, rfl⟩
      rw [hg] at z0 z1 z2 hrv htr
      obtain ⟨gl, gh, gt⟩ := g3
      simp only at z0 z1 z2 htr
      have hlA : ba < w2.heap.size := by
        obtain ⟨b9, o9, e9, h9⟩ := S.out.zs.2 (by omega)
        rw [hA] at e9
        cases e9
        exact lt_of_cell (h9 q (by omega)).1
      have HLA := Lib.hid hlA
      have Hrv := Lib.hid (show rvN l.zs (k + 1) = rvN l.zs k ++ [⟨gh, gl, gt⟩] from hrv)
      have HYB := Lib.hid hyb
      have HRW := Lib.hid hrow
      have HNW := Lib.hid hnew
      have HBk := Lib.hid hbk
      have zr : wk.cell? ⟨R, 1, none⟩ = some (.slice (some ⟨ba, oa, none⟩) l.n l.cap) := by rw [← hA, cell_row Xk.out]; rfl
      have zy : wk.cell? ⟨Y, 1, none⟩ = some v0 := by rw [cell_row HYB.out]; rfl
      have Hlt := Lib.hid hlt
      have Hq := Lib.hid hq
      rw [hq]
      have i0 : (0 : Int) ≤ (q : Int) := by omega
      have i1 : (q : Int) < (l.n : Int) := by omega
      clear hq hq2 hA hcz hrv hg hlA hyb hrow hnew hbk htr
      go_upto_region 8 with fail
      refine Zed.region_z (z := 24) (S := fun wS => Keeps (fun j => v0.ownBlock = some j) wk wS) (by kernel_rfl) (Keeps.of_new (drew_b _ _)) (fun hS0 => ?_)
      refine Zed.anyZ_take (i := 0) (oi := { dst := some 50, op := Go.Op.fieldAddr 25 (Go.Operand.tmp 4) 1, type := 0, pos := "outright.go:148", after := #[], guard := none }) (v := .pointer (some ⟨Y, 1, none⟩)) rfl (by decide) (by kernel_rfl) (by kernel_rfl) (by kernel_rfl) (by kernel_rfl) (fun _ _ _ h => h) (Or.inl ⟨by rfl, by intro w2 hSw; (try dsimp only at hSw); have aR := HRY.out; have aL := HLA.out; have aN := fun g (e : v0.ownBlock = some g) => HNW.out g e; have aY := HY.out; have aB := HBk.out.size; have yr := (keep_cells hSw (lt_of_cell zr) (fun e => by have := aN _ e; omega) 1).trans zr; have yy := (keep_cells hSw (lt_of_cell zy) (fun e => by have := aN _ e; omega) 1).trans zy; have y0 := (keep_cells hSw (lt_of_cell z0) (fun e => by have := aN _ e; omega) (oa + q * 3)).trans z0; have y1 := (keep_cells hSw (lt_of_cell z1) (fun e => by have := aN _ e; omega) (oa + q * 3 + 1)).trans z1; have y2 := (keep_cells hSw (lt_of_cell z2) (fun e => by have := aN _ e; omega) (oa + q * 3 + 2)).trans z2; go_simp⟩) hS0 ?_
      try simp only [Act.put, List.setIfInBounds_toArray, List.set_cons_zero, List.set_cons_succ]
      refine Zed.anyZ_take (i := 1) (oi := { dst := some 51, op := Go.Op.load 22 (Go.Operand.tmp 50), type := 22, pos := "outright.go:148", after := #[{ on := 0, ground := Go.Ground.data }], guard := none }) (v := v0) rfl (by decide) (by kernel_rfl) (by kernel_rfl) (by kernel_rfl) (by kernel_rfl) (fun _ _ _ h => h) (Or.inl ⟨by rfl, by intro w2 hSw; (try dsimp only at hSw); have aR := HRY.out; have aL := HLA.out; have aN := fun g (e : v0.ownBlock = some g) => HNW.out g e; have aY := HY.out; have aB := HBk.out.size; have yr := (keep_cells hSw (lt_of_cell zr) (fun e => by have := aN _ e; omega) 1).trans zr; have yy := (keep_cells hSw (lt_of_cell zy) (fun e => by have := aN _ e; omega) 1).trans zy; have y0 := (keep_cells hSw (lt_of_cell z0) (fun e => by have := aN _ e; omega) (oa + q * 3)).trans z0; have y1 := (keep_cells hSw (lt_of_cell z1) (fun e => by have := aN _ e; omega) (oa + q * 3 + 1)).trans z1; have y2 := (keep_cells hSw (lt_of_cell z2) (fun e => by have := aN _ e; omega) (oa + q * 3 + 2)).trans z2; go_simp⟩) hS0 ?_
      try simp only [Act.put, List.setIfInBounds_toArray, List.set_cons_zero, List.set_cons_succ]
      refine Zed.anyZ_take (i := 2) (oi := { dst := some 52, op := Go.Op.fieldAddr 25 (Go.Operand.tmp 1) 1, type := 0, pos := "outright.go:148", after := #[], guard := none }) (v := .pointer (some ⟨R, 1, none⟩)) rfl (by decide) (by kernel_rfl) (by kernel_rfl) (by kernel_rfl) (by kernel_rfl) (fun _ _ _ h => h) (Or.inl ⟨by rfl, by intro w2 hSw; (try dsimp only at hSw); have aR := HRY.out; have aL := HLA.out; have aN := fun g (e : v0.ownBlock = some g) => HNW.out g e; have aY := HY.out; have aB := HBk.out.size; have yr := (keep_cells hSw (lt_of_cell zr) (fun e => by have := aN _ e; omega) 1).trans zr; have yy := (keep_cells hSw (lt_of_cell zy) (fun e => by have := aN _ e; omega) 1).trans zy; have y0 := (keep_cells hSw (lt_of_cell z0) (fun e => by have := aN _ e; omega) (oa + q * 3)).trans z0; have y1 := (keep_cells hSw (lt_of_cell z1) (fun e => by have := aN _ e; omega) (oa + q * 3 + 1)).trans z1; have y2 := (keep_cells hSw (lt_of_cell z2) (fun e => by have := aN _ e; omega) (oa + q * 3 + 2)).trans z2; go_simp⟩) hS0 ?_
      try simp only [Act.put, List.setIfInBounds_toArray, List.set_cons_zero, List.set_cons_succ]
      refine Zed.anyZ_take (i := 3) (oi := { dst := some 53, op := Go.Op.load 22 (Go.Operand.tmp 52), type := 22, pos := "outright.go:148", after := #[{ on := 2, ground := Go.Ground.data }], guard := none }) (v := .slice (some ⟨ba, oa, none⟩) l.n l.cap) rfl (by decide) (by kernel_rfl) (by kernel_rfl) (by kernel_rfl) (by kernel_rfl) (fun _ _ _ h => h) (Or.inl ⟨by rfl, by intro w2 hSw; (try dsimp only at hSw); have aR := HRY.out; have aL := HLA.out; have aN := fun g (e : v0.ownBlock = some g) => HNW.out g e; have aY := HY.out; have aB := HBk.out.size; have yr := (keep_cells hSw (lt_of_cell zr) (fun e => by have := aN _ e; omega) 1).trans zr; have yy := (keep_cells hSw (lt_of_cell zy) (fun e => by have := aN _ e; omega) 1).trans zy; have y0 := (keep_cells hSw (lt_of_cell z0) (fun e => by have := aN _ e; omega) (oa + q * 3)).trans z0; have y1 := (keep_cells hSw (lt_of_cell z1) (fun e => by have := aN _ e; omega) (oa + q * 3 + 1)).trans z1; have y2 := (keep_cells hSw (lt_of_cell z2) (fun e => by have := aN _ e; omega) (oa + q * 3 + 2)).trans z2; go_simp⟩) hS0 ?_
      try simp only [Act.put, List.setIfInBounds_toArray, List.set_cons_zero, List.set_cons_succ]
      refine Zed.anyZ_take (i := 4) (oi := { dst := some 54, op := Go.Op.move (Go.Operand.tmp 5), type := 3, pos := "outright.go:148", after := #[], guard := none }) (v := .int .i64 (q : Int)) rfl (by decide) (by kernel_rfl) (by kernel_rfl) (by kernel_rfl) (by kernel_rfl) (fun _ _ _ h => h) (Or.inl ⟨by rfl, by intro w2 hSw; (try dsimp only at hSw); have aR := HRY.out; have aL := HLA.out; have aN := fun g (e : v0.ownBlock = some g) => HNW.out g e; have aY := HY.out; have aB := HBk.out.size; have yr := (keep_cells hSw (lt_of_cell zr) (fun e => by have := aN _ e; omega) 1).trans zr; have yy := (keep_cells hSw (lt_of_cell zy) (fun e => by have := aN _ e; omega) 1).trans zy; have y0 := (keep_cells hSw (lt_of_cell z0) (fun e => by have := aN _ e; omega) (oa + q * 3)).trans z0; have y1 := (keep_cells hSw (lt_of_cell z1) (fun e => by have := aN _ e; omega) (oa + q * 3 + 1)).trans z1; have y2 := (keep_cells hSw (lt_of_cell z2) (fun e => by have := aN _ e; omega) (oa + q * 3 + 2)).trans z2; go_simp⟩) hS0 ?_
      try simp only [Act.put, List.setIfInBounds_toArray, List.set_cons_zero, List.set_cons_succ]
      refine Zed.anyZ_take (i := 5) (oi := { dst := some 55, op := Go.Op.indexAddr 22 (Go.Operand.tmp 53) (Go.Operand.tmp 54), type := 0, pos := "outright.go:148", after := #[{ on := 3, ground := Go.Ground.data }, { on := 4, ground := Go.Ground.data }], guard := none }) (v := .pointer (some ⟨ba, oa + q * 3, none⟩)) rfl (by decide) (by kernel_rfl) (by kernel_rfl) (by kernel_rfl) (by kernel_rfl) (fun _ _ _ h => h) (Or.inl ⟨by rfl, by intro w2 hSw; (try dsimp only at hSw); have aR := HRY.out; have aL := HLA.out; have aN := fun g (e : v0.ownBlock = some g) => HNW.out g e; have aY := HY.out; have aB := HBk.out.size; have yr := (keep_cells hSw (lt_of_cell zr) (fun e => by have := aN _ e; omega) 1).trans zr; have yy := (keep_cells hSw (lt_of_cell zy) (fun e => by have := aN _ e; omega) 1).trans zy; have y0 := (keep_cells hSw (lt_of_cell z0) (fun e => by have := aN _ e; omega) (oa + q * 3)).trans z0; have y1 := (keep_cells hSw (lt_of_cell z1) (fun e => by have := aN _ e; omega) (oa + q * 3 + 1)).trans z1; have y2 := (keep_cells hSw (lt_of_cell z2) (fun e => by have := aN _ e; omega) (oa + q * 3 + 2)).trans z2; go_simp⟩) hS0 ?_
      try simp only [Act.put, List.setIfInBounds_toArray, List.set_cons_zero, List.set_cons_succ]
      refine Zed.anyZ_take (i := 6) (oi := { dst := some 56, op := Go.Op.fieldAddr 60 (Go.Operand.tmp 55) 1, type := 0, pos := "outright.go:148", after := #[{ on := 5, ground := Go.Ground.data }], guard := none }) (v := .pointer (some ⟨ba, oa + q * 3 + 1, none⟩)) rfl (by decide) (by kernel_rfl) (by kernel_rfl) (by kernel_rfl) (by kernel_rfl) (fun _ _ _ h => h) (Or.inl ⟨by rfl, by intro w2 hSw; (try dsimp only at hSw); have aR := HRY.out; have aL := HLA.out; have aN := fun g (e : v0.ownBlock = some g) => HNW.out g e; have aY := HY.out; have aB := HBk.out.size; have yr := (keep_cells hSw (lt_of_cell zr) (fun e => by have := aN _ e; omega) 1).trans zr; have yy := (keep_cells hSw (lt_of_cell zy) (fun e => by have := aN _ e; omega) 1).trans zy; have y0 := (keep_cells hSw (lt_of_cell z0) (fun e => by have := aN _ e; omega) (oa + q * 3)).trans z0; have y1 := (keep_cells hSw (lt_of_cell z1) (fun e => by have := aN _ e; omega) (oa + q * 3 + 1)).trans z1; have y2 := (keep_cells hSw (lt_of_cell z2) (fun e => by have := aN _ e; omega) (oa + q * 3 + 2)).trans z2; go_simp⟩) hS0 ?_
      try simp only [Act.put, List.setIfInBounds_toArray, List.set_cons_zero, List.set_cons_succ]
      refine Zed.anyZ_take (i := 7) (oi := { dst := some 57, op := Go.Op.load 3 (Go.Operand.tmp 56), type := 3, pos := "outright.go:148", after := #[{ on := 6, ground := Go.Ground.data }], guard := none }) (v := .int .i64 gh) rfl (by decide) (by kernel_rfl) (by kernel_rfl) (by kernel_rfl) (by kernel_rfl) (fun _ _ _ h => h) (Or.inl ⟨by rfl, by intro w2 hSw; (try dsimp only at hSw); have aR := HRY.out; have aL := HLA.out; have aN := fun g (e : v0.ownBlock = some g) => HNW.out g e; have aY := HY.out; have aB := HBk.out.size; have yr := (keep_cells hSw (lt_of_cell zr) (fun e => by have := aN _ e; omega) 1).trans zr; have yy := (keep_cells hSw (lt_of_cell zy) (fun e => by have := aN _ e; omega) 1).trans zy; have y0 := (keep_cells hSw (lt_of_cell z0) (fun e => by have := aN _ e; omega) (oa + q * 3)).trans z0; have y1 := (keep_cells hSw (lt_of_cell z1) (fun e => by have := aN _ e; omega) (oa + q * 3 + 1)).trans z1; have y2 := (keep_cells hSw (lt_of_cell z2) (fun e => by have := aN _ e; omega) (oa + q * 3 + 2)).trans z2; go_simp⟩) hS0 ?_
      try simp only [Act.put, List.setIfInBounds_toArray, List.set_cons_zero, List.set_cons_succ]
      refine Zed.anyZ_take (i := 8) (oi := { dst := some 58, op := Go.Op.fieldAddr 25 (Go.Operand.tmp 1) 1, type := 0, pos := "outright.go:148", after := #[], guard := none }) (v := .pointer (some ⟨R, 1, none⟩)) rfl (by decide) (by kernel_rfl) (by kernel_rfl) (by kernel_rfl) (by kernel_rfl) (fun _ _ _ h => h) (Or.inl ⟨by rfl, by intro w2 hSw; (try dsimp only at hSw); have aR := HRY.out; have aL := HLA.out; have aN := fun g (e : v0.ownBlock = some g) => HNW.out g e; have aY := HY.out; have aB := HBk.out.size; have yr := (keep_cells hSw (lt_of_cell zr) (fun e => by have := aN _ e; omega) 1).trans zr; have yy := (keep_cells hSw (lt_of_cell zy) (fun e => by have := aN _ e; omega) 1).trans zy; have y0 := (keep_cells hSw (lt_of_cell z0) (fun e => by have := aN _ e; omega) (oa + q * 3)).trans z0; have y1 := (keep_cells hSw (lt_of_cell z1) (fun e => by have := aN _ e; omega) (oa + q * 3 + 1)).trans z1; have y2 := (keep_cells hSw (lt_of_cell z2) (fun e => by have := aN _ e; omega) (oa + q * 3 + 2)).trans z2; go_simp⟩) hS0 ?_
      try simp only [Act.put, List.setIfInBounds_toArray, List.set_cons_zero, List.set_cons_succ]
      refine Zed.anyZ_take (i := 9) (oi := { dst := some 59, op := Go.Op.load 22 (Go.Operand.tmp 58), type := 22, pos := "outright.go:148", after := #[{ on := 8, ground := Go.Ground.data }], guard := none }) (v := .slice (some ⟨ba, oa, none⟩) l.n l.cap) rfl (by decide) (by kernel_rfl) (by kernel_rfl) (by kernel_rfl) (by kernel_rfl) (fun _ _ _ h => h) (Or.inl ⟨by rfl, by intro w2 hSw; (try dsimp only at hSw); have aR := HRY.out; have aL := HLA.out; have aN := fun g (e : v0.ownBlock = some g) => HNW.out g e; have aY := HY.out; have aB := HBk.out.size; have yr := (keep_cells hSw (lt_of_cell zr) (fun e => by have := aN _ e; omega) 1).trans zr; have yy := (keep_cells hSw (lt_of_cell zy) (fun e => by have := aN _ e; omega) 1).trans zy; have y0 := (keep_cells hSw (lt_of_cell z0) (fun e => by have := aN _ e; omega) (oa + q * 3)).trans z0; have y1 := (keep_cells hSw (lt_of_cell z1) (fun e => by have := aN _ e; omega) (oa + q * 3 + 1)).trans z1; have y2 := (keep_cells hSw (lt_of_cell z2) (fun e => by have := aN _ e; omega) (oa + q * 3 + 2)).trans z2; go_simp⟩) hS0 ?_
      try simp only [Act.put, List.setIfInBounds_toArray, List.set_cons_zero, List.set_cons_succ]
      refine Zed.anyZ_take (i := 10) (oi := { dst := some 60, op := Go.Op.move (Go.Operand.tmp 5), type := 3, pos := "outright.go:148", after := #[], guard := none }) (v := .int .i64 (q : Int)) rfl (by decide) (by kernel_rfl) (by kernel_rfl) (by kernel_rfl) (by kernel_rfl) (fun _ _ _ h => h) (Or.inl ⟨by rfl, by intro w2 hSw; (try dsimp only at hSw); have aR := HRY.out; have aL := HLA.out; have aN := fun g (e : v0.ownBlock = some g) => HNW.out g e; have aY := HY.out; have aB := HBk.out.size; have yr := (keep_cells hSw (lt_of_cell zr) (fun e => by have := aN _ e; omega) 1).trans zr; have yy := (keep_cells hSw (lt_of_cell zy) (fun e => by have := aN _ e; omega) 1).trans zy; have y0 := (keep_cells hSw (lt_of_cell z0) (fun e => by have := aN _ e; omega) (oa + q * 3)).trans z0; have y1 := (keep_cells hSw (lt_of_cell z1) (fun e => by have := aN _ e; omega) (oa + q * 3 + 1)).trans z1; have y2 := (keep_cells hSw (lt_of_cell z2) (fun e => by have := aN _ e; omega) (oa + q * 3 + 2)).trans z2; go_simp⟩) hS0 ?_
      try simp only [Act.put, List.setIfInBounds_toArray, List.set_cons_zero, List.set_cons_succ]
      refine Zed.anyZ_take (i := 11) (oi := { dst := some 61, op := Go.Op.indexAddr 22 (Go.Operand.tmp 59) (Go.Operand.tmp 60), type := 0, pos := "outright.go:148", after := #[{ on := 9, ground := Go.Ground.data }, { on := 10, ground := Go.Ground.data }], guard := none }) (v := .pointer (some ⟨ba, oa + q * 3, none⟩)) rfl (by decide) (by kernel_rfl) (by kernel_rfl) (by kernel_rfl) (by kernel_rfl) (fun _ _ _ h => h) (Or.inl ⟨by rfl, by intro w2 hSw; (try dsimp only at hSw); have aR := HRY.out; have aL := HLA.out; have aN := fun g (e : v0.ownBlock = some g) => HNW.out g e; have aY := HY.out; have aB := HBk.out.size; have yr := (keep_cells hSw (lt_of_cell zr) (fun e => by have := aN _ e; omega) 1).trans zr; have yy := (keep_cells hSw (lt_of_cell zy) (fun e => by have := aN _ e; omega) 1).trans zy; have y0 := (keep_cells hSw (lt_of_cell z0) (fun e => by have := aN _ e; omega) (oa + q * 3)).trans z0; have y1 := (keep_cells hSw (lt_of_cell z1) (fun e => by have := aN _ e; omega) (oa + q * 3 + 1)).trans z1; have y2 := (keep_cells hSw (lt_of_cell z2) (fun e => by have := aN _ e; omega) (oa + q * 3 + 2)).trans z2; go_simp⟩) hS0 ?_
      try simp only [Act.put, List.setIfInBounds_toArray, List.set_cons_zero, List.set_cons_succ]
      refine Zed.anyZ_take (i := 12) (oi := { dst := some 62, op := Go.Op.fieldAddr 60 (Go.Operand.tmp 61) 0, type := 0, pos := "outright.go:148", after := #[{ on := 11, ground := Go.Ground.data }], guard := none }) (v := .pointer (some ⟨ba, oa + q * 3, none⟩)) rfl (by decide) (by kernel_rfl) (by kernel_rfl) (by kernel_rfl) (by kernel_rfl) (fun _ _ _ h => h) (Or.inl ⟨by rfl, by intro w2 hSw; (try dsimp only at hSw); have aR := HRY.out; have aL := HLA.out; have aN := fun g (e : v0.ownBlock = some g) => HNW.out g e; have aY := HY.out; have aB := HBk.out.size; have yr := (keep_cells hSw (lt_of_cell zr) (fun e => by have := aN _ e; omega) 1).trans zr; have yy := (keep_cells hSw (lt_of_cell zy) (fun e => by have := aN _ e; omega) 1).trans zy; have y0 := (keep_cells hSw (lt_of_cell z0) (fun e => by have := aN _ e; omega) (oa + q * 3)).trans z0; have y1 := (keep_cells hSw (lt_of_cell z1) (fun e => by have := aN _ e; omega) (oa + q * 3 + 1)).trans z1; have y2 := (keep_cells hSw (lt_of_cell z2) (fun e => by have := aN _ e; omega) (oa + q * 3 + 2)).trans z2; go_simp⟩) hS0 ?_
      try simp only [Act.put, List.setIfInBounds_toArray, List.set_cons_zero, List.set_cons_succ]
      refine Zed.anyZ_take (i := 13) (oi := { dst := some 63, op := Go.Op.load 3 (Go.Operand.tmp 62), type := 3, pos := "outright.go:148", after := #[{ on := 12, ground := Go.Ground.data }], guard := none }) (v := .int .i64 gl) rfl (by decide) (by kernel_rfl) (by kernel_rfl) (by kernel_rfl) (by kernel_rfl) (fun _ _ _ h => h) (Or.inl ⟨by rfl, by intro w2 hSw; (try dsimp only at hSw); have aR := HRY.out; have aL := HLA.out; have aN := fun g (e : v0.ownBlock = some g) => HNW.out g e; have aY := HY.out; have aB := HBk.out.size; have yr := (keep_cells hSw (lt_of_cell zr) (fun e => by have := aN _ e; omega) 1).trans zr; have yy := (keep_cells hSw (lt_of_cell zy) (fun e => by have := aN _ e; omega) 1).trans zy; have y0 := (keep_cells hSw (lt_of_cell z0) (fun e => by have := aN _ e; omega) (oa + q * 3)).trans z0; have y1 := (keep_cells hSw (lt_of_cell z1) (fun e => by have := aN _ e; omega) (oa + q * 3 + 1)).trans z1; have y2 := (keep_cells hSw (lt_of_cell z2) (fun e => by have := aN _ e; omega) (oa + q * 3 + 2)).trans z2; go_simp⟩) hS0 ?_
      try simp only [Act.put, List.setIfInBounds_toArray, List.set_cons_zero, List.set_cons_succ]
      refine Zed.anyZ_take (i := 14) (oi := { dst := some 64, op := Go.Op.fieldAddr 25 (Go.Operand.tmp 1) 1, type := 0, pos := "outright.go:148", after := #[], guard := none }) (v := .pointer (some ⟨R, 1, none⟩)) rfl (by decide) (by kernel_rfl) (by kernel_rfl) (by kernel_rfl) (by kernel_rfl) (fun _ _ _ h => h) (Or.inl ⟨by rfl, by intro w2 hSw; (try dsimp only at hSw); have aR := HRY.out; have aL := HLA.out; have aN := fun g (e : v0.ownBlock = some g) => HNW.out g e; have aY := HY.out; have aB := HBk.out.size; have yr := (keep_cells hSw (lt_of_cell zr) (fun e => by have := aN _ e; omega) 1).trans zr; have yy := (keep_cells hSw (lt_of_cell zy) (fun e => by have := aN _ e; omega) 1).trans zy; have y0 := (keep_cells hSw (lt_of_cell z0) (fun e => by have := aN _ e; omega) (oa + q * 3)).trans z0; have y1 := (keep_cells hSw (lt_of_cell z1) (fun e => by have := aN _ e; omega) (oa + q * 3 + 1)).trans z1; have y2 := (keep_cells hSw (lt_of_cell z2) (fun e => by have := aN _ e; omega) (oa + q * 3 + 2)).trans z2; go_simp⟩) hS0 ?_
      try simp only [Act.put, List.setIfInBounds_toArray, List.set_cons_zero, List.set_cons_succ]
      refine Zed.anyZ_take (i := 15) (oi := { dst := some 65, op := Go.Op.load 22 (Go.Operand.tmp 64), type := 22, pos := "outright.go:148", after := #[{ on := 14, ground := Go.Ground.data }], guard := none }) (v := .slice (some ⟨ba, oa, none⟩) l.n l.cap) rfl (by decide) (by kernel_rfl) (by kernel_rfl) (by kernel_rfl) (by kernel_rfl) (fun _ _ _ h => h) (Or.inl ⟨by rfl, by intro w2 hSw; (try dsimp only at hSw); have aR := HRY.out; have aL := HLA.out; have aN := fun g (e : v0.ownBlock = some g) => HNW.out g e; have aY := HY.out; have aB := HBk.out.size; have yr := (keep_cells hSw (lt_of_cell zr) (fun e => by have := aN _ e; omega) 1).trans zr; have yy := (keep_cells hSw (lt_of_cell zy) (fun e => by have := aN _ e; omega) 1).trans zy; have y0 := (keep_cells hSw (lt_of_cell z0) (fun e => by have := aN _ e; omega) (oa + q * 3)).trans z0; have y1 := (keep_cells hSw (lt_of_cell z1) (fun e => by have := aN _ e; omega) (oa + q * 3 + 1)).trans z1; have y2 := (keep_cells hSw (lt_of_cell z2) (fun e => by have := aN _ e; omega) (oa + q * 3 + 2)).trans z2; go_simp⟩) hS0 ?_
      try simp only [Act.put, List.setIfInBounds_toArray, List.set_cons_zero, List.set_cons_succ]
      refine Zed.anyZ_take (i := 16) (oi := { dst := some 66, op := Go.Op.move (Go.Operand.tmp 5), type := 3, pos := "outright.go:148", after := #[], guard := none }) (v := .int .i64 (q : Int)) rfl (by decide) (by kernel_rfl) (by kernel_rfl) (by kernel_rfl) (by kernel_rfl) (fun _ _ _ h => h) (Or.inl ⟨by rfl, by intro w2 hSw; (try dsimp only at hSw); have aR := HRY.out; have aL := HLA.out; have aN := fun g (e : v0.ownBlock = some g) => HNW.out g e; have aY := HY.out; have aB := HBk.out.size; have yr := (keep_cells hSw (lt_of_cell zr) (fun e => by have := aN _ e; omega) 1).trans zr; have yy := (keep_cells hSw (lt_of_cell zy) (fun e => by have := aN _ e; omega) 1).trans zy; have y0 := (keep_cells hSw (lt_of_cell z0) (fun e => by have := aN _ e; omega) (oa + q * 3)).trans z0; have y1 := (keep_cells hSw (lt_of_cell z1) (fun e => by have := aN _ e; omega) (oa + q * 3 + 1)).trans z1; have y2 := (keep_cells hSw (lt_of_cell z2) (fun e => by have := aN _ e; omega) (oa + q * 3 + 2)).trans z2; go_simp⟩) hS0 ?_
      try simp only [Act.put, List.setIfInBounds_toArray, List.set_cons_zero, List.set_cons_succ]
      refine Zed.anyZ_take (i := 17) (oi := { dst := some 67, op := Go.Op.indexAddr 22 (Go.Operand.tmp 65) (Go.Operand.tmp 66), type := 0, pos := "outright.go:148", after := #[{ on := 15, ground := Go.Ground.data }, { on := 16, ground := Go.Ground.data }], guard := none }) (v := .pointer (some ⟨ba, oa + q * 3, none⟩)) rfl (by decide) (by kernel_rfl) (by kernel_rfl) (by kernel_rfl) (by kernel_rfl) (fun _ _ _ h => h) (Or.inl ⟨by rfl, by intro w2 hSw; (try dsimp only at hSw); have aR := HRY.out; have aL := HLA.out; have aN := fun g (e : v0.ownBlock = some g) => HNW.out g e; have aY := HY.out; have aB := HBk.out.size; have yr := (keep_cells hSw (lt_of_cell zr) (fun e => by have := aN _ e; omega) 1).trans zr; have yy := (keep_cells hSw (lt_of_cell zy) (fun e => by have := aN _ e; omega) 1).trans zy; have y0 := (keep_cells hSw (lt_of_cell z0) (fun e => by have := aN _ e; omega) (oa + q * 3)).trans z0; have y1 := (keep_cells hSw (lt_of_cell z1) (fun e => by have := aN _ e; omega) (oa + q * 3 + 1)).trans z1; have y2 := (keep_cells hSw (lt_of_cell z2) (fun e => by have := aN _ e; omega) (oa + q * 3 + 2)).trans z2; go_simp⟩) hS0 ?_
      try simp only [Act.put, List.setIfInBounds_toArray, List.set_cons_zero, List.set_cons_succ]
      refine Zed.anyZ_take (i := 18) (oi := { dst := some 68, op := Go.Op.fieldAddr 60 (Go.Operand.tmp 67) 2, type := 0, pos := "outright.go:148", after := #[{ on := 17, ground := Go.Ground.data }], guard := none }) (v := .pointer (some ⟨ba, oa + q * 3 + 2, none⟩)) rfl (by decide) (by kernel_rfl) (by kernel_rfl) (by kernel_rfl) (by kernel_rfl) (fun _ _ _ h => h) (Or.inl ⟨by rfl, by intro w2 hSw; (try dsimp only at hSw); have aR := HRY.out; have aL := HLA.out; have aN := fun g (e : v0.ownBlock = some g) => HNW.out g e; have aY := HY.out; have aB := HBk.out.size; have yr := (keep_cells hSw (lt_of_cell zr) (fun e => by have := aN _ e; omega) 1).trans zr; have yy := (keep_cells hSw (lt_of_cell zy) (fun e => by have := aN _ e; omega) 1).trans zy; have y0 := (keep_cells hSw (lt_of_cell z0) (fun e => by have := aN _ e; omega) (oa + q * 3)).trans z0; have y1 := (keep_cells hSw (lt_of_cell z1) (fun e => by have := aN _ e; omega) (oa + q * 3 + 1)).trans z1; have y2 := (keep_cells hSw (lt_of_cell z2) (fun e => by have := aN _ e; omega) (oa + q * 3 + 2)).trans z2; go_simp⟩) hS0 ?_
      try simp only [Act.put, List.setIfInBounds_toArray, List.set_cons_zero, List.set_cons_succ]
      refine Zed.anyZ_take (i := 19) (oi := { dst := some 69, op := Go.Op.load 2 (Go.Operand.tmp 68), type := 2, pos := "outright.go:148", after := #[{ on := 18, ground := Go.Ground.data }], guard := none }) (v := .int .i64 gt) rfl (by decide) (by kernel_rfl) (by kernel_rfl) (by kernel_rfl) (by kernel_rfl) (fun _ _ _ h => h) (Or.inl ⟨by rfl, by intro w2 hSw; (try dsimp only at hSw); have aR := HRY.out; have aL := HLA.out; have aN := fun g (e : v0.ownBlock = some g) => HNW.out g e; have aY := HY.out; have aB := HBk.out.size; have yr := (keep_cells hSw (lt_of_cell zr) (fun e => by have := aN _ e; omega) 1).trans zr; have yy := (keep_cells hSw (lt_of_cell zy) (fun e => by have := aN _ e; omega) 1).trans zy; have y0 := (keep_cells hSw (lt_of_cell z0) (fun e => by have := aN _ e; omega) (oa + q * 3)).trans z0; have y1 := (keep_cells hSw (lt_of_cell z1) (fun e => by have := aN _ e; omega) (oa + q * 3 + 1)).trans z1; have y2 := (keep_cells hSw (lt_of_cell z2) (fun e => by have := aN _ e; omega) (oa + q * 3 + 2)).trans z2; go_simp⟩) hS0 ?_
      try simp only [Act.put, List.setIfInBounds_toArray, List.set_cons_zero, List.set_cons_succ]
      refine Zed.anyZ_take (i := 20) (oi := { dst := some 70, op := Go.Op.build 60 #[(0, Go.Operand.tmp 57), (1, Go.Operand.tmp 63), (2, Go.Operand.tmp 69)], type := 60, pos := "outright.go:148", after := #[{ on := 7, ground := Go.Ground.data }, { on := 13, ground := Go.Ground.data }, { on := 19, ground := Go.Ground.data }], guard := none }) (v := .agg #[.int .i64 gh, .int .i64 gl, .int .i64 gt]) rfl (by decide) (by kernel_rfl) (by kernel_rfl) (by kernel_rfl) (by kernel_rfl) (fun _ _ _ h => h) (Or.inl ⟨by rfl, by intro w2 hSw; (try dsimp only at hSw); have aR := HRY.out; have aL := HLA.out; have aN := fun g (e : v0.ownBlock = some g) => HNW.out g e; have aY := HY.out; have aB := HBk.out.size; have yr := (keep_cells hSw (lt_of_cell zr) (fun e => by have := aN _ e; omega) 1).trans zr; have yy := (keep_cells hSw (lt_of_cell zy) (fun e => by have := aN _ e; omega) 1).trans zy; have y0 := (keep_cells hSw (lt_of_cell z0) (fun e => by have := aN _ e; omega) (oa + q * 3)).trans z0; have y1 := (keep_cells hSw (lt_of_cell z1) (fun e => by have := aN _ e; omega) (oa + q * 3 + 1)).trans z1; have y2 := (keep_cells hSw (lt_of_cell z2) (fun e => by have := aN _ e; omega) (oa + q * 3 + 2)).trans z2; go_simp⟩) hS0 ?_
      try simp only [Act.put, List.setIfInBounds_toArray, List.set_cons_zero, List.set_cons_succ]
      have hd0 : Below wk.heap.size wk wk.drew := drew_b _ _
      have hrw := own_keep HRW.out (Keeps.of_below hd0 (Nat.le_refl _)) (fun j e hj => by have := own_lt HRW.out j e; omega)
      have hyb := (hd0.block _ (lt_of_block HYB.out)).trans HYB.out
      have HB0 := Lib.hid (HBk.out.trans (hd0.mono HBk.out.size))
      generalize wk.drew = V0 at hS0 hd0 hrw hyb HB0 ⊢
      obtain ⟨g, cg, W', hrun, hrow2, hkp, hcg, hgo⟩ := app_nl hrw ⟨gh, gl, gt⟩ (by have := Hlt.out; have := HN12.out; omega)
      dsimp only at hrun
      have hka := keep_alloc (fun _ => False) V0 (.cells #[.int .i64 gh, .int .i64 gl, .int .i64 gt] 60)
      have hS1 : Keeps (fun j => v0.ownBlock = some j) wk (V0.alloc (.cells #[.int .i64 gh, .int .i64 gl, .int .i64 gt] 60)) := hS0.trans hka.none
      have hS2 : Keeps (fun j => v0.ownBlock = some j) wk W' := hS0.trans hkp
      have hsz : V0.heap.size ≤ W'.heap.size := hkp.size
      have hyb2 : W'.heap[Y]? = some (.cells #[.int .i64 l.N, v0, .slice l.LA l.ln l.lc, .slice l.RA l.rn l.rc] 25 (0, 0)) := (hkp.block _ (lt_of_block hyb) (fun e => (HNW.out _ e).2 rfl)).trans hyb
      have HB1 := Lib.hid (HB0.out.trans (hkp.below HB0.out.size (fun j hj e => by have := HNW.out j e; omega)))
      have HG := Lib.hid (show ∀ j, (Value.slice (some ⟨g, 0, none⟩) (k + 1) cg).ownBlock = some j → w2.heap.size ≤ j ∧ j ≠ Y from fun j e => by
        have e2 : g = j := Option.some.inj e
        subst e2
        rcases hgo with h | h
        · exact HNW.out _ h
        · exact ⟨by have := HB0.out.size; omega, by have := lt_of_block hyb; omega⟩)
      clear hka hd0 hrw
      refine Zed.anyZ_ready (rs := [21]) (by kernel_rfl) (by simp) ?_
      refine Zed.AllZ.cons (o := { dst := some 71, op := Go.Op.buildSlice 22 1 #[(0, Go.Operand.tmp 70)], type := 22, pos := "outright.go:148", after := #[{ on := 20, ground := Go.Ground.data }], guard := none }) rfl (fun K hK => ?_) Zed.AllZ.nil
      go_simp
      refine hK.out _ _ (fun _ => hS1) (fun hS30 => ?_)
      have hS3 := hS30 (by decide)
      clear hK K hS30
      try simp only [Act.put, List.setIfInBounds_toArray, List.set_cons_zero, List.set_cons_succ]
      refine Zed.anyZ_ready (rs := [22]) (by kernel_rfl) (by simp) ?_
      refine Zed.AllZ.cons (o := { dst := some 72, op := Go.Op.call { callee := Go.Callee.builtin Go.Builtin.append, args := #[Go.Operand.tmp 51, Go.Operand.tmp 71], argTypes := #[22, 22] }, type := 22, pos := "outright.go:148", after := #[{ on := 1, ground := Go.Ground.data }, { on := 21, ground := Go.Ground.data }], guard := none }) rfl (fun K hK => ?_) Zed.AllZ.nil
      go_simp
      refine hK.out _ _ (fun _ => hS2) (fun hS40 => ?_)
      have hS4 := hS40 (by decide)
      clear hK K hS40
      try simp only [Act.put, List.setIfInBounds_toArray, List.set_cons_zero, List.set_cons_succ]
      refine Zed.anyZ_take (i := 23) (oi := { dst := some 73, op := Go.Op.fieldAddr 25 (Go.Operand.tmp 4) 1, type := 0, pos := "outright.go:148", after := #[{ on := 0, ground := Go.Ground.phase }, { on := 1, ground := Go.Ground.phase }, { on := 2, ground := Go.Ground.phase }, { on := 3, ground := Go.Ground.phase }, { on := 4, ground := Go.Ground.phase }, { on := 5, ground := Go.Ground.phase }, { on := 6, ground := Go.Ground.phase }, { on := 7, ground := Go.Ground.phase }, { on := 8, ground := Go.Ground.phase }, { on := 9, ground := Go.Ground.phase }, { on := 10, ground := Go.Ground.phase }, { on := 11, ground := Go.Ground.phase }, { on := 12, ground := Go.Ground.phase }, { on := 13, ground := Go.Ground.phase }, { on := 14, ground := Go.Ground.phase }, { on := 15, ground := Go.Ground.phase }, { on := 16, ground := Go.Ground.phase }, { on := 17, ground := Go.Ground.phase }, { on := 18, ground := Go.Ground.phase }, { on := 19, ground := Go.Ground.phase }, { on := 20, ground := Go.Ground.phase }, { on := 21, ground := Go.Ground.phase }, { on := 22, ground := Go.Ground.phase }], guard := none }) (v := .pointer (some ⟨Y, 1, none⟩)) rfl (by decide) (by kernel_rfl) (by kernel_rfl) (by kernel_rfl) (by kernel_rfl) (fun _ _ _ h => h) (Or.inl ⟨by rfl, by intro w2 hSw; (try dsimp only at hSw); have aR := HRY.out; have aL := HLA.out; have aN := fun g (e : v0.ownBlock = some g) => HNW.out g e; have aY := HY.out; have aB := HBk.out.size; have yr := (keep_cells hSw (lt_of_cell zr) (fun e => by have := aN _ e; omega) 1).trans zr; have yy := (keep_cells hSw (lt_of_cell zy) (fun e => by have := aN _ e; omega) 1).trans zy; have y0 := (keep_cells hSw (lt_of_cell z0) (fun e => by have := aN _ e; omega) (oa + q * 3)).trans z0; have y1 := (keep_cells hSw (lt_of_cell z1) (fun e => by have := aN _ e; omega) (oa + q * 3 + 1)).trans z1; have y2 := (keep_cells hSw (lt_of_cell z2) (fun e => by have := aN _ e; omega) (oa + q * 3 + 2)).trans z2; go_simp⟩) hS4 ?_
      try simp only [Act.put, List.setIfInBounds_toArray, List.set_cons_zero, List.set_cons_succ]
      have yc : W'.cell? ⟨Y, 1, none⟩ = some v0 := by rw [cell_row hyb2]; rfl
      have yf := frozen_row (k := 1) hyb2
      refine Zed.anyZ_ready (rs := [24]) (by kernel_rfl) (by simp) ?_
      refine Zed.AllZ.cons (o := { dst := none, op := Go.Op.store 22 (Go.Operand.tmp 73) (Go.Operand.tmp 72), type := 0, pos := "outright.go:148", after := #[{ on := 23, ground := Go.Ground.data }, { on := 22, ground := Go.Ground.data }, { on := 22, ground := Go.Ground.chain }, { on := 0, ground := Go.Ground.phase }, { on := 1, ground := Go.Ground.phase }, { on := 2, ground := Go.Ground.phase }, { on := 3, ground := Go.Ground.phase }, { on := 4, ground := Go.Ground.phase }, { on := 5, ground := Go.Ground.phase }, { on := 6, ground := Go.Ground.phase }, { on := 7, ground := Go.Ground.phase }, { on := 8, ground := Go.Ground.phase }, { on := 9, ground := Go.Ground.phase }, { on := 10, ground := Go.Ground.phase }, { on := 11, ground := Go.Ground.phase }, { on := 12, ground := Go.Ground.phase }, { on := 13, ground := Go.Ground.phase }, { on := 14, ground := Go.Ground.phase }, { on := 15, ground := Go.Ground.phase }, { on := 16, ground := Go.Ground.phase }, { on := 17, ground := Go.Ground.phase }, { on := 18, ground := Go.Ground.phase }, { on := 19, ground := Go.Ground.phase }, { on := 20, ground := Go.Ground.phase }, { on := 21, ground := Go.Ground.phase }, { on := 22, ground := Go.Ground.phase }], guard := none }) rfl (fun K hK => ?_) Zed.AllZ.nil
      go_simp
      refine hK.out _ _ (fun h => absurd rfl h) (fun _ => ?_)
      clear hK K
      try simp only [Act.put, List.setIfInBounds_toArray, List.set_cons_zero, List.set_cons_succ]
      refine Zed.anyZ_done (by kernel_rfl) ?_ _
      clear yc yf hS0 hS1 hS2 hS3 hS4 hrun hgo hsz
      have hyb3 := set_same 1 (.slice (some ⟨g, 0, none⟩) (k + 1) cg) hyb2
      have hkY := keeps_setCell W' Y 1 (.slice (some ⟨g, 0, none⟩) (k + 1) cg)
      have hrow3 := own_keep hrow2 hkY (fun j e ej => (HG.out j e).2 ej)
      have HB3 := Lib.hid (HB1.out.trans (hkY.below HB1.out.size (fun j hj e => by have := HY.out; omega)))
      obtain ⟨W3, hW3⟩ : ∃ v, W'.setCell ⟨Y, 1, none⟩ (.slice (some ⟨g, 0, none⟩) (k + 1) cg) = v := ⟨_, rfl⟩
      rw [hW3] at hyb3 hrow3 HB3 ⊢
      have HYB3 := Lib.hid (show W3.heap[Y]? = some (.cells #[.int .i64 l.N, .slice (some ⟨g, 0, none⟩) (k + 1) cg, .slice l.LA l.ln l.lc, .slice l.RA l.rn l.rc] 25 (0, 0)) from hyb3)
      have HR3 := Lib.hid (show W3.ownsRow 0 60 3 (.slice (some ⟨g, 0, none⟩) (k + 1) cg) (k + 1) (flatN (rvN l.zs (k + 1))) by rw [Hrv.out]; exact hrow3)
      have hwr : IntKind.i64.wrap ((q : Int) - 1) = (q : Int) - 1 := IntWalk.i64_in _ (by have := HN12.out; omega)
      clear hW3 hyb2 hyb hrow2 hkp hkY hyb3 hrow3 hcg
      go_wp2_with fail
      go_roundw
      case rel => exact ⟨k + 1, by have := Hlt.out; omega, by congr 1 <;> (have := Hq.out; omega), Lib.hid ⟨_, HYB3.out, HR3.out, HG.out, HB3.out⟩⟩
      case measure => simp [intOf]
    · obtain rfl : k = l.n := by omega
      rw [show (l.n : Int) - 1 - (l.n : Int) = -1 by omega]
      have hlen : (rvN l.zs l.n).length = l.n := rvN_len _ _
      obtain ⟨CY, capY, rfl, hcY, hNY, -⟩ := nls_own hlen hrow
      have hb := hbk
      have HYB := Lib.hid hyb
      have HNY := Lib.hid hNY
      have HcY := Lib.hid hcY
      clear hyb hrow hnew hbk hlen hNY hcY hk9 hlt hn12
      replace LO := Lib.hid (LO.out.below hb (Nat.le_refl _))
      replace S := Lib.hid (S.out.below hb (Nat.le_refl _))
      replace X := Lib.hid ((hb.block _ (lt_of_block X.out)).trans X.out)
      replace XX := Lib.hid ((hb.block _ (lt_of_block XX.out)).trans XX.out)
      replace B := Lib.hid (B.out.trans (hb.mono B.out.size))
      clear hb
      obtain ⟨lY, hlY⟩ : ∃ v, lkX l CY capY (rvN l.zs l.zs.length) = v := ⟨_, rfl⟩
      have eln := S.out.zs.1
      have hlk : lY.N = l.N ∧ lY.A = CY ∧ lY.n = l.n ∧ lY.cap = capY ∧ lY.LA = l.LA ∧ lY.ln = l.ln ∧ lY.lc = l.lc ∧ lY.RA = l.RA ∧ lY.rn = l.rn ∧ lY.rc = l.rc ∧ lY.ls = l.ls ∧ lY.rs = l.rs ∧ lY.zs = rvN l.zs l.zs.length := by
        rw [← hlY]
        exact ⟨rfl, rfl, by show (rvN l.zs l.zs.length).length = l.n; rw [rvN_len, eln], rfl, rfl, rfl, rfl, rfl, rfl, rfl, rfl, rfl, rfl⟩
      obtain ⟨y1, y2, y3, y4, y5, y6, y7, y8, y9, y10, y11, y12, y13⟩ := hlk
      have SY := Lib.hid (show NLs wk lY from by
        rw [← hlY]
        exact lkX_nls S.out (by rw [rvN_len, eln]; rw [← eln] at HNY; have := HNY.out; rw [← eln]; exact this) (by rw [rvN_len, eln]; exact HcY.out) (by rw [rvN_len, eln]; have := HN12.out; omega))
      have HCY := Lib.hid (show chkL lY = 0 by
        rw [← hlY]
        exact lkX_chk HCH.out _ _ _ (rv_ok (chk_zero HCH.out).2.2.2.2.1) (by rw [rvN_len, eln]; exact HN12.out))
      have YY := Lib.hid (show wk.heap[Y]? = some (.cells #[.int .i64 lY.N, .slice lY.A lY.n lY.cap, .slice lY.LA lY.ln lY.lc, .slice lY.RA lY.rn lY.rc] 25 (0, 0)) by rw [y1, y2, y3, y4, y5, y6, y7, y8, y9, y10]; exact HYB.out)
      have SX := Lib.hid (endX_nls S.out)
      have HCX := Lib.hid (endX_chk HCH.out)
      have HYN := Lib.hid y1
      have HYC := Lib.hid (show ∀ S, Cheap lY.zs lY.ls lY.rs S ↔ Cheap l.zs l.ls l.rs S from fun S => by rw [y11, y12, y13]; exact rv_cheap)
      have HYV := Lib.hid (show ∀ S, costS lY.zs S = costS l.zs S from fun S => by rw [y13]; exact rv_cost _ _)
      clear hlY y1 y2 y3 y4 y5 y6 y7 y8 y9 y10 y11 y12 y13 eln HYB HNY HcY
      have ltX : R < wk.heap.size := lt_of_block X.out
      have zX0 : wk.cell? ⟨R, 0, none⟩ = some (.int .i64 l.N) := by rw [cell_row X.out]; rfl
      have zX1 : wk.cell? ⟨R, 1, none⟩ = some (.slice l.A l.n l.cap) := by rw [cell_row X.out]; rfl
      have zX2 : wk.cell? ⟨R, 2, none⟩ = some (.slice l.LA l.ln l.lc) := by rw [cell_row X.out]; rfl
      have zX3 : wk.cell? ⟨R, 3, none⟩ = some (.slice l.RA l.rn l.rc) := by rw [cell_row X.out]; rfl
      have ltXX : RX < wk.heap.size := lt_of_block XX.out
      have zXX0 : wk.cell? ⟨RX, 0, none⟩ = some (.int .i64 l.N) := by rw [cell_row XX.out]; rfl
      have zXX1 : wk.cell? ⟨RX, 1, none⟩ = some (.slice l.A l.n l.cap) := by rw [cell_row XX.out]; rfl
      have zXX2 : wk.cell? ⟨RX, 2, none⟩ = some (.slice l.RA l.rn l.rc) := by rw [cell_row XX.out]; rfl
      have zXX3 : wk.cell? ⟨RX, 3, none⟩ = some (.slice l.LA l.ln l.lc) := by rw [cell_row XX.out]; rfl
      have ltYY : Y < wk.heap.size := lt_of_block YY.out
      have zYY0 : wk.cell? ⟨Y, 0, none⟩ = some (.int .i64 lY.N) := by rw [cell_row YY.out]; rfl
      have zYY1 : wk.cell? ⟨Y, 1, none⟩ = some (.slice lY.A lY.n lY.cap) := by rw [cell_row YY.out]; rfl
      have zYY2 : wk.cell? ⟨Y, 2, none⟩ = some (.slice lY.LA lY.ln lY.lc) := by rw [cell_row YY.out]; rfl
      have zYY3 : wk.cell? ⟨Y, 3, none⟩ = some (.slice lY.RA lY.rn lY.rc) := by rw [cell_row YY.out]; rfl
      go_wp2_with fail
      clear zX0 zX1 zX2 zX3 zXX0 zXX1 zXX2 zXX3 zYY0 zYY1 zYY2 zYY3 ltX ltXX ltYY
      refine (leastA l wk S.out HCH.out).mono ?_
      rintro en wk1 ⟨QL, R1, rfl, hI, hCh, hAl, hb⟩
      replace LO := Lib.hid (LO.out.below hb (Nat.le_refl _))
      replace S := Lib.hid (S.out.below hb (Nat.le_refl _))
      replace SX := Lib.hid (SX.out.below hb (Nat.le_refl _))
      replace SY := Lib.hid (SY.out.below hb (Nat.le_refl _))
      replace X := Lib.hid ((hb.block _ (lt_of_block X.out)).trans X.out)
      replace XX := Lib.hid ((hb.block _ (lt_of_block XX.out)).trans XX.out)
      replace YY := Lib.hid ((hb.block _ (lt_of_block YY.out)).trans YY.out)
      replace B := Lib.hid (B.out.trans (hb.mono B.out.size))
      rw [HTO.out] at hI ⊢
      have HQ := Lib.hid hI
      have HCR := Lib.hid hCh
      have HAR := Lib.hid hAl
      obtain ⟨sR, hsR⟩ : ∃ v, nmK R1 c = v := ⟨_, rfl⟩
      obtain ⟨nR, hnR⟩ : ∃ v, sR.length = v := ⟨_, rfl⟩
      rw [hsR, hnR] at HQ ⊢
      have HSR := Lib.hid hsR
      obtain ⟨q, hq⟩ : ∃ v, costS l.zs R1 = v := ⟨_, rfl⟩
      rw [hq]
      have HQV := Lib.hid hq
      clear hI hCh hAl hsR hnR hq
      try clear hb
      have ltX : R < wk1.heap.size := lt_of_block X.out
      have zX0 : wk1.cell? ⟨R, 0, none⟩ = some (.int .i64 l.N) := by rw [cell_row X.out]; rfl
      have zX1 : wk1.cell? ⟨R, 1, none⟩ = some (.slice l.A l.n l.cap) := by rw [cell_row X.out]; rfl
      have zX2 : wk1.cell? ⟨R, 2, none⟩ = some (.slice l.LA l.ln l.lc) := by rw [cell_row X.out]; rfl
      have zX3 : wk1.cell? ⟨R, 3, none⟩ = some (.slice l.RA l.rn l.rc) := by rw [cell_row X.out]; rfl
      have ltXX : RX < wk1.heap.size := lt_of_block XX.out
      have zXX0 : wk1.cell? ⟨RX, 0, none⟩ = some (.int .i64 l.N) := by rw [cell_row XX.out]; rfl
      have zXX1 : wk1.cell? ⟨RX, 1, none⟩ = some (.slice l.A l.n l.cap) := by rw [cell_row XX.out]; rfl
      have zXX2 : wk1.cell? ⟨RX, 2, none⟩ = some (.slice l.RA l.rn l.rc) := by rw [cell_row XX.out]; rfl
      have zXX3 : wk1.cell? ⟨RX, 3, none⟩ = some (.slice l.LA l.ln l.lc) := by rw [cell_row XX.out]; rfl
      have ltYY : Y < wk1.heap.size := lt_of_block YY.out
      have zYY0 : wk1.cell? ⟨Y, 0, none⟩ = some (.int .i64 lY.N) := by rw [cell_row YY.out]; rfl
      have zYY1 : wk1.cell? ⟨Y, 1, none⟩ = some (.slice lY.A lY.n lY.cap) := by rw [cell_row YY.out]; rfl
      have zYY2 : wk1.cell? ⟨Y, 2, none⟩ = some (.slice lY.LA lY.ln lY.lc) := by rw [cell_row YY.out]; rfl
      have zYY3 : wk1.cell? ⟨Y, 3, none⟩ = some (.slice lY.RA lY.rn lY.rc) := by rw [cell_row YY.out]; rfl
      go_wp2_with fail
      clear zX0 zX1 zX2 zX3 zXX0 zXX1 zXX2 zXX3 zYY0 zYY1 zYY2 zYY3 ltX ltXX ltYY
      refine (leastA (endX l) wk1 SX.out HCX.out).mono ?_
      rintro en wk2 ⟨QX, RX1, rfl, hI, hCh, hAl, hb⟩
      replace LO := Lib.hid (LO.out.below hb (Nat.le_refl _))
      replace S := Lib.hid (S.out.below hb (Nat.le_refl _))
      replace SX := Lib.hid (SX.out.below hb (Nat.le_refl _))
      replace SY := Lib.hid (SY.out.below hb (Nat.le_refl _))
      replace HQ := Lib.hid (HQ.out.below hb (Nat.le_refl _))
      replace X := Lib.hid ((hb.block _ (lt_of_block X.out)).trans X.out)
      replace XX := Lib.hid ((hb.block _ (lt_of_block XX.out)).trans XX.out)
      replace YY := Lib.hid ((hb.block _ (lt_of_block YY.out)).trans YY.out)
      replace B := Lib.hid (B.out.trans (hb.mono B.out.size))
      have e9 : costS (endX l).zs RX1 = q := by
        have := endX_cost (l := l) HCR.out hCh
        rw [HQV.out] at this
        exact this
      rw [e9]
      have HAX := Lib.hid (endX_all.1 hAl)
      obtain ⟨nX, hnX⟩ : ∃ v, (nmK RX1 (endX l).N.toNat).length = v := ⟨_, rfl⟩
      rw [hnX]
      clear hI hCh hAl hnX
      try clear hb
      have ltX : R < wk2.heap.size := lt_of_block X.out
      have zX0 : wk2.cell? ⟨R, 0, none⟩ = some (.int .i64 l.N) := by rw [cell_row X.out]; rfl
      have zX1 : wk2.cell? ⟨R, 1, none⟩ = some (.slice l.A l.n l.cap) := by rw [cell_row X.out]; rfl
      have zX2 : wk2.cell? ⟨R, 2, none⟩ = some (.slice l.LA l.ln l.lc) := by rw [cell_row X.out]; rfl
      have zX3 : wk2.cell? ⟨R, 3, none⟩ = some (.slice l.RA l.rn l.rc) := by rw [cell_row X.out]; rfl
      have ltXX : RX < wk2.heap.size := lt_of_block XX.out
      have zXX0 : wk2.cell? ⟨RX, 0, none⟩ = some (.int .i64 l.N) := by rw [cell_row XX.out]; rfl
      have zXX1 : wk2.cell? ⟨RX, 1, none⟩ = some (.slice l.A l.n l.cap) := by rw [cell_row XX.out]; rfl
      have zXX2 : wk2.cell? ⟨RX, 2, none⟩ = some (.slice l.RA l.rn l.rc) := by rw [cell_row XX.out]; rfl
      have zXX3 : wk2.cell? ⟨RX, 3, none⟩ = some (.slice l.LA l.ln l.lc) := by rw [cell_row XX.out]; rfl
      have ltYY : Y < wk2.heap.size := lt_of_block YY.out
      have zYY0 : wk2.cell? ⟨Y, 0, none⟩ = some (.int .i64 lY.N) := by rw [cell_row YY.out]; rfl
      have zYY1 : wk2.cell? ⟨Y, 1, none⟩ = some (.slice lY.A lY.n lY.cap) := by rw [cell_row YY.out]; rfl
      have zYY2 : wk2.cell? ⟨Y, 2, none⟩ = some (.slice lY.LA lY.ln lY.lc) := by rw [cell_row YY.out]; rfl
      have zYY3 : wk2.cell? ⟨Y, 3, none⟩ = some (.slice lY.RA lY.rn lY.rc) := by rw [cell_row YY.out]; rfl
      go_wp2_with fail
      clear zX0 zX1 zX2 zX3 zXX0 zXX1 zXX2 zXX3 zYY0 zYY1 zYY2 zYY3 ltX ltXX ltYY
      refine (leastA lY wk2 SY.out HCY.out).mono ?_
      rintro en wk3 ⟨QY, RY1, rfl, hI, hCh, hAl, hb⟩
      replace LO := Lib.hid (LO.out.below hb (Nat.le_refl _))
      replace S := Lib.hid (S.out.below hb (Nat.le_refl _))
      replace SX := Lib.hid (SX.out.below hb (Nat.le_refl _))
      replace SY := Lib.hid (SY.out.below hb (Nat.le_refl _))
      replace HQ := Lib.hid (HQ.out.below hb (Nat.le_refl _))
      replace X := Lib.hid ((hb.block _ (lt_of_block X.out)).trans X.out)
      replace XX := Lib.hid ((hb.block _ (lt_of_block XX.out)).trans XX.out)
      replace YY := Lib.hid ((hb.block _ (lt_of_block YY.out)).trans YY.out)
      replace B := Lib.hid (B.out.trans (hb.mono B.out.size))
      obtain rfl : RY1 = R1 := by
        refine funext fun z => ?_
        rw [Bool.eq_iff_iff, hAl z, HAR.out z]
        exact ⟨fun h S hS => h S ((HYC.out S).2 hS), fun h S hS => h S ((HYC.out S).1 hS)⟩
      rw [HYV.out, HQV.out]
      rw [HYN.out, HTO.out, HSR.out] at hI ⊢
      have HQY := Lib.hid hI
      obtain ⟨nY, hnY⟩ : ∃ v, sR.length = v := ⟨_, rfl⟩
      have HnY := Lib.hid hnY
      rw [hnY] at HQY ⊢
      clear hI hCh hAl hnY
      try clear hb
      have ltX : R < wk3.heap.size := lt_of_block X.out
      have zX0 : wk3.cell? ⟨R, 0, none⟩ = some (.int .i64 l.N) := by rw [cell_row X.out]; rfl
      have zX1 : wk3.cell? ⟨R, 1, none⟩ = some (.slice l.A l.n l.cap) := by rw [cell_row X.out]; rfl
      have zX2 : wk3.cell? ⟨R, 2, none⟩ = some (.slice l.LA l.ln l.lc) := by rw [cell_row X.out]; rfl
      have zX3 : wk3.cell? ⟨R, 3, none⟩ = some (.slice l.RA l.rn l.rc) := by rw [cell_row X.out]; rfl
      have ltXX : RX < wk3.heap.size := lt_of_block XX.out
      have zXX0 : wk3.cell? ⟨RX, 0, none⟩ = some (.int .i64 l.N) := by rw [cell_row XX.out]; rfl
      have zXX1 : wk3.cell? ⟨RX, 1, none⟩ = some (.slice l.A l.n l.cap) := by rw [cell_row XX.out]; rfl
      have zXX2 : wk3.cell? ⟨RX, 2, none⟩ = some (.slice l.RA l.rn l.rc) := by rw [cell_row XX.out]; rfl
      have zXX3 : wk3.cell? ⟨RX, 3, none⟩ = some (.slice l.LA l.ln l.lc) := by rw [cell_row XX.out]; rfl
      have ltYY : Y < wk3.heap.size := lt_of_block YY.out
      have zYY0 : wk3.cell? ⟨Y, 0, none⟩ = some (.int .i64 lY.N) := by rw [cell_row YY.out]; rfl
      have zYY1 : wk3.cell? ⟨Y, 1, none⟩ = some (.slice lY.A lY.n lY.cap) := by rw [cell_row YY.out]; rfl
      have zYY2 : wk3.cell? ⟨Y, 2, none⟩ = some (.slice lY.LA lY.ln lY.lc) := by rw [cell_row YY.out]; rfl
      have zYY3 : wk3.cell? ⟨Y, 3, none⟩ = some (.slice lY.RA lY.rn lY.rc) := by rw [cell_row YY.out]; rfl
      go_wp2_with fail
      clear zX0 zX1 zX2 zX3 zXX0 zXX1 zXX2 zXX3 zYY0 zYY1 zYY2 zYY3 ltX ltXX ltYY
      refine (sidesA l wk3 S.out HCH.out).mono ?_
      rintro en wk4 ⟨CK, ck, R2, R3, rfl, hck, hI, hA2, hN3, hC2, hC3, hb⟩
      replace LO := Lib.hid (LO.out.below hb (Nat.le_refl _))
      replace S := Lib.hid (S.out.below hb (Nat.le_refl _))
      replace SX := Lib.hid (SX.out.below hb (Nat.le_refl _))
      replace SY := Lib.hid (SY.out.below hb (Nat.le_refl _))
      replace HQ := Lib.hid (HQ.out.below hb (Nat.le_refl _))
      replace HQY := Lib.hid (HQY.out.below hb (Nat.le_refl _))
      replace X := Lib.hid ((hb.block _ (lt_of_block X.out)).trans X.out)
      replace XX := Lib.hid ((hb.block _ (lt_of_block XX.out)).trans XX.out)
      replace YY := Lib.hid ((hb.block _ (lt_of_block YY.out)).trans YY.out)
      replace B := Lib.hid (B.out.trans (hb.mono B.out.size))
      rw [HTO.out] at hI ⊢
      obtain ⟨kL, hkL⟩ : ∃ v, sdL R2 R3 c = v := ⟨_, rfl⟩
      rw [hkL] at hI
      have HKL := Lib.hid hkL
      have HK := Lib.hid hI
      have HA2 := Lib.hid hA2
      have HN3 := Lib.hid hN3
      have HC2 := Lib.hid hC2
      clear hI hA2 hN3 hC2 hC3 hck hkL
      try clear hb
      have ltX : R < wk4.heap.size := lt_of_block X.out
      have zX0 : wk4.cell? ⟨R, 0, none⟩ = some (.int .i64 l.N) := by rw [cell_row X.out]; rfl
      have zX1 : wk4.cell? ⟨R, 1, none⟩ = some (.slice l.A l.n l.cap) := by rw [cell_row X.out]; rfl
      have zX2 : wk4.cell? ⟨R, 2, none⟩ = some (.slice l.LA l.ln l.lc) := by rw [cell_row X.out]; rfl
      have zX3 : wk4.cell? ⟨R, 3, none⟩ = some (.slice l.RA l.rn l.rc) := by rw [cell_row X.out]; rfl
      have ltXX : RX < wk4.heap.size := lt_of_block XX.out
      have zXX0 : wk4.cell? ⟨RX, 0, none⟩ = some (.int .i64 l.N) := by rw [cell_row XX.out]; rfl
      have zXX1 : wk4.cell? ⟨RX, 1, none⟩ = some (.slice l.A l.n l.cap) := by rw [cell_row XX.out]; rfl
      have zXX2 : wk4.cell? ⟨RX, 2, none⟩ = some (.slice l.RA l.rn l.rc) := by rw [cell_row XX.out]; rfl
      have zXX3 : wk4.cell? ⟨RX, 3, none⟩ = some (.slice l.LA l.ln l.lc) := by rw [cell_row XX.out]; rfl
      have ltYY : Y < wk4.heap.size := lt_of_block YY.out
      have zYY0 : wk4.cell? ⟨Y, 0, none⟩ = some (.int .i64 lY.N) := by rw [cell_row YY.out]; rfl
      have zYY1 : wk4.cell? ⟨Y, 1, none⟩ = some (.slice lY.A lY.n lY.cap) := by rw [cell_row YY.out]; rfl
      have zYY2 : wk4.cell? ⟨Y, 2, none⟩ = some (.slice lY.LA lY.ln lY.lc) := by rw [cell_row YY.out]; rfl
      have zYY3 : wk4.cell? ⟨Y, 3, none⟩ = some (.slice lY.RA lY.rn lY.rc) := by rw [cell_row YY.out]; rfl
      go_wp2_with fail
      clear zX0 zX1 zX2 zX3 zXX0 zXX1 zXX2 zXX3 zYY0 zYY1 zYY2 zYY3 ltX ltXX ltYY
      refine (sidesA (endX l) wk4 SX.out HCX.out).mono ?_
      rintro en wk5 ⟨CKX, ckx, RX2, RX3, rfl, hck, hI, hA2, hN3, hC2, hC3, hb⟩
      replace LO := Lib.hid (LO.out.below hb (Nat.le_refl _))
      replace S := Lib.hid (S.out.below hb (Nat.le_refl _))
      replace SX := Lib.hid (SX.out.below hb (Nat.le_refl _))
      replace SY := Lib.hid (SY.out.below hb (Nat.le_refl _))
      replace HQ := Lib.hid (HQ.out.below hb (Nat.le_refl _))
      replace HQY := Lib.hid (HQY.out.below hb (Nat.le_refl _))
      replace HK := Lib.hid (HK.out.below hb (Nat.le_refl _))
      replace X := Lib.hid ((hb.block _ (lt_of_block X.out)).trans X.out)
      replace XX := Lib.hid ((hb.block _ (lt_of_block XX.out)).trans XX.out)
      replace YY := Lib.hid ((hb.block _ (lt_of_block YY.out)).trans YY.out)
      replace B := Lib.hid (B.out.trans (hb.mono B.out.size))
      have e1 : RX2 = R3 := NoneC.uniq (endX_all.1 hA2) HN3.out
      have e2 : RX3 = R2 := AllC.uniq (endX_none.1 hN3) HA2.out
      rw [show (endX l).N = l.N from rfl, HTO.out] at hI ⊢
      rw [e1, e2] at hI
      have HKX := Lib.hid hI
      clear hI hA2 hN3 hC2 hC3 hck e1 e2
      try clear hb
      have ltX : R < wk5.heap.size := lt_of_block X.out
      have zX0 : wk5.cell? ⟨R, 0, none⟩ = some (.int .i64 l.N) := by rw [cell_row X.out]; rfl
      have zX1 : wk5.cell? ⟨R, 1, none⟩ = some (.slice l.A l.n l.cap) := by rw [cell_row X.out]; rfl
      have zX2 : wk5.cell? ⟨R, 2, none⟩ = some (.slice l.LA l.ln l.lc) := by rw [cell_row X.out]; rfl
      have zX3 : wk5.cell? ⟨R, 3, none⟩ = some (.slice l.RA l.rn l.rc) := by rw [cell_row X.out]; rfl
      have ltXX : RX < wk5.heap.size := lt_of_block XX.out
      have zXX0 : wk5.cell? ⟨RX, 0, none⟩ = some (.int .i64 l.N) := by rw [cell_row XX.out]; rfl
      have zXX1 : wk5.cell? ⟨RX, 1, none⟩ = some (.slice l.A l.n l.cap) := by rw [cell_row XX.out]; rfl
      have zXX2 : wk5.cell? ⟨RX, 2, none⟩ = some (.slice l.RA l.rn l.rc) := by rw [cell_row XX.out]; rfl
      have zXX3 : wk5.cell? ⟨RX, 3, none⟩ = some (.slice l.LA l.ln l.lc) := by rw [cell_row XX.out]; rfl
      have ltYY : Y < wk5.heap.size := lt_of_block YY.out
      have zYY0 : wk5.cell? ⟨Y, 0, none⟩ = some (.int .i64 lY.N) := by rw [cell_row YY.out]; rfl
      have zYY1 : wk5.cell? ⟨Y, 1, none⟩ = some (.slice lY.A lY.n lY.cap) := by rw [cell_row YY.out]; rfl
      have zYY2 : wk5.cell? ⟨Y, 2, none⟩ = some (.slice lY.LA lY.ln lY.lc) := by rw [cell_row YY.out]; rfl
      have zYY3 : wk5.cell? ⟨Y, 3, none⟩ = some (.slice lY.RA lY.rn lY.rc) := by rw [cell_row YY.out]; rfl
      go_wp2_with fail
      clear zX0 zX1 zX2 zX3 zXX0 zXX1 zXX2 zXX3 zYY0 zYY1 zYY2 zYY3 ltX ltXX ltYY
      refine (sidesA lY wk5 SY.out HCY.out).mono ?_
      rintro en wk6 ⟨CKY, cky, RY2, RY3, rfl, hck, hI, hA2, hN3, hC2, hC3, hb⟩
      replace LO := Lib.hid (LO.out.below hb (Nat.le_refl _))
      replace S := Lib.hid (S.out.below hb (Nat.le_refl _))
      replace SX := Lib.hid (SX.out.below hb (Nat.le_refl _))
      replace SY := Lib.hid (SY.out.below hb (Nat.le_refl _))
      replace HQ := Lib.hid (HQ.out.below hb (Nat.le_refl _))
      replace HQY := Lib.hid (HQY.out.below hb (Nat.le_refl _))
      replace HK := Lib.hid (HK.out.below hb (Nat.le_refl _))
      replace HKX := Lib.hid (HKX.out.below hb (Nat.le_refl _))
      replace X := Lib.hid ((hb.block _ (lt_of_block X.out)).trans X.out)
      replace XX := Lib.hid ((hb.block _ (lt_of_block XX.out)).trans XX.out)
      replace YY := Lib.hid ((hb.block _ (lt_of_block YY.out)).trans YY.out)
      replace B := Lib.hid (B.out.trans (hb.mono B.out.size))
      have e1 : RY2 = R2 := funext fun z => by
        rw [Bool.eq_iff_iff, hA2 z, HA2.out z]
        exact ⟨fun h S hS => h S ((HYC.out S).2 hS), fun h S hS => h S ((HYC.out S).1 hS)⟩
      have e2 : RY3 = R3 := funext fun z => by
        rw [Bool.eq_iff_iff, hN3 z, HN3.out z]
        exact ⟨fun h S hS => h S ((HYC.out S).2 hS), fun h S hS => h S ((HYC.out S).1 hS)⟩
      rw [HYN.out, HTO.out] at hI ⊢
      rw [e1, e2, HKL.out] at hI
      have HKY := Lib.hid hI
      clear hI hA2 hN3 hC2 hC3 hck e1 e2
      try clear hb
      have ltX : R < wk6.heap.size := lt_of_block X.out
      have zX0 : wk6.cell? ⟨R, 0, none⟩ = some (.int .i64 l.N) := by rw [cell_row X.out]; rfl
      have zX1 : wk6.cell? ⟨R, 1, none⟩ = some (.slice l.A l.n l.cap) := by rw [cell_row X.out]; rfl
      have zX2 : wk6.cell? ⟨R, 2, none⟩ = some (.slice l.LA l.ln l.lc) := by rw [cell_row X.out]; rfl
      have zX3 : wk6.cell? ⟨R, 3, none⟩ = some (.slice l.RA l.rn l.rc) := by rw [cell_row X.out]; rfl
      have ltXX : RX < wk6.heap.size := lt_of_block XX.out
      have zXX0 : wk6.cell? ⟨RX, 0, none⟩ = some (.int .i64 l.N) := by rw [cell_row XX.out]; rfl
      have zXX1 : wk6.cell? ⟨RX, 1, none⟩ = some (.slice l.A l.n l.cap) := by rw [cell_row XX.out]; rfl
      have zXX2 : wk6.cell? ⟨RX, 2, none⟩ = some (.slice l.RA l.rn l.rc) := by rw [cell_row XX.out]; rfl
      have zXX3 : wk6.cell? ⟨RX, 3, none⟩ = some (.slice l.LA l.ln l.lc) := by rw [cell_row XX.out]; rfl
      have ltYY : Y < wk6.heap.size := lt_of_block YY.out
      have zYY0 : wk6.cell? ⟨Y, 0, none⟩ = some (.int .i64 lY.N) := by rw [cell_row YY.out]; rfl
      have zYY1 : wk6.cell? ⟨Y, 1, none⟩ = some (.slice lY.A lY.n lY.cap) := by rw [cell_row YY.out]; rfl
      have zYY2 : wk6.cell? ⟨Y, 2, none⟩ = some (.slice lY.LA lY.ln lY.lc) := by rw [cell_row YY.out]; rfl
      have zYY3 : wk6.cell? ⟨Y, 3, none⟩ = some (.slice lY.RA lY.rn lY.rc) := by rw [cell_row YY.out]; rfl
      go_wp2_with fail
      clear zX0 zX1 zX2 zX3 zXX0 zXX1 zXX2 zXX3 zYY0 zYY1 zYY2 zYY3 ltX ltXX ltYY
      refine (ints28 (some ⟨QL, 0, none⟩) nR nR sR (some ⟨QY, 0, none⟩) nY nY sR wk6 HQ.out HQY.out (by have := HQ.out.1; have := nmK_len RY1 c; rw [HSR.out] at this; have := HC40.out; omega)).mono ?_
      rintro en wk7 ⟨rfl, hb⟩
      replace LO := Lib.hid (LO.out.below hb (Nat.le_refl _))
      replace S := Lib.hid (S.out.below hb (Nat.le_refl _))
      replace SX := Lib.hid (SX.out.below hb (Nat.le_refl _))
      replace SY := Lib.hid (SY.out.below hb (Nat.le_refl _))
      replace HQ := Lib.hid (HQ.out.below hb (Nat.le_refl _))
      replace HQY := Lib.hid (HQY.out.below hb (Nat.le_refl _))
      replace HK := Lib.hid (HK.out.below hb (Nat.le_refl _))
      replace HKX := Lib.hid (HKX.out.below hb (Nat.le_refl _))
      replace HKY := Lib.hid (HKY.out.below hb (Nat.le_refl _))
      replace X := Lib.hid ((hb.block _ (lt_of_block X.out)).trans X.out)
      replace XX := Lib.hid ((hb.block _ (lt_of_block XX.out)).trans XX.out)
      replace YY := Lib.hid ((hb.block _ (lt_of_block YY.out)).trans YY.out)
      replace B := Lib.hid (B.out.trans (hb.mono B.out.size))
      rw [decide_eq_true (rfl : sR = sR)]
      try clear hb
      have ltX : R < wk7.heap.size := lt_of_block X.out
      have zX0 : wk7.cell? ⟨R, 0, none⟩ = some (.int .i64 l.N) := by rw [cell_row X.out]; rfl
      have zX1 : wk7.cell? ⟨R, 1, none⟩ = some (.slice l.A l.n l.cap) := by rw [cell_row X.out]; rfl
      have zX2 : wk7.cell? ⟨R, 2, none⟩ = some (.slice l.LA l.ln l.lc) := by rw [cell_row X.out]; rfl
      have zX3 : wk7.cell? ⟨R, 3, none⟩ = some (.slice l.RA l.rn l.rc) := by rw [cell_row X.out]; rfl
      have ltXX : RX < wk7.heap.size := lt_of_block XX.out
      have zXX0 : wk7.cell? ⟨RX, 0, none⟩ = some (.int .i64 l.N) := by rw [cell_row XX.out]; rfl
      have zXX1 : wk7.cell? ⟨RX, 1, none⟩ = some (.slice l.A l.n l.cap) := by rw [cell_row XX.out]; rfl
      have zXX2 : wk7.cell? ⟨RX, 2, none⟩ = some (.slice l.RA l.rn l.rc) := by rw [cell_row XX.out]; rfl
      have zXX3 : wk7.cell? ⟨RX, 3, none⟩ = some (.slice l.LA l.ln l.lc) := by rw [cell_row XX.out]; rfl
      have ltYY : Y < wk7.heap.size := lt_of_block YY.out
      have zYY0 : wk7.cell? ⟨Y, 0, none⟩ = some (.int .i64 lY.N) := by rw [cell_row YY.out]; rfl
      have zYY1 : wk7.cell? ⟨Y, 1, none⟩ = some (.slice lY.A lY.n lY.cap) := by rw [cell_row YY.out]; rfl
      have zYY2 : wk7.cell? ⟨Y, 2, none⟩ = some (.slice lY.LA lY.ln lY.lc) := by rw [cell_row YY.out]; rfl
      have zYY3 : wk7.cell? ⟨Y, 3, none⟩ = some (.slice lY.RA lY.rn lY.rc) := by rw [cell_row YY.out]; rfl
      go_wp2_with fail
      clear zX0 zX1 zX2 zX3 zXX0 zXX1 zXX2 zXX3 zYY0 zYY1 zYY2 zYY3 ltX ltXX ltYY
      refine (ints28 CK c ck kL CKY c cky kL wk7 HK.out HKY.out (by have := HC40.out; omega)).mono ?_
      rintro en wk8 ⟨rfl, hb⟩
      replace LO := Lib.hid (LO.out.below hb (Nat.le_refl _))
      replace S := Lib.hid (S.out.below hb (Nat.le_refl _))
      replace SX := Lib.hid (SX.out.below hb (Nat.le_refl _))
      replace SY := Lib.hid (SY.out.below hb (Nat.le_refl _))
      replace HQ := Lib.hid (HQ.out.below hb (Nat.le_refl _))
      replace HQY := Lib.hid (HQY.out.below hb (Nat.le_refl _))
      replace HK := Lib.hid (HK.out.below hb (Nat.le_refl _))
      replace HKX := Lib.hid (HKX.out.below hb (Nat.le_refl _))
      replace HKY := Lib.hid (HKY.out.below hb (Nat.le_refl _))
      replace X := Lib.hid ((hb.block _ (lt_of_block X.out)).trans X.out)
      replace XX := Lib.hid ((hb.block _ (lt_of_block XX.out)).trans XX.out)
      replace YY := Lib.hid ((hb.block _ (lt_of_block YY.out)).trans YY.out)
      replace B := Lib.hid (B.out.trans (hb.mono B.out.size))
      rw [decide_eq_true (rfl : kL = kL)]
      try clear hb
      have ltX : R < wk8.heap.size := lt_of_block X.out
      have zX0 : wk8.cell? ⟨R, 0, none⟩ = some (.int .i64 l.N) := by rw [cell_row X.out]; rfl
      have zX1 : wk8.cell? ⟨R, 1, none⟩ = some (.slice l.A l.n l.cap) := by rw [cell_row X.out]; rfl
      have zX2 : wk8.cell? ⟨R, 2, none⟩ = some (.slice l.LA l.ln l.lc) := by rw [cell_row X.out]; rfl
      have zX3 : wk8.cell? ⟨R, 3, none⟩ = some (.slice l.RA l.rn l.rc) := by rw [cell_row X.out]; rfl
      have ltXX : RX < wk8.heap.size := lt_of_block XX.out
      have zXX0 : wk8.cell? ⟨RX, 0, none⟩ = some (.int .i64 l.N) := by rw [cell_row XX.out]; rfl
      have zXX1 : wk8.cell? ⟨RX, 1, none⟩ = some (.slice l.A l.n l.cap) := by rw [cell_row XX.out]; rfl
      have zXX2 : wk8.cell? ⟨RX, 2, none⟩ = some (.slice l.RA l.rn l.rc) := by rw [cell_row XX.out]; rfl
      have zXX3 : wk8.cell? ⟨RX, 3, none⟩ = some (.slice l.LA l.ln l.lc) := by rw [cell_row XX.out]; rfl
      have ltYY : Y < wk8.heap.size := lt_of_block YY.out
      have zYY0 : wk8.cell? ⟨Y, 0, none⟩ = some (.int .i64 lY.N) := by rw [cell_row YY.out]; rfl
      have zYY1 : wk8.cell? ⟨Y, 1, none⟩ = some (.slice lY.A lY.n lY.cap) := by rw [cell_row YY.out]; rfl
      have zYY2 : wk8.cell? ⟨Y, 2, none⟩ = some (.slice lY.LA lY.ln lY.lc) := by rw [cell_row YY.out]; rfl
      have zYY3 : wk8.cell? ⟨Y, 3, none⟩ = some (.slice lY.RA lY.rn lY.rc) := by rw [cell_row YY.out]; rfl
      go_wp2_with fail
      clear zX0 zX1 zX2 zX3 zXX0 zXX1 zXX2 zXX3 zYY0 zYY1 zYY2 zYY3 ltX ltXX ltYY
      go_loopw [21] (fun i wr => ∃ m : Nat, m ≤ c ∧ i = .int .i64 (m : Int) ∧ Hid (Below wk8.heap.size wk8 wr)) (fun i _ => c - (intOf i).toNat)
      case atStart => exact ⟨0, Nat.zero_le _, rfl, Lib.hid (Below.refl _ _)⟩
      case round =>
        obtain ⟨m, hm9, rfl, HBm⟩ := hrel
        obtain ⟨wm, rfl⟩ : ∃ wm, wm = wr := ⟨_, rfl⟩
        have hc40 := HC40.out
        by_cases hlt : m < c
        · obtain ⟨bk, ok, hA1, hz1⟩ := (HK.out.below HBm.out (Nat.le_refl _)).2 (by omega)
          obtain ⟨bx, ox, hA2, hz2⟩ := (HKX.out.below HBm.out (Nat.le_refl _)).2 (by omega)
          have r1 := hz1 m hlt
          have r2 := hz2 m hlt
          subst hA1 hA2
          rw [← HKL.out, sdL_at R2 R3 hlt] at r1
          rw [sdL_at R3 R2 hlt, sdV_neg (R := R2) (R' := R3) (fun h => (HN3.out _).1 h R2 HC2.out)] at r2
          have hin := sdV_in R2 R3 (m : Int)
          obtain ⟨a, ha⟩ : ∃ v, sdV R2 R3 (m : Int) = v := ⟨_, rfl⟩
          rw [ha] at r1 r2 hin
          obtain ⟨b, hb⟩ : ∃ v, -a = v := ⟨_, rfl⟩
          rw [hb] at r2
          have hwn : IntKind.i64.wrap (-b) = a := by rw [← hb, Int.neg_neg]; exact IntWalk.i64_in _ (by omega)
          have i0 : (0 : Int) ≤ (m : Int) := by omega
          have i1 : (m : Int) < (c : Int) := by omega
          have Hlt := Lib.hid hlt
          clear ha hb hin hz1 hz2
          go_upto_region 20 with fail
          refine wp_region_held_drew (S := fun wS => Below wm.heap.size wm wS) (by kernel_rfl) (drew_b _ _) (fun hS0 => ?_)
          refine wpAnyH_take (i := 0) (oi := { dst := some 164, op := Go.Op.move (Go.Operand.tmp 15), type := 23, pos := "outright.go:160", after := #[], guard := none }) (v := .slice (some ⟨bk, ok, none⟩) c ck) rfl (by kernel_rfl) (by kernel_rfl) (by kernel_rfl) (fun _ _ _ h => h) (Or.inl ⟨by rfl, by intro wS hSw; (try dsimp only at hSw);  have yr1 := (hSw.cell (lt_of_cell r1)).trans r1; have yr2 := (hSw.cell (lt_of_cell r2)).trans r2;  go_simp⟩) hS0 ?_
          try simp only [Act.put, List.setIfInBounds_toArray, List.set_cons_zero, List.set_cons_succ]
          refine wpAnyH_take (i := 1) (oi := { dst := some 165, op := Go.Op.move (Go.Operand.tmp 21), type := 3, pos := "outright.go:160", after := #[], guard := none }) (v := .int .i64 (m : Int)) rfl (by kernel_rfl) (by kernel_rfl) (by kernel_rfl) (fun _ _ _ h => h) (Or.inl ⟨by rfl, by intro wS hSw; (try dsimp only at hSw);  have yr1 := (hSw.cell (lt_of_cell r1)).trans r1; have yr2 := (hSw.cell (lt_of_cell r2)).trans r2;  go_simp⟩) hS0 ?_
          try simp only [Act.put, List.setIfInBounds_toArray, List.set_cons_zero, List.set_cons_succ]
          refine wpAnyH_take (i := 2) (oi := { dst := some 166, op := Go.Op.indexAddr 23 (Go.Operand.tmp 164) (Go.Operand.tmp 165), type := 0, pos := "outright.go:160", after := #[{ on := 0, ground := Go.Ground.data }, { on := 1, ground := Go.Ground.data }], guard := none }) (v := .pointer (some ⟨bk, ok + m, none⟩)) rfl (by kernel_rfl) (by kernel_rfl) (by kernel_rfl) (fun _ _ _ h => h) (Or.inl ⟨by rfl, by intro wS hSw; (try dsimp only at hSw);  have yr1 := (hSw.cell (lt_of_cell r1)).trans r1; have yr2 := (hSw.cell (lt_of_cell r2)).trans r2;  go_simp⟩) hS0 ?_
          try simp only [Act.put, List.setIfInBounds_toArray, List.set_cons_zero, List.set_cons_succ]
          refine wpAnyH_take (i := 3) (oi := { dst := some 167, op := Go.Op.load 3 (Go.Operand.tmp 166), type := 3, pos := "outright.go:160", after := #[{ on := 2, ground := Go.Ground.data }], guard := none }) (v := .int .i64 a) rfl (by kernel_rfl) (by kernel_rfl) (by kernel_rfl) (fun _ _ _ h => h) (Or.inl ⟨by rfl, by intro wS hSw; (try dsimp only at hSw);  have yr1 := (hSw.cell (lt_of_cell r1)).trans r1; have yr2 := (hSw.cell (lt_of_cell r2)).trans r2;  go_simp⟩) hS0 ?_
          try simp only [Act.put, List.setIfInBounds_toArray, List.set_cons_zero, List.set_cons_succ]
          refine wpAnyH_take (i := 4) (oi := { dst := some 168, op := Go.Op.move (Go.Operand.tmp 17), type := 23, pos := "outright.go:160", after := #[], guard := none }) (v := .slice (some ⟨bx, ox, none⟩) c ckx) rfl (by kernel_rfl) (by kernel_rfl) (by kernel_rfl) (fun _ _ _ h => h) (Or.inl ⟨by rfl, by intro wS hSw; (try dsimp only at hSw);  have yr1 := (hSw.cell (lt_of_cell r1)).trans r1; have yr2 := (hSw.cell (lt_of_cell r2)).trans r2;  go_simp⟩) hS0 ?_
          try simp only [Act.put, List.setIfInBounds_toArray, List.set_cons_zero, List.set_cons_succ]
          refine wpAnyH_take (i := 5) (oi := { dst := some 169, op := Go.Op.move (Go.Operand.tmp 21), type := 3, pos := "outright.go:160", after := #[], guard := none }) (v := .int .i64 (m : Int)) rfl (by kernel_rfl) (by kernel_rfl) (by kernel_rfl) (fun _ _ _ h => h) (Or.inl ⟨by rfl, by intro wS hSw; (try dsimp only at hSw);  have yr1 := (hSw.cell (lt_of_cell r1)).trans r1; have yr2 := (hSw.cell (lt_of_cell r2)).trans r2;  go_simp⟩) hS0 ?_
          try simp only [Act.put, List.setIfInBounds_toArray, List.set_cons_zero, List.set_cons_succ]
          refine wpAnyH_take (i := 6) (oi := { dst := some 170, op := Go.Op.indexAddr 23 (Go.Operand.tmp 168) (Go.Operand.tmp 169), type := 0, pos := "outright.go:160", after := #[{ on := 4, ground := Go.Ground.data }, { on := 5, ground := Go.Ground.data }], guard := none }) (v := .pointer (some ⟨bx, ox + m, none⟩)) rfl (by kernel_rfl) (by kernel_rfl) (by kernel_rfl) (fun _ _ _ h => h) (Or.inl ⟨by rfl, by intro wS hSw; (try dsimp only at hSw);  have yr1 := (hSw.cell (lt_of_cell r1)).trans r1; have yr2 := (hSw.cell (lt_of_cell r2)).trans r2;  go_simp⟩) hS0 ?_
          try simp only [Act.put, List.setIfInBounds_toArray, List.set_cons_zero, List.set_cons_succ]
          refine wpAnyH_take (i := 7) (oi := { dst := some 171, op := Go.Op.load 3 (Go.Operand.tmp 170), type := 3, pos := "outright.go:160", after := #[{ on := 6, ground := Go.Ground.data }], guard := none }) (v := .int .i64 b) rfl (by kernel_rfl) (by kernel_rfl) (by kernel_rfl) (fun _ _ _ h => h) (Or.inl ⟨by rfl, by intro wS hSw; (try dsimp only at hSw);  have yr1 := (hSw.cell (lt_of_cell r1)).trans r1; have yr2 := (hSw.cell (lt_of_cell r2)).trans r2;  go_simp⟩) hS0 ?_
          try simp only [Act.put, List.setIfInBounds_toArray, List.set_cons_zero, List.set_cons_succ]
          refine wpAnyH_take (i := 8) (oi := { dst := some 172, op := Go.Op.unOp Go.UnOp.neg 3 (Go.Operand.tmp 171), type := 3, pos := "outright.go:160", after := #[{ on := 7, ground := Go.Ground.data }], guard := none }) (v := .int .i64 a) rfl (by kernel_rfl) (by kernel_rfl) (by kernel_rfl) (fun _ _ _ h => h) (Or.inl ⟨by rfl, by intro wS hSw; (try dsimp only at hSw);  have yr1 := (hSw.cell (lt_of_cell r1)).trans r1; have yr2 := (hSw.cell (lt_of_cell r2)).trans r2;  go_simp⟩) hS0 ?_
          try simp only [Act.put, List.setIfInBounds_toArray, List.set_cons_zero, List.set_cons_succ]
          refine wpAnyH_take (i := 9) (oi := { dst := some 173, op := Go.Op.binOp Go.BinOp.neq 3 (Go.Operand.tmp 167) (Go.Operand.tmp 172) 3, type := 4, pos := "outright.go:160", after := #[{ on := 3, ground := Go.Ground.data }, { on := 8, ground := Go.Ground.data }], guard := none }) (v := .bool false) rfl (by kernel_rfl) (by kernel_rfl) (by kernel_rfl) (fun _ _ _ h => h) (Or.inl ⟨by rfl, by intro wS hSw; (try dsimp only at hSw);  have yr1 := (hSw.cell (lt_of_cell r1)).trans r1; have yr2 := (hSw.cell (lt_of_cell r2)).trans r2;  go_simp⟩) hS0 ?_
          try simp only [Act.put, List.setIfInBounds_toArray, List.set_cons_zero, List.set_cons_succ]
          refine wpAnyH_done (by kernel_rfl) ?_ _
          clear r1 r2
          obtain ⟨wmd, hwd⟩ : ∃ v, wm.drew = v := ⟨_, rfl⟩
          have hb := hS0
          rw [hwd] at hb ⊢
          clear hS0 hwd
          replace HBm := Lib.hid (HBm.out.trans (hb.mono HBm.out.size))
          clear hb
          clear hwn
          go_wp2_with fail
          go_roundw
          case rel => exact ⟨m + 1, by have := Hlt.out; omega, by go_num, HBm⟩
          case measure => have := Hlt.out; simp [intOf]; omega
        · obtain rfl : m = c := by omega
          have HBB := Lib.hid (B.out.trans (HBm.out.mono B.out.size))
          clear hm9 hlt hc40
          go_wp2_with fail
          refine (works14 wm).mono ?_
          rintro en w8 ⟨rfl, hb⟩
          replace HBB := Lib.hid (HBB.out.trans (hb.mono HBB.out.size))
          clear hb
          go_wp2_with fail
          go_ret
          exact ⟨rfl, HBB.out⟩
end
end Go.Proofs.Ytigohccehllmnaa
