/- Stage 4: how many longest passages have a match, in the program. -/
import Derived.Test.YthdjbapidodlfaaVw
namespace Go.Proofs.Ythdjbapidodlfaa
set_option linter.unusedSimpArgs false
set_option linter.unusedVariables false
open Go.RowKit Go.Shelf

/-- How long longest passages are. -/
def topK (nm : List Int) (L : List (List Int)) (m : Nat) : Nat := (allK (mtS nm L) m).1.toNat
/-- The longest passages. -/
def lngS (nm : List Int) (L : List (List Int)) (m : Nat) : List (List (List Int)) := chs (mtS nm L) (bef m) (topK nm L m)
def shS (nm : List Int) (L : List (List Int)) (m : Nat) (x : List Int) : Int := if (eS (mtS nm L) m x).1 + (bS nm L m x).1 - 1 < (allK (mtS nm L) m).1 then 0 else (eS (mtS nm L) m x).2 * (bS nm L m x).2
section
variable {nm : List Int} {L : List (List Int)} {m : Nat}
theorem top_ok (hL : LV L m) : Top (mtS nm L) (lv (mtS nm L) m) (topK nm L m) := by
  have hlo := hL.lo
  exact (allK_top (mtS_nodup hL) (by omega) hL.hi (mtS_wpl (nm := nm) hL)).1
theorem lev_ok (hL : LV L m) : Lev (mtS nm L) (bef m) (lv (mtS nm L) m) (ct (mtS nm L) m) := by
  have hlo := hL.lo
  exact eS_lev (mtS_nodup hL) (by omega) hL.hi (mtS_wpl (nm := nm) hL)
theorem bef_irr (hL : LV L m) (a : List Int) : bef m a a = false := befB_irr (by have := hL.lo; omega) a
theorem bef_tr (a b c : List Int) (h : bef m a b = true) (h2 : bef m b c = true) : bef m a c = true := befB_tr h h2
theorem all_nn (hL : LV L m) : 0 ≤ (allK (mtS nm L) m).1 ∧ (allK (mtS nm L) m).1 ≤ 9 ∧ 0 ≤ (allK (mtS nm L) m).2 ∧ (allK (mtS nm L) m).2 ≤ 1000000000000 := by
  have hlo := hL.lo
  have h := frK_small (mtS_nodup (nm := nm) hL) (by omega) hL.hi (mtS_wpl (nm := nm) hL) (p := whK L m) (h := 0) (Nat.zero_le _) (whK_wpl hL) (fun i hi => by omega)
  rw [frK_whole hL] at h
  exact h
theorem lng_len (hL : LV L m) (hne : mtS nm L ≠ []) : ((lngS nm L m).length : Int) = (allK (mtS nm L) m).2 := by
  have hlo := hL.lo
  exact ((allK_top (mtS_nodup hL) (by omega) hL.hi (mtS_wpl (nm := nm) hL)).2.2 hne).2.2
theorem lng_cnt (hL : LV L m) : ((lngS nm L m).length : Int) = cntS (allK (mtS nm L) m) := by
  have hlo := hL.lo
  obtain ⟨h1, h2, h3⟩ := allK_top (mtS_nodup hL) (by omega) hL.hi (mtS_wpl (nm := nm) hL)
  by_cases hne : mtS nm L = []
  · have h := h2 hne
    unfold lngS topK cntS
    rw [h]
    rfl
  · obtain ⟨a, b, c⟩ := h3 hne
    unfold lngS topK cntS
    rw [if_neg (by intro e; rw [e] at a; simp at a)]
    exact c
/-- What the program tells of a match is how many longest passages have it. -/
theorem shS_nE (hL : LV L m) {x : List Int} (hx : x ∈ mtS nm L) : shS nm L m x = (nE (mtS nm L) (bef m) (topK nm L m) x : Nat) := by
  have h := nE_lev (mtS_nodup hL) (bef_irr hL) bef_tr (lev_ok hL) (bS_lev hL) (top_ok hL) hx
  have h1 := eS_pos2 hL hx
  have h2 := bS_pos hL hx
  have h3 := all_nn (nm := nm) hL
  rw [h]
  unfold shS lv blv ct bct topK
  generalize eS (mtS nm L) m x = e at h1 ⊢
  generalize bS nm L m x = b at h2 ⊢
  generalize allK (mtS nm L) m = a at h3 ⊢
  obtain ⟨e1, e2⟩ := e
  obtain ⟨b1, b2⟩ := b
  obtain ⟨a1, a2⟩ := a
  clear h
  dsimp only at h1 h2 h3 ⊢
  by_cases hc : e1 + b1 - 1 < a1
  · rw [if_pos hc, if_pos (by omega)]; rfl
  · rw [if_neg hc, if_neg (by omega)]
    rw [Int.natCast_mul, Int.toNat_of_nonneg (by omega), Int.toNat_of_nonneg (by omega)]
theorem nE_le (x : List Int) : nE (mtS nm L) (bef m) (topK nm L m) x ≤ (lngS nm L m).length := by
  unfold nE lngS
  rw [← sumN_one]
  exact sumN_le (fun q _ => by split <;> omega)
theorem shS_bnd (hL : LV L m) {x : List Int} (hx : x ∈ mtS nm L) : 0 ≤ shS nm L m x ∧ shS nm L m x ≤ (allK (mtS nm L) m).2 := by
  rw [shS_nE hL hx]
  have h := nE_le (nm := nm) (L := L) (m := m) x
  have h2 := lng_len (nm := nm) hL (List.ne_nil_of_mem hx)
  omega
end
end Go.Proofs.Ythdjbapidodlfaa

namespace Go.Proofs.Ythdjbapidodlfaa
set_option linter.unusedSimpArgs false
set_option linter.unusedVariables false
open Go.RowKit Go.Shelf
attribute [local go_sem ↓] exec_app at_app
attribute [local go_sem] Oper.semAt_some

set_option maxRecDepth 100000 in
set_option maxHeartbeats 16000000 in
theorem shares86 (B D : Nat) (A : Option Addr) (n cap : Nat) (nm : List Int) (M : Nat) (A2 : Option Addr) (m cap2 : Nat) (L : List (List Int)) (Vp Cf Cb Bt Me Me2 : Nat) (Ms Ms2 : Nat → Nat) (nn nn2 : Nat) (x : List Int) (w : World) (hBo : Bo w B D A n cap nm M A2 m cap2 L) (hL : LV L m) (hV : Vw w Vp Cf Cb B Bt Me Me2 Ms Ms2 nn nn2 nm L m) (hx : x ∈ mtS nm L) :
    Calls Try.prog 86 #[.pointer (some ⟨Vp, 0, none⟩), plA x] w fun e w' => e = .returned (.int .i64 (shS nm L m x)) ∧ Below w.heap.size w w' := by
  have hwp := mtS_wpl (nm := nm) hL x hx
  have hlo := hL.lo
  have hhi := hL.hi
  have HX := Lib.hid hx
  have HL := Lib.hid hL
  have HP := Lib.hid hwp
  have hbn := shS_bnd hL hx
  have hal := all_nn (nm := nm) hL
  have h1 := eS_pos2 hL hx
  have h2 := bS_pos hL hx
  have hb0 := below_alloc_ w (.cells #[.int .i64 (iAt x 0), .int .i64 (iAt x 1), .int .i64 (iAt x 2), .int .i64 (iAt x 3)] 79)
  have hr0 : RowP (w.alloc (.cells #[.int .i64 (iAt x 0), .int .i64 (iAt x 1), .int .i64 (iAt x 2), .int .i64 (iAt x 3)] 79)) w.heap.size x := rowP_new hwp.len
  have hBV := hBo.below hb0 (Nat.le_refl _)
  have hVV := hV.below hb0 (Nat.le_refl _)
  have HBV := Lib.hid hBV
  have HVV := Lib.hid hVV
  have HBw := Lib.hid hb0
  have HRw := Lib.hid hr0
  clear hBo hL hV hx hb0 hr0 hBV hVV hwp
  unfold plA
  go_enter Try.func86, Try.ntmps86
  go_wp2_with fail
  obtain ⟨V, hV⟩ : ∃ V, w.alloc (.cells #[.int .i64 (iAt x 0), .int .i64 (iAt x 1), .int .i64 (iAt x 2), .int .i64 (iAt x 3)] 79) = V := ⟨_, rfl⟩
  obtain ⟨U, hU⟩ : ∃ U, w.heap.size = U := ⟨_, rfl⟩
  have hBV := HBV.out
  have hVV := HVV.out
  have hb0 := HBw.out
  have hr0 := HRw.out
  rw [hV] at hBV hVV hb0 hr0 ⊢
  rw [hU] at hr0 ⊢
  replace HBV := Lib.hid hBV
  replace HVV := Lib.hid hVV
  replace HBw := Lib.hid hb0
  have v0 := hVV.c0
  have b1 := Cht.c1 hVV.fwd
  obtain ⟨b6, b7⟩ := Cht.c6 hVV.fwd
  have x0 := hr0.cell (j := 0) (by omega)
  have x1 := hr0.cell (j := 1) (by omega)
  have x2 := hr0.cell (j := 2) (by omega)
  have x3 := hr0.cell (j := 3) (by omega)
  have Hlk := Lib.hid (fun (w9 : World) (h : Below V.heap.size V w9) => (show (Instr.lookup 88 (.map (some Me)) (plA x) false).run Try.prog w9 = .ok (.agg #[.int .i64 (eS (mtS nm L) m x).1, .int .i64 (eS (mtS nm L) m x).2]) w9 from by
    have h3 := (Cht.below HVV.out.fwd h (Nat.le_refl _)).lookE HP.out.dom
    rw [seP_in HX.out] at h3
    exact h3))
  obtain ⟨e, he⟩ : ∃ e, eS (mtS nm L) m x = e := ⟨_, rfl⟩
  obtain ⟨b, hb⟩ : ∃ b, bS nm L m x = b := ⟨_, rfl⟩
  obtain ⟨al, hal2⟩ : ∃ al, allK (mtS nm L) m = al := ⟨_, rfl⟩
  have Hsh := Lib.hid (show shS nm L m x = if e.1 + b.1 - 1 < al.1 then 0 else e.2 * b.2 by unfold shS; rw [he, hb, hal2])
  rw [he] at h1 Hlk
  rw [hb] at h2
  rw [hal2] at hal hbn b6 b7
  have He := Lib.hid he
  have Hb := Lib.hid hb
  have Hbn := Lib.hid hbn
  obtain ⟨h11, h12, h13, h14⟩ := h1
  obtain ⟨h21, h22, h23, h24⟩ := h2
  obtain ⟨h31, h32, h33, h34⟩ := hal
  clear hV hU hBV hVV hb0 hr0 he hb hal2 hbn HRw
  go_cut [5, 6] from 7 to 18 (fun v5 v6 wx => ∃ k5 k6 : Nat, v5 = .pointer (some ⟨k5, 0, none⟩) ∧ v6 = .pointer (some ⟨k6, 0, none⟩) ∧ wx.heap[k5]? = some (.cells #[.int .i64 e.1, .int .i64 e.2] 91 (0, 0)) ∧ wx.heap[k6]? = some (.cells #[.int .i64 b.1, .int .i64 b.2] 91 (0, 0)) ∧ Below V.heap.size V wx)
  case first =>
    refine wp_region_held_drew (S := fun w9 => Below V.heap.size V w9) (by kernel_rfl) (drew_b _ _) (fun hS0 => ?_)
    refine wpAnyH_take (i := 0) (oi := { dst := some 7, op := Go.Op.move (Go.Operand.tmp 0), type := 98, pos := "chart.go:110", after := #[], guard := none }) (v := .pointer (some ⟨Vp, 0, none⟩)) rfl (by kernel_rfl) (by kernel_rfl) (by kernel_rfl) (fun _ _ _ h => h) (Or.inl ⟨by rfl, by intro w9 hSw; (try dsimp only at hSw); go_simp⟩) hS0 ?_
    try simp only [Act.put, List.setIfInBounds_toArray, List.set_cons_zero, List.set_cons_succ]
    refine wpAnyH_take (i := 1) (oi := { dst := some 8, op := Go.Op.nilCheck (Go.Operand.tmp 7), type := 0, pos := "chart.go:110", after := #[{ on := 0, ground := Go.Ground.data }], guard := none }) (v := .pointer (some ⟨Vp, 0, none⟩)) rfl (by kernel_rfl) (by kernel_rfl) (by kernel_rfl) (fun _ _ _ h => h) (Or.inl ⟨by rfl, by intro w9 hSw; (try dsimp only at hSw); go_simp⟩) hS0 ?_
    try simp only [Act.put, List.setIfInBounds_toArray, List.set_cons_zero, List.set_cons_succ]
    refine wpAnyH_take (i := 2) (oi := { dst := some 9, op := Go.Op.fieldAddr 124 (Go.Operand.tmp 8) 0, type := 0, pos := "chart.go:110", after := #[{ on := 1, ground := Go.Ground.data }], guard := none }) (v := .pointer (some ⟨Vp, 0, none⟩)) rfl (by kernel_rfl) (by kernel_rfl) (by kernel_rfl) (fun _ _ _ h => h) (Or.inl ⟨by rfl, by intro w9 hSw; (try dsimp only at hSw); go_simp⟩) hS0 ?_
    try simp only [Act.put, List.setIfInBounds_toArray, List.set_cons_zero, List.set_cons_succ]
    refine wpAnyH_take (i := 3) (oi := { dst := some 10, op := Go.Op.load 86 (Go.Operand.tmp 9), type := 86, pos := "chart.go:110", after := #[{ on := 2, ground := Go.Ground.data }], guard := none }) (v := .pointer (some ⟨Cf, 0, none⟩)) rfl (by kernel_rfl) (by kernel_rfl) (by kernel_rfl) (fun _ _ _ h => h) (Or.inl ⟨by rfl, by intro w9 hSw; (try dsimp only at hSw); have q_v0 := (hSw.cell (lt_of_cell v0)).trans v0; go_simp⟩) hS0 ?_
    try simp only [Act.put, List.setIfInBounds_toArray, List.set_cons_zero, List.set_cons_succ]
    refine wpAnyH_take (i := 4) (oi := { dst := some 11, op := Go.Op.nilCheck (Go.Operand.tmp 10), type := 0, pos := "chart.go:110", after := #[{ on := 3, ground := Go.Ground.data }], guard := none }) (v := .pointer (some ⟨Cf, 0, none⟩)) rfl (by kernel_rfl) (by kernel_rfl) (by kernel_rfl) (fun _ _ _ h => h) (Or.inl ⟨by rfl, by intro w9 hSw; (try dsimp only at hSw); go_simp⟩) hS0 ?_
    try simp only [Act.put, List.setIfInBounds_toArray, List.set_cons_zero, List.set_cons_succ]
    refine wpAnyH_take (i := 5) (oi := { dst := some 12, op := Go.Op.fieldAddr 93 (Go.Operand.tmp 11) 1, type := 0, pos := "chart.go:110", after := #[{ on := 4, ground := Go.Ground.data }], guard := none }) (v := .pointer (some ⟨Cf, 1, none⟩)) rfl (by kernel_rfl) (by kernel_rfl) (by kernel_rfl) (fun _ _ _ h => h) (Or.inl ⟨by rfl, by intro w9 hSw; (try dsimp only at hSw); go_simp⟩) hS0 ?_
    try simp only [Act.put, List.setIfInBounds_toArray, List.set_cons_zero, List.set_cons_succ]
    refine wpAnyH_take (i := 6) (oi := { dst := some 13, op := Go.Op.load 88 (Go.Operand.tmp 12), type := 88, pos := "chart.go:110", after := #[{ on := 5, ground := Go.Ground.data }], guard := none }) (v := .map (some Me)) rfl (by kernel_rfl) (by kernel_rfl) (by kernel_rfl) (fun _ _ _ h => h) (Or.inl ⟨by rfl, by intro w9 hSw; (try dsimp only at hSw); have q_b1 := (hSw.cell (lt_of_cell b1)).trans b1; go_simp⟩) hS0 ?_
    try simp only [Act.put, List.setIfInBounds_toArray, List.set_cons_zero, List.set_cons_succ]
    refine wpAnyH_take (i := 7) (oi := { dst := some 14, op := Go.Op.load 79 (Go.Operand.tmp 3), type := 79, pos := "chart.go:110", after := #[], guard := none }) (v := .agg #[.int .i64 (iAt x 0), .int .i64 (iAt x 1), .int .i64 (iAt x 2), .int .i64 (iAt x 3)]) rfl (by kernel_rfl) (by kernel_rfl) (by kernel_rfl) (fun _ _ _ h => h) (Or.inl ⟨by rfl, by intro w9 hSw; (try dsimp only at hSw); have q_x0 := (hSw.cell (lt_of_cell x0)).trans x0; have q_x1 := (hSw.cell (lt_of_cell x1)).trans x1; have q_x2 := (hSw.cell (lt_of_cell x2)).trans x2; have q_x3 := (hSw.cell (lt_of_cell x3)).trans x3; go_simp⟩) hS0 ?_
    try simp only [Act.put, List.setIfInBounds_toArray, List.set_cons_zero, List.set_cons_succ]
    refine wpAnyH_take (i := 8) (oi := { dst := some 15, op := Go.Op.lookup 88 (Go.Operand.tmp 13) (Go.Operand.tmp 14) false, type := 91, pos := "chart.go:110", after := #[{ on := 6, ground := Go.Ground.data }, { on := 7, ground := Go.Ground.data }], guard := none }) (v := .agg #[.int .i64 e.1, .int .i64 e.2]) rfl (by kernel_rfl) (by kernel_rfl) (by kernel_rfl) (fun _ _ _ h => h) (Or.inl ⟨by rfl, by intro w9 hSw; (try dsimp only at hSw); have hlk := Hlk.out w9 hSw; (try unfold plA at hlk); go_simp⟩) hS0 ?_
    try simp only [Act.put, List.setIfInBounds_toArray, List.set_cons_zero, List.set_cons_succ]
    refine wpAnyH_take (i := 9) (oi := { dst := some 16, op := Go.Op.move (Go.Operand.tmp 0), type := 98, pos := "chart.go:110", after := #[], guard := none }) (v := .pointer (some ⟨Vp, 0, none⟩)) rfl (by kernel_rfl) (by kernel_rfl) (by kernel_rfl) (fun _ _ _ h => h) (Or.inl ⟨by rfl, by intro w9 hSw; (try dsimp only at hSw); go_simp⟩) hS0 ?_
    try simp only [Act.put, List.setIfInBounds_toArray, List.set_cons_zero, List.set_cons_succ]
    refine wpAnyH_take (i := 10) (oi := { dst := some 17, op := Go.Op.load 79 (Go.Operand.tmp 3), type := 79, pos := "chart.go:110", after := #[], guard := none }) (v := .agg #[.int .i64 (iAt x 0), .int .i64 (iAt x 1), .int .i64 (iAt x 2), .int .i64 (iAt x 3)]) rfl (by kernel_rfl) (by kernel_rfl) (by kernel_rfl) (fun _ _ _ h => h) (Or.inl ⟨by rfl, by intro w9 hSw; (try dsimp only at hSw); have q_x0 := (hSw.cell (lt_of_cell x0)).trans x0; have q_x1 := (hSw.cell (lt_of_cell x1)).trans x1; have q_x2 := (hSw.cell (lt_of_cell x2)).trans x2; have q_x3 := (hSw.cell (lt_of_cell x3)).trans x3; go_simp⟩) hS0 ?_
    try simp only [Act.put, List.setIfInBounds_toArray, List.set_cons_zero, List.set_cons_succ]
    obtain ⟨X0, hX0⟩ : ∃ X0, V.drew = X0 := ⟨_, rfl⟩
    rw [hX0] at hS0 ⊢
    have HS_0 := Lib.hid hS0
    clear hX0 hS0
    refine wpAnyH_ready (rs := [11, 12, 13]) (by kernel_rfl) (by simp) ?_
    refine AllReadyH.cons (o := { dst := some 18, op := Go.Op.call { callee := Go.Callee.value (Go.Operand.func 84), args := #[Go.Operand.tmp 16, Go.Operand.tmp 17], argTypes := #[98, 79] }, type := 91, pos := "chart.go:110", after := #[{ on := 9, ground := Go.Ground.data }, { on := 10, ground := Go.Ground.data }], guard := none }) rfl (fun K2 hK => ?_) ?_
    · skip
      have key := begins84 B D A n cap nm M A2 m cap2 L Vp Cf Cb Bt Me Me2 Ms Ms2 nn nn2 x X0 (HBV.out.below HS_0.out (Nat.le_refl _)) HL.out (HVV.out.below HS_0.out (Nat.le_refl _)) HX.out
      rw [Hb.out] at key
      unfold plA at key
      have Key := Lib.hid key
      clear key
      go_simp
      refine Key.out.mono ?_
      clear Key
      rintro e9 X1 ⟨rfl, hbV⟩
      try unfold knV
      try go_simp
      have HS_1 := Lib.hid (HS_0.out.trans (hbV.mono HS_0.out.size))
      refine hK.out _ _ HS_1.out (fun _ => ?_)
      clear hK K2 hbV
      try simp only [Act.put, List.setIfInBounds_toArray, List.set_cons_zero, List.set_cons_succ]
      refine wpAnyH_ready (rs := [12, 13]) (by kernel_rfl) (by simp) ?_
      refine AllReadyH.cons (o := { dst := some 5, op := Go.Op.alloc 91, type := 0, pos := "chart.go:110", after := #[], guard := none }) rfl (fun K2 hK => ?_) ?_
      · skip
        go_simp
        have hbV := below_alloc_ X1 (.cells #[.int .i64 0, .int .i64 0] 91)
        have hrV := heap_alloc_new_ X1 (.cells #[.int .i64 0, .int .i64 0] 91)
        obtain ⟨X2, hW⟩ : ∃ W2, X1.alloc (.cells #[.int .i64 0, .int .i64 0] 91) = W2 := ⟨_, rfl⟩
        obtain ⟨K5, hKe⟩ : ∃ Kx, X1.heap.size = Kx := ⟨_, rfl⟩
        rw [hW] at hbV hrV ⊢
        have HK5 := Lib.hid (show V.heap.size ≤ K5 from by rw [← hKe]; exact HS_1.out.size)
        rw [hKe] at hrV ⊢
        have HS_2 := Lib.hid (HS_1.out.trans (hbV.mono HS_1.out.size))
        have Hr5_2 := Lib.hid hrV
        refine hK.out _ _ HS_2.out (fun _ => ?_)
        clear hK K2 hbV hrV hW hKe
        try simp only [Act.put, List.setIfInBounds_toArray, List.set_cons_zero, List.set_cons_succ]
        refine wpAnyH_ready (rs := [13]) (by kernel_rfl) (by simp) ?_
        refine AllReadyH.cons (o := { dst := some 6, op := Go.Op.alloc 91, type := 0, pos := "chart.go:110", after := #[], guard := none }) rfl (fun K2 hK => ?_) AllReadyH.nil
        go_simp
        have hbV := below_alloc_ X2 (.cells #[.int .i64 0, .int .i64 0] 91)
        have hrV := heap_alloc_new_ X2 (.cells #[.int .i64 0, .int .i64 0] 91)
        obtain ⟨X3, hW⟩ : ∃ W2, X2.alloc (.cells #[.int .i64 0, .int .i64 0] 91) = W2 := ⟨_, rfl⟩
        obtain ⟨K6, hKe⟩ : ∃ Kx, X2.heap.size = Kx := ⟨_, rfl⟩
        rw [hW] at hbV hrV ⊢
        have HK6 := Lib.hid (show V.heap.size ≤ K6 from by rw [← hKe]; exact HS_2.out.size)
        have Hne := Lib.hid (show K5 ≠ K6 from by have := lt_of_block Hr5_2.out; omega)
        rw [hKe] at hrV ⊢
        have HS_3 := Lib.hid (HS_2.out.trans (hbV.mono HS_2.out.size))
        have Hr5_3 := Lib.hid ((hbV.block _ (lt_of_block Hr5_2.out)).trans Hr5_2.out)
        have Hr6_3 := Lib.hid hrV
        refine hK.out _ _ HS_3.out (fun _ => ?_)
        clear hK K2 hbV hrV hW hKe
        try simp only [Act.put, List.setIfInBounds_toArray, List.set_cons_zero, List.set_cons_succ]
        refine wpAnyH_ready (rs := [14]) (by kernel_rfl) (by simp) ?_
        refine AllReadyH.cons (o := { dst := none, op := Go.Op.store 91 (Go.Operand.tmp 5) (Go.Operand.tmp 15), type := 0, pos := "chart.go:110", after := #[{ on := 12, ground := Go.Ground.data }, { on := 8, ground := Go.Ground.data }, { on := 11, ground := Go.Ground.chain }, { on := 0, ground := Go.Ground.phase }, { on := 1, ground := Go.Ground.phase }, { on := 2, ground := Go.Ground.phase }, { on := 3, ground := Go.Ground.phase }, { on := 4, ground := Go.Ground.phase }, { on := 5, ground := Go.Ground.phase }, { on := 6, ground := Go.Ground.phase }, { on := 7, ground := Go.Ground.phase }, { on := 8, ground := Go.Ground.phase }, { on := 9, ground := Go.Ground.textOnly Go.Departure.lateStores }, { on := 10, ground := Go.Ground.textOnly Go.Departure.lateStores }, { on := 11, ground := Go.Ground.textOnly Go.Departure.lateStoresUnsure }, { on := 12, ground := Go.Ground.phase }, { on := 13, ground := Go.Ground.phase }], guard := none }) rfl (fun K2 hK => ?_) AllReadyH.nil
        have hn0 := Hr5_3.out
        have w0 : X3.cell? ⟨K5, 0, none⟩ = some (.int .i64 0) := by rw [cell_row hn0]; rfl
        have w1 : X3.cell? ⟨K5, 1, none⟩ = some (.int .i64 0) := by rw [cell_row hn0]; rfl
        have g0 : X3.frozen? ⟨K5, 0, none⟩ = false := frozen_row hn0
        have g1 : X3.frozen? ⟨K5, 1, none⟩ = false := frozen_row hn0
        go_simp
        have hk1 := keeps_setCell X3 K5 0 (.int .i64 e.1)
        have hk2 := keeps_setCell (X3.setCell ⟨K5, 0, none⟩ (.int .i64 e.1)) K5 1 (.int .i64 e.2)
        have hrow2 := set_same 1 (.int .i64 e.2) (set_same (W := X3) 0 (.int .i64 e.1) hn0)
        obtain ⟨Y1, hV2⟩ : ∃ V2, (X3.setCell ⟨K5, 0, none⟩ (.int .i64 e.1)).setCell ⟨K5, 1, none⟩ (.int .i64 e.2) = V2 := ⟨_, rfl⟩
        rw [hV2] at hk2 hrow2 ⊢
        have hk3 := hk1.trans hk2
        have HSY1 := Lib.hid (HS_3.out.trans (hk3.below HS_3.out.size (fun q hq e => by have e : q = K5 := e; have := HK5.out; omega)))
        have HRo := Lib.hid ((hk3.block _ (lt_of_block Hr6_3.out) (by have := Hne.out; omega)).trans Hr6_3.out)
        have HRe := Lib.hid hrow2
        clear hk1 hk2 hk3 hrow2 hV2 w0 w1 g0 g1 hn0
        refine hK.out _ _ HSY1.out (fun _ => ?_)
        clear hK K2
        try simp only [Act.put, List.setIfInBounds_toArray, List.set_cons_zero, List.set_cons_succ]
        refine wpAnyH_ready (rs := [15]) (by kernel_rfl) (by simp) ?_
        refine AllReadyH.cons (o := { dst := none, op := Go.Op.store 91 (Go.Operand.tmp 6) (Go.Operand.tmp 18), type := 0, pos := "chart.go:110", after := #[{ on := 13, ground := Go.Ground.data }, { on := 11, ground := Go.Ground.data }, { on := 14, ground := Go.Ground.chain }, { on := 0, ground := Go.Ground.phase }, { on := 1, ground := Go.Ground.phase }, { on := 2, ground := Go.Ground.phase }, { on := 3, ground := Go.Ground.phase }, { on := 4, ground := Go.Ground.phase }, { on := 5, ground := Go.Ground.phase }, { on := 6, ground := Go.Ground.phase }, { on := 7, ground := Go.Ground.phase }, { on := 8, ground := Go.Ground.phase }, { on := 9, ground := Go.Ground.phase }, { on := 10, ground := Go.Ground.phase }, { on := 11, ground := Go.Ground.phase }, { on := 12, ground := Go.Ground.phase }, { on := 13, ground := Go.Ground.phase }, { on := 14, ground := Go.Ground.phase }], guard := none }) rfl (fun K2 hK => ?_) AllReadyH.nil
        have hn0 := HRo.out
        have w0 : Y1.cell? ⟨K6, 0, none⟩ = some (.int .i64 0) := by rw [cell_row hn0]; rfl
        have w1 : Y1.cell? ⟨K6, 1, none⟩ = some (.int .i64 0) := by rw [cell_row hn0]; rfl
        have g0 : Y1.frozen? ⟨K6, 0, none⟩ = false := frozen_row hn0
        have g1 : Y1.frozen? ⟨K6, 1, none⟩ = false := frozen_row hn0
        go_simp
        have hk1 := keeps_setCell Y1 K6 0 (.int .i64 b.1)
        have hk2 := keeps_setCell (Y1.setCell ⟨K6, 0, none⟩ (.int .i64 b.1)) K6 1 (.int .i64 b.2)
        have hrow2 := set_same 1 (.int .i64 b.2) (set_same (W := Y1) 0 (.int .i64 b.1) hn0)
        obtain ⟨Y2, hV2⟩ : ∃ V2, (Y1.setCell ⟨K6, 0, none⟩ (.int .i64 b.1)).setCell ⟨K6, 1, none⟩ (.int .i64 b.2) = V2 := ⟨_, rfl⟩
        rw [hV2] at hk2 hrow2 ⊢
        have hk3 := hk1.trans hk2
        have HSY2 := Lib.hid (HSY1.out.trans (hk3.below HSY1.out.size (fun q hq e => by have e : q = K6 := e; have := HK6.out; omega)))
        have HRe2 := Lib.hid ((hk3.block _ (lt_of_block HRe.out) (by have := Hne.out; omega)).trans HRe.out)
        have HRb := Lib.hid hrow2
        clear hk1 hk2 hk3 hrow2 hV2 w0 w1 g0 g1 hn0
        refine hK.out _ _ HSY2.out (fun _ => ?_)
        clear hK K2
        try simp only [Act.put, List.setIfInBounds_toArray, List.set_cons_zero, List.set_cons_succ]
        refine wpAnyH_done (by kernel_rfl) ?_ _
        go_wp2_with fail
        go_meet
        case rel => exact ⟨K5, K6, rfl, rfl, HRe2.out, HRb.out, HSY2.out⟩
      refine AllReadyH.cons (o := { dst := some 6, op := Go.Op.alloc 91, type := 0, pos := "chart.go:110", after := #[], guard := none }) rfl (fun K2 hK => ?_) AllReadyH.nil
      go_simp
      have hbV := below_alloc_ X1 (.cells #[.int .i64 0, .int .i64 0] 91)
      have hrV := heap_alloc_new_ X1 (.cells #[.int .i64 0, .int .i64 0] 91)
      obtain ⟨X4, hW⟩ : ∃ W2, X1.alloc (.cells #[.int .i64 0, .int .i64 0] 91) = W2 := ⟨_, rfl⟩
      obtain ⟨K6, hKe⟩ : ∃ Kx, X1.heap.size = Kx := ⟨_, rfl⟩
      rw [hW] at hbV hrV ⊢
      have HK6 := Lib.hid (show V.heap.size ≤ K6 from by rw [← hKe]; exact HS_1.out.size)
      rw [hKe] at hrV ⊢
      have HS_4 := Lib.hid (HS_1.out.trans (hbV.mono HS_1.out.size))
      have Hr6_4 := Lib.hid hrV
      refine hK.out _ _ HS_4.out (fun _ => ?_)
      clear hK K2 hbV hrV hW hKe
      try simp only [Act.put, List.setIfInBounds_toArray, List.set_cons_zero, List.set_cons_succ]
      refine wpAnyH_ready (rs := [12]) (by kernel_rfl) (by simp) ?_
      refine AllReadyH.cons (o := { dst := some 5, op := Go.Op.alloc 91, type := 0, pos := "chart.go:110", after := #[], guard := none }) rfl (fun K2 hK => ?_) AllReadyH.nil
      go_simp
      have hbV := below_alloc_ X4 (.cells #[.int .i64 0, .int .i64 0] 91)
      have hrV := heap_alloc_new_ X4 (.cells #[.int .i64 0, .int .i64 0] 91)
      obtain ⟨X5, hW⟩ : ∃ W2, X4.alloc (.cells #[.int .i64 0, .int .i64 0] 91) = W2 := ⟨_, rfl⟩
      obtain ⟨K5, hKe⟩ : ∃ Kx, X4.heap.size = Kx := ⟨_, rfl⟩
      rw [hW] at hbV hrV ⊢
      have HK5 := Lib.hid (show V.heap.size ≤ K5 from by rw [← hKe]; exact HS_4.out.size)
      have Hne := Lib.hid (show K5 ≠ K6 from by have := lt_of_block Hr6_4.out; omega)
      rw [hKe] at hrV ⊢
      have HS_5 := Lib.hid (HS_4.out.trans (hbV.mono HS_4.out.size))
      have Hr6_5 := Lib.hid ((hbV.block _ (lt_of_block Hr6_4.out)).trans Hr6_4.out)
      have Hr5_5 := Lib.hid hrV
      refine hK.out _ _ HS_5.out (fun _ => ?_)
      clear hK K2 hbV hrV hW hKe
      try simp only [Act.put, List.setIfInBounds_toArray, List.set_cons_zero, List.set_cons_succ]
      refine wpAnyH_ready (rs := [14]) (by kernel_rfl) (by simp) ?_
      refine AllReadyH.cons (o := { dst := none, op := Go.Op.store 91 (Go.Operand.tmp 5) (Go.Operand.tmp 15), type := 0, pos := "chart.go:110", after := #[{ on := 12, ground := Go.Ground.data }, { on := 8, ground := Go.Ground.data }, { on := 11, ground := Go.Ground.chain }, { on := 0, ground := Go.Ground.phase }, { on := 1, ground := Go.Ground.phase }, { on := 2, ground := Go.Ground.phase }, { on := 3, ground := Go.Ground.phase }, { on := 4, ground := Go.Ground.phase }, { on := 5, ground := Go.Ground.phase }, { on := 6, ground := Go.Ground.phase }, { on := 7, ground := Go.Ground.phase }, { on := 8, ground := Go.Ground.phase }, { on := 9, ground := Go.Ground.textOnly Go.Departure.lateStores }, { on := 10, ground := Go.Ground.textOnly Go.Departure.lateStores }, { on := 11, ground := Go.Ground.textOnly Go.Departure.lateStoresUnsure }, { on := 12, ground := Go.Ground.phase }, { on := 13, ground := Go.Ground.phase }], guard := none }) rfl (fun K2 hK => ?_) AllReadyH.nil
      have hn0 := Hr5_5.out
      have w0 : X5.cell? ⟨K5, 0, none⟩ = some (.int .i64 0) := by rw [cell_row hn0]; rfl
      have w1 : X5.cell? ⟨K5, 1, none⟩ = some (.int .i64 0) := by rw [cell_row hn0]; rfl
      have g0 : X5.frozen? ⟨K5, 0, none⟩ = false := frozen_row hn0
      have g1 : X5.frozen? ⟨K5, 1, none⟩ = false := frozen_row hn0
      go_simp
      have hk1 := keeps_setCell X5 K5 0 (.int .i64 e.1)
      have hk2 := keeps_setCell (X5.setCell ⟨K5, 0, none⟩ (.int .i64 e.1)) K5 1 (.int .i64 e.2)
      have hrow2 := set_same 1 (.int .i64 e.2) (set_same (W := X5) 0 (.int .i64 e.1) hn0)
      obtain ⟨Y1, hV2⟩ : ∃ V2, (X5.setCell ⟨K5, 0, none⟩ (.int .i64 e.1)).setCell ⟨K5, 1, none⟩ (.int .i64 e.2) = V2 := ⟨_, rfl⟩
      rw [hV2] at hk2 hrow2 ⊢
      have hk3 := hk1.trans hk2
      have HSY1 := Lib.hid (HS_5.out.trans (hk3.below HS_5.out.size (fun q hq e => by have e : q = K5 := e; have := HK5.out; omega)))
      have HRo := Lib.hid ((hk3.block _ (lt_of_block Hr6_5.out) (by have := Hne.out; omega)).trans Hr6_5.out)
      have HRe := Lib.hid hrow2
      clear hk1 hk2 hk3 hrow2 hV2 w0 w1 g0 g1 hn0
      refine hK.out _ _ HSY1.out (fun _ => ?_)
      clear hK K2
      try simp only [Act.put, List.setIfInBounds_toArray, List.set_cons_zero, List.set_cons_succ]
      refine wpAnyH_ready (rs := [15]) (by kernel_rfl) (by simp) ?_
      refine AllReadyH.cons (o := { dst := none, op := Go.Op.store 91 (Go.Operand.tmp 6) (Go.Operand.tmp 18), type := 0, pos := "chart.go:110", after := #[{ on := 13, ground := Go.Ground.data }, { on := 11, ground := Go.Ground.data }, { on := 14, ground := Go.Ground.chain }, { on := 0, ground := Go.Ground.phase }, { on := 1, ground := Go.Ground.phase }, { on := 2, ground := Go.Ground.phase }, { on := 3, ground := Go.Ground.phase }, { on := 4, ground := Go.Ground.phase }, { on := 5, ground := Go.Ground.phase }, { on := 6, ground := Go.Ground.phase }, { on := 7, ground := Go.Ground.phase }, { on := 8, ground := Go.Ground.phase }, { on := 9, ground := Go.Ground.phase }, { on := 10, ground := Go.Ground.phase }, { on := 11, ground := Go.Ground.phase }, { on := 12, ground := Go.Ground.phase }, { on := 13, ground := Go.Ground.phase }, { on := 14, ground := Go.Ground.phase }], guard := none }) rfl (fun K2 hK => ?_) AllReadyH.nil
      have hn0 := HRo.out
      have w0 : Y1.cell? ⟨K6, 0, none⟩ = some (.int .i64 0) := by rw [cell_row hn0]; rfl
      have w1 : Y1.cell? ⟨K6, 1, none⟩ = some (.int .i64 0) := by rw [cell_row hn0]; rfl
      have g0 : Y1.frozen? ⟨K6, 0, none⟩ = false := frozen_row hn0
      have g1 : Y1.frozen? ⟨K6, 1, none⟩ = false := frozen_row hn0
      go_simp
      have hk1 := keeps_setCell Y1 K6 0 (.int .i64 b.1)
      have hk2 := keeps_setCell (Y1.setCell ⟨K6, 0, none⟩ (.int .i64 b.1)) K6 1 (.int .i64 b.2)
      have hrow2 := set_same 1 (.int .i64 b.2) (set_same (W := Y1) 0 (.int .i64 b.1) hn0)
      obtain ⟨Y2, hV2⟩ : ∃ V2, (Y1.setCell ⟨K6, 0, none⟩ (.int .i64 b.1)).setCell ⟨K6, 1, none⟩ (.int .i64 b.2) = V2 := ⟨_, rfl⟩
      rw [hV2] at hk2 hrow2 ⊢
      have hk3 := hk1.trans hk2
      have HSY2 := Lib.hid (HSY1.out.trans (hk3.below HSY1.out.size (fun q hq e => by have e : q = K6 := e; have := HK6.out; omega)))
      have HRe2 := Lib.hid ((hk3.block _ (lt_of_block HRe.out) (by have := Hne.out; omega)).trans HRe.out)
      have HRb := Lib.hid hrow2
      clear hk1 hk2 hk3 hrow2 hV2 w0 w1 g0 g1 hn0
      refine hK.out _ _ HSY2.out (fun _ => ?_)
      clear hK K2
      try simp only [Act.put, List.setIfInBounds_toArray, List.set_cons_zero, List.set_cons_succ]
      refine wpAnyH_done (by kernel_rfl) ?_ _
      go_wp2_with fail
      go_meet
      case rel => exact ⟨K5, K6, rfl, rfl, HRe2.out, HRb.out, HSY2.out⟩
    refine AllReadyH.cons (o := { dst := some 5, op := Go.Op.alloc 91, type := 0, pos := "chart.go:110", after := #[], guard := none }) rfl (fun K2 hK => ?_) ?_
    · skip
      go_simp
      have hbV := below_alloc_ X0 (.cells #[.int .i64 0, .int .i64 0] 91)
      have hrV := heap_alloc_new_ X0 (.cells #[.int .i64 0, .int .i64 0] 91)
      obtain ⟨X6, hW⟩ : ∃ W2, X0.alloc (.cells #[.int .i64 0, .int .i64 0] 91) = W2 := ⟨_, rfl⟩
      obtain ⟨K5, hKe⟩ : ∃ Kx, X0.heap.size = Kx := ⟨_, rfl⟩
      rw [hW] at hbV hrV ⊢
      have HK5 := Lib.hid (show V.heap.size ≤ K5 from by rw [← hKe]; exact HS_0.out.size)
      rw [hKe] at hrV ⊢
      have HS_6 := Lib.hid (HS_0.out.trans (hbV.mono HS_0.out.size))
      have Hr5_6 := Lib.hid hrV
      refine hK.out _ _ HS_6.out (fun _ => ?_)
      clear hK K2 hbV hrV hW hKe
      try simp only [Act.put, List.setIfInBounds_toArray, List.set_cons_zero, List.set_cons_succ]
      refine wpAnyH_ready (rs := [11, 13]) (by kernel_rfl) (by simp) ?_
      refine AllReadyH.cons (o := { dst := some 18, op := Go.Op.call { callee := Go.Callee.value (Go.Operand.func 84), args := #[Go.Operand.tmp 16, Go.Operand.tmp 17], argTypes := #[98, 79] }, type := 91, pos := "chart.go:110", after := #[{ on := 9, ground := Go.Ground.data }, { on := 10, ground := Go.Ground.data }], guard := none }) rfl (fun K2 hK => ?_) ?_
      · skip
        have key := begins84 B D A n cap nm M A2 m cap2 L Vp Cf Cb Bt Me Me2 Ms Ms2 nn nn2 x X6 (HBV.out.below HS_6.out (Nat.le_refl _)) HL.out (HVV.out.below HS_6.out (Nat.le_refl _)) HX.out
        rw [Hb.out] at key
        unfold plA at key
        have Key := Lib.hid key
        clear key
        go_simp
        refine Key.out.mono ?_
        clear Key
        rintro e9 X7 ⟨rfl, hbV⟩
        try unfold knV
        try go_simp
        have HS_7 := Lib.hid (HS_6.out.trans (hbV.mono HS_6.out.size))
        have Hr5_7 := Lib.hid ((hbV.block _ (lt_of_block Hr5_6.out)).trans Hr5_6.out)
        refine hK.out _ _ HS_7.out (fun _ => ?_)
        clear hK K2 hbV
        try simp only [Act.put, List.setIfInBounds_toArray, List.set_cons_zero, List.set_cons_succ]
        refine wpAnyH_ready (rs := [13]) (by kernel_rfl) (by simp) ?_
        refine AllReadyH.cons (o := { dst := some 6, op := Go.Op.alloc 91, type := 0, pos := "chart.go:110", after := #[], guard := none }) rfl (fun K2 hK => ?_) AllReadyH.nil
        go_simp
        have hbV := below_alloc_ X7 (.cells #[.int .i64 0, .int .i64 0] 91)
        have hrV := heap_alloc_new_ X7 (.cells #[.int .i64 0, .int .i64 0] 91)
        obtain ⟨X8, hW⟩ : ∃ W2, X7.alloc (.cells #[.int .i64 0, .int .i64 0] 91) = W2 := ⟨_, rfl⟩
        obtain ⟨K6, hKe⟩ : ∃ Kx, X7.heap.size = Kx := ⟨_, rfl⟩
        rw [hW] at hbV hrV ⊢
        have HK6 := Lib.hid (show V.heap.size ≤ K6 from by rw [← hKe]; exact HS_7.out.size)
        have Hne := Lib.hid (show K5 ≠ K6 from by have := lt_of_block Hr5_7.out; omega)
        rw [hKe] at hrV ⊢
        have HS_8 := Lib.hid (HS_7.out.trans (hbV.mono HS_7.out.size))
        have Hr5_8 := Lib.hid ((hbV.block _ (lt_of_block Hr5_7.out)).trans Hr5_7.out)
        have Hr6_8 := Lib.hid hrV
        refine hK.out _ _ HS_8.out (fun _ => ?_)
        clear hK K2 hbV hrV hW hKe
        try simp only [Act.put, List.setIfInBounds_toArray, List.set_cons_zero, List.set_cons_succ]
        refine wpAnyH_ready (rs := [14]) (by kernel_rfl) (by simp) ?_
        refine AllReadyH.cons (o := { dst := none, op := Go.Op.store 91 (Go.Operand.tmp 5) (Go.Operand.tmp 15), type := 0, pos := "chart.go:110", after := #[{ on := 12, ground := Go.Ground.data }, { on := 8, ground := Go.Ground.data }, { on := 11, ground := Go.Ground.chain }, { on := 0, ground := Go.Ground.phase }, { on := 1, ground := Go.Ground.phase }, { on := 2, ground := Go.Ground.phase }, { on := 3, ground := Go.Ground.phase }, { on := 4, ground := Go.Ground.phase }, { on := 5, ground := Go.Ground.phase }, { on := 6, ground := Go.Ground.phase }, { on := 7, ground := Go.Ground.phase }, { on := 8, ground := Go.Ground.phase }, { on := 9, ground := Go.Ground.textOnly Go.Departure.lateStores }, { on := 10, ground := Go.Ground.textOnly Go.Departure.lateStores }, { on := 11, ground := Go.Ground.textOnly Go.Departure.lateStoresUnsure }, { on := 12, ground := Go.Ground.phase }, { on := 13, ground := Go.Ground.phase }], guard := none }) rfl (fun K2 hK => ?_) AllReadyH.nil
        have hn0 := Hr5_8.out
        have w0 : X8.cell? ⟨K5, 0, none⟩ = some (.int .i64 0) := by rw [cell_row hn0]; rfl
        have w1 : X8.cell? ⟨K5, 1, none⟩ = some (.int .i64 0) := by rw [cell_row hn0]; rfl
        have g0 : X8.frozen? ⟨K5, 0, none⟩ = false := frozen_row hn0
        have g1 : X8.frozen? ⟨K5, 1, none⟩ = false := frozen_row hn0
        go_simp
        have hk1 := keeps_setCell X8 K5 0 (.int .i64 e.1)
        have hk2 := keeps_setCell (X8.setCell ⟨K5, 0, none⟩ (.int .i64 e.1)) K5 1 (.int .i64 e.2)
        have hrow2 := set_same 1 (.int .i64 e.2) (set_same (W := X8) 0 (.int .i64 e.1) hn0)
        obtain ⟨Y1, hV2⟩ : ∃ V2, (X8.setCell ⟨K5, 0, none⟩ (.int .i64 e.1)).setCell ⟨K5, 1, none⟩ (.int .i64 e.2) = V2 := ⟨_, rfl⟩
        rw [hV2] at hk2 hrow2 ⊢
        have hk3 := hk1.trans hk2
        have HSY1 := Lib.hid (HS_8.out.trans (hk3.below HS_8.out.size (fun q hq e => by have e : q = K5 := e; have := HK5.out; omega)))
        have HRo := Lib.hid ((hk3.block _ (lt_of_block Hr6_8.out) (by have := Hne.out; omega)).trans Hr6_8.out)
        have HRe := Lib.hid hrow2
        clear hk1 hk2 hk3 hrow2 hV2 w0 w1 g0 g1 hn0
        refine hK.out _ _ HSY1.out (fun _ => ?_)
        clear hK K2
        try simp only [Act.put, List.setIfInBounds_toArray, List.set_cons_zero, List.set_cons_succ]
        refine wpAnyH_ready (rs := [15]) (by kernel_rfl) (by simp) ?_
        refine AllReadyH.cons (o := { dst := none, op := Go.Op.store 91 (Go.Operand.tmp 6) (Go.Operand.tmp 18), type := 0, pos := "chart.go:110", after := #[{ on := 13, ground := Go.Ground.data }, { on := 11, ground := Go.Ground.data }, { on := 14, ground := Go.Ground.chain }, { on := 0, ground := Go.Ground.phase }, { on := 1, ground := Go.Ground.phase }, { on := 2, ground := Go.Ground.phase }, { on := 3, ground := Go.Ground.phase }, { on := 4, ground := Go.Ground.phase }, { on := 5, ground := Go.Ground.phase }, { on := 6, ground := Go.Ground.phase }, { on := 7, ground := Go.Ground.phase }, { on := 8, ground := Go.Ground.phase }, { on := 9, ground := Go.Ground.phase }, { on := 10, ground := Go.Ground.phase }, { on := 11, ground := Go.Ground.phase }, { on := 12, ground := Go.Ground.phase }, { on := 13, ground := Go.Ground.phase }, { on := 14, ground := Go.Ground.phase }], guard := none }) rfl (fun K2 hK => ?_) AllReadyH.nil
        have hn0 := HRo.out
        have w0 : Y1.cell? ⟨K6, 0, none⟩ = some (.int .i64 0) := by rw [cell_row hn0]; rfl
        have w1 : Y1.cell? ⟨K6, 1, none⟩ = some (.int .i64 0) := by rw [cell_row hn0]; rfl
        have g0 : Y1.frozen? ⟨K6, 0, none⟩ = false := frozen_row hn0
        have g1 : Y1.frozen? ⟨K6, 1, none⟩ = false := frozen_row hn0
        go_simp
        have hk1 := keeps_setCell Y1 K6 0 (.int .i64 b.1)
        have hk2 := keeps_setCell (Y1.setCell ⟨K6, 0, none⟩ (.int .i64 b.1)) K6 1 (.int .i64 b.2)
        have hrow2 := set_same 1 (.int .i64 b.2) (set_same (W := Y1) 0 (.int .i64 b.1) hn0)
        obtain ⟨Y2, hV2⟩ : ∃ V2, (Y1.setCell ⟨K6, 0, none⟩ (.int .i64 b.1)).setCell ⟨K6, 1, none⟩ (.int .i64 b.2) = V2 := ⟨_, rfl⟩
        rw [hV2] at hk2 hrow2 ⊢
        have hk3 := hk1.trans hk2
        have HSY2 := Lib.hid (HSY1.out.trans (hk3.below HSY1.out.size (fun q hq e => by have e : q = K6 := e; have := HK6.out; omega)))
        have HRe2 := Lib.hid ((hk3.block _ (lt_of_block HRe.out) (by have := Hne.out; omega)).trans HRe.out)
        have HRb := Lib.hid hrow2
        clear hk1 hk2 hk3 hrow2 hV2 w0 w1 g0 g1 hn0
        refine hK.out _ _ HSY2.out (fun _ => ?_)
        clear hK K2
        try simp only [Act.put, List.setIfInBounds_toArray, List.set_cons_zero, List.set_cons_succ]
        refine wpAnyH_done (by kernel_rfl) ?_ _
        go_wp2_with fail
        go_meet
        case rel => exact ⟨K5, K6, rfl, rfl, HRe2.out, HRb.out, HSY2.out⟩
      refine AllReadyH.cons (o := { dst := some 6, op := Go.Op.alloc 91, type := 0, pos := "chart.go:110", after := #[], guard := none }) rfl (fun K2 hK => ?_) AllReadyH.nil
      go_simp
      have hbV := below_alloc_ X6 (.cells #[.int .i64 0, .int .i64 0] 91)
      have hrV := heap_alloc_new_ X6 (.cells #[.int .i64 0, .int .i64 0] 91)
      obtain ⟨X9, hW⟩ : ∃ W2, X6.alloc (.cells #[.int .i64 0, .int .i64 0] 91) = W2 := ⟨_, rfl⟩
      obtain ⟨K6, hKe⟩ : ∃ Kx, X6.heap.size = Kx := ⟨_, rfl⟩
      rw [hW] at hbV hrV ⊢
      have HK6 := Lib.hid (show V.heap.size ≤ K6 from by rw [← hKe]; exact HS_6.out.size)
      have Hne := Lib.hid (show K5 ≠ K6 from by have := lt_of_block Hr5_6.out; omega)
      rw [hKe] at hrV ⊢
      have HS_9 := Lib.hid (HS_6.out.trans (hbV.mono HS_6.out.size))
      have Hr5_9 := Lib.hid ((hbV.block _ (lt_of_block Hr5_6.out)).trans Hr5_6.out)
      have Hr6_9 := Lib.hid hrV
      refine hK.out _ _ HS_9.out (fun _ => ?_)
      clear hK K2 hbV hrV hW hKe
      try simp only [Act.put, List.setIfInBounds_toArray, List.set_cons_zero, List.set_cons_succ]
      refine wpAnyH_ready (rs := [11]) (by kernel_rfl) (by simp) ?_
      refine AllReadyH.cons (o := { dst := some 18, op := Go.Op.call { callee := Go.Callee.value (Go.Operand.func 84), args := #[Go.Operand.tmp 16, Go.Operand.tmp 17], argTypes := #[98, 79] }, type := 91, pos := "chart.go:110", after := #[{ on := 9, ground := Go.Ground.data }, { on := 10, ground := Go.Ground.data }], guard := none }) rfl (fun K2 hK => ?_) AllReadyH.nil
      have key := begins84 B D A n cap nm M A2 m cap2 L Vp Cf Cb Bt Me Me2 Ms Ms2 nn nn2 x X9 (HBV.out.below HS_9.out (Nat.le_refl _)) HL.out (HVV.out.below HS_9.out (Nat.le_refl _)) HX.out
      rw [Hb.out] at key
      unfold plA at key
      have Key := Lib.hid key
      clear key
      go_simp
      refine Key.out.mono ?_
      clear Key
      rintro e9 X10 ⟨rfl, hbV⟩
      try unfold knV
      try go_simp
      have HS_10 := Lib.hid (HS_9.out.trans (hbV.mono HS_9.out.size))
      have Hr5_10 := Lib.hid ((hbV.block _ (lt_of_block Hr5_9.out)).trans Hr5_9.out)
      have Hr6_10 := Lib.hid ((hbV.block _ (lt_of_block Hr6_9.out)).trans Hr6_9.out)
      refine hK.out _ _ HS_10.out (fun _ => ?_)
      clear hK K2 hbV
      try simp only [Act.put, List.setIfInBounds_toArray, List.set_cons_zero, List.set_cons_succ]
      refine wpAnyH_ready (rs := [14]) (by kernel_rfl) (by simp) ?_
      refine AllReadyH.cons (o := { dst := none, op := Go.Op.store 91 (Go.Operand.tmp 5) (Go.Operand.tmp 15), type := 0, pos := "chart.go:110", after := #[{ on := 12, ground := Go.Ground.data }, { on := 8, ground := Go.Ground.data }, { on := 11, ground := Go.Ground.chain }, { on := 0, ground := Go.Ground.phase }, { on := 1, ground := Go.Ground.phase }, { on := 2, ground := Go.Ground.phase }, { on := 3, ground := Go.Ground.phase }, { on := 4, ground := Go.Ground.phase }, { on := 5, ground := Go.Ground.phase }, { on := 6, ground := Go.Ground.phase }, { on := 7, ground := Go.Ground.phase }, { on := 8, ground := Go.Ground.phase }, { on := 9, ground := Go.Ground.textOnly Go.Departure.lateStores }, { on := 10, ground := Go.Ground.textOnly Go.Departure.lateStores }, { on := 11, ground := Go.Ground.textOnly Go.Departure.lateStoresUnsure }, { on := 12, ground := Go.Ground.phase }, { on := 13, ground := Go.Ground.phase }], guard := none }) rfl (fun K2 hK => ?_) AllReadyH.nil
      have hn0 := Hr5_10.out
      have w0 : X10.cell? ⟨K5, 0, none⟩ = some (.int .i64 0) := by rw [cell_row hn0]; rfl
      have w1 : X10.cell? ⟨K5, 1, none⟩ = some (.int .i64 0) := by rw [cell_row hn0]; rfl
      have g0 : X10.frozen? ⟨K5, 0, none⟩ = false := frozen_row hn0
      have g1 : X10.frozen? ⟨K5, 1, none⟩ = false := frozen_row hn0
      go_simp
      have hk1 := keeps_setCell X10 K5 0 (.int .i64 e.1)
      have hk2 := keeps_setCell (X10.setCell ⟨K5, 0, none⟩ (.int .i64 e.1)) K5 1 (.int .i64 e.2)
      have hrow2 := set_same 1 (.int .i64 e.2) (set_same (W := X10) 0 (.int .i64 e.1) hn0)
      obtain ⟨Y1, hV2⟩ : ∃ V2, (X10.setCell ⟨K5, 0, none⟩ (.int .i64 e.1)).setCell ⟨K5, 1, none⟩ (.int .i64 e.2) = V2 := ⟨_, rfl⟩
      rw [hV2] at hk2 hrow2 ⊢
      have hk3 := hk1.trans hk2
      have HSY1 := Lib.hid (HS_10.out.trans (hk3.below HS_10.out.size (fun q hq e => by have e : q = K5 := e; have := HK5.out; omega)))
      have HRo := Lib.hid ((hk3.block _ (lt_of_block Hr6_10.out) (by have := Hne.out; omega)).trans Hr6_10.out)
      have HRe := Lib.hid hrow2
      clear hk1 hk2 hk3 hrow2 hV2 w0 w1 g0 g1 hn0
      refine hK.out _ _ HSY1.out (fun _ => ?_)
      clear hK K2
      try simp only [Act.put, List.setIfInBounds_toArray, List.set_cons_zero, List.set_cons_succ]
      refine wpAnyH_ready (rs := [15]) (by kernel_rfl) (by simp) ?_
      refine AllReadyH.cons (o := { dst := none, op := Go.Op.store 91 (Go.Operand.tmp 6) (Go.Operand.tmp 18), type := 0, pos := "chart.go:110", after := #[{ on := 13, ground := Go.Ground.data }, { on := 11, ground := Go.Ground.data }, { on := 14, ground := Go.Ground.chain }, { on := 0, ground := Go.Ground.phase }, { on := 1, ground := Go.Ground.phase }, { on := 2, ground := Go.Ground.phase }, { on := 3, ground := Go.Ground.phase }, { on := 4, ground := Go.Ground.phase }, { on := 5, ground := Go.Ground.phase }, { on := 6, ground := Go.Ground.phase }, { on := 7, ground := Go.Ground.phase }, { on := 8, ground := Go.Ground.phase }, { on := 9, ground := Go.Ground.phase }, { on := 10, ground := Go.Ground.phase }, { on := 11, ground := Go.Ground.phase }, { on := 12, ground := Go.Ground.phase }, { on := 13, ground := Go.Ground.phase }, { on := 14, ground := Go.Ground.phase }], guard := none }) rfl (fun K2 hK => ?_) AllReadyH.nil
      have hn0 := HRo.out
      have w0 : Y1.cell? ⟨K6, 0, none⟩ = some (.int .i64 0) := by rw [cell_row hn0]; rfl
      have w1 : Y1.cell? ⟨K6, 1, none⟩ = some (.int .i64 0) := by rw [cell_row hn0]; rfl
      have g0 : Y1.frozen? ⟨K6, 0, none⟩ = false := frozen_row hn0
      have g1 : Y1.frozen? ⟨K6, 1, none⟩ = false := frozen_row hn0
      go_simp
      have hk1 := keeps_setCell Y1 K6 0 (.int .i64 b.1)
      have hk2 := keeps_setCell (Y1.setCell ⟨K6, 0, none⟩ (.int .i64 b.1)) K6 1 (.int .i64 b.2)
      have hrow2 := set_same 1 (.int .i64 b.2) (set_same (W := Y1) 0 (.int .i64 b.1) hn0)
      obtain ⟨Y2, hV2⟩ : ∃ V2, (Y1.setCell ⟨K6, 0, none⟩ (.int .i64 b.1)).setCell ⟨K6, 1, none⟩ (.int .i64 b.2) = V2 := ⟨_, rfl⟩
      rw [hV2] at hk2 hrow2 ⊢
      have hk3 := hk1.trans hk2
      have HSY2 := Lib.hid (HSY1.out.trans (hk3.below HSY1.out.size (fun q hq e => by have e : q = K6 := e; have := HK6.out; omega)))
      have HRe2 := Lib.hid ((hk3.block _ (lt_of_block HRe.out) (by have := Hne.out; omega)).trans HRe.out)
      have HRb := Lib.hid hrow2
      clear hk1 hk2 hk3 hrow2 hV2 w0 w1 g0 g1 hn0
      refine hK.out _ _ HSY2.out (fun _ => ?_)
      clear hK K2
      try simp only [Act.put, List.setIfInBounds_toArray, List.set_cons_zero, List.set_cons_succ]
      refine wpAnyH_done (by kernel_rfl) ?_ _
      go_wp2_with fail
      go_meet
      case rel => exact ⟨K5, K6, rfl, rfl, HRe2.out, HRb.out, HSY2.out⟩
    refine AllReadyH.cons (o := { dst := some 6, op := Go.Op.alloc 91, type := 0, pos := "chart.go:110", after := #[], guard := none }) rfl (fun K2 hK => ?_) AllReadyH.nil
    go_simp
    have hbV := below_alloc_ X0 (.cells #[.int .i64 0, .int .i64 0] 91)
    have hrV := heap_alloc_new_ X0 (.cells #[.int .i64 0, .int .i64 0] 91)
    obtain ⟨X11, hW⟩ : ∃ W2, X0.alloc (.cells #[.int .i64 0, .int .i64 0] 91) = W2 := ⟨_, rfl⟩
    obtain ⟨K6, hKe⟩ : ∃ Kx, X0.heap.size = Kx := ⟨_, rfl⟩
    rw [hW] at hbV hrV ⊢
    have HK6 := Lib.hid (show V.heap.size ≤ K6 from by rw [← hKe]; exact HS_0.out.size)
    rw [hKe] at hrV ⊢
    have HS_11 := Lib.hid (HS_0.out.trans (hbV.mono HS_0.out.size))
    have Hr6_11 := Lib.hid hrV
    refine hK.out _ _ HS_11.out (fun _ => ?_)
    clear hK K2 hbV hrV hW hKe
    try simp only [Act.put, List.setIfInBounds_toArray, List.set_cons_zero, List.set_cons_succ]
    refine wpAnyH_ready (rs := [11, 12]) (by kernel_rfl) (by simp) ?_
    refine AllReadyH.cons (o := { dst := some 18, op := Go.Op.call { callee := Go.Callee.value (Go.Operand.func 84), args := #[Go.Operand.tmp 16, Go.Operand.tmp 17], argTypes := #[98, 79] }, type := 91, pos := "chart.go:110", after := #[{ on := 9, ground := Go.Ground.data }, { on := 10, ground := Go.Ground.data }], guard := none }) rfl (fun K2 hK => ?_) ?_
    · skip
      have key := begins84 B D A n cap nm M A2 m cap2 L Vp Cf Cb Bt Me Me2 Ms Ms2 nn nn2 x X11 (HBV.out.below HS_11.out (Nat.le_refl _)) HL.out (HVV.out.below HS_11.out (Nat.le_refl _)) HX.out
      rw [Hb.out] at key
      unfold plA at key
      have Key := Lib.hid key
      clear key
      go_simp
      refine Key.out.mono ?_
      clear Key
      rintro e9 X12 ⟨rfl, hbV⟩
      try unfold knV
      try go_simp
      have HS_12 := Lib.hid (HS_11.out.trans (hbV.mono HS_11.out.size))
      have Hr6_12 := Lib.hid ((hbV.block _ (lt_of_block Hr6_11.out)).trans Hr6_11.out)
      refine hK.out _ _ HS_12.out (fun _ => ?_)
      clear hK K2 hbV
      try simp only [Act.put, List.setIfInBounds_toArray, List.set_cons_zero, List.set_cons_succ]
      refine wpAnyH_ready (rs := [12]) (by kernel_rfl) (by simp) ?_
      refine AllReadyH.cons (o := { dst := some 5, op := Go.Op.alloc 91, type := 0, pos := "chart.go:110", after := #[], guard := none }) rfl (fun K2 hK => ?_) AllReadyH.nil
      go_simp
      have hbV := below_alloc_ X12 (.cells #[.int .i64 0, .int .i64 0] 91)
      have hrV := heap_alloc_new_ X12 (.cells #[.int .i64 0, .int .i64 0] 91)
      obtain ⟨X13, hW⟩ : ∃ W2, X12.alloc (.cells #[.int .i64 0, .int .i64 0] 91) = W2 := ⟨_, rfl⟩
      obtain ⟨K5, hKe⟩ : ∃ Kx, X12.heap.size = Kx := ⟨_, rfl⟩
      rw [hW] at hbV hrV ⊢
      have HK5 := Lib.hid (show V.heap.size ≤ K5 from by rw [← hKe]; exact HS_12.out.size)
      have Hne := Lib.hid (show K5 ≠ K6 from by have := lt_of_block Hr6_12.out; omega)
      rw [hKe] at hrV ⊢
      have HS_13 := Lib.hid (HS_12.out.trans (hbV.mono HS_12.out.size))
      have Hr6_13 := Lib.hid ((hbV.block _ (lt_of_block Hr6_12.out)).trans Hr6_12.out)
      have Hr5_13 := Lib.hid hrV
      refine hK.out _ _ HS_13.out (fun _ => ?_)
      clear hK K2 hbV hrV hW hKe
      try simp only [Act.put, List.setIfInBounds_toArray, List.set_cons_zero, List.set_cons_succ]
      refine wpAnyH_ready (rs := [14]) (by kernel_rfl) (by simp) ?_
      refine AllReadyH.cons (o := { dst := none, op := Go.Op.store 91 (Go.Operand.tmp 5) (Go.Operand.tmp 15), type := 0, pos := "chart.go:110", after := #[{ on := 12, ground := Go.Ground.data }, { on := 8, ground := Go.Ground.data }, { on := 11, ground := Go.Ground.chain }, { on := 0, ground := Go.Ground.phase }, { on := 1, ground := Go.Ground.phase }, { on := 2, ground := Go.Ground.phase }, { on := 3, ground := Go.Ground.phase }, { on := 4, ground := Go.Ground.phase }, { on := 5, ground := Go.Ground.phase }, { on := 6, ground := Go.Ground.phase }, { on := 7, ground := Go.Ground.phase }, { on := 8, ground := Go.Ground.phase }, { on := 9, ground := Go.Ground.textOnly Go.Departure.lateStores }, { on := 10, ground := Go.Ground.textOnly Go.Departure.lateStores }, { on := 11, ground := Go.Ground.textOnly Go.Departure.lateStoresUnsure }, { on := 12, ground := Go.Ground.phase }, { on := 13, ground := Go.Ground.phase }], guard := none }) rfl (fun K2 hK => ?_) AllReadyH.nil
      have hn0 := Hr5_13.out
      have w0 : X13.cell? ⟨K5, 0, none⟩ = some (.int .i64 0) := by rw [cell_row hn0]; rfl
      have w1 : X13.cell? ⟨K5, 1, none⟩ = some (.int .i64 0) := by rw [cell_row hn0]; rfl
      have g0 : X13.frozen? ⟨K5, 0, none⟩ = false := frozen_row hn0
      have g1 : X13.frozen? ⟨K5, 1, none⟩ = false := frozen_row hn0
      go_simp
      have hk1 := keeps_setCell X13 K5 0 (.int .i64 e.1)
      have hk2 := keeps_setCell (X13.setCell ⟨K5, 0, none⟩ (.int .i64 e.1)) K5 1 (.int .i64 e.2)
      have hrow2 := set_same 1 (.int .i64 e.2) (set_same (W := X13) 0 (.int .i64 e.1) hn0)
      obtain ⟨Y1, hV2⟩ : ∃ V2, (X13.setCell ⟨K5, 0, none⟩ (.int .i64 e.1)).setCell ⟨K5, 1, none⟩ (.int .i64 e.2) = V2 := ⟨_, rfl⟩
      rw [hV2] at hk2 hrow2 ⊢
      have hk3 := hk1.trans hk2
      have HSY1 := Lib.hid (HS_13.out.trans (hk3.below HS_13.out.size (fun q hq e => by have e : q = K5 := e; have := HK5.out; omega)))
      have HRo := Lib.hid ((hk3.block _ (lt_of_block Hr6_13.out) (by have := Hne.out; omega)).trans Hr6_13.out)
      have HRe := Lib.hid hrow2
      clear hk1 hk2 hk3 hrow2 hV2 w0 w1 g0 g1 hn0
      refine hK.out _ _ HSY1.out (fun _ => ?_)
      clear hK K2
      try simp only [Act.put, List.setIfInBounds_toArray, List.set_cons_zero, List.set_cons_succ]
      refine wpAnyH_ready (rs := [15]) (by kernel_rfl) (by simp) ?_
      refine AllReadyH.cons (o := { dst := none, op := Go.Op.store 91 (Go.Operand.tmp 6) (Go.Operand.tmp 18), type := 0, pos := "chart.go:110", after := #[{ on := 13, ground := Go.Ground.data }, { on := 11, ground := Go.Ground.data }, { on := 14, ground := Go.Ground.chain }, { on := 0, ground := Go.Ground.phase }, { on := 1, ground := Go.Ground.phase }, { on := 2, ground := Go.Ground.phase }, { on := 3, ground := Go.Ground.phase }, { on := 4, ground := Go.Ground.phase }, { on := 5, ground := Go.Ground.phase }, { on := 6, ground := Go.Ground.phase }, { on := 7, ground := Go.Ground.phase }, { on := 8, ground := Go.Ground.phase }, { on := 9, ground := Go.Ground.phase }, { on := 10, ground := Go.Ground.phase }, { on := 11, ground := Go.Ground.phase }, { on := 12, ground := Go.Ground.phase }, { on := 13, ground := Go.Ground.phase }, { on := 14, ground := Go.Ground.phase }], guard := none }) rfl (fun K2 hK => ?_) AllReadyH.nil
      have hn0 := HRo.out
      have w0 : Y1.cell? ⟨K6, 0, none⟩ = some (.int .i64 0) := by rw [cell_row hn0]; rfl
      have w1 : Y1.cell? ⟨K6, 1, none⟩ = some (.int .i64 0) := by rw [cell_row hn0]; rfl
      have g0 : Y1.frozen? ⟨K6, 0, none⟩ = false := frozen_row hn0
      have g1 : Y1.frozen? ⟨K6, 1, none⟩ = false := frozen_row hn0
      go_simp
      have hk1 := keeps_setCell Y1 K6 0 (.int .i64 b.1)
      have hk2 := keeps_setCell (Y1.setCell ⟨K6, 0, none⟩ (.int .i64 b.1)) K6 1 (.int .i64 b.2)
      have hrow2 := set_same 1 (.int .i64 b.2) (set_same (W := Y1) 0 (.int .i64 b.1) hn0)
      obtain ⟨Y2, hV2⟩ : ∃ V2, (Y1.setCell ⟨K6, 0, none⟩ (.int .i64 b.1)).setCell ⟨K6, 1, none⟩ (.int .i64 b.2) = V2 := ⟨_, rfl⟩
      rw [hV2] at hk2 hrow2 ⊢
      have hk3 := hk1.trans hk2
      have HSY2 := Lib.hid (HSY1.out.trans (hk3.below HSY1.out.size (fun q hq e => by have e : q = K6 := e; have := HK6.out; omega)))
      have HRe2 := Lib.hid ((hk3.block _ (lt_of_block HRe.out) (by have := Hne.out; omega)).trans HRe.out)
      have HRb := Lib.hid hrow2
      clear hk1 hk2 hk3 hrow2 hV2 w0 w1 g0 g1 hn0
      refine hK.out _ _ HSY2.out (fun _ => ?_)
      clear hK K2
      try simp only [Act.put, List.setIfInBounds_toArray, List.set_cons_zero, List.set_cons_succ]
      refine wpAnyH_done (by kernel_rfl) ?_ _
      go_wp2_with fail
      go_meet
      case rel => exact ⟨K5, K6, rfl, rfl, HRe2.out, HRb.out, HSY2.out⟩
    refine AllReadyH.cons (o := { dst := some 5, op := Go.Op.alloc 91, type := 0, pos := "chart.go:110", after := #[], guard := none }) rfl (fun K2 hK => ?_) AllReadyH.nil
    go_simp
    have hbV := below_alloc_ X11 (.cells #[.int .i64 0, .int .i64 0] 91)
    have hrV := heap_alloc_new_ X11 (.cells #[.int .i64 0, .int .i64 0] 91)
    obtain ⟨X14, hW⟩ : ∃ W2, X11.alloc (.cells #[.int .i64 0, .int .i64 0] 91) = W2 := ⟨_, rfl⟩
    obtain ⟨K5, hKe⟩ : ∃ Kx, X11.heap.size = Kx := ⟨_, rfl⟩
    rw [hW] at hbV hrV ⊢
    have HK5 := Lib.hid (show V.heap.size ≤ K5 from by rw [← hKe]; exact HS_11.out.size)
    have Hne := Lib.hid (show K5 ≠ K6 from by have := lt_of_block Hr6_11.out; omega)
    rw [hKe] at hrV ⊢
    have HS_14 := Lib.hid (HS_11.out.trans (hbV.mono HS_11.out.size))
    have Hr6_14 := Lib.hid ((hbV.block _ (lt_of_block Hr6_11.out)).trans Hr6_11.out)
    have Hr5_14 := Lib.hid hrV
    refine hK.out _ _ HS_14.out (fun _ => ?_)
    clear hK K2 hbV hrV hW hKe
    try simp only [Act.put, List.setIfInBounds_toArray, List.set_cons_zero, List.set_cons_succ]
    refine wpAnyH_ready (rs := [11]) (by kernel_rfl) (by simp) ?_
    refine AllReadyH.cons (o := { dst := some 18, op := Go.Op.call { callee := Go.Callee.value (Go.Operand.func 84), args := #[Go.Operand.tmp 16, Go.Operand.tmp 17], argTypes := #[98, 79] }, type := 91, pos := "chart.go:110", after := #[{ on := 9, ground := Go.Ground.data }, { on := 10, ground := Go.Ground.data }], guard := none }) rfl (fun K2 hK => ?_) AllReadyH.nil
    have key := begins84 B D A n cap nm M A2 m cap2 L Vp Cf Cb Bt Me Me2 Ms Ms2 nn nn2 x X14 (HBV.out.below HS_14.out (Nat.le_refl _)) HL.out (HVV.out.below HS_14.out (Nat.le_refl _)) HX.out
    rw [Hb.out] at key
    unfold plA at key
    have Key := Lib.hid key
    clear key
    go_simp
    refine Key.out.mono ?_
    clear Key
    rintro e9 X15 ⟨rfl, hbV⟩
    try unfold knV
    try go_simp
    have HS_15 := Lib.hid (HS_14.out.trans (hbV.mono HS_14.out.size))
    have Hr5_15 := Lib.hid ((hbV.block _ (lt_of_block Hr5_14.out)).trans Hr5_14.out)
    have Hr6_15 := Lib.hid ((hbV.block _ (lt_of_block Hr6_14.out)).trans Hr6_14.out)
    refine hK.out _ _ HS_15.out (fun _ => ?_)
    clear hK K2 hbV
    try simp only [Act.put, List.setIfInBounds_toArray, List.set_cons_zero, List.set_cons_succ]
    refine wpAnyH_ready (rs := [14]) (by kernel_rfl) (by simp) ?_
    refine AllReadyH.cons (o := { dst := none, op := Go.Op.store 91 (Go.Operand.tmp 5) (Go.Operand.tmp 15), type := 0, pos := "chart.go:110", after := #[{ on := 12, ground := Go.Ground.data }, { on := 8, ground := Go.Ground.data }, { on := 11, ground := Go.Ground.chain }, { on := 0, ground := Go.Ground.phase }, { on := 1, ground := Go.Ground.phase }, { on := 2, ground := Go.Ground.phase }, { on := 3, ground := Go.Ground.phase }, { on := 4, ground := Go.Ground.phase }, { on := 5, ground := Go.Ground.phase }, { on := 6, ground := Go.Ground.phase }, { on := 7, ground := Go.Ground.phase }, { on := 8, ground := Go.Ground.phase }, { on := 9, ground := Go.Ground.textOnly Go.Departure.lateStores }, { on := 10, ground := Go.Ground.textOnly Go.Departure.lateStores }, { on := 11, ground := Go.Ground.textOnly Go.Departure.lateStoresUnsure }, { on := 12, ground := Go.Ground.phase }, { on := 13, ground := Go.Ground.phase }], guard := none }) rfl (fun K2 hK => ?_) AllReadyH.nil
    have hn0 := Hr5_15.out
    have w0 : X15.cell? ⟨K5, 0, none⟩ = some (.int .i64 0) := by rw [cell_row hn0]; rfl
    have w1 : X15.cell? ⟨K5, 1, none⟩ = some (.int .i64 0) := by rw [cell_row hn0]; rfl
    have g0 : X15.frozen? ⟨K5, 0, none⟩ = false := frozen_row hn0
    have g1 : X15.frozen? ⟨K5, 1, none⟩ = false := frozen_row hn0
    go_simp
    have hk1 := keeps_setCell X15 K5 0 (.int .i64 e.1)
    have hk2 := keeps_setCell (X15.setCell ⟨K5, 0, none⟩ (.int .i64 e.1)) K5 1 (.int .i64 e.2)
    have hrow2 := set_same 1 (.int .i64 e.2) (set_same (W := X15) 0 (.int .i64 e.1) hn0)
    obtain ⟨Y1, hV2⟩ : ∃ V2, (X15.setCell ⟨K5, 0, none⟩ (.int .i64 e.1)).setCell ⟨K5, 1, none⟩ (.int .i64 e.2) = V2 := ⟨_, rfl⟩
    rw [hV2] at hk2 hrow2 ⊢
    have hk3 := hk1.trans hk2
    have HSY1 := Lib.hid (HS_15.out.trans (hk3.below HS_15.out.size (fun q hq e => by have e : q = K5 := e; have := HK5.out; omega)))
    have HRo := Lib.hid ((hk3.block _ (lt_of_block Hr6_15.out) (by have := Hne.out; omega)).trans Hr6_15.out)
    have HRe := Lib.hid hrow2
    clear hk1 hk2 hk3 hrow2 hV2 w0 w1 g0 g1 hn0
    refine hK.out _ _ HSY1.out (fun _ => ?_)
    clear hK K2
    try simp only [Act.put, List.setIfInBounds_toArray, List.set_cons_zero, List.set_cons_succ]
    refine wpAnyH_ready (rs := [15]) (by kernel_rfl) (by simp) ?_
    refine AllReadyH.cons (o := { dst := none, op := Go.Op.store 91 (Go.Operand.tmp 6) (Go.Operand.tmp 18), type := 0, pos := "chart.go:110", after := #[{ on := 13, ground := Go.Ground.data }, { on := 11, ground := Go.Ground.data }, { on := 14, ground := Go.Ground.chain }, { on := 0, ground := Go.Ground.phase }, { on := 1, ground := Go.Ground.phase }, { on := 2, ground := Go.Ground.phase }, { on := 3, ground := Go.Ground.phase }, { on := 4, ground := Go.Ground.phase }, { on := 5, ground := Go.Ground.phase }, { on := 6, ground := Go.Ground.phase }, { on := 7, ground := Go.Ground.phase }, { on := 8, ground := Go.Ground.phase }, { on := 9, ground := Go.Ground.phase }, { on := 10, ground := Go.Ground.phase }, { on := 11, ground := Go.Ground.phase }, { on := 12, ground := Go.Ground.phase }, { on := 13, ground := Go.Ground.phase }, { on := 14, ground := Go.Ground.phase }], guard := none }) rfl (fun K2 hK => ?_) AllReadyH.nil
    have hn0 := HRo.out
    have w0 : Y1.cell? ⟨K6, 0, none⟩ = some (.int .i64 0) := by rw [cell_row hn0]; rfl
    have w1 : Y1.cell? ⟨K6, 1, none⟩ = some (.int .i64 0) := by rw [cell_row hn0]; rfl
    have g0 : Y1.frozen? ⟨K6, 0, none⟩ = false := frozen_row hn0
    have g1 : Y1.frozen? ⟨K6, 1, none⟩ = false := frozen_row hn0
    go_simp
    have hk1 := keeps_setCell Y1 K6 0 (.int .i64 b.1)
    have hk2 := keeps_setCell (Y1.setCell ⟨K6, 0, none⟩ (.int .i64 b.1)) K6 1 (.int .i64 b.2)
    have hrow2 := set_same 1 (.int .i64 b.2) (set_same (W := Y1) 0 (.int .i64 b.1) hn0)
    obtain ⟨Y2, hV2⟩ : ∃ V2, (Y1.setCell ⟨K6, 0, none⟩ (.int .i64 b.1)).setCell ⟨K6, 1, none⟩ (.int .i64 b.2) = V2 := ⟨_, rfl⟩
    rw [hV2] at hk2 hrow2 ⊢
    have hk3 := hk1.trans hk2
    have HSY2 := Lib.hid (HSY1.out.trans (hk3.below HSY1.out.size (fun q hq e => by have e : q = K6 := e; have := HK6.out; omega)))
    have HRe2 := Lib.hid ((hk3.block _ (lt_of_block HRe.out) (by have := Hne.out; omega)).trans HRe.out)
    have HRb := Lib.hid hrow2
    clear hk1 hk2 hk3 hrow2 hV2 w0 w1 g0 g1 hn0
    refine hK.out _ _ HSY2.out (fun _ => ?_)
    clear hK K2
    try simp only [Act.put, List.setIfInBounds_toArray, List.set_cons_zero, List.set_cons_succ]
    refine wpAnyH_done (by kernel_rfl) ?_ _
    go_wp2_with fail
    go_meet
    case rel => exact ⟨K5, K6, rfl, rfl, HRe2.out, HRb.out, HSY2.out⟩
  case rest =>
    obtain ⟨k5, k6, rfl, rfl, r5, r6, hbx⟩ := hcut
    have c5a : wc.cell? ⟨k5, 0, none⟩ = some (.int .i64 e.1) := by rw [cell_row r5]; rfl
    have c5b : wc.cell? ⟨k5, 1, none⟩ = some (.int .i64 e.2) := by rw [cell_row r5]; rfl
    have c6a : wc.cell? ⟨k6, 0, none⟩ = some (.int .i64 b.1) := by rw [cell_row r6]; rfl
    have c6b : wc.cell? ⟨k6, 1, none⟩ = some (.int .i64 b.2) := by rw [cell_row r6]; rfl
    replace v0 := (hbx.cell (lt_of_cell v0)).trans v0
    replace b6 := (hbx.cell (lt_of_cell b6)).trans b6
    have HBf := Lib.hid (HBw.out.trans (hbx.mono HBw.out.size))
    clear r5 r6 hbx b1 x0 x1 x2 x3 b7
    obtain ⟨e1, e2⟩ := e
    obtain ⟨b1, b2⟩ := b
    obtain ⟨a1, a2⟩ := al
    dsimp only at h11 h12 h13 h14 h21 h22 h23 h24 h31 h32 h33 h34 c5a c5b c6a c6b b6
    have hsh := Hsh.out
    dsimp only at hsh
    by_cases hc : e1 + b1 - 1 < a1
    · rw [if_pos hc] at hsh
      have HF := Lib.hid hsh
      clear hsh Hsh Hbn
      go_wp2_with fail
      go_quiet (fail)
      have hd := Lib.hid (HBf.out.trans ((drew_b wc nq).mono HBf.out.size))
      go_wp2_with fail
      go_ret
      exact ⟨by rw [HF.out]; rfl, hd.out⟩
    · rw [if_neg hc] at hsh
      have hbn := Hbn.out
      rw [hsh] at hbn
      dsimp only at hbn
      obtain ⟨p1, p2⟩ := hbn
      obtain ⟨q, hq⟩ : ∃ q, e2 * b2 = q := ⟨_, rfl⟩
      have HF := Lib.hid hsh
      have HQ := Lib.hid hq
      have p3 : e2 * b2 ≤ 9223372036854775807 := by omega
      have p4 : -9223372036854775808 ≤ e2 * b2 := by omega
      clear hsh Hsh Hbn hq
      go_wp2_with fail
      go_quiet (fail)
      have hd := Lib.hid (HBf.out.trans ((drew_b wc nq).mono HBf.out.size))
      go_wp2_with fail
      go_ret
      exact ⟨by rw [HF.out]; rfl, hd.out⟩
end Go.Proofs.Ythdjbapidodlfaa
