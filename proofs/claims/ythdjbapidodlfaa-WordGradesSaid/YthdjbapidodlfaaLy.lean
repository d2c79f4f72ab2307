/- Stage 4: the board of lines, and what tells kin. -/
import Derived.Test.YthdjbapidodlfaaAl2
namespace Go.Proofs.Ythdjbapidodlfaa
set_option linter.unusedSimpArgs false
set_option linter.unusedVariables false
open Go.RowKit Go.Shelf
attribute [local go_sem ↓] exec_app
attribute [local go_sem] Oper.semAt_some

/-- A board: a dictionary, and lines. -/
structure Bo (W : World) (B D : Nat) (A : Option Addr) (n cap : Nat) (nm : List Int) (M : Nat) (A2 : Option Addr) (m cap2 : Nat) (L : List (List Int)) : Prop where
  row : W.heap[B]? = some (.cells #[.pointer (some ⟨D, 0, none⟩), .slice A2 m cap2] 112 (0, 0))
  dic : Dic W D A n cap nm M
  lns : Lns W A2 m L
section
variable {W W' : World} {B D : Nat} {A : Option Addr} {n cap : Nat} {nm : List Int} {M : Nat} {A2 : Option Addr} {m cap2 : Nat} {L : List (List Int)}
theorem Bo.c0 (h : Bo W B D A n cap nm M A2 m cap2 L) : W.cell? ⟨B, 0, none⟩ = some (.pointer (some ⟨D, 0, none⟩)) := by rw [cell_row h.row]; rfl
theorem Bo.c1 (h : Bo W B D A n cap nm M A2 m cap2 L) : W.cell? ⟨B, 1, none⟩ = some (.slice A2 m cap2) := by rw [cell_row h.row]; rfl
theorem Bo.below {Bs : Nat} (h : Bo W B D A n cap nm M A2 m cap2 L) (hb : Below Bs W W') (hB : W.heap.size ≤ Bs) : Bo W' B D A n cap nm M A2 m cap2 L :=
  ⟨(hb.block _ (by have := lt_of_block h.row; omega)).trans h.row, h.dic.below hb hB, h.lns.below hb hB⟩
end
/-- Lines that are valid: how many, how long, and their words. -/
structure LV (L : List (List Int)) (m : Nat) : Prop where
  len : L.length = m
  lo : 2 ≤ m
  hi : m ≤ 4
  le8 : ∀ j, j < m → (lAt L j).length ≤ 8
  wd : ∀ j, j < m → ∀ x ∈ lAt L j, ∃ u : Nat, x = (u : Int) ∧ 1 ≤ u ∧ u ≤ 100
theorem lv_of {zs : List Rg} {L : List (List Int)} {m : Nat} (hl : L.length = m) (h : chkL zs L = 0) : LV L m := by
  obtain ⟨_, h2, h3, h4, h5⟩ := chkL_zero.1 h
  refine ⟨hl, by omega, by omega, fun j hj => all8 h4 (by omega), fun j hj x hx => ?_⟩
  rw [lAt_eq (by omega)] at hx
  have := List.all_eq_true.1 h5 _ (List.getElem_mem (show j < L.length by omega))
  have := List.all_eq_true.1 this x hx
  rw [inB_iff] at this
  exact ⟨x.toNat, by omega, by omega, by omega⟩
set_option maxRecDepth 100000 in
set_option maxHeartbeats 8000000 in
theorem lay52 (A : Option Addr) (n cap : Nat) (zs : List Rg) (A2 : Option Addr) (m cap2 : Nat) (L : List (List Int)) (w : World) (h : Rgs w A n zs) (hL : Lns w A2 m L) (hm : m ≤ 9223372036854775807) :
    Calls Try.prog 52 #[.agg #[.slice A n cap], .slice A2 m cap2] w fun e w' => Below w.heap.size w w' ∧
      ((chkL zs L = 0 ∧ ∃ B D M, e = .returned (.tuple #[.pointer (some ⟨B, 0, none⟩), .int .i64 0]) ∧ Bo w' B D A n cap (cls (prs zs)) M A2 m cap2 L ∧ w.heap.size ≤ B ∧ w.heap.size ≤ D) ∨
       (chkL zs L ≠ 0 ∧ e = .returned (.tuple #[.pointer none, .int .i64 (chkL zs L)]))) := by
  have Hlen := Lib.hid hL.1
  have hb0 := below_alloc_ w (.cells #[.slice A n cap] 24)
  have hr0 := heap_alloc_new_ w (.cells #[.slice A n cap] 24)
  obtain ⟨W0, hW0⟩ : ∃ W0, w.alloc (.cells #[.slice A n cap] 24) = W0 := ⟨_, rfl⟩
  obtain ⟨R, hR⟩ : ∃ R, w.heap.size = R := ⟨_, rfl⟩
  rw [hW0] at hb0 hr0
  rw [hR] at hr0
  have S := Lib.hid (h.below hb0 (Nat.le_refl _))
  have X := Lib.hid (hL.below hb0 (Nat.le_refl _))
  have B0 := Lib.hid hb0
  have R0 := Lib.hid hr0
  have HW0 := Lib.hid hW0
  have HR := Lib.hid hR
  have r0 : W0.cell? ⟨R, 0, none⟩ = some (.slice A n cap) := by rw [cell_row hr0]; rfl
  obtain ⟨c, hc⟩ : ∃ c, chkL zs L = c := ⟨_, rfl⟩
  have Hc := Lib.hid hc
  clear h hL hb0 hr0 hW0 hR hc
  go_enter Try.func52, Try.ntmps52
  go_wp2_with fail
  rw [HW0.out]
  try rw [HR.out]
  try go_wp2_with fail
  have hcb := checkLines21 A n cap zs A2 m cap2 L W0 S.out X.out hm
  rw [Hc.out] at hcb
  refine hcb.mono ?_
  rintro en w1 ⟨rfl, hb⟩
  have B1 := Lib.hid hb
  replace S := Lib.hid (S.out.below hb (Nat.le_refl _))
  replace X := Lib.hid (X.out.below hb (Nat.le_refl _))
  replace R0 := Lib.hid ((hb.block _ (lt_of_block R0.out)).trans R0.out)
  clear hb hcb r0
  by_cases h0 : c = 0
  rotate_left
  · have d0 : (c != 0) = true := by rw [bne_iff_ne]; exact h0
    have H0 := Lib.hid h0
    clear h0
    go_wp2_with fail
    refine bodyPost_ret (v := .tuple #[.pointer none, .int .i64 c]) (by simp [results, Try.results52, go_sem]) rfl ?_
    exact ⟨B0.out.trans (B1.out.mono B0.out.size), .inr ⟨by rw [Hc.out]; exact H0.out, by rw [Hc.out]⟩⟩
  subst h0
  have r0 : w1.cell? ⟨R, 0, none⟩ = some (.slice A n cap) := by rw [cell_row R0.out]; rfl
  go_wp2_with fail
  refine (open48 A n cap zs w1 S.out (chkL_zero.1 Hc.out).1).mono ?_
  rintro e V ⟨D, M, rfl, hd, hDs, hb⟩
  have HD := Lib.hid hd
  have HDs := Lib.hid hDs
  have HS0 := Lib.hid (Nat.le_trans B0.out.size B1.out.size)
  replace X := Lib.hid (X.out.below hb (Nat.le_refl _))
  replace B1 := Lib.hid (B1.out.trans (hb.mono B1.out.size))
  have HS1 := Lib.hid (show w.heap.size ≤ w1.heap.size ∧ w1.heap.size ≤ V.heap.size from ⟨HS0.out, hb.size⟩)
  clear hb hd hDs r0
  go_wp2_with fail
  have hbz := below_alloc_ V (.cells #[.pointer (some ⟨D, 0, none⟩), .slice A2 m cap2] 112)
  have hzz := heap_alloc_new_ V (.cells #[.pointer (some ⟨D, 0, none⟩), .slice A2 m cap2] 112)
  obtain ⟨V2, hV⟩ : ∃ V2, V.alloc (.cells #[.pointer (some ⟨D, 0, none⟩), .slice A2 m cap2] 112) = V2 := ⟨_, rfl⟩
  rw [hV] at hbz hzz ⊢
  refine bodyPost_ret (v := .tuple #[.pointer (some ⟨V.heap.size, 0, none⟩), .int .i64 0]) (by simp [results, Try.results52, go_sem]) rfl ?_
  exact ⟨B0.out.trans ((B1.out.trans (hbz.mono B1.out.size)).mono B0.out.size), .inl ⟨Hc.out, V.heap.size, D, M, rfl, ⟨hzz, HD.out.below hbz (Nat.le_refl _), X.out.below hbz (Nat.le_refl _)⟩, Nat.le_trans HS1.out.1 HS1.out.2, Nat.le_trans HS1.out.1 HDs.out⟩⟩
set_option maxRecDepth 100000 in
set_option maxHeartbeats 8000000 in
theorem kin87 (D : Nat) (A : Option Addr) (n cap : Nat) (nm : List Int) (M : Nat) (u : Nat) (P2 Q : Nat) (cl : Int) (w : World) (h : Dic w D A n cap nm M) (hu : u ≤ 100) (c0 : w.cell? ⟨P2, 0, none⟩ = some (.pointer (some ⟨D, 0, none⟩))) (c1 : w.cell? ⟨Q, 0, none⟩ = some (.int .i64 cl)) :
    Calls Try.prog 87 (#[.int .i64 (u : Int)] ++ #[.pointer (some ⟨P2, 0, none⟩), .pointer (some ⟨Q, 0, none⟩)]) w fun e w' => e = .returned (.bool (decide (iAt nm u = cl))) ∧ Below w.heap.size w w' := by
  have HD := Lib.hid h
  clear h
  by_cases hcc : iAt nm u = cl
  · have HF := Lib.hid (decide_eq_true hcc)
    go_enter Try.func87, Try.ntmps87
    go_wp2_with fail
    refine wp_region_held_drew (S := fun w2 => Below w.heap.size w w2) (by kernel_rfl) (drew_b _ _) (fun hS0 => ?_)
    refine wpAnyH_take (i := 0) (oi := { dst := some 5, op := Go.Op.load 67 (Go.Operand.tmp 1), type := 67, pos := "book.go:50", after := #[], guard := none }) (v := .pointer (some ⟨D, 0, none⟩)) rfl (by kernel_rfl) (by kernel_rfl) (by kernel_rfl) (fun _ _ _ h => h) (Or.inl ⟨by rfl, by intro w2 hSw; (try dsimp only at hSw); have y0 := (hSw.cell (p := ⟨P2, 0, none⟩) (lt_of_cell c0)).trans c0; have y1 := (hSw.cell (p := ⟨Q, 0, none⟩) (lt_of_cell c1)).trans c1; go_simp⟩) hS0 ?_
    try simp only [Act.put, List.setIfInBounds_toArray, List.set_cons_zero, List.set_cons_succ]
    refine wpAnyH_take (i := 1) (oi := { dst := some 6, op := Go.Op.move (Go.Operand.tmp 0), type := 3, pos := "book.go:50", after := #[], guard := none }) (v := .int .i64 (u : Int)) rfl (by kernel_rfl) (by kernel_rfl) (by kernel_rfl) (fun _ _ _ h => h) (Or.inl ⟨by rfl, by intro w2 hSw; (try dsimp only at hSw); have y0 := (hSw.cell (p := ⟨P2, 0, none⟩) (lt_of_cell c0)).trans c0; have y1 := (hSw.cell (p := ⟨Q, 0, none⟩) (lt_of_cell c1)).trans c1; go_simp⟩) hS0 ?_
    try simp only [Act.put, List.setIfInBounds_toArray, List.set_cons_zero, List.set_cons_succ]
    refine wpAnyH_take (i := 3) (oi := { dst := some 8, op := Go.Op.load 3 (Go.Operand.tmp 2), type := 3, pos := "book.go:50", after := #[], guard := none }) (v := .int .i64 cl) rfl (by kernel_rfl) (by kernel_rfl) (by kernel_rfl) (fun _ _ _ h => h) (Or.inl ⟨by rfl, by intro w2 hSw; (try dsimp only at hSw); have y0 := (hSw.cell (p := ⟨P2, 0, none⟩) (lt_of_cell c0)).trans c0; have y1 := (hSw.cell (p := ⟨Q, 0, none⟩) (lt_of_cell c1)).trans c1; go_simp⟩) hS0 ?_
    try simp only [Act.put, List.setIfInBounds_toArray, List.set_cons_zero, List.set_cons_succ]
    refine wpAnyH_ready (rs := [2]) (by kernel_rfl) (by simp) ?_
    refine AllReadyH.cons (o := { dst := some 7, op := Go.Op.call { callee := Go.Callee.value (Go.Operand.func 71), args := #[Go.Operand.tmp 5, Go.Operand.tmp 6], argTypes := #[67, 3] }, type := 3, pos := "book.go:50", after := #[{ on := 0, ground := Go.Ground.data }, { on := 1, ground := Go.Ground.data }], guard := none }) rfl (fun K2 hK => ?_) AllReadyH.nil
    go_simp
    refine (class71 D A n cap nm M u _ (HD.out.below hS0 (Nat.le_refl _)) hu).mono ?_
    rintro e9 V1 ⟨rfl, hV1⟩
    obtain rfl := hV1
    try go_simp
    refine hK.out _ _ hS0 (fun hS1 => ?_)
    clear hK K2
    try simp only [Act.put, List.setIfInBounds_toArray, List.set_cons_zero, List.set_cons_succ]
    refine wpAnyH_take (i := 4) (oi := { dst := some 9, op := Go.Op.binOp Go.BinOp.eql 3 (Go.Operand.tmp 7) (Go.Operand.tmp 8) 3, type := 4, pos := "book.go:50", after := #[{ on := 2, ground := Go.Ground.data }, { on := 3, ground := Go.Ground.data }], guard := none }) (v := .bool true) rfl (by kernel_rfl) (by kernel_rfl) (by kernel_rfl) (fun _ _ _ h => h) (Or.inl ⟨by rfl, by intro w2 hSw; (try dsimp only at hSw); have y0 := (hSw.cell (p := ⟨P2, 0, none⟩) (lt_of_cell c0)).trans c0; have y1 := (hSw.cell (p := ⟨Q, 0, none⟩) (lt_of_cell c1)).trans c1; go_simp⟩) hS1 ?_
    try simp only [Act.put, List.setIfInBounds_toArray, List.set_cons_zero, List.set_cons_succ]
    refine wpAnyH_take (i := 5) (oi := { dst := some 4, op := Go.Op.assign (Go.Operand.tmp 9), type := 4, pos := "book.go:50", after := #[{ on := 4, ground := Go.Ground.data }, { on := 2, ground := Go.Ground.chain }, { on := 0, ground := Go.Ground.phase }, { on := 1, ground := Go.Ground.phase }, { on := 2, ground := Go.Ground.phase }, { on := 3, ground := Go.Ground.phase }, { on := 4, ground := Go.Ground.phase }], guard := none }) (v := .bool true) rfl (by kernel_rfl) (by kernel_rfl) (by kernel_rfl) (fun _ _ _ h => h) (Or.inl ⟨by rfl, by intro w2 hSw; (try dsimp only at hSw); have y0 := (hSw.cell (p := ⟨P2, 0, none⟩) (lt_of_cell c0)).trans c0; have y1 := (hSw.cell (p := ⟨Q, 0, none⟩) (lt_of_cell c1)).trans c1; go_simp⟩) hS1 ?_
    try simp only [Act.put, List.setIfInBounds_toArray, List.set_cons_zero, List.set_cons_succ]
    refine wpAnyH_done (by kernel_rfl) ?_ _
    go_wp2_with fail
    go_ret
    exact ⟨by rw [HF.out]; simp [hcc], hS1⟩
  · have HF := Lib.hid (decide_eq_false hcc)
    have d9 : (iAt nm u == cl) = false := by rw [beq_eq_false_iff_ne]; exact hcc
    go_enter Try.func87, Try.ntmps87
    go_wp2_with fail
    refine wp_region_held_drew (S := fun w2 => Below w.heap.size w w2) (by kernel_rfl) (drew_b _ _) (fun hS0 => ?_)
    refine wpAnyH_take (i := 0) (oi := { dst := some 5, op := Go.Op.load 67 (Go.Operand.tmp 1), type := 67, pos := "book.go:50", after := #[], guard := none }) (v := .pointer (some ⟨D, 0, none⟩)) rfl (by kernel_rfl) (by kernel_rfl) (by kernel_rfl) (fun _ _ _ h => h) (Or.inl ⟨by rfl, by intro w2 hSw; (try dsimp only at hSw); have y0 := (hSw.cell (p := ⟨P2, 0, none⟩) (lt_of_cell c0)).trans c0; have y1 := (hSw.cell (p := ⟨Q, 0, none⟩) (lt_of_cell c1)).trans c1; go_simp⟩) hS0 ?_
    try simp only [Act.put, List.setIfInBounds_toArray, List.set_cons_zero, List.set_cons_succ]
    refine wpAnyH_take (i := 1) (oi := { dst := some 6, op := Go.Op.move (Go.Operand.tmp 0), type := 3, pos := "book.go:50", after := #[], guard := none }) (v := .int .i64 (u : Int)) rfl (by kernel_rfl) (by kernel_rfl) (by kernel_rfl) (fun _ _ _ h => h) (Or.inl ⟨by rfl, by intro w2 hSw; (try dsimp only at hSw); have y0 := (hSw.cell (p := ⟨P2, 0, none⟩) (lt_of_cell c0)).trans c0; have y1 := (hSw.cell (p := ⟨Q, 0, none⟩) (lt_of_cell c1)).trans c1; go_simp⟩) hS0 ?_
    try simp only [Act.put, List.setIfInBounds_toArray, List.set_cons_zero, List.set_cons_succ]
    refine wpAnyH_take (i := 3) (oi := { dst := some 8, op := Go.Op.load 3 (Go.Operand.tmp 2), type := 3, pos := "book.go:50", after := #[], guard := none }) (v := .int .i64 cl) rfl (by kernel_rfl) (by kernel_rfl) (by kernel_rfl) (fun _ _ _ h => h) (Or.inl ⟨by rfl, by intro w2 hSw; (try dsimp only at hSw); have y0 := (hSw.cell (p := ⟨P2, 0, none⟩) (lt_of_cell c0)).trans c0; have y1 := (hSw.cell (p := ⟨Q, 0, none⟩) (lt_of_cell c1)).trans c1; go_simp⟩) hS0 ?_
    try simp only [Act.put, List.setIfInBounds_toArray, List.set_cons_zero, List.set_cons_succ]
    refine wpAnyH_ready (rs := [2]) (by kernel_rfl) (by simp) ?_
    refine AllReadyH.cons (o := { dst := some 7, op := Go.Op.call { callee := Go.Callee.value (Go.Operand.func 71), args := #[Go.Operand.tmp 5, Go.Operand.tmp 6], argTypes := #[67, 3] }, type := 3, pos := "book.go:50", after := #[{ on := 0, ground := Go.Ground.data }, { on := 1, ground := Go.Ground.data }], guard := none }) rfl (fun K2 hK => ?_) AllReadyH.nil
    go_simp
    refine (class71 D A n cap nm M u _ (HD.out.below hS0 (Nat.le_refl _)) hu).mono ?_
    rintro e9 V1 ⟨rfl, hV1⟩
    obtain rfl := hV1
    try go_simp
    refine hK.out _ _ hS0 (fun hS1 => ?_)
    clear hK K2
    try simp only [Act.put, List.setIfInBounds_toArray, List.set_cons_zero, List.set_cons_succ]
    refine wpAnyH_take (i := 4) (oi := { dst := some 9, op := Go.Op.binOp Go.BinOp.eql 3 (Go.Operand.tmp 7) (Go.Operand.tmp 8) 3, type := 4, pos := "book.go:50", after := #[{ on := 2, ground := Go.Ground.data }, { on := 3, ground := Go.Ground.data }], guard := none }) (v := .bool false) rfl (by kernel_rfl) (by kernel_rfl) (by kernel_rfl) (fun _ _ _ h => h) (Or.inl ⟨by rfl, by intro w2 hSw; (try dsimp only at hSw); have y0 := (hSw.cell (p := ⟨P2, 0, none⟩) (lt_of_cell c0)).trans c0; have y1 := (hSw.cell (p := ⟨Q, 0, none⟩) (lt_of_cell c1)).trans c1; go_simp⟩) hS1 ?_
    try simp only [Act.put, List.setIfInBounds_toArray, List.set_cons_zero, List.set_cons_succ]
    refine wpAnyH_take (i := 5) (oi := { dst := some 4, op := Go.Op.assign (Go.Operand.tmp 9), type := 4, pos := "book.go:50", after := #[{ on := 4, ground := Go.Ground.data }, { on := 2, ground := Go.Ground.chain }, { on := 0, ground := Go.Ground.phase }, { on := 1, ground := Go.Ground.phase }, { on := 2, ground := Go.Ground.phase }, { on := 3, ground := Go.Ground.phase }, { on := 4, ground := Go.Ground.phase }], guard := none }) (v := .bool false) rfl (by kernel_rfl) (by kernel_rfl) (by kernel_rfl) (fun _ _ _ h => h) (Or.inl ⟨by rfl, by intro w2 hSw; (try dsimp only at hSw); have y0 := (hSw.cell (p := ⟨P2, 0, none⟩) (lt_of_cell c0)).trans c0; have y1 := (hSw.cell (p := ⟨Q, 0, none⟩) (lt_of_cell c1)).trans c1; go_simp⟩) hS1 ?_
    try simp only [Act.put, List.setIfInBounds_toArray, List.set_cons_zero, List.set_cons_succ]
    refine wpAnyH_done (by kernel_rfl) ?_ _
    go_wp2_with fail
    go_ret
    exact ⟨by rw [HF.out]; rfl, hS1⟩
set_option maxRecDepth 100000 in
set_option maxHeartbeats 8000000 in
theorem kin76 (D : Nat) (A : Option Addr) (n cap : Nat) (nm : List Int) (M : Nat) (u : Nat) (w : World) (h : Dic w D A n cap nm M) (hu : u ≤ 100) :
    Calls Try.prog 76 #[.pointer (some ⟨D, 0, none⟩), .int .i64 (u : Int)] w fun e w' => ∃ P2 Q, e = .returned (.func (.func 87) #[] #[.pointer (some ⟨P2, 0, none⟩), .pointer (some ⟨Q, 0, none⟩)]) ∧ w'.cell? ⟨P2, 0, none⟩ = some (.pointer (some ⟨D, 0, none⟩)) ∧ w'.cell? ⟨Q, 0, none⟩ = some (.int .i64 (iAt nm u)) ∧ w.heap.size ≤ P2 ∧ w.heap.size ≤ Q ∧ Below w.heap.size w w' := by
  have hb0 := below_alloc_ w (.cells #[.pointer (some ⟨D, 0, none⟩)] 67)
  have hr0 := heap_alloc_new_ w (.cells #[.pointer (some ⟨D, 0, none⟩)] 67)
  obtain ⟨W0, hW0⟩ : ∃ W0, w.alloc (.cells #[.pointer (some ⟨D, 0, none⟩)] 67) = W0 := ⟨_, rfl⟩
  obtain ⟨R, hR⟩ : ∃ R, w.heap.size = R := ⟨_, rfl⟩
  rw [hW0] at hb0 hr0
  rw [hR] at hr0
  have HD := Lib.hid (h.below hb0 (Nat.le_refl _))
  have B0 := Lib.hid hb0
  have R0 := Lib.hid hr0
  have HW0 := Lib.hid hW0
  have HR := Lib.hid hR
  have r0 : W0.cell? ⟨R, 0, none⟩ = some (.pointer (some ⟨D, 0, none⟩)) := by rw [cell_row hr0]; rfl
  clear h hb0 hr0 hW0 hR
  go_enter Try.func76, Try.ntmps76
  go_wp2_with fail
  rw [HW0.out]
  try rw [HR.out]
  try go_wp2_with fail
  refine (class71 D A n cap nm M u W0 HD.out hu).mono ?_
  rintro e W1 ⟨rfl, hW1⟩
  obtain rfl : W1 = W0 := hW1
  obtain ⟨v, hv⟩ : ∃ v, iAt nm u = v := ⟨_, rfl⟩
  rw [hv]
  go_wp2_with fail
  have hbz := below_alloc_ W1 (.cells #[.int .i64 v] 3)
  have hzz := heap_alloc_new_ W1 (.cells #[.int .i64 v] 3)
  obtain ⟨V2, hV⟩ : ∃ V2, W1.alloc (.cells #[.int .i64 v] 3) = V2 := ⟨_, rfl⟩
  rw [hV] at hbz hzz ⊢
  go_ret
  exact ⟨R, W1.heap.size, rfl, by rw [cell_row ((hbz.block _ (lt_of_block R0.out)).trans R0.out)]; rfl, by rw [cell_row hzz, hv]; rfl, Nat.le_of_eq HR.out, B0.out.size, B0.out.trans (hbz.mono B0.out.size)⟩
end Go.Proofs.Ythdjbapidodlfaa
