/- Stage 5: ListMore. -/
import Derived.Test.YtnodkgejggnehaaMo
import Derived.Deep.RegionHeld3
import Derived.Deep.CutRange
import Derived.IntWalk
namespace Go.Proofs.Ytnodkgejggnehaa
set_option linter.unusedSimpArgs false
set_option linter.unusedVariables false
open Go.RowKit Go.Shelf
section
attribute [local go_sem ↓] exec_app at_app
attribute [local go_sem] Oper.semAt_some
set_option maxRecDepth 100000 in
set_option maxHeartbeats 40000000 in
theorem more10 (sl sr : Int) (A : Option Addr) (n cap : Nat) (zs : List Rg) (A2 : Option Addr) (kn kc : Nat) (ks : List Int) (x y : Int) (U : Option Addr) (nu cu : Nat) (us : List Int) (w : World) (h : Rgs w A n zs) (hI : Ints w A2 kn ks) (hU : IntsU w U nu us) (hc9 : n ≤ cap) (hbn : n * 16 + 16 ≤ 140737488355328) :
  Calls Try.prog 10 #[.agg #[.int .i64 sl, .int .i64 sr, .slice A n cap, .slice A2 kn kc], .agg #[.int .i64 x, .int .i64 y], .slice U nu cu] w fun e w' => e = .returned (.bool true) ∧ Below w.heap.size w w' := by
 have hzl := h.1
 have Hzl := Lib.hid hzl
 have Hc9 := Lib.hid hc9
 clear hzl hc9
 obtain ⟨R, hR⟩ : ∃ v, w.heap.size = v := ⟨_, rfl⟩
 have hb0 := below_alloc_ w (.cells #[.int .i64 sl, .int .i64 sr, .slice A n cap, .slice A2 kn kc] 25)
 have hr0 := heap_alloc_new_ w (.cells #[.int .i64 sl, .int .i64 sr, .slice A n cap, .slice A2 kn kc] 25)
 have hz0 : (w.alloc (.cells #[.int .i64 sl, .int .i64 sr, .slice A n cap, .slice A2 kn kc] 25)).heap.size = w.heap.size + 1 := by simp
 obtain ⟨wb0, hwb0⟩ : ∃ v, w.alloc (.cells #[.int .i64 sl, .int .i64 sr, .slice A n cap, .slice A2 kn kc] 25) = v := ⟨_, rfl⟩
 rw [hwb0] at hb0 hr0 hz0
 rw [hR] at hr0 hz0
 have hB := hb0
 have hb1 := below_alloc_ wb0 (.cells #[.int .i64 x, .int .i64 y] 55)
 have hr1 := heap_alloc_new_ wb0 (.cells #[.int .i64 x, .int .i64 y] 55)
 have hz1 : (wb0.alloc (.cells #[.int .i64 x, .int .i64 y] 55)).heap.size = wb0.heap.size + 1 := by simp
 obtain ⟨w0, hw0⟩ : ∃ v, wb0.alloc (.cells #[.int .i64 x, .int .i64 y] 55) = v := ⟨_, rfl⟩
 rw [hw0] at hb1 hr1 hz1
 rw [hz0] at hr1 hz1
 replace hr0 := (hb1.block _ (lt_of_block hr0)).trans hr0
 replace hB := hB.trans (hb1.mono hB.size)
 have X := Lib.hid (h.below hB (Nat.le_refl _))
 have XI := Lib.hid (hI.below hB (Nat.le_refl _))
 have XU := Lib.hid (hU.below hB (Nat.le_refl _))
 have HS := Lib.hid hr0
 have HM := Lib.hid hr1
 have HW0 := Lib.hid hwb0
 have HW1 := Lib.hid hw0
 have B := Lib.hid hB
 have HR := Lib.hid hR
 clear hB hR hb0 hr0 hz0 hwb0 hb1 hr1 hz1 hw0 h hI hU
 have zHS0 : w0.cell? ⟨R, 0, none⟩ = some (.int .i64 sl) := by rw [cell_row HS.out]; rfl
 have zHS1 : w0.cell? ⟨R, 1, none⟩ = some (.int .i64 sr) := by rw [cell_row HS.out]; rfl
 have zHS2 : w0.cell? ⟨R, 2, none⟩ = some (.slice A n cap) := by rw [cell_row HS.out]; rfl
 have zHS3 : w0.cell? ⟨R, 3, none⟩ = some (.slice A2 kn kc) := by rw [cell_row HS.out]; rfl
 have zHM0 : w0.cell? ⟨R + 1, 0, none⟩ = some (.int .i64 x) := by rw [cell_row HM.out]; rfl
 have zHM1 : w0.cell? ⟨R + 1, 1, none⟩ = some (.int .i64 y) := by rw [cell_row HM.out]; rfl
 go_enter Try.func10, Try.ntmps10
 go_wp2_with fail
 try rw [HW0.out]
 try rw [HW1.out]
 try rw [HR.out]
 try simp only [Nat.add_assoc, Nat.reduceAdd]
 try go_wp2_with fail
 go_upto_region 1 with fail
 go_cut [7] from 12 to 26 (fun v7 wx => ∃ D C8 c8, v7 = .pointer (some ⟨D, 0, none⟩) ∧ wx.heap[D]? = some (.cells #[.int .i64 sl, .int .i64 sr, .slice C8 (n + 1) c8, .slice A2 kn kc] 25 (0, 0)) ∧ n + 1 ≤ c8 ∧ Rgs wx C8 (n + 1) (zs ++ [⟨x, y⟩]) ∧ Below w0.heap.size w0 wx)
 case first =>
  refine wp_region_held_drew (S := fun w2 => Below w0.heap.size w0 w2) (by kernel_rfl) (drew_b _ _) (fun hS0 => ?_)
  refine wpAnyH_take (i := 0) (oi := { dst := some 12, op := Go.Op.fieldAddr 25 (Go.Operand.tmp 3) 0, type := 0, pos := "outright.go:141", after := #[], guard := none }) (v := .pointer (some ⟨R, 0, none⟩)) rfl (by kernel_rfl) (by kernel_rfl) (by kernel_rfl) (fun _ _ _ h => h) (Or.inl ⟨by rfl, by intro w2 hSw; (try dsimp only at hSw);  go_simp⟩) hS0 ?_
  try simp only [Act.put, List.setIfInBounds_toArray, List.set_cons_zero, List.set_cons_succ]
  refine wpAnyH_take (i := 1) (oi := { dst := some 13, op := Go.Op.load 3 (Go.Operand.tmp 12), type := 3, pos := "outright.go:141", after := #[{ on := 0, ground := Go.Ground.data }], guard := none }) (v := .int .i64 sl) rfl (by kernel_rfl) (by kernel_rfl) (by kernel_rfl) (fun _ _ _ h => h) (Or.inl ⟨by rfl, by intro w2 hSw; (try dsimp only at hSw); have q0 := (hSw.cell (lt_of_cell zHS0)).trans zHS0; have q1 := (hSw.cell (lt_of_cell zHS1)).trans zHS1; have q2 := (hSw.cell (lt_of_cell zHS2)).trans zHS2; have q3 := (hSw.cell (lt_of_cell zHS3)).trans zHS3; have p0 := (hSw.cell (lt_of_cell zHM0)).trans zHM0; have p1 := (hSw.cell (lt_of_cell zHM1)).trans zHM1; go_simp⟩) hS0 ?_
  try simp only [Act.put, List.setIfInBounds_toArray, List.set_cons_zero, List.set_cons_succ]
  refine wpAnyH_take (i := 2) (oi := { dst := some 14, op := Go.Op.fieldAddr 25 (Go.Operand.tmp 3) 1, type := 0, pos := "outright.go:141", after := #[], guard := none }) (v := .pointer (some ⟨R, 1, none⟩)) rfl (by kernel_rfl) (by kernel_rfl) (by kernel_rfl) (fun _ _ _ h => h) (Or.inl ⟨by rfl, by intro w2 hSw; (try dsimp only at hSw);  go_simp⟩) hS0 ?_
  try simp only [Act.put, List.setIfInBounds_toArray, List.set_cons_zero, List.set_cons_succ]
  refine wpAnyH_take (i := 3) (oi := { dst := some 15, op := Go.Op.load 3 (Go.Operand.tmp 14), type := 3, pos := "outright.go:141", after := #[{ on := 2, ground := Go.Ground.data }], guard := none }) (v := .int .i64 sr) rfl (by kernel_rfl) (by kernel_rfl) (by kernel_rfl) (fun _ _ _ h => h) (Or.inl ⟨by rfl, by intro w2 hSw; (try dsimp only at hSw); have q0 := (hSw.cell (lt_of_cell zHS0)).trans zHS0; have q1 := (hSw.cell (lt_of_cell zHS1)).trans zHS1; have q2 := (hSw.cell (lt_of_cell zHS2)).trans zHS2; have q3 := (hSw.cell (lt_of_cell zHS3)).trans zHS3; have p0 := (hSw.cell (lt_of_cell zHM0)).trans zHM0; have p1 := (hSw.cell (lt_of_cell zHM1)).trans zHM1; go_simp⟩) hS0 ?_
  try simp only [Act.put, List.setIfInBounds_toArray, List.set_cons_zero, List.set_cons_succ]
  refine wpAnyH_take (i := 5) (oi := { dst := some 17, op := Go.Op.fieldAddr 25 (Go.Operand.tmp 3) 2, type := 0, pos := "outright.go:141", after := #[], guard := none }) (v := .pointer (some ⟨R, 2, none⟩)) rfl (by kernel_rfl) (by kernel_rfl) (by kernel_rfl) (fun _ _ _ h => h) (Or.inl ⟨by rfl, by intro w2 hSw; (try dsimp only at hSw);  go_simp⟩) hS0 ?_
  try simp only [Act.put, List.setIfInBounds_toArray, List.set_cons_zero, List.set_cons_succ]
  refine wpAnyH_take (i := 6) (oi := { dst := some 18, op := Go.Op.load 22 (Go.Operand.tmp 17), type := 22, pos := "outright.go:141", after := #[{ on := 5, ground := Go.Ground.data }], guard := none }) (v := .slice A n cap) rfl (by kernel_rfl) (by kernel_rfl) (by kernel_rfl) (fun _ _ _ h => h) (Or.inl ⟨by rfl, by intro w2 hSw; (try dsimp only at hSw); have q0 := (hSw.cell (lt_of_cell zHS0)).trans zHS0; have q1 := (hSw.cell (lt_of_cell zHS1)).trans zHS1; have q2 := (hSw.cell (lt_of_cell zHS2)).trans zHS2; have q3 := (hSw.cell (lt_of_cell zHS3)).trans zHS3; have p0 := (hSw.cell (lt_of_cell zHM0)).trans zHM0; have p1 := (hSw.cell (lt_of_cell zHM1)).trans zHM1; go_simp⟩) hS0 ?_
  try simp only [Act.put, List.setIfInBounds_toArray, List.set_cons_zero, List.set_cons_succ]
  refine wpAnyH_take (i := 8) (oi := { dst := some 20, op := Go.Op.load 55 (Go.Operand.tmp 4), type := 55, pos := "outright.go:141", after := #[], guard := none }) (v := .agg #[.int .i64 x, .int .i64 y]) rfl (by kernel_rfl) (by kernel_rfl) (by kernel_rfl) (fun _ _ _ h => h) (Or.inl ⟨by rfl, by intro w2 hSw; (try dsimp only at hSw); have q0 := (hSw.cell (lt_of_cell zHS0)).trans zHS0; have q1 := (hSw.cell (lt_of_cell zHS1)).trans zHS1; have q2 := (hSw.cell (lt_of_cell zHS2)).trans zHS2; have q3 := (hSw.cell (lt_of_cell zHS3)).trans zHS3; have p0 := (hSw.cell (lt_of_cell zHM0)).trans zHM0; have p1 := (hSw.cell (lt_of_cell zHM1)).trans zHM1; go_simp⟩) hS0 ?_
  try simp only [Act.put, List.setIfInBounds_toArray, List.set_cons_zero, List.set_cons_succ]
  refine wpAnyH_take (i := 11) (oi := { dst := some 23, op := Go.Op.fieldAddr 25 (Go.Operand.tmp 3) 3, type := 0, pos := "outright.go:141", after := #[], guard := none }) (v := .pointer (some ⟨R, 3, none⟩)) rfl (by kernel_rfl) (by kernel_rfl) (by kernel_rfl) (fun _ _ _ h => h) (Or.inl ⟨by rfl, by intro w2 hSw; (try dsimp only at hSw);  go_simp⟩) hS0 ?_
  try simp only [Act.put, List.setIfInBounds_toArray, List.set_cons_zero, List.set_cons_succ]
  refine wpAnyH_take (i := 12) (oi := { dst := some 24, op := Go.Op.load 23 (Go.Operand.tmp 23), type := 23, pos := "outright.go:141", after := #[{ on := 11, ground := Go.Ground.data }], guard := none }) (v := .slice A2 kn kc) rfl (by kernel_rfl) (by kernel_rfl) (by kernel_rfl) (fun _ _ _ h => h) (Or.inl ⟨by rfl, by intro w2 hSw; (try dsimp only at hSw); have q0 := (hSw.cell (lt_of_cell zHS0)).trans zHS0; have q1 := (hSw.cell (lt_of_cell zHS1)).trans zHS1; have q2 := (hSw.cell (lt_of_cell zHS2)).trans zHS2; have q3 := (hSw.cell (lt_of_cell zHS3)).trans zHS3; have p0 := (hSw.cell (lt_of_cell zHM0)).trans zHM0; have p1 := (hSw.cell (lt_of_cell zHM1)).trans zHM1; go_simp⟩) hS0 ?_
  try simp only [Act.put, List.setIfInBounds_toArray, List.set_cons_zero, List.set_cons_succ]
  generalize w0.drew = V0 at hS0 ⊢
  have hV0 := hS0
  clear hS0
  refine wpAnyH_ready (rs := [4, 9, 14]) (by kernel_rfl) (by simp) ?_
  refine AllReadyH.cons (o := { dst := some 16, op := Go.Op.buildSlice 22 0 #[], type := 22, pos := "outright.go:141", after := #[], guard := none }) rfl (fun K2 hK => ?_) ?_
  ·go_simp
   refine hK.out _ _ (hV0.trans ((below_alloc_ _ _).mono hV0.size)) (fun hV1 => ?_)
   clear hK K2
   have hZ := heap_alloc_new_ V0 (.cells #[] 55)
   have hb := below_alloc_ V0 (.cells #[] 55)
   have HZ0 := Lib.hid (show w0.heap.size ≤ V0.heap.size from hV0.size)
   have HB := Lib.hid (show ∀ j, Value.ownBlock (.slice (some ⟨V0.heap.size, 0, none⟩) 0 0) = some j → w0.heap.size ≤ j from fun j e => by have h9 : V0.heap.size = j := Option.some.inj e; have := HZ0.out; omega)
   generalize V0.alloc (.cells #[] 55) = V1 at *
   obtain ⟨Z, hZe⟩ : ∃ Z, V0.heap.size = Z := ⟨_, rfl⟩
   rw [hZe] at hZ HZ0 HB ⊢
   clear hZe hb
   have hown := own_empty (size := 2) hZ
   clear hZ
   try simp only [Act.put, List.setIfInBounds_toArray, List.set_cons_zero, List.set_cons_succ]
   refine wpAnyH_ready (rs := [7, 9, 14]) (by kernel_rfl) (by simp) ?_
   refine AllReadyH.cons (o := { dst := some 19, op := Go.Op.call { callee := Go.Callee.builtin Go.Builtin.append, args := #[Go.Operand.tmp 16, Go.Operand.tmp 18], argTypes := #[22, 22] }, type := 22, pos := "outright.go:141", after := #[{ on := 4, ground := Go.Ground.data }, { on := 6, ground := Go.Ground.data }], guard := none }) rfl (fun K2 hK => ?_) ?_
   ·obtain ⟨v1, V2, hrun, hown2, hKp, hon⟩ := app_rgs (c2 := cap) (xs := []) hown (X.out.below hV1 (Nat.le_refl _)) (by omega)
    have hV2h := Lib.hid (show Below w0.heap.size w0 V2 from hV1.trans (hKp.below hV1.size (fun j hj e => by have := HB.out j e; omega)))
    have HB2 := Lib.hid (show ∀ j, Value.ownBlock v1 = some j → w0.heap.size ≤ j from fun j e => by rcases hon with h9 | h9 <;> rw [h9] at e <;> first | exact HB.out j e | (have h8 : V1.heap.size = j := Option.some.inj e; have := hV1.size; omega))
    clear HB hown hon hKp
    have HB := HB2
    have Hown := Lib.hid hown2
    clear HB2 hown2
    go_simp
    try rw [hrun]
    try go_simp
    have hown := Hown.out
    clear Hown
    refine hK.out _ _ (hV2h.out) (fun hV2 => ?_)
    clear hK K2
    clear hrun hV2h
    try simp only [Act.put, List.setIfInBounds_toArray, List.set_cons_zero, List.set_cons_succ]
    refine wpAnyH_ready (rs := [9, 14]) (by kernel_rfl) (by simp) ?_
    refine AllReadyH.cons (o := { dst := some 21, op := Go.Op.buildSlice 22 1 #[(0, Go.Operand.tmp 20)], type := 22, pos := "outright.go:141", after := #[{ on := 8, ground := Go.Ground.data }], guard := none }) rfl (fun K2 hK => ?_) ?_
    ·go_simp
     refine hK.out _ _ (hV2.trans ((below_alloc_ _ _).mono hV2.size)) (fun hV3 => ?_)
     clear hK K2
     have hT := heap_alloc_new_ V2 (.cells #[.int .i64 x, .int .i64 y] 55)
     have hb := below_alloc_ V2 (.cells #[.int .i64 x, .int .i64 y] 55)
     have HOT := Lib.hid (show Value.ownBlock (v1) ≠ some V2.heap.size from fun e => by have := own_lt hown _ e; omega)
     replace hown := own_keep hown (Keeps.of_new (Mut := fun _ => False) hb) (fun _ _ e => e)
     have HT0 := Lib.hid (show w0.heap.size ≤ V2.heap.size from hV2.size)
     generalize V2.alloc (.cells #[.int .i64 x, .int .i64 y] 55) = V3 at *
     obtain ⟨T, hTe⟩ : ∃ T, V2.heap.size = T := ⟨_, rfl⟩
     rw [hTe] at hT HT0 HOT ⊢
     clear hTe hb
     try simp only [Act.put, List.setIfInBounds_toArray, List.set_cons_zero, List.set_cons_succ]
     refine wpAnyH_ready (rs := [10, 14]) (by kernel_rfl) (by simp) ?_
     refine AllReadyH.cons (o := { dst := some 22, op := Go.Op.call { callee := Go.Callee.builtin Go.Builtin.append, args := #[Go.Operand.tmp 19, Go.Operand.tmp 21], argTypes := #[22, 22] }, type := 22, pos := "outright.go:141", after := #[{ on := 7, ground := Go.Ground.data }, { on := 9, ground := Go.Ground.data }, { on := 7, ground := Go.Ground.chain }], guard := none }) rfl (fun K2 hK => ?_) ?_
     ·obtain ⟨v2, V4, hrun, hown2, hKp, hon⟩ := app_1r hown hT (by omega)
      have hV4h := Lib.hid (show Below w0.heap.size w0 V4 from hV3.trans (hKp.below hV3.size (fun j hj e => by have := HB.out j e; omega)))
      have HPT := Lib.hid (show Value.ownBlock v2 ≠ some T from by rcases hon with h9 | h9 <;> rw [h9] <;> first | exact HOT.out | (intro e; have h8 : V3.heap.size = T := Option.some.inj e; have := lt_of_block hT; omega))
      replace hT := (hKp.block _ (lt_of_block hT) HOT.out).trans hT
      clear HOT
      have HOT := HPT
      clear HPT
      have HB2 := Lib.hid (show ∀ j, Value.ownBlock v2 = some j → w0.heap.size ≤ j from fun j e => by rcases hon with h9 | h9 <;> rw [h9] at e <;> first | exact HB.out j e | (have h8 : V3.heap.size = j := Option.some.inj e; have := hV3.size; omega))
      clear HB hown hon hKp
      have HB := HB2
      have Hown := Lib.hid hown2
      clear HB2 hown2
      have hown9 := Hown.out
      clear Hown
      rw [Nat.zero_add, List.nil_append] at hown9
      obtain ⟨C8, c8, rfl, hc8, hr8, hC8⟩ := rgs_own (by rw [List.length_append, Hzl.out]; rfl) hown9
      have HR8 := Lib.hid hr8
      have Hc8 := Lib.hid hc8
      clear hr8 hC8 hown9 hc8
      go_simp
      try rw [hrun]
      try go_simp
      refine hK.out _ _ (hV4h.out) (fun hV4 => ?_)
      clear hK K2
      clear hrun hV4h
      try simp only [Act.put, List.setIfInBounds_toArray, List.set_cons_zero, List.set_cons_succ]
      refine wpAnyH_take (i := 13) (oi := { dst := some 25, op := Go.Op.build 25 #[(0, Go.Operand.tmp 13), (1, Go.Operand.tmp 15), (2, Go.Operand.tmp 22), (3, Go.Operand.tmp 24)], type := 25, pos := "outright.go:141", after := #[{ on := 1, ground := Go.Ground.data }, { on := 3, ground := Go.Ground.data }, { on := 10, ground := Go.Ground.data }, { on := 12, ground := Go.Ground.data }], guard := none }) (v := .agg #[.int .i64 sl, .int .i64 sr, .slice C8 (n + 1) c8, .slice A2 kn kc]) rfl (by kernel_rfl) (by kernel_rfl) (by kernel_rfl) (fun _ _ _ h => h) (Or.inl ⟨by rfl, by intro w2 hSw; (try dsimp only at hSw);  go_simp⟩) hV4 ?_
      try simp only [Act.put, List.setIfInBounds_toArray, List.set_cons_zero, List.set_cons_succ]
      refine wpAnyH_ready (rs := [14]) (by kernel_rfl) (by simp) ?_
      refine AllReadyH.cons (o := { dst := some 7, op := Go.Op.alloc 25, type := 0, pos := "outright.go:141", after := #[], guard := none }) rfl (fun K2 hK => ?_) ?_
      ·go_simp
       refine hK.out _ _ (hV4.trans ((below_alloc_ _ _).mono hV4.size)) (fun hV5 => ?_)
       clear hK K2
       have hD := heap_alloc_new_ V4 (.cells #[.int .i64 0, .int .i64 0, .slice none 0 0, .slice none 0 0] 25)
       have hb := below_alloc_ V4 (.cells #[.int .i64 0, .int .i64 0, .slice none 0 0, .slice none 0 0] 25)
       have HNTD := Lib.hid (show T ≠ V4.heap.size from by have := lt_of_block hT; omega)
       have HOD := Lib.hid (show ∀ b o, C8 = some ⟨b, o, none⟩ → b ≠ V4.heap.size from fun b o e => by obtain ⟨b2, o2, e2, hc2⟩ := HR8.out.2 (by omega); rw [e2] at e; cases e; have := lt_of_cell (hc2 0 (by omega)).1; omega)
       replace HR8 := Lib.hid (HR8.out.below hb (Nat.le_refl _))
       replace hT := (hb.block _ (lt_of_block hT)).trans hT
       have HD0 := Lib.hid (show w0.heap.size ≤ V4.heap.size from hV4.size)
       generalize V4.alloc (.cells #[.int .i64 0, .int .i64 0, .slice none 0 0, .slice none 0 0] 25) = V5 at *
       obtain ⟨D, hDe⟩ : ∃ D, V4.heap.size = D := ⟨_, rfl⟩
       rw [hDe] at hD HD0 HNTD HOD ⊢
       clear hDe hb
       try simp only [Act.put, List.setIfInBounds_toArray, List.set_cons_zero, List.set_cons_succ]
       have f0 : V5.cell? ⟨D, 0, none⟩ = some (.int .i64 0) := by rw [cell_row hD]; rfl
       have f1 : V5.cell? ⟨D, 1, none⟩ = some (.int .i64 0) := by rw [cell_row hD]; rfl
       have f2 : V5.cell? ⟨D, 2, none⟩ = some (.slice none 0 0) := by rw [cell_row hD]; rfl
       have f3 : V5.cell? ⟨D, 3, none⟩ = some (.slice none 0 0) := by rw [cell_row hD]; rfl
       have fz : ∀ i, V5.frozen? ⟨D, i, none⟩ = false := fun i => frozen_row hD
       have HF := Lib.hid (more_sheet (c8 := c8) (sl := sl) (sr := sr) (v3 := .slice A2 kn kc) hV5 hD HD0.out HR8.out HOD.out)
       clear hD
       refine wpAnyH_ready (rs := [15]) (by kernel_rfl) (by simp) ?_
       refine AllReadyH.cons (o := { dst := none, op := Go.Op.store 25 (Go.Operand.tmp 7) (Go.Operand.tmp 25), type := 0, pos := "outright.go:141", after := #[{ on := 14, ground := Go.Ground.data }, { on := 13, ground := Go.Ground.data }, { on := 10, ground := Go.Ground.chain }, { on := 0, ground := Go.Ground.phase }, { on := 1, ground := Go.Ground.phase }, { on := 2, ground := Go.Ground.phase }, { on := 3, ground := Go.Ground.phase }, { on := 4, ground := Go.Ground.phase }, { on := 5, ground := Go.Ground.phase }, { on := 6, ground := Go.Ground.phase }, { on := 7, ground := Go.Ground.phase }, { on := 8, ground := Go.Ground.phase }, { on := 9, ground := Go.Ground.phase }, { on := 10, ground := Go.Ground.phase }, { on := 11, ground := Go.Ground.phase }, { on := 12, ground := Go.Ground.phase }, { on := 13, ground := Go.Ground.phase }, { on := 14, ground := Go.Ground.phase }], guard := none }) rfl (fun K2 hK => ?_) AllReadyH.nil
       go_simp
       refine hK.out _ _ HF.out.2.2 (fun hSf => ?_)
       clear hK K2
       try simp only [Act.put, List.setIfInBounds_toArray, List.set_cons_zero, List.set_cons_succ]
       refine wpAnyH_done (by kernel_rfl) ?_ _
       clear f0 f1 f2 f3 fz hSf
       go_wp2_with fail
       go_meet
       case rel => exact ⟨D, C8, c8, rfl, HF.out.1, Hc8.out, HF.out.2.1, HF.out.2.2⟩
      exact AllReadyH.nil
     refine AllReadyH.cons (o := { dst := some 7, op := Go.Op.alloc 25, type := 0, pos := "outright.go:141", after := #[], guard := none }) rfl (fun K2 hK => ?_) ?_
     ·go_simp
      refine hK.out _ _ (hV3.trans ((below_alloc_ _ _).mono hV3.size)) (fun hV4 => ?_)
      clear hK K2
      have hD := heap_alloc_new_ V3 (.cells #[.int .i64 0, .int .i64 0, .slice none 0 0, .slice none 0 0] 25)
      have hb := below_alloc_ V3 (.cells #[.int .i64 0, .int .i64 0, .slice none 0 0, .slice none 0 0] 25)
      have HNTD := Lib.hid (show T ≠ V3.heap.size from by have := lt_of_block hT; omega)
      have HOD := Lib.hid (show Value.ownBlock (v1) ≠ some V3.heap.size from fun e => by have := own_lt hown _ e; omega)
      replace hown := own_keep hown (Keeps.of_new (Mut := fun _ => False) hb) (fun _ _ e => e)
      replace hT := (hb.block _ (lt_of_block hT)).trans hT
      have HD0 := Lib.hid (show w0.heap.size ≤ V3.heap.size from hV3.size)
      generalize V3.alloc (.cells #[.int .i64 0, .int .i64 0, .slice none 0 0, .slice none 0 0] 25) = V4 at *
      obtain ⟨D, hDe⟩ : ∃ D, V3.heap.size = D := ⟨_, rfl⟩
      rw [hDe] at hD HD0 HNTD HOD ⊢
      clear hDe hb
      try simp only [Act.put, List.setIfInBounds_toArray, List.set_cons_zero, List.set_cons_succ]
      refine wpAnyH_ready (rs := [10]) (by kernel_rfl) (by simp) ?_
      refine AllReadyH.cons (o := { dst := some 22, op := Go.Op.call { callee := Go.Callee.builtin Go.Builtin.append, args := #[Go.Operand.tmp 19, Go.Operand.tmp 21], argTypes := #[22, 22] }, type := 22, pos := "outright.go:141", after := #[{ on := 7, ground := Go.Ground.data }, { on := 9, ground := Go.Ground.data }, { on := 7, ground := Go.Ground.chain }], guard := none }) rfl (fun K2 hK => ?_) ?_
      ·obtain ⟨v2, V5, hrun, hown2, hKp, hon⟩ := app_1r hown hT (by omega)
       have hV5h := Lib.hid (show Below w0.heap.size w0 V5 from hV4.trans (hKp.below hV4.size (fun j hj e => by have := HB.out j e; omega)))
       have HPT := Lib.hid (show Value.ownBlock v2 ≠ some T from by rcases hon with h9 | h9 <;> rw [h9] <;> first | exact HOT.out | (intro e; have h8 : V4.heap.size = T := Option.some.inj e; have := lt_of_block hT; omega))
       replace hT := (hKp.block _ (lt_of_block hT) HOT.out).trans hT
       clear HOT
       have HOT := HPT
       clear HPT
       have HPD := Lib.hid (show Value.ownBlock v2 ≠ some D from by rcases hon with h9 | h9 <;> rw [h9] <;> first | exact HOD.out | (intro e; have h8 : V4.heap.size = D := Option.some.inj e; have := lt_of_block hD; omega))
       replace hD := (hKp.block _ (lt_of_block hD) HOD.out).trans hD
       clear HOD
       have HOD := HPD
       clear HPD
       have HB2 := Lib.hid (show ∀ j, Value.ownBlock v2 = some j → w0.heap.size ≤ j from fun j e => by rcases hon with h9 | h9 <;> rw [h9] at e <;> first | exact HB.out j e | (have h8 : V4.heap.size = j := Option.some.inj e; have := hV4.size; omega))
       clear HB hown hon hKp
       have HB := HB2
       have Hown := Lib.hid hown2
       clear HB2 hown2
       have hown9 := Hown.out
       clear Hown
       rw [Nat.zero_add, List.nil_append] at hown9
       obtain ⟨C8, c8, rfl, hc8, hr8, hC8⟩ := rgs_own (by rw [List.length_append, Hzl.out]; rfl) hown9
       have HR8 := Lib.hid hr8
       have Hc8 := Lib.hid hc8
       have HC8 := Lib.hid (show ∀ b o, C8 = some ⟨b, o, none⟩ → b ≠ D from fun b o e e2 => HOD.out (by rw [← e2]; exact (hC8 b o e).1))
       clear HOD
       have HOD := HC8
       clear HC8
       clear hr8 hC8 hown9 hc8
       go_simp
       try rw [hrun]
       try go_simp
       refine hK.out _ _ (hV5h.out) (fun hV5 => ?_)
       clear hK K2
       clear hrun hV5h
       try simp only [Act.put, List.setIfInBounds_toArray, List.set_cons_zero, List.set_cons_succ]
       refine wpAnyH_take (i := 13) (oi := { dst := some 25, op := Go.Op.build 25 #[(0, Go.Operand.tmp 13), (1, Go.Operand.tmp 15), (2, Go.Operand.tmp 22), (3, Go.Operand.tmp 24)], type := 25, pos := "outright.go:141", after := #[{ on := 1, ground := Go.Ground.data }, { on := 3, ground := Go.Ground.data }, { on := 10, ground := Go.Ground.data }, { on := 12, ground := Go.Ground.data }], guard := none }) (v := .agg #[.int .i64 sl, .int .i64 sr, .slice C8 (n + 1) c8, .slice A2 kn kc]) rfl (by kernel_rfl) (by kernel_rfl) (by kernel_rfl) (fun _ _ _ h => h) (Or.inl ⟨by rfl, by intro w2 hSw; (try dsimp only at hSw);  go_simp⟩) hV5 ?_
       try simp only [Act.put, List.setIfInBounds_toArray, List.set_cons_zero, List.set_cons_succ]
       have f0 : V5.cell? ⟨D, 0, none⟩ = some (.int .i64 0) := by rw [cell_row hD]; rfl
       have f1 : V5.cell? ⟨D, 1, none⟩ = some (.int .i64 0) := by rw [cell_row hD]; rfl
       have f2 : V5.cell? ⟨D, 2, none⟩ = some (.slice none 0 0) := by rw [cell_row hD]; rfl
       have f3 : V5.cell? ⟨D, 3, none⟩ = some (.slice none 0 0) := by rw [cell_row hD]; rfl
       have fz : ∀ i, V5.frozen? ⟨D, i, none⟩ = false := fun i => frozen_row hD
       have HF := Lib.hid (more_sheet (c8 := c8) (sl := sl) (sr := sr) (v3 := .slice A2 kn kc) hV5 hD HD0.out HR8.out HOD.out)
       clear hD
       refine wpAnyH_ready (rs := [15]) (by kernel_rfl) (by simp) ?_
       refine AllReadyH.cons (o := { dst := none, op := Go.Op.store 25 (Go.Operand.tmp 7) (Go.Operand.tmp 25), type := 0, pos := "outright.go:141", after := #[{ on := 14, ground := Go.Ground.data }, { on := 13, ground := Go.Ground.data }, { on := 10, ground := Go.Ground.chain }, { on := 0, ground := Go.Ground.phase }, { on := 1, ground := Go.Ground.phase }, { on := 2, ground := Go.Ground.phase }, { on := 3, ground := Go.Ground.phase }, { on := 4, ground := Go.Ground.phase }, { on := 5, ground := Go.Ground.phase }, { on := 6, ground := Go.Ground.phase }, { on := 7, ground := Go.Ground.phase }, { on := 8, ground := Go.Ground.phase }, { on := 9, ground := Go.Ground.phase }, { on := 10, ground := Go.Ground.phase }, { on := 11, ground := Go.Ground.phase }, { on := 12, ground := Go.Ground.phase }, { on := 13, ground := Go.Ground.phase }, { on := 14, ground := Go.Ground.phase }], guard := none }) rfl (fun K2 hK => ?_) AllReadyH.nil
       go_simp
       refine hK.out _ _ HF.out.2.2 (fun hSf => ?_)
       clear hK K2
       try simp only [Act.put, List.setIfInBounds_toArray, List.set_cons_zero, List.set_cons_succ]
       refine wpAnyH_done (by kernel_rfl) ?_ _
       clear f0 f1 f2 f3 fz hSf
       go_wp2_with fail
       go_meet
       case rel => exact ⟨D, C8, c8, rfl, HF.out.1, Hc8.out, HF.out.2.1, HF.out.2.2⟩
      exact AllReadyH.nil
     exact AllReadyH.nil
    refine AllReadyH.cons (o := { dst := some 7, op := Go.Op.alloc 25, type := 0, pos := "outright.go:141", after := #[], guard := none }) rfl (fun K2 hK => ?_) ?_
    ·go_simp
     refine hK.out _ _ (hV2.trans ((below_alloc_ _ _).mono hV2.size)) (fun hV3 => ?_)
     clear hK K2
     have hD := heap_alloc_new_ V2 (.cells #[.int .i64 0, .int .i64 0, .slice none 0 0, .slice none 0 0] 25)
     have hb := below_alloc_ V2 (.cells #[.int .i64 0, .int .i64 0, .slice none 0 0, .slice none 0 0] 25)
     have HOD := Lib.hid (show Value.ownBlock (v1) ≠ some V2.heap.size from fun e => by have := own_lt hown _ e; omega)
     replace hown := own_keep hown (Keeps.of_new (Mut := fun _ => False) hb) (fun _ _ e => e)
     have HD0 := Lib.hid (show w0.heap.size ≤ V2.heap.size from hV2.size)
     generalize V2.alloc (.cells #[.int .i64 0, .int .i64 0, .slice none 0 0, .slice none 0 0] 25) = V3 at *
     obtain ⟨D, hDe⟩ : ∃ D, V2.heap.size = D := ⟨_, rfl⟩
     rw [hDe] at hD HD0 HOD ⊢
     clear hDe hb
     try simp only [Act.put, List.setIfInBounds_toArray, List.set_cons_zero, List.set_cons_succ]
     refine wpAnyH_ready (rs := [9]) (by kernel_rfl) (by simp) ?_
     refine AllReadyH.cons (o := { dst := some 21, op := Go.Op.buildSlice 22 1 #[(0, Go.Operand.tmp 20)], type := 22, pos := "outright.go:141", after := #[{ on := 8, ground := Go.Ground.data }], guard := none }) rfl (fun K2 hK => ?_) ?_
     ·go_simp
      refine hK.out _ _ (hV3.trans ((below_alloc_ _ _).mono hV3.size)) (fun hV4 => ?_)
      clear hK K2
      have hT := heap_alloc_new_ V3 (.cells #[.int .i64 x, .int .i64 y] 55)
      have hb := below_alloc_ V3 (.cells #[.int .i64 x, .int .i64 y] 55)
      have HNDT := Lib.hid (show D ≠ V3.heap.size from by have := lt_of_block hD; omega)
      have HOT := Lib.hid (show Value.ownBlock (v1) ≠ some V3.heap.size from fun e => by have := own_lt hown _ e; omega)
      replace hown := own_keep hown (Keeps.of_new (Mut := fun _ => False) hb) (fun _ _ e => e)
      replace hD := (hb.block _ (lt_of_block hD)).trans hD
      have HT0 := Lib.hid (show w0.heap.size ≤ V3.heap.size from hV3.size)
      generalize V3.alloc (.cells #[.int .i64 x, .int .i64 y] 55) = V4 at *
      obtain ⟨T, hTe⟩ : ∃ T, V3.heap.size = T := ⟨_, rfl⟩
      rw [hTe] at hT HT0 HNDT HOT ⊢
      clear hTe hb
      try simp only [Act.put, List.setIfInBounds_toArray, List.set_cons_zero, List.set_cons_succ]
      refine wpAnyH_ready (rs := [10]) (by kernel_rfl) (by simp) ?_
      refine AllReadyH.cons (o := { dst := some 22, op := Go.Op.call { callee := Go.Callee.builtin Go.Builtin.append, args := #[Go.Operand.tmp 19, Go.Operand.tmp 21], argTypes := #[22, 22] }, type := 22, pos := "outright.go:141", after := #[{ on := 7, ground := Go.Ground.data }, { on := 9, ground := Go.Ground.data }, { on := 7, ground := Go.Ground.chain }], guard := none }) rfl (fun K2 hK => ?_) ?_
      ·obtain ⟨v2, V5, hrun, hown2, hKp, hon⟩ := app_1r hown hT (by omega)
       have hV5h := Lib.hid (show Below w0.heap.size w0 V5 from hV4.trans (hKp.below hV4.size (fun j hj e => by have := HB.out j e; omega)))
       have HPD := Lib.hid (show Value.ownBlock v2 ≠ some D from by rcases hon with h9 | h9 <;> rw [h9] <;> first | exact HOD.out | (intro e; have h8 : V4.heap.size = D := Option.some.inj e; have := lt_of_block hD; omega))
       replace hD := (hKp.block _ (lt_of_block hD) HOD.out).trans hD
       clear HOD
       have HOD := HPD
       clear HPD
       have HPT := Lib.hid (show Value.ownBlock v2 ≠ some T from by rcases hon with h9 | h9 <;> rw [h9] <;> first | exact HOT.out | (intro e; have h8 : V4.heap.size = T := Option.some.inj e; have := lt_of_block hT; omega))
       replace hT := (hKp.block _ (lt_of_block hT) HOT.out).trans hT
       clear HOT
       have HOT := HPT
       clear HPT
       have HB2 := Lib.hid (show ∀ j, Value.ownBlock v2 = some j → w0.heap.size ≤ j from fun j e => by rcases hon with h9 | h9 <;> rw [h9] at e <;> first | exact HB.out j e | (have h8 : V4.heap.size = j := Option.some.inj e; have := hV4.size; omega))
       clear HB hown hon hKp
       have HB := HB2
       have Hown := Lib.hid hown2
       clear HB2 hown2
       have hown9 := Hown.out
       clear Hown
       rw [Nat.zero_add, List.nil_append] at hown9
       obtain ⟨C8, c8, rfl, hc8, hr8, hC8⟩ := rgs_own (by rw [List.length_append, Hzl.out]; rfl) hown9
       have HR8 := Lib.hid hr8
       have Hc8 := Lib.hid hc8
       have HC8 := Lib.hid (show ∀ b o, C8 = some ⟨b, o, none⟩ → b ≠ D from fun b o e e2 => HOD.out (by rw [← e2]; exact (hC8 b o e).1))
       clear HOD
       have HOD := HC8
       clear HC8
       clear hr8 hC8 hown9 hc8
       go_simp
       try rw [hrun]
       try go_simp
       refine hK.out _ _ (hV5h.out) (fun hV5 => ?_)
       clear hK K2
       clear hrun hV5h
       try simp only [Act.put, List.setIfInBounds_toArray, List.set_cons_zero, List.set_cons_succ]
       refine wpAnyH_take (i := 13) (oi := { dst := some 25, op := Go.Op.build 25 #[(0, Go.Operand.tmp 13), (1, Go.Operand.tmp 15), (2, Go.Operand.tmp 22), (3, Go.Operand.tmp 24)], type := 25, pos := "outright.go:141", after := #[{ on := 1, ground := Go.Ground.data }, { on := 3, ground := Go.Ground.data }, { on := 10, ground := Go.Ground.data }, { on := 12, ground := Go.Ground.data }], guard := none }) (v := .agg #[.int .i64 sl, .int .i64 sr, .slice C8 (n + 1) c8, .slice A2 kn kc]) rfl (by kernel_rfl) (by kernel_rfl) (by kernel_rfl) (fun _ _ _ h => h) (Or.inl ⟨by rfl, by intro w2 hSw; (try dsimp only at hSw);  go_simp⟩) hV5 ?_
       try simp only [Act.put, List.setIfInBounds_toArray, List.set_cons_zero, List.set_cons_succ]
       have f0 : V5.cell? ⟨D, 0, none⟩ = some (.int .i64 0) := by rw [cell_row hD]; rfl
       have f1 : V5.cell? ⟨D, 1, none⟩ = some (.int .i64 0) := by rw [cell_row hD]; rfl
       have f2 : V5.cell? ⟨D, 2, none⟩ = some (.slice none 0 0) := by rw [cell_row hD]; rfl
       have f3 : V5.cell? ⟨D, 3, none⟩ = some (.slice none 0 0) := by rw [cell_row hD]; rfl
       have fz : ∀ i, V5.frozen? ⟨D, i, none⟩ = false := fun i => frozen_row hD
       have HF := Lib.hid (more_sheet (c8 := c8) (sl := sl) (sr := sr) (v3 := .slice A2 kn kc) hV5 hD HD0.out HR8.out HOD.out)
       clear hD
       refine wpAnyH_ready (rs := [15]) (by kernel_rfl) (by simp) ?_
       refine AllReadyH.cons (o := { dst := none, op := Go.Op.store 25 (Go.Operand.tmp 7) (Go.Operand.tmp 25), type := 0, pos := "outright.go:141", after := #[{ on := 14, ground := Go.Ground.data }, { on := 13, ground := Go.Ground.data }, { on := 10, ground := Go.Ground.chain }, { on := 0, ground := Go.Ground.phase }, { on := 1, ground := Go.Ground.phase }, { on := 2, ground := Go.Ground.phase }, { on := 3, ground := Go.Ground.phase }, { on := 4, ground := Go.Ground.phase }, { on := 5, ground := Go.Ground.phase }, { on := 6, ground := Go.Ground.phase }, { on := 7, ground := Go.Ground.phase }, { on := 8, ground := Go.Ground.phase }, { on := 9, ground := Go.Ground.phase }, { on := 10, ground := Go.Ground.phase }, { on := 11, ground := Go.Ground.phase }, { on := 12, ground := Go.Ground.phase }, { on := 13, ground := Go.Ground.phase }, { on := 14, ground := Go.Ground.phase }], guard := none }) rfl (fun K2 hK => ?_) AllReadyH.nil
       go_simp
       refine hK.out _ _ HF.out.2.2 (fun hSf => ?_)
       clear hK K2
       try simp only [Act.put, List.setIfInBounds_toArray, List.set_cons_zero, List.set_cons_succ]
       refine wpAnyH_done (by kernel_rfl) ?_ _
       clear f0 f1 f2 f3 fz hSf
       go_wp2_with fail
       go_meet
       case rel => exact ⟨D, C8, c8, rfl, HF.out.1, Hc8.out, HF.out.2.1, HF.out.2.2⟩
      exact AllReadyH.nil
     exact AllReadyH.nil
    exact AllReadyH.nil
   refine AllReadyH.cons (o := { dst := some 21, op := Go.Op.buildSlice 22 1 #[(0, Go.Operand.tmp 20)], type := 22, pos := "outright.go:141", after := #[{ on := 8, ground := Go.Ground.data }], guard := none }) rfl (fun K2 hK => ?_) ?_
   ·go_simp
    refine hK.out _ _ (hV1.trans ((below_alloc_ _ _).mono hV1.size)) (fun hV2 => ?_)
    clear hK K2
    have hT := heap_alloc_new_ V1 (.cells #[.int .i64 x, .int .i64 y] 55)
    have hb := below_alloc_ V1 (.cells #[.int .i64 x, .int .i64 y] 55)
    have HOT := Lib.hid (show Value.ownBlock (.slice (some ⟨Z, 0, none⟩) 0 0) ≠ some V1.heap.size from fun e => by have := own_lt hown _ e; omega)
    replace hown := own_keep hown (Keeps.of_new (Mut := fun _ => False) hb) (fun _ _ e => e)
    have HT0 := Lib.hid (show w0.heap.size ≤ V1.heap.size from hV1.size)
    generalize V1.alloc (.cells #[.int .i64 x, .int .i64 y] 55) = V2 at *
    obtain ⟨T, hTe⟩ : ∃ T, V1.heap.size = T := ⟨_, rfl⟩
    rw [hTe] at hT HT0 HOT ⊢
    clear hTe hb
    try simp only [Act.put, List.setIfInBounds_toArray, List.set_cons_zero, List.set_cons_succ]
    refine wpAnyH_ready (rs := [7, 14]) (by kernel_rfl) (by simp) ?_
    refine AllReadyH.cons (o := { dst := some 19, op := Go.Op.call { callee := Go.Callee.builtin Go.Builtin.append, args := #[Go.Operand.tmp 16, Go.Operand.tmp 18], argTypes := #[22, 22] }, type := 22, pos := "outright.go:141", after := #[{ on := 4, ground := Go.Ground.data }, { on := 6, ground := Go.Ground.data }], guard := none }) rfl (fun K2 hK => ?_) ?_
    ·obtain ⟨v1, V3, hrun, hown2, hKp, hon⟩ := app_rgs (c2 := cap) (xs := []) hown (X.out.below hV2 (Nat.le_refl _)) (by omega)
     have hV3h := Lib.hid (show Below w0.heap.size w0 V3 from hV2.trans (hKp.below hV2.size (fun j hj e => by have := HB.out j e; omega)))
     have HPT := Lib.hid (show Value.ownBlock v1 ≠ some T from by rcases hon with h9 | h9 <;> rw [h9] <;> first | exact HOT.out | (intro e; have h8 : V2.heap.size = T := Option.some.inj e; have := lt_of_block hT; omega))
     replace hT := (hKp.block _ (lt_of_block hT) HOT.out).trans hT
     clear HOT
     have HOT := HPT
     clear HPT
     have HB2 := Lib.hid (show ∀ j, Value.ownBlock v1 = some j → w0.heap.size ≤ j from fun j e => by rcases hon with h9 | h9 <;> rw [h9] at e <;> first | exact HB.out j e | (have h8 : V2.heap.size = j := Option.some.inj e; have := hV2.size; omega))
     clear HB hown hon hKp
     have HB := HB2
     have Hown := Lib.hid hown2
     clear HB2 hown2
     go_simp
     try rw [hrun]
     try go_simp
     have hown := Hown.out
     clear Hown
     refine hK.out _ _ (hV3h.out) (fun hV3 => ?_)
     clear hK K2
     clear hrun hV3h
     try simp only [Act.put, List.setIfInBounds_toArray, List.set_cons_zero, List.set_cons_succ]
     refine wpAnyH_ready (rs := [10, 14]) (by kernel_rfl) (by simp) ?_
     refine AllReadyH.cons (o := { dst := some 22, op := Go.Op.call { callee := Go.Callee.builtin Go.Builtin.append, args := #[Go.Operand.tmp 19, Go.Operand.tmp 21], argTypes := #[22, 22] }, type := 22, pos := "outright.go:141", after := #[{ on := 7, ground := Go.Ground.data }, { on := 9, ground := Go.Ground.data }, { on := 7, ground := Go.Ground.chain }], guard := none }) rfl (fun K2 hK => ?_) ?_
     ·obtain ⟨v2, V4, hrun, hown2, hKp, hon⟩ := app_1r hown hT (by omega)
      have hV4h := Lib.hid (show Below w0.heap.size w0 V4 from hV3.trans (hKp.below hV3.size (fun j hj e => by have := HB.out j e; omega)))
      have HPT := Lib.hid (show Value.ownBlock v2 ≠ some T from by rcases hon with h9 | h9 <;> rw [h9] <;> first | exact HOT.out | (intro e; have h8 : V3.heap.size = T := Option.some.inj e; have := lt_of_block hT; omega))
      replace hT := (hKp.block _ (lt_of_block hT) HOT.out).trans hT
      clear HOT
      have HOT := HPT
      clear HPT
      have HB2 := Lib.hid (show ∀ j, Value.ownBlock v2 = some j → w0.heap.size ≤ j from fun j e => by rcases hon with h9 | h9 <;> rw [h9] at e <;> first | exact HB.out j e | (have h8 : V3.heap.size = j := Option.some.inj e; have := hV3.size; omega))
      clear HB hown hon hKp
      have HB := HB2
      have Hown := Lib.hid hown2
      clear HB2 hown2
      have hown9 := Hown.out
      clear Hown
      rw [Nat.zero_add, List.nil_append] at hown9
      obtain ⟨C8, c8, rfl, hc8, hr8, hC8⟩ := rgs_own (by rw [List.length_append, Hzl.out]; rfl) hown9
      have HR8 := Lib.hid hr8
      have Hc8 := Lib.hid hc8
      clear hr8 hC8 hown9 hc8
      go_simp
      try rw [hrun]
      try go_simp
      refine hK.out _ _ (hV4h.out) (fun hV4 => ?_)
      clear hK K2
      clear hrun hV4h
      try simp only [Act.put, List.setIfInBounds_toArray, List.set_cons_zero, List.set_cons_succ]
      refine wpAnyH_take (i := 13) (oi := { dst := some 25, op := Go.Op.build 25 #[(0, Go.Operand.tmp 13), (1, Go.Operand.tmp 15), (2, Go.Operand.tmp 22), (3, Go.Operand.tmp 24)], type := 25, pos := "outright.go:141", after := #[{ on := 1, ground := Go.Ground.data }, { on := 3, ground := Go.Ground.data }, { on := 10, ground := Go.Ground.data }, { on := 12, ground := Go.Ground.data }], guard := none }) (v := .agg #[.int .i64 sl, .int .i64 sr, .slice C8 (n + 1) c8, .slice A2 kn kc]) rfl (by kernel_rfl) (by kernel_rfl) (by kernel_rfl) (fun _ _ _ h => h) (Or.inl ⟨by rfl, by intro w2 hSw; (try dsimp only at hSw);  go_simp⟩) hV4 ?_
      try simp only [Act.put, List.setIfInBounds_toArray, List.set_cons_zero, List.set_cons_succ]
      refine wpAnyH_ready (rs := [14]) (by kernel_rfl) (by simp) ?_
      refine AllReadyH.cons (o := { dst := some 7, op := Go.Op.alloc 25, type := 0, pos := "outright.go:141", after := #[], guard := none }) rfl (fun K2 hK => ?_) ?_
      ·go_simp
       refine hK.out _ _ (hV4.trans ((below_alloc_ _ _).mono hV4.size)) (fun hV5 => ?_)
       clear hK K2
       have hD := heap_alloc_new_ V4 (.cells #[.int .i64 0, .int .i64 0, .slice none 0 0, .slice none 0 0] 25)
       have hb := below_alloc_ V4 (.cells #[.int .i64 0, .int .i64 0, .slice none 0 0, .slice none 0 0] 25)
       have HNTD := Lib.hid (show T ≠ V4.heap.size from by have := lt_of_block hT; omega)
       have HOD := Lib.hid (show ∀ b o, C8 = some ⟨b, o, none⟩ → b ≠ V4.heap.size from fun b o e => by obtain ⟨b2, o2, e2, hc2⟩ := HR8.out.2 (by omega); rw [e2] at e; cases e; have := lt_of_cell (hc2 0 (by omega)).1; omega)
       replace HR8 := Lib.hid (HR8.out.below hb (Nat.le_refl _))
       replace hT := (hb.block _ (lt_of_block hT)).trans hT
       have HD0 := Lib.hid (show w0.heap.size ≤ V4.heap.size from hV4.size)
       generalize V4.alloc (.cells #[.int .i64 0, .int .i64 0, .slice none 0 0, .slice none 0 0] 25) = V5 at *
       obtain ⟨D, hDe⟩ : ∃ D, V4.heap.size = D := ⟨_, rfl⟩
       rw [hDe] at hD HD0 HNTD HOD ⊢
       clear hDe hb
       try simp only [Act.put, List.setIfInBounds_toArray, List.set_cons_zero, List.set_cons_succ]
       have f0 : V5.cell? ⟨D, 0, none⟩ = some (.int .i64 0) := by rw [cell_row hD]; rfl
       have f1 : V5.cell? ⟨D, 1, none⟩ = some (.int .i64 0) := by rw [cell_row hD]; rfl
       have f2 : V5.cell? ⟨D, 2, none⟩ = some (.slice none 0 0) := by rw [cell_row hD]; rfl
       have f3 : V5.cell? ⟨D, 3, none⟩ = some (.slice none 0 0) := by rw [cell_row hD]; rfl
       have fz : ∀ i, V5.frozen? ⟨D, i, none⟩ = false := fun i => frozen_row hD
       have HF := Lib.hid (more_sheet (c8 := c8) (sl := sl) (sr := sr) (v3 := .slice A2 kn kc) hV5 hD HD0.out HR8.out HOD.out)
       clear hD
       refine wpAnyH_ready (rs := [15]) (by kernel_rfl) (by simp) ?_
       refine AllReadyH.cons (o := { dst := none, op := Go.Op.store 25 (Go.Operand.tmp 7) (Go.Operand.tmp 25), type := 0, pos := "outright.go:141", after := #[{ on := 14, ground := Go.Ground.data }, { on := 13, ground := Go.Ground.data }, { on := 10, ground := Go.Ground.chain }, { on := 0, ground := Go.Ground.phase }, { on := 1, ground := Go.Ground.phase }, { on := 2, ground := Go.Ground.phase }, { on := 3, ground := Go.Ground.phase }, { on := 4, ground := Go.Ground.phase }, { on := 5, ground := Go.Ground.phase }, { on := 6, ground := Go.Ground.phase }, { on := 7, ground := Go.Ground.phase }, { on := 8, ground := Go.Ground.phase }, { on := 9, ground := Go.Ground.phase }, { on := 10, ground := Go.Ground.phase }, { on := 11, ground := Go.Ground.phase }, { on := 12, ground := Go.Ground.phase }, { on := 13, ground := Go.Ground.phase }, { on := 14, ground := Go.Ground.phase }], guard := none }) rfl (fun K2 hK => ?_) AllReadyH.nil
       go_simp
       refine hK.out _ _ HF.out.2.2 (fun hSf => ?_)
       clear hK K2
       try simp only [Act.put, List.setIfInBounds_toArray, List.set_cons_zero, List.set_cons_succ]
       refine wpAnyH_done (by kernel_rfl) ?_ _
       clear f0 f1 f2 f3 fz hSf
       go_wp2_with fail
       go_meet
       case rel => exact ⟨D, C8, c8, rfl, HF.out.1, Hc8.out, HF.out.2.1, HF.out.2.2⟩
      exact AllReadyH.nil
     refine AllReadyH.cons (o := { dst := some 7, op := Go.Op.alloc 25, type := 0, pos := "outright.go:141", after := #[], guard := none }) rfl (fun K2 hK => ?_) ?_
     ·go_simp
      refine hK.out _ _ (hV3.trans ((below_alloc_ _ _).mono hV3.size)) (fun hV4 => ?_)
      clear hK K2
      have hD := heap_alloc_new_ V3 (.cells #[.int .i64 0, .int .i64 0, .slice none 0 0, .slice none 0 0] 25)
      have hb := below_alloc_ V3 (.cells #[.int .i64 0, .int .i64 0, .slice none 0 0, .slice none 0 0] 25)
      have HNTD := Lib.hid (show T ≠ V3.heap.size from by have := lt_of_block hT; omega)
      have HOD := Lib.hid (show Value.ownBlock (v1) ≠ some V3.heap.size from fun e => by have := own_lt hown _ e; omega)
      replace hown := own_keep hown (Keeps.of_new (Mut := fun _ => False) hb) (fun _ _ e => e)
      replace hT := (hb.block _ (lt_of_block hT)).trans hT
      have HD0 := Lib.hid (show w0.heap.size ≤ V3.heap.size from hV3.size)
      generalize V3.alloc (.cells #[.int .i64 0, .int .i64 0, .slice none 0 0, .slice none 0 0] 25) = V4 at *
      obtain ⟨D, hDe⟩ : ∃ D, V3.heap.size = D := ⟨_, rfl⟩
      rw [hDe] at hD HD0 HNTD HOD ⊢
      clear hDe hb
      try simp only [Act.put, List.setIfInBounds_toArray, List.set_cons_zero, List.set_cons_succ]
      refine wpAnyH_ready (rs := [10]) (by kernel_rfl) (by simp) ?_
      refine AllReadyH.cons (o := { dst := some 22, op := Go.Op.call { callee := Go.Callee.builtin Go.Builtin.append, args := #[Go.Operand.tmp 19, Go.Operand.tmp 21], argTypes := #[22, 22] }, type := 22, pos := "outright.go:141", after := #[{ on := 7, ground := Go.Ground.data }, { on := 9, ground := Go.Ground.data }, { on := 7, ground := Go.Ground.chain }], guard := none }) rfl (fun K2 hK => ?_) ?_
      ·obtain ⟨v2, V5, hrun, hown2, hKp, hon⟩ := app_1r hown hT (by omega)
       have hV5h := Lib.hid (show Below w0.heap.size w0 V5 from hV4.trans (hKp.below hV4.size (fun j hj e => by have := HB.out j e; omega)))
       have HPT := Lib.hid (show Value.ownBlock v2 ≠ some T from by rcases hon with h9 | h9 <;> rw [h9] <;> first | exact HOT.out | (intro e; have h8 : V4.heap.size = T := Option.some.inj e; have := lt_of_block hT; omega))
       replace hT := (hKp.block _ (lt_of_block hT) HOT.out).trans hT
       clear HOT
       have HOT := HPT
       clear HPT
       have HPD := Lib.hid (show Value.ownBlock v2 ≠ some D from by rcases hon with h9 | h9 <;> rw [h9] <;> first | exact HOD.out | (intro e; have h8 : V4.heap.size = D := Option.some.inj e; have := lt_of_block hD; omega))
       replace hD := (hKp.block _ (lt_of_block hD) HOD.out).trans hD
       clear HOD
       have HOD := HPD
       clear HPD
       have HB2 := Lib.hid (show ∀ j, Value.ownBlock v2 = some j → w0.heap.size ≤ j from fun j e => by rcases hon with h9 | h9 <;> rw [h9] at e <;> first | exact HB.out j e | (have h8 : V4.heap.size = j := Option.some.inj e; have := hV4.size; omega))
       clear HB hown hon hKp
       have HB := HB2
       have Hown := Lib.hid hown2
       clear HB2 hown2
       have hown9 := Hown.out
       clear Hown
       rw [Nat.zero_add, List.nil_append] at hown9
       obtain ⟨C8, c8, rfl, hc8, hr8, hC8⟩ := rgs_own (by rw [List.length_append, Hzl.out]; rfl) hown9
       have HR8 := Lib.hid hr8
       have Hc8 := Lib.hid hc8
       have HC8 := Lib.hid (show ∀ b o, C8 = some ⟨b, o, none⟩ → b ≠ D from fun b o e e2 => HOD.out (by rw [← e2]; exact (hC8 b o e).1))
       clear HOD
       have HOD := HC8
       clear HC8
       clear hr8 hC8 hown9 hc8
       go_simp
       try rw [hrun]
       try go_simp
       refine hK.out _ _ (hV5h.out) (fun hV5 => ?_)
       clear hK K2
       clear hrun hV5h
       try simp only [Act.put, List.setIfInBounds_toArray, List.set_cons_zero, List.set_cons_succ]
       refine wpAnyH_take (i := 13) (oi := { dst := some 25, op := Go.Op.build 25 #[(0, Go.Operand.tmp 13), (1, Go.Operand.tmp 15), (2, Go.Operand.tmp 22), (3, Go.Operand.tmp 24)], type := 25, pos := "outright.go:141", after := #[{ on := 1, ground := Go.Ground.data }, { on := 3, ground := Go.Ground.data }, { on := 10, ground := Go.Ground.data }, { on := 12, ground := Go.Ground.data }], guard := none }) (v := .agg #[.int .i64 sl, .int .i64 sr, .slice C8 (n + 1) c8, .slice A2 kn kc]) rfl (by kernel_rfl) (by kernel_rfl) (by kernel_rfl) (fun _ _ _ h => h) (Or.inl ⟨by rfl, by intro w2 hSw; (try dsimp only at hSw);  go_simp⟩) hV5 ?_
       try simp only [Act.put, List.setIfInBounds_toArray, List.set_cons_zero, List.set_cons_succ]
       have f0 : V5.cell? ⟨D, 0, none⟩ = some (.int .i64 0) := by rw [cell_row hD]; rfl
       have f1 : V5.cell? ⟨D, 1, none⟩ = some (.int .i64 0) := by rw [cell_row hD]; rfl
       have f2 : V5.cell? ⟨D, 2, none⟩ = some (.slice none 0 0) := by rw [cell_row hD]; rfl
       have f3 : V5.cell? ⟨D, 3, none⟩ = some (.slice none 0 0) := by rw [cell_row hD]; rfl
       have fz : ∀ i, V5.frozen? ⟨D, i, none⟩ = false := fun i => frozen_row hD
       have HF := Lib.hid (more_sheet (c8 := c8) (sl := sl) (sr := sr) (v3 := .slice A2 kn kc) hV5 hD HD0.out HR8.out HOD.out)
       clear hD
       refine wpAnyH_ready (rs := [15]) (by kernel_rfl) (by simp) ?_
       refine AllReadyH.cons (o := { dst := none, op := Go.Op.store 25 (Go.Operand.tmp 7) (Go.Operand.tmp 25), type := 0, pos := "outright.go:141", after := #[{ on := 14, ground := Go.Ground.data }, { on := 13, ground := Go.Ground.data }, { on := 10, ground := Go.Ground.chain }, { on := 0, ground := Go.Ground.phase }, { on := 1, ground := Go.Ground.phase }, { on := 2, ground := Go.Ground.phase }, { on := 3, ground := Go.Ground.phase }, { on := 4, ground := Go.Ground.phase }, { on := 5, ground := Go.Ground.phase }, { on := 6, ground := Go.Ground.phase }, { on := 7, ground := Go.Ground.phase }, { on := 8, ground := Go.Ground.phase }, { on := 9, ground := Go.Ground.phase }, { on := 10, ground := Go.Ground.phase }, { on := 11, ground := Go.Ground.phase }, { on := 12, ground := Go.Ground.phase }, { on := 13, ground := Go.Ground.phase }, { on := 14, ground := Go.Ground.phase }], guard := none }) rfl (fun K2 hK => ?_) AllReadyH.nil
       go_simp
       refine hK.out _ _ HF.out.2.2 (fun hSf => ?_)
       clear hK K2
       try simp only [Act.put, List.setIfInBounds_toArray, List.set_cons_zero, List.set_cons_succ]
       refine wpAnyH_done (by kernel_rfl) ?_ _
       clear f0 f1 f2 f3 fz hSf
       go_wp2_with fail
       go_meet
       case rel => exact ⟨D, C8, c8, rfl, HF.out.1, Hc8.out, HF.out.2.1, HF.out.2.2⟩
      exact AllReadyH.nil
     exact AllReadyH.nil
    refine AllReadyH.cons (o := { dst := some 7, op := Go.Op.alloc 25, type := 0, pos := "outright.go:141", after := #[], guard := none }) rfl (fun K2 hK => ?_) ?_
    ·go_simp
     refine hK.out _ _ (hV2.trans ((below_alloc_ _ _).mono hV2.size)) (fun hV3 => ?_)
     clear hK K2
     have hD := heap_alloc_new_ V2 (.cells #[.int .i64 0, .int .i64 0, .slice none 0 0, .slice none 0 0] 25)
     have hb := below_alloc_ V2 (.cells #[.int .i64 0, .int .i64 0, .slice none 0 0, .slice none 0 0] 25)
     have HNTD := Lib.hid (show T ≠ V2.heap.size from by have := lt_of_block hT; omega)
     have HOD := Lib.hid (show Value.ownBlock (.slice (some ⟨Z, 0, none⟩) 0 0) ≠ some V2.heap.size from fun e => by have := own_lt hown _ e; omega)
     replace hown := own_keep hown (Keeps.of_new (Mut := fun _ => False) hb) (fun _ _ e => e)
     replace hT := (hb.block _ (lt_of_block hT)).trans hT
     have HD0 := Lib.hid (show w0.heap.size ≤ V2.heap.size from hV2.size)
     generalize V2.alloc (.cells #[.int .i64 0, .int .i64 0, .slice none 0 0, .slice none 0 0] 25) = V3 at *
     obtain ⟨D, hDe⟩ : ∃ D, V2.heap.size = D := ⟨_, rfl⟩
     rw [hDe] at hD HD0 HNTD HOD ⊢
     clear hDe hb
     try simp only [Act.put, List.setIfInBounds_toArray, List.set_cons_zero, List.set_cons_succ]
     refine wpAnyH_ready (rs := [7]) (by kernel_rfl) (by simp) ?_
     refine AllReadyH.cons (o := { dst := some 19, op := Go.Op.call { callee := Go.Callee.builtin Go.Builtin.append, args := #[Go.Operand.tmp 16, Go.Operand.tmp 18], argTypes := #[22, 22] }, type := 22, pos := "outright.go:141", after := #[{ on := 4, ground := Go.Ground.data }, { on := 6, ground := Go.Ground.data }], guard := none }) rfl (fun K2 hK => ?_) ?_
     ·obtain ⟨v1, V4, hrun, hown2, hKp, hon⟩ := app_rgs (c2 := cap) (xs := []) hown (X.out.below hV3 (Nat.le_refl _)) (by omega)
      have hV4h := Lib.hid (show Below w0.heap.size w0 V4 from hV3.trans (hKp.below hV3.size (fun j hj e => by have := HB.out j e; omega)))
      have HPT := Lib.hid (show Value.ownBlock v1 ≠ some T from by rcases hon with h9 | h9 <;> rw [h9] <;> first | exact HOT.out | (intro e; have h8 : V3.heap.size = T := Option.some.inj e; have := lt_of_block hT; omega))
      replace hT := (hKp.block _ (lt_of_block hT) HOT.out).trans hT
      clear HOT
      have HOT := HPT
      clear HPT
      have HPD := Lib.hid (show Value.ownBlock v1 ≠ some D from by rcases hon with h9 | h9 <;> rw [h9] <;> first | exact HOD.out | (intro e; have h8 : V3.heap.size = D := Option.some.inj e; have := lt_of_block hD; omega))
      replace hD := (hKp.block _ (lt_of_block hD) HOD.out).trans hD
      clear HOD
      have HOD := HPD
      clear HPD
      have HB2 := Lib.hid (show ∀ j, Value.ownBlock v1 = some j → w0.heap.size ≤ j from fun j e => by rcases hon with h9 | h9 <;> rw [h9] at e <;> first | exact HB.out j e | (have h8 : V3.heap.size = j := Option.some.inj e; have := hV3.size; omega))
      clear HB hown hon hKp
      have HB := HB2
      have Hown := Lib.hid hown2
      clear HB2 hown2
      go_simp
      try rw [hrun]
      try go_simp
      have hown := Hown.out
      clear Hown
      refine hK.out _ _ (hV4h.out) (fun hV4 => ?_)
      clear hK K2
      clear hrun hV4h
      try simp only [Act.put, List.setIfInBounds_toArray, List.set_cons_zero, List.set_cons_succ]
      refine wpAnyH_ready (rs := [10]) (by kernel_rfl) (by simp) ?_
      refine AllReadyH.cons (o := { dst := some 22, op := Go.Op.call { callee := Go.Callee.builtin Go.Builtin.append, args := #[Go.Operand.tmp 19, Go.Operand.tmp 21], argTypes := #[22, 22] }, type := 22, pos := "outright.go:141", after := #[{ on := 7, ground := Go.Ground.data }, { on := 9, ground := Go.Ground.data }, { on := 7, ground := Go.Ground.chain }], guard := none }) rfl (fun K2 hK => ?_) ?_
      ·obtain ⟨v2, V5, hrun, hown2, hKp, hon⟩ := app_1r hown hT (by omega)
       have hV5h := Lib.hid (show Below w0.heap.size w0 V5 from hV4.trans (hKp.below hV4.size (fun j hj e => by have := HB.out j e; omega)))
       have HPT := Lib.hid (show Value.ownBlock v2 ≠ some T from by rcases hon with h9 | h9 <;> rw [h9] <;> first | exact HOT.out | (intro e; have h8 : V4.heap.size = T := Option.some.inj e; have := lt_of_block hT; omega))
       replace hT := (hKp.block _ (lt_of_block hT) HOT.out).trans hT
       clear HOT
       have HOT := HPT
       clear HPT
       have HPD := Lib.hid (show Value.ownBlock v2 ≠ some D from by rcases hon with h9 | h9 <;> rw [h9] <;> first | exact HOD.out | (intro e; have h8 : V4.heap.size = D := Option.some.inj e; have := lt_of_block hD; omega))
       replace hD := (hKp.block _ (lt_of_block hD) HOD.out).trans hD
       clear HOD
       have HOD := HPD
       clear HPD
       have HB2 := Lib.hid (show ∀ j, Value.ownBlock v2 = some j → w0.heap.size ≤ j from fun j e => by rcases hon with h9 | h9 <;> rw [h9] at e <;> first | exact HB.out j e | (have h8 : V4.heap.size = j := Option.some.inj e; have := hV4.size; omega))
       clear HB hown hon hKp
       have HB := HB2
       have Hown := Lib.hid hown2
       clear HB2 hown2
       have hown9 := Hown.out
       clear Hown
       rw [Nat.zero_add, List.nil_append] at hown9
       obtain ⟨C8, c8, rfl, hc8, hr8, hC8⟩ := rgs_own (by rw [List.length_append, Hzl.out]; rfl) hown9
       have HR8 := Lib.hid hr8
       have Hc8 := Lib.hid hc8
       have HC8 := Lib.hid (show ∀ b o, C8 = some ⟨b, o, none⟩ → b ≠ D from fun b o e e2 => HOD.out (by rw [← e2]; exact (hC8 b o e).1))
       clear HOD
       have HOD := HC8
       clear HC8
       clear hr8 hC8 hown9 hc8
       go_simp
       try rw [hrun]
       try go_simp
       refine hK.out _ _ (hV5h.out) (fun hV5 => ?_)
       clear hK K2
       clear hrun hV5h
       try simp only [Act.put, List.setIfInBounds_toArray, List.set_cons_zero, List.set_cons_succ]
       refine wpAnyH_take (i := 13) (oi := { dst := some 25, op := Go.Op.build 25 #[(0, Go.Operand.tmp 13), (1, Go.Operand.tmp 15), (2, Go.Operand.tmp 22), (3, Go.Operand.tmp 24)], type := 25, pos := "outright.go:141", after := #[{ on := 1, ground := Go.Ground.data }, { on := 3, ground := Go.Ground.data }, { on := 10, ground := Go.Ground.data }, { on := 12, ground := Go.Ground.data }], guard := none }) (v := .agg #[.int .i64 sl, .int .i64 sr, .slice C8 (n + 1) c8, .slice A2 kn kc]) rfl (by kernel_rfl) (by kernel_rfl) (by kernel_rfl) (fun _ _ _ h => h) (Or.inl ⟨by rfl, by intro w2 hSw; (try dsimp only at hSw);  go_simp⟩) hV5 ?_
       try simp only [Act.put, List.setIfInBounds_toArray, List.set_cons_zero, List.set_cons_succ]
       have f0 : V5.cell? ⟨D, 0, none⟩ = some (.int .i64 0) := by rw [cell_row hD]; rfl
       have f1 : V5.cell? ⟨D, 1, none⟩ = some (.int .i64 0) := by rw [cell_row hD]; rfl
       have f2 : V5.cell? ⟨D, 2, none⟩ = some (.slice none 0 0) := by rw [cell_row hD]; rfl
       have f3 : V5.cell? ⟨D, 3, none⟩ = some (.slice none 0 0) := by rw [cell_row hD]; rfl
       have fz : ∀ i, V5.frozen? ⟨D, i, none⟩ = false := fun i => frozen_row hD
       have HF := Lib.hid (more_sheet (c8 := c8) (sl := sl) (sr := sr) (v3 := .slice A2 kn kc) hV5 hD HD0.out HR8.out HOD.out)
       clear hD
       refine wpAnyH_ready (rs := [15]) (by kernel_rfl) (by simp) ?_
       refine AllReadyH.cons (o := { dst := none, op := Go.Op.store 25 (Go.Operand.tmp 7) (Go.Operand.tmp 25), type := 0, pos := "outright.go:141", after := #[{ on := 14, ground := Go.Ground.data }, { on := 13, ground := Go.Ground.data }, { on := 10, ground := Go.Ground.chain }, { on := 0, ground := Go.Ground.phase }, { on := 1, ground := Go.Ground.phase }, { on := 2, ground := Go.Ground.phase }, { on := 3, ground := Go.Ground.phase }, { on := 4, ground := Go.Ground.phase }, { on := 5, ground := Go.Ground.phase }, { on := 6, ground := Go.Ground.phase }, { on := 7, ground := Go.Ground.phase }, { on := 8, ground := Go.Ground.phase }, { on := 9, ground := Go.Ground.phase }, { on := 10, ground := Go.Ground.phase }, { on := 11, ground := Go.Ground.phase }, { on := 12, ground := Go.Ground.phase }, { on := 13, ground := Go.Ground.phase }, { on := 14, ground := Go.Ground.phase }], guard := none }) rfl (fun K2 hK => ?_) AllReadyH.nil
       go_simp
       refine hK.out _ _ HF.out.2.2 (fun hSf => ?_)
       clear hK K2
       try simp only [Act.put, List.setIfInBounds_toArray, List.set_cons_zero, List.set_cons_succ]
       refine wpAnyH_done (by kernel_rfl) ?_ _
       clear f0 f1 f2 f3 fz hSf
       go_wp2_with fail
       go_meet
       case rel => exact ⟨D, C8, c8, rfl, HF.out.1, Hc8.out, HF.out.2.1, HF.out.2.2⟩
      exact AllReadyH.nil
     exact AllReadyH.nil
    exact AllReadyH.nil
   refine AllReadyH.cons (o := { dst := some 7, op := Go.Op.alloc 25, type := 0, pos := "outright.go:141", after := #[], guard := none }) rfl (fun K2 hK => ?_) ?_
   ·go_simp
    refine hK.out _ _ (hV1.trans ((below_alloc_ _ _).mono hV1.size)) (fun hV2 => ?_)
    clear hK K2
    have hD := heap_alloc_new_ V1 (.cells #[.int .i64 0, .int .i64 0, .slice none 0 0, .slice none 0 0] 25)
    have hb := below_alloc_ V1 (.cells #[.int .i64 0, .int .i64 0, .slice none 0 0, .slice none 0 0] 25)
    have HOD := Lib.hid (show Value.ownBlock (.slice (some ⟨Z, 0, none⟩) 0 0) ≠ some V1.heap.size from fun e => by have := own_lt hown _ e; omega)
    replace hown := own_keep hown (Keeps.of_new (Mut := fun _ => False) hb) (fun _ _ e => e)
    have HD0 := Lib.hid (show w0.heap.size ≤ V1.heap.size from hV1.size)
    generalize V1.alloc (.cells #[.int .i64 0, .int .i64 0, .slice none 0 0, .slice none 0 0] 25) = V2 at *
    obtain ⟨D, hDe⟩ : ∃ D, V1.heap.size = D := ⟨_, rfl⟩
    rw [hDe] at hD HD0 HOD ⊢
    clear hDe hb
    try simp only [Act.put, List.setIfInBounds_toArray, List.set_cons_zero, List.set_cons_succ]
    refine wpAnyH_ready (rs := [7, 9]) (by kernel_rfl) (by simp) ?_
    refine AllReadyH.cons (o := { dst := some 19, op := Go.Op.call { callee := Go.Callee.builtin Go.Builtin.append, args := #[Go.Operand.tmp 16, Go.Operand.tmp 18], argTypes := #[22, 22] }, type := 22, pos := "outright.go:141", after := #[{ on := 4, ground := Go.Ground.data }, { on := 6, ground := Go.Ground.data }], guard := none }) rfl (fun K2 hK => ?_) ?_
    ·obtain ⟨v1, V3, hrun, hown2, hKp, hon⟩ := app_rgs (c2 := cap) (xs := []) hown (X.out.below hV2 (Nat.le_refl _)) (by omega)
     have hV3h := Lib.hid (show Below w0.heap.size w0 V3 from hV2.trans (hKp.below hV2.size (fun j hj e => by have := HB.out j e; omega)))
     have HPD := Lib.hid (show Value.ownBlock v1 ≠ some D from by rcases hon with h9 | h9 <;> rw [h9] <;> first | exact HOD.out | (intro e; have h8 : V2.heap.size = D := Option.some.inj e; have := lt_of_block hD; omega))
     replace hD := (hKp.block _ (lt_of_block hD) HOD.out).trans hD
     clear HOD
     have HOD := HPD
     clear HPD
     have HB2 := Lib.hid (show ∀ j, Value.ownBlock v1 = some j → w0.heap.size ≤ j from fun j e => by rcases hon with h9 | h9 <;> rw [h9] at e <;> first | exact HB.out j e | (have h8 : V2.heap.size = j := Option.some.inj e; have := hV2.size; omega))
     clear HB hown hon hKp
     have HB := HB2
     have Hown := Lib.hid hown2
     clear HB2 hown2
     go_simp
     try rw [hrun]
     try go_simp
     have hown := Hown.out
     clear Hown
     refine hK.out _ _ (hV3h.out) (fun hV3 => ?_)
     clear hK K2
     clear hrun hV3h
     try simp only [Act.put, List.setIfInBounds_toArray, List.set_cons_zero, List.set_cons_succ]
     refine wpAnyH_ready (rs := [9]) (by kernel_rfl) (by simp) ?_
     refine AllReadyH.cons (o := { dst := some 21, op := Go.Op.buildSlice 22 1 #[(0, Go.Operand.tmp 20)], type := 22, pos := "outright.go:141", after := #[{ on := 8, ground := Go.Ground.data }], guard := none }) rfl (fun K2 hK => ?_) ?_
     ·go_simp
      refine hK.out _ _ (hV3.trans ((below_alloc_ _ _).mono hV3.size)) (fun hV4 => ?_)
      clear hK K2
      have hT := heap_alloc_new_ V3 (.cells #[.int .i64 x, .int .i64 y] 55)
      have hb := below_alloc_ V3 (.cells #[.int .i64 x, .int .i64 y] 55)
      have HNDT := Lib.hid (show D ≠ V3.heap.size from by have := lt_of_block hD; omega)
      have HOT := Lib.hid (show Value.ownBlock (v1) ≠ some V3.heap.size from fun e => by have := own_lt hown _ e; omega)
      replace hown := own_keep hown (Keeps.of_new (Mut := fun _ => False) hb) (fun _ _ e => e)
      replace hD := (hb.block _ (lt_of_block hD)).trans hD
      have HT0 := Lib.hid (show w0.heap.size ≤ V3.heap.size from hV3.size)
      generalize V3.alloc (.cells #[.int .i64 x, .int .i64 y] 55) = V4 at *
      obtain ⟨T, hTe⟩ : ∃ T, V3.heap.size = T := ⟨_, rfl⟩
      rw [hTe] at hT HT0 HNDT HOT ⊢
      clear hTe hb
      try simp only [Act.put, List.setIfInBounds_toArray, List.set_cons_zero, List.set_cons_succ]
      refine wpAnyH_ready (rs := [10]) (by kernel_rfl) (by simp) ?_
      refine AllReadyH.cons (o := { dst := some 22, op := Go.Op.call { callee := Go.Callee.builtin Go.Builtin.append, args := #[Go.Operand.tmp 19, Go.Operand.tmp 21], argTypes := #[22, 22] }, type := 22, pos := "outright.go:141", after := #[{ on := 7, ground := Go.Ground.data }, { on := 9, ground := Go.Ground.data }, { on := 7, ground := Go.Ground.chain }], guard := none }) rfl (fun K2 hK => ?_) ?_
      ·obtain ⟨v2, V5, hrun, hown2, hKp, hon⟩ := app_1r hown hT (by omega)
       have hV5h := Lib.hid (show Below w0.heap.size w0 V5 from hV4.trans (hKp.below hV4.size (fun j hj e => by have := HB.out j e; omega)))
       have HPD := Lib.hid (show Value.ownBlock v2 ≠ some D from by rcases hon with h9 | h9 <;> rw [h9] <;> first | exact HOD.out | (intro e; have h8 : V4.heap.size = D := Option.some.inj e; have := lt_of_block hD; omega))
       replace hD := (hKp.block _ (lt_of_block hD) HOD.out).trans hD
       clear HOD
       have HOD := HPD
       clear HPD
       have HPT := Lib.hid (show Value.ownBlock v2 ≠ some T from by rcases hon with h9 | h9 <;> rw [h9] <;> first | exact HOT.out | (intro e; have h8 : V4.heap.size = T := Option.some.inj e; have := lt_of_block hT; omega))
       replace hT := (hKp.block _ (lt_of_block hT) HOT.out).trans hT
       clear HOT
       have HOT := HPT
       clear HPT
       have HB2 := Lib.hid (show ∀ j, Value.ownBlock v2 = some j → w0.heap.size ≤ j from fun j e => by rcases hon with h9 | h9 <;> rw [h9] at e <;> first | exact HB.out j e | (have h8 : V4.heap.size = j := Option.some.inj e; have := hV4.size; omega))
       clear HB hown hon hKp
       have HB := HB2
       have Hown := Lib.hid hown2
       clear HB2 hown2
       have hown9 := Hown.out
       clear Hown
       rw [Nat.zero_add, List.nil_append] at hown9
       obtain ⟨C8, c8, rfl, hc8, hr8, hC8⟩ := rgs_own (by rw [List.length_append, Hzl.out]; rfl) hown9
       have HR8 := Lib.hid hr8
       have Hc8 := Lib.hid hc8
       have HC8 := Lib.hid (show ∀ b o, C8 = some ⟨b, o, none⟩ → b ≠ D from fun b o e e2 => HOD.out (by rw [← e2]; exact (hC8 b o e).1))
       clear HOD
       have HOD := HC8
       clear HC8
       clear hr8 hC8 hown9 hc8
       go_simp
       try rw [hrun]
       try go_simp
       refine hK.out _ _ (hV5h.out) (fun hV5 => ?_)
       clear hK K2
       clear hrun hV5h
       try simp only [Act.put, List.setIfInBounds_toArray, List.set_cons_zero, List.set_cons_succ]
       refine wpAnyH_take (i := 13) (oi := { dst := some 25, op := Go.Op.build 25 #[(0, Go.Operand.tmp 13), (1, Go.Operand.tmp 15), (2, Go.Operand.tmp 22), (3, Go.Operand.tmp 24)], type := 25, pos := "outright.go:141", after := #[{ on := 1, ground := Go.Ground.data }, { on := 3, ground := Go.Ground.data }, { on := 10, ground := Go.Ground.data }, { on := 12, ground := Go.Ground.data }], guard := none }) (v := .agg #[.int .i64 sl, .int .i64 sr, .slice C8 (n + 1) c8, .slice A2 kn kc]) rfl (by kernel_rfl) (by kernel_rfl) (by kernel_rfl) (fun _ _ _ h => h) (Or.inl ⟨by rfl, by intro w2 hSw; (try dsimp only at hSw);  go_simp⟩) hV5 ?_
       try simp only [Act.put, List.setIfInBounds_toArray, List.set_cons_zero, List.set_cons_succ]
       have f0 : V5.cell? ⟨D, 0, none⟩ = some (.int .i64 0) := by rw [cell_row hD]; rfl
       have f1 : V5.cell? ⟨D, 1, none⟩ = some (.int .i64 0) := by rw [cell_row hD]; rfl
       have f2 : V5.cell? ⟨D, 2, none⟩ = some (.slice none 0 0) := by rw [cell_row hD]; rfl
       have f3 : V5.cell? ⟨D, 3, none⟩ = some (.slice none 0 0) := by rw [cell_row hD]; rfl
       have fz : ∀ i, V5.frozen? ⟨D, i, none⟩ = false := fun i => frozen_row hD
       have HF := Lib.hid (more_sheet (c8 := c8) (sl := sl) (sr := sr) (v3 := .slice A2 kn kc) hV5 hD HD0.out HR8.out HOD.out)
       clear hD
       refine wpAnyH_ready (rs := [15]) (by kernel_rfl) (by simp) ?_
       refine AllReadyH.cons (o := { dst := none, op := Go.Op.store 25 (Go.Operand.tmp 7) (Go.Operand.tmp 25), type := 0, pos := "outright.go:141", after := #[{ on := 14, ground := Go.Ground.data }, { on := 13, ground := Go.Ground.data }, { on := 10, ground := Go.Ground.chain }, { on := 0, ground := Go.Ground.phase }, { on := 1, ground := Go.Ground.phase }, { on := 2, ground := Go.Ground.phase }, { on := 3, ground := Go.Ground.phase }, { on := 4, ground := Go.Ground.phase }, { on := 5, ground := Go.Ground.phase }, { on := 6, ground := Go.Ground.phase }, { on := 7, ground := Go.Ground.phase }, { on := 8, ground := Go.Ground.phase }, { on := 9, ground := Go.Ground.phase }, { on := 10, ground := Go.Ground.phase }, { on := 11, ground := Go.Ground.phase }, { on := 12, ground := Go.Ground.phase }, { on := 13, ground := Go.Ground.phase }, { on := 14, ground := Go.Ground.phase }], guard := none }) rfl (fun K2 hK => ?_) AllReadyH.nil
       go_simp
       refine hK.out _ _ HF.out.2.2 (fun hSf => ?_)
       clear hK K2
       try simp only [Act.put, List.setIfInBounds_toArray, List.set_cons_zero, List.set_cons_succ]
       refine wpAnyH_done (by kernel_rfl) ?_ _
       clear f0 f1 f2 f3 fz hSf
       go_wp2_with fail
       go_meet
       case rel => exact ⟨D, C8, c8, rfl, HF.out.1, Hc8.out, HF.out.2.1, HF.out.2.2⟩
      exact AllReadyH.nil
     exact AllReadyH.nil
    refine AllReadyH.cons (o := { dst := some 21, op := Go.Op.buildSlice 22 1 #[(0, Go.Operand.tmp 20)], type := 22, pos := "outright.go:141", after := #[{ on := 8, ground := Go.Ground.data }], guard := none }) rfl (fun K2 hK => ?_) ?_
    ·go_simp
     refine hK.out _ _ (hV2.trans ((below_alloc_ _ _).mono hV2.size)) (fun hV3 => ?_)
     clear hK K2
     have hT := heap_alloc_new_ V2 (.cells #[.int .i64 x, .int .i64 y] 55)
     have hb := below_alloc_ V2 (.cells #[.int .i64 x, .int .i64 y] 55)
     have HNDT := Lib.hid (show D ≠ V2.heap.size from by have := lt_of_block hD; omega)
     have HOT := Lib.hid (show Value.ownBlock (.slice (some ⟨Z, 0, none⟩) 0 0) ≠ some V2.heap.size from fun e => by have := own_lt hown _ e; omega)
     replace hown := own_keep hown (Keeps.of_new (Mut := fun _ => False) hb) (fun _ _ e => e)
     replace hD := (hb.block _ (lt_of_block hD)).trans hD
     have HT0 := Lib.hid (show w0.heap.size ≤ V2.heap.size from hV2.size)
     generalize V2.alloc (.cells #[.int .i64 x, .int .i64 y] 55) = V3 at *
     obtain ⟨T, hTe⟩ : ∃ T, V2.heap.size = T := ⟨_, rfl⟩
     rw [hTe] at hT HT0 HNDT HOT ⊢
     clear hTe hb
     try simp only [Act.put, List.setIfInBounds_toArray, List.set_cons_zero, List.set_cons_succ]
     refine wpAnyH_ready (rs := [7]) (by kernel_rfl) (by simp) ?_
     refine AllReadyH.cons (o := { dst := some 19, op := Go.Op.call { callee := Go.Callee.builtin Go.Builtin.append, args := #[Go.Operand.tmp 16, Go.Operand.tmp 18], argTypes := #[22, 22] }, type := 22, pos := "outright.go:141", after := #[{ on := 4, ground := Go.Ground.data }, { on := 6, ground := Go.Ground.data }], guard := none }) rfl (fun K2 hK => ?_) ?_
     ·obtain ⟨v1, V4, hrun, hown2, hKp, hon⟩ := app_rgs (c2 := cap) (xs := []) hown (X.out.below hV3 (Nat.le_refl _)) (by omega)
      have hV4h := Lib.hid (show Below w0.heap.size w0 V4 from hV3.trans (hKp.below hV3.size (fun j hj e => by have := HB.out j e; omega)))
      have HPD := Lib.hid (show Value.ownBlock v1 ≠ some D from by rcases hon with h9 | h9 <;> rw [h9] <;> first | exact HOD.out | (intro e; have h8 : V3.heap.size = D := Option.some.inj e; have := lt_of_block hD; omega))
      replace hD := (hKp.block _ (lt_of_block hD) HOD.out).trans hD
      clear HOD
      have HOD := HPD
      clear HPD
      have HPT := Lib.hid (show Value.ownBlock v1 ≠ some T from by rcases hon with h9 | h9 <;> rw [h9] <;> first | exact HOT.out | (intro e; have h8 : V3.heap.size = T := Option.some.inj e; have := lt_of_block hT; omega))
      replace hT := (hKp.block _ (lt_of_block hT) HOT.out).trans hT
      clear HOT
      have HOT := HPT
      clear HPT
      have HB2 := Lib.hid (show ∀ j, Value.ownBlock v1 = some j → w0.heap.size ≤ j from fun j e => by rcases hon with h9 | h9 <;> rw [h9] at e <;> first | exact HB.out j e | (have h8 : V3.heap.size = j := Option.some.inj e; have := hV3.size; omega))
      clear HB hown hon hKp
      have HB := HB2
      have Hown := Lib.hid hown2
      clear HB2 hown2
      go_simp
      try rw [hrun]
      try go_simp
      have hown := Hown.out
      clear Hown
      refine hK.out _ _ (hV4h.out) (fun hV4 => ?_)
      clear hK K2
      clear hrun hV4h
      try simp only [Act.put, List.setIfInBounds_toArray, List.set_cons_zero, List.set_cons_succ]
      refine wpAnyH_ready (rs := [10]) (by kernel_rfl) (by simp) ?_
      refine AllReadyH.cons (o := { dst := some 22, op := Go.Op.call { callee := Go.Callee.builtin Go.Builtin.append, args := #[Go.Operand.tmp 19, Go.Operand.tmp 21], argTypes := #[22, 22] }, type := 22, pos := "outright.go:141", after := #[{ on := 7, ground := Go.Ground.data }, { on := 9, ground := Go.Ground.data }, { on := 7, ground := Go.Ground.chain }], guard := none }) rfl (fun K2 hK => ?_) ?_
      ·obtain ⟨v2, V5, hrun, hown2, hKp, hon⟩ := app_1r hown hT (by omega)
       have hV5h := Lib.hid (show Below w0.heap.size w0 V5 from hV4.trans (hKp.below hV4.size (fun j hj e => by have := HB.out j e; omega)))
       have HPD := Lib.hid (show Value.ownBlock v2 ≠ some D from by rcases hon with h9 | h9 <;> rw [h9] <;> first | exact HOD.out | (intro e; have h8 : V4.heap.size = D := Option.some.inj e; have := lt_of_block hD; omega))
       replace hD := (hKp.block _ (lt_of_block hD) HOD.out).trans hD
       clear HOD
       have HOD := HPD
       clear HPD
       have HPT := Lib.hid (show Value.ownBlock v2 ≠ some T from by rcases hon with h9 | h9 <;> rw [h9] <;> first | exact HOT.out | (intro e; have h8 : V4.heap.size = T := Option.some.inj e; have := lt_of_block hT; omega))
       replace hT := (hKp.block _ (lt_of_block hT) HOT.out).trans hT
       clear HOT
       have HOT := HPT
       clear HPT
       have HB2 := Lib.hid (show ∀ j, Value.ownBlock v2 = some j → w0.heap.size ≤ j from fun j e => by rcases hon with h9 | h9 <;> rw [h9] at e <;> first | exact HB.out j e | (have h8 : V4.heap.size = j := Option.some.inj e; have := hV4.size; omega))
       clear HB hown hon hKp
       have HB := HB2
       have Hown := Lib.hid hown2
       clear HB2 hown2
       have hown9 := Hown.out
       clear Hown
       rw [Nat.zero_add, List.nil_append] at hown9
       obtain ⟨C8, c8, rfl, hc8, hr8, hC8⟩ := rgs_own (by rw [List.length_append, Hzl.out]; rfl) hown9
       have HR8 := Lib.hid hr8
       have Hc8 := Lib.hid hc8
       have HC8 := Lib.hid (show ∀ b o, C8 = some ⟨b, o, none⟩ → b ≠ D from fun b o e e2 => HOD.out (by rw [← e2]; exact (hC8 b o e).1))
       clear HOD
       have HOD := HC8
       clear HC8
       clear hr8 hC8 hown9 hc8
       go_simp
       try rw [hrun]
       try go_simp
       refine hK.out _ _ (hV5h.out) (fun hV5 => ?_)
       clear hK K2
       clear hrun hV5h
       try simp only [Act.put, List.setIfInBounds_toArray, List.set_cons_zero, List.set_cons_succ]
       refine wpAnyH_take (i := 13) (oi := { dst := some 25, op := Go.Op.build 25 #[(0, Go.Operand.tmp 13), (1, Go.Operand.tmp 15), (2, Go.Operand.tmp 22), (3, Go.Operand.tmp 24)], type := 25, pos := "outright.go:141", after := #[{ on := 1, ground := Go.Ground.data }, { on := 3, ground := Go.Ground.data }, { on := 10, ground := Go.Ground.data }, { on := 12, ground := Go.Ground.data }], guard := none }) (v := .agg #[.int .i64 sl, .int .i64 sr, .slice C8 (n + 1) c8, .slice A2 kn kc]) rfl (by kernel_rfl) (by kernel_rfl) (by kernel_rfl) (fun _ _ _ h => h) (Or.inl ⟨by rfl, by intro w2 hSw; (try dsimp only at hSw);  go_simp⟩) hV5 ?_
       try simp only [Act.put, List.setIfInBounds_toArray, List.set_cons_zero, List.set_cons_succ]
       have f0 : V5.cell? ⟨D, 0, none⟩ = some (.int .i64 0) := by rw [cell_row hD]; rfl
       have f1 : V5.cell? ⟨D, 1, none⟩ = some (.int .i64 0) := by rw [cell_row hD]; rfl
       have f2 : V5.cell? ⟨D, 2, none⟩ = some (.slice none 0 0) := by rw [cell_row hD]; rfl
       have f3 : V5.cell? ⟨D, 3, none⟩ = some (.slice none 0 0) := by rw [cell_row hD]; rfl
       have fz : ∀ i, V5.frozen? ⟨D, i, none⟩ = false := fun i => frozen_row hD
       have HF := Lib.hid (more_sheet (c8 := c8) (sl := sl) (sr := sr) (v3 := .slice A2 kn kc) hV5 hD HD0.out HR8.out HOD.out)
       clear hD
       refine wpAnyH_ready (rs := [15]) (by kernel_rfl) (by simp) ?_
       refine AllReadyH.cons (o := { dst := none, op := Go.Op.store 25 (Go.Operand.tmp 7) (Go.Operand.tmp 25), type := 0, pos := "outright.go:141", after := #[{ on := 14, ground := Go.Ground.data }, { on := 13, ground := Go.Ground.data }, { on := 10, ground := Go.Ground.chain }, { on := 0, ground := Go.Ground.phase }, { on := 1, ground := Go.Ground.phase }, { on := 2, ground := Go.Ground.phase }, { on := 3, ground := Go.Ground.phase }, { on := 4, ground := Go.Ground.phase }, { on := 5, ground := Go.Ground.phase }, { on := 6, ground := Go.Ground.phase }, { on := 7, ground := Go.Ground.phase }, { on := 8, ground := Go.Ground.phase }, { on := 9, ground := Go.Ground.phase }, { on := 10, ground := Go.Ground.phase }, { on := 11, ground := Go.Ground.phase }, { on := 12, ground := Go.Ground.phase }, { on := 13, ground := Go.Ground.phase }, { on := 14, ground := Go.Ground.phase }], guard := none }) rfl (fun K2 hK => ?_) AllReadyH.nil
       go_simp
       refine hK.out _ _ HF.out.2.2 (fun hSf => ?_)
       clear hK K2
       try simp only [Act.put, List.setIfInBounds_toArray, List.set_cons_zero, List.set_cons_succ]
       refine wpAnyH_done (by kernel_rfl) ?_ _
       clear f0 f1 f2 f3 fz hSf
       go_wp2_with fail
       go_meet
       case rel => exact ⟨D, C8, c8, rfl, HF.out.1, Hc8.out, HF.out.2.1, HF.out.2.2⟩
      exact AllReadyH.nil
     exact AllReadyH.nil
    exact AllReadyH.nil
   exact AllReadyH.nil
  refine AllReadyH.cons (o := { dst := some 21, op := Go.Op.buildSlice 22 1 #[(0, Go.Operand.tmp 20)], type := 22, pos := "outright.go:141", after := #[{ on := 8, ground := Go.Ground.data }], guard := none }) rfl (fun K2 hK => ?_) ?_
  ·go_simp
   refine hK.out _ _ (hV0.trans ((below_alloc_ _ _).mono hV0.size)) (fun hV1 => ?_)
   clear hK K2
   have hT := heap_alloc_new_ V0 (.cells #[.int .i64 x, .int .i64 y] 55)
   have hb := below_alloc_ V0 (.cells #[.int .i64 x, .int .i64 y] 55)
   have HT0 := Lib.hid (show w0.heap.size ≤ V0.heap.size from hV0.size)
   generalize V0.alloc (.cells #[.int .i64 x, .int .i64 y] 55) = V1 at *
   obtain ⟨T, hTe⟩ : ∃ T, V0.heap.size = T := ⟨_, rfl⟩
   rw [hTe] at hT HT0 ⊢
   clear hTe hb
   try simp only [Act.put, List.setIfInBounds_toArray, List.set_cons_zero, List.set_cons_succ]
   refine wpAnyH_ready (rs := [4, 14]) (by kernel_rfl) (by simp) ?_
   refine AllReadyH.cons (o := { dst := some 16, op := Go.Op.buildSlice 22 0 #[], type := 22, pos := "outright.go:141", after := #[], guard := none }) rfl (fun K2 hK => ?_) ?_
   ·go_simp
    refine hK.out _ _ (hV1.trans ((below_alloc_ _ _).mono hV1.size)) (fun hV2 => ?_)
    clear hK K2
    have hZ := heap_alloc_new_ V1 (.cells #[] 55)
    have hb := below_alloc_ V1 (.cells #[] 55)
    have HNTZ := Lib.hid (show T ≠ V1.heap.size from by have := lt_of_block hT; omega)
    replace hT := (hb.block _ (lt_of_block hT)).trans hT
    have HZ0 := Lib.hid (show w0.heap.size ≤ V1.heap.size from hV1.size)
    have HOT := Lib.hid (show Value.ownBlock (.slice (some ⟨V1.heap.size, 0, none⟩) 0 0) ≠ some T from fun e => by have h9 : V1.heap.size = T := Option.some.inj e; exact HNTZ.out h9.symm)
    have HB := Lib.hid (show ∀ j, Value.ownBlock (.slice (some ⟨V1.heap.size, 0, none⟩) 0 0) = some j → w0.heap.size ≤ j from fun j e => by have h9 : V1.heap.size = j := Option.some.inj e; have := HZ0.out; omega)
    generalize V1.alloc (.cells #[] 55) = V2 at *
    obtain ⟨Z, hZe⟩ : ∃ Z, V1.heap.size = Z := ⟨_, rfl⟩
    rw [hZe] at hZ HZ0 HNTZ HOT HB ⊢
    clear hZe hb
    have hown := own_empty (size := 2) hZ
    clear hZ
    try simp only [Act.put, List.setIfInBounds_toArray, List.set_cons_zero, List.set_cons_succ]
    refine wpAnyH_ready (rs := [7, 14]) (by kernel_rfl) (by simp) ?_
    refine AllReadyH.cons (o := { dst := some 19, op := Go.Op.call { callee := Go.Callee.builtin Go.Builtin.append, args := #[Go.Operand.tmp 16, Go.Operand.tmp 18], argTypes := #[22, 22] }, type := 22, pos := "outright.go:141", after := #[{ on := 4, ground := Go.Ground.data }, { on := 6, ground := Go.Ground.data }], guard := none }) rfl (fun K2 hK => ?_) ?_
    ·obtain ⟨v1, V3, hrun, hown2, hKp, hon⟩ := app_rgs (c2 := cap) (xs := []) hown (X.out.below hV2 (Nat.le_refl _)) (by omega)
     have hV3h := Lib.hid (show Below w0.heap.size w0 V3 from hV2.trans (hKp.below hV2.size (fun j hj e => by have := HB.out j e; omega)))
     have HPT := Lib.hid (show Value.ownBlock v1 ≠ some T from by rcases hon with h9 | h9 <;> rw [h9] <;> first | exact HOT.out | (intro e; have h8 : V2.heap.size = T := Option.some.inj e; have := lt_of_block hT; omega))
     replace hT := (hKp.block _ (lt_of_block hT) HOT.out).trans hT
     clear HOT
     have HOT := HPT
     clear HPT
     have HB2 := Lib.hid (show ∀ j, Value.ownBlock v1 = some j → w0.heap.size ≤ j from fun j e => by rcases hon with h9 | h9 <;> rw [h9] at e <;> first | exact HB.out j e | (have h8 : V2.heap.size = j := Option.some.inj e; have := hV2.size; omega))
     clear HB hown hon hKp
     have HB := HB2
     have Hown := Lib.hid hown2
     clear HB2 hown2
     go_simp
     try rw [hrun]
     try go_simp
     have hown := Hown.out
     clear Hown
     refine hK.out _ _ (hV3h.out) (fun hV3 => ?_)
     clear hK K2
     clear hrun hV3h
     try simp only [Act.put, List.setIfInBounds_toArray, List.set_cons_zero, List.set_cons_succ]
     refine wpAnyH_ready (rs := [10, 14]) (by kernel_rfl) (by simp) ?_
     refine AllReadyH.cons (o := { dst := some 22, op := Go.Op.call { callee := Go.Callee.builtin Go.Builtin.append, args := #[Go.Operand.tmp 19, Go.Operand.tmp 21], argTypes := #[22, 22] }, type := 22, pos := "outright.go:141", after := #[{ on := 7, ground := Go.Ground.data }, { on := 9, ground := Go.Ground.data }, { on := 7, ground := Go.Ground.chain }], guard := none }) rfl (fun K2 hK => ?_) ?_
     ·obtain ⟨v2, V4, hrun, hown2, hKp, hon⟩ := app_1r hown hT (by omega)
      have hV4h := Lib.hid (show Below w0.heap.size w0 V4 from hV3.trans (hKp.below hV3.size (fun j hj e => by have := HB.out j e; omega)))
      have HPT := Lib.hid (show Value.ownBlock v2 ≠ some T from by rcases hon with h9 | h9 <;> rw [h9] <;> first | exact HOT.out | (intro e; have h8 : V3.heap.size = T := Option.some.inj e; have := lt_of_block hT; omega))
      replace hT := (hKp.block _ (lt_of_block hT) HOT.out).trans hT
      clear HOT
      have HOT := HPT
      clear HPT
      have HB2 := Lib.hid (show ∀ j, Value.ownBlock v2 = some j → w0.heap.size ≤ j from fun j e => by rcases hon with h9 | h9 <;> rw [h9] at e <;> first | exact HB.out j e | (have h8 : V3.heap.size = j := Option.some.inj e; have := hV3.size; omega))
      clear HB hown hon hKp
      have HB := HB2
      have Hown := Lib.hid hown2
      clear HB2 hown2
      have hown9 := Hown.out
      clear Hown
      rw [Nat.zero_add, List.nil_append] at hown9
      obtain ⟨C8, c8, rfl, hc8, hr8, hC8⟩ := rgs_own (by rw [List.length_append, Hzl.out]; rfl) hown9
      have HR8 := Lib.hid hr8
      have Hc8 := Lib.hid hc8
      clear hr8 hC8 hown9 hc8
      go_simp
      try rw [hrun]
      try go_simp
      refine hK.out _ _ (hV4h.out) (fun hV4 => ?_)
      clear hK K2
      clear hrun hV4h
      try simp only [Act.put, List.setIfInBounds_toArray, List.set_cons_zero, List.set_cons_succ]
      refine wpAnyH_take (i := 13) (oi := { dst := some 25, op := Go.Op.build 25 #[(0, Go.Operand.tmp 13), (1, Go.Operand.tmp 15), (2, Go.Operand.tmp 22), (3, Go.Operand.tmp 24)], type := 25, pos := "outright.go:141", after := #[{ on := 1, ground := Go.Ground.data }, { on := 3, ground := Go.Ground.data }, { on := 10, ground := Go.Ground.data }, { on := 12, ground := Go.Ground.data }], guard := none }) (v := .agg #[.int .i64 sl, .int .i64 sr, .slice C8 (n + 1) c8, .slice A2 kn kc]) rfl (by kernel_rfl) (by kernel_rfl) (by kernel_rfl) (fun _ _ _ h => h) (Or.inl ⟨by rfl, by intro w2 hSw; (try dsimp only at hSw);  go_simp⟩) hV4 ?_
      try simp only [Act.put, List.setIfInBounds_toArray, List.set_cons_zero, List.set_cons_succ]
      refine wpAnyH_ready (rs := [14]) (by kernel_rfl) (by simp) ?_
      refine AllReadyH.cons (o := { dst := some 7, op := Go.Op.alloc 25, type := 0, pos := "outright.go:141", after := #[], guard := none }) rfl (fun K2 hK => ?_) ?_
      ·go_simp
       refine hK.out _ _ (hV4.trans ((below_alloc_ _ _).mono hV4.size)) (fun hV5 => ?_)
       clear hK K2
       have hD := heap_alloc_new_ V4 (.cells #[.int .i64 0, .int .i64 0, .slice none 0 0, .slice none 0 0] 25)
       have hb := below_alloc_ V4 (.cells #[.int .i64 0, .int .i64 0, .slice none 0 0, .slice none 0 0] 25)
       have HNTD := Lib.hid (show T ≠ V4.heap.size from by have := lt_of_block hT; omega)
       have HOD := Lib.hid (show ∀ b o, C8 = some ⟨b, o, none⟩ → b ≠ V4.heap.size from fun b o e => by obtain ⟨b2, o2, e2, hc2⟩ := HR8.out.2 (by omega); rw [e2] at e; cases e; have := lt_of_cell (hc2 0 (by omega)).1; omega)
       replace HR8 := Lib.hid (HR8.out.below hb (Nat.le_refl _))
       replace hT := (hb.block _ (lt_of_block hT)).trans hT
       have HD0 := Lib.hid (show w0.heap.size ≤ V4.heap.size from hV4.size)
       generalize V4.alloc (.cells #[.int .i64 0, .int .i64 0, .slice none 0 0, .slice none 0 0] 25) = V5 at *
       obtain ⟨D, hDe⟩ : ∃ D, V4.heap.size = D := ⟨_, rfl⟩
       rw [hDe] at hD HD0 HNTD HOD ⊢
       clear hDe hb
       try simp only [Act.put, List.setIfInBounds_toArray, List.set_cons_zero, List.set_cons_succ]
       have f0 : V5.cell? ⟨D, 0, none⟩ = some (.int .i64 0) := by rw [cell_row hD]; rfl
       have f1 : V5.cell? ⟨D, 1, none⟩ = some (.int .i64 0) := by rw [cell_row hD]; rfl
       have f2 : V5.cell? ⟨D, 2, none⟩ = some (.slice none 0 0) := by rw [cell_row hD]; rfl
       have f3 : V5.cell? ⟨D, 3, none⟩ = some (.slice none 0 0) := by rw [cell_row hD]; rfl
       have fz : ∀ i, V5.frozen? ⟨D, i, none⟩ = false := fun i => frozen_row hD
       have HF := Lib.hid (more_sheet (c8 := c8) (sl := sl) (sr := sr) (v3 := .slice A2 kn kc) hV5 hD HD0.out HR8.out HOD.out)
       clear hD
       refine wpAnyH_ready (rs := [15]) (by kernel_rfl) (by simp) ?_
       refine AllReadyH.cons (o := { dst := none, op := Go.Op.store 25 (Go.Operand.tmp 7) (Go.Operand.tmp 25), type := 0, pos := "outright.go:141", after := #[{ on := 14, ground := Go.Ground.data }, { on := 13, ground := Go.Ground.data }, { on := 10, ground := Go.Ground.chain }, { on := 0, ground := Go.Ground.phase }, { on := 1, ground := Go.Ground.phase }, { on := 2, ground := Go.Ground.phase }, { on := 3, ground := Go.Ground.phase }, { on := 4, ground := Go.Ground.phase }, { on := 5, ground := Go.Ground.phase }, { on := 6, ground := Go.Ground.phase }, { on := 7, ground := Go.Ground.phase }, { on := 8, ground := Go.Ground.phase }, { on := 9, ground := Go.Ground.phase }, { on := 10, ground := Go.Ground.phase }, { on := 11, ground := Go.Ground.phase }, { on := 12, ground := Go.Ground.phase }, { on := 13, ground := Go.Ground.phase }, { on := 14, ground := Go.Ground.phase }], guard := none }) rfl (fun K2 hK => ?_) AllReadyH.nil
       go_simp
       refine hK.out _ _ HF.out.2.2 (fun hSf => ?_)
       clear hK K2
       try simp only [Act.put, List.setIfInBounds_toArray, List.set_cons_zero, List.set_cons_succ]
       refine wpAnyH_done (by kernel_rfl) ?_ _
       clear f0 f1 f2 f3 fz hSf
       go_wp2_with fail
       go_meet
       case rel => exact ⟨D, C8, c8, rfl, HF.out.1, Hc8.out, HF.out.2.1, HF.out.2.2⟩
      exact AllReadyH.nil
     refine AllReadyH.cons (o := { dst := some 7, op := Go.Op.alloc 25, type := 0, pos := "outright.go:141", after := #[], guard := none }) rfl (fun K2 hK => ?_) ?_
     ·go_simp
      refine hK.out _ _ (hV3.trans ((below_alloc_ _ _).mono hV3.size)) (fun hV4 => ?_)
      clear hK K2
      have hD := heap_alloc_new_ V3 (.cells #[.int .i64 0, .int .i64 0, .slice none 0 0, .slice none 0 0] 25)
      have hb := below_alloc_ V3 (.cells #[.int .i64 0, .int .i64 0, .slice none 0 0, .slice none 0 0] 25)
      have HNTD := Lib.hid (show T ≠ V3.heap.size from by have := lt_of_block hT; omega)
      have HOD := Lib.hid (show Value.ownBlock (v1) ≠ some V3.heap.size from fun e => by have := own_lt hown _ e; omega)
      replace hown := own_keep hown (Keeps.of_new (Mut := fun _ => False) hb) (fun _ _ e => e)
      replace hT := (hb.block _ (lt_of_block hT)).trans hT
      have HD0 := Lib.hid (show w0.heap.size ≤ V3.heap.size from hV3.size)
      generalize V3.alloc (.cells #[.int .i64 0, .int .i64 0, .slice none 0 0, .slice none 0 0] 25) = V4 at *
      obtain ⟨D, hDe⟩ : ∃ D, V3.heap.size = D := ⟨_, rfl⟩
      rw [hDe] at hD HD0 HNTD HOD ⊢
      clear hDe hb
      try simp only [Act.put, List.setIfInBounds_toArray, List.set_cons_zero, List.set_cons_succ]
      refine wpAnyH_ready (rs := [10]) (by kernel_rfl) (by simp) ?_
      refine AllReadyH.cons (o := { dst := some 22, op := Go.Op.call { callee := Go.Callee.builtin Go.Builtin.append, args := #[Go.Operand.tmp 19, Go.Operand.tmp 21], argTypes := #[22, 22] }, type := 22, pos := "outright.go:141", after := #[{ on := 7, ground := Go.Ground.data }, { on := 9, ground := Go.Ground.data }, { on := 7, ground := Go.Ground.chain }], guard := none }) rfl (fun K2 hK => ?_) ?_
      ·obtain ⟨v2, V5, hrun, hown2, hKp, hon⟩ := app_1r hown hT (by omega)
       have hV5h := Lib.hid (show Below w0.heap.size w0 V5 from hV4.trans (hKp.below hV4.size (fun j hj e => by have := HB.out j e; omega)))
       have HPT := Lib.hid (show Value.ownBlock v2 ≠ some T from by rcases hon with h9 | h9 <;> rw [h9] <;> first | exact HOT.out | (intro e; have h8 : V4.heap.size = T := Option.some.inj e; have := lt_of_block hT; omega))
       replace hT := (hKp.block _ (lt_of_block hT) HOT.out).trans hT
       clear HOT
       have HOT := HPT
       clear HPT
       have HPD := Lib.hid (show Value.ownBlock v2 ≠ some D from by rcases hon with h9 | h9 <;> rw [h9] <;> first | exact HOD.out | (intro e; have h8 : V4.heap.size = D := Option.some.inj e; have := lt_of_block hD; omega))
       replace hD := (hKp.block _ (lt_of_block hD) HOD.out).trans hD
       clear HOD
       have HOD := HPD
       clear HPD
       have HB2 := Lib.hid (show ∀ j, Value.ownBlock v2 = some j → w0.heap.size ≤ j from fun j e => by rcases hon with h9 | h9 <;> rw [h9] at e <;> first | exact HB.out j e | (have h8 : V4.heap.size = j := Option.some.inj e; have := hV4.size; omega))
       clear HB hown hon hKp
       have HB := HB2
       have Hown := Lib.hid hown2
       clear HB2 hown2
       have hown9 := Hown.out
       clear Hown
       rw [Nat.zero_add, List.nil_append] at hown9
       obtain ⟨C8, c8, rfl, hc8, hr8, hC8⟩ := rgs_own (by rw [List.length_append, Hzl.out]; rfl) hown9
       have HR8 := Lib.hid hr8
       have Hc8 := Lib.hid hc8
       have HC8 := Lib.hid (show ∀ b o, C8 = some ⟨b, o, none⟩ → b ≠ D from fun b o e e2 => HOD.out (by rw [← e2]; exact (hC8 b o e).1))
       clear HOD
       have HOD := HC8
       clear HC8
       clear hr8 hC8 hown9 hc8
       go_simp
       try rw [hrun]
       try go_simp
       refine hK.out _ _ (hV5h.out) (fun hV5 => ?_)
       clear hK K2
       clear hrun hV5h
       try simp only [Act.put, List.setIfInBounds_toArray, List.set_cons_zero, List.set_cons_succ]
       refine wpAnyH_take (i := 13) (oi := { dst := some 25, op := Go.Op.build 25 #[(0, Go.Operand.tmp 13), (1, Go.Operand.tmp 15), (2, Go.Operand.tmp 22), (3, Go.Operand.tmp 24)], type := 25, pos := "outright.go:141", after := #[{ on := 1, ground := Go.Ground.data }, { on := 3, ground := Go.Ground.data }, { on := 10, ground := Go.Ground.data }, { on := 12, ground := Go.Ground.data }], guard := none }) (v := .agg #[.int .i64 sl, .int .i64 sr, .slice C8 (n + 1) c8, .slice A2 kn kc]) rfl (by kernel_rfl) (by kernel_rfl) (by kernel_rfl) (fun _ _ _ h => h) (Or.inl ⟨by rfl, by intro w2 hSw; (try dsimp only at hSw);  go_simp⟩) hV5 ?_
       try simp only [Act.put, List.setIfInBounds_toArray, List.set_cons_zero, List.set_cons_succ]
       have f0 : V5.cell? ⟨D, 0, none⟩ = some (.int .i64 0) := by rw [cell_row hD]; rfl
       have f1 : V5.cell? ⟨D, 1, none⟩ = some (.int .i64 0) := by rw [cell_row hD]; rfl
       have f2 : V5.cell? ⟨D, 2, none⟩ = some (.slice none 0 0) := by rw [cell_row hD]; rfl
       have f3 : V5.cell? ⟨D, 3, none⟩ = some (.slice none 0 0) := by rw [cell_row hD]; rfl
       have fz : ∀ i, V5.frozen? ⟨D, i, none⟩ = false := fun i => frozen_row hD
       have HF := Lib.hid (more_sheet (c8 := c8) (sl := sl) (sr := sr) (v3 := .slice A2 kn kc) hV5 hD HD0.out HR8.out HOD.out)
       clear hD
       refine wpAnyH_ready (rs := [15]) (by kernel_rfl) (by simp) ?_
       refine AllReadyH.cons (o := { dst := none, op := Go.Op.store 25 (Go.Operand.tmp 7) (Go.Operand.tmp 25), type := 0, pos := "outright.go:141", after := #[{ on := 14, ground := Go.Ground.data }, { on := 13, ground := Go.Ground.data }, { on := 10, ground := Go.Ground.chain }, { on := 0, ground := Go.Ground.phase }, { on := 1, ground := Go.Ground.phase }, { on := 2, ground := Go.Ground.phase }, { on := 3, ground := Go.Ground.phase }, { on := 4, ground := Go.Ground.phase }, { on := 5, ground := Go.Ground.phase }, { on := 6, ground := Go.Ground.phase }, { on := 7, ground := Go.Ground.phase }, { on := 8, ground := Go.Ground.phase }, { on := 9, ground := Go.Ground.phase }, { on := 10, ground := Go.Ground.phase }, { on := 11, ground := Go.Ground.phase }, { on := 12, ground := Go.Ground.phase }, { on := 13, ground := Go.Ground.phase }, { on := 14, ground := Go.Ground.phase }], guard := none }) rfl (fun K2 hK => ?_) AllReadyH.nil
       go_simp
       refine hK.out _ _ HF.out.2.2 (fun hSf => ?_)
       clear hK K2
       try simp only [Act.put, List.setIfInBounds_toArray, List.set_cons_zero, List.set_cons_succ]
       refine wpAnyH_done (by kernel_rfl) ?_ _
       clear f0 f1 f2 f3 fz hSf
       go_wp2_with fail
       go_meet
       case rel => exact ⟨D, C8, c8, rfl, HF.out.1, Hc8.out, HF.out.2.1, HF.out.2.2⟩
      exact AllReadyH.nil
     exact AllReadyH.nil
    refine AllReadyH.cons (o := { dst := some 7, op := Go.Op.alloc 25, type := 0, pos := "outright.go:141", after := #[], guard := none }) rfl (fun K2 hK => ?_) ?_
    ·go_simp
     refine hK.out _ _ (hV2.trans ((below_alloc_ _ _).mono hV2.size)) (fun hV3 => ?_)
     clear hK K2
     have hD := heap_alloc_new_ V2 (.cells #[.int .i64 0, .int .i64 0, .slice none 0 0, .slice none 0 0] 25)
     have hb := below_alloc_ V2 (.cells #[.int .i64 0, .int .i64 0, .slice none 0 0, .slice none 0 0] 25)
     have HNTD := Lib.hid (show T ≠ V2.heap.size from by have := lt_of_block hT; omega)
     have HOD := Lib.hid (show Value.ownBlock (.slice (some ⟨Z, 0, none⟩) 0 0) ≠ some V2.heap.size from fun e => by have := own_lt hown _ e; omega)
     replace hown := own_keep hown (Keeps.of_new (Mut := fun _ => False) hb) (fun _ _ e => e)
     replace hT := (hb.block _ (lt_of_block hT)).trans hT
     have HD0 := Lib.hid (show w0.heap.size ≤ V2.heap.size from hV2.size)
     generalize V2.alloc (.cells #[.int .i64 0, .int .i64 0, .slice none 0 0, .slice none 0 0] 25) = V3 at *
     obtain ⟨D, hDe⟩ : ∃ D, V2.heap.size = D := ⟨_, rfl⟩
     rw [hDe] at hD HD0 HNTD HOD ⊢
     clear hDe hb
     try simp only [Act.put, List.setIfInBounds_toArray, List.set_cons_zero, List.set_cons_succ]
     refine wpAnyH_ready (rs := [7]) (by kernel_rfl) (by simp) ?_
     refine AllReadyH.cons (o := { dst := some 19, op := Go.Op.call { callee := Go.Callee.builtin Go.Builtin.append, args := #[Go.Operand.tmp 16, Go.Operand.tmp 18], argTypes := #[22, 22] }, type := 22, pos := "outright.go:141", after := #[{ on := 4, ground := Go.Ground.data }, { on := 6, ground := Go.Ground.data }], guard := none }) rfl (fun K2 hK => ?_) ?_
     ·obtain ⟨v1, V4, hrun, hown2, hKp, hon⟩ := app_rgs (c2 := cap) (xs := []) hown (X.out.below hV3 (Nat.le_refl _)) (by omega)
      have hV4h := Lib.hid (show Below w0.heap.size w0 V4 from hV3.trans (hKp.below hV3.size (fun j hj e => by have := HB.out j e; omega)))
      have HPT := Lib.hid (show Value.ownBlock v1 ≠ some T from by rcases hon with h9 | h9 <;> rw [h9] <;> first | exact HOT.out | (intro e; have h8 : V3.heap.size = T := Option.some.inj e; have := lt_of_block hT; omega))
      replace hT := (hKp.block _ (lt_of_block hT) HOT.out).trans hT
      clear HOT
      have HOT := HPT
      clear HPT
      have HPD := Lib.hid (show Value.ownBlock v1 ≠ some D from by rcases hon with h9 | h9 <;> rw [h9] <;> first | exact HOD.out | (intro e; have h8 : V3.heap.size = D := Option.some.inj e; have := lt_of_block hD; omega))
      replace hD := (hKp.block _ (lt_of_block hD) HOD.out).trans hD
      clear HOD
      have HOD := HPD
      clear HPD
      have HB2 := Lib.hid (show ∀ j, Value.ownBlock v1 = some j → w0.heap.size ≤ j from fun j e => by rcases hon with h9 | h9 <;> rw [h9] at e <;> first | exact HB.out j e | (have h8 : V3.heap.size = j := Option.some.inj e; have := hV3.size; omega))
      clear HB hown hon hKp
      have HB := HB2
      have Hown := Lib.hid hown2
      clear HB2 hown2
      go_simp
      try rw [hrun]
      try go_simp
      have hown := Hown.out
      clear Hown
      refine hK.out _ _ (hV4h.out) (fun hV4 => ?_)
      clear hK K2
      clear hrun hV4h
      try simp only [Act.put, List.setIfInBounds_toArray, List.set_cons_zero, List.set_cons_succ]
      refine wpAnyH_ready (rs := [10]) (by kernel_rfl) (by simp) ?_
      refine AllReadyH.cons (o := { dst := some 22, op := Go.Op.call { callee := Go.Callee.builtin Go.Builtin.append, args := #[Go.Operand.tmp 19, Go.Operand.tmp 21], argTypes := #[22, 22] }, type := 22, pos := "outright.go:141", after := #[{ on := 7, ground := Go.Ground.data }, { on := 9, ground := Go.Ground.data }, { on := 7, ground := Go.Ground.chain }], guard := none }) rfl (fun K2 hK => ?_) ?_
      ·obtain ⟨v2, V5, hrun, hown2, hKp, hon⟩ := app_1r hown hT (by omega)
       have hV5h := Lib.hid (show Below w0.heap.size w0 V5 from hV4.trans (hKp.below hV4.size (fun j hj e => by have := HB.out j e; omega)))
       have HPT := Lib.hid (show Value.ownBlock v2 ≠ some T from by rcases hon with h9 | h9 <;> rw [h9] <;> first | exact HOT.out | (intro e; have h8 : V4.heap.size = T := Option.some.inj e; have := lt_of_block hT; omega))
       replace hT := (hKp.block _ (lt_of_block hT) HOT.out).trans hT
       clear HOT
       have HOT := HPT
       clear HPT
       have HPD := Lib.hid (show Value.ownBlock v2 ≠ some D from by rcases hon with h9 | h9 <;> rw [h9] <;> first | exact HOD.out | (intro e; have h8 : V4.heap.size = D := Option.some.inj e; have := lt_of_block hD; omega))
       replace hD := (hKp.block _ (lt_of_block hD) HOD.out).trans hD
       clear HOD
       have HOD := HPD
       clear HPD
       have HB2 := Lib.hid (show ∀ j, Value.ownBlock v2 = some j → w0.heap.size ≤ j from fun j e => by rcases hon with h9 | h9 <;> rw [h9] at e <;> first | exact HB.out j e | (have h8 : V4.heap.size = j := Option.some.inj e; have := hV4.size; omega))
       clear HB hown hon hKp
       have HB := HB2
       have Hown := Lib.hid hown2
       clear HB2 hown2
       have hown9 := Hown.out
       clear Hown
       rw [Nat.zero_add, List.nil_append] at hown9
       obtain ⟨C8, c8, rfl, hc8, hr8, hC8⟩ := rgs_own (by rw [List.length_append, Hzl.out]; rfl) hown9
       have HR8 := Lib.hid hr8
       have Hc8 := Lib.hid hc8
       have HC8 := Lib.hid (show ∀ b o, C8 = some ⟨b, o, none⟩ → b ≠ D from fun b o e e2 => HOD.out (by rw [← e2]; exact (hC8 b o e).1))
       clear HOD
       have HOD := HC8
       clear HC8
       clear hr8 hC8 hown9 hc8
       go_simp
       try rw [hrun]
       try go_simp
       refine hK.out _ _ (hV5h.out) (fun hV5 => ?_)
       clear hK K2
       clear hrun hV5h
       try simp only [Act.put, List.setIfInBounds_toArray, List.set_cons_zero, List.set_cons_succ]
       refine wpAnyH_take (i := 13) (oi := { dst := some 25, op := Go.Op.build 25 #[(0, Go.Operand.tmp 13), (1, Go.Operand.tmp 15), (2, Go.Operand.tmp 22), (3, Go.Operand.tmp 24)], type := 25, pos := "outright.go:141", after := #[{ on := 1, ground := Go.Ground.data }, { on := 3, ground := Go.Ground.data }, { on := 10, ground := Go.Ground.data }, { on := 12, ground := Go.Ground.data }], guard := none }) (v := .agg #[.int .i64 sl, .int .i64 sr, .slice C8 (n + 1) c8, .slice A2 kn kc]) rfl (by kernel_rfl) (by kernel_rfl) (by kernel_rfl) (fun _ _ _ h => h) (Or.inl ⟨by rfl, by intro w2 hSw; (try dsimp only at hSw);  go_simp⟩) hV5 ?_
       try simp only [Act.put, List.setIfInBounds_toArray, List.set_cons_zero, List.set_cons_succ]
       have f0 : V5.cell? ⟨D, 0, none⟩ = some (.int .i64 0) := by rw [cell_row hD]; rfl
       have f1 : V5.cell? ⟨D, 1, none⟩ = some (.int .i64 0) := by rw [cell_row hD]; rfl
       have f2 : V5.cell? ⟨D, 2, none⟩ = some (.slice none 0 0) := by rw [cell_row hD]; rfl
       have f3 : V5.cell? ⟨D, 3, none⟩ = some (.slice none 0 0) := by rw [cell_row hD]; rfl
       have fz : ∀ i, V5.frozen? ⟨D, i, none⟩ = false := fun i => frozen_row hD
       have HF := Lib.hid (more_sheet (c8 := c8) (sl := sl) (sr := sr) (v3 := .slice A2 kn kc) hV5 hD HD0.out HR8.out HOD.out)
       clear hD
       refine wpAnyH_ready (rs := [15]) (by kernel_rfl) (by simp) ?_
       refine AllReadyH.cons (o := { dst := none, op := Go.Op.store 25 (Go.Operand.tmp 7) (Go.Operand.tmp 25), type := 0, pos := "outright.go:141", after := #[{ on := 14, ground := Go.Ground.data }, { on := 13, ground := Go.Ground.data }, { on := 10, ground := Go.Ground.chain }, { on := 0, ground := Go.Ground.phase }, { on := 1, ground := Go.Ground.phase }, { on := 2, ground := Go.Ground.phase }, { on := 3, ground := Go.Ground.phase }, { on := 4, ground := Go.Ground.phase }, { on := 5, ground := Go.Ground.phase }, { on := 6, ground := Go.Ground.phase }, { on := 7, ground := Go.Ground.phase }, { on := 8, ground := Go.Ground.phase }, { on := 9, ground := Go.Ground.phase }, { on := 10, ground := Go.Ground.phase }, { on := 11, ground := Go.Ground.phase }, { on := 12, ground := Go.Ground.phase }, { on := 13, ground := Go.Ground.phase }, { on := 14, ground := Go.Ground.phase }], guard := none }) rfl (fun K2 hK => ?_) AllReadyH.nil
       go_simp
       refine hK.out _ _ HF.out.2.2 (fun hSf => ?_)
       clear hK K2
       try simp only [Act.put, List.setIfInBounds_toArray, List.set_cons_zero, List.set_cons_succ]
       refine wpAnyH_done (by kernel_rfl) ?_ _
       clear f0 f1 f2 f3 fz hSf
       go_wp2_with fail
       go_meet
       case rel => exact ⟨D, C8, c8, rfl, HF.out.1, Hc8.out, HF.out.2.1, HF.out.2.2⟩
      exact AllReadyH.nil
     exact AllReadyH.nil
    exact AllReadyH.nil
   refine AllReadyH.cons (o := { dst := some 7, op := Go.Op.alloc 25, type := 0, pos := "outright.go:141", after := #[], guard := none }) rfl (fun K2 hK => ?_) ?_
   ·go_simp
    refine hK.out _ _ (hV1.trans ((below_alloc_ _ _).mono hV1.size)) (fun hV2 => ?_)
    clear hK K2
    have hD := heap_alloc_new_ V1 (.cells #[.int .i64 0, .int .i64 0, .slice none 0 0, .slice none 0 0] 25)
    have hb := below_alloc_ V1 (.cells #[.int .i64 0, .int .i64 0, .slice none 0 0, .slice none 0 0] 25)
    have HNTD := Lib.hid (show T ≠ V1.heap.size from by have := lt_of_block hT; omega)
    replace hT := (hb.block _ (lt_of_block hT)).trans hT
    have HD0 := Lib.hid (show w0.heap.size ≤ V1.heap.size from hV1.size)
    generalize V1.alloc (.cells #[.int .i64 0, .int .i64 0, .slice none 0 0, .slice none 0 0] 25) = V2 at *
    obtain ⟨D, hDe⟩ : ∃ D, V1.heap.size = D := ⟨_, rfl⟩
    rw [hDe] at hD HD0 HNTD ⊢
    clear hDe hb
    try simp only [Act.put, List.setIfInBounds_toArray, List.set_cons_zero, List.set_cons_succ]
    refine wpAnyH_ready (rs := [4]) (by kernel_rfl) (by simp) ?_
    refine AllReadyH.cons (o := { dst := some 16, op := Go.Op.buildSlice 22 0 #[], type := 22, pos := "outright.go:141", after := #[], guard := none }) rfl (fun K2 hK => ?_) ?_
    ·go_simp
     refine hK.out _ _ (hV2.trans ((below_alloc_ _ _).mono hV2.size)) (fun hV3 => ?_)
     clear hK K2
     have hZ := heap_alloc_new_ V2 (.cells #[] 55)
     have hb := below_alloc_ V2 (.cells #[] 55)
     have HNTZ := Lib.hid (show T ≠ V2.heap.size from by have := lt_of_block hT; omega)
     have HNDZ := Lib.hid (show D ≠ V2.heap.size from by have := lt_of_block hD; omega)
     replace hT := (hb.block _ (lt_of_block hT)).trans hT
     replace hD := (hb.block _ (lt_of_block hD)).trans hD
     have HZ0 := Lib.hid (show w0.heap.size ≤ V2.heap.size from hV2.size)
     have HOT := Lib.hid (show Value.ownBlock (.slice (some ⟨V2.heap.size, 0, none⟩) 0 0) ≠ some T from fun e => by have h9 : V2.heap.size = T := Option.some.inj e; exact HNTZ.out h9.symm)
     have HOD := Lib.hid (show Value.ownBlock (.slice (some ⟨V2.heap.size, 0, none⟩) 0 0) ≠ some D from fun e => by have h9 : V2.heap.size = D := Option.some.inj e; exact HNDZ.out h9.symm)
     have HB := Lib.hid (show ∀ j, Value.ownBlock (.slice (some ⟨V2.heap.size, 0, none⟩) 0 0) = some j → w0.heap.size ≤ j from fun j e => by have h9 : V2.heap.size = j := Option.some.inj e; have := HZ0.out; omega)
     generalize V2.alloc (.cells #[] 55) = V3 at *
     obtain ⟨Z, hZe⟩ : ∃ Z, V2.heap.size = Z := ⟨_, rfl⟩
     rw [hZe] at hZ HZ0 HNTZ HNDZ HOT HOD HB ⊢
     clear hZe hb
     have hown := own_empty (size := 2) hZ
     clear hZ
     try simp only [Act.put, List.setIfInBounds_toArray, List.set_cons_zero, List.set_cons_succ]
     refine wpAnyH_ready (rs := [7]) (by kernel_rfl) (by simp) ?_
     refine AllReadyH.cons (o := { dst := some 19, op := Go.Op.call { callee := Go.Callee.builtin Go.Builtin.append, args := #[Go.Operand.tmp 16, Go.Operand.tmp 18], argTypes := #[22, 22] }, type := 22, pos := "outright.go:141", after := #[{ on := 4, ground := Go.Ground.data }, { on := 6, ground := Go.Ground.data }], guard := none }) rfl (fun K2 hK => ?_) ?_
     ·obtain ⟨v1, V4, hrun, hown2, hKp, hon⟩ := app_rgs (c2 := cap) (xs := []) hown (X.out.below hV3 (Nat.le_refl _)) (by omega)
      have hV4h := Lib.hid (show Below w0.heap.size w0 V4 from hV3.trans (hKp.below hV3.size (fun j hj e => by have := HB.out j e; omega)))
      have HPT := Lib.hid (show Value.ownBlock v1 ≠ some T from by rcases hon with h9 | h9 <;> rw [h9] <;> first | exact HOT.out | (intro e; have h8 : V3.heap.size = T := Option.some.inj e; have := lt_of_block hT; omega))
      replace hT := (hKp.block _ (lt_of_block hT) HOT.out).trans hT
      clear HOT
      have HOT := HPT
      clear HPT
      have HPD := Lib.hid (show Value.ownBlock v1 ≠ some D from by rcases hon with h9 | h9 <;> rw [h9] <;> first | exact HOD.out | (intro e; have h8 : V3.heap.size = D := Option.some.inj e; have := lt_of_block hD; omega))
      replace hD := (hKp.block _ (lt_of_block hD) HOD.out).trans hD
      clear HOD
      have HOD := HPD
      clear HPD
      have HB2 := Lib.hid (show ∀ j, Value.ownBlock v1 = some j → w0.heap.size ≤ j from fun j e => by rcases hon with h9 | h9 <;> rw [h9] at e <;> first | exact HB.out j e | (have h8 : V3.heap.size = j := Option.some.inj e; have := hV3.size; omega))
      clear HB hown hon hKp
      have HB := HB2
      have Hown := Lib.hid hown2
      clear HB2 hown2
      go_simp
      try rw [hrun]
      try go_simp
      have hown := Hown.out
      clear Hown
      refine hK.out _ _ (hV4h.out) (fun hV4 => ?_)
      clear hK K2
      clear hrun hV4h
      try simp only [Act.put, List.setIfInBounds_toArray, List.set_cons_zero, List.set_cons_succ]
      refine wpAnyH_ready (rs := [10]) (by kernel_rfl) (by simp) ?_
      refine AllReadyH.cons (o := { dst := some 22, op := Go.Op.call { callee := Go.Callee.builtin Go.Builtin.append, args := #[Go.Operand.tmp 19, Go.Operand.tmp 21], argTypes := #[22, 22] }, type := 22, pos := "outright.go:141", after := #[{ on := 7, ground := Go.Ground.data }, { on := 9, ground := Go.Ground.data }, { on := 7, ground := Go.Ground.chain }], guard := none }) rfl (fun K2 hK => ?_) ?_
      ·obtain ⟨v2, V5, hrun, hown2, hKp, hon⟩ := app_1r hown hT (by omega)
       have hV5h := Lib.hid (show Below w0.heap.size w0 V5 from hV4.trans (hKp.below hV4.size (fun j hj e => by have := HB.out j e; omega)))
       have HPT := Lib.hid (show Value.ownBlock v2 ≠ some T from by rcases hon with h9 | h9 <;> rw [h9] <;> first | exact HOT.out | (intro e; have h8 : V4.heap.size = T := Option.some.inj e; have := lt_of_block hT; omega))
       replace hT := (hKp.block _ (lt_of_block hT) HOT.out).trans hT
       clear HOT
       have HOT := HPT
       clear HPT
       have HPD := Lib.hid (show Value.ownBlock v2 ≠ some D from by rcases hon with h9 | h9 <;> rw [h9] <;> first | exact HOD.out | (intro e; have h8 : V4.heap.size = D := Option.some.inj e; have := lt_of_block hD; omega))
       replace hD := (hKp.block _ (lt_of_block hD) HOD.out).trans hD
       clear HOD
       have HOD := HPD
       clear HPD
       have HB2 := Lib.hid (show ∀ j, Value.ownBlock v2 = some j → w0.heap.size ≤ j from fun j e => by rcases hon with h9 | h9 <;> rw [h9] at e <;> first | exact HB.out j e | (have h8 : V4.heap.size = j := Option.some.inj e; have := hV4.size; omega))
       clear HB hown hon hKp
       have HB := HB2
       have Hown := Lib.hid hown2
       clear HB2 hown2
       have hown9 := Hown.out
       clear Hown
       rw [Nat.zero_add, List.nil_append] at hown9
       obtain ⟨C8, c8, rfl, hc8, hr8, hC8⟩ := rgs_own (by rw [List.length_append, Hzl.out]; rfl) hown9
       have HR8 := Lib.hid hr8
       have Hc8 := Lib.hid hc8
       have HC8 := Lib.hid (show ∀ b o, C8 = some ⟨b, o, none⟩ → b ≠ D from fun b o e e2 => HOD.out (by rw [← e2]; exact (hC8 b o e).1))
       clear HOD
       have HOD := HC8
       clear HC8
       clear hr8 hC8 hown9 hc8
       go_simp
       try rw [hrun]
       try go_simp
       refine hK.out _ _ (hV5h.out) (fun hV5 => ?_)
       clear hK K2
       clear hrun hV5h
       try simp only [Act.put, List.setIfInBounds_toArray, List.set_cons_zero, List.set_cons_succ]
       refine wpAnyH_take (i := 13) (oi := { dst := some 25, op := Go.Op.build 25 #[(0, Go.Operand.tmp 13), (1, Go.Operand.tmp 15), (2, Go.Operand.tmp 22), (3, Go.Operand.tmp 24)], type := 25, pos := "outright.go:141", after := #[{ on := 1, ground := Go.Ground.data }, { on := 3, ground := Go.Ground.data }, { on := 10, ground := Go.Ground.data }, { on := 12, ground := Go.Ground.data }], guard := none }) (v := .agg #[.int .i64 sl, .int .i64 sr, .slice C8 (n + 1) c8, .slice A2 kn kc]) rfl (by kernel_rfl) (by kernel_rfl) (by kernel_rfl) (fun _ _ _ h => h) (Or.inl ⟨by rfl, by intro w2 hSw; (try dsimp only at hSw);  go_simp⟩) hV5 ?_
       try simp only [Act.put, List.setIfInBounds_toArray, List.set_cons_zero, List.set_cons_succ]
       have f0 : V5.cell? ⟨D, 0, none⟩ = some (.int .i64 0) := by rw [cell_row hD]; rfl
       have f1 : V5.cell? ⟨D, 1, none⟩ = some (.int .i64 0) := by rw [cell_row hD]; rfl
       have f2 : V5.cell? ⟨D, 2, none⟩ = some (.slice none 0 0) := by rw [cell_row hD]; rfl
       have f3 : V5.cell? ⟨D, 3, none⟩ = some (.slice none 0 0) := by rw [cell_row hD]; rfl
       have fz : ∀ i, V5.frozen? ⟨D, i, none⟩ = false := fun i => frozen_row hD
       have HF := Lib.hid (more_sheet (c8 := c8) (sl := sl) (sr := sr) (v3 := .slice A2 kn kc) hV5 hD HD0.out HR8.out HOD.out)
       clear hD
       refine wpAnyH_ready (rs := [15]) (by kernel_rfl) (by simp) ?_
       refine AllReadyH.cons (o := { dst := none, op := Go.Op.store 25 (Go.Operand.tmp 7) (Go.Operand.tmp 25), type := 0, pos := "outright.go:141", after := #[{ on := 14, ground := Go.Ground.data }, { on := 13, ground := Go.Ground.data }, { on := 10, ground := Go.Ground.chain }, { on := 0, ground := Go.Ground.phase }, { on := 1, ground := Go.Ground.phase }, { on := 2, ground := Go.Ground.phase }, { on := 3, ground := Go.Ground.phase }, { on := 4, ground := Go.Ground.phase }, { on := 5, ground := Go.Ground.phase }, { on := 6, ground := Go.Ground.phase }, { on := 7, ground := Go.Ground.phase }, { on := 8, ground := Go.Ground.phase }, { on := 9, ground := Go.Ground.phase }, { on := 10, ground := Go.Ground.phase }, { on := 11, ground := Go.Ground.phase }, { on := 12, ground := Go.Ground.phase }, { on := 13, ground := Go.Ground.phase }, { on := 14, ground := Go.Ground.phase }], guard := none }) rfl (fun K2 hK => ?_) AllReadyH.nil
       go_simp
       refine hK.out _ _ HF.out.2.2 (fun hSf => ?_)
       clear hK K2
       try simp only [Act.put, List.setIfInBounds_toArray, List.set_cons_zero, List.set_cons_succ]
       refine wpAnyH_done (by kernel_rfl) ?_ _
       clear f0 f1 f2 f3 fz hSf
       go_wp2_with fail
       go_meet
       case rel => exact ⟨D, C8, c8, rfl, HF.out.1, Hc8.out, HF.out.2.1, HF.out.2.2⟩
      exact AllReadyH.nil
     exact AllReadyH.nil
    exact AllReadyH.nil
   exact AllReadyH.nil
  refine AllReadyH.cons (o := { dst := some 7, op := Go.Op.alloc 25, type := 0, pos := "outright.go:141", after := #[], guard := none }) rfl (fun K2 hK => ?_) ?_
  ·go_simp
   refine hK.out _ _ (hV0.trans ((below_alloc_ _ _).mono hV0.size)) (fun hV1 => ?_)
   clear hK K2
   have hD := heap_alloc_new_ V0 (.cells #[.int .i64 0, .int .i64 0, .slice none 0 0, .slice none 0 0] 25)
   have hb := below_alloc_ V0 (.cells #[.int .i64 0, .int .i64 0, .slice none 0 0, .slice none 0 0] 25)
   have HD0 := Lib.hid (show w0.heap.size ≤ V0.heap.size from hV0.size)
   generalize V0.alloc (.cells #[.int .i64 0, .int .i64 0, .slice none 0 0, .slice none 0 0] 25) = V1 at *
   obtain ⟨D, hDe⟩ : ∃ D, V0.heap.size = D := ⟨_, rfl⟩
   rw [hDe] at hD HD0 ⊢
   clear hDe hb
   try simp only [Act.put, List.setIfInBounds_toArray, List.set_cons_zero, List.set_cons_succ]
   refine wpAnyH_ready (rs := [4, 9]) (by kernel_rfl) (by simp) ?_
   refine AllReadyH.cons (o := { dst := some 16, op := Go.Op.buildSlice 22 0 #[], type := 22, pos := "outright.go:141", after := #[], guard := none }) rfl (fun K2 hK => ?_) ?_
   ·go_simp
    refine hK.out _ _ (hV1.trans ((below_alloc_ _ _).mono hV1.size)) (fun hV2 => ?_)
    clear hK K2
    have hZ := heap_alloc_new_ V1 (.cells #[] 55)
    have hb := below_alloc_ V1 (.cells #[] 55)
    have HNDZ := Lib.hid (show D ≠ V1.heap.size from by have := lt_of_block hD; omega)
    replace hD := (hb.block _ (lt_of_block hD)).trans hD
    have HZ0 := Lib.hid (show w0.heap.size ≤ V1.heap.size from hV1.size)
    have HOD := Lib.hid (show Value.ownBlock (.slice (some ⟨V1.heap.size, 0, none⟩) 0 0) ≠ some D from fun e => by have h9 : V1.heap.size = D := Option.some.inj e; exact HNDZ.out h9.symm)
    have HB := Lib.hid (show ∀ j, Value.ownBlock (.slice (some ⟨V1.heap.size, 0, none⟩) 0 0) = some j → w0.heap.size ≤ j from fun j e => by have h9 : V1.heap.size = j := Option.some.inj e; have := HZ0.out; omega)
    generalize V1.alloc (.cells #[] 55) = V2 at *
    obtain ⟨Z, hZe⟩ : ∃ Z, V1.heap.size = Z := ⟨_, rfl⟩
    rw [hZe] at hZ HZ0 HNDZ HOD HB ⊢
    clear hZe hb
    have hown := own_empty (size := 2) hZ
    clear hZ
    try simp only [Act.put, List.setIfInBounds_toArray, List.set_cons_zero, List.set_cons_succ]
    refine wpAnyH_ready (rs := [7, 9]) (by kernel_rfl) (by simp) ?_
    refine AllReadyH.cons (o := { dst := some 19, op := Go.Op.call { callee := Go.Callee.builtin Go.Builtin.append, args := #[Go.Operand.tmp 16, Go.Operand.tmp 18], argTypes := #[22, 22] }, type := 22, pos := "outright.go:141", after := #[{ on := 4, ground := Go.Ground.data }, { on := 6, ground := Go.Ground.data }], guard := none }) rfl (fun K2 hK => ?_) ?_
    ·obtain ⟨v1, V3, hrun, hown2, hKp, hon⟩ := app_rgs (c2 := cap) (xs := []) hown (X.out.below hV2 (Nat.le_refl _)) (by omega)
     have hV3h := Lib.hid (show Below w0.heap.size w0 V3 from hV2.trans (hKp.below hV2.size (fun j hj e => by have := HB.out j e; omega)))
     have HPD := Lib.hid (show Value.ownBlock v1 ≠ some D from by rcases hon with h9 | h9 <;> rw [h9] <;> first | exact HOD.out | (intro e; have h8 : V2.heap.size = D := Option.some.inj e; have := lt_of_block hD; omega))
     replace hD := (hKp.block _ (lt_of_block hD) HOD.out).trans hD
     clear HOD
     have HOD := HPD
     clear HPD
     have HB2 := Lib.hid (show ∀ j, Value.ownBlock v1 = some j → w0.heap.size ≤ j from fun j e => by rcases hon with h9 | h9 <;> rw [h9] at e <;> first | exact HB.out j e | (have h8 : V2.heap.size = j := Option.some.inj e; have := hV2.size; omega))
     clear HB hown hon hKp
     have HB := HB2
     have Hown := Lib.hid hown2
     clear HB2 hown2
     go_simp
     try rw [hrun]
     try go_simp
     have hown := Hown.out
     clear Hown
     refine hK.out _ _ (hV3h.out) (fun hV3 => ?_)
     clear hK K2
     clear hrun hV3h
     try simp only [Act.put, List.setIfInBounds_toArray, List.set_cons_zero, List.set_cons_succ]
     refine wpAnyH_ready (rs := [9]) (by kernel_rfl) (by simp) ?_
     refine AllReadyH.cons (o := { dst := some 21, op := Go.Op.buildSlice 22 1 #[(0, Go.Operand.tmp 20)], type := 22, pos := "outright.go:141", after := #[{ on := 8, ground := Go.Ground.data }], guard := none }) rfl (fun K2 hK => ?_) ?_
     ·go_simp
      refine hK.out _ _ (hV3.trans ((below_alloc_ _ _).mono hV3.size)) (fun hV4 => ?_)
      clear hK K2
      have hT := heap_alloc_new_ V3 (.cells #[.int .i64 x, .int .i64 y] 55)
      have hb := below_alloc_ V3 (.cells #[.int .i64 x, .int .i64 y] 55)
      have HNDT := Lib.hid (show D ≠ V3.heap.size from by have := lt_of_block hD; omega)
      have HOT := Lib.hid (show Value.ownBlock (v1) ≠ some V3.heap.size from fun e => by have := own_lt hown _ e; omega)
      replace hown := own_keep hown (Keeps.of_new (Mut := fun _ => False) hb) (fun _ _ e => e)
      replace hD := (hb.block _ (lt_of_block hD)).trans hD
      have HT0 := Lib.hid (show w0.heap.size ≤ V3.heap.size from hV3.size)
      generalize V3.alloc (.cells #[.int .i64 x, .int .i64 y] 55) = V4 at *
      obtain ⟨T, hTe⟩ : ∃ T, V3.heap.size = T := ⟨_, rfl⟩
      rw [hTe] at hT HT0 HNDT HOT ⊢
      clear hTe hb
      try simp only [Act.put, List.setIfInBounds_toArray, List.set_cons_zero, List.set_cons_succ]
      refine wpAnyH_ready (rs := [10]) (by kernel_rfl) (by simp) ?_
      refine AllReadyH.cons (o := { dst := some 22, op := Go.Op.call { callee := Go.Callee.builtin Go.Builtin.append, args := #[Go.Operand.tmp 19, Go.Operand.tmp 21], argTypes := #[22, 22] }, type := 22, pos := "outright.go:141", after := #[{ on := 7, ground := Go.Ground.data }, { on := 9, ground := Go.Ground.data }, { on := 7, ground := Go.Ground.chain }], guard := none }) rfl (fun K2 hK => ?_) ?_
      ·obtain ⟨v2, V5, hrun, hown2, hKp, hon⟩ := app_1r hown hT (by omega)
       have hV5h := Lib.hid (show Below w0.heap.size w0 V5 from hV4.trans (hKp.below hV4.size (fun j hj e => by have := HB.out j e; omega)))
       have HPD := Lib.hid (show Value.ownBlock v2 ≠ some D from by rcases hon with h9 | h9 <;> rw [h9] <;> first | exact HOD.out | (intro e; have h8 : V4.heap.size = D := Option.some.inj e; have := lt_of_block hD; omega))
       replace hD := (hKp.block _ (lt_of_block hD) HOD.out).trans hD
       clear HOD
       have HOD := HPD
       clear HPD
       have HPT := Lib.hid (show Value.ownBlock v2 ≠ some T from by rcases hon with h9 | h9 <;> rw [h9] <;> first | exact HOT.out | (intro e; have h8 : V4.heap.size = T := Option.some.inj e; have := lt_of_block hT; omega))
       replace hT := (hKp.block _ (lt_of_block hT) HOT.out).trans hT
       clear HOT
       have HOT := HPT
       clear HPT
       have HB2 := Lib.hid (show ∀ j, Value.ownBlock v2 = some j → w0.heap.size ≤ j from fun j e => by rcases hon with h9 | h9 <;> rw [h9] at e <;> first | exact HB.out j e | (have h8 : V4.heap.size = j := Option.some.inj e; have := hV4.size; omega))
       clear HB hown hon hKp
       have HB := HB2
       have Hown := Lib.hid hown2
       clear HB2 hown2
       have hown9 := Hown.out
       clear Hown
       rw [Nat.zero_add, List.nil_append] at hown9
       obtain ⟨C8, c8, rfl, hc8, hr8, hC8⟩ := rgs_own (by rw [List.length_append, Hzl.out]; rfl) hown9
       have HR8 := Lib.hid hr8
       have Hc8 := Lib.hid hc8
       have HC8 := Lib.hid (show ∀ b o, C8 = some ⟨b, o, none⟩ → b ≠ D from fun b o e e2 => HOD.out (by rw [← e2]; exact (hC8 b o e).1))
       clear HOD
       have HOD := HC8
       clear HC8
       clear hr8 hC8 hown9 hc8
       go_simp
       try rw [hrun]
       try go_simp
       refine hK.out _ _ (hV5h.out) (fun hV5 => ?_)
       clear hK K2
       clear hrun hV5h
       try simp only [Act.put, List.setIfInBounds_toArray, List.set_cons_zero, List.set_cons_succ]
       refine wpAnyH_take (i := 13) (oi := { dst := some 25, op := Go.Op.build 25 #[(0, Go.Operand.tmp 13), (1, Go.Operand.tmp 15), (2, Go.Operand.tmp 22), (3, Go.Operand.tmp 24)], type := 25, pos := "outright.go:141", after := #[{ on := 1, ground := Go.Ground.data }, { on := 3, ground := Go.Ground.data }, { on := 10, ground := Go.Ground.data }, { on := 12, ground := Go.Ground.data }], guard := none }) (v := .agg #[.int .i64 sl, .int .i64 sr, .slice C8 (n + 1) c8, .slice A2 kn kc]) rfl (by kernel_rfl) (by kernel_rfl) (by kernel_rfl) (fun _ _ _ h => h) (Or.inl ⟨by rfl, by intro w2 hSw; (try dsimp only at hSw);  go_simp⟩) hV5 ?_
       try simp only [Act.put, List.setIfInBounds_toArray, List.set_cons_zero, List.set_cons_succ]
       have f0 : V5.cell? ⟨D, 0, none⟩ = some (.int .i64 0) := by rw [cell_row hD]; rfl
       have f1 : V5.cell? ⟨D, 1, none⟩ = some (.int .i64 0) := by rw [cell_row hD]; rfl
       have f2 : V5.cell? ⟨D, 2, none⟩ = some (.slice none 0 0) := by rw [cell_row hD]; rfl
       have f3 : V5.cell? ⟨D, 3, none⟩ = some (.slice none 0 0) := by rw [cell_row hD]; rfl
       have fz : ∀ i, V5.frozen? ⟨D, i, none⟩ = false := fun i => frozen_row hD
       have HF := Lib.hid (more_sheet (c8 := c8) (sl := sl) (sr := sr) (v3 := .slice A2 kn kc) hV5 hD HD0.out HR8.out HOD.out)
       clear hD
       refine wpAnyH_ready (rs := [15]) (by kernel_rfl) (by simp) ?_
       refine AllReadyH.cons (o := { dst := none, op := Go.Op.store 25 (Go.Operand.tmp 7) (Go.Operand.tmp 25), type := 0, pos := "outright.go:141", after := #[{ on := 14, ground := Go.Ground.data }, { on := 13, ground := Go.Ground.data }, { on := 10, ground := Go.Ground.chain }, { on := 0, ground := Go.Ground.phase }, { on := 1, ground := Go.Ground.phase }, { on := 2, ground := Go.Ground.phase }, { on := 3, ground := Go.Ground.phase }, { on := 4, ground := Go.Ground.phase }, { on := 5, ground := Go.Ground.phase }, { on := 6, ground := Go.Ground.phase }, { on := 7, ground := Go.Ground.phase }, { on := 8, ground := Go.Ground.phase }, { on := 9, ground := Go.Ground.phase }, { on := 10, ground := Go.Ground.phase }, { on := 11, ground := Go.Ground.phase }, { on := 12, ground := Go.Ground.phase }, { on := 13, ground := Go.Ground.phase }, { on := 14, ground := Go.Ground.phase }], guard := none }) rfl (fun K2 hK => ?_) AllReadyH.nil
       go_simp
       refine hK.out _ _ HF.out.2.2 (fun hSf => ?_)
       clear hK K2
       try simp only [Act.put, List.setIfInBounds_toArray, List.set_cons_zero, List.set_cons_succ]
       refine wpAnyH_done (by kernel_rfl) ?_ _
       clear f0 f1 f2 f3 fz hSf
       go_wp2_with fail
       go_meet
       case rel => exact ⟨D, C8, c8, rfl, HF.out.1, Hc8.out, HF.out.2.1, HF.out.2.2⟩
      exact AllReadyH.nil
     exact AllReadyH.nil
    refine AllReadyH.cons (o := { dst := some 21, op := Go.Op.buildSlice 22 1 #[(0, Go.Operand.tmp 20)], type := 22, pos := "outright.go:141", after := #[{ on := 8, ground := Go.Ground.data }], guard := none }) rfl (fun K2 hK => ?_) ?_
    ·go_simp
     refine hK.out _ _ (hV2.trans ((below_alloc_ _ _).mono hV2.size)) (fun hV3 => ?_)
     clear hK K2
     have hT := heap_alloc_new_ V2 (.cells #[.int .i64 x, .int .i64 y] 55)
     have hb := below_alloc_ V2 (.cells #[.int .i64 x, .int .i64 y] 55)
     have HNDT := Lib.hid (show D ≠ V2.heap.size from by have := lt_of_block hD; omega)
     have HOT := Lib.hid (show Value.ownBlock (.slice (some ⟨Z, 0, none⟩) 0 0) ≠ some V2.heap.size from fun e => by have := own_lt hown _ e; omega)
     replace hown := own_keep hown (Keeps.of_new (Mut := fun _ => False) hb) (fun _ _ e => e)
     replace hD := (hb.block _ (lt_of_block hD)).trans hD
     have HT0 := Lib.hid (show w0.heap.size ≤ V2.heap.size from hV2.size)
     generalize V2.alloc (.cells #[.int .i64 x, .int .i64 y] 55) = V3 at *
     obtain ⟨T, hTe⟩ : ∃ T, V2.heap.size = T := ⟨_, rfl⟩
     rw [hTe] at hT HT0 HNDT HOT ⊢
     clear hTe hb
     try simp only [Act.put, List.setIfInBounds_toArray, List.set_cons_zero, List.set_cons_succ]
     refine wpAnyH_ready (rs := [7]) (by kernel_rfl) (by simp) ?_
     refine AllReadyH.cons (o := { dst := some 19, op := Go.Op.call { callee := Go.Callee.builtin Go.Builtin.append, args := #[Go.Operand.tmp 16, Go.Operand.tmp 18], argTypes := #[22, 22] }, type := 22, pos := "outright.go:141", after := #[{ on := 4, ground := Go.Ground.data }, { on := 6, ground := Go.Ground.data }], guard := none }) rfl (fun K2 hK => ?_) ?_
     ·obtain ⟨v1, V4, hrun, hown2, hKp, hon⟩ := app_rgs (c2 := cap) (xs := []) hown (X.out.below hV3 (Nat.le_refl _)) (by omega)
      have hV4h := Lib.hid (show Below w0.heap.size w0 V4 from hV3.trans (hKp.below hV3.size (fun j hj e => by have := HB.out j e; omega)))
      have HPD := Lib.hid (show Value.ownBlock v1 ≠ some D from by rcases hon with h9 | h9 <;> rw [h9] <;> first | exact HOD.out | (intro e; have h8 : V3.heap.size = D := Option.some.inj e; have := lt_of_block hD; omega))
      replace hD := (hKp.block _ (lt_of_block hD) HOD.out).trans hD
      clear HOD
      have HOD := HPD
      clear HPD
      have HPT := Lib.hid (show Value.ownBlock v1 ≠ some T from by rcases hon with h9 | h9 <;> rw [h9] <;> first | exact HOT.out | (intro e; have h8 : V3.heap.size = T := Option.some.inj e; have := lt_of_block hT; omega))
      replace hT := (hKp.block _ (lt_of_block hT) HOT.out).trans hT
      clear HOT
      have HOT := HPT
      clear HPT
      have HB2 := Lib.hid (show ∀ j, Value.ownBlock v1 = some j → w0.heap.size ≤ j from fun j e => by rcases hon with h9 | h9 <;> rw [h9] at e <;> first | exact HB.out j e | (have h8 : V3.heap.size = j := Option.some.inj e; have := hV3.size; omega))
      clear HB hown hon hKp
      have HB := HB2
      have Hown := Lib.hid hown2
      clear HB2 hown2
      go_simp
      try rw [hrun]
      try go_simp
      have hown := Hown.out
      clear Hown
      refine hK.out _ _ (hV4h.out) (fun hV4 => ?_)
      clear hK K2
      clear hrun hV4h
      try simp only [Act.put, List.setIfInBounds_toArray, List.set_cons_zero, List.set_cons_succ]
      refine wpAnyH_ready (rs := [10]) (by kernel_rfl) (by simp) ?_
      refine AllReadyH.cons (o := { dst := some 22, op := Go.Op.call { callee := Go.Callee.builtin Go.Builtin.append, args := #[Go.Operand.tmp 19, Go.Operand.tmp 21], argTypes := #[22, 22] }, type := 22, pos := "outright.go:141", after := #[{ on := 7, ground := Go.Ground.data }, { on := 9, ground := Go.Ground.data }, { on := 7, ground := Go.Ground.chain }], guard := none }) rfl (fun K2 hK => ?_) ?_
      ·obtain ⟨v2, V5, hrun, hown2, hKp, hon⟩ := app_1r hown hT (by omega)
       have hV5h := Lib.hid (show Below w0.heap.size w0 V5 from hV4.trans (hKp.below hV4.size (fun j hj e => by have := HB.out j e; omega)))
       have HPD := Lib.hid (show Value.ownBlock v2 ≠ some D from by rcases hon with h9 | h9 <;> rw [h9] <;> first | exact HOD.out | (intro e; have h8 : V4.heap.size = D := Option.some.inj e; have := lt_of_block hD; omega))
       replace hD := (hKp.block _ (lt_of_block hD) HOD.out).trans hD
       clear HOD
       have HOD := HPD
       clear HPD
       have HPT := Lib.hid (show Value.ownBlock v2 ≠ some T from by rcases hon with h9 | h9 <;> rw [h9] <;> first | exact HOT.out | (intro e; have h8 : V4.heap.size = T := Option.some.inj e; have := lt_of_block hT; omega))
       replace hT := (hKp.block _ (lt_of_block hT) HOT.out).trans hT
       clear HOT
       have HOT := HPT
       clear HPT
       have HB2 := Lib.hid (show ∀ j, Value.ownBlock v2 = some j → w0.heap.size ≤ j from fun j e => by rcases hon with h9 | h9 <;> rw [h9] at e <;> first | exact HB.out j e | (have h8 : V4.heap.size = j := Option.some.inj e; have := hV4.size; omega))
       clear HB hown hon hKp
       have HB := HB2
       have Hown := Lib.hid hown2
       clear HB2 hown2
       have hown9 := Hown.out
       clear Hown
       rw [Nat.zero_add, List.nil_append] at hown9
       obtain ⟨C8, c8, rfl, hc8, hr8, hC8⟩ := rgs_own (by rw [List.length_append, Hzl.out]; rfl) hown9
       have HR8 := Lib.hid hr8
       have Hc8 := Lib.hid hc8
       have HC8 := Lib.hid (show ∀ b o, C8 = some ⟨b, o, none⟩ → b ≠ D from fun b o e e2 => HOD.out (by rw [← e2]; exact (hC8 b o e).1))
       clear HOD
       have HOD := HC8
       clear HC8
       clear hr8 hC8 hown9 hc8
       go_simp
       try rw [hrun]
       try go_simp
       refine hK.out _ _ (hV5h.out) (fun hV5 => ?_)
       clear hK K2
       clear hrun hV5h
       try simp only [Act.put, List.setIfInBounds_toArray, List.set_cons_zero, List.set_cons_succ]
       refine wpAnyH_take (i := 13) (oi := { dst := some 25, op := Go.Op.build 25 #[(0, Go.Operand.tmp 13), (1, Go.Operand.tmp 15), (2, Go.Operand.tmp 22), (3, Go.Operand.tmp 24)], type := 25, pos := "outright.go:141", after := #[{ on := 1, ground := Go.Ground.data }, { on := 3, ground := Go.Ground.data }, { on := 10, ground := Go.Ground.data }, { on := 12, ground := Go.Ground.data }], guard := none }) (v := .agg #[.int .i64 sl, .int .i64 sr, .slice C8 (n + 1) c8, .slice A2 kn kc]) rfl (by kernel_rfl) (by kernel_rfl) (by kernel_rfl) (fun _ _ _ h => h) (Or.inl ⟨by rfl, by intro w2 hSw; (try dsimp only at hSw);  go_simp⟩) hV5 ?_
       try simp only [Act.put, List.setIfInBounds_toArray, List.set_cons_zero, List.set_cons_succ]
       have f0 : V5.cell? ⟨D, 0, none⟩ = some (.int .i64 0) := by rw [cell_row hD]; rfl
       have f1 : V5.cell? ⟨D, 1, none⟩ = some (.int .i64 0) := by rw [cell_row hD]; rfl
       have f2 : V5.cell? ⟨D, 2, none⟩ = some (.slice none 0 0) := by rw [cell_row hD]; rfl
       have f3 : V5.cell? ⟨D, 3, none⟩ = some (.slice none 0 0) := by rw [cell_row hD]; rfl
       have fz : ∀ i, V5.frozen? ⟨D, i, none⟩ = false := fun i => frozen_row hD
       have HF := Lib.hid (more_sheet (c8 := c8) (sl := sl) (sr := sr) (v3 := .slice A2 kn kc) hV5 hD HD0.out HR8.out HOD.out)
       clear hD
       refine wpAnyH_ready (rs := [15]) (by kernel_rfl) (by simp) ?_
       refine AllReadyH.cons (o := { dst := none, op := Go.Op.store 25 (Go.Operand.tmp 7) (Go.Operand.tmp 25), type := 0, pos := "outright.go:141", after := #[{ on := 14, ground := Go.Ground.data }, { on := 13, ground := Go.Ground.data }, { on := 10, ground := Go.Ground.chain }, { on := 0, ground := Go.Ground.phase }, { on := 1, ground := Go.Ground.phase }, { on := 2, ground := Go.Ground.phase }, { on := 3, ground := Go.Ground.phase }, { on := 4, ground := Go.Ground.phase }, { on := 5, ground := Go.Ground.phase }, { on := 6, ground := Go.Ground.phase }, { on := 7, ground := Go.Ground.phase }, { on := 8, ground := Go.Ground.phase }, { on := 9, ground := Go.Ground.phase }, { on := 10, ground := Go.Ground.phase }, { on := 11, ground := Go.Ground.phase }, { on := 12, ground := Go.Ground.phase }, { on := 13, ground := Go.Ground.phase }, { on := 14, ground := Go.Ground.phase }], guard := none }) rfl (fun K2 hK => ?_) AllReadyH.nil
       go_simp
       refine hK.out _ _ HF.out.2.2 (fun hSf => ?_)
       clear hK K2
       try simp only [Act.put, List.setIfInBounds_toArray, List.set_cons_zero, List.set_cons_succ]
       refine wpAnyH_done (by kernel_rfl) ?_ _
       clear f0 f1 f2 f3 fz hSf
       go_wp2_with fail
       go_meet
       case rel => exact ⟨D, C8, c8, rfl, HF.out.1, Hc8.out, HF.out.2.1, HF.out.2.2⟩
      exact AllReadyH.nil
     exact AllReadyH.nil
    exact AllReadyH.nil
   refine AllReadyH.cons (o := { dst := some 21, op := Go.Op.buildSlice 22 1 #[(0, Go.Operand.tmp 20)], type := 22, pos := "outright.go:141", after := #[{ on := 8, ground := Go.Ground.data }], guard := none }) rfl (fun K2 hK => ?_) ?_
   ·go_simp
    refine hK.out _ _ (hV1.trans ((below_alloc_ _ _).mono hV1.size)) (fun hV2 => ?_)
    clear hK K2
    have hT := heap_alloc_new_ V1 (.cells #[.int .i64 x, .int .i64 y] 55)
    have hb := below_alloc_ V1 (.cells #[.int .i64 x, .int .i64 y] 55)
    have HNDT := Lib.hid (show D ≠ V1.heap.size from by have := lt_of_block hD; omega)
    replace hD := (hb.block _ (lt_of_block hD)).trans hD
    have HT0 := Lib.hid (show w0.heap.size ≤ V1.heap.size from hV1.size)
    generalize V1.alloc (.cells #[.int .i64 x, .int .i64 y] 55) = V2 at *
    obtain ⟨T, hTe⟩ : ∃ T, V1.heap.size = T := ⟨_, rfl⟩
    rw [hTe] at hT HT0 HNDT ⊢
    clear hTe hb
    try simp only [Act.put, List.setIfInBounds_toArray, List.set_cons_zero, List.set_cons_succ]
    refine wpAnyH_ready (rs := [4]) (by kernel_rfl) (by simp) ?_
    refine AllReadyH.cons (o := { dst := some 16, op := Go.Op.buildSlice 22 0 #[], type := 22, pos := "outright.go:141", after := #[], guard := none }) rfl (fun K2 hK => ?_) ?_
    ·go_simp
     refine hK.out _ _ (hV2.trans ((below_alloc_ _ _).mono hV2.size)) (fun hV3 => ?_)
     clear hK K2
     have hZ := heap_alloc_new_ V2 (.cells #[] 55)
     have hb := below_alloc_ V2 (.cells #[] 55)
     have HNDZ := Lib.hid (show D ≠ V2.heap.size from by have := lt_of_block hD; omega)
     have HNTZ := Lib.hid (show T ≠ V2.heap.size from by have := lt_of_block hT; omega)
     replace hD := (hb.block _ (lt_of_block hD)).trans hD
     replace hT := (hb.block _ (lt_of_block hT)).trans hT
     have HZ0 := Lib.hid (show w0.heap.size ≤ V2.heap.size from hV2.size)
     have HOD := Lib.hid (show Value.ownBlock (.slice (some ⟨V2.heap.size, 0, none⟩) 0 0) ≠ some D from fun e => by have h9 : V2.heap.size = D := Option.some.inj e; exact HNDZ.out h9.symm)
     have HOT := Lib.hid (show Value.ownBlock (.slice (some ⟨V2.heap.size, 0, none⟩) 0 0) ≠ some T from fun e => by have h9 : V2.heap.size = T := Option.some.inj e; exact HNTZ.out h9.symm)
     have HB := Lib.hid (show ∀ j, Value.ownBlock (.slice (some ⟨V2.heap.size, 0, none⟩) 0 0) = some j → w0.heap.size ≤ j from fun j e => by have h9 : V2.heap.size = j := Option.some.inj e; have := HZ0.out; omega)
     generalize V2.alloc (.cells #[] 55) = V3 at *
     obtain ⟨Z, hZe⟩ : ∃ Z, V2.heap.size = Z := ⟨_, rfl⟩
     rw [hZe] at hZ HZ0 HNDZ HNTZ HOD HOT HB ⊢
     clear hZe hb
     have hown := own_empty (size := 2) hZ
     clear hZ
     try simp only [Act.put, List.setIfInBounds_toArray, List.set_cons_zero, List.set_cons_succ]
     refine wpAnyH_ready (rs := [7]) (by kernel_rfl) (by simp) ?_
     refine AllReadyH.cons (o := { dst := some 19, op := Go.Op.call { callee := Go.Callee.builtin Go.Builtin.append, args := #[Go.Operand.tmp 16, Go.Operand.tmp 18], argTypes := #[22, 22] }, type := 22, pos := "outright.go:141", after := #[{ on := 4, ground := Go.Ground.data }, { on := 6, ground := Go.Ground.data }], guard := none }) rfl (fun K2 hK => ?_) ?_
     ·obtain ⟨v1, V4, hrun, hown2, hKp, hon⟩ := app_rgs (c2 := cap) (xs := []) hown (X.out.below hV3 (Nat.le_refl _)) (by omega)
      have hV4h := Lib.hid (show Below w0.heap.size w0 V4 from hV3.trans (hKp.below hV3.size (fun j hj e => by have := HB.out j e; omega)))
      have HPD := Lib.hid (show Value.ownBlock v1 ≠ some D from by rcases hon with h9 | h9 <;> rw [h9] <;> first | exact HOD.out | (intro e; have h8 : V3.heap.size = D := Option.some.inj e; have := lt_of_block hD; omega))
      replace hD := (hKp.block _ (lt_of_block hD) HOD.out).trans hD
      clear HOD
      have HOD := HPD
      clear HPD
      have HPT := Lib.hid (show Value.ownBlock v1 ≠ some T from by rcases hon with h9 | h9 <;> rw [h9] <;> first | exact HOT.out | (intro e; have h8 : V3.heap.size = T := Option.some.inj e; have := lt_of_block hT; omega))
      replace hT := (hKp.block _ (lt_of_block hT) HOT.out).trans hT
      clear HOT
      have HOT := HPT
      clear HPT
      have HB2 := Lib.hid (show ∀ j, Value.ownBlock v1 = some j → w0.heap.size ≤ j from fun j e => by rcases hon with h9 | h9 <;> rw [h9] at e <;> first | exact HB.out j e | (have h8 : V3.heap.size = j := Option.some.inj e; have := hV3.size; omega))
      clear HB hown hon hKp
      have HB := HB2
      have Hown := Lib.hid hown2
      clear HB2 hown2
      go_simp
      try rw [hrun]
      try go_simp
      have hown := Hown.out
      clear Hown
      refine hK.out _ _ (hV4h.out) (fun hV4 => ?_)
      clear hK K2
      clear hrun hV4h
      try simp only [Act.put, List.setIfInBounds_toArray, List.set_cons_zero, List.set_cons_succ]
      refine wpAnyH_ready (rs := [10]) (by kernel_rfl) (by simp) ?_
      refine AllReadyH.cons (o := { dst := some 22, op := Go.Op.call { callee := Go.Callee.builtin Go.Builtin.append, args := #[Go.Operand.tmp 19, Go.Operand.tmp 21], argTypes := #[22, 22] }, type := 22, pos := "outright.go:141", after := #[{ on := 7, ground := Go.Ground.data }, { on := 9, ground := Go.Ground.data }, { on := 7, ground := Go.Ground.chain }], guard := none }) rfl (fun K2 hK => ?_) ?_
      ·obtain ⟨v2, V5, hrun, hown2, hKp, hon⟩ := app_1r hown hT (by omega)
       have hV5h := Lib.hid (show Below w0.heap.size w0 V5 from hV4.trans (hKp.below hV4.size (fun j hj e => by have := HB.out j e; omega)))
       have HPD := Lib.hid (show Value.ownBlock v2 ≠ some D from by rcases hon with h9 | h9 <;> rw [h9] <;> first | exact HOD.out | (intro e; have h8 : V4.heap.size = D := Option.some.inj e; have := lt_of_block hD; omega))
       replace hD := (hKp.block _ (lt_of_block hD) HOD.out).trans hD
       clear HOD
       have HOD := HPD
       clear HPD
       have HPT := Lib.hid (show Value.ownBlock v2 ≠ some T from by rcases hon with h9 | h9 <;> rw [h9] <;> first | exact HOT.out | (intro e; have h8 : V4.heap.size = T := Option.some.inj e; have := lt_of_block hT; omega))
       replace hT := (hKp.block _ (lt_of_block hT) HOT.out).trans hT
       clear HOT
       have HOT := HPT
       clear HPT
       have HB2 := Lib.hid (show ∀ j, Value.ownBlock v2 = some j → w0.heap.size ≤ j from fun j e => by rcases hon with h9 | h9 <;> rw [h9] at e <;> first | exact HB.out j e | (have h8 : V4.heap.size = j := Option.some.inj e; have := hV4.size; omega))
       clear HB hown hon hKp
       have HB := HB2
       have Hown := Lib.hid hown2
       clear HB2 hown2
       have hown9 := Hown.out
       clear Hown
       rw [Nat.zero_add, List.nil_append] at hown9
       obtain ⟨C8, c8, rfl, hc8, hr8, hC8⟩ := rgs_own (by rw [List.length_append, Hzl.out]; rfl) hown9
       have HR8 := Lib.hid hr8
       have Hc8 := Lib.hid hc8
       have HC8 := Lib.hid (show ∀ b o, C8 = some ⟨b, o, none⟩ → b ≠ D from fun b o e e2 => HOD.out (by rw [← e2]; exact (hC8 b o e).1))
       clear HOD
       have HOD := HC8
       clear HC8
       clear hr8 hC8 hown9 hc8
       go_simp
       try rw [hrun]
       try go_simp
       refine hK.out _ _ (hV5h.out) (fun hV5 => ?_)
       clear hK K2
       clear hrun hV5h
       try simp only [Act.put, List.setIfInBounds_toArray, List.set_cons_zero, List.set_cons_succ]
       refine wpAnyH_take (i := 13) (oi := { dst := some 25, op := Go.Op.build 25 #[(0, Go.Operand.tmp 13), (1, Go.Operand.tmp 15), (2, Go.Operand.tmp 22), (3, Go.Operand.tmp 24)], type := 25, pos := "outright.go:141", after := #[{ on := 1, ground := Go.Ground.data }, { on := 3, ground := Go.Ground.data }, { on := 10, ground := Go.Ground.data }, { on := 12, ground := Go.Ground.data }], guard := none }) (v := .agg #[.int .i64 sl, .int .i64 sr, .slice C8 (n + 1) c8, .slice A2 kn kc]) rfl (by kernel_rfl) (by kernel_rfl) (by kernel_rfl) (fun _ _ _ h => h) (Or.inl ⟨by rfl, by intro w2 hSw; (try dsimp only at hSw);  go_simp⟩) hV5 ?_
       try simp only [Act.put, List.setIfInBounds_toArray, List.set_cons_zero, List.set_cons_succ]
       have f0 : V5.cell? ⟨D, 0, none⟩ = some (.int .i64 0) := by rw [cell_row hD]; rfl
       have f1 : V5.cell? ⟨D, 1, none⟩ = some (.int .i64 0) := by rw [cell_row hD]; rfl
       have f2 : V5.cell? ⟨D, 2, none⟩ = some (.slice none 0 0) := by rw [cell_row hD]; rfl
       have f3 : V5.cell? ⟨D, 3, none⟩ = some (.slice none 0 0) := by rw [cell_row hD]; rfl
       have fz : ∀ i, V5.frozen? ⟨D, i, none⟩ = false := fun i => frozen_row hD
       have HF := Lib.hid (more_sheet (c8 := c8) (sl := sl) (sr := sr) (v3 := .slice A2 kn kc) hV5 hD HD0.out HR8.out HOD.out)
       clear hD
       refine wpAnyH_ready (rs := [15]) (by kernel_rfl) (by simp) ?_
       refine AllReadyH.cons (o := { dst := none, op := Go.Op.store 25 (Go.Operand.tmp 7) (Go.Operand.tmp 25), type := 0, pos := "outright.go:141", after := #[{ on := 14, ground := Go.Ground.data }, { on := 13, ground := Go.Ground.data }, { on := 10, ground := Go.Ground.chain }, { on := 0, ground := Go.Ground.phase }, { on := 1, ground := Go.Ground.phase }, { on := 2, ground := Go.Ground.phase }, { on := 3, ground := Go.Ground.phase }, { on := 4, ground := Go.Ground.phase }, { on := 5, ground := Go.Ground.phase }, { on := 6, ground := Go.Ground.phase }, { on := 7, ground := Go.Ground.phase }, { on := 8, ground := Go.Ground.phase }, { on := 9, ground := Go.Ground.phase }, { on := 10, ground := Go.Ground.phase }, { on := 11, ground := Go.Ground.phase }, { on := 12, ground := Go.Ground.phase }, { on := 13, ground := Go.Ground.phase }, { on := 14, ground := Go.Ground.phase }], guard := none }) rfl (fun K2 hK => ?_) AllReadyH.nil
       go_simp
       refine hK.out _ _ HF.out.2.2 (fun hSf => ?_)
       clear hK K2
       try simp only [Act.put, List.setIfInBounds_toArray, List.set_cons_zero, List.set_cons_succ]
       refine wpAnyH_done (by kernel_rfl) ?_ _
       clear f0 f1 f2 f3 fz hSf
       go_wp2_with fail
       go_meet
       case rel => exact ⟨D, C8, c8, rfl, HF.out.1, Hc8.out, HF.out.2.1, HF.out.2.2⟩
      exact AllReadyH.nil
     exact AllReadyH.nil
    exact AllReadyH.nil
   exact AllReadyH.nil
  exact AllReadyH.nil
 case rest =>
  obtain ⟨D, C8, c8, rfl, hd8, hc8, hr8, hb⟩ := hcut
  obtain ⟨w1, rfl⟩ : ∃ v, v = wc := ⟨_, rfl⟩
  clear zHS0 zHS1 zHS2 zHS3 zHM0 zHM1
  replace X := Lib.hid (X.out.below hb (Nat.le_refl _))
  replace XI := Lib.hid (XI.out.below hb (Nat.le_refl _))
  replace XU := Lib.hid (XU.out.below hb (Nat.le_refl _))
  replace HS := Lib.hid ((hb.block _ (lt_of_block HS.out)).trans HS.out)
  replace HM := Lib.hid ((hb.block _ (lt_of_block HM.out)).trans HM.out)
  replace B := Lib.hid (B.out.trans (hb.mono B.out.size))
  have HD8 := Lib.hid hd8
  have XM := Lib.hid hr8
  have Hc8 := Lib.hid hc8
  clear hb hd8 hr8 hc8
  clear HM
  have zHS0 : w1.cell? ⟨R, 0, none⟩ = some (.int .i64 sl) := by rw [cell_row HS.out]; rfl
  have zHS1 : w1.cell? ⟨R, 1, none⟩ = some (.int .i64 sr) := by rw [cell_row HS.out]; rfl
  have zHS2 : w1.cell? ⟨R, 2, none⟩ = some (.slice A n cap) := by rw [cell_row HS.out]; rfl
  have zHS3 : w1.cell? ⟨R, 3, none⟩ = some (.slice A2 kn kc) := by rw [cell_row HS.out]; rfl
  have zHD80 : w1.cell? ⟨D, 0, none⟩ = some (.int .i64 sl) := by rw [cell_row HD8.out]; rfl
  have zHD81 : w1.cell? ⟨D, 1, none⟩ = some (.int .i64 sr) := by rw [cell_row HD8.out]; rfl
  have zHD82 : w1.cell? ⟨D, 2, none⟩ = some (.slice C8 (n + 1) c8) := by rw [cell_row HD8.out]; rfl
  have zHD83 : w1.cell? ⟨D, 3, none⟩ = some (.slice A2 kn kc) := by rw [cell_row HD8.out]; rfl
  go_wp2_with fail
  clear zHS0 zHS1 zHS2 zHS3 zHD80 zHD81 zHD82 zHD83
  refine (fine32 sl sr A n cap zs A2 kn kc ks w1 X.out XI.out Hc9.out).mono ?_
  rintro en w2 ⟨rfl, hb⟩
  replace X := Lib.hid (X.out.below hb (Nat.le_refl _))
  replace XI := Lib.hid (XI.out.below hb (Nat.le_refl _))
  replace XU := Lib.hid (XU.out.below hb (Nat.le_refl _))
  replace XM := Lib.hid (XM.out.below hb (Nat.le_refl _))
  replace HS := Lib.hid ((hb.block _ (lt_of_block HS.out)).trans HS.out)
  replace HD8 := Lib.hid ((hb.block _ (lt_of_block HD8.out)).trans HD8.out)
  replace B := Lib.hid (B.out.trans (hb.mono B.out.size))
  cases hf : finB sl sr n kn zs ks
  try clear hb
  ·clear hf
   have zHS0 : w2.cell? ⟨R, 0, none⟩ = some (.int .i64 sl) := by rw [cell_row HS.out]; rfl
   have zHS1 : w2.cell? ⟨R, 1, none⟩ = some (.int .i64 sr) := by rw [cell_row HS.out]; rfl
   have zHS2 : w2.cell? ⟨R, 2, none⟩ = some (.slice A n cap) := by rw [cell_row HS.out]; rfl
   have zHS3 : w2.cell? ⟨R, 3, none⟩ = some (.slice A2 kn kc) := by rw [cell_row HS.out]; rfl
   have zHD80 : w2.cell? ⟨D, 0, none⟩ = some (.int .i64 sl) := by rw [cell_row HD8.out]; rfl
   have zHD81 : w2.cell? ⟨D, 1, none⟩ = some (.int .i64 sr) := by rw [cell_row HD8.out]; rfl
   have zHD82 : w2.cell? ⟨D, 2, none⟩ = some (.slice C8 (n + 1) c8) := by rw [cell_row HD8.out]; rfl
   have zHD83 : w2.cell? ⟨D, 3, none⟩ = some (.slice A2 kn kc) := by rw [cell_row HD8.out]; rfl
   go_wp2_with fail
   clear zHS0 zHS1 zHS2 zHS3 zHD80 zHD81 zHD82 zHD83
   refine (works15 w2).mono ?_
   rintro en w3 ⟨rfl, hb⟩
   replace B := Lib.hid (B.out.trans (hb.mono B.out.size))
   clear hb
   go_wp2_with fail
   go_ret
   exact ⟨rfl, B.out⟩
  have Hf := Lib.hid hf
  clear hf
  have zHS0 : w2.cell? ⟨R, 0, none⟩ = some (.int .i64 sl) := by rw [cell_row HS.out]; rfl
  have zHS1 : w2.cell? ⟨R, 1, none⟩ = some (.int .i64 sr) := by rw [cell_row HS.out]; rfl
  have zHS2 : w2.cell? ⟨R, 2, none⟩ = some (.slice A n cap) := by rw [cell_row HS.out]; rfl
  have zHS3 : w2.cell? ⟨R, 3, none⟩ = some (.slice A2 kn kc) := by rw [cell_row HS.out]; rfl
  have zHD80 : w2.cell? ⟨D, 0, none⟩ = some (.int .i64 sl) := by rw [cell_row HD8.out]; rfl
  have zHD81 : w2.cell? ⟨D, 1, none⟩ = some (.int .i64 sr) := by rw [cell_row HD8.out]; rfl
  have zHD82 : w2.cell? ⟨D, 2, none⟩ = some (.slice C8 (n + 1) c8) := by rw [cell_row HD8.out]; rfl
  have zHD83 : w2.cell? ⟨D, 3, none⟩ = some (.slice A2 kn kc) := by rw [cell_row HD8.out]; rfl
  go_wp2_with fail
  clear zHS0 zHS1 zHS2 zHS3 zHD80 zHD81 zHD82 zHD83
  refine (fine32 sl sr C8 (n + 1) c8 (zs ++ [(⟨x, y⟩ : Rg)]) A2 kn kc ks w2 XM.out XI.out Hc8.out).mono ?_
  rintro en w3 ⟨rfl, hb⟩
  replace X := Lib.hid (X.out.below hb (Nat.le_refl _))
  replace XI := Lib.hid (XI.out.below hb (Nat.le_refl _))
  replace XU := Lib.hid (XU.out.below hb (Nat.le_refl _))
  replace XM := Lib.hid (XM.out.below hb (Nat.le_refl _))
  replace HS := Lib.hid ((hb.block _ (lt_of_block HS.out)).trans HS.out)
  replace HD8 := Lib.hid ((hb.block _ (lt_of_block HD8.out)).trans HD8.out)
  replace B := Lib.hid (B.out.trans (hb.mono B.out.size))
  cases hf : finB sl sr (n + 1) kn (zs ++ [(⟨x, y⟩ : Rg)]) ks
  try clear hb
  ·clear hf
   have zHS0 : w3.cell? ⟨R, 0, none⟩ = some (.int .i64 sl) := by rw [cell_row HS.out]; rfl
   have zHS1 : w3.cell? ⟨R, 1, none⟩ = some (.int .i64 sr) := by rw [cell_row HS.out]; rfl
   have zHS2 : w3.cell? ⟨R, 2, none⟩ = some (.slice A n cap) := by rw [cell_row HS.out]; rfl
   have zHS3 : w3.cell? ⟨R, 3, none⟩ = some (.slice A2 kn kc) := by rw [cell_row HS.out]; rfl
   have zHD80 : w3.cell? ⟨D, 0, none⟩ = some (.int .i64 sl) := by rw [cell_row HD8.out]; rfl
   have zHD81 : w3.cell? ⟨D, 1, none⟩ = some (.int .i64 sr) := by rw [cell_row HD8.out]; rfl
   have zHD82 : w3.cell? ⟨D, 2, none⟩ = some (.slice C8 (n + 1) c8) := by rw [cell_row HD8.out]; rfl
   have zHD83 : w3.cell? ⟨D, 3, none⟩ = some (.slice A2 kn kc) := by rw [cell_row HD8.out]; rfl
   go_wp2_with fail
   clear zHS0 zHS1 zHS2 zHS3 zHD80 zHD81 zHD82 zHD83
   refine (works15 w3).mono ?_
   rintro en w4 ⟨rfl, hb⟩
   replace B := Lib.hid (B.out.trans (hb.mono B.out.size))
   clear hb
   go_wp2_with fail
   go_ret
   exact ⟨rfl, B.out⟩
  obtain ⟨hn50, hk50, he⟩ := fin_yes Hf.out
  obtain ⟨hm50, -, hem⟩ := fin_yes hf
  clear hf Hf
  have hzm : (zs ++ [(⟨x, y⟩ : Rg)]).length = n + 1 := by rw [List.length_append, Hzl.out]; rfl
  have Hzm := Lib.hid hzm
  have Hem := Lib.hid hem
  have Hm := Lib.hid hm50
  clear hzm hem hm50
  by_cases h0 : 60 < nu
  ·have d0 : (60 : Int) < (nu : Int) := by omega
   have zHS0 : w3.cell? ⟨R, 0, none⟩ = some (.int .i64 sl) := by rw [cell_row HS.out]; rfl
   have zHS1 : w3.cell? ⟨R, 1, none⟩ = some (.int .i64 sr) := by rw [cell_row HS.out]; rfl
   have zHS2 : w3.cell? ⟨R, 2, none⟩ = some (.slice A n cap) := by rw [cell_row HS.out]; rfl
   have zHS3 : w3.cell? ⟨R, 3, none⟩ = some (.slice A2 kn kc) := by rw [cell_row HS.out]; rfl
   have zHD80 : w3.cell? ⟨D, 0, none⟩ = some (.int .i64 sl) := by rw [cell_row HD8.out]; rfl
   have zHD81 : w3.cell? ⟨D, 1, none⟩ = some (.int .i64 sr) := by rw [cell_row HD8.out]; rfl
   have zHD82 : w3.cell? ⟨D, 2, none⟩ = some (.slice C8 (n + 1) c8) := by rw [cell_row HD8.out]; rfl
   have zHD83 : w3.cell? ⟨D, 3, none⟩ = some (.slice A2 kn kc) := by rw [cell_row HD8.out]; rfl
   go_wp2_with fail
   clear zHS0 zHS1 zHS2 zHS3 zHD80 zHD81 zHD82 zHD83
   refine (works15 w3).mono ?_
   rintro en w4 ⟨rfl, hb⟩
   replace B := Lib.hid (B.out.trans (hb.mono B.out.size))
   clear hb
   go_wp2_with fail
   go_ret
   exact ⟨rfl, B.out⟩
  have d0 : ¬ (60 : Int) < (nu : Int) := by omega
  have zHS0 : w3.cell? ⟨R, 0, none⟩ = some (.int .i64 sl) := by rw [cell_row HS.out]; rfl
  have zHS1 : w3.cell? ⟨R, 1, none⟩ = some (.int .i64 sr) := by rw [cell_row HS.out]; rfl
  have zHS2 : w3.cell? ⟨R, 2, none⟩ = some (.slice A n cap) := by rw [cell_row HS.out]; rfl
  have zHS3 : w3.cell? ⟨R, 3, none⟩ = some (.slice A2 kn kc) := by rw [cell_row HS.out]; rfl
  have zHD80 : w3.cell? ⟨D, 0, none⟩ = some (.int .i64 sl) := by rw [cell_row HD8.out]; rfl
  have zHD81 : w3.cell? ⟨D, 1, none⟩ = some (.int .i64 sr) := by rw [cell_row HD8.out]; rfl
  have zHD82 : w3.cell? ⟨D, 2, none⟩ = some (.slice C8 (n + 1) c8) := by rw [cell_row HD8.out]; rfl
  have zHD83 : w3.cell? ⟨D, 3, none⟩ = some (.slice A2 kn kc) := by rw [cell_row HD8.out]; rfl
  go_wp2_with fail
  clear zHS0 zHS1 zHS2 zHS3 zHD80 zHD81 zHD82 zHD83
  have Hu := Lib.hid (show nu ≤ 60 by omega)
  clear h0 d0
  obtain ⟨sN, hsN⟩ : ∃ v, siz n zs ks = v := ⟨_, rfl⟩
  have HsN := Lib.hid hsN
  have hs12 : sN ≤ 10000 := by
   rw [← hsN]
   obtain ⟨p, hp⟩ := gre_ex (shn_of he Hzl.out)
   rw [← hp.2]
   unfold cntP
   have := List.length_filter_le p (List.range n)
   rw [List.length_range] at this
   omega
  have Hs12 := Lib.hid hs12
  have He := Lib.hid he
  have Hn := Lib.hid hn50
  have Hk := Lib.hid hk50
  have HSh := Lib.hid (shn_of he Hzl.out)
  clear hs12 hsN he hn50 hk50
  have hsz := siz_more HSh.out (shn_of Hem.out Hzm.out) Hzl.out
  rw [HsN.out] at hsz
  obtain ⟨sM, hsM⟩ : ∃ v, siz (n + 1) (zs ++ [(⟨x, y⟩ : Rg)]) ks = v := ⟨_, rfl⟩
  rw [hsM] at hsz
  have HsM := Lib.hid hsM
  have Hsz := Lib.hid hsz
  clear hsM hsz
  refine (greatest22 sl sr A n cap zs A2 kn kc ks w3 X.out XI.out Hc9.out (by have := Hn.out; omega) (by have := Hk.out; omega) He.out).mono ?_
  rintro en w4 ⟨QG, pt, rfl, hgb, hQ8, hig, hb⟩
  replace X := Lib.hid (X.out.below hb (Nat.le_refl _))
  replace XI := Lib.hid (XI.out.below hb (Nat.le_refl _))
  replace XU := Lib.hid (XU.out.below hb (Nat.le_refl _))
  replace XM := Lib.hid (XM.out.below hb (Nat.le_refl _))
  replace HS := Lib.hid ((hb.block _ (lt_of_block HS.out)).trans HS.out)
  replace HD8 := Lib.hid ((hb.block _ (lt_of_block HD8.out)).trans HD8.out)
  replace B := Lib.hid (B.out.trans (hb.mono B.out.size))
  have hlen := gb_len He.out Hzl.out hgb
  have hch := gb_chk He.out Hzl.out hgb
  change _ = siz n zs ks at hlen
  rw [HsN.out] at hlen
  obtain ⟨gl, hgl⟩ : ∃ v, jI n zs pt = v := ⟨_, rfl⟩
  rw [hgl] at hlen hch hig ⊢
  rw [hlen] at hig ⊢
  have HG := Lib.hid hig
  have Hch := Lib.hid hch
  clear hgb hQ8 hig hch hlen hgl
  try clear hb
  have zHS0 : w4.cell? ⟨R, 0, none⟩ = some (.int .i64 sl) := by rw [cell_row HS.out]; rfl
  have zHS1 : w4.cell? ⟨R, 1, none⟩ = some (.int .i64 sr) := by rw [cell_row HS.out]; rfl
  have zHS2 : w4.cell? ⟨R, 2, none⟩ = some (.slice A n cap) := by rw [cell_row HS.out]; rfl
  have zHS3 : w4.cell? ⟨R, 3, none⟩ = some (.slice A2 kn kc) := by rw [cell_row HS.out]; rfl
  have zHD80 : w4.cell? ⟨D, 0, none⟩ = some (.int .i64 sl) := by rw [cell_row HD8.out]; rfl
  have zHD81 : w4.cell? ⟨D, 1, none⟩ = some (.int .i64 sr) := by rw [cell_row HD8.out]; rfl
  have zHD82 : w4.cell? ⟨D, 2, none⟩ = some (.slice C8 (n + 1) c8) := by rw [cell_row HD8.out]; rfl
  have zHD83 : w4.cell? ⟨D, 3, none⟩ = some (.slice A2 kn kc) := by rw [cell_row HD8.out]; rfl
  go_wp2_with fail
  clear zHS0 zHS1 zHS2 zHS3 zHD80 zHD81 zHD82 zHD83
  refine (greatest22 sl sr C8 (n + 1) c8 (zs ++ [(⟨x, y⟩ : Rg)]) A2 kn kc ks w4 XM.out XI.out Hc8.out (by have := Hm.out; omega) (by have := Hk.out; omega) Hem.out).mono ?_
  rintro en w5 ⟨QM, pt, rfl, hgb, hQ8, hig, hb⟩
  replace X := Lib.hid (X.out.below hb (Nat.le_refl _))
  replace XI := Lib.hid (XI.out.below hb (Nat.le_refl _))
  replace XU := Lib.hid (XU.out.below hb (Nat.le_refl _))
  replace XM := Lib.hid (XM.out.below hb (Nat.le_refl _))
  replace HG := Lib.hid (HG.out.below hb (Nat.le_refl _))
  replace HS := Lib.hid ((hb.block _ (lt_of_block HS.out)).trans HS.out)
  replace HD8 := Lib.hid ((hb.block _ (lt_of_block HD8.out)).trans HD8.out)
  replace B := Lib.hid (B.out.trans (hb.mono B.out.size))
  have hlen := gb_len Hem.out Hzm.out hgb
  have hch := gb_chk Hem.out Hzm.out hgb
  change _ = siz (n + 1) (zs ++ [(⟨x, y⟩ : Rg)]) ks at hlen
  rw [HsM.out] at hlen
  obtain ⟨ml, hgl⟩ : ∃ v, jI (n + 1) (zs ++ [(⟨x, y⟩ : Rg)]) pt = v := ⟨_, rfl⟩
  rw [hgl] at hlen hch hig ⊢
  rw [hlen] at hig ⊢
  have HGM := Lib.hid hig
  have Hchm := Lib.hid hch
  clear hgb hQ8 hig hch hlen hgl
  try clear hb
  clear HGM Hchm
  have hjp := chj_jop Hch.out Hzl.out
  have hcg : chkJ sl sr (zs ++ [(⟨x, y⟩ : Rg)]) ks gl = 0 := by rw [hjp.2]; exact chj_more He.out Hem.out Hzl.out hjp.1
  have Hcg := Lib.hid hcg
  have d1 : (sN : Int) ≤ (sM : Int) := by have := Hsz.out; omega
  have d2 : (sM : Int) ≤ (sN : Int) + 1 := by have := Hsz.out; omega
  have d3 : sN ≤ sM := by omega
  have d4 : sM ≤ sN + 1 := by omega
  have hs12 := Hs12.out
  clear hjp hcg Hch
  have zHS0 : w5.cell? ⟨R, 0, none⟩ = some (.int .i64 sl) := by rw [cell_row HS.out]; rfl
  have zHS1 : w5.cell? ⟨R, 1, none⟩ = some (.int .i64 sr) := by rw [cell_row HS.out]; rfl
  have zHS2 : w5.cell? ⟨R, 2, none⟩ = some (.slice A n cap) := by rw [cell_row HS.out]; rfl
  have zHS3 : w5.cell? ⟨R, 3, none⟩ = some (.slice A2 kn kc) := by rw [cell_row HS.out]; rfl
  have zHD80 : w5.cell? ⟨D, 0, none⟩ = some (.int .i64 sl) := by rw [cell_row HD8.out]; rfl
  have zHD81 : w5.cell? ⟨D, 1, none⟩ = some (.int .i64 sr) := by rw [cell_row HD8.out]; rfl
  have zHD82 : w5.cell? ⟨D, 2, none⟩ = some (.slice C8 (n + 1) c8) := by rw [cell_row HD8.out]; rfl
  have zHD83 : w5.cell? ⟨D, 3, none⟩ = some (.slice A2 kn kc) := by rw [cell_row HD8.out]; rfl
  go_wp2_with fail
  refine wp_region_held_drew (S := fun w2 => Below w5.heap.size w5 w2) (by kernel_rfl) (drew_b _ _) (fun hS0 => ?_)
  refine wpAnyH_take (i := 0) (oi := { dst := some 50, op := Go.Op.move (Go.Operand.tmp 9), type := 30, pos := "outright.go:147", after := #[], guard := none }) (v := .int .i64 0) rfl (by kernel_rfl) (by kernel_rfl) (by kernel_rfl) (fun _ _ _ h => h) (Or.inl ⟨by rfl, by intro w2 hSw; (try dsimp only at hSw); have y0 := (hSw.cell (lt_of_cell zHS0)).trans zHS0; have y1 := (hSw.cell (lt_of_cell zHS1)).trans zHS1; have y2 := (hSw.cell (lt_of_cell zHS2)).trans zHS2; have y3 := (hSw.cell (lt_of_cell zHS3)).trans zHS3; have u0 := (hSw.cell (lt_of_cell zHD80)).trans zHD80; have u1 := (hSw.cell (lt_of_cell zHD81)).trans zHD81; have u2 := (hSw.cell (lt_of_cell zHD82)).trans zHD82; have u3 := (hSw.cell (lt_of_cell zHD83)).trans zHD83; go_simp⟩) hS0 ?_
  try simp only [Act.put, List.setIfInBounds_toArray, List.set_cons_zero, List.set_cons_succ]
  refine wpAnyH_take (i := 1) (oi := { dst := some 51, op := Go.Op.binOp Go.BinOp.eql 30 (Go.Operand.tmp 50) (Go.Operand.const (Go.Value.int Go.IntKind.i64 0)) 30, type := 4, pos := "outright.go:147", after := #[{ on := 0, ground := Go.Ground.data }], guard := none }) (v := .bool true) rfl (by kernel_rfl) (by kernel_rfl) (by kernel_rfl) (fun _ _ _ h => h) (Or.inl ⟨by rfl, by intro w2 hSw; (try dsimp only at hSw); have y0 := (hSw.cell (lt_of_cell zHS0)).trans zHS0; have y1 := (hSw.cell (lt_of_cell zHS1)).trans zHS1; have y2 := (hSw.cell (lt_of_cell zHS2)).trans zHS2; have y3 := (hSw.cell (lt_of_cell zHS3)).trans zHS3; have u0 := (hSw.cell (lt_of_cell zHD80)).trans zHD80; have u1 := (hSw.cell (lt_of_cell zHD81)).trans zHD81; have u2 := (hSw.cell (lt_of_cell zHD82)).trans zHD82; have u3 := (hSw.cell (lt_of_cell zHD83)).trans zHD83; go_simp⟩) hS0 ?_
  try simp only [Act.put, List.setIfInBounds_toArray, List.set_cons_zero, List.set_cons_succ]
  refine wpAnyH_take (i := 2) (oi := { dst := some 52, op := Go.Op.move (Go.Operand.tmp 51), type := 4, pos := "outright.go:147", after := #[{ on := 1, ground := Go.Ground.data }], guard := none }) (v := .bool true) rfl (by kernel_rfl) (by kernel_rfl) (by kernel_rfl) (fun _ _ _ h => h) (Or.inl ⟨by rfl, by intro w2 hSw; (try dsimp only at hSw); have y0 := (hSw.cell (lt_of_cell zHS0)).trans zHS0; have y1 := (hSw.cell (lt_of_cell zHS1)).trans zHS1; have y2 := (hSw.cell (lt_of_cell zHS2)).trans zHS2; have y3 := (hSw.cell (lt_of_cell zHS3)).trans zHS3; have u0 := (hSw.cell (lt_of_cell zHD80)).trans zHD80; have u1 := (hSw.cell (lt_of_cell zHD81)).trans zHD81; have u2 := (hSw.cell (lt_of_cell zHD82)).trans zHD82; have u3 := (hSw.cell (lt_of_cell zHD83)).trans zHD83; go_simp⟩) hS0 ?_
  try simp only [Act.put, List.setIfInBounds_toArray, List.set_cons_zero, List.set_cons_succ]
  refine wpAnyH_take (i := 3) (oi := { dst := some 53, op := Go.Op.move (Go.Operand.tmp 11), type := 30, pos := "outright.go:147", after := #[{ on := 2, ground := Go.Ground.guard }], guard := some (2, true) }) (v := .int .i64 0) rfl (by kernel_rfl) (by kernel_rfl) (by kernel_rfl) (fun _ _ _ h => h) (Or.inl ⟨by rfl, by intro w2 hSw; (try dsimp only at hSw); have y0 := (hSw.cell (lt_of_cell zHS0)).trans zHS0; have y1 := (hSw.cell (lt_of_cell zHS1)).trans zHS1; have y2 := (hSw.cell (lt_of_cell zHS2)).trans zHS2; have y3 := (hSw.cell (lt_of_cell zHS3)).trans zHS3; have u0 := (hSw.cell (lt_of_cell zHD80)).trans zHD80; have u1 := (hSw.cell (lt_of_cell zHD81)).trans zHD81; have u2 := (hSw.cell (lt_of_cell zHD82)).trans zHD82; have u3 := (hSw.cell (lt_of_cell zHD83)).trans zHD83; go_simp⟩) hS0 ?_
  try simp only [Act.put, List.setIfInBounds_toArray, List.set_cons_zero, List.set_cons_succ]
  refine wpAnyH_take (i := 4) (oi := { dst := some 54, op := Go.Op.binOp Go.BinOp.eql 30 (Go.Operand.tmp 53) (Go.Operand.const (Go.Value.int Go.IntKind.i64 0)) 30, type := 4, pos := "outright.go:147", after := #[{ on := 3, ground := Go.Ground.data }, { on := 2, ground := Go.Ground.guard }], guard := some (2, true) }) (v := .bool true) rfl (by kernel_rfl) (by kernel_rfl) (by kernel_rfl) (fun _ _ _ h => h) (Or.inl ⟨by rfl, by intro w2 hSw; (try dsimp only at hSw); have y0 := (hSw.cell (lt_of_cell zHS0)).trans zHS0; have y1 := (hSw.cell (lt_of_cell zHS1)).trans zHS1; have y2 := (hSw.cell (lt_of_cell zHS2)).trans zHS2; have y3 := (hSw.cell (lt_of_cell zHS3)).trans zHS3; have u0 := (hSw.cell (lt_of_cell zHD80)).trans zHD80; have u1 := (hSw.cell (lt_of_cell zHD81)).trans zHD81; have u2 := (hSw.cell (lt_of_cell zHD82)).trans zHD82; have u3 := (hSw.cell (lt_of_cell zHD83)).trans zHD83; go_simp⟩) hS0 ?_
  try simp only [Act.put, List.setIfInBounds_toArray, List.set_cons_zero, List.set_cons_succ]
  refine wpAnyH_take (i := 5) (oi := { dst := some 55, op := Go.Op.pick (Go.Operand.tmp 52) (Go.Operand.tmp 54) (Go.Operand.const (Go.Value.bool false)), type := 4, pos := "outright.go:147", after := #[{ on := 2, ground := Go.Ground.data }, { on := 4, ground := Go.Ground.data }], guard := none }) (v := .bool true) rfl (by kernel_rfl) (by kernel_rfl) (by kernel_rfl) (fun _ _ _ h => h) (Or.inl ⟨by rfl, by intro w2 hSw; (try dsimp only at hSw); have y0 := (hSw.cell (lt_of_cell zHS0)).trans zHS0; have y1 := (hSw.cell (lt_of_cell zHS1)).trans zHS1; have y2 := (hSw.cell (lt_of_cell zHS2)).trans zHS2; have y3 := (hSw.cell (lt_of_cell zHS3)).trans zHS3; have u0 := (hSw.cell (lt_of_cell zHD80)).trans zHD80; have u1 := (hSw.cell (lt_of_cell zHD81)).trans zHD81; have u2 := (hSw.cell (lt_of_cell zHD82)).trans zHD82; have u3 := (hSw.cell (lt_of_cell zHD83)).trans zHD83; go_simp⟩) hS0 ?_
  try simp only [Act.put, List.setIfInBounds_toArray, List.set_cons_zero, List.set_cons_succ]
  refine wpAnyH_take (i := 6) (oi := { dst := some 56, op := Go.Op.move (Go.Operand.tmp 55), type := 4, pos := "outright.go:147", after := #[{ on := 5, ground := Go.Ground.data }, { on := 2, ground := Go.Ground.chain }], guard := none }) (v := .bool true) rfl (by kernel_rfl) (by kernel_rfl) (by kernel_rfl) (fun _ _ _ h => h) (Or.inl ⟨by rfl, by intro w2 hSw; (try dsimp only at hSw); have y0 := (hSw.cell (lt_of_cell zHS0)).trans zHS0; have y1 := (hSw.cell (lt_of_cell zHS1)).trans zHS1; have y2 := (hSw.cell (lt_of_cell zHS2)).trans zHS2; have y3 := (hSw.cell (lt_of_cell zHS3)).trans zHS3; have u0 := (hSw.cell (lt_of_cell zHD80)).trans zHD80; have u1 := (hSw.cell (lt_of_cell zHD81)).trans zHD81; have u2 := (hSw.cell (lt_of_cell zHD82)).trans zHD82; have u3 := (hSw.cell (lt_of_cell zHD83)).trans zHD83; go_simp⟩) hS0 ?_
  try simp only [Act.put, List.setIfInBounds_toArray, List.set_cons_zero, List.set_cons_succ]
  refine wpAnyH_take (i := 7) (oi := { dst := some 57, op := Go.Op.move (Go.Operand.tmp 10), type := 23, pos := "outright.go:147", after := #[{ on := 6, ground := Go.Ground.guard }], guard := some (6, true) }) (v := .slice (some ⟨QM, 0, none⟩) sM sM) rfl (by kernel_rfl) (by kernel_rfl) (by kernel_rfl) (fun _ _ _ h => h) (Or.inl ⟨by rfl, by intro w2 hSw; (try dsimp only at hSw); have y0 := (hSw.cell (lt_of_cell zHS0)).trans zHS0; have y1 := (hSw.cell (lt_of_cell zHS1)).trans zHS1; have y2 := (hSw.cell (lt_of_cell zHS2)).trans zHS2; have y3 := (hSw.cell (lt_of_cell zHS3)).trans zHS3; have u0 := (hSw.cell (lt_of_cell zHD80)).trans zHD80; have u1 := (hSw.cell (lt_of_cell zHD81)).trans zHD81; have u2 := (hSw.cell (lt_of_cell zHD82)).trans zHD82; have u3 := (hSw.cell (lt_of_cell zHD83)).trans zHD83; go_simp⟩) hS0 ?_
  try simp only [Act.put, List.setIfInBounds_toArray, List.set_cons_zero, List.set_cons_succ]
  refine wpAnyH_take (i := 8) (oi := { dst := some 58, op := Go.Op.call { callee := Go.Callee.builtin Go.Builtin.len, args := #[Go.Operand.tmp 57], argTypes := #[23] }, type := 3, pos := "outright.go:147", after := #[{ on := 7, ground := Go.Ground.data }, { on := 6, ground := Go.Ground.guard }], guard := some (6, true) }) (v := .int .i64 (sM : Int)) rfl (by kernel_rfl) (by kernel_rfl) (by kernel_rfl) (fun _ _ _ h => h) (Or.inl ⟨by rfl, by intro w2 hSw; (try dsimp only at hSw); have y0 := (hSw.cell (lt_of_cell zHS0)).trans zHS0; have y1 := (hSw.cell (lt_of_cell zHS1)).trans zHS1; have y2 := (hSw.cell (lt_of_cell zHS2)).trans zHS2; have y3 := (hSw.cell (lt_of_cell zHS3)).trans zHS3; have u0 := (hSw.cell (lt_of_cell zHD80)).trans zHD80; have u1 := (hSw.cell (lt_of_cell zHD81)).trans zHD81; have u2 := (hSw.cell (lt_of_cell zHD82)).trans zHD82; have u3 := (hSw.cell (lt_of_cell zHD83)).trans zHD83; go_simp⟩) hS0 ?_
  try simp only [Act.put, List.setIfInBounds_toArray, List.set_cons_zero, List.set_cons_succ]
  refine wpAnyH_take (i := 9) (oi := { dst := some 59, op := Go.Op.move (Go.Operand.tmp 8), type := 23, pos := "outright.go:147", after := #[{ on := 6, ground := Go.Ground.guard }], guard := some (6, true) }) (v := .slice (some ⟨QG, 0, none⟩) sN sN) rfl (by kernel_rfl) (by kernel_rfl) (by kernel_rfl) (fun _ _ _ h => h) (Or.inl ⟨by rfl, by intro w2 hSw; (try dsimp only at hSw); have y0 := (hSw.cell (lt_of_cell zHS0)).trans zHS0; have y1 := (hSw.cell (lt_of_cell zHS1)).trans zHS1; have y2 := (hSw.cell (lt_of_cell zHS2)).trans zHS2; have y3 := (hSw.cell (lt_of_cell zHS3)).trans zHS3; have u0 := (hSw.cell (lt_of_cell zHD80)).trans zHD80; have u1 := (hSw.cell (lt_of_cell zHD81)).trans zHD81; have u2 := (hSw.cell (lt_of_cell zHD82)).trans zHD82; have u3 := (hSw.cell (lt_of_cell zHD83)).trans zHD83; go_simp⟩) hS0 ?_
  try simp only [Act.put, List.setIfInBounds_toArray, List.set_cons_zero, List.set_cons_succ]
  refine wpAnyH_take (i := 10) (oi := { dst := some 60, op := Go.Op.call { callee := Go.Callee.builtin Go.Builtin.len, args := #[Go.Operand.tmp 59], argTypes := #[23] }, type := 3, pos := "outright.go:147", after := #[{ on := 9, ground := Go.Ground.data }, { on := 6, ground := Go.Ground.guard }], guard := some (6, true) }) (v := .int .i64 (sN : Int)) rfl (by kernel_rfl) (by kernel_rfl) (by kernel_rfl) (fun _ _ _ h => h) (Or.inl ⟨by rfl, by intro w2 hSw; (try dsimp only at hSw); have y0 := (hSw.cell (lt_of_cell zHS0)).trans zHS0; have y1 := (hSw.cell (lt_of_cell zHS1)).trans zHS1; have y2 := (hSw.cell (lt_of_cell zHS2)).trans zHS2; have y3 := (hSw.cell (lt_of_cell zHS3)).trans zHS3; have u0 := (hSw.cell (lt_of_cell zHD80)).trans zHD80; have u1 := (hSw.cell (lt_of_cell zHD81)).trans zHD81; have u2 := (hSw.cell (lt_of_cell zHD82)).trans zHD82; have u3 := (hSw.cell (lt_of_cell zHD83)).trans zHD83; go_simp⟩) hS0 ?_
  try simp only [Act.put, List.setIfInBounds_toArray, List.set_cons_zero, List.set_cons_succ]
  refine wpAnyH_take (i := 11) (oi := { dst := some 61, op := Go.Op.binOp Go.BinOp.geq 3 (Go.Operand.tmp 58) (Go.Operand.tmp 60) 3, type := 4, pos := "outright.go:147", after := #[{ on := 8, ground := Go.Ground.data }, { on := 10, ground := Go.Ground.data }, { on := 6, ground := Go.Ground.guard }], guard := some (6, true) }) (v := .bool true) rfl (by kernel_rfl) (by kernel_rfl) (by kernel_rfl) (fun _ _ _ h => h) (Or.inl ⟨by rfl, by intro w2 hSw; (try dsimp only at hSw); have y0 := (hSw.cell (lt_of_cell zHS0)).trans zHS0; have y1 := (hSw.cell (lt_of_cell zHS1)).trans zHS1; have y2 := (hSw.cell (lt_of_cell zHS2)).trans zHS2; have y3 := (hSw.cell (lt_of_cell zHS3)).trans zHS3; have u0 := (hSw.cell (lt_of_cell zHD80)).trans zHD80; have u1 := (hSw.cell (lt_of_cell zHD81)).trans zHD81; have u2 := (hSw.cell (lt_of_cell zHD82)).trans zHD82; have u3 := (hSw.cell (lt_of_cell zHD83)).trans zHD83; go_simp⟩) hS0 ?_
  try simp only [Act.put, List.setIfInBounds_toArray, List.set_cons_zero, List.set_cons_succ]
  refine wpAnyH_take (i := 12) (oi := { dst := some 62, op := Go.Op.pick (Go.Operand.tmp 56) (Go.Operand.tmp 61) (Go.Operand.const (Go.Value.bool false)), type := 4, pos := "outright.go:147", after := #[{ on := 6, ground := Go.Ground.data }, { on := 11, ground := Go.Ground.data }], guard := none }) (v := .bool true) rfl (by kernel_rfl) (by kernel_rfl) (by kernel_rfl) (fun _ _ _ h => h) (Or.inl ⟨by rfl, by intro w2 hSw; (try dsimp only at hSw); have y0 := (hSw.cell (lt_of_cell zHS0)).trans zHS0; have y1 := (hSw.cell (lt_of_cell zHS1)).trans zHS1; have y2 := (hSw.cell (lt_of_cell zHS2)).trans zHS2; have y3 := (hSw.cell (lt_of_cell zHS3)).trans zHS3; have u0 := (hSw.cell (lt_of_cell zHD80)).trans zHD80; have u1 := (hSw.cell (lt_of_cell zHD81)).trans zHD81; have u2 := (hSw.cell (lt_of_cell zHD82)).trans zHD82; have u3 := (hSw.cell (lt_of_cell zHD83)).trans zHD83; go_simp⟩) hS0 ?_
  try simp only [Act.put, List.setIfInBounds_toArray, List.set_cons_zero, List.set_cons_succ]
  refine wpAnyH_take (i := 13) (oi := { dst := some 63, op := Go.Op.move (Go.Operand.tmp 62), type := 4, pos := "outright.go:147", after := #[{ on := 12, ground := Go.Ground.data }, { on := 6, ground := Go.Ground.chain }], guard := none }) (v := .bool true) rfl (by kernel_rfl) (by kernel_rfl) (by kernel_rfl) (fun _ _ _ h => h) (Or.inl ⟨by rfl, by intro w2 hSw; (try dsimp only at hSw); have y0 := (hSw.cell (lt_of_cell zHS0)).trans zHS0; have y1 := (hSw.cell (lt_of_cell zHS1)).trans zHS1; have y2 := (hSw.cell (lt_of_cell zHS2)).trans zHS2; have y3 := (hSw.cell (lt_of_cell zHS3)).trans zHS3; have u0 := (hSw.cell (lt_of_cell zHD80)).trans zHD80; have u1 := (hSw.cell (lt_of_cell zHD81)).trans zHD81; have u2 := (hSw.cell (lt_of_cell zHD82)).trans zHD82; have u3 := (hSw.cell (lt_of_cell zHD83)).trans zHD83; go_simp⟩) hS0 ?_
  try simp only [Act.put, List.setIfInBounds_toArray, List.set_cons_zero, List.set_cons_succ]
  refine wpAnyH_take (i := 14) (oi := { dst := some 64, op := Go.Op.move (Go.Operand.tmp 10), type := 23, pos := "outright.go:147", after := #[{ on := 13, ground := Go.Ground.guard }], guard := some (13, true) }) (v := .slice (some ⟨QM, 0, none⟩) sM sM) rfl (by kernel_rfl) (by kernel_rfl) (by kernel_rfl) (fun _ _ _ h => h) (Or.inl ⟨by rfl, by intro w2 hSw; (try dsimp only at hSw); have y0 := (hSw.cell (lt_of_cell zHS0)).trans zHS0; have y1 := (hSw.cell (lt_of_cell zHS1)).trans zHS1; have y2 := (hSw.cell (lt_of_cell zHS2)).trans zHS2; have y3 := (hSw.cell (lt_of_cell zHS3)).trans zHS3; have u0 := (hSw.cell (lt_of_cell zHD80)).trans zHD80; have u1 := (hSw.cell (lt_of_cell zHD81)).trans zHD81; have u2 := (hSw.cell (lt_of_cell zHD82)).trans zHD82; have u3 := (hSw.cell (lt_of_cell zHD83)).trans zHD83; go_simp⟩) hS0 ?_
  try simp only [Act.put, List.setIfInBounds_toArray, List.set_cons_zero, List.set_cons_succ]
  refine wpAnyH_take (i := 15) (oi := { dst := some 65, op := Go.Op.call { callee := Go.Callee.builtin Go.Builtin.len, args := #[Go.Operand.tmp 64], argTypes := #[23] }, type := 3, pos := "outright.go:147", after := #[{ on := 14, ground := Go.Ground.data }, { on := 13, ground := Go.Ground.guard }], guard := some (13, true) }) (v := .int .i64 (sM : Int)) rfl (by kernel_rfl) (by kernel_rfl) (by kernel_rfl) (fun _ _ _ h => h) (Or.inl ⟨by rfl, by intro w2 hSw; (try dsimp only at hSw); have y0 := (hSw.cell (lt_of_cell zHS0)).trans zHS0; have y1 := (hSw.cell (lt_of_cell zHS1)).trans zHS1; have y2 := (hSw.cell (lt_of_cell zHS2)).trans zHS2; have y3 := (hSw.cell (lt_of_cell zHS3)).trans zHS3; have u0 := (hSw.cell (lt_of_cell zHD80)).trans zHD80; have u1 := (hSw.cell (lt_of_cell zHD81)).trans zHD81; have u2 := (hSw.cell (lt_of_cell zHD82)).trans zHD82; have u3 := (hSw.cell (lt_of_cell zHD83)).trans zHD83; go_simp⟩) hS0 ?_
  try simp only [Act.put, List.setIfInBounds_toArray, List.set_cons_zero, List.set_cons_succ]
  refine wpAnyH_take (i := 16) (oi := { dst := some 66, op := Go.Op.move (Go.Operand.tmp 8), type := 23, pos := "outright.go:147", after := #[{ on := 13, ground := Go.Ground.guard }], guard := some (13, true) }) (v := .slice (some ⟨QG, 0, none⟩) sN sN) rfl (by kernel_rfl) (by kernel_rfl) (by kernel_rfl) (fun _ _ _ h => h) (Or.inl ⟨by rfl, by intro w2 hSw; (try dsimp only at hSw); have y0 := (hSw.cell (lt_of_cell zHS0)).trans zHS0; have y1 := (hSw.cell (lt_of_cell zHS1)).trans zHS1; have y2 := (hSw.cell (lt_of_cell zHS2)).trans zHS2; have y3 := (hSw.cell (lt_of_cell zHS3)).trans zHS3; have u0 := (hSw.cell (lt_of_cell zHD80)).trans zHD80; have u1 := (hSw.cell (lt_of_cell zHD81)).trans zHD81; have u2 := (hSw.cell (lt_of_cell zHD82)).trans zHD82; have u3 := (hSw.cell (lt_of_cell zHD83)).trans zHD83; go_simp⟩) hS0 ?_
  try simp only [Act.put, List.setIfInBounds_toArray, List.set_cons_zero, List.set_cons_succ]
  refine wpAnyH_take (i := 17) (oi := { dst := some 67, op := Go.Op.call { callee := Go.Callee.builtin Go.Builtin.len, args := #[Go.Operand.tmp 66], argTypes := #[23] }, type := 3, pos := "outright.go:147", after := #[{ on := 16, ground := Go.Ground.data }, { on := 13, ground := Go.Ground.guard }], guard := some (13, true) }) (v := .int .i64 (sN : Int)) rfl (by kernel_rfl) (by kernel_rfl) (by kernel_rfl) (fun _ _ _ h => h) (Or.inl ⟨by rfl, by intro w2 hSw; (try dsimp only at hSw); have y0 := (hSw.cell (lt_of_cell zHS0)).trans zHS0; have y1 := (hSw.cell (lt_of_cell zHS1)).trans zHS1; have y2 := (hSw.cell (lt_of_cell zHS2)).trans zHS2; have y3 := (hSw.cell (lt_of_cell zHS3)).trans zHS3; have u0 := (hSw.cell (lt_of_cell zHD80)).trans zHD80; have u1 := (hSw.cell (lt_of_cell zHD81)).trans zHD81; have u2 := (hSw.cell (lt_of_cell zHD82)).trans zHD82; have u3 := (hSw.cell (lt_of_cell zHD83)).trans zHD83; go_simp⟩) hS0 ?_
  try simp only [Act.put, List.setIfInBounds_toArray, List.set_cons_zero, List.set_cons_succ]
  refine wpAnyH_take (i := 18) (oi := { dst := some 68, op := Go.Op.binOp Go.BinOp.add 3 (Go.Operand.tmp 67) (Go.Operand.const (Go.Value.int Go.IntKind.i64 1)) 3, type := 3, pos := "outright.go:147", after := #[{ on := 17, ground := Go.Ground.data }, { on := 13, ground := Go.Ground.guard }], guard := some (13, true) }) (v := .int .i64 ((sN : Int) + 1)) rfl (by kernel_rfl) (by kernel_rfl) (by kernel_rfl) (fun _ _ _ h => h) (Or.inl ⟨by rfl, by intro w2 hSw; (try dsimp only at hSw); have y0 := (hSw.cell (lt_of_cell zHS0)).trans zHS0; have y1 := (hSw.cell (lt_of_cell zHS1)).trans zHS1; have y2 := (hSw.cell (lt_of_cell zHS2)).trans zHS2; have y3 := (hSw.cell (lt_of_cell zHS3)).trans zHS3; have u0 := (hSw.cell (lt_of_cell zHD80)).trans zHD80; have u1 := (hSw.cell (lt_of_cell zHD81)).trans zHD81; have u2 := (hSw.cell (lt_of_cell zHD82)).trans zHD82; have u3 := (hSw.cell (lt_of_cell zHD83)).trans zHD83; go_simp; exact IntWalk.i64_in _ (by omega)⟩) hS0 ?_
  try simp only [Act.put, List.setIfInBounds_toArray, List.set_cons_zero, List.set_cons_succ]
  refine wpAnyH_take (i := 19) (oi := { dst := some 69, op := Go.Op.binOp Go.BinOp.leq 3 (Go.Operand.tmp 65) (Go.Operand.tmp 68) 3, type := 4, pos := "outright.go:147", after := #[{ on := 15, ground := Go.Ground.data }, { on := 18, ground := Go.Ground.data }, { on := 13, ground := Go.Ground.guard }], guard := some (13, true) }) (v := .bool true) rfl (by kernel_rfl) (by kernel_rfl) (by kernel_rfl) (fun _ _ _ h => h) (Or.inl ⟨by rfl, by intro w2 hSw; (try dsimp only at hSw); have y0 := (hSw.cell (lt_of_cell zHS0)).trans zHS0; have y1 := (hSw.cell (lt_of_cell zHS1)).trans zHS1; have y2 := (hSw.cell (lt_of_cell zHS2)).trans zHS2; have y3 := (hSw.cell (lt_of_cell zHS3)).trans zHS3; have u0 := (hSw.cell (lt_of_cell zHD80)).trans zHD80; have u1 := (hSw.cell (lt_of_cell zHD81)).trans zHD81; have u2 := (hSw.cell (lt_of_cell zHD82)).trans zHD82; have u3 := (hSw.cell (lt_of_cell zHD83)).trans zHD83; go_simp⟩) hS0 ?_
  try simp only [Act.put, List.setIfInBounds_toArray, List.set_cons_zero, List.set_cons_succ]
  refine wpAnyH_take (i := 20) (oi := { dst := some 70, op := Go.Op.pick (Go.Operand.tmp 63) (Go.Operand.tmp 69) (Go.Operand.const (Go.Value.bool false)), type := 4, pos := "outright.go:147", after := #[{ on := 13, ground := Go.Ground.data }, { on := 19, ground := Go.Ground.data }], guard := none }) (v := .bool true) rfl (by kernel_rfl) (by kernel_rfl) (by kernel_rfl) (fun _ _ _ h => h) (Or.inl ⟨by rfl, by intro w2 hSw; (try dsimp only at hSw); have y0 := (hSw.cell (lt_of_cell zHS0)).trans zHS0; have y1 := (hSw.cell (lt_of_cell zHS1)).trans zHS1; have y2 := (hSw.cell (lt_of_cell zHS2)).trans zHS2; have y3 := (hSw.cell (lt_of_cell zHS3)).trans zHS3; have u0 := (hSw.cell (lt_of_cell zHD80)).trans zHD80; have u1 := (hSw.cell (lt_of_cell zHD81)).trans zHD81; have u2 := (hSw.cell (lt_of_cell zHD82)).trans zHD82; have u3 := (hSw.cell (lt_of_cell zHD83)).trans zHD83; go_simp⟩) hS0 ?_
  try simp only [Act.put, List.setIfInBounds_toArray, List.set_cons_zero, List.set_cons_succ]
  refine wpAnyH_take (i := 21) (oi := { dst := some 71, op := Go.Op.move (Go.Operand.tmp 70), type := 4, pos := "outright.go:147", after := #[{ on := 20, ground := Go.Ground.data }, { on := 13, ground := Go.Ground.chain }], guard := none }) (v := .bool true) rfl (by kernel_rfl) (by kernel_rfl) (by kernel_rfl) (fun _ _ _ h => h) (Or.inl ⟨by rfl, by intro w2 hSw; (try dsimp only at hSw); have y0 := (hSw.cell (lt_of_cell zHS0)).trans zHS0; have y1 := (hSw.cell (lt_of_cell zHS1)).trans zHS1; have y2 := (hSw.cell (lt_of_cell zHS2)).trans zHS2; have y3 := (hSw.cell (lt_of_cell zHS3)).trans zHS3; have u0 := (hSw.cell (lt_of_cell zHD80)).trans zHD80; have u1 := (hSw.cell (lt_of_cell zHD81)).trans zHD81; have u2 := (hSw.cell (lt_of_cell zHD82)).trans zHD82; have u3 := (hSw.cell (lt_of_cell zHD83)).trans zHD83; go_simp⟩) hS0 ?_
  try simp only [Act.put, List.setIfInBounds_toArray, List.set_cons_zero, List.set_cons_succ]
  refine wpAnyH_take (i := 22) (oi := { dst := some 72, op := Go.Op.load 25 (Go.Operand.tmp 7), type := 25, pos := "outright.go:147", after := #[{ on := 21, ground := Go.Ground.guard }], guard := some (21, true) }) (v := .agg #[.int .i64 sl, .int .i64 sr, .slice C8 (n + 1) c8, .slice A2 kn kc]) rfl (by kernel_rfl) (by kernel_rfl) (by kernel_rfl) (fun _ _ _ h => h) (Or.inl ⟨by rfl, by intro w2 hSw; (try dsimp only at hSw); have y0 := (hSw.cell (lt_of_cell zHS0)).trans zHS0; have y1 := (hSw.cell (lt_of_cell zHS1)).trans zHS1; have y2 := (hSw.cell (lt_of_cell zHS2)).trans zHS2; have y3 := (hSw.cell (lt_of_cell zHS3)).trans zHS3; have u0 := (hSw.cell (lt_of_cell zHD80)).trans zHD80; have u1 := (hSw.cell (lt_of_cell zHD81)).trans zHD81; have u2 := (hSw.cell (lt_of_cell zHD82)).trans zHD82; have u3 := (hSw.cell (lt_of_cell zHD83)).trans zHD83; go_simp⟩) hS0 ?_
  try simp only [Act.put, List.setIfInBounds_toArray, List.set_cons_zero, List.set_cons_succ]
  refine wpAnyH_take (i := 23) (oi := { dst := some 73, op := Go.Op.move (Go.Operand.tmp 8), type := 23, pos := "outright.go:147", after := #[{ on := 21, ground := Go.Ground.guard }], guard := some (21, true) }) (v := .slice (some ⟨QG, 0, none⟩) sN sN) rfl (by kernel_rfl) (by kernel_rfl) (by kernel_rfl) (fun _ _ _ h => h) (Or.inl ⟨by rfl, by intro w2 hSw; (try dsimp only at hSw); have y0 := (hSw.cell (lt_of_cell zHS0)).trans zHS0; have y1 := (hSw.cell (lt_of_cell zHS1)).trans zHS1; have y2 := (hSw.cell (lt_of_cell zHS2)).trans zHS2; have y3 := (hSw.cell (lt_of_cell zHS3)).trans zHS3; have u0 := (hSw.cell (lt_of_cell zHD80)).trans zHD80; have u1 := (hSw.cell (lt_of_cell zHD81)).trans zHD81; have u2 := (hSw.cell (lt_of_cell zHD82)).trans zHD82; have u3 := (hSw.cell (lt_of_cell zHD83)).trans zHD83; go_simp⟩) hS0 ?_
  try simp only [Act.put, List.setIfInBounds_toArray, List.set_cons_zero, List.set_cons_succ]
  refine wpAnyH_ready (rs := [24]) (by kernel_rfl) (by simp) ?_
  refine AllReadyH.cons (o := { dst := some 74, op := Go.Op.call { callee := Go.Callee.value (Go.Operand.func 20), args := #[Go.Operand.tmp 72, Go.Operand.tmp 73], argTypes := #[25, 23] }, type := 30, pos := "outright.go:147", after := #[{ on := 22, ground := Go.Ground.data }, { on := 23, ground := Go.Ground.data }, { on := 21, ground := Go.Ground.chain }, { on := 21, ground := Go.Ground.guard }], guard := some (21, true) }) rfl (fun K2 hK => ?_) AllReadyH.nil
  go_simp
  refine (checkJoining20 sl sr C8 (n + 1) c8 (zs ++ [(⟨x, y⟩ : Rg)]) A2 kn kc ks (some ⟨QG, 0, none⟩) sN sN gl _ (XM.out.below hS0 (Nat.le_refl _)) (XI.out.below hS0 (Nat.le_refl _)) (HG.out.below hS0 (Nat.le_refl _)) Hc8.out (by have := Hm.out; omega) (by have := Hk.out; omega) (by omega)).mono ?_
  rintro e9 V1 ⟨rfl, hb9⟩
  rw [Hcg.out]
  (try go_simp)
  refine hK.out _ _ (hS0.trans (hb9.mono hS0.size)) (fun hS1 => ?_)
  clear hK K2 hb9
  try simp only [Act.put, List.setIfInBounds_toArray, List.set_cons_zero, List.set_cons_succ]
  refine wpAnyH_take (i := 25) (oi := { dst := some 75, op := Go.Op.binOp Go.BinOp.eql 30 (Go.Operand.tmp 74) (Go.Operand.const (Go.Value.int Go.IntKind.i64 0)) 30, type := 4, pos := "outright.go:147", after := #[{ on := 24, ground := Go.Ground.data }, { on := 21, ground := Go.Ground.guard }], guard := some (21, true) }) (v := .bool true) rfl (by kernel_rfl) (by kernel_rfl) (by kernel_rfl) (fun _ _ _ h => h) (Or.inl ⟨by rfl, by intro w2 hSw; (try dsimp only at hSw); have y0 := (hSw.cell (lt_of_cell zHS0)).trans zHS0; have y1 := (hSw.cell (lt_of_cell zHS1)).trans zHS1; have y2 := (hSw.cell (lt_of_cell zHS2)).trans zHS2; have y3 := (hSw.cell (lt_of_cell zHS3)).trans zHS3; have u0 := (hSw.cell (lt_of_cell zHD80)).trans zHD80; have u1 := (hSw.cell (lt_of_cell zHD81)).trans zHD81; have u2 := (hSw.cell (lt_of_cell zHD82)).trans zHD82; have u3 := (hSw.cell (lt_of_cell zHD83)).trans zHD83; go_simp⟩) hS1 ?_
  try simp only [Act.put, List.setIfInBounds_toArray, List.set_cons_zero, List.set_cons_succ]
  refine wpAnyH_take (i := 26) (oi := { dst := some 76, op := Go.Op.pick (Go.Operand.tmp 71) (Go.Operand.tmp 75) (Go.Operand.const (Go.Value.bool false)), type := 4, pos := "outright.go:147", after := #[{ on := 21, ground := Go.Ground.data }, { on := 25, ground := Go.Ground.data }], guard := none }) (v := .bool true) rfl (by kernel_rfl) (by kernel_rfl) (by kernel_rfl) (fun _ _ _ h => h) (Or.inl ⟨by rfl, by intro w2 hSw; (try dsimp only at hSw); have y0 := (hSw.cell (lt_of_cell zHS0)).trans zHS0; have y1 := (hSw.cell (lt_of_cell zHS1)).trans zHS1; have y2 := (hSw.cell (lt_of_cell zHS2)).trans zHS2; have y3 := (hSw.cell (lt_of_cell zHS3)).trans zHS3; have u0 := (hSw.cell (lt_of_cell zHD80)).trans zHD80; have u1 := (hSw.cell (lt_of_cell zHD81)).trans zHD81; have u2 := (hSw.cell (lt_of_cell zHD82)).trans zHD82; have u3 := (hSw.cell (lt_of_cell zHD83)).trans zHD83; go_simp⟩) hS1 ?_
  try simp only [Act.put, List.setIfInBounds_toArray, List.set_cons_zero, List.set_cons_succ]
  refine wpAnyH_take (i := 27) (oi := { dst := some 77, op := Go.Op.move (Go.Operand.tmp 76), type := 4, pos := "outright.go:147", after := #[{ on := 26, ground := Go.Ground.data }, { on := 24, ground := Go.Ground.chain }], guard := none }) (v := .bool true) rfl (by kernel_rfl) (by kernel_rfl) (by kernel_rfl) (fun _ _ _ h => h) (Or.inl ⟨by rfl, by intro w2 hSw; (try dsimp only at hSw); have y0 := (hSw.cell (lt_of_cell zHS0)).trans zHS0; have y1 := (hSw.cell (lt_of_cell zHS1)).trans zHS1; have y2 := (hSw.cell (lt_of_cell zHS2)).trans zHS2; have y3 := (hSw.cell (lt_of_cell zHS3)).trans zHS3; have u0 := (hSw.cell (lt_of_cell zHD80)).trans zHD80; have u1 := (hSw.cell (lt_of_cell zHD81)).trans zHD81; have u2 := (hSw.cell (lt_of_cell zHD82)).trans zHD82; have u3 := (hSw.cell (lt_of_cell zHD83)).trans zHD83; go_simp⟩) hS1 ?_
  try simp only [Act.put, List.setIfInBounds_toArray, List.set_cons_zero, List.set_cons_succ]
  refine wpAnyH_take (i := 28) (oi := { dst := some 78, op := Go.Op.load 25 (Go.Operand.tmp 7), type := 25, pos := "outright.go:147", after := #[{ on := 27, ground := Go.Ground.guard }], guard := some (27, true) }) (v := .agg #[.int .i64 sl, .int .i64 sr, .slice C8 (n + 1) c8, .slice A2 kn kc]) rfl (by kernel_rfl) (by kernel_rfl) (by kernel_rfl) (fun _ _ _ h => h) (Or.inl ⟨by rfl, by intro w2 hSw; (try dsimp only at hSw); have y0 := (hSw.cell (lt_of_cell zHS0)).trans zHS0; have y1 := (hSw.cell (lt_of_cell zHS1)).trans zHS1; have y2 := (hSw.cell (lt_of_cell zHS2)).trans zHS2; have y3 := (hSw.cell (lt_of_cell zHS3)).trans zHS3; have u0 := (hSw.cell (lt_of_cell zHD80)).trans zHD80; have u1 := (hSw.cell (lt_of_cell zHD81)).trans zHD81; have u2 := (hSw.cell (lt_of_cell zHD82)).trans zHD82; have u3 := (hSw.cell (lt_of_cell zHD83)).trans zHD83; go_simp⟩) hS1 ?_
  try simp only [Act.put, List.setIfInBounds_toArray, List.set_cons_zero, List.set_cons_succ]
  refine wpAnyH_take (i := 29) (oi := { dst := some 79, op := Go.Op.load 25 (Go.Operand.tmp 3), type := 25, pos := "outright.go:147", after := #[{ on := 27, ground := Go.Ground.guard }], guard := some (27, true) }) (v := .agg #[.int .i64 sl, .int .i64 sr, .slice A n cap, .slice A2 kn kc]) rfl (by kernel_rfl) (by kernel_rfl) (by kernel_rfl) (fun _ _ _ h => h) (Or.inl ⟨by rfl, by intro w2 hSw; (try dsimp only at hSw); have y0 := (hSw.cell (lt_of_cell zHS0)).trans zHS0; have y1 := (hSw.cell (lt_of_cell zHS1)).trans zHS1; have y2 := (hSw.cell (lt_of_cell zHS2)).trans zHS2; have y3 := (hSw.cell (lt_of_cell zHS3)).trans zHS3; have u0 := (hSw.cell (lt_of_cell zHD80)).trans zHD80; have u1 := (hSw.cell (lt_of_cell zHD81)).trans zHD81; have u2 := (hSw.cell (lt_of_cell zHD82)).trans zHD82; have u3 := (hSw.cell (lt_of_cell zHD83)).trans zHD83; go_simp⟩) hS1 ?_
  try simp only [Act.put, List.setIfInBounds_toArray, List.set_cons_zero, List.set_cons_succ]
  refine wpAnyH_take (i := 30) (oi := { dst := some 80, op := Go.Op.move (Go.Operand.tmp 2), type := 46, pos := "outright.go:147", after := #[{ on := 27, ground := Go.Ground.guard }], guard := some (27, true) }) (v := .slice U nu cu) rfl (by kernel_rfl) (by kernel_rfl) (by kernel_rfl) (fun _ _ _ h => h) (Or.inl ⟨by rfl, by intro w2 hSw; (try dsimp only at hSw); have y0 := (hSw.cell (lt_of_cell zHS0)).trans zHS0; have y1 := (hSw.cell (lt_of_cell zHS1)).trans zHS1; have y2 := (hSw.cell (lt_of_cell zHS2)).trans zHS2; have y3 := (hSw.cell (lt_of_cell zHS3)).trans zHS3; have u0 := (hSw.cell (lt_of_cell zHD80)).trans zHD80; have u1 := (hSw.cell (lt_of_cell zHD81)).trans zHD81; have u2 := (hSw.cell (lt_of_cell zHD82)).trans zHD82; have u3 := (hSw.cell (lt_of_cell zHD83)).trans zHD83; go_simp⟩) hS1 ?_
  try simp only [Act.put, List.setIfInBounds_toArray, List.set_cons_zero, List.set_cons_succ]
  refine wpAnyH_ready (rs := [31]) (by kernel_rfl) (by simp) ?_
  refine AllReadyH.cons (o := { dst := some 81, op := Go.Op.call { callee := Go.Callee.value (Go.Operand.func 33), args := #[Go.Operand.tmp 79, Go.Operand.tmp 80], argTypes := #[25, 46] }, type := 23, pos := "outright.go:147", after := #[{ on := 29, ground := Go.Ground.data }, { on := 30, ground := Go.Ground.data }, { on := 27, ground := Go.Ground.chain }, { on := 27, ground := Go.Ground.guard }], guard := some (27, true) }) rfl (fun K2 hK => ?_) AllReadyH.nil
  go_simp
  refine (by33 sl sr A n cap zs A2 kn kc ks U nu cu us V1 (X.out.below hS1 (Nat.le_refl _)) (XI.out.below hS1 (Nat.le_refl _)) (XU.out.below hS1 (Nat.le_refl _)) Hc9.out Hn.out Hk.out Hu.out He.out).mono ?_
  rintro e9 V2 ⟨CJ, cj, p, rfl, hcj, hij, hjp, hb9⟩
  have hcj2 := chj_more (r := ⟨x, y⟩) He.out Hem.out Hzl.out hjp
  have hle := chj_len (chj_of He.out Hzl.out hjp) Hzl.out
  rw [HsN.out] at hle
  obtain ⟨jl, hjl⟩ : ∃ v, fI p n = v := ⟨_, rfl⟩
  rw [hjl] at hle hij hcj2 ⊢
  obtain ⟨jn, hjn⟩ : ∃ v, jl.length = v := ⟨_, rfl⟩
  rw [hjn] at hle hij ⊢
  have HJ := Lib.hid hij
  have Hcj2 := Lib.hid hcj2
  have Hle := Lib.hid hle
  clear hjp hij hcj2 hle hjl hjn hcj
  (try go_simp)
  refine hK.out _ _ (hS1.trans (hb9.mono hS1.size)) (fun hS2 => ?_)
  clear hK K2 hb9
  try simp only [Act.put, List.setIfInBounds_toArray, List.set_cons_zero, List.set_cons_succ]
  refine wpAnyH_ready (rs := [32]) (by kernel_rfl) (by simp) ?_
  refine AllReadyH.cons (o := { dst := some 82, op := Go.Op.call { callee := Go.Callee.value (Go.Operand.func 20), args := #[Go.Operand.tmp 78, Go.Operand.tmp 81], argTypes := #[25, 23] }, type := 30, pos := "outright.go:147", after := #[{ on := 28, ground := Go.Ground.data }, { on := 31, ground := Go.Ground.data }, { on := 31, ground := Go.Ground.chain }, { on := 27, ground := Go.Ground.guard }], guard := some (27, true) }) rfl (fun K2 hK => ?_) AllReadyH.nil
  go_simp
  refine (checkJoining20 sl sr C8 (n + 1) c8 (zs ++ [(⟨x, y⟩ : Rg)]) A2 kn kc ks CJ jn cj jl V2 (XM.out.below hS2 (Nat.le_refl _)) (XI.out.below hS2 (Nat.le_refl _)) HJ.out Hc8.out (by have := Hm.out; omega) (by have := Hk.out; omega) (by have := Hle.out; omega)).mono ?_
  rintro e9 V3 ⟨rfl, hb9⟩
  rw [Hcj2.out]
  (try go_simp)
  refine hK.out _ _ (hS2.trans (hb9.mono hS2.size)) (fun hS3 => ?_)
  clear hK K2 hb9
  try simp only [Act.put, List.setIfInBounds_toArray, List.set_cons_zero, List.set_cons_succ]
  refine wpAnyH_take (i := 33) (oi := { dst := some 83, op := Go.Op.binOp Go.BinOp.eql 30 (Go.Operand.tmp 82) (Go.Operand.const (Go.Value.int Go.IntKind.i64 0)) 30, type := 4, pos := "outright.go:147", after := #[{ on := 32, ground := Go.Ground.data }, { on := 27, ground := Go.Ground.guard }], guard := some (27, true) }) (v := .bool true) rfl (by kernel_rfl) (by kernel_rfl) (by kernel_rfl) (fun _ _ _ h => h) (Or.inl ⟨by rfl, by intro w2 hSw; (try dsimp only at hSw); have y0 := (hSw.cell (lt_of_cell zHS0)).trans zHS0; have y1 := (hSw.cell (lt_of_cell zHS1)).trans zHS1; have y2 := (hSw.cell (lt_of_cell zHS2)).trans zHS2; have y3 := (hSw.cell (lt_of_cell zHS3)).trans zHS3; have u0 := (hSw.cell (lt_of_cell zHD80)).trans zHD80; have u1 := (hSw.cell (lt_of_cell zHD81)).trans zHD81; have u2 := (hSw.cell (lt_of_cell zHD82)).trans zHD82; have u3 := (hSw.cell (lt_of_cell zHD83)).trans zHD83; go_simp⟩) hS3 ?_
  try simp only [Act.put, List.setIfInBounds_toArray, List.set_cons_zero, List.set_cons_succ]
  refine wpAnyH_take (i := 34) (oi := { dst := some 84, op := Go.Op.pick (Go.Operand.tmp 77) (Go.Operand.tmp 83) (Go.Operand.const (Go.Value.bool false)), type := 4, pos := "outright.go:147", after := #[{ on := 27, ground := Go.Ground.data }, { on := 33, ground := Go.Ground.data }], guard := none }) (v := .bool true) rfl (by kernel_rfl) (by kernel_rfl) (by kernel_rfl) (fun _ _ _ h => h) (Or.inl ⟨by rfl, by intro w2 hSw; (try dsimp only at hSw); have y0 := (hSw.cell (lt_of_cell zHS0)).trans zHS0; have y1 := (hSw.cell (lt_of_cell zHS1)).trans zHS1; have y2 := (hSw.cell (lt_of_cell zHS2)).trans zHS2; have y3 := (hSw.cell (lt_of_cell zHS3)).trans zHS3; have u0 := (hSw.cell (lt_of_cell zHD80)).trans zHD80; have u1 := (hSw.cell (lt_of_cell zHD81)).trans zHD81; have u2 := (hSw.cell (lt_of_cell zHD82)).trans zHD82; have u3 := (hSw.cell (lt_of_cell zHD83)).trans zHD83; go_simp⟩) hS3 ?_
  try simp only [Act.put, List.setIfInBounds_toArray, List.set_cons_zero, List.set_cons_succ]
  refine wpAnyH_take (i := 35) (oi := { dst := some 85, op := Go.Op.move (Go.Operand.tmp 84), type := 4, pos := "outright.go:147", after := #[{ on := 34, ground := Go.Ground.data }, { on := 32, ground := Go.Ground.chain }], guard := none }) (v := .bool true) rfl (by kernel_rfl) (by kernel_rfl) (by kernel_rfl) (fun _ _ _ h => h) (Or.inl ⟨by rfl, by intro w2 hSw; (try dsimp only at hSw); have y0 := (hSw.cell (lt_of_cell zHS0)).trans zHS0; have y1 := (hSw.cell (lt_of_cell zHS1)).trans zHS1; have y2 := (hSw.cell (lt_of_cell zHS2)).trans zHS2; have y3 := (hSw.cell (lt_of_cell zHS3)).trans zHS3; have u0 := (hSw.cell (lt_of_cell zHD80)).trans zHD80; have u1 := (hSw.cell (lt_of_cell zHD81)).trans zHD81; have u2 := (hSw.cell (lt_of_cell zHD82)).trans zHD82; have u3 := (hSw.cell (lt_of_cell zHD83)).trans zHD83; go_simp⟩) hS3 ?_
  try simp only [Act.put, List.setIfInBounds_toArray, List.set_cons_zero, List.set_cons_succ]
  refine wpAnyH_ready (rs := [36]) (by kernel_rfl) (by simp) ?_
  refine AllReadyH.cons (o := { dst := some 86, op := Go.Op.call { callee := Go.Callee.value (Go.Operand.func 15), args := #[], argTypes := #[] }, type := 4, pos := "outright.go:147", after := #[{ on := 35, ground := Go.Ground.chain }, { on := 35, ground := Go.Ground.guard }], guard := some (35, true) }) rfl (fun K2 hK => ?_) AllReadyH.nil
  go_simp
  refine (works15 V3).mono ?_
  rintro e9 V4 ⟨rfl, hb9⟩
  
  (try go_simp)
  refine hK.out _ _ (hS3.trans (hb9.mono hS3.size)) (fun hS4 => ?_)
  clear hK K2 hb9
  try simp only [Act.put, List.setIfInBounds_toArray, List.set_cons_zero, List.set_cons_succ]
  refine wpAnyH_take (i := 37) (oi := { dst := some 87, op := Go.Op.pick (Go.Operand.tmp 85) (Go.Operand.tmp 86) (Go.Operand.const (Go.Value.bool false)), type := 4, pos := "outright.go:147", after := #[{ on := 35, ground := Go.Ground.data }, { on := 36, ground := Go.Ground.data }], guard := none }) (v := .bool true) rfl (by kernel_rfl) (by kernel_rfl) (by kernel_rfl) (fun _ _ _ h => h) (Or.inl ⟨by rfl, by intro w2 hSw; (try dsimp only at hSw); have y0 := (hSw.cell (lt_of_cell zHS0)).trans zHS0; have y1 := (hSw.cell (lt_of_cell zHS1)).trans zHS1; have y2 := (hSw.cell (lt_of_cell zHS2)).trans zHS2; have y3 := (hSw.cell (lt_of_cell zHS3)).trans zHS3; have u0 := (hSw.cell (lt_of_cell zHD80)).trans zHD80; have u1 := (hSw.cell (lt_of_cell zHD81)).trans zHD81; have u2 := (hSw.cell (lt_of_cell zHD82)).trans zHD82; have u3 := (hSw.cell (lt_of_cell zHD83)).trans zHD83; go_simp⟩) hS4 ?_
  try simp only [Act.put, List.setIfInBounds_toArray, List.set_cons_zero, List.set_cons_succ]
  refine wpAnyH_take (i := 38) (oi := { dst := some 6, op := Go.Op.assign (Go.Operand.tmp 87), type := 4, pos := "outright.go:147", after := #[{ on := 37, ground := Go.Ground.data }, { on := 36, ground := Go.Ground.chain }, { on := 0, ground := Go.Ground.phase }, { on := 1, ground := Go.Ground.phase }, { on := 2, ground := Go.Ground.phase }, { on := 3, ground := Go.Ground.phase }, { on := 4, ground := Go.Ground.phase }, { on := 5, ground := Go.Ground.phase }, { on := 6, ground := Go.Ground.phase }, { on := 7, ground := Go.Ground.phase }, { on := 8, ground := Go.Ground.phase }, { on := 9, ground := Go.Ground.phase }, { on := 10, ground := Go.Ground.phase }, { on := 11, ground := Go.Ground.phase }, { on := 12, ground := Go.Ground.phase }, { on := 13, ground := Go.Ground.phase }, { on := 14, ground := Go.Ground.phase }, { on := 15, ground := Go.Ground.phase }, { on := 16, ground := Go.Ground.phase }, { on := 17, ground := Go.Ground.phase }, { on := 18, ground := Go.Ground.phase }, { on := 19, ground := Go.Ground.phase }, { on := 20, ground := Go.Ground.phase }, { on := 21, ground := Go.Ground.phase }, { on := 22, ground := Go.Ground.phase }, { on := 23, ground := Go.Ground.phase }, { on := 24, ground := Go.Ground.phase }, { on := 25, ground := Go.Ground.phase }, { on := 26, ground := Go.Ground.phase }, { on := 27, ground := Go.Ground.phase }, { on := 28, ground := Go.Ground.phase }, { on := 29, ground := Go.Ground.phase }, { on := 30, ground := Go.Ground.phase }, { on := 31, ground := Go.Ground.phase }, { on := 32, ground := Go.Ground.phase }, { on := 33, ground := Go.Ground.phase }, { on := 34, ground := Go.Ground.phase }, { on := 35, ground := Go.Ground.phase }, { on := 36, ground := Go.Ground.phase }, { on := 37, ground := Go.Ground.phase }], guard := none }) (v := .bool true) rfl (by kernel_rfl) (by kernel_rfl) (by kernel_rfl) (fun _ _ _ h => h) (Or.inl ⟨by rfl, by intro w2 hSw; (try dsimp only at hSw); have y0 := (hSw.cell (lt_of_cell zHS0)).trans zHS0; have y1 := (hSw.cell (lt_of_cell zHS1)).trans zHS1; have y2 := (hSw.cell (lt_of_cell zHS2)).trans zHS2; have y3 := (hSw.cell (lt_of_cell zHS3)).trans zHS3; have u0 := (hSw.cell (lt_of_cell zHD80)).trans zHD80; have u1 := (hSw.cell (lt_of_cell zHD81)).trans zHD81; have u2 := (hSw.cell (lt_of_cell zHD82)).trans zHD82; have u3 := (hSw.cell (lt_of_cell zHD83)).trans zHD83; go_simp⟩) hS4 ?_
  try simp only [Act.put, List.setIfInBounds_toArray, List.set_cons_zero, List.set_cons_succ]
  refine wpAnyH_done (by kernel_rfl) ?_ _
  go_wp2_with fail
  go_ret
  exact ⟨rfl, B.out.trans (hS4.mono B.out.size)⟩
end
end Go.Proofs.Ytnodkgejggnehaa
