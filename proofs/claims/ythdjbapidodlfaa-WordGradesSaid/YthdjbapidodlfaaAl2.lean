/- Stage 4: Alike, of the program and of the document. -/
import Derived.Test.YthdjbapidodlfaaOpn
namespace Go.Proofs.Ythdjbapidodlfaa
set_option linter.unusedSimpArgs false
set_option linter.unusedVariables false
open Go.RowKit Go.Shelf
attribute [local go_sem ↓] exec_app
attribute [local go_sem] Oper.semAt_some

/-- The words of a list are from 0 to 100. -/
def inL (zs : List Int) : Prop := ∀ x ∈ zs, ∃ u : Nat, x = (u : Int) ∧ u ≤ 100
/-- All words of a list have the name of the first one. -/
def sameB (nm : List Int) (zs : List Int) : Bool := zs.all (fun x => iAt nm x.toNat == iAt nm (iAt zs 0).toNat)
def sameP (nm : List Int) (zs : List Int) (k : Nat) : Bool := (zs.take k).all (fun x => iAt nm x.toNat == iAt nm (iAt zs 0).toNat)
theorem sameP_succ (nm zs : List Int) {k : Nat} (h : k < zs.length) : sameP nm zs (k + 1) = (sameP nm zs k && (iAt nm (iAt zs k).toNat == iAt nm (iAt zs 0).toNat)) := all_take _ zs k 0 h
theorem sameP_stop (nm zs : List Int) {k : Nat} (h : k < zs.length) (hn : (iAt nm (iAt zs k).toNat == iAt nm (iAt zs 0).toNat) = false) : sameB nm zs = false := all_stop _ zs k 0 h hn
set_option maxRecDepth 100000 in
set_option maxHeartbeats 8000000 in
theorem same72 (D : Nat) (A : Option Addr) (n cap : Nat) (nm : List Int) (M : Nat) (A2 : Option Addr) (m cap2 : Nat) (zs : List Int) (w : World) (h : Dic w D A n cap nm M) (hz : Ints w A2 m zs) (hin : inL zs) (hm : m ≤ 1000000) :
    Calls Try.prog 72 #[.slice A2 m cap2, .func (.func 71) #[.pointer (some ⟨D, 0, none⟩)] #[]] w fun e w' => e = .returned (.bool (sameB nm zs)) ∧ Below w.heap.size w w' := by
  have Hlen := Lib.hid hz.1
  have H0 := Lib.hid h
  go_enter Try.func72, Try.ntmps72
  go_wp2_with fail
  go_loopw [6, 9] (fun x i wr => ∃ k : Nat, k ≤ m ∧ i = .int .i64 (k : Int) ∧ Hid (sameP nm zs k = true) ∧ Below w.heap.size w wr) (fun x i _ => m - (intOf i).toNat)
  case atStart => exact ⟨0, Nat.zero_le _, rfl, Lib.hid rfl, Below.refl _ _⟩
  case round =>
    obtain ⟨k, hk, rfl, HP, hB⟩ := hrel
    obtain ⟨wk, rfl⟩ : ∃ wk, wk = wr := ⟨_, rfl⟩
    have HB := Lib.hid hB
    have HD := Lib.hid (H0.out.below hB (Nat.le_refl _))
    by_cases hlt : k < m
    · obtain ⟨bb, oo, rfl, hcc⟩ := (hz.below hB (Nat.le_refl _)).2 (by omega)
      have ck := hcc k hlt
      have c0 := hcc 0 (by omega)
      rw [Nat.add_zero] at c0
      have hkl : k < zs.length := by have := Hlen.out; omega
      obtain ⟨u, hu, hu1⟩ := hin (iAt zs k) (by rw [iAt_eq hkl]; exact List.getElem_mem _)
      obtain ⟨u0, hu0, hu01⟩ := hin (iAt zs 0) (by rw [iAt_eq (by omega)]; exact List.getElem_mem _)
      have Hs := Lib.hid (sameP_succ nm zs hkl)
      have Hf := Lib.hid (fun q => sameP_stop nm zs hkl q)
      rw [hu, hu0, Int.toNat_natCast, Int.toNat_natCast] at Hs Hf
      rw [HP.out, Bool.true_and] at Hs
      rw [hu] at ck
      rw [hu0] at c0
      have i0 : (0 : Int) ≤ (k : Int) := by omega
      have i1 : (k : Int) < (m : Int) := by omega
      have i2 : (k : Int) ≤ 1000000 := by omega
      have i3 : (0 : Int) < (m : Int) := by omega
      have i4 : ¬ m = 0 := by omega
      clear hcc hkl hu hu0 HP hB h hz
      by_cases hcc : iAt nm u = iAt nm u0
      · have HN := Lib.hid (show sameP nm zs (k + 1) = true by rw [Hs.out, hcc]; simp)
        go_wp2_with fail
        refine wp_region_held_drew (S := fun w2 => Below wk.heap.size wk w2) (by kernel_rfl) (drew_b _ _) (fun hS0 => ?_)
        refine wpAnyH_take (i := 0) (oi := { dst := some 13, op := Go.Op.move (Go.Operand.tmp 1), type := 109, pos := "number.go:27", after := #[], guard := none }) (v := .func (.func 71) #[.pointer (some ⟨D, 0, none⟩)] #[]) rfl (by kernel_rfl) (by kernel_rfl) (by kernel_rfl) (fun _ _ _ h => h) (Or.inl ⟨by rfl, by intro w2 hSw; (try dsimp only at hSw); have y0 := (hSw.cell (p := ⟨bb, oo, none⟩) (lt_of_cell c0)).trans c0; go_simp⟩) hS0 ?_
        try simp only [Act.put, List.setIfInBounds_toArray, List.set_cons_zero, List.set_cons_succ]
        refine wpAnyH_take (i := 1) (oi := { dst := some 14, op := Go.Op.move (Go.Operand.tmp 6), type := 3, pos := "number.go:27", after := #[], guard := none }) (v := .int .i64 (u : Int)) rfl (by kernel_rfl) (by kernel_rfl) (by kernel_rfl) (fun _ _ _ h => h) (Or.inl ⟨by rfl, by intro w2 hSw; (try dsimp only at hSw); have y0 := (hSw.cell (p := ⟨bb, oo, none⟩) (lt_of_cell c0)).trans c0; go_simp⟩) hS0 ?_
        try simp only [Act.put, List.setIfInBounds_toArray, List.set_cons_zero, List.set_cons_succ]
        refine wpAnyH_take (i := 3) (oi := { dst := some 16, op := Go.Op.move (Go.Operand.tmp 1), type := 109, pos := "number.go:27", after := #[], guard := none }) (v := .func (.func 71) #[.pointer (some ⟨D, 0, none⟩)] #[]) rfl (by kernel_rfl) (by kernel_rfl) (by kernel_rfl) (fun _ _ _ h => h) (Or.inl ⟨by rfl, by intro w2 hSw; (try dsimp only at hSw); have y0 := (hSw.cell (p := ⟨bb, oo, none⟩) (lt_of_cell c0)).trans c0; go_simp⟩) hS0 ?_
        try simp only [Act.put, List.setIfInBounds_toArray, List.set_cons_zero, List.set_cons_succ]
        refine wpAnyH_take (i := 4) (oi := { dst := some 17, op := Go.Op.move (Go.Operand.tmp 0), type := 38, pos := "number.go:27", after := #[], guard := none }) (v := .slice (some ⟨bb, oo, none⟩) m cap2) rfl (by kernel_rfl) (by kernel_rfl) (by kernel_rfl) (fun _ _ _ h => h) (Or.inl ⟨by rfl, by intro w2 hSw; (try dsimp only at hSw); have y0 := (hSw.cell (p := ⟨bb, oo, none⟩) (lt_of_cell c0)).trans c0; go_simp⟩) hS0 ?_
        try simp only [Act.put, List.setIfInBounds_toArray, List.set_cons_zero, List.set_cons_succ]
        refine wpAnyH_take (i := 5) (oi := { dst := some 18, op := Go.Op.indexAddr 38 (Go.Operand.tmp 17) (Go.Operand.const (Go.Value.int Go.IntKind.i64 0)), type := 0, pos := "number.go:27", after := #[{ on := 4, ground := Go.Ground.data }], guard := none }) (v := .pointer (some ⟨bb, oo, none⟩)) rfl (by kernel_rfl) (by kernel_rfl) (by kernel_rfl) (fun _ _ _ h => h) (Or.inl ⟨by rfl, by intro w2 hSw; (try dsimp only at hSw); have y0 := (hSw.cell (p := ⟨bb, oo, none⟩) (lt_of_cell c0)).trans c0; go_simp⟩) hS0 ?_
        try simp only [Act.put, List.setIfInBounds_toArray, List.set_cons_zero, List.set_cons_succ]
        refine wpAnyH_take (i := 6) (oi := { dst := some 19, op := Go.Op.load 3 (Go.Operand.tmp 18), type := 3, pos := "number.go:27", after := #[{ on := 5, ground := Go.Ground.data }], guard := none }) (v := .int .i64 (u0 : Int)) rfl (by kernel_rfl) (by kernel_rfl) (by kernel_rfl) (fun _ _ _ h => h) (Or.inl ⟨by rfl, by intro w2 hSw; (try dsimp only at hSw); have y0 := (hSw.cell (p := ⟨bb, oo, none⟩) (lt_of_cell c0)).trans c0; go_simp⟩) hS0 ?_
        try simp only [Act.put, List.setIfInBounds_toArray, List.set_cons_zero, List.set_cons_succ]
        refine wpAnyH_ready (rs := [2]) (by kernel_rfl) (by simp) ?_
        refine AllReadyH.cons (o := { dst := some 15, op := Go.Op.call { callee := Go.Callee.value (Go.Operand.tmp 13), args := #[Go.Operand.tmp 14], argTypes := #[3] }, type := 3, pos := "number.go:27", after := #[{ on := 0, ground := Go.Ground.data }, { on := 1, ground := Go.Ground.data }], guard := none }) rfl (fun K2 hK => ?_) AllReadyH.nil
        go_simp
        refine (class71 D A n cap nm M u _ (HD.out.below hS0 (Nat.le_refl _)) (by omega)).mono ?_
        rintro e9 V1 ⟨rfl, hV1⟩
        obtain rfl := hV1
        try go_simp
        refine hK.out _ _ hS0 (fun hS1 => ?_)
        clear hK K2
        try simp only [Act.put, List.setIfInBounds_toArray, List.set_cons_zero, List.set_cons_succ]
        refine wpAnyH_ready (rs := [7]) (by kernel_rfl) (by simp) ?_
        refine AllReadyH.cons (o := { dst := some 20, op := Go.Op.call { callee := Go.Callee.value (Go.Operand.tmp 16), args := #[Go.Operand.tmp 19], argTypes := #[3] }, type := 3, pos := "number.go:27", after := #[{ on := 3, ground := Go.Ground.data }, { on := 6, ground := Go.Ground.data }, { on := 2, ground := Go.Ground.chain }], guard := none }) rfl (fun K2 hK => ?_) AllReadyH.nil
        go_simp
        refine (class71 D A n cap nm M u0 _ (HD.out.below hS1 (Nat.le_refl _)) (by omega)).mono ?_
        rintro e9 V2 ⟨rfl, hV2⟩
        obtain rfl := hV2
        try go_simp
        refine hK.out _ _ hS1 (fun hS2 => ?_)
        clear hK K2
        try simp only [Act.put, List.setIfInBounds_toArray, List.set_cons_zero, List.set_cons_succ]
        refine wpAnyH_take (i := 8) (oi := { dst := some 21, op := Go.Op.binOp Go.BinOp.neq 3 (Go.Operand.tmp 15) (Go.Operand.tmp 20) 3, type := 4, pos := "number.go:27", after := #[{ on := 2, ground := Go.Ground.data }, { on := 7, ground := Go.Ground.data }], guard := none }) (v := .bool (iAt nm u != iAt nm u0)) rfl (by kernel_rfl) (by kernel_rfl) (by kernel_rfl) (fun _ _ _ h => h) (Or.inl ⟨by rfl, by intro w2 hSw; (try dsimp only at hSw); have y0 := (hSw.cell (p := ⟨bb, oo, none⟩) (lt_of_cell c0)).trans c0; go_simp⟩) hS2 ?_
        try simp only [Act.put, List.setIfInBounds_toArray, List.set_cons_zero, List.set_cons_succ]
        refine wpAnyH_done (by kernel_rfl) ?_ _
        rw [hcc]
        try go_simp
        go_wp2_with fail
        go_roundw
        case rel => exact ⟨k + 1, by omega, by go_num, HN, HB.out.trans (hS2.mono HB.out.size)⟩
        case measure => simp [intOf]; omega
      · have d9 : (iAt nm u == iAt nm u0) = false := by rw [beq_eq_false_iff_ne]; exact hcc
        have HF := Lib.hid (Hf.out d9)
        go_wp2_with fail
        refine wp_region_held_drew (S := fun w2 => Below wk.heap.size wk w2) (by kernel_rfl) (drew_b _ _) (fun hS0 => ?_)
        refine wpAnyH_take (i := 0) (oi := { dst := some 13, op := Go.Op.move (Go.Operand.tmp 1), type := 109, pos := "number.go:27", after := #[], guard := none }) (v := .func (.func 71) #[.pointer (some ⟨D, 0, none⟩)] #[]) rfl (by kernel_rfl) (by kernel_rfl) (by kernel_rfl) (fun _ _ _ h => h) (Or.inl ⟨by rfl, by intro w2 hSw; (try dsimp only at hSw); have y0 := (hSw.cell (p := ⟨bb, oo, none⟩) (lt_of_cell c0)).trans c0; go_simp⟩) hS0 ?_
        try simp only [Act.put, List.setIfInBounds_toArray, List.set_cons_zero, List.set_cons_succ]
        refine wpAnyH_take (i := 1) (oi := { dst := some 14, op := Go.Op.move (Go.Operand.tmp 6), type := 3, pos := "number.go:27", after := #[], guard := none }) (v := .int .i64 (u : Int)) rfl (by kernel_rfl) (by kernel_rfl) (by kernel_rfl) (fun _ _ _ h => h) (Or.inl ⟨by rfl, by intro w2 hSw; (try dsimp only at hSw); have y0 := (hSw.cell (p := ⟨bb, oo, none⟩) (lt_of_cell c0)).trans c0; go_simp⟩) hS0 ?_
        try simp only [Act.put, List.setIfInBounds_toArray, List.set_cons_zero, List.set_cons_succ]
        refine wpAnyH_take (i := 3) (oi := { dst := some 16, op := Go.Op.move (Go.Operand.tmp 1), type := 109, pos := "number.go:27", after := #[], guard := none }) (v := .func (.func 71) #[.pointer (some ⟨D, 0, none⟩)] #[]) rfl (by kernel_rfl) (by kernel_rfl) (by kernel_rfl) (fun _ _ _ h => h) (Or.inl ⟨by rfl, by intro w2 hSw; (try dsimp only at hSw); have y0 := (hSw.cell (p := ⟨bb, oo, none⟩) (lt_of_cell c0)).trans c0; go_simp⟩) hS0 ?_
        try simp only [Act.put, List.setIfInBounds_toArray, List.set_cons_zero, List.set_cons_succ]
        refine wpAnyH_take (i := 4) (oi := { dst := some 17, op := Go.Op.move (Go.Operand.tmp 0), type := 38, pos := "number.go:27", after := #[], guard := none }) (v := .slice (some ⟨bb, oo, none⟩) m cap2) rfl (by kernel_rfl) (by kernel_rfl) (by kernel_rfl) (fun _ _ _ h => h) (Or.inl ⟨by rfl, by intro w2 hSw; (try dsimp only at hSw); have y0 := (hSw.cell (p := ⟨bb, oo, none⟩) (lt_of_cell c0)).trans c0; go_simp⟩) hS0 ?_
        try simp only [Act.put, List.setIfInBounds_toArray, List.set_cons_zero, List.set_cons_succ]
        refine wpAnyH_take (i := 5) (oi := { dst := some 18, op := Go.Op.indexAddr 38 (Go.Operand.tmp 17) (Go.Operand.const (Go.Value.int Go.IntKind.i64 0)), type := 0, pos := "number.go:27", after := #[{ on := 4, ground := Go.Ground.data }], guard := none }) (v := .pointer (some ⟨bb, oo, none⟩)) rfl (by kernel_rfl) (by kernel_rfl) (by kernel_rfl) (fun _ _ _ h => h) (Or.inl ⟨by rfl, by intro w2 hSw; (try dsimp only at hSw); have y0 := (hSw.cell (p := ⟨bb, oo, none⟩) (lt_of_cell c0)).trans c0; go_simp⟩) hS0 ?_
        try simp only [Act.put, List.setIfInBounds_toArray, List.set_cons_zero, List.set_cons_succ]
        refine wpAnyH_take (i := 6) (oi := { dst := some 19, op := Go.Op.load 3 (Go.Operand.tmp 18), type := 3, pos := "number.go:27", after := #[{ on := 5, ground := Go.Ground.data }], guard := none }) (v := .int .i64 (u0 : Int)) rfl (by kernel_rfl) (by kernel_rfl) (by kernel_rfl) (fun _ _ _ h => h) (Or.inl ⟨by rfl, by intro w2 hSw; (try dsimp only at hSw); have y0 := (hSw.cell (p := ⟨bb, oo, none⟩) (lt_of_cell c0)).trans c0; go_simp⟩) hS0 ?_
        try simp only [Act.put, List.setIfInBounds_toArray, List.set_cons_zero, List.set_cons_succ]
        refine wpAnyH_ready (rs := [2]) (by kernel_rfl) (by simp) ?_
        refine AllReadyH.cons (o := { dst := some 15, op := Go.Op.call { callee := Go.Callee.value (Go.Operand.tmp 13), args := #[Go.Operand.tmp 14], argTypes := #[3] }, type := 3, pos := "number.go:27", after := #[{ on := 0, ground := Go.Ground.data }, { on := 1, ground := Go.Ground.data }], guard := none }) rfl (fun K2 hK => ?_) AllReadyH.nil
        go_simp
        refine (class71 D A n cap nm M u _ (HD.out.below hS0 (Nat.le_refl _)) (by omega)).mono ?_
        rintro e9 V1 ⟨rfl, hV1⟩
        obtain rfl := hV1
        try go_simp
        refine hK.out _ _ hS0 (fun hS1 => ?_)
        clear hK K2
        try simp only [Act.put, List.setIfInBounds_toArray, List.set_cons_zero, List.set_cons_succ]
        refine wpAnyH_ready (rs := [7]) (by kernel_rfl) (by simp) ?_
        refine AllReadyH.cons (o := { dst := some 20, op := Go.Op.call { callee := Go.Callee.value (Go.Operand.tmp 16), args := #[Go.Operand.tmp 19], argTypes := #[3] }, type := 3, pos := "number.go:27", after := #[{ on := 3, ground := Go.Ground.data }, { on := 6, ground := Go.Ground.data }, { on := 2, ground := Go.Ground.chain }], guard := none }) rfl (fun K2 hK => ?_) AllReadyH.nil
        go_simp
        refine (class71 D A n cap nm M u0 _ (HD.out.below hS1 (Nat.le_refl _)) (by omega)).mono ?_
        rintro e9 V2 ⟨rfl, hV2⟩
        obtain rfl := hV2
        try go_simp
        refine hK.out _ _ hS1 (fun hS2 => ?_)
        clear hK K2
        try simp only [Act.put, List.setIfInBounds_toArray, List.set_cons_zero, List.set_cons_succ]
        refine wpAnyH_take (i := 8) (oi := { dst := some 21, op := Go.Op.binOp Go.BinOp.neq 3 (Go.Operand.tmp 15) (Go.Operand.tmp 20) 3, type := 4, pos := "number.go:27", after := #[{ on := 2, ground := Go.Ground.data }, { on := 7, ground := Go.Ground.data }], guard := none }) (v := .bool true) rfl (by kernel_rfl) (by kernel_rfl) (by kernel_rfl) (fun _ _ _ h => h) (Or.inl ⟨by rfl, by intro w2 hSw; (try dsimp only at hSw); have y0 := (hSw.cell (p := ⟨bb, oo, none⟩) (lt_of_cell c0)).trans c0; go_simp⟩) hS2 ?_
        try simp only [Act.put, List.setIfInBounds_toArray, List.set_cons_zero, List.set_cons_succ]
        refine wpAnyH_done (by kernel_rfl) ?_ _
        go_wp2_with fail
        go_ret
        exact ⟨by rw [HF.out]; rfl, HB.out.trans (hS2.mono HB.out.size)⟩
    · have HT := Lib.hid (show sameB nm zs = true by
        have := HP.out
        unfold sameP at this
        rw [List.take_of_length_le (by have := Hlen.out; omega)] at this
        exact this)
      clear hB h hz HP
      go_wp2_with fail
      go_ret
      exact ⟨by rw [HT.out]; rfl, HB.out⟩
set_option maxRecDepth 100000 in
set_option maxHeartbeats 1000000 in
theorem alike49 (D : Nat) (A : Option Addr) (n cap : Nat) (nm : List Int) (M : Nat) (A2 : Option Addr) (m cap2 : Nat) (zs : List Int) (w : World) (h : Dic w D A n cap nm M) (hz : Ints w A2 m zs) (hin : inL zs) (hm : m ≤ 1000000) :
    Calls Try.prog 49 #[.pointer (some ⟨D, 0, none⟩), .slice A2 m cap2] w fun e w' => e = .returned (.bool (sameB nm zs)) ∧ Below w.heap.size w w' := by
  go_enter Try.func49, Try.ntmps49
  go_wp2_with fail
  refine (same72 D A n cap nm M A2 m cap2 zs w h hz hin hm).mono ?_
  rintro e w1 ⟨rfl, hb⟩
  go_wp2_with fail
  go_ret
  exact ⟨rfl, hb⟩
end Go.Proofs.Ythdjbapidodlfaa

namespace Go.Proofs.Ythdjbapidodlfaa
set_option linter.unusedSimpArgs false
set_option linter.unusedVariables false
open Go.RowKit Go.Shelf
attribute [local go_sem ↓] exec_app

/-- What Alike tells. -/
def alkR (zs : List Rg) (one two : Int) : Bool × Int :=
  if chkB zs ≠ 0 then (false, chkB zs) else if (inB 1 100 one && inB 1 100 two) = true then (decide (iAt (cls (prs zs)) one.toNat = iAt (cls (prs zs)) two.toNat), 0) else (false, 2)
theorem alkR_book {zs : List Rg} {one two : Int} (h : chkB zs ≠ 0) : alkR zs one two = (false, chkB zs) := by unfold alkR; rw [if_pos h]
theorem alkR_out {zs : List Rg} {one two : Int} (h : chkB zs = 0) (h2 : (inB 1 100 one && inB 1 100 two) = false) : alkR zs one two = (false, 2) := by unfold alkR; rw [if_neg (by simpa using h), if_neg (by simp [h2])]
theorem alkR_in {zs : List Rg} {one two : Int} (h : chkB zs = 0) (h2 : (inB 1 100 one && inB 1 100 two) = true) : alkR zs one two = (decide (iAt (cls (prs zs)) one.toNat = iAt (cls (prs zs)) two.toNat), 0) := by unfold alkR; rw [if_neg (by simpa using h), if_pos h2]
theorem sameB_two (nm : List Int) (a b : Int) : sameB nm [a, b] = decide (iAt nm a.toNat = iAt nm b.toNat) := by
  have e : iAt [a, b] 0 = a := rfl
  simp only [sameB, e, List.all_cons, List.all_nil, beq_self_eq_true, Bool.true_and, Bool.and_true]
  rw [Bool.eq_iff_iff, beq_iff_eq, decide_eq_true_iff]
  exact ⟨fun h => h.symm, fun h => h.symm⟩
set_option maxRecDepth 100000 in
set_option maxHeartbeats 8000000 in
theorem alike15 (A : Option Addr) (n cap : Nat) (zs : List Rg) (one two : Int) (w : World) (h : Rgs w A n zs) :
    Calls Try.prog 15 #[.agg #[.slice A n cap], .int .i64 one, .int .i64 two] w fun e w' => e = .returned (.tuple #[.bool (alkR zs one two).1, .int .i64 (alkR zs one two).2]) ∧ Below w.heap.size w w' := by
  have hb0 := below_alloc_ w (.cells #[.slice A n cap] 24)
  have hr0 := heap_alloc_new_ w (.cells #[.slice A n cap] 24)
  obtain ⟨W0, hW0⟩ : ∃ W0, w.alloc (.cells #[.slice A n cap] 24) = W0 := ⟨_, rfl⟩
  obtain ⟨R, hR⟩ : ∃ R, w.heap.size = R := ⟨_, rfl⟩
  rw [hW0] at hb0 hr0
  rw [hR] at hr0
  have S := Lib.hid (h.below hb0 (Nat.le_refl _))
  have B0 := Lib.hid hb0
  have R0 := Lib.hid hr0
  have HW0 := Lib.hid hW0
  have HR := Lib.hid hR
  have r0 : W0.cell? ⟨R, 0, none⟩ = some (.slice A n cap) := by rw [cell_row hr0]; rfl
  obtain ⟨c, hc⟩ : ∃ c, chkB zs = c := ⟨_, rfl⟩
  have Hc := Lib.hid hc
  clear h hb0 hr0 hW0 hR hc
  go_enter Try.func15, Try.ntmps15
  go_wp2_with fail
  rw [HW0.out]
  try rw [HR.out]
  try go_wp2_with fail
  have hcb := checkBook19 A n cap zs W0 S.out
  rw [Hc.out] at hcb
  refine hcb.mono ?_
  rintro en w1 ⟨rfl, hb⟩
  have B1 := Lib.hid hb
  replace S := Lib.hid (S.out.below hb (Nat.le_refl _))
  replace R0 := Lib.hid ((hb.block _ (lt_of_block R0.out)).trans R0.out)
  clear hb hcb r0
  by_cases h0 : c = 0
  rotate_left
  · have d0 : (c != 0) = true := by rw [bne_iff_ne]; exact h0
    have HC := Lib.hid (show alkR zs one two = (false, c) by rw [alkR_book (by rw [Hc.out]; exact h0), Hc.out])
    clear h0
    go_wp2_with fail
    refine bodyPost_ret (v := .tuple #[.bool false, .int .i64 c]) (by simp [results, Try.results15, go_sem]) rfl ?_
    exact ⟨by rw [HC.out], B0.out.trans (B1.out.mono B0.out.size)⟩
  subst h0
  go_wp2_with fail
  have hz := heap_alloc_new_ w1 (.cells #[.int .i64 one, .int .i64 two] 3)
  have hbz := below_alloc_ w1 (.cells #[.int .i64 one, .int .i64 two] 3)
  obtain ⟨V, hV⟩ : ∃ V, w1.alloc (.cells #[.int .i64 one, .int .i64 two] 3) = V := ⟨_, rfl⟩
  rw [hV] at hz hbz ⊢
  refine (within47 (some ⟨w1.heap.size, 0, none⟩) 2 2 [one, two] 1 100 V (ints_two hz) (by omega)).mono ?_
  rintro e V2 ⟨rfl, hV2⟩
  obtain rfl : V = V2 := hV2.symm
  replace B1 := Lib.hid (B1.out.trans (hbz.mono B1.out.size))
  replace S := Lib.hid (S.out.below hbz (Nat.le_refl _))
  replace R0 := Lib.hid ((hbz.block _ (lt_of_block R0.out)).trans R0.out)
  clear hz hbz hV
  have ew : withI 1 100 [one, two] = (inB 1 100 one && inB 1 100 two) := by simp [withI]
  rw [ew]
  cases hio : (inB 1 100 one && inB 1 100 two) with
  | false =>
    have HC := Lib.hid (alkR_out (one := one) (two := two) Hc.out hio)
    clear hio ew
    go_wp2_with fail
    refine bodyPost_ret (v := .tuple #[.bool false, .int .i64 2]) (by simp [results, Try.results15, go_sem]) rfl ?_
    exact ⟨by rw [HC.out], B0.out.trans (B1.out.mono B0.out.size)⟩
  | true =>
    have HC := Lib.hid (alkR_in (one := one) (two := two) Hc.out hio)
    simp only [Bool.and_eq_true, inB_iff] at hio
    have r0 : V.cell? ⟨R, 0, none⟩ = some (.slice A n cap) := by rw [cell_row R0.out]; rfl
    have HIO := Lib.hid hio
    clear hio ew
    go_wp2_with fail
    refine (open48 A n cap zs V S.out Hc.out).mono ?_
    rintro e V3 ⟨D, M, rfl, hd, -, hb⟩
    have HD := Lib.hid hd
    replace B1 := Lib.hid (B1.out.trans (hb.mono B1.out.size))
    clear hb hd r0
    go_wp2_with fail
    have hz := heap_alloc_new_ V3 (.cells #[.int .i64 one, .int .i64 two] 3)
    have hbz := below_alloc_ V3 (.cells #[.int .i64 one, .int .i64 two] 3)
    obtain ⟨V4, hV⟩ : ∃ V4, V3.alloc (.cells #[.int .i64 one, .int .i64 two] 3) = V4 := ⟨_, rfl⟩
    rw [hV] at hz hbz ⊢
    refine (alike49 D A n cap (cls (prs zs)) M (some ⟨V3.heap.size, 0, none⟩) 2 2 [one, two] V4 (HD.out.below hbz (Nat.le_refl _)) (ints_two hz) (fun x hx => ?_) (by omega)).mono ?_
    · have h9 := HIO.out
      simp only [List.mem_cons, List.mem_nil_iff, or_false] at hx
      rcases hx with rfl | rfl
      · exact ⟨x.toNat, by omega, by omega⟩
      · exact ⟨x.toNat, by omega, by omega⟩
    rintro e V5 ⟨rfl, hb⟩
    rw [sameB_two]
    replace B1 := Lib.hid ((B1.out.trans (hbz.mono B1.out.size)).trans (hb.mono (Nat.le_trans B1.out.size hbz.size)))
    clear hb hbz hz hV
    obtain ⟨bb, hbb⟩ : ∃ bb, decide (iAt (cls (prs zs)) one.toNat = iAt (cls (prs zs)) two.toNat) = bb := ⟨_, rfl⟩
    rw [hbb] at HC ⊢
    clear hbb
    go_wp2_with fail
    refine bodyPost_ret (v := .tuple #[.bool bb, .int .i64 0]) (by simp [results, Try.results15, go_sem]) rfl ?_
    exact ⟨by rw [HC.out], B0.out.trans (B1.out.mono B0.out.size)⟩
end Go.Proofs.Ythdjbapidodlfaa
