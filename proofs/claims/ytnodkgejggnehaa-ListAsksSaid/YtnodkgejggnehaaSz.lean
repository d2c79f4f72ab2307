/- Stage 5: how many links a board joins. -/
import Derived.Test.YtnodkgejggnehaaIt
import Derived.Deep.Cut
namespace Go.Proofs.Ytnodkgejggnehaa
set_option linter.unusedSimpArgs false
set_option linter.unusedVariables false
open Go.RowKit Go.Shelf
/-- The partners behind a pairing. -/
def prP (pt : Nat → Int) (a b k : Nat) : Nat → Nat → Int
  | 0 => pt
  | 1 => fun i => if i = 0 * 12 + a then (k : Int) else pt i
  | _ => fun i => if i = 1 * 12 + b then (k : Int) else if i = 0 * 12 + a then (k : Int) else pt i
section
attribute [local go_sem ↓] exec_app at_app
attribute [local go_sem] Oper.semAt_some
set_option maxRecDepth 100000 in
set_option maxHeartbeats 4000000 in
theorem pair85 (B : Nat) (sl sr : Int) (A : Option Addr) (n cap : Nat) (zs : List Rg) (A2 : Option Addr) (kn kc : Nat) (ks : List Int) (pt : Nat → Int) (op : Nat → Bool) (mp : Value) (k a b : Nat) (w : World) (h : Brd w B sl sr A n cap zs A2 kn kc ks pt op mp) (hk : k < n) (hg : gAt zs k = ⟨(a : Int), (b : Int)⟩) (ha : a < 12) (hb : b < 12) :
    Calls Try.prog 85 #[.pointer (some ⟨B, 0, none⟩), .int .i64 (k : Int)] w fun e w' => e = .returned (.tuple #[]) ∧ Brd w' B sl sr A n cap zs A2 kn kc ks (prP pt a b k 2) op mp ∧ Keeps (fun j => j = B) w w' := by
  have ix0 : ∀ (x y : Int) (W : World), (Instr.index 103 (.agg #[.int .i64 0, .int .i64 x, .int .i64 1, .int .i64 y]) (.int .i64 0)).run Try.prog W = .ok (.agg #[.int .i64 0, .int .i64 x]) W := fun _ _ _ => by kernel_rfl
  have ix1 : ∀ (x y : Int) (W : World), (Instr.index 103 (.agg #[.int .i64 0, .int .i64 x, .int .i64 1, .int .i64 y]) (.int .i64 1)).run Try.prog W = .ok (.agg #[.int .i64 1, .int .i64 y]) W := fun _ _ _ => by kernel_rfl
  have k1 := ends72 B sl sr A n cap zs A2 kn kc ks pt op mp k w h hk
  rw [hg] at k1
  simp only at k1
  have K1 := Lib.hid k1
  have H := Lib.hid h
  clear k1 h hg
  go_enter Try.func85, Try.ntmps85
  go_wp2_with fail
  refine K1.out.mono ?_
  rintro en w1 ⟨rfl, hb1⟩
  have H1 := Lib.hid (H.out.below hb1 (Nat.le_refl _))
  have HK1 := Lib.hid (Keeps.of_new (Mut := fun j => j = B) hb1)
  clear K1 hb1
  go_wp2_with fail
  go_loopw [5, 9] (fun p i wr => ∃ q : Nat, q ≤ 2 ∧ i = .int .i64 (q : Int) ∧ Hid (Brd wr B sl sr A n cap zs A2 kn kc ks (prP pt a b k q) op mp ∧ Keeps (fun j => j = B) w wr)) (fun p i _ => 2 - (intOf i).toNat)
  case atStart => exact ⟨0, by omega, rfl, Lib.hid ⟨H1.out, HK1.out⟩⟩
  case round =>
    obtain ⟨q, hq9, rfl, HV⟩ := hrel
    obtain ⟨wk, rfl⟩ : ∃ wk, wk = wr := ⟨_, rfl⟩
    clear H1 HK1 H
    rcases (by omega : q = 0 ∨ q = 1 ∨ q = 2) with rfl | rfl | rfl
    · skip
      have hb1 := below_alloc_ wk (.cells #[.int .i64 0, .int .i64 (a : Int)] 100)
      have hr1 := heap_alloc_new_ wk (.cells #[.int .i64 0, .int .i64 (a : Int)] 100)
      go_upto_region 3 with fail
      obtain ⟨wq, hq⟩ : ∃ wq, wk.alloc (.cells #[.int .i64 0, .int .i64 (a : Int)] 100) = wq := ⟨_, rfl⟩
      obtain ⟨P, hP⟩ : ∃ P, wk.heap.size = P := ⟨_, rfl⟩
      rw [hq] at hb1 hr1 ⊢
      have HQ := Lib.hid (HV.out.1.below hb1 (Nat.le_refl _))
      have HKQ := Lib.hid (HV.out.2.trans (Keeps.of_new hb1))
      have hPB : ¬ P = B := by
        obtain ⟨X, hX, -⟩ := HV.out.1.row
        have := lt_of_block hX
        omega
      rw [hP] at hr1 ⊢
      have hPl := lt_of_block hr1
      have p0 : wq.cell? ⟨P, 0, none⟩ = some (.int .i64 0) := by rw [cell_row hr1]; rfl
      have p1 : wq.cell? ⟨P, 1, none⟩ = some (.int .i64 (a : Int)) := by rw [cell_row hr1]; rfl
      have i0 : (0 : Int) ≤ (a : Int) := by omega
      have i1 : (a : Int) < 12 := by omega
      clear hb1 hr1 hq hP
      refine wp_region_held_drew (S := fun w2 => Keeps (fun j => j = B) wq w2) (by kernel_rfl) (Keeps.of_new (drew_b _ _)) (fun hS0 => ?_)
      refine wpAnyH_take (i := 0) (oi := { dst := some 12, op := Go.Op.move (Go.Operand.tmp 0), type := 61, pos := "board.go:129", after := #[], guard := none }) (v := .pointer (some ⟨B, 0, none⟩)) rfl (by kernel_rfl) (by kernel_rfl) (by kernel_rfl) (fun _ _ _ h => h) (Or.inl ⟨by rfl, by intro w2 hSw; (try dsimp only at hSw); go_simp⟩) hS0 ?_
      try simp only [Act.put, List.setIfInBounds_toArray, List.set_cons_zero, List.set_cons_succ]
      refine wpAnyH_take (i := 1) (oi := { dst := some 13, op := Go.Op.fieldAddr 100 (Go.Operand.tmp 5) 0, type := 0, pos := "board.go:129", after := #[], guard := none }) (v := .pointer (some ⟨P, 0, none⟩)) rfl (by kernel_rfl) (by kernel_rfl) (by kernel_rfl) (fun _ _ _ h => h) (Or.inl ⟨by rfl, by intro w2 hSw; (try dsimp only at hSw); go_simp⟩) hS0 ?_
      try simp only [Act.put, List.setIfInBounds_toArray, List.set_cons_zero, List.set_cons_succ]
      refine wpAnyH_take (i := 2) (oi := { dst := some 14, op := Go.Op.load 3 (Go.Operand.tmp 13), type := 3, pos := "board.go:129", after := #[{ on := 1, ground := Go.Ground.data }], guard := none }) (v := .int .i64 ((0 : Nat) : Int)) rfl (by kernel_rfl) (by kernel_rfl) (by kernel_rfl) (fun _ _ _ h => h) (Or.inl ⟨by rfl, by intro w2 hSw; (try dsimp only at hSw); have z0 := (keep_cells hSw hPl hPB _).trans p0; go_simp⟩) hS0 ?_
      try simp only [Act.put, List.setIfInBounds_toArray, List.set_cons_zero, List.set_cons_succ]
      refine wpAnyH_take (i := 3) (oi := { dst := some 15, op := Go.Op.fieldAddr 100 (Go.Operand.tmp 5) 1, type := 0, pos := "board.go:129", after := #[], guard := none }) (v := .pointer (some ⟨P, 1, none⟩)) rfl (by kernel_rfl) (by kernel_rfl) (by kernel_rfl) (fun _ _ _ h => h) (Or.inl ⟨by rfl, by intro w2 hSw; (try dsimp only at hSw); go_simp⟩) hS0 ?_
      try simp only [Act.put, List.setIfInBounds_toArray, List.set_cons_zero, List.set_cons_succ]
      refine wpAnyH_take (i := 4) (oi := { dst := some 16, op := Go.Op.load 3 (Go.Operand.tmp 15), type := 3, pos := "board.go:129", after := #[{ on := 3, ground := Go.Ground.data }], guard := none }) (v := .int .i64 (a : Int)) rfl (by kernel_rfl) (by kernel_rfl) (by kernel_rfl) (fun _ _ _ h => h) (Or.inl ⟨by rfl, by intro w2 hSw; (try dsimp only at hSw); have z0 := (keep_cells hSw hPl hPB _).trans p1; go_simp⟩) hS0 ?_
      try simp only [Act.put, List.setIfInBounds_toArray, List.set_cons_zero, List.set_cons_succ]
      refine wpAnyH_take (i := 5) (oi := { dst := some 17, op := Go.Op.move (Go.Operand.tmp 1), type := 3, pos := "board.go:129", after := #[], guard := none }) (v := .int .i64 (k : Int)) rfl (by kernel_rfl) (by kernel_rfl) (by kernel_rfl) (fun _ _ _ h => h) (Or.inl ⟨by rfl, by intro w2 hSw; (try dsimp only at hSw); go_simp⟩) hS0 ?_
      try simp only [Act.put, List.setIfInBounds_toArray, List.set_cons_zero, List.set_cons_succ]
      refine wpAnyH_take (i := 6) (oi := { dst := some 18, op := Go.Op.nilCheck (Go.Operand.tmp 12), type := 0, pos := "board.go:129", after := #[{ on := 0, ground := Go.Ground.data }], guard := none }) (v := .pointer (some ⟨B, 0, none⟩)) rfl (by kernel_rfl) (by kernel_rfl) (by kernel_rfl) (fun _ _ _ h => h) (Or.inl ⟨by rfl, by intro w2 hSw; (try dsimp only at hSw); go_simp⟩) hS0 ?_
      try simp only [Act.put, List.setIfInBounds_toArray, List.set_cons_zero, List.set_cons_succ]
      refine wpAnyH_take (i := 7) (oi := { dst := some 19, op := Go.Op.fieldAddr 91 (Go.Operand.tmp 18) 1, type := 0, pos := "board.go:129", after := #[{ on := 6, ground := Go.Ground.data }], guard := none }) (v := .pointer (some ⟨B, 4, none⟩)) rfl (by kernel_rfl) (by kernel_rfl) (by kernel_rfl) (fun _ _ _ h => h) (Or.inl ⟨by rfl, by intro w2 hSw; (try dsimp only at hSw); go_simp⟩) hS0 ?_
      try simp only [Act.put, List.setIfInBounds_toArray, List.set_cons_zero, List.set_cons_succ]
      refine wpAnyH_take (i := 8) (oi := { dst := some 20, op := Go.Op.indexAddr 88 (Go.Operand.tmp 19) (Go.Operand.tmp 14), type := 0, pos := "board.go:129", after := #[{ on := 7, ground := Go.Ground.data }, { on := 2, ground := Go.Ground.data }], guard := none }) (v := .pointer (some ⟨B, 4, none⟩)) rfl (by kernel_rfl) (by kernel_rfl) (by kernel_rfl) (fun _ _ _ h => h) (Or.inl ⟨by rfl, by intro w2 hSw; (try dsimp only at hSw); go_simp⟩) hS0 ?_
      try simp only [Act.put, List.setIfInBounds_toArray, List.set_cons_zero, List.set_cons_succ]
      refine wpAnyH_take (i := 9) (oi := { dst := some 21, op := Go.Op.indexAddr 86 (Go.Operand.tmp 20) (Go.Operand.tmp 16), type := 0, pos := "board.go:129", after := #[{ on := 8, ground := Go.Ground.data }, { on := 4, ground := Go.Ground.data }, { on := 0, ground := Go.Ground.phase }, { on := 1, ground := Go.Ground.phase }, { on := 2, ground := Go.Ground.phase }, { on := 3, ground := Go.Ground.phase }, { on := 4, ground := Go.Ground.phase }, { on := 5, ground := Go.Ground.phase }], guard := none }) (v := .pointer (some ⟨B, 4 + a, none⟩)) rfl (by kernel_rfl) (by kernel_rfl) (by kernel_rfl) (fun _ _ _ h => h) (Or.inl ⟨by rfl, by intro w2 hSw; (try dsimp only at hSw); go_simp⟩) hS0 ?_
      try simp only [Act.put, List.setIfInBounds_toArray, List.set_cons_zero, List.set_cons_succ]
      refine wpAnyH_ready (rs := [10]) (by kernel_rfl) (by simp) ?_
      refine AllReadyH.cons (o := { dst := none, op := Go.Op.store 3 (Go.Operand.tmp 21) (Go.Operand.tmp 17), type := 0, pos := "board.go:129", after := #[{ on := 9, ground := Go.Ground.data }, { on := 5, ground := Go.Ground.data }, { on := 0, ground := Go.Ground.phase }, { on := 1, ground := Go.Ground.phase }, { on := 2, ground := Go.Ground.phase }, { on := 3, ground := Go.Ground.phase }, { on := 4, ground := Go.Ground.phase }, { on := 5, ground := Go.Ground.phase }], guard := none }) rfl (fun K hK => ?_) AllReadyH.nil
      have f0 := HQ.out.hp (0 * 12 + a) (by omega)
      have f1 := HQ.out.frozen (4 + (0 * 12 + a))
      rw [show 4 + (0 * 12 + a) = 4 + a by omega] at f0 f1
      go_simp
      refine hK.out _ _ (hS0.trans (keeps_setCell _ _ _ _)) (fun hS1 => ?_)
      clear hK
      try simp only [Act.put, List.setIfInBounds_toArray, List.set_cons_zero, List.set_cons_succ]
      refine wpAnyH_done (by kernel_rfl) ?_ _
      have HQ2 := Lib.hid ((HQ.out.keep (Keeps.of_new (Mut := fun _ => False) (drew_b wq 1)) (fun e => e) (fun _ _ e => e) (fun _ _ e => e)).setP (0 * 12 + a) (k : Int) (by omega))
      have HK2 := Lib.hid (HKQ.out.trans hS1)
      clear hS0 hS1 p0 p1 HQ hPl hPB
      rw [show 4 + (0 * 12 + a) = 4 + a by omega] at HQ2
      go_wp2_with fail
      go_roundw
      case rel => exact ⟨0+1, by omega, by go_num, Lib.hid ⟨HQ2.out, HK2.out⟩⟩
      case measure => simp [intOf]
    · skip
      have hb1 := below_alloc_ wk (.cells #[.int .i64 1, .int .i64 (b : Int)] 100)
      have hr1 := heap_alloc_new_ wk (.cells #[.int .i64 1, .int .i64 (b : Int)] 100)
      go_upto_region 3 with fail
      obtain ⟨wq, hq⟩ : ∃ wq, wk.alloc (.cells #[.int .i64 1, .int .i64 (b : Int)] 100) = wq := ⟨_, rfl⟩
      obtain ⟨P, hP⟩ : ∃ P, wk.heap.size = P := ⟨_, rfl⟩
      rw [hq] at hb1 hr1 ⊢
      have HQ := Lib.hid (HV.out.1.below hb1 (Nat.le_refl _))
      have HKQ := Lib.hid (HV.out.2.trans (Keeps.of_new hb1))
      have hPB : ¬ P = B := by
        obtain ⟨X, hX, -⟩ := HV.out.1.row
        have := lt_of_block hX
        omega
      rw [hP] at hr1 ⊢
      have hPl := lt_of_block hr1
      have p0 : wq.cell? ⟨P, 0, none⟩ = some (.int .i64 1) := by rw [cell_row hr1]; rfl
      have p1 : wq.cell? ⟨P, 1, none⟩ = some (.int .i64 (b : Int)) := by rw [cell_row hr1]; rfl
      have i0 : (0 : Int) ≤ (b : Int) := by omega
      have i1 : (b : Int) < 12 := by omega
      clear hb1 hr1 hq hP
      refine wp_region_held_drew (S := fun w2 => Keeps (fun j => j = B) wq w2) (by kernel_rfl) (Keeps.of_new (drew_b _ _)) (fun hS0 => ?_)
      refine wpAnyH_take (i := 0) (oi := { dst := some 12, op := Go.Op.move (Go.Operand.tmp 0), type := 61, pos := "board.go:129", after := #[], guard := none }) (v := .pointer (some ⟨B, 0, none⟩)) rfl (by kernel_rfl) (by kernel_rfl) (by kernel_rfl) (fun _ _ _ h => h) (Or.inl ⟨by rfl, by intro w2 hSw; (try dsimp only at hSw); go_simp⟩) hS0 ?_
      try simp only [Act.put, List.setIfInBounds_toArray, List.set_cons_zero, List.set_cons_succ]
      refine wpAnyH_take (i := 1) (oi := { dst := some 13, op := Go.Op.fieldAddr 100 (Go.Operand.tmp 5) 0, type := 0, pos := "board.go:129", after := #[], guard := none }) (v := .pointer (some ⟨P, 0, none⟩)) rfl (by kernel_rfl) (by kernel_rfl) (by kernel_rfl) (fun _ _ _ h => h) (Or.inl ⟨by rfl, by intro w2 hSw; (try dsimp only at hSw); go_simp⟩) hS0 ?_
      try simp only [Act.put, List.setIfInBounds_toArray, List.set_cons_zero, List.set_cons_succ]
      refine wpAnyH_take (i := 2) (oi := { dst := some 14, op := Go.Op.load 3 (Go.Operand.tmp 13), type := 3, pos := "board.go:129", after := #[{ on := 1, ground := Go.Ground.data }], guard := none }) (v := .int .i64 ((1 : Nat) : Int)) rfl (by kernel_rfl) (by kernel_rfl) (by kernel_rfl) (fun _ _ _ h => h) (Or.inl ⟨by rfl, by intro w2 hSw; (try dsimp only at hSw); have z0 := (keep_cells hSw hPl hPB _).trans p0; go_simp⟩) hS0 ?_
      try simp only [Act.put, List.setIfInBounds_toArray, List.set_cons_zero, List.set_cons_succ]
      refine wpAnyH_take (i := 3) (oi := { dst := some 15, op := Go.Op.fieldAddr 100 (Go.Operand.tmp 5) 1, type := 0, pos := "board.go:129", after := #[], guard := none }) (v := .pointer (some ⟨P, 1, none⟩)) rfl (by kernel_rfl) (by kernel_rfl) (by kernel_rfl) (fun _ _ _ h => h) (Or.inl ⟨by rfl, by intro w2 hSw; (try dsimp only at hSw); go_simp⟩) hS0 ?_
      try simp only [Act.put, List.setIfInBounds_toArray, List.set_cons_zero, List.set_cons_succ]
      refine wpAnyH_take (i := 4) (oi := { dst := some 16, op := Go.Op.load 3 (Go.Operand.tmp 15), type := 3, pos := "board.go:129", after := #[{ on := 3, ground := Go.Ground.data }], guard := none }) (v := .int .i64 (b : Int)) rfl (by kernel_rfl) (by kernel_rfl) (by kernel_rfl) (fun _ _ _ h => h) (Or.inl ⟨by rfl, by intro w2 hSw; (try dsimp only at hSw); have z0 := (keep_cells hSw hPl hPB _).trans p1; go_simp⟩) hS0 ?_
      try simp only [Act.put, List.setIfInBounds_toArray, List.set_cons_zero, List.set_cons_succ]
      refine wpAnyH_take (i := 5) (oi := { dst := some 17, op := Go.Op.move (Go.Operand.tmp 1), type := 3, pos := "board.go:129", after := #[], guard := none }) (v := .int .i64 (k : Int)) rfl (by kernel_rfl) (by kernel_rfl) (by kernel_rfl) (fun _ _ _ h => h) (Or.inl ⟨by rfl, by intro w2 hSw; (try dsimp only at hSw); go_simp⟩) hS0 ?_
      try simp only [Act.put, List.setIfInBounds_toArray, List.set_cons_zero, List.set_cons_succ]
      refine wpAnyH_take (i := 6) (oi := { dst := some 18, op := Go.Op.nilCheck (Go.Operand.tmp 12), type := 0, pos := "board.go:129", after := #[{ on := 0, ground := Go.Ground.data }], guard := none }) (v := .pointer (some ⟨B, 0, none⟩)) rfl (by kernel_rfl) (by kernel_rfl) (by kernel_rfl) (fun _ _ _ h => h) (Or.inl ⟨by rfl, by intro w2 hSw; (try dsimp only at hSw); go_simp⟩) hS0 ?_
      try simp only [Act.put, List.setIfInBounds_toArray, List.set_cons_zero, List.set_cons_succ]
      refine wpAnyH_take (i := 7) (oi := { dst := some 19, op := Go.Op.fieldAddr 91 (Go.Operand.tmp 18) 1, type := 0, pos := "board.go:129", after := #[{ on := 6, ground := Go.Ground.data }], guard := none }) (v := .pointer (some ⟨B, 4, none⟩)) rfl (by kernel_rfl) (by kernel_rfl) (by kernel_rfl) (fun _ _ _ h => h) (Or.inl ⟨by rfl, by intro w2 hSw; (try dsimp only at hSw); go_simp⟩) hS0 ?_
      try simp only [Act.put, List.setIfInBounds_toArray, List.set_cons_zero, List.set_cons_succ]
      refine wpAnyH_take (i := 8) (oi := { dst := some 20, op := Go.Op.indexAddr 88 (Go.Operand.tmp 19) (Go.Operand.tmp 14), type := 0, pos := "board.go:129", after := #[{ on := 7, ground := Go.Ground.data }, { on := 2, ground := Go.Ground.data }], guard := none }) (v := .pointer (some ⟨B, 16, none⟩)) rfl (by kernel_rfl) (by kernel_rfl) (by kernel_rfl) (fun _ _ _ h => h) (Or.inl ⟨by rfl, by intro w2 hSw; (try dsimp only at hSw); go_simp⟩) hS0 ?_
      try simp only [Act.put, List.setIfInBounds_toArray, List.set_cons_zero, List.set_cons_succ]
      refine wpAnyH_take (i := 9) (oi := { dst := some 21, op := Go.Op.indexAddr 86 (Go.Operand.tmp 20) (Go.Operand.tmp 16), type := 0, pos := "board.go:129", after := #[{ on := 8, ground := Go.Ground.data }, { on := 4, ground := Go.Ground.data }, { on := 0, ground := Go.Ground.phase }, { on := 1, ground := Go.Ground.phase }, { on := 2, ground := Go.Ground.phase }, { on := 3, ground := Go.Ground.phase }, { on := 4, ground := Go.Ground.phase }, { on := 5, ground := Go.Ground.phase }], guard := none }) (v := .pointer (some ⟨B, 16 + b, none⟩)) rfl (by kernel_rfl) (by kernel_rfl) (by kernel_rfl) (fun _ _ _ h => h) (Or.inl ⟨by rfl, by intro w2 hSw; (try dsimp only at hSw); go_simp⟩) hS0 ?_
      try simp only [Act.put, List.setIfInBounds_toArray, List.set_cons_zero, List.set_cons_succ]
      refine wpAnyH_ready (rs := [10]) (by kernel_rfl) (by simp) ?_
      refine AllReadyH.cons (o := { dst := none, op := Go.Op.store 3 (Go.Operand.tmp 21) (Go.Operand.tmp 17), type := 0, pos := "board.go:129", after := #[{ on := 9, ground := Go.Ground.data }, { on := 5, ground := Go.Ground.data }, { on := 0, ground := Go.Ground.phase }, { on := 1, ground := Go.Ground.phase }, { on := 2, ground := Go.Ground.phase }, { on := 3, ground := Go.Ground.phase }, { on := 4, ground := Go.Ground.phase }, { on := 5, ground := Go.Ground.phase }], guard := none }) rfl (fun K hK => ?_) AllReadyH.nil
      have f0 := HQ.out.hp (1 * 12 + b) (by omega)
      have f1 := HQ.out.frozen (4 + (1 * 12 + b))
      rw [show 4 + (1 * 12 + b) = 16 + b by omega] at f0 f1
      go_simp
      refine hK.out _ _ (hS0.trans (keeps_setCell _ _ _ _)) (fun hS1 => ?_)
      clear hK
      try simp only [Act.put, List.setIfInBounds_toArray, List.set_cons_zero, List.set_cons_succ]
      refine wpAnyH_done (by kernel_rfl) ?_ _
      have HQ2 := Lib.hid ((HQ.out.keep (Keeps.of_new (Mut := fun _ => False) (drew_b wq 1)) (fun e => e) (fun _ _ e => e) (fun _ _ e => e)).setP (1 * 12 + b) (k : Int) (by omega))
      have HK2 := Lib.hid (HKQ.out.trans hS1)
      clear hS0 hS1 p0 p1 HQ hPl hPB
      rw [show 4 + (1 * 12 + b) = 16 + b by omega] at HQ2
      go_wp2_with fail
      go_roundw
      case rel => exact ⟨1+1, by omega, by go_num, Lib.hid ⟨HQ2.out, HK2.out⟩⟩
      case measure => simp [intOf]
    · go_wp2_with fail
      (try simp only [Exit.inBlock, Exit.then])
      refine bodyPost_end (results_none rfl _ _ _) rfl ?_
      exact ⟨rfl, HV.out.1, HV.out.2⟩
end
end Go.Proofs.Ytnodkgejggnehaa

namespace Go.Proofs.Ytnodkgejggnehaa
set_option linter.unusedSimpArgs false
set_option linter.unusedVariables false
open Go.RowKit Go.Shelf
/-- The partners behind a parting. -/
def unP (pt : Nat → Int) (a b : Nat) : Nat → Nat → Int
  | 0 => pt
  | 1 => fun i => if i = 0 * 12 + a then -1 else pt i
  | _ => fun i => if i = 1 * 12 + b then -1 else if i = 0 * 12 + a then -1 else pt i
section
attribute [local go_sem ↓] exec_app at_app
attribute [local go_sem] Oper.semAt_some
set_option maxRecDepth 100000 in
set_option maxHeartbeats 4000000 in
theorem part83n (B : Nat) (sl sr : Int) (A : Option Addr) (n cap : Nat) (zs : List Rg) (A2 : Option Addr) (kn kc : Nat) (ks : List Int) (pt : Nat → Int) (op : Nat → Bool) (mp : Value) (l i : Nat) (w : World) (h : Brd w B sl sr A n cap zs A2 kn kc ks pt op mp) (hl : l < 2) (hi : i < 12) (hp : pt (l * 12 + i) = -1) :
    Calls Try.prog 83 #[.pointer (some ⟨B, 0, none⟩), .agg #[.int .i64 (l : Int), .int .i64 (i : Int)]] w fun e w' => e = .returned (.slice none 0 0) ∧ Below w.heap.size w w' := by
  have hb0 := below_alloc_ w (.cells #[.int .i64 (l : Int), .int .i64 (i : Int)] 100)
  have hr0 := heap_alloc_new_ w (.cells #[.int .i64 (l : Int), .int .i64 (i : Int)] 100)
  obtain ⟨w0, hW0⟩ : ∃ w0, w.alloc (.cells #[.int .i64 (l : Int), .int .i64 (i : Int)] 100) = w0 := ⟨_, rfl⟩
  obtain ⟨R, hR⟩ : ∃ R, w.heap.size = R := ⟨_, rfl⟩
  rw [hW0] at hb0 hr0
  have k1 := partner70 B sl sr A n cap zs A2 kn kc ks pt op mp l i w0 (h.below hb0 (Nat.le_refl _)) hl hi
  rw [hp] at k1
  have H := Lib.hid (h.below hb0 (Nat.le_refl _))
  have K1 := Lib.hid k1
  rw [hR] at hr0
  have x0 : w0.cell? ⟨R, 0, none⟩ = some (.int .i64 (l : Int)) := by rw [cell_row hr0]; rfl
  have x1 : w0.cell? ⟨R, 1, none⟩ = some (.int .i64 (i : Int)) := by rw [cell_row hr0]; rfl
  have HB := Lib.hid hb0
  have HW0 := Lib.hid hW0
  have HR := Lib.hid hR
  clear h hb0 hr0 hW0 hR k1 hp
  go_enter Try.func83, Try.ntmps83
  go_wp2_with fail
  try rw [HW0.out]
  try rw [HR.out]
  try go_wp2_with fail
  refine K1.out.mono ?_
  rintro en w1 ⟨rfl, hb1⟩
  have HB1 := Lib.hid (HB.out.trans (hb1.mono HB.out.size))
  clear K1 hb1 x0 x1
  go_wp2_with fail
  go_ret
  exact ⟨rfl, by first | exact HB1.out | (rw [← HR.out]; exact HB1.out)⟩
set_option maxRecDepth 100000 in
set_option maxHeartbeats 4000000 in
theorem part83y (B : Nat) (sl sr : Int) (A : Option Addr) (n cap : Nat) (zs : List Rg) (A2 : Option Addr) (kn kc : Nat) (ks : List Int) (pt : Nat → Int) (op : Nat → Bool) (mp : Value) (l i : Nat) (w : World) (h : Brd w B sl sr A n cap zs A2 kn kc ks pt op mp) (hl : l < 2) (hi : i < 12) (k a b : Nat) (hp : pt (l * 12 + i) = (k : Int)) (hk : k < n) (hg : gAt zs k = ⟨(a : Int), (b : Int)⟩) (ha : a < 12) (hb : b < 12) :
    Calls Try.prog 83 #[.pointer (some ⟨B, 0, none⟩), .agg #[.int .i64 (l : Int), .int .i64 (i : Int)]] w fun e w' => ∃ E, e = .returned (.slice (some ⟨E, 0, none⟩) 2 2) ∧ w.heap.size ≤ E ∧ Rgs w' (some ⟨E, 0, none⟩) 2 [⟨0, (a : Int)⟩, ⟨1, (b : Int)⟩] ∧ Brd w' B sl sr A n cap zs A2 kn kc ks (unP pt a b 2) op mp ∧ Keeps (fun j => j = B) w w' := by
  have ix0 : ∀ (x y : Int) (W : World), (Instr.index 103 (.agg #[.int .i64 0, .int .i64 x, .int .i64 1, .int .i64 y]) (.int .i64 0)).run Try.prog W = .ok (.agg #[.int .i64 0, .int .i64 x]) W := fun _ _ _ => by kernel_rfl
  have ix1 : ∀ (x y : Int) (W : World), (Instr.index 103 (.agg #[.int .i64 0, .int .i64 x, .int .i64 1, .int .i64 y]) (.int .i64 1)).run Try.prog W = .ok (.agg #[.int .i64 1, .int .i64 y]) W := fun _ _ _ => by kernel_rfl
  have hb0 := below_alloc_ w (.cells #[.int .i64 (l : Int), .int .i64 (i : Int)] 100)
  have hr0 := heap_alloc_new_ w (.cells #[.int .i64 (l : Int), .int .i64 (i : Int)] 100)
  obtain ⟨w0, hW0⟩ : ∃ w0, w.alloc (.cells #[.int .i64 (l : Int), .int .i64 (i : Int)] 100) = w0 := ⟨_, rfl⟩
  obtain ⟨R, hR⟩ : ∃ R, w.heap.size = R := ⟨_, rfl⟩
  rw [hW0] at hb0 hr0
  have k1 := partner70 B sl sr A n cap zs A2 kn kc ks pt op mp l i w0 (h.below hb0 (Nat.le_refl _)) hl hi
  rw [hp] at k1
  have H := Lib.hid (h.below hb0 (Nat.le_refl _))
  have K1 := Lib.hid k1
  rw [hR] at hr0
  have x0 : w0.cell? ⟨R, 0, none⟩ = some (.int .i64 (l : Int)) := by rw [cell_row hr0]; rfl
  have x1 : w0.cell? ⟨R, 1, none⟩ = some (.int .i64 (i : Int)) := by rw [cell_row hr0]; rfl
  have HB := Lib.hid hb0
  have HW0 := Lib.hid hW0
  have HR := Lib.hid hR
  clear h hb0 hr0 hW0 hR k1 hp
  go_enter Try.func83, Try.ntmps83
  go_wp2_with fail
  try rw [HW0.out]
  try rw [HR.out]
  try go_wp2_with fail
  refine K1.out.mono ?_
  rintro en w1 ⟨rfl, hb1⟩
  have H1 := Lib.hid (H.out.below hb1 (Nat.le_refl _))
  have HB1 := Lib.hid (HB.out.trans (hb1.mono HB.out.size))
  have k2 := ends72 B sl sr A n cap zs A2 kn kc ks pt op mp k w1 H1.out hk
  rw [hg] at k2
  simp only at k2
  have K2 := Lib.hid k2
  have d0 : ((k : Int) == -1) = false := by rw [beq_eq_false_iff_ne]; omega
  clear K1 hb1 x0 x1 H k2 hg
  go_wp2_with fail
  refine K2.out.mono ?_
  rintro en w2 ⟨rfl, hb2⟩
  have H2 := Lib.hid (H1.out.below hb2 (Nat.le_refl _))
  have HB2 := Lib.hid (HB1.out.trans (hb2.mono HB1.out.size))
  clear K2 hb2 H1 d0
  have hb3 := below_alloc_ w2 (.cells #[.int .i64 0, .int .i64 (a : Int), .int .i64 1, .int .i64 (b : Int)] 103)
  have hr3 := heap_alloc_new_ w2 (.cells #[.int .i64 0, .int .i64 (a : Int), .int .i64 1, .int .i64 (b : Int)] 103)
  go_wp2_with fail
  obtain ⟨w3, hw3⟩ : ∃ w3, w2.alloc (.cells #[.int .i64 0, .int .i64 (a : Int), .int .i64 1, .int .i64 (b : Int)] 103) = w3 := ⟨_, rfl⟩
  obtain ⟨E, hE⟩ : ∃ E, w2.heap.size = E := ⟨_, rfl⟩
  rw [hw3] at hb3 hr3 ⊢
  have H3 := Lib.hid (H2.out.below hb3 (Nat.le_refl _))
  have HK3 := Lib.hid (Keeps.of_new (Mut := fun j => j = B) (HB2.out.trans (hb3.mono HB2.out.size)))
  have HEB := Lib.hid (show ¬ E = B by
    obtain ⟨X, hX, -⟩ := H2.out.row
    have := lt_of_block hX
    omega)
  have HEw := Lib.hid (show w.heap.size ≤ E by have := HB2.out.size; omega)
  rw [hE] at hr3 ⊢
  have HE3 := Lib.hid hr3
  clear hb3 hr3 hw3 hE
  go_loopw [8, 18] (fun p j wr => ∃ q : Nat, q ≤ 2 ∧ j = .int .i64 (q : Int) ∧ Hid (Brd wr B sl sr A n cap zs A2 kn kc ks (unP pt a b q) op mp ∧ Keeps (fun j => j = B) w wr ∧ wr.heap[E]? = some (.cells #[.int .i64 0, .int .i64 (a : Int), .int .i64 1, .int .i64 (b : Int)] 103 (0, 0)))) (fun p j _ => 2 - (intOf j).toNat)
  case atStart => exact ⟨0, by omega, rfl, Lib.hid ⟨H3.out, HK3.out, HE3.out⟩⟩
  case round =>
    obtain ⟨q, hq9, rfl, HV⟩ := hrel
    obtain ⟨wk, rfl⟩ : ∃ wk, wk = wr := ⟨_, rfl⟩
    clear H3 HK3 HE3
    rcases (by omega : q = 0 ∨ q = 1 ∨ q = 2) with rfl | rfl | rfl
    · skip
      have hb1 := below_alloc_ wk (.cells #[.int .i64 0, .int .i64 (a : Int)] 100)
      have hr1 := heap_alloc_new_ wk (.cells #[.int .i64 0, .int .i64 (a : Int)] 100)
      go_upto_region 8 with fail
      obtain ⟨wq, hq⟩ : ∃ wq, wk.alloc (.cells #[.int .i64 0, .int .i64 (a : Int)] 100) = wq := ⟨_, rfl⟩
      obtain ⟨P, hP⟩ : ∃ P, wk.heap.size = P := ⟨_, rfl⟩
      rw [hq] at hb1 hr1 ⊢
      have HQ := Lib.hid (HV.out.1.below hb1 (Nat.le_refl _))
      have HEQ := Lib.hid ((hb1.block _ (lt_of_block HV.out.2.2)).trans HV.out.2.2)
      have HKQ := Lib.hid (HV.out.2.1.trans (Keeps.of_new hb1))
      have hPB : ¬ P = B := by
        obtain ⟨X, hX, -⟩ := HV.out.1.row
        have := lt_of_block hX
        omega
      rw [hP] at hr1 ⊢
      have hPl := lt_of_block hr1
      have p0 : wq.cell? ⟨P, 0, none⟩ = some (.int .i64 0) := by rw [cell_row hr1]; rfl
      have p1 : wq.cell? ⟨P, 1, none⟩ = some (.int .i64 (a : Int)) := by rw [cell_row hr1]; rfl
      have i0 : (0 : Int) ≤ (a : Int) := by omega
      have i1 : (a : Int) < 12 := by omega
      clear hb1 hr1 hq hP
      refine wp_region_held_drew (S := fun w2 => Keeps (fun j => j = B) wq w2) (by kernel_rfl) (Keeps.of_new (drew_b _ _)) (fun hS0 => ?_)
      refine wpAnyH_take (i := 0) (oi := { dst := some 21, op := Go.Op.move (Go.Operand.tmp 0), type := 61, pos := "board.go:141", after := #[], guard := none }) (v := .pointer (some ⟨B, 0, none⟩)) rfl (by kernel_rfl) (by kernel_rfl) (by kernel_rfl) (fun _ _ _ h => h) (Or.inl ⟨by rfl, by intro w2 hSw; (try dsimp only at hSw); go_simp⟩) hS0 ?_
      try simp only [Act.put, List.setIfInBounds_toArray, List.set_cons_zero, List.set_cons_succ]
      refine wpAnyH_take (i := 1) (oi := { dst := some 22, op := Go.Op.fieldAddr 100 (Go.Operand.tmp 8) 0, type := 0, pos := "board.go:141", after := #[], guard := none }) (v := .pointer (some ⟨P, 0, none⟩)) rfl (by kernel_rfl) (by kernel_rfl) (by kernel_rfl) (fun _ _ _ h => h) (Or.inl ⟨by rfl, by intro w2 hSw; (try dsimp only at hSw); go_simp⟩) hS0 ?_
      try simp only [Act.put, List.setIfInBounds_toArray, List.set_cons_zero, List.set_cons_succ]
      refine wpAnyH_take (i := 2) (oi := { dst := some 23, op := Go.Op.load 3 (Go.Operand.tmp 22), type := 3, pos := "board.go:141", after := #[{ on := 1, ground := Go.Ground.data }], guard := none }) (v := .int .i64 ((0 : Nat) : Int)) rfl (by kernel_rfl) (by kernel_rfl) (by kernel_rfl) (fun _ _ _ h => h) (Or.inl ⟨by rfl, by intro w2 hSw; (try dsimp only at hSw); have z0 := (keep_cells hSw hPl hPB _).trans p0; go_simp⟩) hS0 ?_
      try simp only [Act.put, List.setIfInBounds_toArray, List.set_cons_zero, List.set_cons_succ]
      refine wpAnyH_take (i := 3) (oi := { dst := some 24, op := Go.Op.fieldAddr 100 (Go.Operand.tmp 8) 1, type := 0, pos := "board.go:141", after := #[], guard := none }) (v := .pointer (some ⟨P, 1, none⟩)) rfl (by kernel_rfl) (by kernel_rfl) (by kernel_rfl) (fun _ _ _ h => h) (Or.inl ⟨by rfl, by intro w2 hSw; (try dsimp only at hSw); go_simp⟩) hS0 ?_
      try simp only [Act.put, List.setIfInBounds_toArray, List.set_cons_zero, List.set_cons_succ]
      refine wpAnyH_take (i := 4) (oi := { dst := some 25, op := Go.Op.load 3 (Go.Operand.tmp 24), type := 3, pos := "board.go:141", after := #[{ on := 3, ground := Go.Ground.data }], guard := none }) (v := .int .i64 (a : Int)) rfl (by kernel_rfl) (by kernel_rfl) (by kernel_rfl) (fun _ _ _ h => h) (Or.inl ⟨by rfl, by intro w2 hSw; (try dsimp only at hSw); have z0 := (keep_cells hSw hPl hPB _).trans p1; go_simp⟩) hS0 ?_
      try simp only [Act.put, List.setIfInBounds_toArray, List.set_cons_zero, List.set_cons_succ]
      refine wpAnyH_take (i := 5) (oi := { dst := some 26, op := Go.Op.nilCheck (Go.Operand.tmp 21), type := 0, pos := "board.go:141", after := #[{ on := 0, ground := Go.Ground.data }], guard := none }) (v := .pointer (some ⟨B, 0, none⟩)) rfl (by kernel_rfl) (by kernel_rfl) (by kernel_rfl) (fun _ _ _ h => h) (Or.inl ⟨by rfl, by intro w2 hSw; (try dsimp only at hSw); go_simp⟩) hS0 ?_
      try simp only [Act.put, List.setIfInBounds_toArray, List.set_cons_zero, List.set_cons_succ]
      refine wpAnyH_take (i := 6) (oi := { dst := some 27, op := Go.Op.fieldAddr 91 (Go.Operand.tmp 26) 1, type := 0, pos := "board.go:141", after := #[{ on := 5, ground := Go.Ground.data }], guard := none }) (v := .pointer (some ⟨B, 4, none⟩)) rfl (by kernel_rfl) (by kernel_rfl) (by kernel_rfl) (fun _ _ _ h => h) (Or.inl ⟨by rfl, by intro w2 hSw; (try dsimp only at hSw); go_simp⟩) hS0 ?_
      try simp only [Act.put, List.setIfInBounds_toArray, List.set_cons_zero, List.set_cons_succ]
      refine wpAnyH_take (i := 7) (oi := { dst := some 28, op := Go.Op.indexAddr 88 (Go.Operand.tmp 27) (Go.Operand.tmp 23), type := 0, pos := "board.go:141", after := #[{ on := 6, ground := Go.Ground.data }, { on := 2, ground := Go.Ground.data }], guard := none }) (v := .pointer (some ⟨B, 4, none⟩)) rfl (by kernel_rfl) (by kernel_rfl) (by kernel_rfl) (fun _ _ _ h => h) (Or.inl ⟨by rfl, by intro w2 hSw; (try dsimp only at hSw); go_simp⟩) hS0 ?_
      try simp only [Act.put, List.setIfInBounds_toArray, List.set_cons_zero, List.set_cons_succ]
      refine wpAnyH_take (i := 8) (oi := { dst := some 29, op := Go.Op.indexAddr 86 (Go.Operand.tmp 28) (Go.Operand.tmp 25), type := 0, pos := "board.go:141", after := #[{ on := 7, ground := Go.Ground.data }, { on := 4, ground := Go.Ground.data }, { on := 0, ground := Go.Ground.phase }, { on := 1, ground := Go.Ground.phase }, { on := 2, ground := Go.Ground.phase }, { on := 3, ground := Go.Ground.phase }, { on := 4, ground := Go.Ground.phase }], guard := none }) (v := .pointer (some ⟨B, 4 + a, none⟩)) rfl (by kernel_rfl) (by kernel_rfl) (by kernel_rfl) (fun _ _ _ h => h) (Or.inl ⟨by rfl, by intro w2 hSw; (try dsimp only at hSw); go_simp⟩) hS0 ?_
      try simp only [Act.put, List.setIfInBounds_toArray, List.set_cons_zero, List.set_cons_succ]
      refine wpAnyH_ready (rs := [9]) (by kernel_rfl) (by simp) ?_
      refine AllReadyH.cons (o := { dst := none, op := Go.Op.store 3 (Go.Operand.tmp 29) (Go.Operand.const (Go.Value.int Go.IntKind.i64 (-1))), type := 0, pos := "board.go:141", after := #[{ on := 8, ground := Go.Ground.data }, { on := 0, ground := Go.Ground.phase }, { on := 1, ground := Go.Ground.phase }, { on := 2, ground := Go.Ground.phase }, { on := 3, ground := Go.Ground.phase }, { on := 4, ground := Go.Ground.phase }], guard := none }) rfl (fun K hK => ?_) AllReadyH.nil
      have f0 := HQ.out.hp (0 * 12 + a) (by omega)
      have f1 := HQ.out.frozen (4 + (0 * 12 + a))
      rw [show 4 + (0 * 12 + a) = 4 + a by omega] at f0 f1
      go_simp
      refine hK.out _ _ (hS0.trans (keeps_setCell _ _ _ _)) (fun hS1 => ?_)
      clear hK
      try simp only [Act.put, List.setIfInBounds_toArray, List.set_cons_zero, List.set_cons_succ]
      refine wpAnyH_done (by kernel_rfl) ?_ _
      have HQ2 := Lib.hid ((HQ.out.keep (Keeps.of_new (Mut := fun _ => False) (drew_b wq 1)) (fun e => e) (fun _ _ e => e) (fun _ _ e => e)).setP (0 * 12 + a) (-1) (by omega))
      have HE2 := Lib.hid ((hS1.block _ (lt_of_block HEQ.out) HEB.out).trans HEQ.out)
      have HK2 := Lib.hid (HKQ.out.trans hS1)
      clear hS0 hS1 p0 p1 HQ hPl hPB
      rw [show 4 + (0 * 12 + a) = 4 + a by omega] at HQ2
      go_wp2_with fail
      go_roundw
      case rel => exact ⟨0+1, by omega, by go_num, Lib.hid ⟨HQ2.out, HK2.out, HE2.out⟩⟩
      case measure => simp [intOf]
    · skip
      have hb1 := below_alloc_ wk (.cells #[.int .i64 1, .int .i64 (b : Int)] 100)
      have hr1 := heap_alloc_new_ wk (.cells #[.int .i64 1, .int .i64 (b : Int)] 100)
      go_upto_region 8 with fail
      obtain ⟨wq, hq⟩ : ∃ wq, wk.alloc (.cells #[.int .i64 1, .int .i64 (b : Int)] 100) = wq := ⟨_, rfl⟩
      obtain ⟨P, hP⟩ : ∃ P, wk.heap.size = P := ⟨_, rfl⟩
      rw [hq] at hb1 hr1 ⊢
      have HQ := Lib.hid (HV.out.1.below hb1 (Nat.le_refl _))
      have HEQ := Lib.hid ((hb1.block _ (lt_of_block HV.out.2.2)).trans HV.out.2.2)
      have HKQ := Lib.hid (HV.out.2.1.trans (Keeps.of_new hb1))
      have hPB : ¬ P = B := by
        obtain ⟨X, hX, -⟩ := HV.out.1.row
        have := lt_of_block hX
        omega
      rw [hP] at hr1 ⊢
      have hPl := lt_of_block hr1
      have p0 : wq.cell? ⟨P, 0, none⟩ = some (.int .i64 1) := by rw [cell_row hr1]; rfl
      have p1 : wq.cell? ⟨P, 1, none⟩ = some (.int .i64 (b : Int)) := by rw [cell_row hr1]; rfl
      have i0 : (0 : Int) ≤ (b : Int) := by omega
      have i1 : (b : Int) < 12 := by omega
      clear hb1 hr1 hq hP
      refine wp_region_held_drew (S := fun w2 => Keeps (fun j => j = B) wq w2) (by kernel_rfl) (Keeps.of_new (drew_b _ _)) (fun hS0 => ?_)
      refine wpAnyH_take (i := 0) (oi := { dst := some 21, op := Go.Op.move (Go.Operand.tmp 0), type := 61, pos := "board.go:141", after := #[], guard := none }) (v := .pointer (some ⟨B, 0, none⟩)) rfl (by kernel_rfl) (by kernel_rfl) (by kernel_rfl) (fun _ _ _ h => h) (Or.inl ⟨by rfl, by intro w2 hSw; (try dsimp only at hSw); go_simp⟩) hS0 ?_
      try simp only [Act.put, List.setIfInBounds_toArray, List.set_cons_zero, List.set_cons_succ]
      refine wpAnyH_take (i := 1) (oi := { dst := some 22, op := Go.Op.fieldAddr 100 (Go.Operand.tmp 8) 0, type := 0, pos := "board.go:141", after := #[], guard := none }) (v := .pointer (some ⟨P, 0, none⟩)) rfl (by kernel_rfl) (by kernel_rfl) (by kernel_rfl) (fun _ _ _ h => h) (Or.inl ⟨by rfl, by intro w2 hSw; (try dsimp only at hSw); go_simp⟩) hS0 ?_
      try simp only [Act.put, List.setIfInBounds_toArray, List.set_cons_zero, List.set_cons_succ]
      refine wpAnyH_take (i := 2) (oi := { dst := some 23, op := Go.Op.load 3 (Go.Operand.tmp 22), type := 3, pos := "board.go:141", after := #[{ on := 1, ground := Go.Ground.data }], guard := none }) (v := .int .i64 ((1 : Nat) : Int)) rfl (by kernel_rfl) (by kernel_rfl) (by kernel_rfl) (fun _ _ _ h => h) (Or.inl ⟨by rfl, by intro w2 hSw; (try dsimp only at hSw); have z0 := (keep_cells hSw hPl hPB _).trans p0; go_simp⟩) hS0 ?_
      try simp only [Act.put, List.setIfInBounds_toArray, List.set_cons_zero, List.set_cons_succ]
      refine wpAnyH_take (i := 3) (oi := { dst := some 24, op := Go.Op.fieldAddr 100 (Go.Operand.tmp 8) 1, type := 0, pos := "board.go:141", after := #[], guard := none }) (v := .pointer (some ⟨P, 1, none⟩)) rfl (by kernel_rfl) (by kernel_rfl) (by kernel_rfl) (fun _ _ _ h => h) (Or.inl ⟨by rfl, by intro w2 hSw; (try dsimp only at hSw); go_simp⟩) hS0 ?_
      try simp only [Act.put, List.setIfInBounds_toArray, List.set_cons_zero, List.set_cons_succ]
      refine wpAnyH_take (i := 4) (oi := { dst := some 25, op := Go.Op.load 3 (Go.Operand.tmp 24), type := 3, pos := "board.go:141", after := #[{ on := 3, ground := Go.Ground.data }], guard := none }) (v := .int .i64 (b : Int)) rfl (by kernel_rfl) (by kernel_rfl) (by kernel_rfl) (fun _ _ _ h => h) (Or.inl ⟨by rfl, by intro w2 hSw; (try dsimp only at hSw); have z0 := (keep_cells hSw hPl hPB _).trans p1; go_simp⟩) hS0 ?_
      try simp only [Act.put, List.setIfInBounds_toArray, List.set_cons_zero, List.set_cons_succ]
      refine wpAnyH_take (i := 5) (oi := { dst := some 26, op := Go.Op.nilCheck (Go.Operand.tmp 21), type := 0, pos := "board.go:141", after := #[{ on := 0, ground := Go.Ground.data }], guard := none }) (v := .pointer (some ⟨B, 0, none⟩)) rfl (by kernel_rfl) (by kernel_rfl) (by kernel_rfl) (fun _ _ _ h => h) (Or.inl ⟨by rfl, by intro w2 hSw; (try dsimp only at hSw); go_simp⟩) hS0 ?_
      try simp only [Act.put, List.setIfInBounds_toArray, List.set_cons_zero, List.set_cons_succ]
      refine wpAnyH_take (i := 6) (oi := { dst := some 27, op := Go.Op.fieldAddr 91 (Go.Operand.tmp 26) 1, type := 0, pos := "board.go:141", after := #[{ on := 5, ground := Go.Ground.data }], guard := none }) (v := .pointer (some ⟨B, 4, none⟩)) rfl (by kernel_rfl) (by kernel_rfl) (by kernel_rfl) (fun _ _ _ h => h) (Or.inl ⟨by rfl, by intro w2 hSw; (try dsimp only at hSw); go_simp⟩) hS0 ?_
      try simp only [Act.put, List.setIfInBounds_toArray, List.set_cons_zero, List.set_cons_succ]
      refine wpAnyH_take (i := 7) (oi := { dst := some 28, op := Go.Op.indexAddr 88 (Go.Operand.tmp 27) (Go.Operand.tmp 23), type := 0, pos := "board.go:141", after := #[{ on := 6, ground := Go.Ground.data }, { on := 2, ground := Go.Ground.data }], guard := none }) (v := .pointer (some ⟨B, 16, none⟩)) rfl (by kernel_rfl) (by kernel_rfl) (by kernel_rfl) (fun _ _ _ h => h) (Or.inl ⟨by rfl, by intro w2 hSw; (try dsimp only at hSw); go_simp⟩) hS0 ?_
      try simp only [Act.put, List.setIfInBounds_toArray, List.set_cons_zero, List.set_cons_succ]
      refine wpAnyH_take (i := 8) (oi := { dst := some 29, op := Go.Op.indexAddr 86 (Go.Operand.tmp 28) (Go.Operand.tmp 25), type := 0, pos := "board.go:141", after := #[{ on := 7, ground := Go.Ground.data }, { on := 4, ground := Go.Ground.data }, { on := 0, ground := Go.Ground.phase }, { on := 1, ground := Go.Ground.phase }, { on := 2, ground := Go.Ground.phase }, { on := 3, ground := Go.Ground.phase }, { on := 4, ground := Go.Ground.phase }], guard := none }) (v := .pointer (some ⟨B, 16 + b, none⟩)) rfl (by kernel_rfl) (by kernel_rfl) (by kernel_rfl) (fun _ _ _ h => h) (Or.inl ⟨by rfl, by intro w2 hSw; (try dsimp only at hSw); go_simp⟩) hS0 ?_
      try simp only [Act.put, List.setIfInBounds_toArray, List.set_cons_zero, List.set_cons_succ]
      refine wpAnyH_ready (rs := [9]) (by kernel_rfl) (by simp) ?_
      refine AllReadyH.cons (o := { dst := none, op := Go.Op.store 3 (Go.Operand.tmp 29) (Go.Operand.const (Go.Value.int Go.IntKind.i64 (-1))), type := 0, pos := "board.go:141", after := #[{ on := 8, ground := Go.Ground.data }, { on := 0, ground := Go.Ground.phase }, { on := 1, ground := Go.Ground.phase }, { on := 2, ground := Go.Ground.phase }, { on := 3, ground := Go.Ground.phase }, { on := 4, ground := Go.Ground.phase }], guard := none }) rfl (fun K hK => ?_) AllReadyH.nil
      have f0 := HQ.out.hp (1 * 12 + b) (by omega)
      have f1 := HQ.out.frozen (4 + (1 * 12 + b))
      rw [show 4 + (1 * 12 + b) = 16 + b by omega] at f0 f1
      go_simp
      refine hK.out _ _ (hS0.trans (keeps_setCell _ _ _ _)) (fun hS1 => ?_)
      clear hK
      try simp only [Act.put, List.setIfInBounds_toArray, List.set_cons_zero, List.set_cons_succ]
      refine wpAnyH_done (by kernel_rfl) ?_ _
      have HQ2 := Lib.hid ((HQ.out.keep (Keeps.of_new (Mut := fun _ => False) (drew_b wq 1)) (fun e => e) (fun _ _ e => e) (fun _ _ e => e)).setP (1 * 12 + b) (-1) (by omega))
      have HE2 := Lib.hid ((hS1.block _ (lt_of_block HEQ.out) HEB.out).trans HEQ.out)
      have HK2 := Lib.hid (HKQ.out.trans hS1)
      clear hS0 hS1 p0 p1 HQ hPl hPB
      rw [show 4 + (1 * 12 + b) = 16 + b by omega] at HQ2
      go_wp2_with fail
      go_roundw
      case rel => exact ⟨1+1, by omega, by go_num, Lib.hid ⟨HQ2.out, HK2.out, HE2.out⟩⟩
      case measure => simp [intOf]
    · go_wp2_with fail
      go_ret
      exact ⟨E, rfl, by first | exact HEw.out | (rw [← HR.out]; exact HEw.out), ⟨rfl, fun _ => ⟨E, 0, rfl, fun j hj => by
        rw [cell_row HV.out.2.2, cell_row HV.out.2.2]
        rcases (by omega : j = 0 ∨ j = 1) with rfl | rfl <;> exact ⟨rfl, rfl⟩⟩⟩, HV.out.1, HV.out.2.1⟩
end
end Go.Proofs.Ytnodkgejggnehaa

namespace Go.Proofs.Ytnodkgejggnehaa
set_option linter.unusedSimpArgs false
set_option linter.unusedVariables false
open Go.RowKit Go.Shelf
/-- How many of the first left items have a partner. -/
def szK (pt : Nat → Int) (k : Nat) : Nat := (List.range k).countP fun i => pt i != -1
theorem szK_succ (pt : Nat → Int) (k : Nat) : szK pt (k + 1) = szK pt k + (if (pt k != -1) = true then 1 else 0) := by
  unfold szK
  rw [List.range_succ, List.countP_append, List.countP_singleton]
theorem szK_le (pt : Nat → Int) (k : Nat) : szK pt k ≤ k := by
  have := List.countP_le_length (p := fun i => pt i != -1) (l := List.range k)
  rw [List.length_range] at this
  exact this
theorem itS_at {l c k : Nat} (hk : k < c) : gAt (itS l c) k = ⟨(l : Int), (k : Int)⟩ := by
  rw [gAt_eq (by rw [itS_len]; exact hk)]
  simp [itS]
section
attribute [local go_sem ↓] exec_app at_app
attribute [local go_sem] Oper.semAt_some
set_option maxRecDepth 100000 in
set_option maxHeartbeats 4000000 in
theorem size79 (B : Nat) (sl sr : Int) (A : Option Addr) (n cap : Nat) (zs : List Rg) (A2 : Option Addr) (kn kc : Nat) (ks : List Int) (pt : Nat → Int) (op : Nat → Bool) (mp : Value) (c : Nat) (w : World) (h : Brd w B sl sr A n cap zs A2 kn kc ks pt op mp) (hc : sl = (c : Int)) (hc9 : c ≤ 12) :
    Calls Try.prog 79 #[.pointer (some ⟨B, 0, none⟩)] w fun e w' => e = .returned (.int .i64 (szK pt c : Int)) ∧ Below w.heap.size w w' := by
  have k1 := items67 B sl sr A n cap zs A2 kn kc ks pt op mp 0 c w h (by omega) (by rw [if_pos rfl]; exact hc.symm) (by omega)
  have K1 := Lib.hid k1
  have H := Lib.hid h
  clear k1 h hc
  go_enter Try.func79, Try.ntmps79
  go_wp2_with fail
  refine K1.out.mono ?_
  rintro en w1 ⟨⟨C, cp, rfl, hcp, hr, -⟩, hb1⟩
  have HR := Lib.hid hr
  have H1 := Lib.hid (H.out.below hb1 (Nat.le_refl _))
  have HB1 := Lib.hid hb1
  clear K1 hr hb1 H
  go_wp2_with fail
  go_loopw [3, 5, 9] (fun s p i wr => ∃ k : Nat, k ≤ c ∧ i = .int .i64 (k : Int) ∧ s = .int .i64 (szK pt k : Int) ∧ Hid (Below w1.heap.size w1 wr)) (fun s p i _ => c - (intOf i).toNat)
  case atStart => exact ⟨0, by omega, rfl, rfl, Lib.hid (Below.refl _ _)⟩
  case round =>
    obtain ⟨k, hk9, rfl, rfl, HV⟩ := hrel
    obtain ⟨wk, rfl⟩ : ∃ wk, wk = wr := ⟨_, rfl⟩
    by_cases hlt : k < c
    · obtain ⟨bz, oz, rfl, hcz⟩ := (HR.out.below HV.out (Nat.le_refl _)).2 (by omega)
      obtain ⟨z0, z1⟩ := hcz k hlt
      rw [itS_at hlt] at z0 z1
      simp only at z0 z1
      have Hs := Lib.hid (szK_succ pt k)
      have Hsl := Lib.hid (szK_le pt k)
      obtain ⟨s, hs⟩ : ∃ s, szK pt k = s := ⟨_, rfl⟩
      rw [hs] at Hs Hsl
      rw [hs]
      have i0 : (0 : Int) ≤ (k : Int) := by omega
      have i1 : (k : Int) < (c : Int) := by omega
      have hb1 := below_alloc_ wk (.cells #[.int .i64 0, .int .i64 (k : Int)] 100)
      have hr1 := heap_alloc_new_ wk (.cells #[.int .i64 0, .int .i64 (k : Int)] 100)
      clear hcz hs
      go_upto_region 5 with fail
      obtain ⟨V, hV⟩ : ∃ V, wk.alloc (.cells #[.int .i64 0, .int .i64 (k : Int)] 100) = V := ⟨_, rfl⟩
      obtain ⟨P, hP⟩ : ∃ P, wk.heap.size = P := ⟨_, rfl⟩
      try rw [hV]
      rw [hV] at hb1 hr1
      have HBV := Lib.hid (HV.out.trans (hb1.mono HV.out.size))
      rw [hP] at hr1 ⊢
      have p0 : V.cell? ⟨P, 0, none⟩ = some (.int .i64 0) := by rw [cell_row hr1]; rfl
      have p1 : V.cell? ⟨P, 1, none⟩ = some (.int .i64 (k : Int)) := by rw [cell_row hr1]; rfl
      have k2 := partner70 B sl sr A n cap zs A2 kn kc ks pt op mp 0 k V (H1.out.below HBV.out (Nat.le_refl _)) (by omega) (by omega)
      rw [Nat.zero_mul, Nat.zero_add] at k2
      obtain ⟨x, hx⟩ : ∃ x, pt k = x := ⟨_, rfl⟩
      rw [hx] at k2 Hs
      have K2 := Lib.hid k2
      have w1s : IntKind.i64.wrap ((s : Int) + 1) = (s : Int) + 1 := IntWalk.i64_in _ (by have := Hsl.out; omega)
      clear k2 hx z0 z1 hb1 hr1 hV hP
      go_wp2_with fail
      refine K2.out.mono ?_
      rintro en w2 ⟨rfl, hb2⟩
      have HB2 := Lib.hid (HBV.out.trans (hb2.mono HBV.out.size))
      clear K2 hb2 p0 p1
      by_cases h0 : x = -1
      · have d0 : (x != -1) = false := by rw [h0]; rfl
        have Hs2 := Lib.hid (show szK pt (k + 1) = s by rw [Hs.out, d0]; rfl)
        clear h0
        go_wp2_with fail
        go_roundw
        case rel => exact ⟨k + 1, by omega, by go_num, by rw [Hs2.out], HB2⟩
        case measure => simp [intOf]; omega
      · have d0 : (x != -1) = true := by rw [bne_iff_ne]; exact h0
        have Hs2 := Lib.hid (show szK pt (k + 1) = s + 1 by rw [Hs.out, d0]; rfl)
        clear h0
        go_wp2_with fail
        go_roundw
        case rel => exact ⟨k + 1, by omega, by go_num, by rw [Hs2.out]; go_num, HB2⟩
        case measure => simp [intOf]; omega
    · obtain rfl : k = c := by omega
      go_wp2_with fail
      go_ret
      exact ⟨rfl, HB1.out.trans (HV.out.mono HB1.out.size)⟩
end
end Go.Proofs.Ytnodkgejggnehaa
