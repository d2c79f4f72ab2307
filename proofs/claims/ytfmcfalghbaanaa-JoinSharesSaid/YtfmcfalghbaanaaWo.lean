/- Stage 2: a board without a pair. -/
import Derived.Test.YtfmcfalghbaanaaCkTop
namespace Go.Proofs.Ytfmcfalghbaanaa
set_option linter.unusedSimpArgs false
set_option linter.unusedVariables false
open Go.RowKit Go.Shelf
attribute [local go_sem] Oper.semAt_some
attribute [local go_sem ↓] exec_load78
attribute [local go_sem ↓] at_load78
attribute [local go_sem ↓] exec_store78
attribute [local go_sem ↓] at_store78
theorem Brd.setMap {X : Array Value} {A : Option Addr} {n cap : Nat} {off lo hi : Int} {T : Nat → Nat → Bool} {M : Nat} (h : Brd X A n cap off lo hi T M) (M' : Nat) : Brd (X.setIfInBounds 260 (.map (some M'))) A n cap off lo hi T M' := by
  refine ⟨by simp [h.size], ?_, ?_, ?_, ?_, fun a b ha hb => ?_, ?_⟩
  · rw [Array.getElem?_setIfInBounds_ne (by omega)]; exact h.c0
  · rw [Array.getElem?_setIfInBounds_ne (by omega)]; exact h.c1
  · rw [Array.getElem?_setIfInBounds_ne (by omega)]; exact h.c2
  · rw [Array.getElem?_setIfInBounds_ne (by omega)]; exact h.c3
  · rw [Array.getElem?_setIfInBounds_ne (by omega)]; exact h.tab a b ha hb
  · rw [Array.getElem?_setIfInBounds_self_of_lt (by rw [h.size]; omega)]
theorem res71 {tmps : Array Value} {W : World} {B : Nat} {X : Array Value} {t : TypeId} (h4 : tmps.getD 4 undef = .pointer (some ⟨B, 0, none⟩)) (hb : W.heap[B]? = some (.cells X t (0, 0))) (hs : X.size = 261) :
    (results Try.f71 tmps).run Try.prog W = .ok (.agg X) W := by
  have h1 := run_loadVar_row W B t 78 X (0, 0) _ hb Try.underlying78 rfl (by rw [hs]; kernel_rfl)
  have h2 : (results Try.f71 tmps).run Try.prog W = ((asAddr (tmps.getD 4 undef)).run Try.prog W).andThen fun a w₁ => (loadVar 78 a).run Try.prog w₁ := by
    simp only [results, show Try.f71.results = #[.cell 4 78] from rfl]
    simp [Sem.run_bind, Result.andThen]
  rw [h2, h4, show (asAddr (.pointer (some ⟨B, 0, none⟩))).run Try.prog W = .ok ⟨B, 0, none⟩ W from rfl, Result.andThen_ok, h1]
theorem four_cells {W : World} {k : Nat} {u v x y : Value} {t : TypeId} (h : W.heap[k]? = some (.cells #[u, v, x, y] t (0, 0))) : W.cell? ⟨k, 0, none⟩ = some u ∧ W.cell? ⟨k, 1, none⟩ = some v ∧ W.cell? ⟨k, 2, none⟩ = some x ∧ W.cell? ⟨k, 3, none⟩ = some y :=
  ⟨by rw [cell_row h]; rfl, by rw [cell_row h]; rfl, by rw [cell_row h]; rfl, by rw [cell_row h]; rfl⟩
set_option maxRecDepth 100000 in
set_option maxHeartbeats 4000000 in
theorem without71 (X : Array Value) (A : Option Addr) (n cap : Nat) (off lo hi : Int) (T : Nat → Nat → Bool) (M : Nat) (p q x y : Nat) (t u : Bool) (w : World) (hX : Brd X A n cap off lo hi T M)
    (hx : x = if t then 2 * p + 1 else 2 * p) (hy : y = if u then 2 * q + 1 else 2 * q) (hx16 : x < 16) (hy16 : y < 16) :
    Calls Try.prog 71 #[.agg X, .agg #[.int .i64 (p : Int), .bool t, .int .i64 (q : Int), .bool u]] w fun e w' => ∃ X' M', e = .returned (.agg X') ∧ Brd X' A n cap off lo hi (cut T x y) M' ∧ w'.heap[M']? = some (.map #[] 0) ∧ w.heap.size ≤ M' ∧ Below w.heap.size w w' := by
  have hmm := @run_makeMap Try.prog
  have hp8 : p < 8 := by cases t <;> simp at hx <;> omega
  have hq8 : q < 8 := by cases u <;> simp at hy <;> omega
  have C1 := Lib.hid (code_any hx (by omega))
  have C2 := Lib.hid (code_any hy (by omega))
  have ix0 : (0 : Int) ≤ (x : Int) := by omega
  have ix1 : (x : Int) < 16 := by omega
  have iy0 : (0 : Int) ≤ (y : Int) := by omega
  have iy1 : (y : Int) < 16 := by omega
  have HX := Lib.hid hX
  clear hx hy hX
  have hb1 := ((below_alloc_ w (.cells X 78)).trans ((below_alloc_ _ (.cells #[.int .i64 (p : Int), .bool t, .int .i64 (q : Int), .bool u] 57)).mono (by simp))).trans ((below_alloc_ _ (.cells Try.zeroCells78 78)).mono (by simp <;> omega))
  have eB : (((w.alloc (.cells X 78)).alloc (.cells #[.int .i64 (p : Int), .bool t, .int .i64 (q : Int), .bool u] 57)).alloc (.cells Try.zeroCells78 78)).heap[w.heap.size]? = some (.cells X 78 (0, 0)) := hal_old (hal_old (heap_alloc_new_ _ _))
  have eP : (((w.alloc (.cells X 78)).alloc (.cells #[.int .i64 (p : Int), .bool t, .int .i64 (q : Int), .bool u] 57)).alloc (.cells Try.zeroCells78 78)).heap[w.heap.size + 1]? = some (.cells #[.int .i64 (p : Int), .bool t, .int .i64 (q : Int), .bool u] 57 (0, 0)) := hal_old (hal_new (by simp))
  have eZ : (((w.alloc (.cells X 78)).alloc (.cells #[.int .i64 (p : Int), .bool t, .int .i64 (q : Int), .bool u] 57)).alloc (.cells Try.zeroCells78 78)).heap[w.heap.size + 1 + 1]? = some (.cells Try.zeroCells78 78 (0, 0)) := hal_new (by simp)
  refine (callsIn_wide (n := 3)).1 ?_
  refine callsIn_of_wp Try.func71 rfl trivial ?_ rfl
  simp only [Try.ntmps71, List.size_toArray, List.length_cons, List.length_nil, Nat.reduceAdd, Nat.reduceSub, Array.replicate_succ, Array.replicate_zero, List.push_toArray, List.append_toArray, List.nil_append, List.cons_append]
  gi_wp2_with fail
  obtain ⟨V, hV⟩ : ∃ V, ((w.alloc (.cells X 78)).alloc (.cells #[.int .i64 (p : Int), .bool t, .int .i64 (q : Int), .bool u] 57)).alloc (.cells Try.zeroCells78 78) = V := ⟨_, rfl⟩
  rw [hV] at hb1 eB eP eZ ⊢
  clear hV
  have HB := Lib.hid eB
  have HP := Lib.hid eP
  have HZ := Lib.hid eZ
  have Hb1 := Lib.hid hb1
  clear eB eP eZ hb1
  refine Out.region_R (z := 9) (S := Below V.heap.size V) (by kernel_rfl) ?_
  have hS0 : Below V.heap.size V V.drew := drew_b V 1
  refine Out.anyR_free (i := 0) (oi := { dst := some 5, op := Op.fieldAddr 57 (Operand.tmp 3) 0, type := 0, pos := "state.go:101", after := #[], guard := none }) (v := .pointer (some ⟨w.heap.size + 1, 0, none⟩)) rfl (by decide) (by kernel_rfl) (by kernel_rfl) (by kernel_rfl) (fun _ _ _ h => h) (Or.inl ⟨by rfl, by intro W' hSw; go_simp⟩) hS0 ?_
  simp only [Act.put, List.setIfInBounds_toArray, List.set_cons_zero, List.set_cons_succ]
  refine Out.anyR_free (i := 3) (oi := { dst := some 8, op := Op.fieldAddr 57 (Operand.tmp 3) 1, type := 0, pos := "state.go:101", after := #[], guard := none }) (v := .pointer (some ⟨w.heap.size + 1, 2, none⟩)) rfl (by decide) (by kernel_rfl) (by kernel_rfl) (by kernel_rfl) (fun _ _ _ h => h) (Or.inl ⟨by rfl, by intro W' hSw; go_simp⟩) hS0 ?_
  simp only [Act.put, List.setIfInBounds_toArray, List.set_cons_zero, List.set_cons_succ]
  refine Out.anyR_free (i := 6) (oi := { dst := some 11, op := Op.fieldAddr 78 (Operand.tmp 2) 1, type := 0, pos := "state.go:101", after := #[], guard := none }) (v := .pointer (some ⟨w.heap.size, 4, none⟩)) rfl (by decide) (by kernel_rfl) (by kernel_rfl) (by kernel_rfl) (fun _ _ _ h => h) (Or.inl ⟨by rfl, by intro W' hSw; go_simp⟩) hS0 ?_
  simp only [Act.put, List.setIfInBounds_toArray, List.set_cons_zero, List.set_cons_succ]
  refine Out.anyR_take (i := 1) (oi := { dst := some 6, op := Op.load 28 (Operand.tmp 5), type := 28, pos := "state.go:101", after := #[{ on := 0, ground := Ground.data }], guard := none }) (v := .agg #[.int .i64 (p : Int), .bool t]) rfl (by decide) (by kernel_rfl) (by kernel_rfl) (by kernel_rfl) (by kernel_rfl) (fun _ _ _ h => h) (Or.inl ⟨by rfl, by intro W' hSw; obtain ⟨k0, k1, k2, k3⟩ := four_cells ((hSw.block _ (lt_of_block HP.out)).trans HP.out); go_simp⟩) hS0 ?_
  simp only [Act.put, List.setIfInBounds_toArray, List.set_cons_zero, List.set_cons_succ]
  refine Out.anyR_take (i := 4) (oi := { dst := some 9, op := Op.load 28 (Operand.tmp 8), type := 28, pos := "state.go:101", after := #[{ on := 3, ground := Ground.data }], guard := none }) (v := .agg #[.int .i64 (q : Int), .bool u]) rfl (by decide) (by kernel_rfl) (by kernel_rfl) (by kernel_rfl) (by kernel_rfl) (fun _ _ _ h => h) (Or.inl ⟨by rfl, by intro W' hSw; obtain ⟨k0, k1, k2, k3⟩ := four_cells ((hSw.block _ (lt_of_block HP.out)).trans HP.out); go_simp⟩) hS0 ?_
  simp only [Act.put, List.setIfInBounds_toArray, List.set_cons_zero, List.set_cons_succ]
  refine Out.anyR_one (i := 2) (by kernel_rfl) rfl (by rfl) ?_
  intro K hK
  have HKK := Lib.hid hK
  clear hK
  go_simp
  refine ⟨trivial, (callsIn_wide.2 (C1.out _)).mono ?_⟩
  rintro e V2 ⟨rfl, hV2⟩
  have hs2 : Below V.heap.size V V2 := by rw [hV2]; exact hS0.trans (show Below V.heap.size V.drew _ from below_alloc_ V.drew _)
  clear hV2
  refine HKK.out _ _ (fun _ _ => hs2) ?_
  clear HKK K
  refine Out.anyR_free (i := 7) (oi := { dst := some 12, op := Op.indexAddr 75 (Operand.tmp 11) (Operand.tmp 7), type := 0, pos := "state.go:101", after := #[{ on := 6, ground := Ground.data }, { on := 2, ground := Ground.data }], guard := none }) (v := .pointer (some ⟨w.heap.size, 4 + x * 16, none⟩)) rfl (by decide) (by kernel_rfl) (by kernel_rfl) (by kernel_rfl) (fun _ _ _ h => h) (Or.inl ⟨by rfl, by intro W' hSw; go_simp⟩) hs2 ?_
  simp only [Act.put, List.setIfInBounds_toArray, List.set_cons_zero, List.set_cons_succ]
  refine Out.anyR_one (i := 5) (by kernel_rfl) rfl (by rfl) ?_
  intro K hK
  have HKK := Lib.hid hK
  clear hK
  go_simp
  refine ⟨trivial, (callsIn_wide.2 (C2.out _)).mono ?_⟩
  rintro e V3 ⟨rfl, hV3⟩
  have hs3 : Below V.heap.size V V3 := by rw [hV3]; exact hs2.trans ((below_alloc_ _ _).mono hs2.size)
  clear hV3
  refine HKK.out _ _ (fun _ _ => hs3) ?_
  clear HKK K
  refine Out.anyR_free (i := 8) (oi := { dst := some 13, op := Op.indexAddr 73 (Operand.tmp 12) (Operand.tmp 10), type := 0, pos := "state.go:101", after := #[{ on := 7, ground := Ground.data }, { on := 5, ground := Ground.data }, { on := 0, ground := Ground.phase }, { on := 1, ground := Ground.phase }, { on := 2, ground := Ground.phase }, { on := 3, ground := Ground.phase }, { on := 4, ground := Ground.phase }, { on := 5, ground := Ground.phase }], guard := none }) (v := .pointer (some ⟨w.heap.size, 4 + x * 16 + y, none⟩)) rfl (by decide) (by kernel_rfl) (by kernel_rfl) (by kernel_rfl) (fun _ _ _ h => h) (Or.inl ⟨by rfl, by intro W' hSw; go_simp⟩) hs3 ?_
  simp only [Act.put, List.setIfInBounds_toArray, List.set_cons_zero, List.set_cons_succ]
  clear hs2 hS0
  have h3B := (hs3.block _ (lt_of_block HB.out)).trans HB.out
  have cT : V3.cell? ⟨w.heap.size, 4 + x * 16 + y, none⟩ = some (.bool (T x y)) := by rw [cell_row h3B]; exact HX.out.tab x y hx16 hy16
  have fT : V3.frozen? ⟨w.heap.size, 4 + x * 16 + y, none⟩ = false := frozen_row h3B
  refine Out.anyR_one (i := 9) (by kernel_rfl) rfl (by rfl) ?_
  intro K hK
  have HKK := Lib.hid hK
  clear hK
  go_simp
  refine HKK.out _ _ (fun e => absurd rfl e) ?_
  clear HKK K
  refine Out.anyR_done (by kernel_rfl) ?_ _
  have h4B := set_same (4 + x * 16 + y) (.bool false) h3B
  have h4K := keeps_setCell V3 w.heap.size (4 + x * 16 + y) (.bool false)
  have h4Z := (h4K.block _ (Nat.lt_of_lt_of_le (lt_of_block HZ.out) hs3.size) (by omega)).trans ((hs3.block _ (lt_of_block HZ.out)).trans HZ.out)
  have hX1 := HX.out.set x y hx16 hy16 false
  obtain ⟨X1, hX1e⟩ : ∃ X1, X.setIfInBounds (4 + x * 16 + y) (.bool false) = X1 := ⟨_, rfl⟩
  rw [hX1e] at h4B hX1
  have hk4 : Keeps (fun j => w.heap.size ≤ j) V (V3.setCell ⟨w.heap.size, 4 + x * 16 + y, none⟩ (.bool false)) := (Keeps.of_new hs3).trans (h4K.mono (fun _ _ e => by omega))
  have hsz4 : V3.heap.size ≤ (V3.setCell ⟨w.heap.size, 4 + x * 16 + y, none⟩ (.bool false)).heap.size := h4K.size
  obtain ⟨V4, hV4⟩ : ∃ V4, V3.setCell ⟨w.heap.size, 4 + x * 16 + y, none⟩ (.bool false) = V4 := ⟨_, rfl⟩
  rw [hV4] at h4B h4Z hk4 hsz4 ⊢
  clear hV4 h4K cT fT h3B hs3 hX1e
  have h5B : (V4.alloc (.map #[] 0)).heap[w.heap.size]? = some (.cells X1 78 (0, 0)) := hal_old h4B
  have h5Z : (V4.alloc (.map #[] 0)).heap[w.heap.size + 1 + 1]? = some (.cells Try.zeroCells78 78 (0, 0)) := hal_old h4Z
  have h5M : (V4.alloc (.map #[] 0)).heap[V4.heap.size]? = some (.map #[] 0) := heap_alloc_new_ _ _
  have c260 : (V4.alloc (.map #[] 0)).cell? ⟨w.heap.size, 260, none⟩ = some (.map (some M)) := by rw [cell_row h5B]; exact hX1.map
  have f260 : (V4.alloc (.map #[] 0)).frozen? ⟨w.heap.size, 260, none⟩ = false := frozen_row h5B
  have hl4 := lt_of_block h4B
  have hlz := lt_of_block h4Z
  have hX2 := hX1.setMap V4.heap.size
  have hq6 := keeps_setCell V4 w.heap.size 260 (.map (some V4.heap.size))
  have h6B : ((V4.setCell ⟨w.heap.size, 260, none⟩ (.map (some V4.heap.size))).alloc (.map #[] 0)).heap[w.heap.size]? = some (.cells (X1.setIfInBounds 260 (.map (some V4.heap.size))) 78 (0, 0)) := hal_old (set_same 260 (.map (some V4.heap.size)) h4B)
  have h6Z : ((V4.setCell ⟨w.heap.size, 260, none⟩ (.map (some V4.heap.size))).alloc (.map #[] 0)).heap[w.heap.size + 1 + 1]? = some (.cells Try.zeroCells78 78 (0, 0)) := hal_old (set_other _ h4Z (by omega))
  have h6M : ((V4.setCell ⟨w.heap.size, 260, none⟩ (.map (some V4.heap.size))).alloc (.map #[] 0)).heap[V4.heap.size]? = some (.map #[] 0) := hal_new (by simp)
  have h6K : Keeps (fun j => w.heap.size ≤ j) V4 ((V4.setCell ⟨w.heap.size, 260, none⟩ (.map (some V4.heap.size))).alloc (.map #[] 0)) := (hq6.mono (fun _ _ e => by omega)).trans (keep_alloc _ _ _)
  have hld := run_ld78 h6B hX2.size
  have hst := run_st78 h6Z zero_size hX2.size hX2.one
  obtain ⟨X2, hX2e⟩ : ∃ X2, X1.setIfInBounds 260 (.map (some V4.heap.size)) = X2 := ⟨_, rfl⟩
  rw [hX2e] at hX2 h6B hld hst
  clear hX2e
  have HX2 := Lib.hid hX2
  have H6M := Lib.hid h6M
  have H6Z := Lib.hid h6Z
  have hk6 := Lib.hid (hk4.trans h6K)
  clear hX2 h6M h6Z h6K h6B hq6 h5B h5Z h5M h4B h4Z hX1 C1 C2 HP HZ HB
  have hT : (fun a b => if a = x ∧ b = y then false else T a b) = cut T x y := by
    funext a b
    unfold cut
    by_cases h1 : a = x <;> by_cases h2 : b = y <;> simp [h1, h2]
  have HT := Lib.hid hT
  clear hT
  gi_wp2_with fail
  have q7 := keeps_setRow ((V4.setCell ⟨w.heap.size, 260, none⟩ (.map (some V4.heap.size))).alloc (.map #[] 0)) (w.heap.size + 1 + 1) X2
  refine bodyPost_ret (v := .agg X2) (res71 rfl (setRow_same X2 H6Z.out) HX2.out.size) rfl ⟨X2, V4.heap.size, rfl, ?_, ?_, by omega, ?_⟩
  · rw [← HT.out]; exact HX2.out
  · exact (q7.block _ (lt_of_block H6M.out) (by omega)).trans H6M.out
  · have hsV := Hb1.out.size
    exact Hb1.out.trans ((hk6.out.trans (q7.mono (Mut' := fun j => w.heap.size ≤ j) (fun _ _ e => by omega))).below (by omega) (fun k hk e => by omega))
end Go.Proofs.Ytfmcfalghbaanaa
