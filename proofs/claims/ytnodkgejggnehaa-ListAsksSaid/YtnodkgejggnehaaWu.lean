/- Stage 5: a sheet without a link: the walk. -/
import Derived.Test.YtnodkgejggnehaaWo
namespace Go.Proofs.Ytnodkgejggnehaa
set_option linter.unusedSimpArgs false
set_option linter.unusedVariables false
open Go.RowKit Go.Shelf
theorem res36 {tmps : Array Value} {W : World} {R : Nat} {x y z u : Value} (h2 : tmps.getD 4 undef = .pointer (some ⟨R, 0, none⟩)) (hR : W.heap[R]? = some (.cells #[x, y, z, u] 25 (0, 0))) :
    (results Try.f36 tmps).run Try.prog W = .ok (.agg #[x, y, z, u]) W := by
  have z0 : W.cell? ⟨R, 0, none⟩ = some x := by rw [cell_row hR]; rfl
  have z1 : W.cell? ⟨R, 1, none⟩ = some y := by rw [cell_row hR]; rfl
  have z2 : W.cell? ⟨R, 2, none⟩ = some z := by rw [cell_row hR]; rfl
  have z3 : W.cell? ⟨R, 3, none⟩ = some u := by rw [cell_row hR]; rfl
  have hr : (results Try.f36 tmps).run Try.prog W = ((asAddr (tmps.getD 4 undef)).run Try.prog W).andThen fun a w₁ => (loadVar 25 a).run Try.prog w₁ := by
    simp only [results, Try.results36]
    simp [Sem.run_bind, Result.andThen]
  rw [hr, h2]
  simp [go_sem, z0, z1, z2, z3]
attribute [local go_sem ↓] exec_app at_app
attribute [local go_sem] Oper.semAt_some
set_option maxRecDepth 100000 in
set_option maxHeartbeats 16000000 in
theorem without36n (sl sr : Int) (A : Option Addr) (n cap : Nat) (zs : List Rg) (A2 : Option Addr) (kn kc : Nat) (ks : List Int) (k : Nat) (w : World) (h : Rgs w A n zs) (hI : Ints w A2 kn ks) (hn : n ≤ 1000) (hk : kn ≤ 1000) (hgb : ∀ q, q < kn → -1000000 ≤ iAt ks q ∧ iAt ks q ≤ 1000000) :
    Calls Try.prog 36 #[.agg #[.int .i64 sl, .int .i64 sr, .slice A n cap, .slice A2 kn kc], .int .i64 (k : Int)] w fun e w' => ∃ C c C2 c2, e = .returned (.agg #[.int .i64 sl, .int .i64 sr, .slice C (wzP k zs n).length c, .slice C2 kn c2]) ∧ (wzP k zs n).length ≤ c ∧ kn ≤ c2 ∧ Rgs w' C (wzP k zs n).length (wzP k zs n) ∧ Ints w' C2 kn (wkP k ks kn) ∧ ((∀ a, C = some a → w.heap.size ≤ a.block) ∧ (∀ a, C2 = some a → w.heap.size ≤ a.block)) ∧ Below w.heap.size w w' := by
  have hb0 := below_alloc_ w (.cells #[.int .i64 sl, .int .i64 sr, .slice A n cap, .slice A2 kn kc] 25)
  have hr0 := heap_alloc_new_ w (.cells #[.int .i64 sl, .int .i64 sr, .slice A n cap, .slice A2 kn kc] 25)
  have hs0 : (w.alloc (.cells #[.int .i64 sl, .int .i64 sr, .slice A n cap, .slice A2 kn kc] 25)).heap.size = w.heap.size + 1 := by simp
  obtain ⟨w0, hW0⟩ : ∃ w0, w.alloc (.cells #[.int .i64 sl, .int .i64 sr, .slice A n cap, .slice A2 kn kc] 25) = w0 := ⟨_, rfl⟩
  rw [hW0] at hb0 hr0 hs0
  have hb2 := below_alloc_ w0 (.cells #[.int .i64 0, .int .i64 0, .slice none 0 0, .slice none 0 0] 25)
  have hr2 := heap_alloc_new_ w0 (.cells #[.int .i64 0, .int .i64 0, .slice none 0 0, .slice none 0 0] 25)
  have hs2 : (w0.alloc (.cells #[.int .i64 0, .int .i64 0, .slice none 0 0, .slice none 0 0] 25)).heap.size = w0.heap.size + 1 := by simp
  obtain ⟨w2, hW2⟩ : ∃ w2, w0.alloc (.cells #[.int .i64 0, .int .i64 0, .slice none 0 0, .slice none 0 0] 25) = w2 := ⟨_, rfl⟩
  rw [hW2] at hb2 hr2 hs2
  have hb3 := below_alloc_ w2 (.cells #[.int .i64 sl, .int .i64 sr, .slice none 0 0, .slice none 0 0] 25)
  have hr3 := heap_alloc_new_ w2 (.cells #[.int .i64 sl, .int .i64 sr, .slice none 0 0, .slice none 0 0] 25)
  have hs3 : (w2.alloc (.cells #[.int .i64 sl, .int .i64 sr, .slice none 0 0, .slice none 0 0] 25)).heap.size = w2.heap.size + 1 := by simp
  obtain ⟨w3, hW3⟩ : ∃ w3, w2.alloc (.cells #[.int .i64 sl, .int .i64 sr, .slice none 0 0, .slice none 0 0] 25) = w3 := ⟨_, rfl⟩
  rw [hW3] at hb3 hr3 hs3
  obtain ⟨R, hR⟩ : ∃ R, w.heap.size = R := ⟨_, rfl⟩
  have hb02 : Below w.heap.size w w2 := hb0.trans (hb2.mono hb0.size)
  have hbb : Below w.heap.size w w3 := hb02.trans (hb3.mono hb02.size)
  have hr02 := (hb2.block _ (lt_of_block hr0)).trans hr0
  replace hr0 := (hb3.block _ (lt_of_block hr02)).trans hr02
  replace hr2 := (hb3.block _ (lt_of_block hr2)).trans hr2
  rw [hs0] at hr2
  rw [hs2, hs0] at hr3
  rw [hR] at hr0 hr2 hr3
  have x0 : w2.cell? ⟨R, 0, none⟩ = some (.int .i64 sl) := by rw [← hR, cell_row hr02]; rfl
  have x1 : w2.cell? ⟨R, 1, none⟩ = some (.int .i64 sr) := by rw [← hR, cell_row hr02]; rfl
  have hsz : w3.heap.size = R + 3 := by omega
  have h3 := h.below hbb (Nat.le_refl _)
  have hI3 := hI.below hbb (Nat.le_refl _)
  have h30 : WoI (R + 2) (R + 3) sl sr w3 (wzP k zs 0) [] w3 := ⟨⟨_, _, hr3, ⟨rfl, .inl ⟨rfl, rfl⟩⟩, ⟨rfl, .inl ⟨rfl, rfl⟩⟩, fun g e => (by cases e), fun g e => (by cases e), fun g e => (by cases e)⟩, Keeps.refl _ _⟩
  have HA := Lib.hid (show ∀ b o, A = some ⟨b, o, none⟩ → 0 < n → b < R from fun b o e h0 => by
    obtain ⟨b', o', e', hc⟩ := h.2 h0
    rw [e] at e'; cases e'
    have := lt_of_cell (hc 0 h0).1
    omega)
  have HA2 := Lib.hid (show ∀ b o, A2 = some ⟨b, o, none⟩ → 0 < kn → b < R from fun b o e h0 => by
    obtain ⟨b', o', e', hc⟩ := hI.2 h0
    rw [e] at e'; cases e'
    have := lt_of_cell (hc 0 h0)
    omega)
  have hzl := h.1
  have hkl := hI.1
  have HRg := Lib.hid h3
  have Hgb := Lib.hid hgb
  clear hgb
  have HI := Lib.hid hI3
  have HB := Lib.hid hbb
  have HW0 := Lib.hid hW0
  have HW2 := Lib.hid hW2
  have HW3 := Lib.hid hW3
  have HR := Lib.hid hR
  have Hr0 := Lib.hid hr0
  have Hr2 := Lib.hid hr2
  have H30 := Lib.hid h30
  have Hsz := Lib.hid hsz
  have Hzl := Lib.hid hzl
  have Hkl := Lib.hid hkl
  clear h hI hb0 hr0 hW0 hR hs0 hb2 hr2 hW2 hbb hs2 hb3 hr3 hs3 hW3 hb02 hr02 hsz h3 hI3 h30 hzl hkl
  refine (callsIn_wide (n := 3)).1 ?_
  refine callsIn_of_wp Try.func36 rfl trivial ?_ rfl
  simp only [Try.ntmps36, List.size_toArray, List.length_cons, List.length_nil, Nat.reduceAdd, Nat.reduceSub, Array.replicate_succ, Array.replicate_zero, List.push_toArray, List.append_toArray, List.nil_append, List.cons_append]
  gi_wp2_with fail
  try rw [HW0.out]
  gi_wp2_with fail
  try rw [HW2.out]
  try rw [HR.out]
  gi_wp2_with fail
  try rw [HW3.out]
  try simp only [Nat.add_assoc, Nat.reduceAdd]
  clear x0 x1
  gi_loopw [6] (fun i wr => ∃ q : Nat, q ≤ n ∧ i = .int .i64 (q : Int) ∧ Hid (WoI (R + 2) (R + 3) sl sr w3 (wzP k zs q) [] wr)) (fun i _ => n - (intOf i).toNat)
  case atStart => exact ⟨0, Nat.zero_le _, rfl, H30⟩
  case round =>
    obtain ⟨q, hq9, rfl, HV⟩ := hrel
    obtain ⟨wk, rfl⟩ : ∃ wk, wk = wr := ⟨_, rfl⟩
    have hR0 := (HV.out.keep.block _ (lt_of_block Hr0.out) (by omega)).trans Hr0.out
    have x2 : wk.cell? ⟨R, 2, none⟩ = some (.slice A n cap) := by rw [cell_row hR0]; rfl
    have Hq0 := Lib.hid hR0
    clear hR0
    by_cases hlt : q < n
    · have i0 : (0 : Int) ≤ (q : Int) := by omega
      have i1 : (q : Int) < (n : Int) := by omega
      by_cases hqk : q = k
      · have d1 : ((q : Int) != (k : Int)) = false := by rw [bne_eq_false_iff_eq, hqk]
        have Hno := Lib.hid (wzP_no (zs := zs) hqk)
        clear hqk
        gi_wp2_with fail
        go_roundw
        case rel => exact ⟨q + 1, by omega, by go_num, Lib.hid (by rw [Hno.out]; exact HV.out)⟩
        case measure => simp [intOf]; omega
      · have d1 : ((q : Int) != (k : Int)) = true := by rw [bne_iff_ne]; omega
        have Hyes := Lib.hid (wzP_yes (zs := zs) hqk)
        have hrg := HRg.out.keepN HV.out.keep (fun h0 a e e2 => by
          obtain ⟨b9, o9, e9, _⟩ := HRg.out.2 h0
          rw [e] at e9; cases e9
          have := HA.out b9 o9 e h0
          change b9 = R + 2 at e2; omega)
        obtain ⟨bz, oz, ez, hcz⟩ := hrg.2 (by omega)
        have hbz : bz < R := HA.out bz oz ez (by omega)
        subst ez
        have hcA := (hcz q hlt).1
        have hcB := (hcz q hlt).2
        obtain ⟨ga, gb, hgg⟩ : ∃ ga gb, gAt zs q = ⟨ga, gb⟩ := ⟨_, _, rfl⟩
        rw [hgg] at hcA hcB
        simp only at hcA hcB
        obtain ⟨vL, vK, hX0, hvL, hnext⟩ := HV.out.link (by omega) Hsz.out.symm (by have := wzP_len k zs q; omega) ga gb
        have HcA := Lib.hid hcA
        have HcB := Lib.hid hcB
        have HX0 := Lib.hid hX0
        have Hnext := Lib.hid hnext
        have HvL := Lib.hid hvL
        have Hgg := Lib.hid hgg
        clear hrg hcz hqk hcA hcB hgg hnext hvL
        gi_wp2_with fail
        rename_i Q1 K1 hK1
        have HK1 := Lib.hid hK1
        clear hK1
        refine Code.wpIn_mono (Q := Exit.then K1 (fun _ _ _ => False)) (fun e a w h => by
          cases e with
          | normal => exact h
          | ret => exact h.elim
          | exit id => exact h.elim
          | goto l => exact h.elim
          | panic c => exact h.elim
          | outgrown => exact h.elim) ?_
        have hwkR : R + 3 ≤ wk.heap.size := by have := HV.out.keep.size; have := Hsz.out; omega
        have hS0 : Keeps (fun j => R + 3 ≤ j) wk wk.drew := Keeps.of_new (drew_b wk 1)
        refine Out.region_R (z := 10) (S := fun W' => Keeps (fun j => R + 3 ≤ j) wk W') (by kernel_rfl) ?_
        refine Out.anyR_take (i := 0) (oi := { dst := some 24, op := Go.Op.fieldAddr 25 (Go.Operand.tmp 5) 2, type := 0, pos := "ref.go:164", after := #[], guard := none }) (v := .pointer (some ⟨R + 2, 2, none⟩)) rfl (by decide) (by kernel_rfl) (by kernel_rfl) (by kernel_rfl) (by kernel_rfl) (fun _ _ _ h => h) (Or.inl ⟨by rfl, by intro W' hSw; (try dsimp only at hSw); go_simp⟩) hS0 ?_
        try simp only [Act.put, List.setIfInBounds_toArray, List.set_cons_zero, List.set_cons_succ]
        refine Out.anyR_take (i := 1) (oi := { dst := some 25, op := Go.Op.load 22 (Go.Operand.tmp 24), type := 22, pos := "ref.go:164", after := #[{ on := 0, ground := Go.Ground.data }], guard := none }) (v := vL) rfl (by decide) (by kernel_rfl) (by kernel_rfl) (by kernel_rfl) (by kernel_rfl) (fun _ _ _ h => h) (Or.inl ⟨by rfl, by intro W' hSw; (try dsimp only at hSw); have y0 := (hSw.block _ (lt_of_block hX0) (by omega)).trans hX0; have y1 : W'.cell? ⟨R + 2, 2, none⟩ = some vL := by {rw [cell_row y0]; rfl}; go_simp⟩) hS0 ?_
        try simp only [Act.put, List.setIfInBounds_toArray, List.set_cons_zero, List.set_cons_succ]
        refine Out.anyR_take (i := 2) (oi := { dst := some 26, op := Go.Op.fieldAddr 25 (Go.Operand.tmp 2) 2, type := 0, pos := "ref.go:164", after := #[], guard := none }) (v := .pointer (some ⟨R, 2, none⟩)) rfl (by decide) (by kernel_rfl) (by kernel_rfl) (by kernel_rfl) (by kernel_rfl) (fun _ _ _ h => h) (Or.inl ⟨by rfl, by intro W' hSw; (try dsimp only at hSw); go_simp⟩) hS0 ?_
        try simp only [Act.put, List.setIfInBounds_toArray, List.set_cons_zero, List.set_cons_succ]
        refine Out.anyR_take (i := 3) (oi := { dst := some 27, op := Go.Op.load 22 (Go.Operand.tmp 26), type := 22, pos := "ref.go:164", after := #[{ on := 2, ground := Go.Ground.data }], guard := none }) (v := .slice (some ⟨bz, oz, none⟩) n cap) rfl (by decide) (by kernel_rfl) (by kernel_rfl) (by kernel_rfl) (by kernel_rfl) (fun _ _ _ h => h) (Or.inl ⟨by rfl, by intro W' hSw; (try dsimp only at hSw); have y0 := (hSw.block _ (lt_of_block Hq0.out) (by omega)).trans Hq0.out; have y1 : W'.cell? ⟨R, 2, none⟩ = some (.slice (some ⟨bz, oz, none⟩) n cap) := by {rw [cell_row y0]; rfl}; go_simp⟩) hS0 ?_
        try simp only [Act.put, List.setIfInBounds_toArray, List.set_cons_zero, List.set_cons_succ]
        refine Out.anyR_take (i := 4) (oi := { dst := some 28, op := Go.Op.move (Go.Operand.tmp 6), type := 3, pos := "ref.go:164", after := #[], guard := none }) (v := .int .i64 (q : Int)) rfl (by decide) (by kernel_rfl) (by kernel_rfl) (by kernel_rfl) (by kernel_rfl) (fun _ _ _ h => h) (Or.inl ⟨by rfl, by intro W' hSw; (try dsimp only at hSw); go_simp⟩) hS0 ?_
        try simp only [Act.put, List.setIfInBounds_toArray, List.set_cons_zero, List.set_cons_succ]
        refine Out.anyR_take (i := 5) (oi := { dst := some 29, op := Go.Op.indexAddr 22 (Go.Operand.tmp 27) (Go.Operand.tmp 28), type := 0, pos := "ref.go:164", after := #[{ on := 3, ground := Go.Ground.data }, { on := 4, ground := Go.Ground.data }], guard := none }) (v := .pointer (some ⟨bz, oz + q * 2, none⟩)) rfl (by decide) (by kernel_rfl) (by kernel_rfl) (by kernel_rfl) (by kernel_rfl) (fun _ _ _ h => h) (Or.inl ⟨by rfl, by intro W' hSw; (try dsimp only at hSw); go_simp⟩) hS0 ?_
        try simp only [Act.put, List.setIfInBounds_toArray, List.set_cons_zero, List.set_cons_succ]
        refine Out.anyR_take (i := 6) (oi := { dst := some 30, op := Go.Op.load 55 (Go.Operand.tmp 29), type := 55, pos := "ref.go:164", after := #[{ on := 5, ground := Go.Ground.data }], guard := none }) (v := .agg #[.int .i64 ga, .int .i64 gb]) rfl (by decide) (by kernel_rfl) (by kernel_rfl) (by kernel_rfl) (by kernel_rfl) (fun _ _ _ h => h) (Or.inl ⟨by rfl, by intro W' hSw; (try dsimp only at hSw); have y0 := (keep_cells hSw (lt_of_cell HcA.out) (by omega) _).trans HcA.out; have y1 := (keep_cells hSw (lt_of_cell HcB.out) (by omega) _).trans HcB.out; go_simp⟩) hS0 ?_
        try simp only [Act.put, List.setIfInBounds_toArray, List.set_cons_zero, List.set_cons_succ]
        obtain ⟨X, hX⟩ : ∃ X, wk.drew = X := ⟨_, rfl⟩
        have hkX : Keeps (fun _ => False) wk X := by rw [← hX]; exact Keeps.of_new (drew_b wk 1)
        rw [hX] at hS0 ⊢
        clear hX
        refine Out.anyR_one (i := 7) (by kernel_rfl) rfl (by rfl) ?_
        intro K hK
        have HKK := Lib.hid hK
        clear hK
        go_simp
        have hrE := heap_alloc_new_ X (.cells #[.int .i64 ga, .int .i64 gb] 55)
        have hkE : Keeps (fun _ => False) X (X.alloc (.cells #[.int .i64 ga, .int .i64 gb] 55)) := keep_alloc _ _ _
        obtain ⟨V, hV⟩ : ∃ V, X.alloc (.cells #[.int .i64 ga, .int .i64 gb] 55) = V := ⟨_, rfl⟩
        obtain ⟨P, hP⟩ : ∃ P, X.heap.size = P := ⟨_, rfl⟩
        rw [hV] at hrE hkE ⊢
        rw [hP] at hrE ⊢
        have hS1 := hS0.trans hkE.none
        refine HKK.out _ _ (fun _ _ => hS1) ?_
        clear HKK K hV hP
        try simp only [Act.put, List.setIfInBounds_toArray, List.set_cons_zero, List.set_cons_succ]
        obtain ⟨C, c, W1, hrun, hW1, hkW1, hNX⟩ := Hnext.out V P (hkX.trans hkE) hrE
        refine Out.anyR_one (i := 8) (o := { dst := some 32, op := Go.Op.call { callee := Go.Callee.builtin Go.Builtin.append, args := #[Go.Operand.tmp 25, Go.Operand.tmp 31], argTypes := #[22, 22] }, type := 22, pos := "ref.go:164", after := #[{ on := 1, ground := Go.Ground.data }, { on := 7, ground := Go.Ground.data }], guard := none }) (by kernel_rfl) rfl (by rfl) ?_
        intro K hK
        have HKK := Lib.hid hK
        clear hK
        go_simp
        have hS2 : Keeps (fun j => R + 3 ≤ j) wk W1 := hkW1
        refine HKK.out _ _ (fun _ _ => hS2) ?_
        clear HKK K
        try simp only [Act.put, List.setIfInBounds_toArray, List.set_cons_zero, List.set_cons_succ]
        refine Out.anyR_take (i := 9) (oi := { dst := some 33, op := Go.Op.fieldAddr 25 (Go.Operand.tmp 5) 2, type := 0, pos := "ref.go:164", after := #[{ on := 0, ground := Go.Ground.phase }, { on := 1, ground := Go.Ground.phase }, { on := 2, ground := Go.Ground.phase }, { on := 3, ground := Go.Ground.phase }, { on := 4, ground := Go.Ground.phase }, { on := 5, ground := Go.Ground.phase }, { on := 6, ground := Go.Ground.phase }, { on := 7, ground := Go.Ground.phase }, { on := 8, ground := Go.Ground.phase }], guard := none }) (v := .pointer (some ⟨R + 2, 2, none⟩)) rfl (by decide) (by kernel_rfl) (by kernel_rfl) (by kernel_rfl) (by kernel_rfl) (fun _ _ _ h => h) (Or.inl ⟨by rfl, by intro W' hSw; (try dsimp only at hSw); go_simp⟩) hS2 ?_
        try simp only [Act.put, List.setIfInBounds_toArray, List.set_cons_zero, List.set_cons_succ]
        refine Out.anyR_one (i := 10) (by kernel_rfl) rfl (by rfl) ?_
        intro K hK
        have HKK := Lib.hid hK
        clear hK
        have s1 : W1.cell? ⟨R + 2, 2, none⟩ = some vL := by rw [cell_row hW1]; rfl
        have fS := fun o : Nat => frozen_row (k := o) hW1
        go_simp
        refine HKK.out _ _ (fun h => absurd rfl h) ?_
        clear HKK K
        try simp only [Act.put, List.setIfInBounds_toArray, List.set_cons_zero, List.set_cons_succ]
        refine Out.anyR_done (by kernel_rfl) ?_ _
        refine HK1.out _ _ ?_
        have HNX := Lib.hid hNX
        obtain ⟨W9, hW9⟩ : ∃ W9, W1.setCell ⟨R + 2, 2, none⟩ (.slice C ((wzP k zs q).length + 1) c) = W9 := ⟨_, rfl⟩
        rw [hW9] at HNX ⊢
        clear hNX s1 fS hW1 hkW1 hrun hS2 hS1 hrE hkE hS0 hkX hW9 hX0 x2 HK1
        gi_wp2_with fail
        go_roundw
        case rel => exact ⟨q + 1, by omega, by go_num, Lib.hid (by rw [Hyes.out, Hgg.out]; exact HNX.out)⟩
        case measure => simp [intOf]; omega
    · obtain rfl : n = q := by omega
      have hw1 := HV.out
      obtain ⟨lZ, hlZ⟩ : ∃ lZ, wzP k zs n = lZ := ⟨_, rfl⟩
      rw [hlZ] at hw1
      have HlZ := Lib.hid hlZ
      have H1 := Lib.hid (show WoI (R + 2) (R + 3) sl sr w3 lZ (wkP k ks 0) wk from hw1)
      clear hw1 hlZ HV
      gi_wp2_with fail
      gi_loopw [7, 8] (fun i y wr => ∃ q : Nat, q ≤ kn ∧ i = .int .i64 (q : Int) ∧ Hid (WoI (R + 2) (R + 3) sl sr w3 lZ (wkP k ks q) wr)) (fun i y _ => kn - (intOf i).toNat)
      case atStart => exact ⟨0, Nat.zero_le _, rfl, H1⟩
      case round =>
        obtain ⟨q, hq9, rfl, HV⟩ := hrel
        obtain ⟨wj, rfl⟩ : ∃ wj, wj = wr := ⟨_, rfl⟩
        have hR0 := (HV.out.keep.block _ (lt_of_block Hr0.out) (by omega)).trans Hr0.out
        have x3 : wj.cell? ⟨R, 3, none⟩ = some (.slice A2 kn kc) := by rw [cell_row hR0]; rfl
        clear hR0
        by_cases hlt : q < kn
        · have i0 : (0 : Int) ≤ (q : Int) := by omega
          have i1 : (q : Int) < (kn : Int) := by omega
          have hrg := HI.out.keepN HV.out.keep (fun h0 a e e2 => by
            obtain ⟨b9, o9, e9, _⟩ := HI.out.2 h0
            rw [e] at e9; cases e9
            have := HA2.out b9 o9 e h0
            change b9 = R + 2 at e2; omega)
          obtain ⟨bz, oz, ez, hcz⟩ := hrg.2 (by omega)
          subst ez
          have z0 := hcz q hlt
          obtain ⟨g, hg⟩ : ∃ g, iAt ks q = g := ⟨_, rfl⟩
          rw [hg] at z0
          have Hsu := Lib.hid (wkP_succ k ks q)
          rw [hg] at Hsu
          by_cases hgt : (k : Int) < g
          · have d1 : g > (k : Int) := hgt
            rw [if_pos hgt] at Hsu
            have hw1 : IntKind.i64.wrap (g - 1) = g - 1 := IntWalk.i64_in _ (by have := Hgb.out q hlt; rw [hg] at this; omega)
            obtain ⟨vL, vK, C, c, W1, hX0, hrun, hX1, hN⟩ := HV.out.known (by omega) Hsz.out.symm (by have := wkP_len k ks q; omega) (g - 1)
            rw [wkP_len] at hrun hN
            have s0 : wj.cell? ⟨R + 2, 3, none⟩ = some vK := by rw [cell_row hX0]; rfl
            have s1 : W1.cell? ⟨R + 2, 3, none⟩ = some vK := by rw [cell_row hX1]; rfl
            have fS := fun o : Nat => frozen_row (k := o) hX1
            rw [← Hsu.out] at hN
            have HN := Lib.hid hN
            clear hN hX0 hX1 hrg hcz hg HV
            gi_wp2_with fail
            go_roundw
            case rel => exact ⟨q + 1, by omega, by go_num, HN⟩
            case measure => simp [intOf]; omega
          · have d1 : ¬ (g > (k : Int)) := hgt
            have d2 : g ≤ (k : Int) := by omega
            rw [if_neg hgt] at Hsu
            obtain ⟨vL, vK, C, c, W1, hX0, hrun, hX1, hN⟩ := HV.out.known (by omega) Hsz.out.symm (by have := wkP_len k ks q; omega) g
            rw [wkP_len] at hrun hN
            have s0 : wj.cell? ⟨R + 2, 3, none⟩ = some vK := by rw [cell_row hX0]; rfl
            have s1 : W1.cell? ⟨R + 2, 3, none⟩ = some vK := by rw [cell_row hX1]; rfl
            have fS := fun o : Nat => frozen_row (k := o) hX1
            rw [← Hsu.out] at hN
            have HN := Lib.hid hN
            clear hN hX0 hX1 hrg hcz hg HV hgt
            gi_wp2_with fail
            go_roundw
            case rel => exact ⟨q + 1, by omega, by go_num, HN⟩
            case measure => simp [intOf]; omega
        · obtain rfl : kn = q := by omega
          obtain ⟨vL, vK, h1, h2, h3, h4, h5, h6⟩ := HV.out.ex
          have hrz := (HV.out.keep.block _ (lt_of_block Hr2.out) (by omega)).trans Hr2.out
          have hkp := HV.out.keep
          obtain ⟨C, c, rfl, hc9, hrgs, hblk⟩ := rgs_own rfl h2
          rw [wkP_len] at h3
          obtain ⟨C2, c2, rfl, hc29, hints, hblk2⟩ := ints_own (wkP_len k ks kn) h3
          have s0 : wj.cell? ⟨R + 2, 0, none⟩ = some (.int .i64 sl) := by rw [cell_row h1]; rfl
          have s1 : wj.cell? ⟨R + 2, 1, none⟩ = some (.int .i64 sr) := by rw [cell_row h1]; rfl
          have s2 : wj.cell? ⟨R + 2, 2, none⟩ = some (.slice C lZ.length c) := by rw [cell_row h1]; rfl
          have s3 : wj.cell? ⟨R + 2, 3, none⟩ = some (.slice C2 kn c2) := by rw [cell_row h1]; rfl
          have t0 : wj.cell? ⟨R + 1, 0, none⟩ = some (.int .i64 0) := by rw [cell_row hrz]; rfl
          have t1 : wj.cell? ⟨R + 1, 1, none⟩ = some (.int .i64 0) := by rw [cell_row hrz]; rfl
          have t2 : wj.cell? ⟨R + 1, 2, none⟩ = some (.slice none 0 0) := by rw [cell_row hrz]; rfl
          have t3 : wj.cell? ⟨R + 1, 3, none⟩ = some (.slice none 0 0) := by rw [cell_row hrz]; rfl
          have fR := fun o : Nat => frozen_row (k := o) hrz
          have hRR := set_same 3 (.slice C2 kn c2) (set_same 2 (.slice C lZ.length c) (set_same 1 (.int .i64 sr) (set_same 0 (.int .i64 sl) hrz)))
          have hkR := (((keeps_setCell wj (R + 1) 0 (.int .i64 sl)).trans (keeps_setCell _ (R + 1) 1 (.int .i64 sr))).trans (keeps_setCell _ (R + 1) 2 (.slice C lZ.length c))).trans (keeps_setCell _ (R + 1) 3 (.slice C2 kn c2))
          have hBj : Below w.heap.size w wj := HB.out.trans (hkp.below HB.out.size (fun j hj e => by have := HR.out; omega))
          have hz9 := Hsz.out
          have HFn := Lib.hid (show (∀ a, C = some a → w.heap.size ≤ a.block) ∧ (∀ a, C2 = some a → w.heap.size ≤ a.block) from ⟨fun a e => by have := h4 a.block (by rw [e]; rfl); have := HR.out; omega, fun a e => by have := h5 a.block (by rw [e]; rfl); have := HR.out; omega⟩)
          have HF := Lib.hid (show Rgs _ C lZ.length lZ ∧ Ints _ C2 kn (wkP k ks kn) ∧ Below w.heap.size w _ from ⟨hrgs.keepN hkR (fun h0 a e (e2 : a.block = R + 1) => by have := h4 a.block (by rw [e]; rfl); omega), hints.keepN hkR (fun h0 a e (e2 : a.block = R + 1) => by have := h5 a.block (by rw [e]; rfl); omega), hBj.trans (hkR.below hBj.size (fun j hj e => by have := HR.out; omega))⟩)
          have HRR := Lib.hid hRR
          clear HV h1 h2 h3 h4 h5 h6 hrz hkp hrgs hblk hints hblk2 hRR hkR hBj
          gi_wp2_with fail
          exact bodyPost_ret (v := .agg #[.int .i64 sl, .int .i64 sr, .slice C lZ.length c, .slice C2 kn c2]) (res36 (by rfl) HRR.out) rfl ⟨C, c, C2, c2, by rw [HlZ.out], by rw [HlZ.out]; exact hc9, hc29, by rw [HlZ.out]; exact HF.out.1, HF.out.2.1, HFn.out, HF.out.2.2⟩
theorem without36 (sl sr : Int) (A : Option Addr) (n cap : Nat) (zs : List Rg) (A2 : Option Addr) (kn kc : Nat) (ks : List Int) (k : Nat) (w : World) (h : Rgs w A n zs) (hI : Ints w A2 kn ks) (hn : n ≤ 1000) (hk : kn ≤ 1000) (hgb : ∀ q, q < kn → -1000000 ≤ iAt ks q ∧ iAt ks q ≤ 1000000) :
    Calls Try.prog 36 #[.agg #[.int .i64 sl, .int .i64 sr, .slice A n cap, .slice A2 kn kc], .int .i64 (k : Int)] w fun e w' => ∃ C c C2 c2, e = .returned (.agg #[.int .i64 sl, .int .i64 sr, .slice C (wzP k zs n).length c, .slice C2 kn c2]) ∧ (wzP k zs n).length ≤ c ∧ kn ≤ c2 ∧ Rgs w' C (wzP k zs n).length (wzP k zs n) ∧ Ints w' C2 kn (wkP k ks kn) ∧ Below w.heap.size w w' :=
  (without36n sl sr A n cap zs A2 kn kc ks k w h hI hn hk hgb).mono (fun e w' ⟨C, c, C2, c2, a1, a2, a3, a4, a5, _, a6⟩ => ⟨C, c, C2, c2, a1, a2, a3, a4, a5, a6⟩)
end Go.Proofs.Ytnodkgejggnehaa
