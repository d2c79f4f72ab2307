/- Stage 4: lines read from their ends. -/
import Derived.Test.YthdjbapidodlfaaLw
namespace Go.Proofs.Ythdjbapidodlfaa
set_option linter.unusedSimpArgs false
set_option linter.unusedVariables false
open Go.RowKit Go.Shelf
attribute [local go_sem ↓] exec_app at_app
attribute [local go_sem] Oper.semAt_some

theorem Ints.keep {W W' : World} {A : Option Addr} {n : Nat} {zs : List Int} {Mut : Nat → Prop} (h : Ints W A n zs) (hK : Keeps Mut W W') (hm : ∀ b o, A = some ⟨b, o, none⟩ → ¬ Mut b) : Ints W' A n zs := by
  refine ⟨h.1, fun hn => ?_⟩
  obtain ⟨b, o, e, hc⟩ := h.2 hn
  exact ⟨b, o, e, fun j hj => (keep_cells hK (lt_of_cell (hc j hj)) (hm b o e) _).trans (hc j hj)⟩
/-- Nothing is appended. -/
theorem app_zero38 {W : World} {E c2 : Nat} {A2 : Option Addr} (hE : W.heap[E]? = some (.cells #[] 3 (0, 0))) :
    runA Try.prog 38 (.slice (some ⟨E, 0, none⟩) 0 0) (.slice A2 0 c2) W = .ok (.value (.slice (some ⟨E, 0, none⟩) 0 0)) W := by
  obtain ⟨i, hi, hz, hs, hb⟩ := info_parts info3_
  refine run_app ?_
  cases A2 <;> simp [Builtin.append_, run_underlying Try.underlying38, Builtin.lenOf, sizeOf, typeInfo, hi, hs, Builtin.firstCells, loadCells, loadCellsFrom, storeCells, Addr.add]
set_option maxRecDepth 100000 in
set_option maxHeartbeats 4000000 in
theorem clone89 (A : Option Addr) (n cap : Nat) (zs : List Int) (w : World) (h : Ints w A n zs) (hn : n ≤ 1000) :
    Calls Try.prog 89 #[.slice A n cap] w fun e w' => ∃ C cp, e = .returned (.slice C n cp) ∧ Ints w' C n zs ∧ (0 < n → ∃ g, C = some ⟨g, 0, none⟩ ∧ RowI w' g zs ∧ w.heap.size ≤ g) ∧ (∀ b o, C = some ⟨b, o, none⟩ → w.heap.size ≤ b ∧ b < w'.heap.size) ∧ n ≤ cp ∧ Below w.heap.size w w' := by
  have q72 : ∀ (w : World) (a : Option Addr) (n c n' c' : Nat), (binOp .eql 38 (.slice a n c) (.slice none n' c')).run Try.prog w = .ok (.bool a.isNone) w := fun w a n c n' c' => Lib.run_eql_slice_nil w 38 3 a n c n' c' Try.underlying38
  have hb := below_alloc_ w (.cells #[] 3)
  have hE := heap_alloc_new_ w (.cells #[] 3)
  have hlen := h.1
  cases A with
  | none =>
    have hn0 : n = 0 := by
      rcases Nat.eq_zero_or_pos n with e | e
      · exact e
      · obtain ⟨b, o, e2, _⟩ := h.2 e
        cases e2
    subst hn0
    have hz : zs = [] := List.length_eq_zero_iff.1 hlen
    have HZ := Lib.hid hz
    clear hb hE h hlen hz
    go_enter Try.func89, Try.ntmps89
    go_wp2_with fail
    go_ret
    exact ⟨none, 0, rfl, ⟨by rw [HZ.out]; rfl, fun h => by omega⟩, fun h => by omega, (fun b o e => by simp at e), Nat.le_refl _, Below.refl _ _⟩
  | some a =>
    rcases Nat.eq_zero_or_pos n with e | e
    · subst e
      have hrun := app_zero38 (A2 := some a) (c2 := cap) hE
      have HZ := Lib.hid (show zs = [] from List.length_eq_zero_iff.1 hlen)
      have HB := Lib.hid hb
      clear hb hE h hlen
      go_enter Try.func89, Try.ntmps89
      go_wp2_with fail
      try rw [hrun]
      try go_wp2_with fail
      go_ret
      exact ⟨some ⟨w.heap.size, 0, none⟩, 0, rfl, ⟨by rw [HZ.out]; rfl, fun h => by omega⟩, fun h => by omega, fun b o e => by cases e; exact ⟨Nat.le_refl _, by simp⟩, Nat.le_refl _, HB.out⟩
    · have hrow : (w.alloc (.cells #[] 3)).ownsRow 0 3 1 (.slice (some ⟨w.heap.size, 0, none⟩) 0 0) 0 (flatI []) := ⟨rfl, .inr ⟨w.heap.size, 0, _, rfl, Nat.zero_le _, hE, Nat.le_refl _, Nat.zero_le _, rfl, rfl⟩⟩
      obtain ⟨g, cp, W', hrun, hown, hK, hg⟩ := app_rows (c2 := cap) hrow (h.below hb (Nat.le_refl _)) e (by omega) (by omega)
      rw [Nat.zero_add] at hrun hown
      rw [List.nil_append] at hown
      have hF : Below w.heap.size w W' := hb.trans (hK.below hb.size (fun k hk e => by have e2 : w.heap.size = k := Option.some.inj e; omega))
      obtain ⟨C', cp', hC', hcp', hi', hCC⟩ := ints_own hlen hown
      cases hC'
      have HF := Lib.hid hF
      have HI := Lib.hid hi'
      have HR := Lib.hid (rowI_own hlen hown)
      have HG := Lib.hid (show w.heap.size ≤ g by
        rcases hg with e | ⟨e, _⟩
        · have e2 : w.heap.size = g := Option.some.inj e
          omega
        · simp at e; omega)
      have HCp := Lib.hid hcp'
      clear hb hE h hlen hrow hown hK hg hF hi' hCC hcp'
      go_enter Try.func89, Try.ntmps89
      go_wp2_with fail
      try rw [hrun]
      try go_wp2_with fail
      go_ret
      exact ⟨_, cp, rfl, HI.out, fun _ => ⟨g, rfl, HR.out, HG.out⟩, fun b o e => by cases e; exact ⟨HG.out, by obtain ⟨rest, hb⟩ := HR.out; exact lt_of_block hb⟩, HCp.out, HF.out⟩
/-- The first k and the last k are exchanged. -/
def rvK (zs : List Int) : Nat → List Int
  | 0 => zs
  | k + 1 => ((rvK zs k).set k (iAt zs (zs.length - 1 - k))).set (zs.length - 1 - k) (iAt zs k)
theorem rvK_len (zs : List Int) (k : Nat) : (rvK zs k).length = zs.length := by
  induction k with
  | zero => rfl
  | succ k ih => simp [rvK, ih]
theorem rvK_at (zs : List Int) (k : Nat) (hk : 2 * k ≤ zs.length) (i : Nat) (hi : i < zs.length) : iAt (rvK zs k) i = if i < k ∨ zs.length - k ≤ i then iAt zs (zs.length - 1 - i) else iAt zs i := by
  induction k with
  | zero => rw [if_neg (by omega)]; rfl
  | succ k ih =>
    have ih := ih (by omega)
    simp only [rvK]
    rw [iAt_set9 _ (by rw [List.length_set, rvK_len]; omega), iAt_set9 _ (by rw [rvK_len]; omega), ih]
    by_cases h1 : zs.length - 1 - k = i
    · rw [if_pos h1, if_pos (by omega)]
      congr 1
      omega
    · rw [if_neg h1]
      by_cases h2 : k = i
      · rw [if_pos h2, if_pos (by omega)]
        subst h2; rfl
      · rw [if_neg h2]
        by_cases h3 : i < k ∨ zs.length - k ≤ i
        · rw [if_pos h3, if_pos (by omega)]
        · rw [if_neg h3, if_neg (by omega)]
theorem rvK_rev (zs : List Int) (k : Nat) (hk : 2 * k ≤ zs.length) (hk2 : zs.length ≤ 2 * k + 1) : rvK zs k = zs.reverse := by
  apply ext_iAt (by rw [rvK_len, List.length_reverse])
  intro i hi
  rw [rvK_len] at hi
  rw [rvK_at zs k hk i hi, iAt_eq (zs := zs.reverse) (by rw [List.length_reverse]; exact hi), List.getElem_reverse]
  rw [← iAt_eq]
  by_cases h : i < k ∨ zs.length - k ≤ i
  · rw [if_pos h]
  · rw [if_neg h]; congr 1; omega
set_option maxRecDepth 100000 in
set_option maxHeartbeats 8000000 in
theorem reverse90 (g n cp : Nat) (zs : List Int) (w : World) (hn : zs.length = n) (h : RowI w g zs) (hn8 : n ≤ 1000) :
    Calls Try.prog 90 #[.slice (some ⟨g, 0, none⟩) n cp] w fun e w' => (∃ v, e = .returned v) ∧ RowI w' g zs.reverse ∧ Keeps (fun k => k = g) w w' := by
  have H := Lib.hid h
  have Hn := Lib.hid hn
  clear h hn
  refine (callsIn_wide (n := 3)).1 ?_
  refine callsIn_of_wp Try.func90 rfl trivial ?_ rfl
  simp only [Try.ntmps90, List.size_toArray, List.length_cons, List.length_nil, Nat.reduceAdd, Nat.reduceSub, Array.replicate_succ, Array.replicate_zero, List.push_toArray, List.append_toArray, List.nil_append, List.cons_append]
  gi_wp2_with fail
  gi_loopw [2, 3] (fun i j wr => ∃ k : Nat, 2 * k ≤ n ∧ i = .int .i64 (k : Int) ∧ j = .int .i64 ((n : Int) - 1 - (k : Int)) ∧ Hid (RowI wr g (rvK zs k) ∧ Keeps (fun k => k = g) w wr)) (fun i j _ => n - (intOf i).toNat)
  case atStart => exact ⟨0, Nat.zero_le _, rfl, by simp, Lib.hid ⟨H.out, Keeps.refl _ _⟩⟩
  case round =>
    obtain ⟨k, hk, rfl, rfl, HI⟩ := hrel
    by_cases hlt : 2 * k + 1 < n
    · obtain ⟨q, hq⟩ : ∃ q : Nat, (n : Int) - 1 - (k : Int) = (q : Int) := ⟨n - 1 - k, by omega⟩
      have hq2 : q = n - 1 - k := by omega
      rw [hq]
      have hrow := HI.out.1
      have hl := rvK_len zs k
      rw [Hn.out] at hl
      have a0 := hrow.cell (j := k) (by omega)
      have b0 := hrow.cell (j := q) (by omega)
      rw [rvK_at zs k (by rw [Hn.out]; omega) k (by rw [Hn.out]; omega), if_neg (by rw [Hn.out]; omega)] at a0
      rw [rvK_at zs k (by rw [Hn.out]; omega) q (by rw [Hn.out]; omega), if_neg (by rw [Hn.out]; omega)] at b0
      have hr1 := hrow.put (j := k) (by omega) (iAt zs q)
      have hr2 := hr1.put (j := q) (by rw [List.length_set]; omega) (iAt zs k)
      have Hnx := Lib.hid (show rvK zs (k + 1) = ((rvK zs k).set k (iAt zs q)).set q (iAt zs k) by simp only [rvK]; rw [Hn.out, hq2])
      rw [← Hnx.out] at hr2
      obtain ⟨x, hx⟩ : ∃ x, iAt zs k = x := ⟨_, rfl⟩
      obtain ⟨y, hy⟩ : ∃ y, iAt zs q = y := ⟨_, rfl⟩
      rw [hx] at a0 hr2
      have hnx := Hnx.out
      rw [hx, hy] at hnx
      replace Hnx := Lib.hid hnx
      rw [hy] at b0 hr1 hr2
      have HR1 := Lib.hid hr1
      have HR2 := Lib.hid hr2
      have f0 := hrow.fz k
      have f1 := hr1.fz q
      have c1 := hr1.cell (j := q) (by rw [List.length_set]; omega)
      have c0 := hrow.cell (j := k) (by omega)
      have HK1 := Lib.hid (HI.out.2.trans (keeps_setCell wr g k (.int .i64 y)))
      have HK2 := Lib.hid ((HI.out.2.trans (keeps_setCell wr g k (.int .i64 y))).trans (keeps_setCell (wr.setCell ⟨g, k, none⟩ (.int .i64 y)) g q (.int .i64 x)))
      have Hq := Lib.hid hq
      have Hq2 := Lib.hid hq2
      have i0 : (0 : Int) ≤ (k : Int) := by omega
      have i1 : (k : Int) < (n : Int) := by omega
      have i2 : (0 : Int) ≤ (q : Int) := by omega
      have i3 : (q : Int) < (n : Int) := by omega
      have i4 : (k : Int) < (q : Int) := by omega
      have hS0 : Below wr.heap.size wr wr.drew := drew_b _ 1
      have hgl := lt_of_cell a0
      have HR0 := Lib.hid hrow
      have HIK := Lib.hid HI.out.2
      have Hl := Lib.hid hl
      clear hnx hq2 hq hrow hl hr1 f0 f1 c1 c0 hr2 hx hy HI
      gi_wp2_with fail
      refine Out.region_R (z := 13) (S := fun V9 => Below wr.heap.size wr V9) (by kernel_rfl) ?_
      refine Out.anyR_free (i := 0) (oi := { dst := some 14, op := Go.Op.move (Go.Operand.tmp 0), type := 38, pos := "slices.go:485", after := #[], guard := none }) (v := .slice (some ⟨g, 0, none⟩) n cp) rfl (by decide) (by kernel_rfl) (by kernel_rfl) (by kernel_rfl) (fun _ _ _ h => h) (Or.inl ⟨by rfl, by intro V9 hSw; (try dsimp only at hSw); go_simp⟩) hS0 ?_
      try simp only [Act.put, List.setIfInBounds_toArray, List.set_cons_zero, List.set_cons_succ]
      refine Out.anyR_free (i := 1) (oi := { dst := some 15, op := Go.Op.move (Go.Operand.tmp 2), type := 3, pos := "slices.go:485", after := #[], guard := none }) (v := .int .i64 (k : Int)) rfl (by decide) (by kernel_rfl) (by kernel_rfl) (by kernel_rfl) (fun _ _ _ h => h) (Or.inl ⟨by rfl, by intro V9 hSw; (try dsimp only at hSw); go_simp⟩) hS0 ?_
      try simp only [Act.put, List.setIfInBounds_toArray, List.set_cons_zero, List.set_cons_succ]
      refine Out.anyR_free (i := 2) (oi := { dst := some 16, op := Go.Op.move (Go.Operand.tmp 0), type := 38, pos := "slices.go:485", after := #[{ on := 13, ground := Go.Ground.gcOnly Go.Departure.lateStores }], guard := none }) (v := .slice (some ⟨g, 0, none⟩) n cp) rfl (by decide) (by kernel_rfl) (by kernel_rfl) (by kernel_rfl) (fun _ _ _ h => h) (Or.inl ⟨by rfl, by intro V9 hSw; (try dsimp only at hSw); go_simp⟩) hS0 ?_
      try simp only [Act.put, List.setIfInBounds_toArray, List.set_cons_zero, List.set_cons_succ]
      refine Out.anyR_free (i := 3) (oi := { dst := some 17, op := Go.Op.move (Go.Operand.tmp 3), type := 3, pos := "slices.go:485", after := #[{ on := 13, ground := Go.Ground.gcOnly Go.Departure.lateStores }], guard := none }) (v := .int .i64 (q : Int)) rfl (by decide) (by kernel_rfl) (by kernel_rfl) (by kernel_rfl) (fun _ _ _ h => h) (Or.inl ⟨by rfl, by intro V9 hSw; (try dsimp only at hSw); go_simp⟩) hS0 ?_
      try simp only [Act.put, List.setIfInBounds_toArray, List.set_cons_zero, List.set_cons_succ]
      refine Out.anyR_free (i := 4) (oi := { dst := some 18, op := Go.Op.move (Go.Operand.tmp 0), type := 38, pos := "slices.go:485", after := #[], guard := none }) (v := .slice (some ⟨g, 0, none⟩) n cp) rfl (by decide) (by kernel_rfl) (by kernel_rfl) (by kernel_rfl) (fun _ _ _ h => h) (Or.inl ⟨by rfl, by intro V9 hSw; (try dsimp only at hSw); go_simp⟩) hS0 ?_
      try simp only [Act.put, List.setIfInBounds_toArray, List.set_cons_zero, List.set_cons_succ]
      refine Out.anyR_free (i := 5) (oi := { dst := some 19, op := Go.Op.move (Go.Operand.tmp 3), type := 3, pos := "slices.go:485", after := #[], guard := none }) (v := .int .i64 (q : Int)) rfl (by decide) (by kernel_rfl) (by kernel_rfl) (by kernel_rfl) (fun _ _ _ h => h) (Or.inl ⟨by rfl, by intro V9 hSw; (try dsimp only at hSw); go_simp⟩) hS0 ?_
      try simp only [Act.put, List.setIfInBounds_toArray, List.set_cons_zero, List.set_cons_succ]
      refine Out.anyR_free (i := 6) (oi := { dst := some 20, op := Go.Op.indexAddr 38 (Go.Operand.tmp 18) (Go.Operand.tmp 19), type := 0, pos := "slices.go:485", after := #[{ on := 4, ground := Go.Ground.data }, { on := 5, ground := Go.Ground.data }], guard := none }) (v := .pointer (some ⟨g, q, none⟩)) rfl (by decide) (by kernel_rfl) (by kernel_rfl) (by kernel_rfl) (fun _ _ _ h => h) (Or.inl ⟨by rfl, by intro V9 hSw; (try dsimp only at hSw); go_simp⟩) hS0 ?_
      try simp only [Act.put, List.setIfInBounds_toArray, List.set_cons_zero, List.set_cons_succ]
      refine Out.anyR_take (i := 7) (oi := { dst := some 21, op := Go.Op.load 3 (Go.Operand.tmp 20), type := 3, pos := "slices.go:485", after := #[{ on := 6, ground := Go.Ground.data }], guard := none }) (v := .int .i64 y) rfl (by decide) (by kernel_rfl) (by kernel_rfl) (by kernel_rfl) (by kernel_rfl) (fun _ _ _ h => h) (Or.inl ⟨by rfl, by intro V9 hSw; (try dsimp only at hSw); have q_b0 := (hSw.cell (lt_of_cell b0)).trans b0; go_simp⟩) hS0 ?_
      try simp only [Act.put, List.setIfInBounds_toArray, List.set_cons_zero, List.set_cons_succ]
      refine Out.anyR_free (i := 8) (oi := { dst := some 22, op := Go.Op.move (Go.Operand.tmp 0), type := 38, pos := "slices.go:485", after := #[], guard := none }) (v := .slice (some ⟨g, 0, none⟩) n cp) rfl (by decide) (by kernel_rfl) (by kernel_rfl) (by kernel_rfl) (fun _ _ _ h => h) (Or.inl ⟨by rfl, by intro V9 hSw; (try dsimp only at hSw); go_simp⟩) hS0 ?_
      try simp only [Act.put, List.setIfInBounds_toArray, List.set_cons_zero, List.set_cons_succ]
      refine Out.anyR_free (i := 9) (oi := { dst := some 23, op := Go.Op.move (Go.Operand.tmp 2), type := 3, pos := "slices.go:485", after := #[], guard := none }) (v := .int .i64 (k : Int)) rfl (by decide) (by kernel_rfl) (by kernel_rfl) (by kernel_rfl) (fun _ _ _ h => h) (Or.inl ⟨by rfl, by intro V9 hSw; (try dsimp only at hSw); go_simp⟩) hS0 ?_
      try simp only [Act.put, List.setIfInBounds_toArray, List.set_cons_zero, List.set_cons_succ]
      refine Out.anyR_free (i := 10) (oi := { dst := some 24, op := Go.Op.indexAddr 38 (Go.Operand.tmp 22) (Go.Operand.tmp 23), type := 0, pos := "slices.go:485", after := #[{ on := 8, ground := Go.Ground.data }, { on := 9, ground := Go.Ground.data }], guard := none }) (v := .pointer (some ⟨g, k, none⟩)) rfl (by decide) (by kernel_rfl) (by kernel_rfl) (by kernel_rfl) (fun _ _ _ h => h) (Or.inl ⟨by rfl, by intro V9 hSw; (try dsimp only at hSw); go_simp⟩) hS0 ?_
      try simp only [Act.put, List.setIfInBounds_toArray, List.set_cons_zero, List.set_cons_succ]
      refine Out.anyR_take (i := 11) (oi := { dst := some 25, op := Go.Op.load 3 (Go.Operand.tmp 24), type := 3, pos := "slices.go:485", after := #[{ on := 10, ground := Go.Ground.data }], guard := none }) (v := .int .i64 x) rfl (by decide) (by kernel_rfl) (by kernel_rfl) (by kernel_rfl) (by kernel_rfl) (fun _ _ _ h => h) (Or.inl ⟨by rfl, by intro V9 hSw; (try dsimp only at hSw); have q_a0 := (hSw.cell (lt_of_cell a0)).trans a0; go_simp⟩) hS0 ?_
      try simp only [Act.put, List.setIfInBounds_toArray, List.set_cons_zero, List.set_cons_succ]
      refine Out.anyR_free (i := 12) (oi := { dst := some 26, op := Go.Op.indexAddr 38 (Go.Operand.tmp 14) (Go.Operand.tmp 15), type := 0, pos := "slices.go:485", after := #[{ on := 0, ground := Go.Ground.data }, { on := 1, ground := Go.Ground.data }, { on := 0, ground := Go.Ground.phase }, { on := 1, ground := Go.Ground.phase }, { on := 2, ground := Go.Ground.textOnly Go.Departure.lateStores }, { on := 3, ground := Go.Ground.textOnly Go.Departure.lateStores }, { on := 4, ground := Go.Ground.phase }, { on := 5, ground := Go.Ground.phase }, { on := 6, ground := Go.Ground.phase }, { on := 7, ground := Go.Ground.phase }, { on := 8, ground := Go.Ground.textOnly Go.Departure.lateStores }, { on := 9, ground := Go.Ground.textOnly Go.Departure.lateStores }, { on := 10, ground := Go.Ground.textOnly Go.Departure.lateStoresUnsure }, { on := 11, ground := Go.Ground.phase }], guard := none }) (v := .pointer (some ⟨g, k, none⟩)) rfl (by decide) (by kernel_rfl) (by kernel_rfl) (by kernel_rfl) (fun _ _ _ h => h) (Or.inl ⟨by rfl, by intro V9 hSw; (try dsimp only at hSw); go_simp⟩) hS0 ?_
      try simp only [Act.put, List.setIfInBounds_toArray, List.set_cons_zero, List.set_cons_succ]
      obtain ⟨X0, hX0⟩ : ∃ X0, wr.drew = X0 := ⟨_, rfl⟩
      rw [hX0] at hS0 ⊢
      have hrow := HR0.out.keep (Keeps.of_new hS0 (Mut := fun _ => False)) (fun e => e)
      have hw0 := HIK.out.trans (Keeps.of_new hS0)
      clear hX0
      have c0 := hrow.cell (j := k) (by rw [Hl.out]; omega)
      have f0 := hrow.fz k
      have hr1 := hrow.put (j := k) (by rw [Hl.out]; omega) y
      have hk1 := keeps_setCell X0 g k (.int .i64 y)
      have HS0 := Lib.hid hS0
      clear hS0 hrow
      refine Out.anyR_one (i := 13) (o := { dst := none, op := Go.Op.store 3 (Go.Operand.tmp 26) (Go.Operand.tmp 21), type := 0, pos := "slices.go:485", after := #[{ on := 12, ground := Go.Ground.data }, { on := 7, ground := Go.Ground.data }, { on := 0, ground := Go.Ground.phase }, { on := 1, ground := Go.Ground.phase }, { on := 2, ground := Go.Ground.textOnly Go.Departure.lateStores }, { on := 3, ground := Go.Ground.textOnly Go.Departure.lateStores }, { on := 4, ground := Go.Ground.phase }, { on := 5, ground := Go.Ground.phase }, { on := 6, ground := Go.Ground.phase }, { on := 7, ground := Go.Ground.phase }, { on := 8, ground := Go.Ground.textOnly Go.Departure.lateStores }, { on := 9, ground := Go.Ground.textOnly Go.Departure.lateStores }, { on := 10, ground := Go.Ground.textOnly Go.Departure.lateStoresUnsure }, { on := 11, ground := Go.Ground.phase }], guard := none }) (by kernel_rfl) rfl (by rfl) ?_
      intro K hK
      have HKK := Lib.hid hK
      clear hK
      gi_wp2_with fail
      refine HKK.out _ _ (fun h _ => absurd rfl h) ?_
      clear HKK K c0 f0
      obtain ⟨X1, hX1⟩ : ∃ X1, X0.setCell ⟨g, k, none⟩ (.int .i64 y) = X1 := ⟨_, rfl⟩
      rw [hX1] at hr1 hk1 ⊢
      clear hX1
      try simp only [Act.put, List.setIfInBounds_toArray, List.set_cons_zero, List.set_cons_succ]
      refine Out.anyR_one (i := 14) (o := { dst := some 27, op := Go.Op.indexAddr 38 (Go.Operand.tmp 16) (Go.Operand.tmp 17), type := 0, pos := "slices.go:485", after := #[{ on := 2, ground := Go.Ground.data }, { on := 3, ground := Go.Ground.data }, { on := 0, ground := Go.Ground.phase }, { on := 1, ground := Go.Ground.phase }, { on := 2, ground := Go.Ground.phase }, { on := 3, ground := Go.Ground.phase }, { on := 4, ground := Go.Ground.phase }, { on := 5, ground := Go.Ground.phase }, { on := 6, ground := Go.Ground.phase }, { on := 7, ground := Go.Ground.phase }, { on := 8, ground := Go.Ground.phase }, { on := 9, ground := Go.Ground.phase }, { on := 10, ground := Go.Ground.phase }, { on := 11, ground := Go.Ground.phase }, { on := 12, ground := Go.Ground.phase }, { on := 13, ground := Go.Ground.phase }], guard := none }) (by kernel_rfl) rfl (by rfl) ?_
      intro K hK
      have HKK := Lib.hid hK
      clear hK
      gi_wp2_with fail
      refine HKK.out _ _ (fun _ h => absurd h (by decide)) ?_
      clear HKK K
      try simp only [Act.put, List.setIfInBounds_toArray, List.set_cons_zero, List.set_cons_succ]
      have c1 := hr1.cell (j := q) (by rw [List.length_set, Hl.out]; omega)
      have f1 := hr1.fz q
      have hr2 := hr1.put (j := q) (by rw [List.length_set, Hl.out]; omega) x
      have hk2 := keeps_setCell X1 g q (.int .i64 x)
      have Hr2 := Lib.hid hr2
      have Hk2 := Lib.hid hk2
      have Hk1 := Lib.hid hk1
      have Hw0 := Lib.hid hw0
      clear hr1 hk1 hr2 hk2 hw0
      refine Out.anyR_one (i := 15) (o := { dst := none, op := Go.Op.store 3 (Go.Operand.tmp 27) (Go.Operand.tmp 25), type := 0, pos := "slices.go:485", after := #[{ on := 14, ground := Go.Ground.data }, { on := 11, ground := Go.Ground.data }, { on := 13, ground := Go.Ground.chain }, { on := 0, ground := Go.Ground.phase }, { on := 1, ground := Go.Ground.phase }, { on := 2, ground := Go.Ground.phase }, { on := 3, ground := Go.Ground.phase }, { on := 4, ground := Go.Ground.phase }, { on := 5, ground := Go.Ground.phase }, { on := 6, ground := Go.Ground.phase }, { on := 7, ground := Go.Ground.phase }, { on := 8, ground := Go.Ground.phase }, { on := 9, ground := Go.Ground.phase }, { on := 10, ground := Go.Ground.phase }, { on := 11, ground := Go.Ground.phase }, { on := 12, ground := Go.Ground.phase }, { on := 13, ground := Go.Ground.phase }], guard := none }) (by kernel_rfl) rfl (by rfl) ?_
      intro K hK
      have HKK := Lib.hid hK
      clear hK
      gi_wp2_with fail
      refine HKK.out _ _ (fun _ h => absurd h (by decide)) ?_
      clear HKK K c1 f1
      try simp only [Act.put, List.setIfInBounds_toArray, List.set_cons_zero, List.set_cons_succ]
      refine Out.anyR_done (by kernel_rfl) ?_ _
      obtain ⟨X2, hX2⟩ : ∃ X2, X1.setCell ⟨g, q, none⟩ (.int .i64 x) = X2 := ⟨_, rfl⟩
      have hr2 := Hr2.out
      have hk2 := Hk2.out
      rw [hX2] at hr2 hk2 ⊢
      rw [← Hnx.out] at hr2
      have HN := Lib.hid (show RowI X2 g (rvK zs (k + 1)) ∧ Keeps (fun k => k = g) w X2 from ⟨hr2, (Hw0.out.trans Hk1.out).trans hk2⟩)
      have i5 : (q : Int) - 1 = (n : Int) - 1 - ((k : Int) + 1) := by have := Hq.out; omega
      clear hr2 hk2 hX2 Hr2 Hk2
      gi_wp2_with fail
      go_roundw
      case rel => exact ⟨k + 1, by omega, by go_num, by congr 1, HN⟩
      case measure => simp [intOf]; omega
    · have d0 : ¬ ((k : Int) < (n : Int) - 1 - (k : Int)) := by omega
      have HN := Lib.hid (show RowI wr g zs.reverse ∧ Keeps (fun k => k = g) w wr from ⟨by rw [← rvK_rev zs k (by rw [Hn.out]; omega) (by rw [Hn.out]; omega)]; exact HI.out.1, HI.out.2⟩)
      clear HI
      gi_wp2_with fail
      go_end0
      exact ⟨⟨_, rfl⟩, HN.out⟩
end Go.Proofs.Ythdjbapidodlfaa
